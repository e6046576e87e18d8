/- Digests compared; the law's fixed fact: the digest of abc. Condition: the tables hold what the text lays. -/
import Derived.Test.YtebnaffkgeiomaaDoorSum
import Derived.Stop.BytesEq
import Derived.Lib.SlBytesConst
namespace Go.Proofs.YtebnaffkgeiomaaDoor
open Go Go.RowKit
set_option linter.unusedVariables false
set_option linter.unusedSimpArgs false
set_option maxRecDepth 100000

theorem bA_cells {D : List Nat} (h : Sha.AllB D) : bA D = ((D.map UInt8.ofNat).map Extern.Stop.cell).toArray := by
  unfold bA cellsB
  congr 1
  rw [List.map_map]
  apply List.map_congr_left
  intro x hx
  have : (UInt8.ofNat x).toNat = x := by simp [UInt8.toNat_ofNat]; have := h x hx; omega
  show _ = Extern.Stop.cell (UInt8.ofNat x)
  unfold Extern.Stop.cell
  rw [this]
  rfl
theorem size5 (w : World) : (sizeOf 5).run Tryd.prog w = .ok 1 w := by
  obtain ⟨i, hi, _, hs, _⟩ := byteT.ex
  simp [sizeOf, typeInfo, hi, hs]
theorem run_same {D : List Nat} (hl : D.length = 32) (h : Sha.AllB D) (w : World) : (Op.equal 25 (.agg (bA D)) (.agg (bA D))).run Tryd.prog w = .ok true w := by
  rw [bA_cells h]
  have := run_equalIn_bytes (P := Tryd.prog) w 9998 25 5 32 Tryd.underlying25 Tryd.underlying5 size5 (D.map UInt8.ofNat) (D.map UInt8.ofNat) (by simpa using hl) (by simpa using hl)
  rw [beq_self_eq_true] at this
  exact this
theorem guard25 : Tryd.prog.eqGuardType Tryd.prog.depth 25 = false := by kernel_rfl
theorem exec_eqlA {r : Operand → Value} {o : Oper} {x y : Operand} {tt : TypeId} {D : List Nat} (w : World) (ho : o.op = .binOp .eql 25 x y tt) (hx : r x = .agg (bA D)) (hy : r y = .agg (bA D)) (hl : D.length = 32) (h : Sha.AllB D) :
    (execOp r o).run Tryd.prog w = .ok (.value (.bool true)) w := by
  have := run_same hl h w
  simp [execOp, ho, hx, hy, eqGuard, guard25, binOp, this]
theorem exec_neqA {r : Operand → Value} {o : Oper} {x y : Operand} {tt : TypeId} {D : List Nat} (w : World) (ho : o.op = .binOp .neq 25 x y tt) (hx : r x = .agg (bA D)) (hy : r y = .agg (bA D)) (hl : D.length = 32) (h : Sha.AllB D) :
    (execOp r o).run Tryd.prog w = .ok (.value (.bool false)) w := by
  have := run_same hl h w
  simp [execOp, ho, hx, hy, eqGuard, guard25, binOp, this]
theorem dgst_len (T : List Nat) : (Sha.dgst T).length = 32 := dig_res (Sha.regs_len _ _)
theorem dgst_all (T : List Nat) : Sha.AllB (Sha.dgst T) := Sha.dig_all _
theorem abc : (Sha.dgst [97, 98, 99]).take 4 = [186, 120, 22, 191] := by decide +kernel
theorem abc_get (k : Nat) (hk : k < 4) : (Sha.dgst [97, 98, 99]).getD k 0 = [186, 120, 22, 191].getD k 0 := by
  rw [← abc, List.getD_eq_getElem?_getD, List.getD_eq_getElem?_getD, List.getElem?_take, if_pos hk]
/-- A text that stands in the law, as bytes. -/
theorem wl_conv {w : World} {ops : Array Oper} {rest : List Oper} {o : Oper} {a : Act} {Q : Exit → Act → World → Prop} (l : List Nat) (hgd : o.guard = none) {x : Operand} {C : Array Value} {m n c : Nat} (ho : o.op = .convert 22 22 x) (hx : a.eval x = .slice (some ⟨m, 0, none⟩) n c) (hm : m = w.heap.size) (hC : C = (cellsB l).toArray) (hn : n = l.length) (hc : c = l.length) (hl : Sha.AllB l) (h1000 : l.length ≤ 1000)
    (h : ∀ w', BytesAt w' (.slice (some ⟨m, 0, none⟩) n c) l → Ext w w' → w'.heap.size = w.heap.size + 1 → wpList Tryd.prog ops Q rest (a.put o.dst (.slice (some ⟨m, 0, none⟩) n c)) w') : wpList Tryd.prog ops Q (o :: rest) a (w.alloc (.cells C 5)) := by
  subst hm hC hn hc
  refine wpList_of_run hgd (v := .slice (some ⟨w.heap.size, 0, none⟩) l.length l.length) (w' := w.alloc (.cells (cellsB l).toArray 5 ((cellsB l).toArray.size, (cellsB l).toArray.size + 1))) ?_ (h _ ?_ (Ext.alloc _ _) (by simp))
  · have := Lib.run_convert_bytes_const (P := Tryd.prog) w 22 5 (cellsB l).toArray l.length l.length Tryd.underlying22 Tryd.underlying5
    simp only [execOp, ho, hx, Sem.run_bind, this, Result.andThen_ok]
    rfl
  · refine ⟨hl, by unfold maxLen; omega, .inr ⟨⟨w.heap.size, 0, none⟩, l.length, rfl, Nat.le_refl _, by unfold maxLen; omega, fun j hj => ?_⟩⟩
    rw [add_plain, Nat.zero_add, cellNew _ _ _ _ _ _ rfl]
    have := bA_get l j hj
    exact this

set_option maxHeartbeats 2000000 in
theorem alive_any (w : World) (hT : Tabs w) : Calls Tryd.prog 6 #[] w fun e w' => e = .returned (.bool true) ∧ Ext w w' := by
  have g0 := abc_get 0 (by decide)
  have g1 := abc_get 1 (by decide)
  have g2 := abc_get 2 (by decide)
  have g3 := abc_get 3 (by decide)
  have hl := dgst_len [97, 98, 99]
  have q0 := bA_get (Sha.dgst [97, 98, 99]) 0 (by omega)
  have q1 := bA_get (Sha.dgst [97, 98, 99]) 1 (by omega)
  have q2 := bA_get (Sha.dgst [97, 98, 99]) 2 (by omega)
  have q3 := bA_get (Sha.dgst [97, 98, 99]) 3 (by omega)
  rw [g0] at q0
  rw [g1] at q1
  rw [g2] at q2
  rw [g3] at q3
  simp only [List.getD_cons_zero, List.getD_cons_succ] at q0 q1 q2 q3
  have HL : Hid ((Sha.dgst [97, 98, 99]).length = 32) := hl
  obtain ⟨D, hD⟩ : ∃ D, D = Sha.dgst [97, 98, 99] := ⟨_, rfl⟩
  have HD : Hid (D = Sha.dgst [97, 98, 99]) := hD
  rw [← hD] at HL q0 q1 q2 q3
  clear g0 g1 g2 g3 hl hD
  have HT : Hid (Tabs w) := hT
  clear hT
  go_enter Tryd.func6, Tryd.ntmps6
  go_wp2_with (first
    | (refine wl_conv [97] rfl rfl rfl (by simp) rfl rfl rfl (by intro x hx; simp at hx; omega) (by simp) ?_; intro w1 hv1 he1 hx; clear hx)
    | (refine wl_conv [98, 99] rfl rfl rfl (by simp) rfl rfl rfl (by intro x hx; simp at hx; omega) (by simp) ?_; intro w2 hv2 he2 hx; clear hx)
    | (go_at_call 7; refine (sum_any (ls := [[97], [98, 99]]) (HT.out.ext ((he1.trans he2).trans (Ext.alloc _ _))) (PartsOf.made w2 [.slice (some ⟨w.heap.size, 0, none⟩) 1 1, .slice (some ⟨w1.heap.size, 0, none⟩) 2 2] [[97], [98, 99]] 22 _ 2 rfl rfl (by simp) (by
        intro i hi
        have : i = 0 ∨ i = 1 := by simp at hi; omega
        rcases this with rfl | rfl
        · exact hv1.ext he2
        · exact hv2)) (by simp)).mono ?_; rintro e w4 ⟨rfl, he4⟩; rw [show [[97], [98, 99]].flatten = [97, 98, 99] by rfl, ← HD.out])
    | (refine wl_alloc rfl rfl zero25 ?_; intro w5 hb5 he5 hx; clear hx; refine wl_store (D := bA D) rfl row25 rfl rfl rfl hb5 (by rw [bA_size, HL.out]) rfl (bA_one _) ?_; intro w6 hb6 hk6 hx; clear hx; have c0 := (hb6.cell 0).trans q0; have c1 := (hb6.cell 1).trans q1; have c2 := (hb6.cell 2).trans q2; have c3 := (hb6.cell 3).trans q3))
  go_ret
  exact ⟨rfl, ((((he1.trans he2).trans (Ext.alloc _ _)).trans he4).trans he5).of_but hk6 (fun k e => by subst e; have := ((he1.trans he2).trans (Ext.alloc w2 (Obj.cells #[Value.slice (some ⟨w.heap.size, 0, none⟩) 1 1, Value.slice (some ⟨w1.heap.size, 0, none⟩) 2 2] 22))).size; have := he4.size; simp at *; omega)⟩
theorem run_eqlA {D : List Nat} (hl : D.length = 32) (h : Sha.AllB D) (w : World) : (binOp .eql 25 (.agg (bA D)) (.agg (bA D))).run Tryd.prog w = .ok (.bool true) w := by
  have := run_same hl h w
  simp [binOp, this]
theorem run_guardA {D : List Nat} (op : BinOp) (x y : Operand) (w : World) : (eqGuard op 25 x y (.agg (bA D)) (.agg (bA D))).run Tryd.prog w = .ok () w := by
  cases op <;> simp [eqGuard, guard25]
theorem BytesAt.off {w : World} {v : Value} {l : List Nat} (h : BytesAt w v l) {s : Nat} (hs : w.heap.size ≤ s) (hne : l ≠ []) (g : Nat) (hg : blockOf v = some g) : g ≠ s := by have := h.lt hne hg; omega
theorem PartsOf.empty (w : World) : PartsOf w (.slice none 0 0) [] := ⟨by simp, _, 0, rfl, fun i hi => by simp at hi⟩
theorem PartsOf.two (w : World) (n : Nat) (hn : n = w.heap.size) {u v : Value} {l m : List Nat} (h1 : BytesAt w u l) (h2 : BytesAt w v m) : PartsOf (w.alloc (.cells #[u, v] 22)) (.slice (some ⟨n, 0, none⟩) 2 2) [l, m] :=
  PartsOf.made w [u, v] [l, m] 22 n 2 hn rfl (by simp) fun i hi => by
    have : i = 0 ∨ i = 1 := by simp at hi; omega
    rcases this with rfl | rfl
    · exact h1
    · exact h2
theorem PartsOf.one (w : World) (n : Nat) (hn : n = w.heap.size) {u : Value} {l : List Nat} (h1 : BytesAt w u l) : PartsOf (w.alloc (.cells #[u] 22)) (.slice (some ⟨n, 0, none⟩) 1 1) [l] :=
  PartsOf.made w [u] [l] 22 n 1 hn rfl (by simp) fun i hi => by
    obtain rfl : i = 0 := by simp at hi; omega
    exact h1
end Go.Proofs.YtebnaffkgeiomaaDoor
