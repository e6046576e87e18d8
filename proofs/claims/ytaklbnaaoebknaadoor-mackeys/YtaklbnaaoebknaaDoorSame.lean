/- Digests compared; texts that stand in the code; lists of parts. No condition of its own. -/
import Derived.Test.YtaklbnaaoebknaaDoorSum
import Derived.Stop.BytesEq
import Derived.Lib.SlBytesConst
namespace Go.Proofs.YtaklbnaaoebknaaDoor
open Go Go.RowKit
set_option linter.unusedVariables false
set_option linter.unusedSimpArgs false
set_option maxRecDepth 100000

theorem bA_cells {D : List Nat} (h : Sha.AllB D) : bA D = ((D.map UInt8.ofNat).map Extern.Stop.cell).toArray := by
  unfold bA cellsB
  congr 1
  rw [List.map_map]
  apply List.map_congr_left
  intro x hx
  have : (UInt8.ofNat x).toNat = x := by simp [UInt8.toNat_ofNat]; have := h x hx; omega
  show _ = Extern.Stop.cell (UInt8.ofNat x)
  unfold Extern.Stop.cell
  rw [this]
  rfl
theorem size5 (w : World) : (sizeOf 5).run Tryd.prog w = .ok 1 w := by
  obtain ⟨i, hi, _, hs, _⟩ := byteT.ex
  simp [sizeOf, typeInfo, hi, hs]
theorem run_same {D : List Nat} (hl : D.length = 32) (h : Sha.AllB D) (w : World) : (Op.equal 25 (.agg (bA D)) (.agg (bA D))).run Tryd.prog w = .ok true w := by
  rw [bA_cells h]
  have := run_equalIn_bytes (P := Tryd.prog) w 9998 25 5 32 Tryd.underlying25 Tryd.underlying5 size5 (D.map UInt8.ofNat) (D.map UInt8.ofNat) (by simpa using hl) (by simpa using hl)
  rw [beq_self_eq_true] at this
  exact this
theorem guard25 : Tryd.prog.eqGuardType Tryd.prog.depth 25 = false := by kernel_rfl
theorem exec_eqlA {r : Operand → Value} {o : Oper} {x y : Operand} {tt : TypeId} {D : List Nat} (w : World) (ho : o.op = .binOp .eql 25 x y tt) (hx : r x = .agg (bA D)) (hy : r y = .agg (bA D)) (hl : D.length = 32) (h : Sha.AllB D) :
    (execOp r o).run Tryd.prog w = .ok (.value (.bool true)) w := by
  have := run_same hl h w
  simp [execOp, ho, hx, hy, eqGuard, guard25, binOp, this]
theorem exec_neqA {r : Operand → Value} {o : Oper} {x y : Operand} {tt : TypeId} {D : List Nat} (w : World) (ho : o.op = .binOp .neq 25 x y tt) (hx : r x = .agg (bA D)) (hy : r y = .agg (bA D)) (hl : D.length = 32) (h : Sha.AllB D) :
    (execOp r o).run Tryd.prog w = .ok (.value (.bool false)) w := by
  have := run_same hl h w
  simp [execOp, ho, hx, hy, eqGuard, guard25, binOp, this]
theorem dgst_len (T : List Nat) : (Sha.dgst T).length = 32 := dig_res (Sha.regs_len _ _)
theorem dgst_all (T : List Nat) : Sha.AllB (Sha.dgst T) := Sha.dig_all _
/-- A text that stands in the law, as bytes. -/
theorem wl_conv {w : World} {ops : Array Oper} {rest : List Oper} {o : Oper} {a : Act} {Q : Exit → Act → World → Prop} (l : List Nat) (hgd : o.guard = none) {x : Operand} {C : Array Value} {m n c : Nat} (ho : o.op = .convert 22 22 x) (hx : a.eval x = .slice (some ⟨m, 0, none⟩) n c) (hm : m = w.heap.size) (hC : C = (cellsB l).toArray) (hn : n = l.length) (hc : c = l.length) (hl : Sha.AllB l) (h1000 : l.length ≤ 1000)
    (h : ∀ w', BytesAt w' (.slice (some ⟨m, 0, none⟩) n c) l → Ext w w' → w'.heap.size = w.heap.size + 1 → wpList Tryd.prog ops Q rest (a.put o.dst (.slice (some ⟨m, 0, none⟩) n c)) w') : wpList Tryd.prog ops Q (o :: rest) a (w.alloc (.cells C 5)) := by
  subst hm hC hn hc
  refine wpList_of_run hgd (v := .slice (some ⟨w.heap.size, 0, none⟩) l.length l.length) (w' := w.alloc (.cells (cellsB l).toArray 5 ((cellsB l).toArray.size, (cellsB l).toArray.size + 1))) ?_ (h _ ?_ (Ext.alloc _ _) (by simp))
  · have := Lib.run_convert_bytes_const (P := Tryd.prog) w 22 5 (cellsB l).toArray l.length l.length Tryd.underlying22 Tryd.underlying5
    simp only [execOp, ho, hx, Sem.run_bind, this, Result.andThen_ok]
    rfl
  · refine ⟨hl, by unfold maxLen; omega, .inr ⟨⟨w.heap.size, 0, none⟩, l.length, rfl, Nat.le_refl _, by unfold maxLen; omega, fun j hj => ?_⟩⟩
    rw [add_plain, Nat.zero_add, cellNew _ _ _ _ _ _ rfl]
    have := bA_get l j hj
    exact this

theorem run_eqlA {D : List Nat} (hl : D.length = 32) (h : Sha.AllB D) (w : World) : (binOp .eql 25 (.agg (bA D)) (.agg (bA D))).run Tryd.prog w = .ok (.bool true) w := by
  have := run_same hl h w
  simp [binOp, this]
theorem run_guardA {D : List Nat} (op : BinOp) (x y : Operand) (w : World) : (eqGuard op 25 x y (.agg (bA D)) (.agg (bA D))).run Tryd.prog w = .ok () w := by
  cases op <;> simp [eqGuard, guard25]
theorem BytesAt.off {w : World} {v : Value} {l : List Nat} (h : BytesAt w v l) {s : Nat} (hs : w.heap.size ≤ s) (hne : l ≠ []) (g : Nat) (hg : blockOf v = some g) : g ≠ s := by have := h.lt hne hg; omega
theorem PartsOf.empty (w : World) : PartsOf w (.slice none 0 0) [] := ⟨by simp, _, 0, rfl, fun i hi => by simp at hi⟩
theorem PartsOf.two (w : World) (n : Nat) (hn : n = w.heap.size) {u v : Value} {l m : List Nat} (h1 : BytesAt w u l) (h2 : BytesAt w v m) : PartsOf (w.alloc (.cells #[u, v] 22)) (.slice (some ⟨n, 0, none⟩) 2 2) [l, m] :=
  PartsOf.made w [u, v] [l, m] 22 n 2 hn rfl (by simp) fun i hi => by
    have : i = 0 ∨ i = 1 := by simp at hi; omega
    rcases this with rfl | rfl
    · exact h1
    · exact h2
theorem PartsOf.one (w : World) (n : Nat) (hn : n = w.heap.size) {u : Value} {l : List Nat} (h1 : BytesAt w u l) : PartsOf (w.alloc (.cells #[u] 22)) (.slice (some ⟨n, 0, none⟩) 1 1) [l] :=
  PartsOf.made w [u] [l] 22 n 1 hn rfl (by simp) fun i hi => by
    obtain rfl : i = 0 := by simp at hi; omega
    exact h1
end Go.Proofs.YtaklbnaaoebknaaDoor
