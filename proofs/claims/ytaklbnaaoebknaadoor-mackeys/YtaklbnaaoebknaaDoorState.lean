/- A state in memory; Begin and Copy. Condition: the table squareRoots holds what the text lays. -/
import Derived.Test.YtaklbnaaoebknaaDoorFill
namespace Go.Proofs.YtaklbnaaoebknaaDoor
open Go Go.RowKit
set_option linter.unusedVariables false
set_option linter.unusedSimpArgs false
set_option maxRecDepth 100000

/-- A state's cells. -/
def stL (R B : List Nat) (t : Nat) : List Value := cellsU R ++ (cellsB B ++ [.int .u64 (t : Nat)])
def stG (R B : List Nat) (t : Nat) : Array Value := (stL R B t).toArray
def stA (T : List Nat) : Array Value := stG (Sha.regsOf T) (Sha.tail T) T.length
theorem cellsU_length (L : List Nat) : (cellsU L).length = L.length := by simp [cellsU]
theorem stG_size {R B : List Nat} {t : Nat} (hR : R.length = 8) (hB : B.length = 64) : (stG R B t).size = 73 := by simp [stG, stL, cellsU_length, cellsB_length, hR, hB]
theorem stG_72 {R B : List Nat} {t : Nat} (hR : R.length = 8) (hB : B.length = 64) : (stG R B t)[72]? = some (.int .u64 (t : Nat)) := by
  unfold stG stL
  rw [List.getElem?_toArray, List.getElem?_append_right (by rw [cellsU_length]; omega), List.getElem?_append_right (by rw [cellsU_length, cellsB_length]; omega), cellsU_length, cellsB_length, hR, hB]
  rfl
theorem stG_set72 {R B : List Nat} {t t' : Nat} (hR : R.length = 8) (hB : B.length = 64) : (stG R B t).setIfInBounds 72 (.int .u64 (t' : Nat)) = stG R B t' := by
  unfold stG stL
  rw [List.setIfInBounds_toArray, List.set_append_right _ _ (by rw [cellsU_length]; omega), List.set_append_right _ _ (by rw [cellsU_length, cellsB_length]; omega), cellsU_length, cellsB_length, hR, hB]
  rfl
theorem stG_R {R B : List Nat} {t : Nat} (hR : R.length = 8) : ∀ j v, (cellsU R)[j]? = some v → (stG R B t)[0 + j]? = some v := by
  intro j v h
  have := (List.getElem?_eq_some_iff.1 h).1
  unfold stG stL
  rw [List.getElem?_toArray, Nat.zero_add, List.getElem?_append_left this]
  exact h
theorem stG_B {R B : List Nat} {t : Nat} (hR : R.length = 8) : ∀ j v, (cellsB B)[j]? = some v → (stG R B t)[8 + j]? = some v := by
  intro j v h
  have := (List.getElem?_eq_some_iff.1 h).1
  unfold stG stL
  rw [List.getElem?_toArray, List.getElem?_append_right (by rw [cellsU_length]; omega), cellsU_length, hR, Nat.add_sub_cancel_left, List.getElem?_append_left this]
  exact h
theorem stG_putB {R B D : List Nat} {t off : Nat} (hR : R.length = 8) (hB : B.length = 64) (hd : off + D.length ≤ 64) : putIn (stG R B t) (8 + off) (cellsB D) = stG R (B.take off ++ D ++ B.drop (off + D.length)) t := by
  unfold putIn stG stL
  congr 1
  rw [List.toList_toArray, List.take_append, List.take_of_length_le (by rw [cellsU_length]; omega), cellsU_length, hR, Nat.add_sub_cancel_left,
    List.take_append_of_le_length (by rw [cellsB_length]; omega), List.drop_append, List.drop_eq_nil_of_le (by rw [cellsU_length]; omega), List.nil_append, cellsU_length, cellsB_length, hR,
    show 8 + off + D.length - 8 = off + D.length by omega, List.drop_append_of_le_length (by rw [cellsB_length]; omega)]
  unfold cellsB
  simp [List.map_take, List.map_drop, List.append_assoc]
theorem stG_putR {R R' B : List Nat} {t : Nat} (hR : R.length = 8) (hR' : R'.length = 8) : putIn (stG R B t) 0 (cellsU R') = stG R' B t := by
  unfold putIn stG stL
  congr 1
  rw [List.toList_toArray, List.take_zero, List.nil_append, cellsU_length, hR', List.drop_append, List.drop_eq_nil_of_le (by rw [cellsU_length]; omega), List.nil_append, cellsU_length, hR]
  rfl
theorem stA_size (T : List Nat) : (stA T).size = 73 := stG_size (Sha.regs_len _ _) (Sha.tail_len T)
theorem stG_one (R B : List Nat) (t : Nat) : ∀ v ∈ (stG R B t).toList, v.oneCell' = true := by
  intro v hv
  simp only [stG, stL, List.toList_toArray, List.mem_append, List.mem_singleton, cellsU, cellsB, List.mem_map] at hv
  rcases hv with ⟨x, _, rfl⟩ | ⟨x, _, rfl⟩ | rfl <;> rfl

structure StateAt (w : World) (s : Nat) (T : List Nat) : Prop where
  blk : Blk w s (stA T) 59
  all : Sha.AllB T
  len : T.length ≤ 100000
theorem StateAt.ext {w w' : World} {s : Nat} {T : List Nat} (h : StateAt w s T) (he : Ext w w') : StateAt w' s T := ⟨h.blk.ext he, h.all, h.len⟩
theorem StateAt.but {S : Nat → Prop} {w w' : World} {s : Nat} {T : List Nat} (h : StateAt w s T) (hk : KeepBut S w w') (hn : ¬ S s) : StateAt w' s T := ⟨h.blk.but hk hn, h.all, h.len⟩
abbrev stP (s : Nat) : Value := .pointer (some ⟨s, 0, none⟩)
theorem row48 : RowT Tryd.prog 59 73 := ⟨⟨_, Tryd.underlying59, rfl⟩, by kernel_rfl⟩
theorem zero48 : (Tryd.prog.info? 59).bind (·.zero) = some (.agg (stG (List.replicate 8 0) (List.replicate 64 0) 0)) := by kernel_rfl
theorem built48 : (Tryd.prog.built 59 [(0, Value.agg (uA Sha.sqr))]) = some (stA []) := by kernel_rfl

theorem exec_loadS {r : Operand → Value} {o : Oper} {x : Operand} {w : World} (hT : Tabs w) (ho : o.op = .load 57 x) (hx : r x = .pointer (some ⟨0, 0, none⟩)) :
    (execOp r o).run Tryd.prog w = .ok (.value (.agg (uA Sha.sqr))) w := by
  obtain ⟨d, hu, hd⟩ := row44.d
  have := run_loadVar_mid (P := Tryd.prog) w 0 0 57 (cellsU Sha.sqr) d (fun j v hv => by
    have hj : j < 8 := by have := (List.getElem?_eq_some_iff.1 hv).1; simpa [cellsU, Sha.sqr] using this
    rw [Nat.zero_add, hT.s j hj, ← hv]
    have := uA_get Sha.sqr j hj
    unfold uA at this
    rw [List.getElem?_toArray] at this
    exact this.symm) hu hd (by rw [row44.s]; rfl)
  simp only [execOp, ho, hx, Instr.loadAt, Instr.sureAddr, Sem.run_bind, Sem.run_pure, Result.andThen_ok, this]
  rfl

theorem exec_build1 {r : Operand → Value} {o : Oper} {x : Operand} {w : World} (ho : o.op = .build 59 #[(0, x)]) (hx : r x = .agg (uA Sha.sqr)) :
    (execOp r o).run Tryd.prog w = .ok (.value (.agg (stA []))) w := by
  have := run_build (P := Tryd.prog) w 59 #[(0, Value.agg (uA Sha.sqr))] (stA []) built48
  simp only [execOp, ho, List.map_toArray, List.map_cons, List.map_nil, hx, Sem.run_bind, this, Result.andThen_ok]
  rfl
set_option maxHeartbeats 1000000 in
theorem begin_any (w : World) (hT : Tabs w) :
    Calls Tryd.prog 18 #[] w fun e w' => e = .returned (stP w.heap.size) ∧ StateAt w' w.heap.size [] ∧ Ext w w' := by
  go_enter Tryd.func18, Tryd.ntmps18
  go_wp2_with (first
    | (refine wpList_of_run rfl (exec_loadS hT rfl rfl) ?_)
    | (refine wpList_of_run rfl (exec_build1 rfl rfl) ?_)
    | (refine wl_box (C := stA []) rfl rfl rfl ?_; intro w1 hb1 he1 hx; clear hx))
  go_ret
  exact ⟨rfl, ⟨hb1, (fun x hx => by cases hx), (by simp)⟩, he1⟩

set_option maxHeartbeats 1000000 in
theorem copy_any {w : World} {s : Nat} {T : List Nat} (h : StateAt w s T) :
    Calls Tryd.prog 34 #[stP s] w fun e w' => e = .returned (stP w.heap.size) ∧ StateAt w' w.heap.size T ∧ Ext w w' := by
  go_enter Tryd.func34, Tryd.ntmps34
  go_wp2_with (first
    | (refine wl_load rfl row48 rfl rfl h.blk (stA_size T) ?_; refine wl_alloc rfl rfl zero48 ?_; intro w1 hb1 he1 hx; clear hx; refine wl_store rfl row48 rfl rfl rfl hb1 (stA_size T) rfl (stG_one _ _ _) ?_; intro w2 hb2 hk2 hx; clear hx))
  go_ret
  exact ⟨rfl, ⟨hb2, h.all, h.len⟩, he1.of_but hk2 (fun k e => by subst e; exact Nat.le_refl _)⟩
theorem copy_nil (w : World) : Calls Tryd.prog 34 #[.pointer none] w fun e w' => e = .returned (.pointer none) ∧ w' = w := by
  go_enter Tryd.func34, Tryd.ntmps34
  go_wp2
  go_ret
  exact ⟨rfl, rfl⟩
theorem add_nil (v : Value) (w : World) : Calls Tryd.prog 19 #[.pointer none, v] w fun e w' => (∃ x, e = .returned x) ∧ w' = w := by
  go_enter Tryd.func19, Tryd.ntmps19
  go_wp2
  refine bodyPost_ret (results_none rfl _ _ _) rfl ?_
  exact ⟨⟨_, rfl⟩, rfl⟩
end Go.Proofs.YtaklbnaaoebknaaDoor
