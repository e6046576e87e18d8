/- The registers behind one more block: what this function answers. Condition: the table cubeRoots holds what the text lays. -/
import Derived.Test.YtaklbnaaoebknaaDoorIter
namespace Go.Proofs.YtaklbnaaoebknaaDoor
open Go Go.RowKit Go.Shelf
set_option linter.unusedVariables false
set_option linter.unusedSimpArgs false
set_option maxRecDepth 100000
attribute [local go_sem] Oper.semAt_some

namespace Sha
def run (R B : List Nat) (xs : List (Fin 64)) : List Nat := xs.foldl (fun L x => chg x.1 L (mw B x.1)) R
theorem run_app (R B : List Nat) (xs : List (Fin 64)) (x : Fin 64) : run R B (xs ++ [x]) = chg x.1 (run R B xs) (mw B x.1) := by simp [run]
theorem run_fins (R B : List Nat) : ∀ k, k ≤ 64 → run R B (fins 64 k) = cp R B k
  | 0, _ => rfl
  | k + 1, h => by rw [fins_succ (by omega), run_app, run_fins R B k (by omega)]; rfl
theorem run_all (R B : List Nat) : run R B (List.finRange 64) = cp R B 64 := by rw [← fins_all, run_fins R B 64 (by decide)]
theorem run_len (B : List Nat) : ∀ (xs : List (Fin 64)) (R : List Nat), (run R B xs).length = R.length
  | [], _ => rfl
  | x :: xs, R => (run_len B xs (chg x.1 R (mw B x.1))).trans (chg_len _ _ _)
theorem run_allU (B : List Nat) : ∀ (xs : List (Fin 64)) {R : List Nat}, AllU R → AllU (run R B xs)
  | [], _, h => h
  | x :: xs, R, h => run_allU B xs (R := chg x.1 R (mw B x.1)) (chg_all h)
/-- The registers, the first of which are added to. -/
def part8 (R S : List Nat) (k : Nat) : List Nat := (add8 R S).take k ++ R.drop k
theorem part8_0 (R S : List Nat) : part8 R S 0 = R := by simp [part8]
theorem part8_8 {R S : List Nat} (hR : R.length = 8) (hS : S.length = 8) : part8 R S 8 = add8 R S := by
  unfold part8
  rw [List.take_of_length_le (by simp [add8]; omega), List.drop_eq_nil_of_le (by omega), List.append_nil]
theorem part8_get {R S : List Nat} {k : Nat} (hR : R.length = 8) (hS : S.length = 8) (hk : k < 8) : (part8 R S k).getD k 0 = R.getD k 0 := by
  unfold part8
  rw [List.getD_eq_getElem?_getD, List.getElem?_append_right (by simp; omega)]
  have : ((add8 R S).take k).length = k := by simp [add8]; omega
  rw [this, Nat.sub_self, List.getElem?_drop, ← List.getD_eq_getElem?_getD]
  rfl
theorem part8_len {R S : List Nat} {k : Nat} (hR : R.length = 8) (hS : S.length = 8) (hk : k ≤ 8) : (part8 R S k).length = 8 := by simp [part8, add8]; omega
theorem part8_succ {R S : List Nat} {k : Nat} (hR : R.length = 8) (hS : S.length = 8) (hk : k < 8) : (part8 R S k).set k ((R.getD k 0 + S.getD k 0) % 4294967296) = part8 R S (k + 1) := by
  have hl : ((add8 R S).take k).length = k := by simp [add8]; omega
  have hlen : (add8 R S).length = 8 := by simp [add8]; omega
  have hg : (add8 R S)[k]'(by omega) = (R.getD k 0 + S.getD k 0) % 4294967296 := by
    simp [add8, List.getD_eq_getElem?_getD, hR, hS, hk]
  unfold part8
  rw [List.set_append_right _ _ (by omega), hl, Nat.sub_self, List.take_succ_eq_append_getElem (by omega), hg, List.append_assoc]
  congr 1
  rw [List.drop_eq_getElem_cons (by omega)]
  rfl
end Sha

theorem run_cells (R B : List Nat) (xs : List (Fin 64)) (hR : R.length = 8) : (uA (Sha.run R B xs)).size = 8 := by rw [uA_size, Sha.run_len B, hR]

set_option maxHeartbeats 4000000 in
theorem worked_in (R B : List Nat) (w : World) (hT : Tabs w) (hR : R.length = 8) (hRU : Sha.AllU R) (hl : B.length = 64) (hB : Sha.AllB B) :
    CallsIn Fence.wide 10 Tryd.prog 29 #[.agg (uA R), .agg (bA B)] w fun e w' => e = .returned (.agg (uA (Sha.work R B))) ∧ Ext w w' := by
  have hro : Fence.wide.round = none := rfl
  have hF : ∀ k, Fence.wide.fn k := fun _ => trivial
  have hn1 : (1 : Nat) ≤ 10 := by decide
  refine callsIn_of_wp_marks Tryd.func29 rfl (hF 16) ?_ hro
  simp only [Tryd.ntmps29, List.size_toArray, List.length_cons, List.length_nil, Nat.reduceAdd, Nat.reduceSub, Array.replicate_succ, Array.replicate_zero, List.push_toArray, List.append_toArray, List.nil_append, List.cons_append]
  gi_wp2_with (first
    | (refine wlIn_box (t := 57) rfl rfl rfl ?_; intro w1 hb1 he1)
    | (refine wlIn_box (t := 42) rfl rfl rfl ?_; intro w2 hb2 he2)
    | (refine wlIn_load rfl row44 rfl rfl ((hb1.ext he2).ext he3) (by rw [uA_size, hR]) ?_; refine wlIn_alloc rfl rfl zero44 ?_; intro w4 hb4 he4; refine wlIn_store rfl row44 rfl rfl rfl hb4 (by rw [uA_size, hR]) rfl (uA_one _) ?_; intro w5 hb5 hk5 hx; clear hx)
    | (refine wlIn_alloc rfl rfl zero44 ?_; intro w3 hb3 he3)
    | (refine wlIn_load rfl row45 rfl rfl (((hb2.ext he3).ext he4).but hk5 (Nat.ne_of_lt (hb2.ext he3).lt)) (by rw [bA_size, hl]) ?_)
    | (gi_at_call 37; refine (callsIn_wide.2 (words_call _ _)).mono ?_; rintro e w6 ⟨rfl, hw6⟩))
  have hb6 : Blk w6 w5.heap.size (bA B) 42 := by rw [hw6]; exact Blk.new _ _ _
  have he6 : Ext w5 w6 := by rw [hw6]; exact Ext.alloc _ _
  rw [← hw6]
  clear hw6
  have n1 : w.heap.size < w1.heap.size := hb1.lt
  have n2 : w1.heap.size < w2.heap.size := hb2.lt
  have n3 : w2.heap.size < w3.heap.size := hb3.lt
  have n5 : w3.heap.size < w5.heap.size := hb5.lt
  have n6 : w5.heap.size < w6.heap.size := hb6.lt
  have H2 : Blk w6 w.heap.size (uA R) 57 := ((((hb1.ext he2).ext he3).ext he4).but hk5 (show ¬ _ = _ by omega)).ext he6
  have H4 : Blk w6 w2.heap.size (uA (List.replicate 8 0)) 57 := ((hb3.ext he4).but hk5 (show ¬ _ = _ by omega)).ext he6
  have H5 : Blk w6 w3.heap.size (uA R) 57 := hb5.ext he6
  have HE : Ext w w6 := ((((he1.trans he2).trans he3).trans he4).of_but hk5 (fun k e => by subst e; omega)).trans he6
  clear hb1 hb2 hb3 hb4 hb5 he1 he2 he3 he4 hk5 he6
  have HN : Hid (w.heap.size < w1.heap.size ∧ w1.heap.size < w2.heap.size ∧ w2.heap.size < w3.heap.size ∧ w3.heap.size < w5.heap.size ∧ w5.heap.size < w6.heap.size) := ⟨n1, n2, n3, n5, n6⟩
  clear n1 n2 n3 n5 n6
  generalize ha0 : Act.mk _ _ = a0
  refine wpIn_range_free (by decide) (gf := 40) (lb := #[.pointer (some ⟨w5.heap.size, 0, none⟩)]) (by rw [← ha0]; rfl) (enters_of Tryd.func40 (by kernel_rfl) rfl) (words_seq B w5.heap.size w6 hl hB hb6) (fun h k => h.t k) (fun W l o hl => fun k hk => World.putObj_heap_other (by subst hk; have := hb6.lt; omega)) (fun _ => rfl)
    (fun pre X => Ext w X ∧ Blk X w3.heap.size (uA (Sha.run R B pre)) 57 ∧ Blk X w.heap.size (uA R) 57 ∧ Blk X w2.heap.size (uA (List.replicate 8 0)) 57 ∧ w6.heap.size ≤ X.heap.size)
    (fun c pre X => False)
    (fun s A C hs hb => by
      have := HN.out
      exact ⟨Below.trans hs.1 (hb.mono (by omega)), (hb.block _ (by omega)).trans hs.2.1, (hb.block _ (by omega)).trans hs.2.2.1, (hb.block _ (by omega)).trans hs.2.2.2.1, Nat.le_trans hs.2.2.2.2 hb.size⟩)
    (fun c s A C hs hb => hs)
    ⟨HE, H5, H2, H4, Nat.le_refl _⟩
    (fun x => { tmps := (((a0.tmps.setIfInBounds 13 (.int .i64 (x.1 : Int))).setIfInBounds 14 (.int .u32 (Sha.mw B x.1 : Nat))).setIfInBounds 6 (.int .i64 (x.1 : Int))).setIfInBounds 7 (.int .u32 (Sha.mw B x.1 : Nat)), defers := [] }) ?assign ?body ?done ?stop
  case assign =>
    intro y x X K hK
    subst ha0
    rw [fold2]
    simp only [List.setIfInBounds_toArray, List.set_cons_succ, List.set_cons_zero] at hK ⊢
    gi_wp2
    exact hK
  case body =>
    rintro y pre x X ⟨hEX, h5X, h2X, h4X, hsX⟩ hN
    subst ha0
    simp only [List.setIfInBounds_toArray, List.set_cons_succ, List.set_cons_zero]
    have hn3 : (1 : Nat) ≤ 10 - 1 := by decide
    have hn4 : (1 : Nat) ≤ 10 - 1 - 1 := by decide
    gi_wp2_with (first
      | (refine wlIn_load rfl row44 rfl rfl h5X (run_cells R B pre hR) ?_)
      | (gi_at_call 38; refine (CallsIn.inRound y (callsIn_wide.2 (changedAt_any x.1 _ _ X (hT.ext hEX) x.2 (by rw [Sha.run_len B, hR]) (Sha.run_allU B pre hRU) (Sha.mw_lt hB _)))).mono ?_; rintro e X2 ⟨rfl, hX2⟩)
      | (refine wlIn_store rfl row44 rfl rfl rfl (h5X.ext hX2) (by rw [uA_size, Sha.chg_len, Sha.run_len B, hR]) (run_cells R B pre hR) (uA_one _) ?_; intro X3 hb3 hk3 hx; clear hx))
    have := HN.out
    refine ⟨⟨Nat.le_trans hX2.size hk3.size, fun k h1 h2 => (hk3.block k (Nat.lt_of_lt_of_le h2 hX2.size) (show ¬ _ = _ by omega)).trans (hX2.block k h2)⟩, fun k hk => ?_, ?_⟩
    · subst hk
      have h6 : w5.heap.size < X.heap.size := by omega
      exact (hk3.block _ (Nat.lt_of_lt_of_le h6 hX2.size) (show ¬ _ = _ by omega)).trans (hX2.block _ h6)
    · exact ⟨(hEX.trans hX2).of_but hk3 (fun k e => by subst e; omega), by rw [Sha.run_app]; exact hb3, (h2X.ext hX2).but hk3 (show ¬ _ = _ by omega), (h4X.ext hX2).but hk3 (show ¬ _ = _ by omega), Nat.le_trans hsX (Nat.le_trans hX2.size hk3.size)⟩
  case stop =>
    intro D c pre X hD hSp hI hK
    exact hI.elim
  case done =>
    rintro D ys X hD hS ⟨hEX, h5X, h2X, h4X, hsX⟩ hK
    subst hS
    rw [Sha.run_all] at h5X
    subst ha0
    have hS8 : (Sha.cp R B 64).length = 8 := by rw [Sha.cp_len, hR]
    have hSU := Sha.cp_all (B := B) hRU 64
    have HW : Hid (Sha.work R B = Sha.add8 R (Sha.cp R B 64)) := rfl
    generalize Sha.cp R B 64 = S at *
    gi_wp2_with (first
      | (refine wlIn_load rfl row44 rfl rfl h5X (by rw [uA_size, hS8]) ?_))
    gi_loopw [20] (fun i wr => ∃ k : Nat, k ≤ 8 ∧ i = .int .i64 (k : Int) ∧ Ext w wr ∧ Blk wr w.heap.size (uA (Sha.part8 R S k)) 57 ∧ Blk wr w2.heap.size (uA (List.replicate 8 0)) 57 ∧ wr.heap[D]? = some (.deferred (some []))) (fun i wr => 8 - (intOf i).toNat)
    case atStart => exact ⟨0, by omega, rfl, hEX, by rw [Sha.part8_0]; exact h2X, h4X, hK⟩
    case round =>
      obtain ⟨k, hk, rfl, hEr, h2r, h4r, hDr⟩ := hrel
      by_cases hlt : k < 8
      · have hd : decide ((k : Int) < 8) = true := decide_eq_true (by omega)
        have hg := Sha.part8_get hR hS8 hlt
        have hc := (h2r.cell k).trans (uA_get _ k (by rw [Sha.part8_len hR hS8 hk]; exact hlt))
        rw [hg] at hc
        have h1 := hRU.get k
        have h2 := hSU.get k
        have hsc := uA_get S k (by omega)
        have HP : Hid ((Sha.part8 R S k).set k ((R.getD k 0 + S.getD k 0) % 4294967296) = Sha.part8 R S (k + 1)) := Sha.part8_succ hR hS8 hlt
        generalize R.getD k 0 = rk at *
        generalize S.getD k 0 = sk at *
        obtain ⟨y, hy⟩ : ∃ y, y = (rk + sk) % 4294967296 := ⟨_, rfl⟩
        have hz : ((rk : Int) + (sk : Int)) % 4294967296 = (y : Int) := by omega
        rw [← hy] at HP
        clear hg hy
        gi_wp2_with (first
          | (refine wlIn_run rfl (exec_index _ rfl Tryd.underlying57 ⟨_, Tryd.underlying28, rfl⟩ (by kernel_rfl) rfl rfl hlt hsc) (by intro c h; cases h) (by intro f h; simp [Oper.about] at h) ?_)
          | (refine wlIn_set (v := .int .u32 (y : Nat)) rfl one36 rfl rfl (by first | rfl | go_simp | simp [go_sem, hz]) rfl rfl h2r (by rw [uA_size, Sha.part8_len hR hS8 hk]; exact hlt) ?_; intro w7 hb7 hk7 hx; clear hx; rw [uA_set, HP.out] at hb7))
        have := HN.out
        exact ⟨⟨k + 1, by omega, by simp, hEr.of_but hk7 (fun j e => by subst e; exact Nat.le_refl _), hb7, h4r.but hk7 (show ¬ _ = _ by omega), (hk7.block D (Array.getElem?_eq_some_iff.1 hDr).1 (show ¬ _ = _ by omega)).trans hDr⟩, by simp [intOf]; omega⟩
      · have hd : decide ((k : Int) < 8) = false := decide_eq_false (by omega)
        obtain rfl : k = 8 := by omega
        rw [Sha.part8_8 hR hS8, ← HW.out] at h2r
        gi_wp2_with (first
          | (refine wlIn_load rfl row44 rfl rfl h2r (by rw [uA_size, Sha.work_len, hR]) ?_)
          | (refine wlIn_store rfl row44 rfl rfl rfl h4r (by rw [uA_size, Sha.work_len, hR]) rfl (uA_one _) ?_; intro w8 hb8 hk8 hx; clear hx))
        have := HN.out
        have hD8 := (hk8.block D (Array.getElem?_eq_some_iff.1 hDr).1 (show ¬ _ = _ by omega)).trans hDr
        refine ⟨by simp [Act.put], .inl ⟨_, _, rfl, run_takeDeferred hD8, ?_⟩⟩
        refine ⟨_, results_cell_row (fn := Tryd.f29) (p := 4) (by rfl) _ _ w2.heap.size 57 (uA (Sha.work R B)) (0, 0) _ rfl ((World.putObj_heap_other (by omega)).trans hb8) Tryd.underlying57 rfl (by rw [uA_size, Sha.work_len, hR]; kernel_rfl), rfl, ?_⟩
        exact Below.trans (hEr.of_but hk8 (fun j e => by subst e; omega)) (Below.putObj _ _ (by omega))

theorem workedIn_any (R B : List Nat) (w : World) (hT : Tabs w) (hR : R.length = 8) (hRU : Sha.AllU R) (hl : B.length = 64) (hB : Sha.AllB B) :
    Calls Tryd.prog 29 #[.agg (uA R), .agg (bA B)] w fun e w' => e = .returned (.agg (uA (Sha.work R B))) ∧ Ext w w' := callsIn_wide.1 (worked_in R B w hT hR hRU hl hB)
end Go.Proofs.YtaklbnaaoebknaaDoor
