/- Texts of the seat, one behind the other. No condition of its own. -/
import Derived.Test.YtdjijipbfiofmaaTa1
import Derived.BigQuiet
import Derived.Deep.LoopGhost
import Derived.Deep.QuietTactic
import Derived.Laws.ResultCell
import Derived.Test.YtdjijipbfiofmaaProg
set_option linter.unusedVariables false
set_option linter.unusedSimpArgs false
/- Estimates as cells; which are good. No condition of its own. -/
namespace Go.Proofs.Ytdjijipbfiofmaa
namespace Rto
open Go Go.RowKit
set_option maxRecDepth 100000
theorem one3 : OneT Try.prog 3 := ⟨⟨_, Try.underlying3, rfl⟩, by kernel_rfl⟩
theorem one4 : OneT Try.prog 4 := ⟨⟨_, Try.underlying4, rfl⟩, by kernel_rfl⟩
/-- What an estimate holds. -/
structure E where
 sm : Int
 sp : Int
 wt : Int
 me : Bool
def EV (e : E) : Array Value := #[.int .i64 e.sm, .int .i64 e.sp, .int .i64 e.wt, .bool e.me]
theorem ev0 {w : World} {g T : Nat} {e : E} (h : Blk w g (EV e) T) : w.cell? ⟨g, 0, none⟩ = some (.int .i64 e.sm) := h.cell 0
theorem ev1 {w : World} {g T : Nat} {e : E} (h : Blk w g (EV e) T) : w.cell? ⟨g, 1, none⟩ = some (.int .i64 e.sp) := h.cell 1
theorem ev2 {w : World} {g T : Nat} {e : E} (h : Blk w g (EV e) T) : w.cell? ⟨g, 2, none⟩ = some (.int .i64 e.wt) := h.cell 2
theorem ev3 {w : World} {g T : Nat} {e : E} (h : Blk w g (EV e) T) : w.cell? ⟨g, 3, none⟩ = some (.bool e.me) := h.cell 3
theorem EV.size (e : E) : (EV e).size = 4 := rfl
theorem EV.one (e : E) : ∀ v ∈ (EV e).toList, v.oneCell' = true := by
 intro v hv
 simp [EV] at hv
 rcases hv with rfl | rfl | rfl | rfl <;> rfl
theorem rowE : RowT Try.prog 25 4 := ⟨⟨_, Try.underlying25, rfl⟩, by kernel_rfl⟩
theorem rowR : RowT Try.prog 23 4 := ⟨⟨_, Try.underlying23, rfl⟩, by kernel_rfl⟩
/-- Which are good. -/
def goodB (e : E) : Bool := decide (10 ≤ e.wt) && decide (e.wt ≤ 600) && decide (0 ≤ e.sm) && decide (e.sm ≤ 524280) && decide (0 ≤ e.sp) && decide (e.sp ≤ 262140) && (e.me || (decide (e.sm = 0) && decide (e.sp = 0)))
theorem goodB_iff (e : E) : goodB e = true ↔ (10 ≤ e.wt ∧ e.wt ≤ 600 ∧ 0 ≤ e.sm ∧ e.sm ≤ 524280 ∧ 0 ≤ e.sp ∧ e.sp ≤ 262140 ∧ (e.me = true ∨ (e.sm = 0 ∧ e.sp = 0))) := by
 simp [goodB, and_assoc]
theorem goodB_no {e : E} (h : e.wt < 10 ∨ e.wt > 600 ∨ (e.me = false ∧ (e.sm ≠ 0 ∨ e.sp ≠ 0))) : goodB e = false := by
 rw [Bool.eq_false_iff, Ne, goodB_iff]
 rintro ⟨h1, h2, -, -, -, -, h3⟩
 rcases h with h | h | ⟨h, h'⟩
 ·
  omega
 ·
  omega
 ·
  rcases h3 with h3 | h3
  ·
   rw [h] at h3; cases h3
  ·
   omega
set_option maxHeartbeats 4000000 in
theorem good_any (e : E) (w : World) : Calls Try.prog 11 #[.agg (EV e)] w fun x w' => x = .returned (.bool (goodB e)) ∧ Ext w w' := by
 obtain ⟨m, hme⟩ : ∃ m, e.me = m := ⟨_, rfl⟩
 by_cases h1 : e.wt < 10
 ·
  have d1 : decide (e.wt < 10) = true := decide_eq_true h1
  rw [goodB_no (.inl h1)]
  go_enter Try.func11, Try.ntmps11
  go_wp2_with (first
   | (refine wl_box (C := EV e) rfl rfl rfl ?_; intro w1 hb1 he1 hx; clear hx; have x0 := ev0 hb1; have x1 := ev1 hb1; have x2 := ev2 hb1; have x3 := ev3 hb1; rw [hme] at x3))
  go_ret
  exact ⟨rfl, he1⟩
 have d1 : decide (e.wt < 10) = false := decide_eq_false h1
 by_cases h2 : e.wt > 600
 ·
  have d2 : decide (e.wt > 600) = true := decide_eq_true h2
  rw [goodB_no (.inr (.inl h2))]
  go_enter Try.func11, Try.ntmps11
  go_wp2_with (first
   | (refine wl_box (C := EV e) rfl rfl rfl ?_; intro w1 hb1 he1 hx; clear hx; have x0 := ev0 hb1; have x1 := ev1 hb1; have x2 := ev2 hb1; have x3 := ev3 hb1; rw [hme] at x3))
  go_ret
  exact ⟨rfl, he1⟩
 have d2 : decide (e.wt > 600) = false := decide_eq_false h2
 cases m with
 | true =>
  have HG : Hid (goodB e = ((((decide ((e.sm : Int) ≥ (0 : Int))) && ((decide ((e.sm : Int) ≤ (524280 : Int))))) && ((decide ((e.sp : Int) ≥ (0 : Int))))) && ((decide ((e.sp : Int) ≤ (262140 : Int)))))) := show _ = _ by rw [Bool.eq_iff_iff, goodB_iff]; simp [hme]; omega
  rw [HG.out]
  go_enter Try.func11, Try.ntmps11
  go_wp2_with (first
   | (refine stop_at 19 rfl ?_)
   | (refine wl_box (C := EV e) rfl rfl rfl ?_; intro w1 hb1 he1 hx; clear hx; have x0 := ev0 hb1; have x1 := ev1 hb1; have x2 := ev2 hb1; have x3 := ev3 hb1; rw [hme] at x3))
  refine ⟨?_⟩
  refine wpList_line 0 (fun t => bif Nat.ble 22 t && Nat.ble t 39 then some (t - 22) else bif Nat.beq t 2 then some 18 else none) 40 Ext
   [Is (.pointer (some ⟨w.heap.size, 0, none⟩)),
    Is (.int .i64 e.sm),
    Is (.bool (decide ((e.sm : Int) ≥ (0 : Int)))),
    Is (.bool (decide ((e.sm : Int) ≥ (0 : Int)))),
    Under (((decide ((e.sm : Int) ≥ (0 : Int))))) (.pointer (some ⟨w.heap.size, 0, none⟩)),
    Under (((decide ((e.sm : Int) ≥ (0 : Int))))) (.int .i64 e.sm),
    Under (((decide ((e.sm : Int) ≥ (0 : Int))))) (.bool (decide ((e.sm : Int) ≤ (524280 : Int)))),
    Is (.bool ((decide ((e.sm : Int) ≥ (0 : Int))) && ((decide ((e.sm : Int) ≤ (524280 : Int)))))),
    Is (.bool ((decide ((e.sm : Int) ≥ (0 : Int))) && ((decide ((e.sm : Int) ≤ (524280 : Int)))))),
    Under ((((decide ((e.sm : Int) ≥ (0 : Int))) && ((decide ((e.sm : Int) ≤ (524280 : Int))))))) (.pointer (some ⟨w.heap.size, 1, none⟩)),
    Under ((((decide ((e.sm : Int) ≥ (0 : Int))) && ((decide ((e.sm : Int) ≤ (524280 : Int))))))) (.int .i64 e.sp),
    Under ((((decide ((e.sm : Int) ≥ (0 : Int))) && ((decide ((e.sm : Int) ≤ (524280 : Int))))))) (.bool (decide ((e.sp : Int) ≥ (0 : Int)))),
    Is (.bool (((decide ((e.sm : Int) ≥ (0 : Int))) && ((decide ((e.sm : Int) ≤ (524280 : Int))))) && ((decide ((e.sp : Int) ≥ (0 : Int)))))),
    Is (.bool (((decide ((e.sm : Int) ≥ (0 : Int))) && ((decide ((e.sm : Int) ≤ (524280 : Int))))) && ((decide ((e.sp : Int) ≥ (0 : Int)))))),
    Under (((((decide ((e.sm : Int) ≥ (0 : Int))) && ((decide ((e.sm : Int) ≤ (524280 : Int))))) && ((decide ((e.sp : Int) ≥ (0 : Int))))))) (.pointer (some ⟨w.heap.size, 1, none⟩)),
    Under (((((decide ((e.sm : Int) ≥ (0 : Int))) && ((decide ((e.sm : Int) ≤ (524280 : Int))))) && ((decide ((e.sp : Int) ≥ (0 : Int))))))) (.int .i64 e.sp),
    Under (((((decide ((e.sm : Int) ≥ (0 : Int))) && ((decide ((e.sm : Int) ≤ (524280 : Int))))) && ((decide ((e.sp : Int) ≥ (0 : Int))))))) (.bool (decide ((e.sp : Int) ≤ (262140 : Int)))),
    Is (.bool ((((decide ((e.sm : Int) ≥ (0 : Int))) && ((decide ((e.sm : Int) ≤ (524280 : Int))))) && ((decide ((e.sp : Int) ≥ (0 : Int))))) && ((decide ((e.sp : Int) ≤ (262140 : Int)))))),
    Is (.bool ((((decide ((e.sm : Int) ≥ (0 : Int))) && ((decide ((e.sm : Int) ≤ (524280 : Int))))) && ((decide ((e.sp : Int) ≥ (0 : Int))))) && ((decide ((e.sp : Int) ≤ (262140 : Int))))))]
   rfl (by kernel_rfl) rfl Ext.refl (fun _ _ _ => Ext.trans) (Ks (Ks (Ks (Ks (Ku (Ku (Ku (Ks (Ks (Ku (Ku (Ku (Ks (Ks (Ku (Ku (Ku (Ks (Ks (KeepAll.nil)))))))))))))))))))) ?_ ?_ ?_
  ·
   intro i o hi ho
   exact absurd hi (by omega)
  ·
   refine goodFrom 0 ?_
   refine Gc (ln1 (gd0 rfl) rfl (ouI rfl) (fun _ _ h _ => h) (fun r wx hR h1 => by simp [execOp, h1, go_sem])) ?_
   refine Gc (ln1 (gd0 rfl) rfl (ouI rfl) (fun _ _ h _ => h) (fun r wx hR h1 => exg one3 rfl h1 (ev0 (hb1.ext hR)))) ?_
   refine Gc (ln2 (gd0 rfl) rfl (ouI rfl) (fun _ _ h _ => h) (fun _ _ h _ => h) (fun r wx hR h1 h2 => by simp [execOp, h1, h2, go_sem])) ?_
   refine Gc (ln1 (gd0 rfl) rfl (ouI rfl) (fun _ _ h _ => h) (fun r wx hR h1 => exec_mv (.inl rfl) h1)) ?_
   refine Gc (ln1 (gdU rfl (fun _ _ h => h) (want_t _)) rfl (ouU rfl) (fun _ _ h _ => h) (fun r wx hR h1 => by simp [execOp, h1, go_sem])) ?_
   refine Gc (ln1 (gdU rfl (fun _ _ h => h) (want_t _)) rfl (ouU rfl) (fun _ _ h c => Eq.trans h (if_pos c)) (fun r wx hR h1 => exg one3 rfl h1 (ev0 (hb1.ext hR)))) ?_
   refine Gc (ln2 (gdU rfl (fun _ _ h => h) (want_t _)) rfl (ouU rfl) (fun _ _ h c => Eq.trans h (if_pos c)) (fun _ _ h _ => h) (fun r wx hR h1 h2 => by simp [execOp, h1, h2, go_sem])) ?_
   refine Gc (lnA (gd0 rfl) rfl (ouI rfl) (fun _ _ h _ => h) (fun _ _ h c hb => Eq.trans h (if_pos (by first | exact hb | (rw [hb]; rfl) | (rw [c, hb]; rfl))))) ?_
   refine Gc (ln1 (gd0 rfl) rfl (ouI rfl) (fun _ _ h _ => h) (fun r wx hR h1 => exec_mv (.inl rfl) h1)) ?_
   refine Gc (ln1 (gdU rfl (fun _ _ h => h) (want_t _)) rfl (ouU rfl) (fun _ _ h _ => h) (fun r wx hR h1 => by simp [execOp, h1, go_sem])) ?_
   refine Gc (ln1 (gdU rfl (fun _ _ h => h) (want_t _)) rfl (ouU rfl) (fun _ _ h c => Eq.trans h (if_pos c)) (fun r wx hR h1 => exg one3 rfl h1 (ev1 (hb1.ext hR)))) ?_
   refine Gc (ln2 (gdU rfl (fun _ _ h => h) (want_t _)) rfl (ouU rfl) (fun _ _ h c => Eq.trans h (if_pos c)) (fun _ _ h _ => h) (fun r wx hR h1 h2 => by simp [execOp, h1, h2, go_sem])) ?_
   refine Gc (lnA (gd0 rfl) rfl (ouI rfl) (fun _ _ h _ => h) (fun _ _ h c hb => Eq.trans h (if_pos (by first | exact hb | (rw [hb]; rfl) | (rw [c, hb]; rfl))))) ?_
   refine Gc (ln1 (gd0 rfl) rfl (ouI rfl) (fun _ _ h _ => h) (fun r wx hR h1 => exec_mv (.inl rfl) h1)) ?_
   refine Gc (ln1 (gdU rfl (fun _ _ h => h) (want_t _)) rfl (ouU rfl) (fun _ _ h _ => h) (fun r wx hR h1 => by simp [execOp, h1, go_sem])) ?_
   refine Gc (ln1 (gdU rfl (fun _ _ h => h) (want_t _)) rfl (ouU rfl) (fun _ _ h c => Eq.trans h (if_pos c)) (fun r wx hR h1 => exg one3 rfl h1 (ev1 (hb1.ext hR)))) ?_
   refine Gc (ln2 (gdU rfl (fun _ _ h => h) (want_t _)) rfl (ouU rfl) (fun _ _ h c => Eq.trans h (if_pos c)) (fun _ _ h _ => h) (fun r wx hR h1 h2 => by simp [execOp, h1, h2, go_sem])) ?_
   refine Gc (lnA (gd0 rfl) rfl (ouI rfl) (fun _ _ h _ => h) (fun _ _ h c hb => Eq.trans h (if_pos (by first | exact hb | (rw [hb]; rfl) | (rw [c, hb]; rfl))))) ?_
   refine Gc (ln1 (gd0 rfl) rfl (ouI rfl) (fun _ _ h _ => h) (fun r wx hR h1 => exec_mv (.inr rfl) h1)) ?_
   exact GoodAll.nil
  ·
   intro vs wE aE hR hold haE
   have hv : vs 18 = .bool ((((decide ((e.sm : Int) ≥ (0 : Int))) && ((decide ((e.sm : Int) ≤ (524280 : Int))))) && ((decide ((e.sp : Int) ≥ (0 : Int))))) && ((decide ((e.sp : Int) ≤ (262140 : Int))))) := hold.at 18
   refine ‹∀ (a : Act) (w : World), Code.wp Try.prog Code.ret _ a w → _› _ _ ?_
   refine wp_ret ?_
   have hs : aE.tmps[2]? = some (.bool ((((decide ((e.sm : Int) ≥ (0 : Int))) && ((decide ((e.sm : Int) ≤ (524280 : Int))))) && ((decide ((e.sp : Int) ≥ (0 : Int))))) && ((decide ((e.sp : Int) ≤ (262140 : Int)))))) := by rw [haE, ← hv]; kernel_rfl
   have hdf : aE.defers = [] := by rw [haE]; exact putAll_defers _ _ _ _
   clear haE
   try unfold Exit.then
   try unfold Exit.inBlock
   try dsimp only
   refine bodyPost_ret (v := .bool ((((decide ((e.sm : Int) ≥ (0 : Int))) && ((decide ((e.sm : Int) ≤ (524280 : Int))))) && ((decide ((e.sp : Int) ≥ (0 : Int))))) && ((decide ((e.sp : Int) ≤ (262140 : Int)))))) ?_ hdf ⟨rfl, he1.trans hR⟩
   simp [results, Try.results11, go_sem, hs]
 | false =>
  have HG : Hid (goodB e = (((e.sm : Int) == (0 : Int)) && (((e.sp : Int) == (0 : Int))))) := show _ = _ by rw [Bool.eq_iff_iff, goodB_iff]; simp [hme]; omega
  rw [HG.out]
  go_enter Try.func11, Try.ntmps11
  go_wp2_with (first
   | (refine stop_at 9 rfl ?_)
   | (refine wl_box (C := EV e) rfl rfl rfl ?_; intro w1 hb1 he1 hx; clear hx; have x0 := ev0 hb1; have x1 := ev1 hb1; have x2 := ev2 hb1; have x3 := ev3 hb1; rw [hme] at x3))
  refine ⟨?_⟩
  refine wpList_line 0 (fun t => bif Nat.ble 14 t && Nat.ble t 21 then some (t - 14) else bif Nat.beq t 2 then some 8 else none) 40 Ext
   [Is (.pointer (some ⟨w.heap.size, 0, none⟩)),
    Is (.int .i64 e.sm),
    Is (.bool ((e.sm : Int) == (0 : Int))),
    Is (.bool ((e.sm : Int) == (0 : Int))),
    Under ((((e.sm : Int) == (0 : Int)))) (.pointer (some ⟨w.heap.size, 1, none⟩)),
    Under ((((e.sm : Int) == (0 : Int)))) (.int .i64 e.sp),
    Under ((((e.sm : Int) == (0 : Int)))) (.bool ((e.sp : Int) == (0 : Int))),
    Is (.bool (((e.sm : Int) == (0 : Int)) && (((e.sp : Int) == (0 : Int))))),
    Is (.bool (((e.sm : Int) == (0 : Int)) && (((e.sp : Int) == (0 : Int)))))]
   rfl (by kernel_rfl) rfl Ext.refl (fun _ _ _ => Ext.trans) (Ks (Ks (Ks (Ks (Ku (Ku (Ku (Ks (Ks (KeepAll.nil)))))))))) ?_ ?_ ?_
  ·
   intro i o hi ho
   exact absurd hi (by omega)
  ·
   refine goodFrom 0 ?_
   refine Gc (ln1 (gd0 rfl) rfl (ouI rfl) (fun _ _ h _ => h) (fun r wx hR h1 => by simp [execOp, h1, go_sem])) ?_
   refine Gc (ln1 (gd0 rfl) rfl (ouI rfl) (fun _ _ h _ => h) (fun r wx hR h1 => exg one3 rfl h1 (ev0 (hb1.ext hR)))) ?_
   refine Gc (ln2 (gd0 rfl) rfl (ouI rfl) (fun _ _ h _ => h) (fun _ _ h _ => h) (fun r wx hR h1 h2 => by simp [execOp, h1, h2, go_sem])) ?_
   refine Gc (ln1 (gd0 rfl) rfl (ouI rfl) (fun _ _ h _ => h) (fun r wx hR h1 => exec_mv (.inl rfl) h1)) ?_
   refine Gc (ln1 (gdU rfl (fun _ _ h => h) (want_t _)) rfl (ouU rfl) (fun _ _ h _ => h) (fun r wx hR h1 => by simp [execOp, h1, go_sem])) ?_
   refine Gc (ln1 (gdU rfl (fun _ _ h => h) (want_t _)) rfl (ouU rfl) (fun _ _ h c => Eq.trans h (if_pos c)) (fun r wx hR h1 => exg one3 rfl h1 (ev1 (hb1.ext hR)))) ?_
   refine Gc (ln2 (gdU rfl (fun _ _ h => h) (want_t _)) rfl (ouU rfl) (fun _ _ h c => Eq.trans h (if_pos c)) (fun _ _ h _ => h) (fun r wx hR h1 h2 => by simp [execOp, h1, h2, go_sem])) ?_
   refine Gc (lnA (gd0 rfl) rfl (ouI rfl) (fun _ _ h _ => h) (fun _ _ h c hb => Eq.trans h (if_pos (by first | exact hb | (rw [hb]; rfl) | (rw [c, hb]; rfl))))) ?_
   refine Gc (ln1 (gd0 rfl) rfl (ouI rfl) (fun _ _ h _ => h) (fun r wx hR h1 => exec_mv (.inr rfl) h1)) ?_
   exact GoodAll.nil
  ·
   intro vs wE aE hR hold haE
   have hv : vs 8 = .bool (((e.sm : Int) == (0 : Int)) && (((e.sp : Int) == (0 : Int)))) := hold.at 8
   refine ‹∀ (a : Act) (w : World), Code.wp Try.prog Code.ret _ a w → _› _ _ ?_
   refine wp_ret ?_
   have hs : aE.tmps[2]? = some (.bool (((e.sm : Int) == (0 : Int)) && (((e.sp : Int) == (0 : Int))))) := by rw [haE, ← hv]; kernel_rfl
   have hdf : aE.defers = [] := by rw [haE]; exact putAll_defers _ _ _ _
   clear haE
   try unfold Exit.then
   try unfold Exit.inBlock
   try dsimp only
   refine bodyPost_ret (v := .bool (((e.sm : Int) == (0 : Int)) && (((e.sp : Int) == (0 : Int))))) ?_ hdf ⟨rfl, he1.trans hR⟩
   simp [results, Try.results11, go_sem, hs]
set_option maxHeartbeats 4000000 in
theorem refGood_any (e : E) (w : World) : Calls Try.prog 12 #[.agg (EV e)] w fun x w' => x = .returned (.bool (goodB e)) ∧ Ext w w' := by
 obtain ⟨m, hme⟩ : ∃ m, e.me = m := ⟨_, rfl⟩
 have key : ∀ (c1 c2 : Bool), (e.sm != 0) = c1 → (e.sp != 0) = c2 → (m || (!c1 && !c2)) = true → goodB e = ((((((decide ((e.wt : Int) ≥ (10 : Int))) && ((decide ((e.wt : Int) ≤ (600 : Int))))) && ((decide ((e.sm : Int) ≥ (0 : Int))))) && ((decide ((e.sm : Int) ≤ (524280 : Int))))) && ((decide ((e.sp : Int) ≥ (0 : Int))))) && ((decide ((e.sp : Int) ≤ (262140 : Int))))) → Calls Try.prog 12 #[.agg (EV e)] w fun x w' => x = .returned (.bool (goodB e)) ∧ Ext w w' := by
  intro c1 c2 d1 d2 hm HG
  have HG : Hid (goodB e = ((((((decide ((e.wt : Int) ≥ (10 : Int))) && ((decide ((e.wt : Int) ≤ (600 : Int))))) && ((decide ((e.sm : Int) ≥ (0 : Int))))) && ((decide ((e.sm : Int) ≤ (524280 : Int))))) && ((decide ((e.sp : Int) ≥ (0 : Int))))) && ((decide ((e.sp : Int) ≤ (262140 : Int)))))) := HG
  rw [HG.out]
  cases m with
  | true =>
   clear d1 d2 hm
   go_enter Try.func12, Try.ntmps12
   go_wp2_with (first
    | (refine stop_at 29 rfl ?_)
    | (refine wl_box (C := EV e) rfl rfl rfl ?_; intro w1 hb1 he1 hx; clear hx; have x0 := ev0 hb1; have x1 := ev1 hb1; have x2 := ev2 hb1; have x3 := ev3 hb1; rw [hme] at x3))
   refine ⟨?_⟩
   refine wpList_line 0 (fun t => bif Nat.ble 16 t && Nat.ble t 43 then some (t - 16) else bif Nat.beq t 2 then some 28 else none) 44 Ext
    [Is (.pointer (some ⟨w.heap.size, 2, none⟩)),
     Is (.int .i64 e.wt),
     Is (.bool (decide ((e.wt : Int) ≥ (10 : Int)))),
     Is (.bool (decide ((e.wt : Int) ≥ (10 : Int)))),
     Under (((decide ((e.wt : Int) ≥ (10 : Int))))) (.pointer (some ⟨w.heap.size, 2, none⟩)),
     Under (((decide ((e.wt : Int) ≥ (10 : Int))))) (.int .i64 e.wt),
     Under (((decide ((e.wt : Int) ≥ (10 : Int))))) (.bool (decide ((e.wt : Int) ≤ (600 : Int)))),
     Is (.bool ((decide ((e.wt : Int) ≥ (10 : Int))) && ((decide ((e.wt : Int) ≤ (600 : Int)))))),
     Is (.bool ((decide ((e.wt : Int) ≥ (10 : Int))) && ((decide ((e.wt : Int) ≤ (600 : Int)))))),
     Under ((((decide ((e.wt : Int) ≥ (10 : Int))) && ((decide ((e.wt : Int) ≤ (600 : Int))))))) (.pointer (some ⟨w.heap.size, 0, none⟩)),
     Under ((((decide ((e.wt : Int) ≥ (10 : Int))) && ((decide ((e.wt : Int) ≤ (600 : Int))))))) (.int .i64 e.sm),
     Under ((((decide ((e.wt : Int) ≥ (10 : Int))) && ((decide ((e.wt : Int) ≤ (600 : Int))))))) (.bool (decide ((e.sm : Int) ≥ (0 : Int)))),
     Is (.bool (((decide ((e.wt : Int) ≥ (10 : Int))) && ((decide ((e.wt : Int) ≤ (600 : Int))))) && ((decide ((e.sm : Int) ≥ (0 : Int)))))),
     Is (.bool (((decide ((e.wt : Int) ≥ (10 : Int))) && ((decide ((e.wt : Int) ≤ (600 : Int))))) && ((decide ((e.sm : Int) ≥ (0 : Int)))))),
     Under (((((decide ((e.wt : Int) ≥ (10 : Int))) && ((decide ((e.wt : Int) ≤ (600 : Int))))) && ((decide ((e.sm : Int) ≥ (0 : Int))))))) (.pointer (some ⟨w.heap.size, 0, none⟩)),
     Under (((((decide ((e.wt : Int) ≥ (10 : Int))) && ((decide ((e.wt : Int) ≤ (600 : Int))))) && ((decide ((e.sm : Int) ≥ (0 : Int))))))) (.int .i64 e.sm),
     Under (((((decide ((e.wt : Int) ≥ (10 : Int))) && ((decide ((e.wt : Int) ≤ (600 : Int))))) && ((decide ((e.sm : Int) ≥ (0 : Int))))))) (.bool (decide ((e.sm : Int) ≤ (524280 : Int)))),
     Is (.bool ((((decide ((e.wt : Int) ≥ (10 : Int))) && ((decide ((e.wt : Int) ≤ (600 : Int))))) && ((decide ((e.sm : Int) ≥ (0 : Int))))) && ((decide ((e.sm : Int) ≤ (524280 : Int)))))),
     Is (.bool ((((decide ((e.wt : Int) ≥ (10 : Int))) && ((decide ((e.wt : Int) ≤ (600 : Int))))) && ((decide ((e.sm : Int) ≥ (0 : Int))))) && ((decide ((e.sm : Int) ≤ (524280 : Int)))))),
     Under ((((((decide ((e.wt : Int) ≥ (10 : Int))) && ((decide ((e.wt : Int) ≤ (600 : Int))))) && ((decide ((e.sm : Int) ≥ (0 : Int))))) && ((decide ((e.sm : Int) ≤ (524280 : Int))))))) (.pointer (some ⟨w.heap.size, 1, none⟩)),
     Under ((((((decide ((e.wt : Int) ≥ (10 : Int))) && ((decide ((e.wt : Int) ≤ (600 : Int))))) && ((decide ((e.sm : Int) ≥ (0 : Int))))) && ((decide ((e.sm : Int) ≤ (524280 : Int))))))) (.int .i64 e.sp),
     Under ((((((decide ((e.wt : Int) ≥ (10 : Int))) && ((decide ((e.wt : Int) ≤ (600 : Int))))) && ((decide ((e.sm : Int) ≥ (0 : Int))))) && ((decide ((e.sm : Int) ≤ (524280 : Int))))))) (.bool (decide ((e.sp : Int) ≥ (0 : Int)))),
     Is (.bool (((((decide ((e.wt : Int) ≥ (10 : Int))) && ((decide ((e.wt : Int) ≤ (600 : Int))))) && ((decide ((e.sm : Int) ≥ (0 : Int))))) && ((decide ((e.sm : Int) ≤ (524280 : Int))))) && ((decide ((e.sp : Int) ≥ (0 : Int)))))),
     Is (.bool (((((decide ((e.wt : Int) ≥ (10 : Int))) && ((decide ((e.wt : Int) ≤ (600 : Int))))) && ((decide ((e.sm : Int) ≥ (0 : Int))))) && ((decide ((e.sm : Int) ≤ (524280 : Int))))) && ((decide ((e.sp : Int) ≥ (0 : Int)))))),
     Under (((((((decide ((e.wt : Int) ≥ (10 : Int))) && ((decide ((e.wt : Int) ≤ (600 : Int))))) && ((decide ((e.sm : Int) ≥ (0 : Int))))) && ((decide ((e.sm : Int) ≤ (524280 : Int))))) && ((decide ((e.sp : Int) ≥ (0 : Int))))))) (.pointer (some ⟨w.heap.size, 1, none⟩)),
     Under (((((((decide ((e.wt : Int) ≥ (10 : Int))) && ((decide ((e.wt : Int) ≤ (600 : Int))))) && ((decide ((e.sm : Int) ≥ (0 : Int))))) && ((decide ((e.sm : Int) ≤ (524280 : Int))))) && ((decide ((e.sp : Int) ≥ (0 : Int))))))) (.int .i64 e.sp),
     Under (((((((decide ((e.wt : Int) ≥ (10 : Int))) && ((decide ((e.wt : Int) ≤ (600 : Int))))) && ((decide ((e.sm : Int) ≥ (0 : Int))))) && ((decide ((e.sm : Int) ≤ (524280 : Int))))) && ((decide ((e.sp : Int) ≥ (0 : Int))))))) (.bool (decide ((e.sp : Int) ≤ (262140 : Int)))),
     Is (.bool ((((((decide ((e.wt : Int) ≥ (10 : Int))) && ((decide ((e.wt : Int) ≤ (600 : Int))))) && ((decide ((e.sm : Int) ≥ (0 : Int))))) && ((decide ((e.sm : Int) ≤ (524280 : Int))))) && ((decide ((e.sp : Int) ≥ (0 : Int))))) && ((decide ((e.sp : Int) ≤ (262140 : Int)))))),
     Is (.bool ((((((decide ((e.wt : Int) ≥ (10 : Int))) && ((decide ((e.wt : Int) ≤ (600 : Int))))) && ((decide ((e.sm : Int) ≥ (0 : Int))))) && ((decide ((e.sm : Int) ≤ (524280 : Int))))) && ((decide ((e.sp : Int) ≥ (0 : Int))))) && ((decide ((e.sp : Int) ≤ (262140 : Int))))))]
    rfl (by kernel_rfl) rfl Ext.refl (fun _ _ _ => Ext.trans) (Ks (Ks (Ks (Ks (Ku (Ku (Ku (Ks (Ks (Ku (Ku (Ku (Ks (Ks (Ku (Ku (Ku (Ks (Ks (Ku (Ku (Ku (Ks (Ks (Ku (Ku (Ku (Ks (Ks (KeepAll.nil)))))))))))))))))))))))))))))) ?_ ?_ ?_
   ·
    intro i o hi ho
    exact absurd hi (by omega)
   ·
    refine goodFrom 0 ?_
    refine Gc (ln1 (gd0 rfl) rfl (ouI rfl) (fun _ _ h _ => h) (fun r wx hR h1 => by simp [execOp, h1, go_sem])) ?_
    refine Gc (ln1 (gd0 rfl) rfl (ouI rfl) (fun _ _ h _ => h) (fun r wx hR h1 => exg one3 rfl h1 (ev2 (hb1.ext hR)))) ?_
    refine Gc (ln2 (gd0 rfl) rfl (ouI rfl) (fun _ _ h _ => h) (fun _ _ h _ => h) (fun r wx hR h1 h2 => by simp [execOp, h1, h2, go_sem])) ?_
    refine Gc (ln1 (gd0 rfl) rfl (ouI rfl) (fun _ _ h _ => h) (fun r wx hR h1 => exec_mv (.inl rfl) h1)) ?_
    refine Gc (ln1 (gdU rfl (fun _ _ h => h) (want_t _)) rfl (ouU rfl) (fun _ _ h _ => h) (fun r wx hR h1 => by simp [execOp, h1, go_sem])) ?_
    refine Gc (ln1 (gdU rfl (fun _ _ h => h) (want_t _)) rfl (ouU rfl) (fun _ _ h c => Eq.trans h (if_pos c)) (fun r wx hR h1 => exg one3 rfl h1 (ev2 (hb1.ext hR)))) ?_
    refine Gc (ln2 (gdU rfl (fun _ _ h => h) (want_t _)) rfl (ouU rfl) (fun _ _ h c => Eq.trans h (if_pos c)) (fun _ _ h _ => h) (fun r wx hR h1 h2 => by simp [execOp, h1, h2, go_sem])) ?_
    refine Gc (lnA (gd0 rfl) rfl (ouI rfl) (fun _ _ h _ => h) (fun _ _ h c hb => Eq.trans h (if_pos (by first | exact hb | (rw [hb]; rfl) | (rw [c, hb]; rfl))))) ?_
    refine Gc (ln1 (gd0 rfl) rfl (ouI rfl) (fun _ _ h _ => h) (fun r wx hR h1 => exec_mv (.inl rfl) h1)) ?_
    refine Gc (ln1 (gdU rfl (fun _ _ h => h) (want_t _)) rfl (ouU rfl) (fun _ _ h _ => h) (fun r wx hR h1 => by simp [execOp, h1, go_sem])) ?_
    refine Gc (ln1 (gdU rfl (fun _ _ h => h) (want_t _)) rfl (ouU rfl) (fun _ _ h c => Eq.trans h (if_pos c)) (fun r wx hR h1 => exg one3 rfl h1 (ev0 (hb1.ext hR)))) ?_
    refine Gc (ln2 (gdU rfl (fun _ _ h => h) (want_t _)) rfl (ouU rfl) (fun _ _ h c => Eq.trans h (if_pos c)) (fun _ _ h _ => h) (fun r wx hR h1 h2 => by simp [execOp, h1, h2, go_sem])) ?_
    refine Gc (lnA (gd0 rfl) rfl (ouI rfl) (fun _ _ h _ => h) (fun _ _ h c hb => Eq.trans h (if_pos (by first | exact hb | (rw [hb]; rfl) | (rw [c, hb]; rfl))))) ?_
    refine Gc (ln1 (gd0 rfl) rfl (ouI rfl) (fun _ _ h _ => h) (fun r wx hR h1 => exec_mv (.inl rfl) h1)) ?_
    refine Gc (ln1 (gdU rfl (fun _ _ h => h) (want_t _)) rfl (ouU rfl) (fun _ _ h _ => h) (fun r wx hR h1 => by simp [execOp, h1, go_sem])) ?_
    refine Gc (ln1 (gdU rfl (fun _ _ h => h) (want_t _)) rfl (ouU rfl) (fun _ _ h c => Eq.trans h (if_pos c)) (fun r wx hR h1 => exg one3 rfl h1 (ev0 (hb1.ext hR)))) ?_
    refine Gc (ln2 (gdU rfl (fun _ _ h => h) (want_t _)) rfl (ouU rfl) (fun _ _ h c => Eq.trans h (if_pos c)) (fun _ _ h _ => h) (fun r wx hR h1 h2 => by simp [execOp, h1, h2, go_sem])) ?_
    refine Gc (lnA (gd0 rfl) rfl (ouI rfl) (fun _ _ h _ => h) (fun _ _ h c hb => Eq.trans h (if_pos (by first | exact hb | (rw [hb]; rfl) | (rw [c, hb]; rfl))))) ?_
    refine Gc (ln1 (gd0 rfl) rfl (ouI rfl) (fun _ _ h _ => h) (fun r wx hR h1 => exec_mv (.inl rfl) h1)) ?_
    refine Gc (ln1 (gdU rfl (fun _ _ h => h) (want_t _)) rfl (ouU rfl) (fun _ _ h _ => h) (fun r wx hR h1 => by simp [execOp, h1, go_sem])) ?_
    refine Gc (ln1 (gdU rfl (fun _ _ h => h) (want_t _)) rfl (ouU rfl) (fun _ _ h c => Eq.trans h (if_pos c)) (fun r wx hR h1 => exg one3 rfl h1 (ev1 (hb1.ext hR)))) ?_
    refine Gc (ln2 (gdU rfl (fun _ _ h => h) (want_t _)) rfl (ouU rfl) (fun _ _ h c => Eq.trans h (if_pos c)) (fun _ _ h _ => h) (fun r wx hR h1 h2 => by simp [execOp, h1, h2, go_sem])) ?_
    refine Gc (lnA (gd0 rfl) rfl (ouI rfl) (fun _ _ h _ => h) (fun _ _ h c hb => Eq.trans h (if_pos (by first | exact hb | (rw [hb]; rfl) | (rw [c, hb]; rfl))))) ?_
    refine Gc (ln1 (gd0 rfl) rfl (ouI rfl) (fun _ _ h _ => h) (fun r wx hR h1 => exec_mv (.inl rfl) h1)) ?_
    refine Gc (ln1 (gdU rfl (fun _ _ h => h) (want_t _)) rfl (ouU rfl) (fun _ _ h _ => h) (fun r wx hR h1 => by simp [execOp, h1, go_sem])) ?_
    refine Gc (ln1 (gdU rfl (fun _ _ h => h) (want_t _)) rfl (ouU rfl) (fun _ _ h c => Eq.trans h (if_pos c)) (fun r wx hR h1 => exg one3 rfl h1 (ev1 (hb1.ext hR)))) ?_
    refine Gc (ln2 (gdU rfl (fun _ _ h => h) (want_t _)) rfl (ouU rfl) (fun _ _ h c => Eq.trans h (if_pos c)) (fun _ _ h _ => h) (fun r wx hR h1 h2 => by simp [execOp, h1, h2, go_sem])) ?_
    refine Gc (lnA (gd0 rfl) rfl (ouI rfl) (fun _ _ h _ => h) (fun _ _ h c hb => Eq.trans h (if_pos (by first | exact hb | (rw [hb]; rfl) | (rw [c, hb]; rfl))))) ?_
    refine Gc (ln1 (gd0 rfl) rfl (ouI rfl) (fun _ _ h _ => h) (fun r wx hR h1 => exec_mv (.inr rfl) h1)) ?_
    exact GoodAll.nil
   ·
    intro vs wE aE hR hold haE
    have hv : vs 28 = .bool ((((((decide ((e.wt : Int) ≥ (10 : Int))) && ((decide ((e.wt : Int) ≤ (600 : Int))))) && ((decide ((e.sm : Int) ≥ (0 : Int))))) && ((decide ((e.sm : Int) ≤ (524280 : Int))))) && ((decide ((e.sp : Int) ≥ (0 : Int))))) && ((decide ((e.sp : Int) ≤ (262140 : Int))))) := hold.at 28
    refine ‹∀ (a : Act) (w : World), Code.wp Try.prog Code.ret _ a w → _› _ _ ?_
    refine wp_ret ?_
    have hs : aE.tmps[2]? = some (.bool ((((((decide ((e.wt : Int) ≥ (10 : Int))) && ((decide ((e.wt : Int) ≤ (600 : Int))))) && ((decide ((e.sm : Int) ≥ (0 : Int))))) && ((decide ((e.sm : Int) ≤ (524280 : Int))))) && ((decide ((e.sp : Int) ≥ (0 : Int))))) && ((decide ((e.sp : Int) ≤ (262140 : Int)))))) := by rw [haE, ← hv]; kernel_rfl
    have hdf : aE.defers = [] := by rw [haE]; exact putAll_defers _ _ _ _
    clear haE
    try unfold Exit.then
    try unfold Exit.inBlock
    try dsimp only
    refine bodyPost_ret (v := .bool ((((((decide ((e.wt : Int) ≥ (10 : Int))) && ((decide ((e.wt : Int) ≤ (600 : Int))))) && ((decide ((e.sm : Int) ≥ (0 : Int))))) && ((decide ((e.sm : Int) ≤ (524280 : Int))))) && ((decide ((e.sp : Int) ≥ (0 : Int))))) && ((decide ((e.sp : Int) ≤ (262140 : Int)))))) ?_ hdf ⟨rfl, he1.trans hR⟩
    simp [results, Try.results12, go_sem, hs]
  | false =>
   cases c1 <;> cases c2 <;> try cases hm
   go_enter Try.func12, Try.ntmps12
   go_wp2_with (first
    | (refine stop_at 29 rfl ?_)
    | (refine wl_box (C := EV e) rfl rfl rfl ?_; intro w1 hb1 he1 hx; clear hx; have x0 := ev0 hb1; have x1 := ev1 hb1; have x2 := ev2 hb1; have x3 := ev3 hb1; rw [hme] at x3))
   refine ⟨?_⟩
   refine wpList_line 0 (fun t => bif Nat.ble 16 t && Nat.ble t 43 then some (t - 16) else bif Nat.beq t 2 then some 28 else none) 44 Ext
    [Is (.pointer (some ⟨w.heap.size, 2, none⟩)),
     Is (.int .i64 e.wt),
     Is (.bool (decide ((e.wt : Int) ≥ (10 : Int)))),
     Is (.bool (decide ((e.wt : Int) ≥ (10 : Int)))),
     Under (((decide ((e.wt : Int) ≥ (10 : Int))))) (.pointer (some ⟨w.heap.size, 2, none⟩)),
     Under (((decide ((e.wt : Int) ≥ (10 : Int))))) (.int .i64 e.wt),
     Under (((decide ((e.wt : Int) ≥ (10 : Int))))) (.bool (decide ((e.wt : Int) ≤ (600 : Int)))),
     Is (.bool ((decide ((e.wt : Int) ≥ (10 : Int))) && ((decide ((e.wt : Int) ≤ (600 : Int)))))),
     Is (.bool ((decide ((e.wt : Int) ≥ (10 : Int))) && ((decide ((e.wt : Int) ≤ (600 : Int)))))),
     Under ((((decide ((e.wt : Int) ≥ (10 : Int))) && ((decide ((e.wt : Int) ≤ (600 : Int))))))) (.pointer (some ⟨w.heap.size, 0, none⟩)),
     Under ((((decide ((e.wt : Int) ≥ (10 : Int))) && ((decide ((e.wt : Int) ≤ (600 : Int))))))) (.int .i64 e.sm),
     Under ((((decide ((e.wt : Int) ≥ (10 : Int))) && ((decide ((e.wt : Int) ≤ (600 : Int))))))) (.bool (decide ((e.sm : Int) ≥ (0 : Int)))),
     Is (.bool (((decide ((e.wt : Int) ≥ (10 : Int))) && ((decide ((e.wt : Int) ≤ (600 : Int))))) && ((decide ((e.sm : Int) ≥ (0 : Int)))))),
     Is (.bool (((decide ((e.wt : Int) ≥ (10 : Int))) && ((decide ((e.wt : Int) ≤ (600 : Int))))) && ((decide ((e.sm : Int) ≥ (0 : Int)))))),
     Under (((((decide ((e.wt : Int) ≥ (10 : Int))) && ((decide ((e.wt : Int) ≤ (600 : Int))))) && ((decide ((e.sm : Int) ≥ (0 : Int))))))) (.pointer (some ⟨w.heap.size, 0, none⟩)),
     Under (((((decide ((e.wt : Int) ≥ (10 : Int))) && ((decide ((e.wt : Int) ≤ (600 : Int))))) && ((decide ((e.sm : Int) ≥ (0 : Int))))))) (.int .i64 e.sm),
     Under (((((decide ((e.wt : Int) ≥ (10 : Int))) && ((decide ((e.wt : Int) ≤ (600 : Int))))) && ((decide ((e.sm : Int) ≥ (0 : Int))))))) (.bool (decide ((e.sm : Int) ≤ (524280 : Int)))),
     Is (.bool ((((decide ((e.wt : Int) ≥ (10 : Int))) && ((decide ((e.wt : Int) ≤ (600 : Int))))) && ((decide ((e.sm : Int) ≥ (0 : Int))))) && ((decide ((e.sm : Int) ≤ (524280 : Int)))))),
     Is (.bool ((((decide ((e.wt : Int) ≥ (10 : Int))) && ((decide ((e.wt : Int) ≤ (600 : Int))))) && ((decide ((e.sm : Int) ≥ (0 : Int))))) && ((decide ((e.sm : Int) ≤ (524280 : Int)))))),
     Under ((((((decide ((e.wt : Int) ≥ (10 : Int))) && ((decide ((e.wt : Int) ≤ (600 : Int))))) && ((decide ((e.sm : Int) ≥ (0 : Int))))) && ((decide ((e.sm : Int) ≤ (524280 : Int))))))) (.pointer (some ⟨w.heap.size, 1, none⟩)),
     Under ((((((decide ((e.wt : Int) ≥ (10 : Int))) && ((decide ((e.wt : Int) ≤ (600 : Int))))) && ((decide ((e.sm : Int) ≥ (0 : Int))))) && ((decide ((e.sm : Int) ≤ (524280 : Int))))))) (.int .i64 e.sp),
     Under ((((((decide ((e.wt : Int) ≥ (10 : Int))) && ((decide ((e.wt : Int) ≤ (600 : Int))))) && ((decide ((e.sm : Int) ≥ (0 : Int))))) && ((decide ((e.sm : Int) ≤ (524280 : Int))))))) (.bool (decide ((e.sp : Int) ≥ (0 : Int)))),
     Is (.bool (((((decide ((e.wt : Int) ≥ (10 : Int))) && ((decide ((e.wt : Int) ≤ (600 : Int))))) && ((decide ((e.sm : Int) ≥ (0 : Int))))) && ((decide ((e.sm : Int) ≤ (524280 : Int))))) && ((decide ((e.sp : Int) ≥ (0 : Int)))))),
     Is (.bool (((((decide ((e.wt : Int) ≥ (10 : Int))) && ((decide ((e.wt : Int) ≤ (600 : Int))))) && ((decide ((e.sm : Int) ≥ (0 : Int))))) && ((decide ((e.sm : Int) ≤ (524280 : Int))))) && ((decide ((e.sp : Int) ≥ (0 : Int)))))),
     Under (((((((decide ((e.wt : Int) ≥ (10 : Int))) && ((decide ((e.wt : Int) ≤ (600 : Int))))) && ((decide ((e.sm : Int) ≥ (0 : Int))))) && ((decide ((e.sm : Int) ≤ (524280 : Int))))) && ((decide ((e.sp : Int) ≥ (0 : Int))))))) (.pointer (some ⟨w.heap.size, 1, none⟩)),
     Under (((((((decide ((e.wt : Int) ≥ (10 : Int))) && ((decide ((e.wt : Int) ≤ (600 : Int))))) && ((decide ((e.sm : Int) ≥ (0 : Int))))) && ((decide ((e.sm : Int) ≤ (524280 : Int))))) && ((decide ((e.sp : Int) ≥ (0 : Int))))))) (.int .i64 e.sp),
     Under (((((((decide ((e.wt : Int) ≥ (10 : Int))) && ((decide ((e.wt : Int) ≤ (600 : Int))))) && ((decide ((e.sm : Int) ≥ (0 : Int))))) && ((decide ((e.sm : Int) ≤ (524280 : Int))))) && ((decide ((e.sp : Int) ≥ (0 : Int))))))) (.bool (decide ((e.sp : Int) ≤ (262140 : Int)))),
     Is (.bool ((((((decide ((e.wt : Int) ≥ (10 : Int))) && ((decide ((e.wt : Int) ≤ (600 : Int))))) && ((decide ((e.sm : Int) ≥ (0 : Int))))) && ((decide ((e.sm : Int) ≤ (524280 : Int))))) && ((decide ((e.sp : Int) ≥ (0 : Int))))) && ((decide ((e.sp : Int) ≤ (262140 : Int)))))),
     Is (.bool ((((((decide ((e.wt : Int) ≥ (10 : Int))) && ((decide ((e.wt : Int) ≤ (600 : Int))))) && ((decide ((e.sm : Int) ≥ (0 : Int))))) && ((decide ((e.sm : Int) ≤ (524280 : Int))))) && ((decide ((e.sp : Int) ≥ (0 : Int))))) && ((decide ((e.sp : Int) ≤ (262140 : Int))))))]
    rfl (by kernel_rfl) rfl Ext.refl (fun _ _ _ => Ext.trans) (Ks (Ks (Ks (Ks (Ku (Ku (Ku (Ks (Ks (Ku (Ku (Ku (Ks (Ks (Ku (Ku (Ku (Ks (Ks (Ku (Ku (Ku (Ks (Ks (Ku (Ku (Ku (Ks (Ks (KeepAll.nil)))))))))))))))))))))))))))))) ?_ ?_ ?_
   ·
    intro i o hi ho
    exact absurd hi (by omega)
   ·
    refine goodFrom 0 ?_
    refine Gc (ln1 (gd0 rfl) rfl (ouI rfl) (fun _ _ h _ => h) (fun r wx hR h1 => by simp [execOp, h1, go_sem])) ?_
    refine Gc (ln1 (gd0 rfl) rfl (ouI rfl) (fun _ _ h _ => h) (fun r wx hR h1 => exg one3 rfl h1 (ev2 (hb1.ext hR)))) ?_
    refine Gc (ln2 (gd0 rfl) rfl (ouI rfl) (fun _ _ h _ => h) (fun _ _ h _ => h) (fun r wx hR h1 h2 => by simp [execOp, h1, h2, go_sem])) ?_
    refine Gc (ln1 (gd0 rfl) rfl (ouI rfl) (fun _ _ h _ => h) (fun r wx hR h1 => exec_mv (.inl rfl) h1)) ?_
    refine Gc (ln1 (gdU rfl (fun _ _ h => h) (want_t _)) rfl (ouU rfl) (fun _ _ h _ => h) (fun r wx hR h1 => by simp [execOp, h1, go_sem])) ?_
    refine Gc (ln1 (gdU rfl (fun _ _ h => h) (want_t _)) rfl (ouU rfl) (fun _ _ h c => Eq.trans h (if_pos c)) (fun r wx hR h1 => exg one3 rfl h1 (ev2 (hb1.ext hR)))) ?_
    refine Gc (ln2 (gdU rfl (fun _ _ h => h) (want_t _)) rfl (ouU rfl) (fun _ _ h c => Eq.trans h (if_pos c)) (fun _ _ h _ => h) (fun r wx hR h1 h2 => by simp [execOp, h1, h2, go_sem])) ?_
    refine Gc (lnA (gd0 rfl) rfl (ouI rfl) (fun _ _ h _ => h) (fun _ _ h c hb => Eq.trans h (if_pos (by first | exact hb | (rw [hb]; rfl) | (rw [c, hb]; rfl))))) ?_
    refine Gc (ln1 (gd0 rfl) rfl (ouI rfl) (fun _ _ h _ => h) (fun r wx hR h1 => exec_mv (.inl rfl) h1)) ?_
    refine Gc (ln1 (gdU rfl (fun _ _ h => h) (want_t _)) rfl (ouU rfl) (fun _ _ h _ => h) (fun r wx hR h1 => by simp [execOp, h1, go_sem])) ?_
    refine Gc (ln1 (gdU rfl (fun _ _ h => h) (want_t _)) rfl (ouU rfl) (fun _ _ h c => Eq.trans h (if_pos c)) (fun r wx hR h1 => exg one3 rfl h1 (ev0 (hb1.ext hR)))) ?_
    refine Gc (ln2 (gdU rfl (fun _ _ h => h) (want_t _)) rfl (ouU rfl) (fun _ _ h c => Eq.trans h (if_pos c)) (fun _ _ h _ => h) (fun r wx hR h1 h2 => by simp [execOp, h1, h2, go_sem])) ?_
    refine Gc (lnA (gd0 rfl) rfl (ouI rfl) (fun _ _ h _ => h) (fun _ _ h c hb => Eq.trans h (if_pos (by first | exact hb | (rw [hb]; rfl) | (rw [c, hb]; rfl))))) ?_
    refine Gc (ln1 (gd0 rfl) rfl (ouI rfl) (fun _ _ h _ => h) (fun r wx hR h1 => exec_mv (.inl rfl) h1)) ?_
    refine Gc (ln1 (gdU rfl (fun _ _ h => h) (want_t _)) rfl (ouU rfl) (fun _ _ h _ => h) (fun r wx hR h1 => by simp [execOp, h1, go_sem])) ?_
    refine Gc (ln1 (gdU rfl (fun _ _ h => h) (want_t _)) rfl (ouU rfl) (fun _ _ h c => Eq.trans h (if_pos c)) (fun r wx hR h1 => exg one3 rfl h1 (ev0 (hb1.ext hR)))) ?_
    refine Gc (ln2 (gdU rfl (fun _ _ h => h) (want_t _)) rfl (ouU rfl) (fun _ _ h c => Eq.trans h (if_pos c)) (fun _ _ h _ => h) (fun r wx hR h1 h2 => by simp [execOp, h1, h2, go_sem])) ?_
    refine Gc (lnA (gd0 rfl) rfl (ouI rfl) (fun _ _ h _ => h) (fun _ _ h c hb => Eq.trans h (if_pos (by first | exact hb | (rw [hb]; rfl) | (rw [c, hb]; rfl))))) ?_
    refine Gc (ln1 (gd0 rfl) rfl (ouI rfl) (fun _ _ h _ => h) (fun r wx hR h1 => exec_mv (.inl rfl) h1)) ?_
    refine Gc (ln1 (gdU rfl (fun _ _ h => h) (want_t _)) rfl (ouU rfl) (fun _ _ h _ => h) (fun r wx hR h1 => by simp [execOp, h1, go_sem])) ?_
    refine Gc (ln1 (gdU rfl (fun _ _ h => h) (want_t _)) rfl (ouU rfl) (fun _ _ h c => Eq.trans h (if_pos c)) (fun r wx hR h1 => exg one3 rfl h1 (ev1 (hb1.ext hR)))) ?_
    refine Gc (ln2 (gdU rfl (fun _ _ h => h) (want_t _)) rfl (ouU rfl) (fun _ _ h c => Eq.trans h (if_pos c)) (fun _ _ h _ => h) (fun r wx hR h1 h2 => by simp [execOp, h1, h2, go_sem])) ?_
    refine Gc (lnA (gd0 rfl) rfl (ouI rfl) (fun _ _ h _ => h) (fun _ _ h c hb => Eq.trans h (if_pos (by first | exact hb | (rw [hb]; rfl) | (rw [c, hb]; rfl))))) ?_
    refine Gc (ln1 (gd0 rfl) rfl (ouI rfl) (fun _ _ h _ => h) (fun r wx hR h1 => exec_mv (.inl rfl) h1)) ?_
    refine Gc (ln1 (gdU rfl (fun _ _ h => h) (want_t _)) rfl (ouU rfl) (fun _ _ h _ => h) (fun r wx hR h1 => by simp [execOp, h1, go_sem])) ?_
    refine Gc (ln1 (gdU rfl (fun _ _ h => h) (want_t _)) rfl (ouU rfl) (fun _ _ h c => Eq.trans h (if_pos c)) (fun r wx hR h1 => exg one3 rfl h1 (ev1 (hb1.ext hR)))) ?_
    refine Gc (ln2 (gdU rfl (fun _ _ h => h) (want_t _)) rfl (ouU rfl) (fun _ _ h c => Eq.trans h (if_pos c)) (fun _ _ h _ => h) (fun r wx hR h1 h2 => by simp [execOp, h1, h2, go_sem])) ?_
    refine Gc (lnA (gd0 rfl) rfl (ouI rfl) (fun _ _ h _ => h) (fun _ _ h c hb => Eq.trans h (if_pos (by first | exact hb | (rw [hb]; rfl) | (rw [c, hb]; rfl))))) ?_
    refine Gc (ln1 (gd0 rfl) rfl (ouI rfl) (fun _ _ h _ => h) (fun r wx hR h1 => exec_mv (.inr rfl) h1)) ?_
    exact GoodAll.nil
   ·
    intro vs wE aE hR hold haE
    have hv : vs 28 = .bool ((((((decide ((e.wt : Int) ≥ (10 : Int))) && ((decide ((e.wt : Int) ≤ (600 : Int))))) && ((decide ((e.sm : Int) ≥ (0 : Int))))) && ((decide ((e.sm : Int) ≤ (524280 : Int))))) && ((decide ((e.sp : Int) ≥ (0 : Int))))) && ((decide ((e.sp : Int) ≤ (262140 : Int))))) := hold.at 28
    refine ‹∀ (a : Act) (w : World), Code.wp Try.prog Code.ret _ a w → _› _ _ ?_
    refine wp_ret ?_
    have hs : aE.tmps[2]? = some (.bool ((((((decide ((e.wt : Int) ≥ (10 : Int))) && ((decide ((e.wt : Int) ≤ (600 : Int))))) && ((decide ((e.sm : Int) ≥ (0 : Int))))) && ((decide ((e.sm : Int) ≤ (524280 : Int))))) && ((decide ((e.sp : Int) ≥ (0 : Int))))) && ((decide ((e.sp : Int) ≤ (262140 : Int)))))) := by rw [haE, ← hv]; kernel_rfl
    have hdf : aE.defers = [] := by rw [haE]; exact putAll_defers _ _ _ _
    clear haE
    try unfold Exit.then
    try unfold Exit.inBlock
    try dsimp only
    refine bodyPost_ret (v := .bool ((((((decide ((e.wt : Int) ≥ (10 : Int))) && ((decide ((e.wt : Int) ≤ (600 : Int))))) && ((decide ((e.sm : Int) ≥ (0 : Int))))) && ((decide ((e.sm : Int) ≤ (524280 : Int))))) && ((decide ((e.sp : Int) ≥ (0 : Int))))) && ((decide ((e.sp : Int) ≤ (262140 : Int)))))) ?_ hdf ⟨rfl, he1.trans hR⟩
    simp [results, Try.results12, go_sem, hs]
 cases m with
 | true => exact key _ _ rfl rfl rfl (by rw [Bool.eq_iff_iff, goodB_iff]; simp [hme]; omega)
 | false =>
  by_cases h1 : e.sm = 0
  ·
   by_cases h2 : e.sp = 0
   ·
    exact key false false (by simp [h1]) (by simp [h2]) rfl (by rw [Bool.eq_iff_iff, goodB_iff]; simp [hme, h1, h2])
   ·
    have d1 : (e.sm != 0) = false := by simp [h1]
    have d2 : (e.sp != 0) = true := by simp [h2]
    rw [goodB_no (.inr (.inr ⟨hme, .inr h2⟩))]
    go_enter Try.func12, Try.ntmps12
    go_wp2_with (first
     | (refine wl_box (C := EV e) rfl rfl rfl ?_; intro w1 hb1 he1 hx; clear hx; have x0 := ev0 hb1; have x1 := ev1 hb1; have x2 := ev2 hb1; have x3 := ev3 hb1; rw [hme] at x3))
    go_ret
    exact ⟨rfl, he1⟩
  ·
   have d1 : (e.sm != 0) = true := by simp [h1]
   rw [goodB_no (.inr (.inr ⟨hme, .inl h1⟩))]
   go_enter Try.func12, Try.ntmps12
   go_wp2_with (first
    | (refine wl_box (C := EV e) rfl rfl rfl ?_; intro w1 hb1 he1 hx; clear hx; have x0 := ev0 hb1; have x1 := ev1 hb1; have x2 := ev2 hb1; have x3 := ev3 hb1; rw [hme] at x3))
   go_ret
   exact ⟨rfl, he1⟩
end Rto
end Go.Proofs.Ytdjijipbfiofmaa
/- A wait that is bounded, the first estimate, errors as numbers. No condition of its own. -/
namespace Go.Proofs.Ytdjijipbfiofmaa
namespace Rto
open Go Go.RowKit
set_option maxRecDepth 100000
/-- A wait that is neither too short nor too long. -/
def bd (x : Int) : Int := if x < 10 then 10 else if 600 < x then 600 else x
set_option maxHeartbeats 2000000 in
theorem bounded_any (x : Int) (w : World) : Calls Try.prog 20 #[.int .i64 x] w fun e w' => e = .returned (.int .i64 (bd x)) ∧ Ext w w' := by
 go_enter Try.func20, Try.ntmps20
 go_wp2
 all_goals go_ret
 all_goals refine ⟨congrArg Ending.returned (congrArg (Value.int .i64) (?_ : (_ : Int) = _)), Ext.refl _⟩
 all_goals unfold bd
 all_goals (rename_i h'; first | (rw [if_pos h] at h'; omega) | (rw [if_neg (by omega)] at h'; omega) | skip)
 all_goals split <;> (try split) <;> omega
theorem wl_build {w : World} {ops : Array Oper} {rest : List Oper} {o : Oper} {a : Act} {Q : Exit → Act → World → Prop} (hgd : o.guard = none) {t : TypeId} {parts : Array (Nat × Operand)} {vals : List (Nat × Value)} {cells : Array Value} (ho : o.op = .build t parts)
  (hv : (parts.map fun (i, x) => (i, a.eval x)).toList = vals) (hc : Try.prog.built t vals = some cells) (h : wpList Try.prog ops Q rest (a.put o.dst (.agg cells)) w) : wpList Try.prog ops Q (o :: rest) a w := by
 refine wpList_of_run hgd (v := .agg cells) ?_ h
 have := run_build (P := Try.prog) w t (parts.map fun (i, x) => (i, a.eval x)) cells (by rw [hv]; exact hc)
 simp [execOp, ho, this]
def e0 : E := ⟨0, 0, 0, false⟩
def eF : E := ⟨0, 0, 30, false⟩
theorem zeroE : (Try.prog.info? 25).bind (·.zero) = some (.agg (EV e0)) := by kernel_rfl
theorem zeroR : (Try.prog.info? 23).bind (·.zero) = some (.agg (EV e0)) := by kernel_rfl
theorem builtF : Try.prog.built 25 [(2, .int .i64 30)] = some (EV eF) := by kernel_rfl
theorem builtFR : Try.prog.built 23 [(0, .int .i64 0), (1, .int .i64 0), (2, .int .i64 30), (3, .bool false)] = some (EV eF) := by kernel_rfl
set_option maxHeartbeats 2000000 in
theorem first_any (w : World) : Calls Try.prog 14 #[] w fun e w' => e = .returned (.agg (EV eF)) ∧ Ext w w' := by
 go_enter Try.func14, Try.ntmps14
 go_wp2_with (first
  | (refine wl_alloc rfl rfl zeroE ?_; intro w1 hb1 he1 hx; clear hx)
  | (refine wl_build rfl rfl rfl builtF ?_)
  | (refine wl_store (D := EV eF) rfl rowE rfl rfl rfl hb1 rfl rfl (EV.one _) ?_; intro w2 hb2 hk2 hx2; clear hx2))
 refine bodyPost_ret (results_cell_row (fn := Try.f14) (p := 0) rfl _ w2 _ _ _ (0, 0) _ rfl hb2 Try.underlying25 rfl (by kernel_rfl)) rfl ?_
 exact ⟨rfl, he1.of_but hk2 (fun q e => by subst e; exact Nat.le_refl _)⟩
set_option maxHeartbeats 2000000 in
theorem refFirst_any (w : World) : Calls Try.prog 15 #[] w fun e w' => e = .returned (.agg (EV eF)) ∧ Ext w w' := by
 go_enter Try.func15, Try.ntmps15
 go_wp2_with (first
  | (refine wl_alloc rfl rfl zeroR ?_; intro w1 hb1 he1 hx; clear hx)
  | (refine wl_build rfl rfl rfl builtFR ?_)
  | (refine wl_store (D := EV eF) rfl rowR rfl rfl rfl hb1 rfl rfl (EV.one _) ?_; intro w2 hb2 hk2 hx2; clear hx2))
 refine bodyPost_ret (results_cell_row (fn := Try.f15) (p := 0) rfl _ w2 _ _ _ (0, 0) _ rfl hb2 Try.underlying23 rfl (by kernel_rfl)) rfl ?_
 exact ⟨rfl, he1.of_but hk2 (fun q e => by subst e; exact Nat.le_refl _)⟩
/-! ### Errors -/
def errV (n : Int) : Value := if n = 0 then .nilIface else .iface 37 (.int .i64 n)
theorem errNum_0 (w : World) : Calls Try.prog 21 #[.nilIface] w fun e w' => e = .returned (.int .i64 0) ∧ w' = w := by
 go_enter Try.func21, Try.ntmps21
 go_wp2
 go_ret
 exact ⟨rfl, rfl⟩
theorem assertN (n : Int) (W : World) : (Instr.typeAssert (.iface 37 (.int .i64 n)) 27 37 true).run Try.prog W = .ok (.tuple #[.int .i64 n, .bool true]) W := by kernel_rfl
theorem num_any (n : Int) (w : World) : Calls Try.prog 21 #[errV n] w fun e w' => e = .returned (.int .i64 n) ∧ w' = w := by
 by_cases h : n = 0
 ·
  subst h
  exact errNum_0 w
 ·
  rw [show errV n = .iface 37 (.int .i64 n) from if_neg h]
  have ha := assertN n w
  have hn : (n != 0) = true := by simpa using h
  go_enter Try.func21, Try.ntmps21
  go_wp2
  go_ret
  exact ⟨rfl, rfl⟩
theorem is_any (n m : Int) (w : World) : Calls Try.prog 13 #[errV n, .int .i64 m] w fun e w' => e = .returned (.bool (n == m)) ∧ w' = w := by
 have HN := num_any n
 generalize errV n = ev at HN ⊢
 go_enter Try.func13, Try.ntmps13
 go_wp2_with (first
  | (go_at_call 21; refine (HN _).mono ?_; rintro e w1 ⟨rfl, hw⟩; subst w1))
 go_ret
 exact ⟨rfl, rfl⟩
theorem errT : Try.prog.underlying 27 = some (.interface (Try.prog.methodsAt 27)) := by kernel_rfl
theorem exec_eqlV {r : Operand → Value} {o : Oper} {x : Operand} {tt : TypeId} {w : World} (n : Int) (ho : o.op = .binOp .eql 27 x (.const .nilIface) tt) (hx : r x = errV n) (hc : r (.const .nilIface) = .nilIface) : (execOp r o).run Try.prog w = .ok (.value (.bool (n == 0))) w := by
 by_cases h : n = 0
 ·
  subst h
  have h2 := run_eql_nil_nil (P := Try.prog) w 27 errT
  have hx' : r x = .nilIface := hx
  cases x <;> simp [execOp, ho, hx', hc, h2, eqGuard, go_sem]
 ·
  have hx' : r x = .iface 37 (.int .i64 n) := hx.trans (if_neg h)
  have h2 := run_eql_held_nil (P := Try.prog) w 27 37 (.int .i64 n) errT
  have hn : (n == 0) = false := by simpa using h
  simp [execOp, ho, hx', hc, h2, eqGuard, go_sem, hn]
end Rto
end Go.Proofs.Ytdjijipbfiofmaa
/- Estimates in their blocks; Twice and Times. No condition of its own. -/
namespace Go.Proofs.Ytdjijipbfiofmaa
namespace Rto
open Go Go.RowKit
set_option maxRecDepth 100000
/-- Two estimates in blocks of the own. -/
structure Two (w0 w : World) (g h T : Nat) (x y : E) : Prop where
 a : Blk w g (EV x) T
 b : Blk w h (EV y) T
 ext : Ext w0 w
 g0 : w0.heap.size ≤ g
 lt : g < h
theorem Two.grow {w0 w w' : World} {g h T : Nat} {x y : E} (H : Two w0 w g h T x y) (he : Ext w w') : Two w0 w' g h T x y := ⟨H.a.ext he, H.b.ext he, H.ext.trans he, H.g0, H.lt⟩
theorem Two.setA {w0 w w' : World} {g h T : Nat} {x y z : E} (H : Two w0 w g h T x y) (hz : Blk w' g (EV z) T) (hk : KeepBut (· = g) w w') : Two w0 w' g h T z y := ⟨hz, H.b.but hk (by have := H.lt; omega), H.ext.of_but hk (fun q e => by subst e; exact H.g0), H.g0, H.lt⟩
theorem Two.setB {w0 w w' : World} {g h T : Nat} {x y z : E} (H : Two w0 w g h T x y) (hz : Blk w' h (EV z) T) (hk : KeepBut (· = h) w w') : Two w0 w' g h T x z := ⟨H.a.but hk (by have := H.lt; omega), hz, H.ext.of_but hk (fun q e => by subst e; have := H.g0; have := H.lt; omega), H.g0, H.lt⟩
section
variable {w : World} {ops : Array Oper} {rest : List Oper} {o : Oper} {a : Act} {Q : Exit → Act → World → Prop} {g T : Nat} {e : E}
theorem wl_get0 (hB : Blk w g (EV e) T) (hgd : o.guard = none) {x : Operand} (ho : o.op = .load 3 x) (hx : a.eval x = .pointer (some ⟨g, 0, none⟩)) (h : wpList Try.prog ops Q rest (a.put o.dst (.int .i64 e.sm)) w) : wpList Try.prog ops Q (o :: rest) a w := wpList_of_run hgd (exg one3 ho hx (ev0 hB)) h
theorem wl_get1 (hB : Blk w g (EV e) T) (hgd : o.guard = none) {x : Operand} (ho : o.op = .load 3 x) (hx : a.eval x = .pointer (some ⟨g, 1, none⟩)) (h : wpList Try.prog ops Q rest (a.put o.dst (.int .i64 e.sp)) w) : wpList Try.prog ops Q (o :: rest) a w := wpList_of_run hgd (exg one3 ho hx (ev1 hB)) h
theorem wl_get2 (hB : Blk w g (EV e) T) (hgd : o.guard = none) {x : Operand} (ho : o.op = .load 3 x) (hx : a.eval x = .pointer (some ⟨g, 2, none⟩)) (h : wpList Try.prog ops Q rest (a.put o.dst (.int .i64 e.wt)) w) : wpList Try.prog ops Q (o :: rest) a w := wpList_of_run hgd (exg one3 ho hx (ev2 hB)) h
theorem wl_get3 (hB : Blk w g (EV e) T) (hgd : o.guard = none) {x : Operand} (ho : o.op = .load 4 x) (hx : a.eval x = .pointer (some ⟨g, 3, none⟩)) (h : wpList Try.prog ops Q rest (a.put o.dst (.bool e.me)) w) : wpList Try.prog ops Q (o :: rest) a w := wpList_of_run hgd (exg one4 ho hx (ev3 hB)) h
theorem wl_set0 (hB : Blk w g (EV e) T) (hgd : o.guard = none) {x y : Operand} {v : Int} (ho : o.op = .store 3 x y) (hx : a.eval x = .pointer (some ⟨g, 0, none⟩)) (hy : a.eval y = .int .i64 v) (h : ∀ w', Blk w' g (EV { e with sm := v }) T → KeepBut (· = g) w w' → wpList Try.prog ops Q rest (a.put o.dst undef) w') : wpList Try.prog ops Q (o :: rest) a w :=
 wl_set hgd one3 ho hx hy rfl rfl hB (by rw [EV.size]; decide) (fun w' h1 h2 _ => h w' h1 h2)
theorem wl_set1 (hB : Blk w g (EV e) T) (hgd : o.guard = none) {x y : Operand} {v : Int} (ho : o.op = .store 3 x y) (hx : a.eval x = .pointer (some ⟨g, 1, none⟩)) (hy : a.eval y = .int .i64 v) (h : ∀ w', Blk w' g (EV { e with sp := v }) T → KeepBut (· = g) w w' → wpList Try.prog ops Q rest (a.put o.dst undef) w') : wpList Try.prog ops Q (o :: rest) a w :=
 wl_set hgd one3 ho hx hy rfl rfl hB (by rw [EV.size]; decide) (fun w' h1 h2 _ => h w' h1 h2)
theorem wl_set2 (hB : Blk w g (EV e) T) (hgd : o.guard = none) {x y : Operand} {v : Int} (ho : o.op = .store 3 x y) (hx : a.eval x = .pointer (some ⟨g, 2, none⟩)) (hy : a.eval y = .int .i64 v) (h : ∀ w', Blk w' g (EV { e with wt := v }) T → KeepBut (· = g) w w' → wpList Try.prog ops Q rest (a.put o.dst undef) w') : wpList Try.prog ops Q (o :: rest) a w :=
 wl_set hgd one3 ho hx hy rfl rfl hB (by rw [EV.size]; decide) (fun w' h1 h2 _ => h w' h1 h2)
end
section
variable {w : World} {ops : Array Oper} {rest : List Oper} {o : Oper} {a : Act} {Q : Exit → Act → World → Prop}
/-- A new block whose number is a name of its own. -/
theorem wl_boxG (hgd : o.guard = none) {t : TypeId} {x : Operand} {C : Array Value} (ho : o.op = .box t x) (hx : a.eval x = .agg C)
  (h : ∀ w' g, g = w.heap.size → Blk w' g C t → Ext w w' → wpList Try.prog ops Q rest (a.put o.dst (.pointer (some ⟨g, 0, none⟩))) w') : wpList Try.prog ops Q (o :: rest) a w :=
 wl_box hgd ho hx fun w' hb he _ => h w' _ rfl hb he
theorem wl_allocG (hgd : o.guard = none) {t : TypeId} {C : Array Value} (ho : o.op = .alloc t) (hz : (Try.prog.info? t).bind (·.zero) = some (.agg C))
  (h : ∀ w' g, g = w.heap.size → Blk w' g C t → Ext w w' → wpList Try.prog ops Q rest (a.put o.dst (.pointer (some ⟨g, 0, none⟩))) w') : wpList Try.prog ops Q (o :: rest) a w :=
 wl_alloc hgd ho hz fun w' hb he _ => h w' _ rfl hb he
end
/-- The estimate when nothing came. -/
def twiceE (e : E) : E := if goodB e = true then { e with wt := bd (2 * e.wt) } else eF
theorem twiceE_no {e : E} (h : goodB e = false) : twiceE e = eF := if_neg (by rw [h]; decide)
theorem twiceE_yes {e : E} (h : goodB e = true) : twiceE e = { e with wt := bd (2 * e.wt) } := if_pos h
set_option maxHeartbeats 4000000 in
theorem twice_any (e : E) (w : World) : Calls Try.prog 16 #[.agg (EV e)] w fun x w' => x = .returned (.agg (EV (twiceE e))) ∧ Ext w w' := by
 cases hg : goodB e with
 | false =>
  rw [twiceE_no hg]
  go_enter Try.func16, Try.ntmps16
  go_wp2_with (first
   | (refine wl_boxG (C := EV e) rfl rfl rfl ?_; intro w1 g1 hg1 hb1 he1; have HG1 : Hid (g1 = w.heap.size) := hg1; clear hg1)
   | (have q := hb1; clear q; refine wl_allocG rfl rfl zeroE ?_; intro w2 g2 hg2 hb2 he2; have HT : Hid (Two w w2 g1 g2 _ e e0) := ⟨hb1.ext he2, hb2, he1.trans he2, Nat.le_of_eq HG1.out.symm, (by rw [hg2]; exact hb1.lt)⟩; clear hb1 hb2 he1 he2 hg2 HG1)
   | (have q := HT; clear q; refine wl_load rfl rowE rfl rfl HT.out.a rfl ?_)
   | (go_at_call 11; refine (good_any _ _).mono ?_; rintro e w3 ⟨rfl, he3⟩; rw [hg]; replace HT : Hid (Two _ _ _ _ _ _ _) := HT.out.grow he3; clear he3)
   | (go_at_call 14; refine (first_any _).mono ?_; rintro e w3 ⟨rfl, he3⟩; replace HT : Hid (Two _ _ _ _ _ _ _) := HT.out.grow he3; clear he3)
   | (have q := HT; clear q; refine wl_store rfl rowE rfl rfl rfl HT.out.b rfl rfl (EV.one _) ?_; intro w4 hb4 hk4 hx4; clear hx4; replace HT : Hid (Two _ _ _ _ _ _ _) := HT.out.setB hb4 hk4; clear hb4 hk4)
   | (have q := HT; clear q; refine wl_get0 HT.out.a rfl rfl rfl ?_)
   | (have q := HT; clear q; refine wl_get1 HT.out.a rfl rfl rfl ?_)
   | (have q := HT; clear q; refine wl_get2 HT.out.a rfl rfl rfl ?_)
   | (have q := HT; clear q; refine wl_get3 HT.out.a rfl rfl rfl ?_))
  refine bodyPost_ret (results_cell_row (fn := Try.f16) (p := 2) rfl _ _ _ _ _ (0, 0) _ rfl HT.out.b Try.underlying25 rfl (by kernel_rfl)) rfl ?_
  exact ⟨rfl, HT.out.ext⟩
 | true =>
  have hn := (goodB_iff e).1 hg
  obtain ⟨M, hM⟩ : ∃ M, M = 2 * e.wt := ⟨_, rfl⟩
  have hw : IntKind.i64.wrap (2 * e.wt) = M := by rw [IntKind.wrap_i64, hM]; omega
  rw [twiceE_yes hg, ← hM]
  clear hn hM
  go_enter Try.func16, Try.ntmps16
  go_wp2_with (first
   | (refine wl_boxG (C := EV e) rfl rfl rfl ?_; intro w1 g1 hg1 hb1 he1; have HG1 : Hid (g1 = w.heap.size) := hg1; clear hg1)
   | (have q := hb1; clear q; refine wl_allocG rfl rfl zeroE ?_; intro w2 g2 hg2 hb2 he2; have HT : Hid (Two w w2 g1 g2 _ e e0) := ⟨hb1.ext he2, hb2, he1.trans he2, Nat.le_of_eq HG1.out.symm, (by rw [hg2]; exact hb1.lt)⟩; clear hb1 hb2 he1 he2 hg2 HG1)
   | (have q := HT; clear q; refine wl_load rfl rowE rfl rfl HT.out.a rfl ?_)
   | (go_at_call 11; refine (good_any _ _).mono ?_; rintro e w3 ⟨rfl, he3⟩; rw [hg]; replace HT : Hid (Two _ _ _ _ _ _ _) := HT.out.grow he3; clear he3)
   | (go_at_call 20; refine (bounded_any _ _).mono ?_; rintro e w3 ⟨rfl, he3⟩; replace HT : Hid (Two _ _ _ _ _ _ _) := HT.out.grow he3; clear he3)
   | (have q := HT; clear q; refine wl_set2 HT.out.a rfl rfl rfl rfl ?_; intro w4 hb4 hk4; replace HT : Hid (Two _ _ _ _ _ _ _) := HT.out.setA hb4 hk4; clear hb4 hk4)
   | (have q := HT; clear q; refine wl_store rfl rowE rfl rfl rfl HT.out.b rfl rfl (EV.one _) ?_; intro w4 hb4 hk4 hx4; clear hx4; replace HT : Hid (Two _ _ _ _ _ _ _) := HT.out.setB hb4 hk4; clear hb4 hk4)
   | (have q := HT; clear q; refine wl_get0 HT.out.a rfl rfl rfl ?_)
   | (have q := HT; clear q; refine wl_get1 HT.out.a rfl rfl rfl ?_)
   | (have q := HT; clear q; refine wl_get2 HT.out.a rfl rfl rfl ?_)
   | (have q := HT; clear q; refine wl_get3 HT.out.a rfl rfl rfl ?_))
  refine bodyPost_ret (results_cell_row (fn := Try.f16) (p := 2) rfl _ _ _ _ _ (0, 0) _ rfl HT.out.b Try.underlying25 rfl (by kernel_rfl)) rfl ?_
  exact ⟨rfl, HT.out.ext⟩
set_option maxHeartbeats 4000000 in
theorem refTwice_any (e : E) (w : World) : Calls Try.prog 17 #[.agg (EV e)] w fun x w' => x = .returned (.agg (EV (twiceE e))) ∧ Ext w w' := by
 cases hg : goodB e with
 | false =>
  rw [twiceE_no hg]
  go_enter Try.func17, Try.ntmps17
  go_wp2_with (first
   | (refine wl_boxG (C := EV e) rfl rfl rfl ?_; intro w1 g1 hg1 hb1 he1; have HG1 : Hid (g1 = w.heap.size) := hg1; clear hg1)
   | (have q := hb1; clear q; refine wl_allocG rfl rfl zeroR ?_; intro w2 g2 hg2 hb2 he2; have HT : Hid (Two w w2 g1 g2 _ e e0) := ⟨hb1.ext he2, hb2, he1.trans he2, Nat.le_of_eq HG1.out.symm, (by rw [hg2]; exact hb1.lt)⟩; clear hb1 hb2 he1 he2 hg2 HG1)
   | (have q := HT; clear q; refine wl_load rfl rowR rfl rfl HT.out.a rfl ?_)
   | (go_at_call 12; refine (refGood_any _ _).mono ?_; rintro e w3 ⟨rfl, he3⟩; rw [hg]; replace HT : Hid (Two _ _ _ _ _ _ _) := HT.out.grow he3; clear he3)
   | (go_at_call 15; refine (refFirst_any _).mono ?_; rintro e w3 ⟨rfl, he3⟩; replace HT : Hid (Two _ _ _ _ _ _ _) := HT.out.grow he3; clear he3)
   | (have q := HT; clear q; refine wl_store rfl rowR rfl rfl rfl HT.out.b rfl rfl (EV.one _) ?_; intro w4 hb4 hk4 hx4; clear hx4; replace HT : Hid (Two _ _ _ _ _ _ _) := HT.out.setB hb4 hk4; clear hb4 hk4)
   | (have q := HT; clear q; refine wl_get0 HT.out.a rfl rfl rfl ?_)
   | (have q := HT; clear q; refine wl_get1 HT.out.a rfl rfl rfl ?_)
   | (have q := HT; clear q; refine wl_get2 HT.out.a rfl rfl rfl ?_)
   | (have q := HT; clear q; refine wl_get3 HT.out.a rfl rfl rfl ?_))
  refine bodyPost_ret (results_cell_row (fn := Try.f17) (p := 2) rfl _ _ _ _ _ (0, 0) _ rfl HT.out.b Try.underlying23 rfl (by kernel_rfl)) rfl ?_
  exact ⟨rfl, HT.out.ext⟩
 | true =>
  have hn := (goodB_iff e).1 hg
  obtain ⟨M, hM⟩ : ∃ M, M = e.wt + e.wt := ⟨_, rfl⟩
  have hw : IntKind.i64.wrap (e.wt + e.wt) = M := by rw [IntKind.wrap_i64, hM]; omega
  rw [twiceE_yes hg, show 2 * e.wt = M from by omega]
  by_cases hx : M > 600
  ·
   have d1 : decide (M > 600) = true := decide_eq_true hx
   have HB : Hid (bd M = 600) := show _ = _ by unfold bd; rw [if_neg (by omega), if_pos (by omega)]
   rw [HB.out]
   clear hn hM hx
   go_enter Try.func17, Try.ntmps17
   go_wp2_with (first
    | (refine wl_boxG (C := EV e) rfl rfl rfl ?_; intro w1 g1 hg1 hb1 he1; have HG1 : Hid (g1 = w.heap.size) := hg1; clear hg1)
    | (have q := hb1; clear q; refine wl_allocG rfl rfl zeroR ?_; intro w2 g2 hg2 hb2 he2; have HT : Hid (Two w w2 g1 g2 _ e e0) := ⟨hb1.ext he2, hb2, he1.trans he2, Nat.le_of_eq HG1.out.symm, (by rw [hg2]; exact hb1.lt)⟩; clear hb1 hb2 he1 he2 hg2 HG1)
    | (have q := HT; clear q; refine wl_load rfl rowR rfl rfl HT.out.a rfl ?_)
    | (go_at_call 12; refine (refGood_any _ _).mono ?_; rintro e w3 ⟨rfl, he3⟩; rw [hg]; replace HT : Hid (Two _ _ _ _ _ _ _) := HT.out.grow he3; clear he3)
    | (have q := HT; clear q; refine wl_set2 HT.out.a rfl rfl rfl rfl ?_; intro w4 hb4 hk4; replace HT : Hid (Two _ _ _ _ _ _ _) := HT.out.setA hb4 hk4; clear hb4 hk4)
    | (have q := HT; clear q; refine wl_store rfl rowR rfl rfl rfl HT.out.b rfl rfl (EV.one _) ?_; intro w4 hb4 hk4 hx4; clear hx4; replace HT : Hid (Two _ _ _ _ _ _ _) := HT.out.setB hb4 hk4; clear hb4 hk4)
    | (have q := HT; clear q; refine wl_get0 HT.out.a rfl rfl rfl ?_)
    | (have q := HT; clear q; refine wl_get1 HT.out.a rfl rfl rfl ?_)
    | (have q := HT; clear q; refine wl_get2 HT.out.a rfl rfl rfl ?_)
    | (have q := HT; clear q; refine wl_get3 HT.out.a rfl rfl rfl ?_))
   refine bodyPost_ret (results_cell_row (fn := Try.f17) (p := 2) rfl _ _ _ _ _ (0, 0) _ rfl HT.out.b Try.underlying23 rfl (by kernel_rfl)) rfl ?_
   exact ⟨rfl, HT.out.ext⟩
  ·
   have d1 : decide (M > 600) = false := decide_eq_false hx
   have HB : Hid (bd M = M) := show _ = _ by unfold bd; rw [if_neg (by omega), if_neg (by omega)]
   rw [HB.out]
   clear hn hM hx
   go_enter Try.func17, Try.ntmps17
   go_wp2_with (first
    | (refine wl_boxG (C := EV e) rfl rfl rfl ?_; intro w1 g1 hg1 hb1 he1; have HG1 : Hid (g1 = w.heap.size) := hg1; clear hg1)
    | (have q := hb1; clear q; refine wl_allocG rfl rfl zeroR ?_; intro w2 g2 hg2 hb2 he2; have HT : Hid (Two w w2 g1 g2 _ e e0) := ⟨hb1.ext he2, hb2, he1.trans he2, Nat.le_of_eq HG1.out.symm, (by rw [hg2]; exact hb1.lt)⟩; clear hb1 hb2 he1 he2 hg2 HG1)
    | (have q := HT; clear q; refine wl_load rfl rowR rfl rfl HT.out.a rfl ?_)
    | (go_at_call 12; refine (refGood_any _ _).mono ?_; rintro e w3 ⟨rfl, he3⟩; rw [hg]; replace HT : Hid (Two _ _ _ _ _ _ _) := HT.out.grow he3; clear he3)
    | (have q := HT; clear q; refine wl_set2 HT.out.a rfl rfl rfl rfl ?_; intro w4 hb4 hk4; replace HT : Hid (Two _ _ _ _ _ _ _) := HT.out.setA hb4 hk4; clear hb4 hk4)
    | (have q := HT; clear q; refine wl_store rfl rowR rfl rfl rfl HT.out.b rfl rfl (EV.one _) ?_; intro w4 hb4 hk4 hx4; clear hx4; replace HT : Hid (Two _ _ _ _ _ _ _) := HT.out.setB hb4 hk4; clear hb4 hk4)
    | (have q := HT; clear q; refine wl_get0 HT.out.a rfl rfl rfl ?_)
    | (have q := HT; clear q; refine wl_get1 HT.out.a rfl rfl rfl ?_)
    | (have q := HT; clear q; refine wl_get2 HT.out.a rfl rfl rfl ?_)
    | (have q := HT; clear q; refine wl_get3 HT.out.a rfl rfl rfl ?_))
   refine bodyPost_ret (results_cell_row (fn := Try.f17) (p := 2) rfl _ _ _ _ _ (0, 0) _ rfl HT.out.b Try.underlying23 rfl (by kernel_rfl)) rfl ?_
   exact ⟨rfl, HT.out.ext⟩
/-- Whole ticks. -/
def timesE (e : E) : Int × Int := if goodB e = true then (e.sm / 8, e.sp / 4) else (0, 0)
set_option maxHeartbeats 4000000 in
theorem times_any (e : E) (w : World) : Calls Try.prog 10 #[.agg (EV e)] w fun x w' => x = .returned (.tuple #[.int .i64 (timesE e).1, .int .i64 (timesE e).2]) ∧ Ext w w' := by
 cases hg : goodB e with
 | false =>
  rw [show timesE e = (0, 0) from if_neg (by rw [hg]; decide)]
  go_enter Try.func10, Try.ntmps10
  go_wp2_with (first
   | (refine wl_box (C := EV e) rfl rfl rfl ?_; intro w1 hb1 he1 hx1; clear hx1)
   | (refine wl_load rfl rowE rfl rfl hb1 rfl ?_)
   | (go_at_call 11; refine (good_any _ _).mono ?_; rintro e w3 ⟨rfl, he3⟩; rw [hg]))
  go_ret2
  exact ⟨rfl, he1.trans he3⟩
 | true =>
  have hn := (goodB_iff e).1 hg
  obtain ⟨p, hp⟩ : ∃ p, p = e.sm / 8 := ⟨_, rfl⟩
  obtain ⟨q, hq⟩ : ∃ q, q = e.sp / 4 := ⟨_, rfl⟩
  have hp1 : e.sm.tdiv 8 = p := by rw [Int.tdiv_eq_ediv_of_nonneg (by omega), hp]
  have hq1 : e.sp.tdiv 4 = q := by rw [Int.tdiv_eq_ediv_of_nonneg (by omega), hq]
  have hp2 : IntKind.i64.wrap p = p := by rw [IntKind.wrap_i64]; omega
  have hq2 : IntKind.i64.wrap q = q := by rw [IntKind.wrap_i64]; omega
  rw [show timesE e = (p, q) from (if_pos hg).trans (by rw [hp, hq])]
  clear hn hp hq
  go_enter Try.func10, Try.ntmps10
  go_wp2_with (first
   | (refine wl_box (C := EV e) rfl rfl rfl ?_; intro w1 hb1 he1 hx1; clear hx1)
   | (refine wl_load rfl rowE rfl rfl hb1 rfl ?_)
   | (go_at_call 11; refine (good_any _ _).mono ?_; rintro e w3 ⟨rfl, he3⟩; rw [hg]; have x0 := ev0 (hb1.ext he3); have x1 := ev1 (hb1.ext he3)))
  go_quiet (fail)
  go_wp2
  go_ret2
  exact ⟨rfl, (he1.trans he3).trans (Ext.drewN _ _)⟩
end Rto
end Go.Proofs.Ytdjijipbfiofmaa
/- The estimate behind an answer. No condition of its own. -/
namespace Go.Proofs.Ytdjijipbfiofmaa
namespace Rto
open Go Go.RowKit
set_option maxRecDepth 100000
theorem res_two {fn : Func} {p u : Tmp} {ty g t : Nat} {cs : Array Value} {fs : Array Field} {x : Value} (h : fn.results = #[.cell p ty, .tmp u]) (tmps : Array Value) (w : World) (hp : tmps.getD p undef = .pointer (some ⟨g, 0, none⟩)) (hx : tmps.getD u undef = x) (hg : Blk w g cs t) (hu : Try.prog.underlying ty = some (.struct fs)) (hi : (Try.prog.info? ty).map (·.size) = some cs.size) :
  (results fn tmps).run Try.prog w = .ok (.tuple #[.agg cs, x]) w := by
 rw [results_cell_tmp h, hp, hx]
 have := run_loadVar_row (P := Try.prog) w g t ty cs (0, 0) _ hg hu rfl hi
 simp [asAddr, this]
def absI (d : Int) : Int := if d < 0 then -d else d
/-- The estimate behind an answer that took r ticks. -/
def tookE (e : E) (r : Int) : E :=
 if e.me = true then ⟨e.sm + (r - e.sm / 8), e.sp + (absI (r - e.sm / 8) - e.sp / 4), bd ((e.sm + (r - e.sm / 8)) / 8 + (e.sp + (absI (r - e.sm / 8) - e.sp / 4))), true⟩
 else ⟨8 * r, 2 * r, bd (r + 2 * r), true⟩
def okT (e : E) (r : Int) : Bool := goodB e && decide (0 ≤ r) && decide (r ≤ 65535)
theorem okT_iff (e : E) (r : Int) : okT e r = true ↔ goodB e = true ∧ 0 ≤ r ∧ r ≤ 65535 := by simp [okT, and_assoc]
def tookV (e : E) (r : Int) : E := if okT e r = true then tookE e r else e0
def tookN (e : E) (r : Int) : Int := if okT e r = true then 0 else 1
theorem took_no {e : E} {r : Int} (h : okT e r = false) : tookV e r = e0 ∧ tookN e r = 1 := ⟨if_neg (by rw [h]; decide), if_neg (by rw [h]; decide)⟩
theorem took_yes {e : E} {r : Int} (h : okT e r = true) : tookV e r = tookE e r ∧ tookN e r = 0 := ⟨if_pos h, if_pos h⟩
set_option maxHeartbeats 8000000 in
theorem took_any (e : E) (r : Int) (w : World) : Calls Try.prog 8 #[.agg (EV e), .int .i64 r] w fun x w' => x = .returned (.tuple #[.agg (EV (tookV e r)), errV (tookN e r)]) ∧ Ext w w' := by
 cases hg : goodB e with
 | false =>
  obtain ⟨a1, a2⟩ := took_no (show okT e r = false by simp [okT, hg])
  rw [a1, a2]
  clear a1 a2
  go_enter Try.func8, Try.ntmps8
  go_wp2_with (first
   | (refine wl_boxG (C := EV e) rfl rfl rfl ?_; intro w1 g1 hg1 hb1 he1; have HG1 : Hid (g1 = w.heap.size) := hg1; clear hg1)
   | (have q := hb1; clear q; refine wl_allocG rfl rfl zeroE ?_; intro w2 g2 hg2 hb2 he2; have HT : Hid (Two w w2 g1 g2 _ e e0) := ⟨hb1.ext he2, hb2, he1.trans he2, Nat.le_of_eq HG1.out.symm, (by rw [hg2]; exact hb1.lt)⟩; clear hb1 hb2 he1 he2 hg2 HG1)
   | (have q := HT; clear q; refine wl_load rfl rowE rfl rfl HT.out.a rfl ?_)
   | (go_at_call 11; refine (good_any _ _).mono ?_; rintro e w3 ⟨rfl, he3⟩; rw [hg]; replace HT : Hid (Two _ _ _ _ _ _ _) := HT.out.grow he3; clear he3)
   | (have q := HT; clear q; refine wl_store (D := EV e0) rfl rowE rfl rfl rfl HT.out.b rfl rfl (EV.one _) ?_; intro w4 hb4 hk4 hx4; clear hx4; replace HT : Hid (Two _ _ _ _ _ _ _) := HT.out.setB hb4 hk4; clear hb4 hk4)
   | (have q := HT; clear q; refine wl_get0 HT.out.a rfl rfl rfl ?_)
   | (have q := HT; clear q; refine wl_get1 HT.out.a rfl rfl rfl ?_)
   | (have q := HT; clear q; refine wl_get2 HT.out.a rfl rfl rfl ?_)
   | (have q := HT; clear q; refine wl_get3 HT.out.a rfl rfl rfl ?_))
  refine bodyPost_ret (res_two (fn := Try.f8) (p := 4) (u := 5) rfl _ _ rfl rfl HT.out.b Try.underlying25 (by kernel_rfl)) rfl ?_
  exact ⟨rfl, HT.out.ext⟩
 | true =>
 by_cases h1 : r < 0
 ·
  have d1 : decide (r < 0) = true := decide_eq_true h1
  obtain ⟨a1, a2⟩ := took_no (show okT e r = false by rw [Bool.eq_false_iff, Ne, okT_iff]; omega)
  rw [a1, a2]
  clear a1 a2
  go_enter Try.func8, Try.ntmps8
  go_wp2_with (first
   | (refine wl_boxG (C := EV e) rfl rfl rfl ?_; intro w1 g1 hg1 hb1 he1; have HG1 : Hid (g1 = w.heap.size) := hg1; clear hg1)
   | (have q := hb1; clear q; refine wl_allocG rfl rfl zeroE ?_; intro w2 g2 hg2 hb2 he2; have HT : Hid (Two w w2 g1 g2 _ e e0) := ⟨hb1.ext he2, hb2, he1.trans he2, Nat.le_of_eq HG1.out.symm, (by rw [hg2]; exact hb1.lt)⟩; clear hb1 hb2 he1 he2 hg2 HG1)
   | (have q := HT; clear q; refine wl_load rfl rowE rfl rfl HT.out.a rfl ?_)
   | (go_at_call 11; refine (good_any _ _).mono ?_; rintro e w3 ⟨rfl, he3⟩; rw [hg]; replace HT : Hid (Two _ _ _ _ _ _ _) := HT.out.grow he3; clear he3)
   | (have q := HT; clear q; refine wl_store (D := EV e0) rfl rowE rfl rfl rfl HT.out.b rfl rfl (EV.one _) ?_; intro w4 hb4 hk4 hx4; clear hx4; replace HT : Hid (Two _ _ _ _ _ _ _) := HT.out.setB hb4 hk4; clear hb4 hk4)
   | (have q := HT; clear q; refine wl_get0 HT.out.a rfl rfl rfl ?_)
   | (have q := HT; clear q; refine wl_get1 HT.out.a rfl rfl rfl ?_)
   | (have q := HT; clear q; refine wl_get2 HT.out.a rfl rfl rfl ?_)
   | (have q := HT; clear q; refine wl_get3 HT.out.a rfl rfl rfl ?_))
  refine bodyPost_ret (res_two (fn := Try.f8) (p := 4) (u := 5) rfl _ _ rfl rfl HT.out.b Try.underlying25 (by kernel_rfl)) rfl ?_
  exact ⟨rfl, HT.out.ext⟩
 have hd1 : decide (r < 0) = false := decide_eq_false h1
 by_cases h2 : r > 65535
 ·
  have d2 : decide (r > 65535) = true := decide_eq_true h2
  obtain ⟨a1, a2⟩ := took_no (show okT e r = false by rw [Bool.eq_false_iff, Ne, okT_iff]; omega)
  rw [a1, a2]
  clear a1 a2
  go_enter Try.func8, Try.ntmps8
  go_wp2_with (first
   | (refine wl_boxG (C := EV e) rfl rfl rfl ?_; intro w1 g1 hg1 hb1 he1; have HG1 : Hid (g1 = w.heap.size) := hg1; clear hg1)
   | (have q := hb1; clear q; refine wl_allocG rfl rfl zeroE ?_; intro w2 g2 hg2 hb2 he2; have HT : Hid (Two w w2 g1 g2 _ e e0) := ⟨hb1.ext he2, hb2, he1.trans he2, Nat.le_of_eq HG1.out.symm, (by rw [hg2]; exact hb1.lt)⟩; clear hb1 hb2 he1 he2 hg2 HG1)
   | (have q := HT; clear q; refine wl_load rfl rowE rfl rfl HT.out.a rfl ?_)
   | (go_at_call 11; refine (good_any _ _).mono ?_; rintro e w3 ⟨rfl, he3⟩; rw [hg]; replace HT : Hid (Two _ _ _ _ _ _ _) := HT.out.grow he3; clear he3)
   | (have q := HT; clear q; refine wl_store (D := EV e0) rfl rowE rfl rfl rfl HT.out.b rfl rfl (EV.one _) ?_; intro w4 hb4 hk4 hx4; clear hx4; replace HT : Hid (Two _ _ _ _ _ _ _) := HT.out.setB hb4 hk4; clear hb4 hk4)
   | (have q := HT; clear q; refine wl_get0 HT.out.a rfl rfl rfl ?_)
   | (have q := HT; clear q; refine wl_get1 HT.out.a rfl rfl rfl ?_)
   | (have q := HT; clear q; refine wl_get2 HT.out.a rfl rfl rfl ?_)
   | (have q := HT; clear q; refine wl_get3 HT.out.a rfl rfl rfl ?_))
  refine bodyPost_ret (res_two (fn := Try.f8) (p := 4) (u := 5) rfl _ _ rfl rfl HT.out.b Try.underlying25 (by kernel_rfl)) rfl ?_
  exact ⟨rfl, HT.out.ext⟩
 have hd2 : decide (r > 65535) = false := decide_eq_false h2
 obtain ⟨a1, a2⟩ := took_yes ((okT_iff e r).2 ⟨hg, by omega, by omega⟩)
 rw [a1, a2]
 clear a1 a2
 have hn := (goodB_iff e).1 hg
 cases hme : e.me with
 | false =>
  obtain ⟨A, hA⟩ : ∃ A, A = 8 * r := ⟨_, rfl⟩
  have A1 : IntKind.i64.wrap (8 * r) = A := by rw [IntKind.wrap_i64]; omega
  obtain ⟨B, hB⟩ : ∃ B, B = 2 * r := ⟨_, rfl⟩
  have B1 : IntKind.i64.wrap (2 * r) = B := by rw [IntKind.wrap_i64]; omega
  have A2 : A.tdiv 8 = r := by rw [Int.tdiv_eq_ediv_of_nonneg (by omega)]; omega
  have A3 : IntKind.i64.wrap r = r := by rw [IntKind.wrap_i64]; omega
  obtain ⟨C, hC⟩ : ∃ C, C = r + B := ⟨_, rfl⟩
  have C1 : IntKind.i64.wrap (r + B) = C := by rw [IntKind.wrap_i64]; omega
  rw [show tookE e r = ⟨A, B, bd C, true⟩ from by unfold tookE; rw [if_neg (by rw [hme]; decide), hC, hA, hB]]
  clear hn h1 h2 hA hB hC
  go_enter Try.func8, Try.ntmps8
  go_wp2_with (first
   | (refine wl_boxG (C := EV e) rfl rfl rfl ?_; intro w1 g1 hg1 hb1 he1; have HG1 : Hid (g1 = w.heap.size) := hg1; clear hg1)
   | (have q := hb1; clear q; refine wl_allocG rfl rfl zeroE ?_; intro w2 g2 hg2 hb2 he2; have HT : Hid (Two w w2 g1 g2 _ e e0) := ⟨hb1.ext he2, hb2, he1.trans he2, Nat.le_of_eq HG1.out.symm, (by rw [hg2]; exact hb1.lt)⟩; clear hb1 hb2 he1 he2 hg2 HG1)
   | (have q := HT; clear q; refine wl_load rfl rowE rfl rfl HT.out.a rfl ?_)
   | (go_at_call 11; refine (good_any _ _).mono ?_; rintro e w3 ⟨rfl, he3⟩; rw [hg]; replace HT : Hid (Two _ _ _ _ _ _ _) := HT.out.grow he3; clear he3)
   | (have q := HT; clear q; refine wl_store (D := EV ⟨A, B, 0, true⟩) rfl rowE rfl rfl rfl HT.out.a rfl rfl (EV.one _) ?_; intro w4 hb4 hk4 hx4; clear hx4; replace HT : Hid (Two _ _ _ _ _ _ _) := HT.out.setA hb4 hk4; clear hb4 hk4)
   | (go_at_call 20; refine (bounded_any _ _).mono ?_; rintro e w3 ⟨rfl, he3⟩; replace HT : Hid (Two _ _ _ _ _ _ _) := HT.out.grow he3; clear he3)
   | (have q := HT; clear q; refine wl_set2 HT.out.a rfl rfl rfl rfl ?_; intro w4 hb4 hk4; replace HT : Hid (Two _ _ _ _ _ _ _) := HT.out.setA hb4 hk4; clear hb4 hk4)
   | (have q := HT; clear q; refine wl_store rfl rowE rfl rfl rfl HT.out.b rfl rfl (EV.one _) ?_; intro w4 hb4 hk4 hx4; clear hx4; replace HT : Hid (Two _ _ _ _ _ _ _) := HT.out.setB hb4 hk4; clear hb4 hk4)
   | (have q := HT; clear q; refine wl_get0 HT.out.a rfl rfl rfl ?_)
   | (have q := HT; clear q; refine wl_get1 HT.out.a rfl rfl rfl ?_)
   | (have q := HT; clear q; refine wl_get2 HT.out.a rfl rfl rfl ?_)
   | (have q := HT; clear q; refine wl_get3 HT.out.a rfl rfl rfl ?_; rw [hme]))
  refine bodyPost_ret (res_two (fn := Try.f8) (p := 4) (u := 5) rfl _ _ rfl rfl HT.out.b Try.underlying25 (by kernel_rfl)) rfl ?_
  exact ⟨rfl, HT.out.ext⟩
 | true =>
  obtain ⟨q, hq⟩ : ∃ q, q = e.sm / 8 := ⟨_, rfl⟩
  have q1 : e.sm.tdiv 8 = q := by rw [Int.tdiv_eq_ediv_of_nonneg (by omega), hq]
  have q2 : IntKind.i64.wrap q = q := by rw [IntKind.wrap_i64]; omega
  obtain ⟨d, hd⟩ : ∃ d, d = r - q := ⟨_, rfl⟩
  have d1 : IntKind.i64.wrap (r - q) = d := by rw [IntKind.wrap_i64]; omega
  obtain ⟨S, hS⟩ : ∃ S, S = e.sm + d := ⟨_, rfl⟩
  have s1 : IntKind.i64.wrap (e.sm + d) = S := by rw [IntKind.wrap_i64]; omega
  obtain ⟨n, hnn⟩ : ∃ n, n = -d := ⟨_, rfl⟩
  have n1 : IntKind.i64.wrap (-d) = n := by rw [IntKind.wrap_i64]; omega
  obtain ⟨p, hp⟩ : ∃ p, p = e.sp / 4 := ⟨_, rfl⟩
  have p1 : e.sp.tdiv 4 = p := by rw [Int.tdiv_eq_ediv_of_nonneg (by omega), hp]
  have p2 : IntKind.i64.wrap p = p := by rw [IntKind.wrap_i64]; omega
  obtain ⟨u, hu⟩ : ∃ u, u = S / 8 := ⟨_, rfl⟩
  have u1 : S.tdiv 8 = u := by rw [Int.tdiv_eq_ediv_of_nonneg (by omega), hu]
  have u2 : IntKind.i64.wrap u = u := by rw [IntKind.wrap_i64]; omega
  have hM : absI d = if d < n then n else d := by rw [hnn]; unfold absI; split <;> split <;> omega
  have hM2 : 0 ≤ absI d ∧ absI d ≤ 65535 := by unfold absI; split <;> omega
  obtain ⟨v, hv⟩ : ∃ v, v = absI d - p := ⟨_, rfl⟩
  have v1 : IntKind.i64.wrap ((if d < n then n else d) - p) = v := by rw [← hM, IntKind.wrap_i64]; omega
  obtain ⟨Z, hZ⟩ : ∃ Z, Z = e.sp + v := ⟨_, rfl⟩
  have z1 : IntKind.i64.wrap (e.sp + v) = Z := by rw [IntKind.wrap_i64]; omega
  obtain ⟨C, hC⟩ : ∃ C, C = u + Z := ⟨_, rfl⟩
  have C1 : IntKind.i64.wrap (u + Z) = C := by rw [IntKind.wrap_i64]; omega
  rw [show tookE e r = ⟨S, Z, bd C, true⟩ from by unfold tookE; rw [if_pos hme, ← hq, ← hd, ← hS, ← hu, ← hp, ← hv, ← hZ, ← hC]]
  clear hn hnn h1 h2 hq hd hS hp hu hM hM2 hv hZ hC
  go_enter Try.func8, Try.ntmps8
  go_wp2_with (first
   | (refine wl_boxG (C := EV e) rfl rfl rfl ?_; intro w1 g1 hg1 hb1 he1; have HG1 : Hid (g1 = w.heap.size) := hg1; clear hg1)
   | (have q := hb1; clear q; refine wl_allocG rfl rfl zeroE ?_; intro w2 g2 hg2 hb2 he2; have HT : Hid (Two w w2 g1 g2 _ e e0) := ⟨hb1.ext he2, hb2, he1.trans he2, Nat.le_of_eq HG1.out.symm, (by rw [hg2]; exact hb1.lt)⟩; clear hb1 hb2 he1 he2 hg2 HG1)
   | (have q := HT; clear q; refine wl_load rfl rowE rfl rfl HT.out.a rfl ?_)
   | (go_at_call 11; refine (good_any _ _).mono ?_; rintro e w3 ⟨rfl, he3⟩; rw [hg]; replace HT : Hid (Two _ _ _ _ _ _ _) := HT.out.grow he3; clear he3)
   | (go_at_call 20; refine (bounded_any _ _).mono ?_; rintro e w3 ⟨rfl, he3⟩; replace HT : Hid (Two _ _ _ _ _ _ _) := HT.out.grow he3; clear he3)
   | (have q := HT; clear q; refine wl_set0 HT.out.a rfl rfl rfl rfl ?_; intro w4 hb4 hk4; replace HT : Hid (Two _ _ _ _ _ _ _) := HT.out.setA hb4 hk4; clear hb4 hk4)
   | (have q := HT; clear q; refine wl_set1 HT.out.a rfl rfl rfl rfl ?_; intro w4 hb4 hk4; replace HT : Hid (Two _ _ _ _ _ _ _) := HT.out.setA hb4 hk4; clear hb4 hk4)
   | (have q := HT; clear q; refine wl_set2 HT.out.a rfl rfl rfl rfl ?_; intro w4 hb4 hk4; replace HT : Hid (Two _ _ _ _ _ _ _) := HT.out.setA hb4 hk4; clear hb4 hk4)
   | (have q := HT; clear q; refine wl_store rfl rowE rfl rfl rfl HT.out.b rfl rfl (EV.one _) ?_; intro w4 hb4 hk4 hx4; clear hx4; replace HT : Hid (Two _ _ _ _ _ _ _) := HT.out.setB hb4 hk4; clear hb4 hk4)
   | (have q := HT; clear q; refine wl_get0 HT.out.a rfl rfl rfl ?_)
   | (have q := HT; clear q; refine wl_get1 HT.out.a rfl rfl rfl ?_)
   | (have q := HT; clear q; refine wl_get2 HT.out.a rfl rfl rfl ?_)
   | (have q := HT; clear q; refine wl_get3 HT.out.a rfl rfl rfl ?_; rw [hme]))
  all_goals
   refine bodyPost_ret (res_two (fn := Try.f8) (p := 4) (u := 5) rfl _ _ rfl rfl HT.out.b Try.underlying25 (by kernel_rfl)) rfl ?_
   exact ⟨by rw [show ({ sm := S, sp := Z, wt := bd C, me := e.me } : E) = ⟨S, Z, bd C, true⟩ from by rw [hme]]; rfl, HT.out.ext⟩
end Rto
end Go.Proofs.Ytdjijipbfiofmaa
/- The document's estimate behind an answer; of one that is not measured, or where there is none. No condition of its own. -/
namespace Go.Proofs.Ytdjijipbfiofmaa
namespace Rto
open Go Go.RowKit
set_option maxRecDepth 100000
/-- Three estimates in blocks of the own. -/
structure Tri (w0 w : World) (g h k T : Nat) (x y z : E) : Prop where
 a : Blk w g (EV x) T
 b : Blk w h (EV y) T
 c : Blk w k (EV z) T
 ext : Ext w0 w
 g0 : w0.heap.size ≤ g
 lt : g < h
 lk : h < k
theorem Tri.grow {w0 w w' : World} {g h k T : Nat} {x y z : E} (H : Tri w0 w g h k T x y z) (he : Ext w w') : Tri w0 w' g h k T x y z := ⟨H.a.ext he, H.b.ext he, H.c.ext he, H.ext.trans he, H.g0, H.lt, H.lk⟩
theorem Tri.setC {w0 w w' : World} {g h k T : Nat} {x y z u : E} (H : Tri w0 w g h k T x y z) (hz : Blk w' k (EV u) T) (hk : KeepBut (· = k) w w') : Tri w0 w' g h k T x y u := ⟨H.a.but hk (by have := H.lt; have := H.lk; omega), H.b.but hk (by have := H.lk; omega), hz, H.ext.of_but hk (fun q e => by subst e; have := H.g0; have := H.lt; have := H.lk; omega), H.g0, H.lt, H.lk⟩
theorem Tri.setB {w0 w w' : World} {g h k T : Nat} {x y z u : E} (H : Tri w0 w g h k T x y z) (hz : Blk w' h (EV u) T) (hk : KeepBut (· = h) w w') : Tri w0 w' g h k T x u z := ⟨H.a.but hk (by have := H.lt; omega), hz, H.c.but hk (by have := H.lk; omega), H.ext.of_but hk (fun q e => by subst e; have := H.g0; have := H.lt; omega), H.g0, H.lt, H.lk⟩
set_option maxHeartbeats 8000000 in
theorem refTook_no {e : E} {r : Int} {w : World} (hk : okT e r = false) : Calls Try.prog 9 #[.agg (EV e), .int .i64 r] w fun x w' => x = .returned (.tuple #[.agg (EV (tookV e r)), .bool (okT e r)]) ∧ Ext w w' := by
 rw [(took_no hk).1, hk]
 cases hg : goodB e with
 | false =>
  go_enter Try.func9, Try.ntmps9
  go_wp2_with (first
   | (refine wl_boxG (C := EV e) rfl rfl rfl ?_; intro w1 g1 hg1 hb1 he1; have HG1 : Hid (g1 = w.heap.size) := hg1; clear hg1)
   | (have q := hb1; clear q; refine wl_allocG rfl rfl zeroR ?_; intro w2 g2 hg2 hb2 he2; have HT : Hid (Two w w2 g1 g2 _ e e0) := ⟨hb1.ext he2, hb2, he1.trans he2, Nat.le_of_eq HG1.out.symm, (by rw [hg2]; exact hb1.lt)⟩; clear hb1 hb2 he1 he2 hg2 HG1)
   | (have q := HT; clear q; refine wl_load rfl rowR rfl rfl HT.out.a rfl ?_)
   | (go_at_call 12; refine (refGood_any _ _).mono ?_; rintro e w3 ⟨rfl, he3⟩; rw [hg]; replace HT : Hid (Two _ _ _ _ _ _ _) := HT.out.grow he3; clear he3)
   | (have q := HT; clear q; refine wl_store (D := EV e0) rfl rowR rfl rfl rfl HT.out.b rfl rfl (EV.one _) ?_; intro w4 hb4 hk4 hx4; clear hx4; replace HT : Hid (Two _ _ _ _ _ _ _) := HT.out.setB hb4 hk4; clear hb4 hk4))
  refine bodyPost_ret (res_two (fn := Try.f9) (p := 4) (u := 5) rfl _ _ rfl rfl HT.out.b Try.underlying23 (by kernel_rfl)) rfl ?_
  exact ⟨rfl, HT.out.ext⟩
 | true =>
 by_cases h1 : r < 0
 ·
  have d1 : decide (r < 0) = true := decide_eq_true h1
  go_enter Try.func9, Try.ntmps9
  go_wp2_with (first
   | (refine wl_boxG (C := EV e) rfl rfl rfl ?_; intro w1 g1 hg1 hb1 he1; have HG1 : Hid (g1 = w.heap.size) := hg1; clear hg1)
   | (have q := hb1; clear q; refine wl_allocG rfl rfl zeroR ?_; intro w2 g2 hg2 hb2 he2; have HT : Hid (Two w w2 g1 g2 _ e e0) := ⟨hb1.ext he2, hb2, he1.trans he2, Nat.le_of_eq HG1.out.symm, (by rw [hg2]; exact hb1.lt)⟩; clear hb1 hb2 he1 he2 hg2 HG1)
   | (have q := HT; clear q; refine wl_load rfl rowR rfl rfl HT.out.a rfl ?_)
   | (go_at_call 12; refine (refGood_any _ _).mono ?_; rintro e w3 ⟨rfl, he3⟩; rw [hg]; replace HT : Hid (Two _ _ _ _ _ _ _) := HT.out.grow he3; clear he3)
   | (have q := HT; clear q; refine wl_store (D := EV e0) rfl rowR rfl rfl rfl HT.out.b rfl rfl (EV.one _) ?_; intro w4 hb4 hk4 hx4; clear hx4; replace HT : Hid (Two _ _ _ _ _ _ _) := HT.out.setB hb4 hk4; clear hb4 hk4))
  refine bodyPost_ret (res_two (fn := Try.f9) (p := 4) (u := 5) rfl _ _ rfl rfl HT.out.b Try.underlying23 (by kernel_rfl)) rfl ?_
  exact ⟨rfl, HT.out.ext⟩
 have hd1 : decide (r < 0) = false := decide_eq_false h1
 have h2 : r > 65535 := by
  rw [Bool.eq_false_iff, Ne, okT_iff] at hk
  by_cases h3 : r > 65535
  ·
   exact h3
  ·
   exact absurd ⟨hg, by omega, by omega⟩ hk
 have d2 : decide (r > 65535) = true := decide_eq_true h2
 go_enter Try.func9, Try.ntmps9
 go_wp2_with (first
  | (refine wl_boxG (C := EV e) rfl rfl rfl ?_; intro w1 g1 hg1 hb1 he1; have HG1 : Hid (g1 = w.heap.size) := hg1; clear hg1)
  | (have q := hb1; clear q; refine wl_allocG rfl rfl zeroR ?_; intro w2 g2 hg2 hb2 he2; have HT : Hid (Two w w2 g1 g2 _ e e0) := ⟨hb1.ext he2, hb2, he1.trans he2, Nat.le_of_eq HG1.out.symm, (by rw [hg2]; exact hb1.lt)⟩; clear hb1 hb2 he1 he2 hg2 HG1)
  | (have q := HT; clear q; refine wl_load rfl rowR rfl rfl HT.out.a rfl ?_)
  | (go_at_call 12; refine (refGood_any _ _).mono ?_; rintro e w3 ⟨rfl, he3⟩; rw [hg]; replace HT : Hid (Two _ _ _ _ _ _ _) := HT.out.grow he3; clear he3)
  | (have q := HT; clear q; refine wl_store (D := EV e0) rfl rowR rfl rfl rfl HT.out.b rfl rfl (EV.one _) ?_; intro w4 hb4 hk4 hx4; clear hx4; replace HT : Hid (Two _ _ _ _ _ _ _) := HT.out.setB hb4 hk4; clear hb4 hk4))
 refine bodyPost_ret (res_two (fn := Try.f9) (p := 4) (u := 5) rfl _ _ rfl rfl HT.out.b Try.underlying23 (by kernel_rfl)) rfl ?_
 exact ⟨rfl, HT.out.ext⟩
set_option maxHeartbeats 8000000 in
theorem refTook_first {e : E} {r : Int} {w : World} (hk : okT e r = true) (hme : e.me = false) : Calls Try.prog 9 #[.agg (EV e), .int .i64 r] w fun x w' => x = .returned (.tuple #[.agg (EV (tookV e r)), .bool (okT e r)]) ∧ Ext w w' := by
  obtain ⟨hg, hr0, hr1⟩ := (okT_iff e r).1 hk
  rw [(took_yes hk).1, hk]
  have hd1 : decide (r < 0) = false := decide_eq_false (by omega)
  have hd2 : decide (r > 65535) = false := decide_eq_false (by omega)
  obtain ⟨A, hA⟩ : ∃ A, A = 8 * r := ⟨_, rfl⟩
  have A1 : IntKind.i64.wrap (8 * r) = A := by rw [IntKind.wrap_i64]; omega
  obtain ⟨B, hB⟩ : ∃ B, B = 2 * r := ⟨_, rfl⟩
  have B1 : IntKind.i64.wrap (2 * r) = B := by rw [IntKind.wrap_i64]; omega
  have A2 : A.tdiv 8 = r := by rw [Int.tdiv_eq_ediv_of_nonneg (by omega)]; omega
  have A3 : IntKind.i64.wrap r = r := by rw [IntKind.wrap_i64]; omega
  obtain ⟨C, hC⟩ : ∃ C, C = r + B := ⟨_, rfl⟩
  have C1 : IntKind.i64.wrap (r + B) = C := by rw [IntKind.wrap_i64]; omega
  rw [show tookE e r = ⟨A, B, bd C, true⟩ from by unfold tookE; rw [if_neg (by rw [hme]; decide), hC, hA, hB]]
  clear hr0 hr1 hA hB hC hk
  by_cases hc : C < 10
  ·
   skip
   have c1 : decide (C < 10) = true := decide_eq_true hc
   have c2 : decide ((10 : Int) > 600) = false := rfl
   have HB : bd C = 10 := by unfold bd; split <;> (try split) <;> omega
   rw [HB]
   clear HB hc
   go_enter Try.func9, Try.ntmps9
   go_wp2_with (first
    | (refine wl_boxG (C := EV e) rfl rfl rfl ?_; intro w1 g1 hg1 hb1 he1; have HG1 : Hid (g1 = w.heap.size) := hg1; clear hg1)
    | (have q := HT; clear q; refine wl_allocG rfl rfl zeroR ?_; intro w5 g5 hg5 hb5 he5; have HT3 : Hid (Tri _ _ _ _ _ _ _ _ _) := ⟨HT.out.a.ext he5, HT.out.b.ext he5, hb5, HT.out.ext.trans he5, HT.out.g0, HT.out.lt, (by rw [hg5]; exact HT.out.b.lt)⟩; clear hb5 he5 hg5 HT)
    | (have q := hb1; clear q; refine wl_allocG rfl rfl zeroR ?_; intro w2 g2 hg2 hb2 he2; have HT : Hid (Two w w2 g1 g2 _ e e0) := ⟨hb1.ext he2, hb2, he1.trans he2, Nat.le_of_eq HG1.out.symm, (by rw [hg2]; exact hb1.lt)⟩; clear hb1 hb2 he1 he2 hg2 HG1)
    | (have q := HT; clear q; refine wl_load rfl rowR rfl rfl HT.out.a rfl ?_)
    | (have q := HT3; clear q; refine wl_load rfl rowR rfl rfl HT3.out.c rfl ?_)
    | (go_at_call 12; refine (refGood_any _ _).mono ?_; rintro e w3 ⟨rfl, he3⟩; rw [hg]; replace HT : Hid (Two _ _ _ _ _ _ _) := HT.out.grow he3; clear he3)
    | (have q := HT3; clear q; refine wl_store (D := EV ⟨A, B, 0, true⟩) rfl rowR rfl rfl rfl HT3.out.c rfl rfl (EV.one _) ?_; intro w4 hb4 hk4 hx4; clear hx4; replace HT3 : Hid (Tri _ _ _ _ _ _ _ _ _) := HT3.out.setC hb4 hk4; clear hb4 hk4)
    | (have q := HT3; clear q; refine wl_set0 HT3.out.c rfl rfl rfl rfl ?_; intro w4 hb4 hk4; replace HT3 : Hid (Tri _ _ _ _ _ _ _ _ _) := HT3.out.setC hb4 hk4; clear hb4 hk4)
    | (have q := HT3; clear q; refine wl_set1 HT3.out.c rfl rfl rfl rfl ?_; intro w4 hb4 hk4; replace HT3 : Hid (Tri _ _ _ _ _ _ _ _ _) := HT3.out.setC hb4 hk4; clear hb4 hk4)
    | (have q := HT3; clear q; refine wl_set2 HT3.out.c rfl rfl rfl rfl ?_; intro w4 hb4 hk4; replace HT3 : Hid (Tri _ _ _ _ _ _ _ _ _) := HT3.out.setC hb4 hk4; clear hb4 hk4)
    | (have q := HT3; clear q; refine wl_store rfl rowR rfl rfl rfl HT3.out.b rfl rfl (EV.one _) ?_; intro w4 hb4 hk4 hx4; clear hx4; replace HT3 : Hid (Tri _ _ _ _ _ _ _ _ _) := HT3.out.setB hb4 hk4; clear hb4 hk4)
    | (have q := HT3; clear q; refine wl_get0 HT3.out.a rfl rfl rfl ?_)
    | (have q := HT3; clear q; refine wl_get1 HT3.out.a rfl rfl rfl ?_)
    | (have q := HT3; clear q; refine wl_get2 HT3.out.a rfl rfl rfl ?_)
    | (have q := HT3; clear q; refine wl_get3 HT3.out.a rfl rfl rfl ?_; rw [hme])
    | (have q := HT3; clear q; refine wl_get0 HT3.out.c rfl rfl rfl ?_)
    | (have q := HT3; clear q; refine wl_get1 HT3.out.c rfl rfl rfl ?_)
    | (have q := HT3; clear q; refine wl_get2 HT3.out.c rfl rfl rfl ?_))
   refine bodyPost_ret (res_two (fn := Try.f9) (p := 4) (u := 5) rfl _ _ rfl rfl HT3.out.b Try.underlying23 (by kernel_rfl)) rfl ?_
   exact ⟨rfl, HT3.out.ext⟩
  by_cases hc : C > 600
  ·
   skip
   have c1 : decide (C < 10) = false := decide_eq_false (by omega)
   have c2 : decide (C > 600) = true := decide_eq_true hc
   have HB : bd C = 600 := by unfold bd; split <;> (try split) <;> omega
   rw [HB]
   clear HB hc
   go_enter Try.func9, Try.ntmps9
   go_wp2_with (first
    | (refine wl_boxG (C := EV e) rfl rfl rfl ?_; intro w1 g1 hg1 hb1 he1; have HG1 : Hid (g1 = w.heap.size) := hg1; clear hg1)
    | (have q := HT; clear q; refine wl_allocG rfl rfl zeroR ?_; intro w5 g5 hg5 hb5 he5; have HT3 : Hid (Tri _ _ _ _ _ _ _ _ _) := ⟨HT.out.a.ext he5, HT.out.b.ext he5, hb5, HT.out.ext.trans he5, HT.out.g0, HT.out.lt, (by rw [hg5]; exact HT.out.b.lt)⟩; clear hb5 he5 hg5 HT)
    | (have q := hb1; clear q; refine wl_allocG rfl rfl zeroR ?_; intro w2 g2 hg2 hb2 he2; have HT : Hid (Two w w2 g1 g2 _ e e0) := ⟨hb1.ext he2, hb2, he1.trans he2, Nat.le_of_eq HG1.out.symm, (by rw [hg2]; exact hb1.lt)⟩; clear hb1 hb2 he1 he2 hg2 HG1)
    | (have q := HT; clear q; refine wl_load rfl rowR rfl rfl HT.out.a rfl ?_)
    | (have q := HT3; clear q; refine wl_load rfl rowR rfl rfl HT3.out.c rfl ?_)
    | (go_at_call 12; refine (refGood_any _ _).mono ?_; rintro e w3 ⟨rfl, he3⟩; rw [hg]; replace HT : Hid (Two _ _ _ _ _ _ _) := HT.out.grow he3; clear he3)
    | (have q := HT3; clear q; refine wl_store (D := EV ⟨A, B, 0, true⟩) rfl rowR rfl rfl rfl HT3.out.c rfl rfl (EV.one _) ?_; intro w4 hb4 hk4 hx4; clear hx4; replace HT3 : Hid (Tri _ _ _ _ _ _ _ _ _) := HT3.out.setC hb4 hk4; clear hb4 hk4)
    | (have q := HT3; clear q; refine wl_set0 HT3.out.c rfl rfl rfl rfl ?_; intro w4 hb4 hk4; replace HT3 : Hid (Tri _ _ _ _ _ _ _ _ _) := HT3.out.setC hb4 hk4; clear hb4 hk4)
    | (have q := HT3; clear q; refine wl_set1 HT3.out.c rfl rfl rfl rfl ?_; intro w4 hb4 hk4; replace HT3 : Hid (Tri _ _ _ _ _ _ _ _ _) := HT3.out.setC hb4 hk4; clear hb4 hk4)
    | (have q := HT3; clear q; refine wl_set2 HT3.out.c rfl rfl rfl rfl ?_; intro w4 hb4 hk4; replace HT3 : Hid (Tri _ _ _ _ _ _ _ _ _) := HT3.out.setC hb4 hk4; clear hb4 hk4)
    | (have q := HT3; clear q; refine wl_store rfl rowR rfl rfl rfl HT3.out.b rfl rfl (EV.one _) ?_; intro w4 hb4 hk4 hx4; clear hx4; replace HT3 : Hid (Tri _ _ _ _ _ _ _ _ _) := HT3.out.setB hb4 hk4; clear hb4 hk4)
    | (have q := HT3; clear q; refine wl_get0 HT3.out.a rfl rfl rfl ?_)
    | (have q := HT3; clear q; refine wl_get1 HT3.out.a rfl rfl rfl ?_)
    | (have q := HT3; clear q; refine wl_get2 HT3.out.a rfl rfl rfl ?_)
    | (have q := HT3; clear q; refine wl_get3 HT3.out.a rfl rfl rfl ?_; rw [hme])
    | (have q := HT3; clear q; refine wl_get0 HT3.out.c rfl rfl rfl ?_)
    | (have q := HT3; clear q; refine wl_get1 HT3.out.c rfl rfl rfl ?_)
    | (have q := HT3; clear q; refine wl_get2 HT3.out.c rfl rfl rfl ?_))
   refine bodyPost_ret (res_two (fn := Try.f9) (p := 4) (u := 5) rfl _ _ rfl rfl HT3.out.b Try.underlying23 (by kernel_rfl)) rfl ?_
   exact ⟨rfl, HT3.out.ext⟩
  have c1 : decide (C < 10) = false := decide_eq_false (by omega)
  have c2 : decide (C > 600) = false := decide_eq_false (by omega)
  have HB : bd C = C := by unfold bd; split <;> (try split) <;> omega
  rw [HB]
  clear HB
  go_enter Try.func9, Try.ntmps9
  go_wp2_with (first
   | (refine wl_boxG (C := EV e) rfl rfl rfl ?_; intro w1 g1 hg1 hb1 he1; have HG1 : Hid (g1 = w.heap.size) := hg1; clear hg1)
   | (have q := HT; clear q; refine wl_allocG rfl rfl zeroR ?_; intro w5 g5 hg5 hb5 he5; have HT3 : Hid (Tri _ _ _ _ _ _ _ _ _) := ⟨HT.out.a.ext he5, HT.out.b.ext he5, hb5, HT.out.ext.trans he5, HT.out.g0, HT.out.lt, (by rw [hg5]; exact HT.out.b.lt)⟩; clear hb5 he5 hg5 HT)
   | (have q := hb1; clear q; refine wl_allocG rfl rfl zeroR ?_; intro w2 g2 hg2 hb2 he2; have HT : Hid (Two w w2 g1 g2 _ e e0) := ⟨hb1.ext he2, hb2, he1.trans he2, Nat.le_of_eq HG1.out.symm, (by rw [hg2]; exact hb1.lt)⟩; clear hb1 hb2 he1 he2 hg2 HG1)
   | (have q := HT; clear q; refine wl_load rfl rowR rfl rfl HT.out.a rfl ?_)
   | (have q := HT3; clear q; refine wl_load rfl rowR rfl rfl HT3.out.c rfl ?_)
   | (go_at_call 12; refine (refGood_any _ _).mono ?_; rintro e w3 ⟨rfl, he3⟩; rw [hg]; replace HT : Hid (Two _ _ _ _ _ _ _) := HT.out.grow he3; clear he3)
   | (have q := HT3; clear q; refine wl_store (D := EV ⟨A, B, 0, true⟩) rfl rowR rfl rfl rfl HT3.out.c rfl rfl (EV.one _) ?_; intro w4 hb4 hk4 hx4; clear hx4; replace HT3 : Hid (Tri _ _ _ _ _ _ _ _ _) := HT3.out.setC hb4 hk4; clear hb4 hk4)
   | (have q := HT3; clear q; refine wl_set0 HT3.out.c rfl rfl rfl rfl ?_; intro w4 hb4 hk4; replace HT3 : Hid (Tri _ _ _ _ _ _ _ _ _) := HT3.out.setC hb4 hk4; clear hb4 hk4)
   | (have q := HT3; clear q; refine wl_set1 HT3.out.c rfl rfl rfl rfl ?_; intro w4 hb4 hk4; replace HT3 : Hid (Tri _ _ _ _ _ _ _ _ _) := HT3.out.setC hb4 hk4; clear hb4 hk4)
   | (have q := HT3; clear q; refine wl_set2 HT3.out.c rfl rfl rfl rfl ?_; intro w4 hb4 hk4; replace HT3 : Hid (Tri _ _ _ _ _ _ _ _ _) := HT3.out.setC hb4 hk4; clear hb4 hk4)
   | (have q := HT3; clear q; refine wl_store rfl rowR rfl rfl rfl HT3.out.b rfl rfl (EV.one _) ?_; intro w4 hb4 hk4 hx4; clear hx4; replace HT3 : Hid (Tri _ _ _ _ _ _ _ _ _) := HT3.out.setB hb4 hk4; clear hb4 hk4)
   | (have q := HT3; clear q; refine wl_get0 HT3.out.a rfl rfl rfl ?_)
   | (have q := HT3; clear q; refine wl_get1 HT3.out.a rfl rfl rfl ?_)
   | (have q := HT3; clear q; refine wl_get2 HT3.out.a rfl rfl rfl ?_)
   | (have q := HT3; clear q; refine wl_get3 HT3.out.a rfl rfl rfl ?_; rw [hme])
   | (have q := HT3; clear q; refine wl_get0 HT3.out.c rfl rfl rfl ?_)
   | (have q := HT3; clear q; refine wl_get1 HT3.out.c rfl rfl rfl ?_)
   | (have q := HT3; clear q; refine wl_get2 HT3.out.c rfl rfl rfl ?_))
  refine bodyPost_ret (res_two (fn := Try.f9) (p := 4) (u := 5) rfl _ _ rfl rfl HT3.out.b Try.underlying23 (by kernel_rfl)) rfl ?_
  exact ⟨rfl, HT3.out.ext⟩
end Rto
end Go.Proofs.Ytdjijipbfiofmaa
/- The document's estimate behind an answer, of one that is measured. No condition of its own. -/
namespace Go.Proofs.Ytdjijipbfiofmaa
namespace Rto
open Go Go.RowKit
set_option maxRecDepth 100000
set_option maxHeartbeats 16000000 in
theorem refTook_neg {e : E} {r : Int} {w : World} (hk : okT e r = true) (hme : e.me = true) (hsg : r - e.sm / 8 < 0) : Calls Try.prog 9 #[.agg (EV e), .int .i64 r] w fun x w' => x = .returned (.tuple #[.agg (EV (tookV e r)), .bool (okT e r)]) ∧ Ext w w' := by
  obtain ⟨hg, hr0, hr1⟩ := (okT_iff e r).1 hk
  rw [(took_yes hk).1, hk]
  have hn := (goodB_iff e).1 hg
  have hd1 : decide (r < 0) = false := decide_eq_false (by omega)
  have hd2 : decide (r > 65535) = false := decide_eq_false (by omega)
  obtain ⟨A, hA⟩ : ∃ A, A = 8 * r := ⟨_, rfl⟩
  have A1 : IntKind.i64.wrap (8 * r) = A := by rw [IntKind.wrap_i64]; omega
  obtain ⟨B, hB⟩ : ∃ B, B = 2 * r := ⟨_, rfl⟩
  have B1 : IntKind.i64.wrap (2 * r) = B := by rw [IntKind.wrap_i64]; omega
  obtain ⟨q, hq⟩ : ∃ q, q = e.sm / 8 := ⟨_, rfl⟩
  have q1 : e.sm.tdiv 8 = q := by rw [Int.tdiv_eq_ediv_of_nonneg (by omega), hq]
  have q2 : IntKind.i64.wrap q = q := by rw [IntKind.wrap_i64]; omega
  obtain ⟨d, hd⟩ : ∃ d, d = r - q := ⟨_, rfl⟩
  have d1 : IntKind.i64.wrap (r - q) = d := by rw [IntKind.wrap_i64]; omega
  obtain ⟨S, hS⟩ : ∃ S, S = e.sm + d := ⟨_, rfl⟩
  have s1 : IntKind.i64.wrap (e.sm + d) = S := by rw [IntKind.wrap_i64]; omega
  obtain ⟨n, hnn⟩ : ∃ n, n = -d := ⟨_, rfl⟩
  have n1 : IntKind.i64.wrap (-d) = n := by rw [IntKind.wrap_i64]; omega
  obtain ⟨p, hp⟩ : ∃ p, p = e.sp / 4 := ⟨_, rfl⟩
  have p1 : e.sp.tdiv 4 = p := by rw [Int.tdiv_eq_ediv_of_nonneg (by omega), hp]
  have p2 : IntKind.i64.wrap p = p := by rw [IntKind.wrap_i64]; omega
  obtain ⟨u, hu⟩ : ∃ u, u = S / 8 := ⟨_, rfl⟩
  have u1 : S.tdiv 8 = u := by rw [Int.tdiv_eq_ediv_of_nonneg (by omega), hu]
  have u2 : IntKind.i64.wrap u = u := by rw [IntKind.wrap_i64]; omega
  have hM : absI d = n := by unfold absI; split <;> omega
  have dd : decide (d < 0) = true := decide_eq_true (by omega)
  obtain ⟨v, hv⟩ : ∃ v, v = e.sp + n := ⟨_, rfl⟩
  have v1 : IntKind.i64.wrap (e.sp + n) = v := by rw [IntKind.wrap_i64]; omega
  obtain ⟨Z, hZ⟩ : ∃ Z, Z = v - p := ⟨_, rfl⟩
  have z1 : IntKind.i64.wrap (v - p) = Z := by rw [IntKind.wrap_i64]; omega
  obtain ⟨C, hC⟩ : ∃ C, C = u + Z := ⟨_, rfl⟩
  have C1 : IntKind.i64.wrap (u + Z) = C := by rw [IntKind.wrap_i64]; omega
  rw [show tookE e r = ⟨S, Z, bd C, true⟩ from by unfold tookE; rw [if_pos hme, ← hq, ← hd, ← hS, ← hu, ← hp, hM, show e.sp + (n - p) = Z from by omega, ← hC]]
  clear hn hnn hr0 hr1 hq hd hS hp hu hM hv hZ hC hA hB hsg hk
  by_cases hc : C < 10
  ·
   skip
   have c1 : decide (C < 10) = true := decide_eq_true hc
   have c2 : decide ((10 : Int) > 600) = false := rfl
   have HB : bd C = 10 := by unfold bd; split <;> (try split) <;> omega
   rw [HB]
   clear HB hc
   go_enter Try.func9, Try.ntmps9
   go_wp2_with (first
    | (refine wl_boxG (C := EV e) rfl rfl rfl ?_; intro w1 g1 hg1 hb1 he1; have HG1 : Hid (g1 = w.heap.size) := hg1; clear hg1)
    | (have q := HT; clear q; refine wl_allocG rfl rfl zeroR ?_; intro w5 g5 hg5 hb5 he5; have HT3 : Hid (Tri _ _ _ _ _ _ _ _ _) := ⟨HT.out.a.ext he5, HT.out.b.ext he5, hb5, HT.out.ext.trans he5, HT.out.g0, HT.out.lt, (by rw [hg5]; exact HT.out.b.lt)⟩; clear hb5 he5 hg5 HT)
    | (have q := hb1; clear q; refine wl_allocG rfl rfl zeroR ?_; intro w2 g2 hg2 hb2 he2; have HT : Hid (Two w w2 g1 g2 _ e e0) := ⟨hb1.ext he2, hb2, he1.trans he2, Nat.le_of_eq HG1.out.symm, (by rw [hg2]; exact hb1.lt)⟩; clear hb1 hb2 he1 he2 hg2 HG1)
    | (have q := HT; clear q; refine wl_load rfl rowR rfl rfl HT.out.a rfl ?_)
    | (have q := HT3; clear q; refine wl_load rfl rowR rfl rfl HT3.out.c rfl ?_)
    | (go_at_call 12; refine (refGood_any _ _).mono ?_; rintro e w3 ⟨rfl, he3⟩; rw [hg]; replace HT : Hid (Two _ _ _ _ _ _ _) := HT.out.grow he3; clear he3)
    | (have q := HT3; clear q; refine wl_store (D := EV ⟨A, B, 0, true⟩) rfl rowR rfl rfl rfl HT3.out.c rfl rfl (EV.one _) ?_; intro w4 hb4 hk4 hx4; clear hx4; replace HT3 : Hid (Tri _ _ _ _ _ _ _ _ _) := HT3.out.setC hb4 hk4; clear hb4 hk4)
    | (have q := HT3; clear q; refine wl_set0 HT3.out.c rfl rfl rfl rfl ?_; intro w4 hb4 hk4; replace HT3 : Hid (Tri _ _ _ _ _ _ _ _ _) := HT3.out.setC hb4 hk4; clear hb4 hk4)
    | (have q := HT3; clear q; refine wl_set1 HT3.out.c rfl rfl rfl rfl ?_; intro w4 hb4 hk4; replace HT3 : Hid (Tri _ _ _ _ _ _ _ _ _) := HT3.out.setC hb4 hk4; clear hb4 hk4)
    | (have q := HT3; clear q; refine wl_set2 HT3.out.c rfl rfl rfl rfl ?_; intro w4 hb4 hk4; replace HT3 : Hid (Tri _ _ _ _ _ _ _ _ _) := HT3.out.setC hb4 hk4; clear hb4 hk4)
    | (have q := HT3; clear q; refine wl_store rfl rowR rfl rfl rfl HT3.out.b rfl rfl (EV.one _) ?_; intro w4 hb4 hk4 hx4; clear hx4; replace HT3 : Hid (Tri _ _ _ _ _ _ _ _ _) := HT3.out.setB hb4 hk4; clear hb4 hk4)
    | (have q := HT3; clear q; refine wl_get0 HT3.out.a rfl rfl rfl ?_)
    | (have q := HT3; clear q; refine wl_get1 HT3.out.a rfl rfl rfl ?_)
    | (have q := HT3; clear q; refine wl_get2 HT3.out.a rfl rfl rfl ?_)
    | (have q := HT3; clear q; refine wl_get3 HT3.out.a rfl rfl rfl ?_; rw [hme])
    | (have q := HT3; clear q; refine wl_get0 HT3.out.c rfl rfl rfl ?_)
    | (have q := HT3; clear q; refine wl_get1 HT3.out.c rfl rfl rfl ?_)
    | (have q := HT3; clear q; refine wl_get2 HT3.out.c rfl rfl rfl ?_))
   refine bodyPost_ret (res_two (fn := Try.f9) (p := 4) (u := 5) rfl _ _ rfl rfl HT3.out.b Try.underlying23 (by kernel_rfl)) rfl ?_
   exact ⟨rfl, HT3.out.ext⟩
  by_cases hc : C > 600
  ·
   skip
   have c1 : decide (C < 10) = false := decide_eq_false (by omega)
   have c2 : decide (C > 600) = true := decide_eq_true hc
   have HB : bd C = 600 := by unfold bd; split <;> (try split) <;> omega
   rw [HB]
   clear HB hc
   go_enter Try.func9, Try.ntmps9
   go_wp2_with (first
    | (refine wl_boxG (C := EV e) rfl rfl rfl ?_; intro w1 g1 hg1 hb1 he1; have HG1 : Hid (g1 = w.heap.size) := hg1; clear hg1)
    | (have q := HT; clear q; refine wl_allocG rfl rfl zeroR ?_; intro w5 g5 hg5 hb5 he5; have HT3 : Hid (Tri _ _ _ _ _ _ _ _ _) := ⟨HT.out.a.ext he5, HT.out.b.ext he5, hb5, HT.out.ext.trans he5, HT.out.g0, HT.out.lt, (by rw [hg5]; exact HT.out.b.lt)⟩; clear hb5 he5 hg5 HT)
    | (have q := hb1; clear q; refine wl_allocG rfl rfl zeroR ?_; intro w2 g2 hg2 hb2 he2; have HT : Hid (Two w w2 g1 g2 _ e e0) := ⟨hb1.ext he2, hb2, he1.trans he2, Nat.le_of_eq HG1.out.symm, (by rw [hg2]; exact hb1.lt)⟩; clear hb1 hb2 he1 he2 hg2 HG1)
    | (have q := HT; clear q; refine wl_load rfl rowR rfl rfl HT.out.a rfl ?_)
    | (have q := HT3; clear q; refine wl_load rfl rowR rfl rfl HT3.out.c rfl ?_)
    | (go_at_call 12; refine (refGood_any _ _).mono ?_; rintro e w3 ⟨rfl, he3⟩; rw [hg]; replace HT : Hid (Two _ _ _ _ _ _ _) := HT.out.grow he3; clear he3)
    | (have q := HT3; clear q; refine wl_store (D := EV ⟨A, B, 0, true⟩) rfl rowR rfl rfl rfl HT3.out.c rfl rfl (EV.one _) ?_; intro w4 hb4 hk4 hx4; clear hx4; replace HT3 : Hid (Tri _ _ _ _ _ _ _ _ _) := HT3.out.setC hb4 hk4; clear hb4 hk4)
    | (have q := HT3; clear q; refine wl_set0 HT3.out.c rfl rfl rfl rfl ?_; intro w4 hb4 hk4; replace HT3 : Hid (Tri _ _ _ _ _ _ _ _ _) := HT3.out.setC hb4 hk4; clear hb4 hk4)
    | (have q := HT3; clear q; refine wl_set1 HT3.out.c rfl rfl rfl rfl ?_; intro w4 hb4 hk4; replace HT3 : Hid (Tri _ _ _ _ _ _ _ _ _) := HT3.out.setC hb4 hk4; clear hb4 hk4)
    | (have q := HT3; clear q; refine wl_set2 HT3.out.c rfl rfl rfl rfl ?_; intro w4 hb4 hk4; replace HT3 : Hid (Tri _ _ _ _ _ _ _ _ _) := HT3.out.setC hb4 hk4; clear hb4 hk4)
    | (have q := HT3; clear q; refine wl_store rfl rowR rfl rfl rfl HT3.out.b rfl rfl (EV.one _) ?_; intro w4 hb4 hk4 hx4; clear hx4; replace HT3 : Hid (Tri _ _ _ _ _ _ _ _ _) := HT3.out.setB hb4 hk4; clear hb4 hk4)
    | (have q := HT3; clear q; refine wl_get0 HT3.out.a rfl rfl rfl ?_)
    | (have q := HT3; clear q; refine wl_get1 HT3.out.a rfl rfl rfl ?_)
    | (have q := HT3; clear q; refine wl_get2 HT3.out.a rfl rfl rfl ?_)
    | (have q := HT3; clear q; refine wl_get3 HT3.out.a rfl rfl rfl ?_; rw [hme])
    | (have q := HT3; clear q; refine wl_get0 HT3.out.c rfl rfl rfl ?_)
    | (have q := HT3; clear q; refine wl_get1 HT3.out.c rfl rfl rfl ?_)
    | (have q := HT3; clear q; refine wl_get2 HT3.out.c rfl rfl rfl ?_))
   refine bodyPost_ret (res_two (fn := Try.f9) (p := 4) (u := 5) rfl _ _ rfl rfl HT3.out.b Try.underlying23 (by kernel_rfl)) rfl ?_
   exact ⟨rfl, HT3.out.ext⟩
  have c1 : decide (C < 10) = false := decide_eq_false (by omega)
  have c2 : decide (C > 600) = false := decide_eq_false (by omega)
  have HB : bd C = C := by unfold bd; split <;> (try split) <;> omega
  rw [HB]
  clear HB
  go_enter Try.func9, Try.ntmps9
  go_wp2_with (first
   | (refine wl_boxG (C := EV e) rfl rfl rfl ?_; intro w1 g1 hg1 hb1 he1; have HG1 : Hid (g1 = w.heap.size) := hg1; clear hg1)
   | (have q := HT; clear q; refine wl_allocG rfl rfl zeroR ?_; intro w5 g5 hg5 hb5 he5; have HT3 : Hid (Tri _ _ _ _ _ _ _ _ _) := ⟨HT.out.a.ext he5, HT.out.b.ext he5, hb5, HT.out.ext.trans he5, HT.out.g0, HT.out.lt, (by rw [hg5]; exact HT.out.b.lt)⟩; clear hb5 he5 hg5 HT)
   | (have q := hb1; clear q; refine wl_allocG rfl rfl zeroR ?_; intro w2 g2 hg2 hb2 he2; have HT : Hid (Two w w2 g1 g2 _ e e0) := ⟨hb1.ext he2, hb2, he1.trans he2, Nat.le_of_eq HG1.out.symm, (by rw [hg2]; exact hb1.lt)⟩; clear hb1 hb2 he1 he2 hg2 HG1)
   | (have q := HT; clear q; refine wl_load rfl rowR rfl rfl HT.out.a rfl ?_)
   | (have q := HT3; clear q; refine wl_load rfl rowR rfl rfl HT3.out.c rfl ?_)
   | (go_at_call 12; refine (refGood_any _ _).mono ?_; rintro e w3 ⟨rfl, he3⟩; rw [hg]; replace HT : Hid (Two _ _ _ _ _ _ _) := HT.out.grow he3; clear he3)
   | (have q := HT3; clear q; refine wl_store (D := EV ⟨A, B, 0, true⟩) rfl rowR rfl rfl rfl HT3.out.c rfl rfl (EV.one _) ?_; intro w4 hb4 hk4 hx4; clear hx4; replace HT3 : Hid (Tri _ _ _ _ _ _ _ _ _) := HT3.out.setC hb4 hk4; clear hb4 hk4)
   | (have q := HT3; clear q; refine wl_set0 HT3.out.c rfl rfl rfl rfl ?_; intro w4 hb4 hk4; replace HT3 : Hid (Tri _ _ _ _ _ _ _ _ _) := HT3.out.setC hb4 hk4; clear hb4 hk4)
   | (have q := HT3; clear q; refine wl_set1 HT3.out.c rfl rfl rfl rfl ?_; intro w4 hb4 hk4; replace HT3 : Hid (Tri _ _ _ _ _ _ _ _ _) := HT3.out.setC hb4 hk4; clear hb4 hk4)
   | (have q := HT3; clear q; refine wl_set2 HT3.out.c rfl rfl rfl rfl ?_; intro w4 hb4 hk4; replace HT3 : Hid (Tri _ _ _ _ _ _ _ _ _) := HT3.out.setC hb4 hk4; clear hb4 hk4)
   | (have q := HT3; clear q; refine wl_store rfl rowR rfl rfl rfl HT3.out.b rfl rfl (EV.one _) ?_; intro w4 hb4 hk4 hx4; clear hx4; replace HT3 : Hid (Tri _ _ _ _ _ _ _ _ _) := HT3.out.setB hb4 hk4; clear hb4 hk4)
   | (have q := HT3; clear q; refine wl_get0 HT3.out.a rfl rfl rfl ?_)
   | (have q := HT3; clear q; refine wl_get1 HT3.out.a rfl rfl rfl ?_)
   | (have q := HT3; clear q; refine wl_get2 HT3.out.a rfl rfl rfl ?_)
   | (have q := HT3; clear q; refine wl_get3 HT3.out.a rfl rfl rfl ?_; rw [hme])
   | (have q := HT3; clear q; refine wl_get0 HT3.out.c rfl rfl rfl ?_)
   | (have q := HT3; clear q; refine wl_get1 HT3.out.c rfl rfl rfl ?_)
   | (have q := HT3; clear q; refine wl_get2 HT3.out.c rfl rfl rfl ?_))
  refine bodyPost_ret (res_two (fn := Try.f9) (p := 4) (u := 5) rfl _ _ rfl rfl HT3.out.b Try.underlying23 (by kernel_rfl)) rfl ?_
  exact ⟨rfl, HT3.out.ext⟩
end Rto
end Go.Proofs.Ytdjijipbfiofmaa
/- The document's estimate behind an answer, of one that is measured, whose answer was not early. No condition of its own. -/
namespace Go.Proofs.Ytdjijipbfiofmaa
namespace Rto
open Go Go.RowKit
set_option maxRecDepth 100000
set_option maxHeartbeats 16000000 in
theorem refTook_pos {e : E} {r : Int} {w : World} (hk : okT e r = true) (hme : e.me = true) (hsg : ¬ r - e.sm / 8 < 0) : Calls Try.prog 9 #[.agg (EV e), .int .i64 r] w fun x w' => x = .returned (.tuple #[.agg (EV (tookV e r)), .bool (okT e r)]) ∧ Ext w w' := by
  obtain ⟨hg, hr0, hr1⟩ := (okT_iff e r).1 hk
  rw [(took_yes hk).1, hk]
  have hn := (goodB_iff e).1 hg
  have hd1 : decide (r < 0) = false := decide_eq_false (by omega)
  have hd2 : decide (r > 65535) = false := decide_eq_false (by omega)
  obtain ⟨A, hA⟩ : ∃ A, A = 8 * r := ⟨_, rfl⟩
  have A1 : IntKind.i64.wrap (8 * r) = A := by rw [IntKind.wrap_i64]; omega
  obtain ⟨B, hB⟩ : ∃ B, B = 2 * r := ⟨_, rfl⟩
  have B1 : IntKind.i64.wrap (2 * r) = B := by rw [IntKind.wrap_i64]; omega
  obtain ⟨q, hq⟩ : ∃ q, q = e.sm / 8 := ⟨_, rfl⟩
  have q1 : e.sm.tdiv 8 = q := by rw [Int.tdiv_eq_ediv_of_nonneg (by omega), hq]
  have q2 : IntKind.i64.wrap q = q := by rw [IntKind.wrap_i64]; omega
  obtain ⟨d, hd⟩ : ∃ d, d = r - q := ⟨_, rfl⟩
  have d1 : IntKind.i64.wrap (r - q) = d := by rw [IntKind.wrap_i64]; omega
  obtain ⟨S, hS⟩ : ∃ S, S = e.sm + d := ⟨_, rfl⟩
  have s1 : IntKind.i64.wrap (e.sm + d) = S := by rw [IntKind.wrap_i64]; omega
  obtain ⟨n, hnn⟩ : ∃ n, n = -d := ⟨_, rfl⟩
  have n1 : IntKind.i64.wrap (-d) = n := by rw [IntKind.wrap_i64]; omega
  obtain ⟨p, hp⟩ : ∃ p, p = e.sp / 4 := ⟨_, rfl⟩
  have p1 : e.sp.tdiv 4 = p := by rw [Int.tdiv_eq_ediv_of_nonneg (by omega), hp]
  have p2 : IntKind.i64.wrap p = p := by rw [IntKind.wrap_i64]; omega
  obtain ⟨u, hu⟩ : ∃ u, u = S / 8 := ⟨_, rfl⟩
  have u1 : S.tdiv 8 = u := by rw [Int.tdiv_eq_ediv_of_nonneg (by omega), hu]
  have u2 : IntKind.i64.wrap u = u := by rw [IntKind.wrap_i64]; omega
  have hM : absI d = d := by unfold absI; split <;> omega
  have dd : decide (d < 0) = false := decide_eq_false (by omega)
  obtain ⟨v, hv⟩ : ∃ v, v = e.sp + d := ⟨_, rfl⟩
  have v1 : IntKind.i64.wrap (e.sp + d) = v := by rw [IntKind.wrap_i64]; omega
  obtain ⟨Z, hZ⟩ : ∃ Z, Z = v - p := ⟨_, rfl⟩
  have z1 : IntKind.i64.wrap (v - p) = Z := by rw [IntKind.wrap_i64]; omega
  obtain ⟨C, hC⟩ : ∃ C, C = u + Z := ⟨_, rfl⟩
  have C1 : IntKind.i64.wrap (u + Z) = C := by rw [IntKind.wrap_i64]; omega
  rw [show tookE e r = ⟨S, Z, bd C, true⟩ from by unfold tookE; rw [if_pos hme, ← hq, ← hd, ← hS, ← hu, ← hp, hM, show e.sp + (d - p) = Z from by omega, ← hC]]
  clear hn hnn hr0 hr1 hq hd hS hp hu hM hv hZ hC hA hB hsg hk
  by_cases hc : C < 10
  ·
   skip
   have c1 : decide (C < 10) = true := decide_eq_true hc
   have c2 : decide ((10 : Int) > 600) = false := rfl
   have HB : bd C = 10 := by unfold bd; split <;> (try split) <;> omega
   rw [HB]
   clear HB hc
   go_enter Try.func9, Try.ntmps9
   go_wp2_with (first
    | (refine wl_boxG (C := EV e) rfl rfl rfl ?_; intro w1 g1 hg1 hb1 he1; have HG1 : Hid (g1 = w.heap.size) := hg1; clear hg1)
    | (have q := HT; clear q; refine wl_allocG rfl rfl zeroR ?_; intro w5 g5 hg5 hb5 he5; have HT3 : Hid (Tri _ _ _ _ _ _ _ _ _) := ⟨HT.out.a.ext he5, HT.out.b.ext he5, hb5, HT.out.ext.trans he5, HT.out.g0, HT.out.lt, (by rw [hg5]; exact HT.out.b.lt)⟩; clear hb5 he5 hg5 HT)
    | (have q := hb1; clear q; refine wl_allocG rfl rfl zeroR ?_; intro w2 g2 hg2 hb2 he2; have HT : Hid (Two w w2 g1 g2 _ e e0) := ⟨hb1.ext he2, hb2, he1.trans he2, Nat.le_of_eq HG1.out.symm, (by rw [hg2]; exact hb1.lt)⟩; clear hb1 hb2 he1 he2 hg2 HG1)
    | (have q := HT; clear q; refine wl_load rfl rowR rfl rfl HT.out.a rfl ?_)
    | (have q := HT3; clear q; refine wl_load rfl rowR rfl rfl HT3.out.c rfl ?_)
    | (go_at_call 12; refine (refGood_any _ _).mono ?_; rintro e w3 ⟨rfl, he3⟩; rw [hg]; replace HT : Hid (Two _ _ _ _ _ _ _) := HT.out.grow he3; clear he3)
    | (have q := HT3; clear q; refine wl_store (D := EV ⟨A, B, 0, true⟩) rfl rowR rfl rfl rfl HT3.out.c rfl rfl (EV.one _) ?_; intro w4 hb4 hk4 hx4; clear hx4; replace HT3 : Hid (Tri _ _ _ _ _ _ _ _ _) := HT3.out.setC hb4 hk4; clear hb4 hk4)
    | (have q := HT3; clear q; refine wl_set0 HT3.out.c rfl rfl rfl rfl ?_; intro w4 hb4 hk4; replace HT3 : Hid (Tri _ _ _ _ _ _ _ _ _) := HT3.out.setC hb4 hk4; clear hb4 hk4)
    | (have q := HT3; clear q; refine wl_set1 HT3.out.c rfl rfl rfl rfl ?_; intro w4 hb4 hk4; replace HT3 : Hid (Tri _ _ _ _ _ _ _ _ _) := HT3.out.setC hb4 hk4; clear hb4 hk4)
    | (have q := HT3; clear q; refine wl_set2 HT3.out.c rfl rfl rfl rfl ?_; intro w4 hb4 hk4; replace HT3 : Hid (Tri _ _ _ _ _ _ _ _ _) := HT3.out.setC hb4 hk4; clear hb4 hk4)
    | (have q := HT3; clear q; refine wl_store rfl rowR rfl rfl rfl HT3.out.b rfl rfl (EV.one _) ?_; intro w4 hb4 hk4 hx4; clear hx4; replace HT3 : Hid (Tri _ _ _ _ _ _ _ _ _) := HT3.out.setB hb4 hk4; clear hb4 hk4)
    | (have q := HT3; clear q; refine wl_get0 HT3.out.a rfl rfl rfl ?_)
    | (have q := HT3; clear q; refine wl_get1 HT3.out.a rfl rfl rfl ?_)
    | (have q := HT3; clear q; refine wl_get2 HT3.out.a rfl rfl rfl ?_)
    | (have q := HT3; clear q; refine wl_get3 HT3.out.a rfl rfl rfl ?_; rw [hme])
    | (have q := HT3; clear q; refine wl_get0 HT3.out.c rfl rfl rfl ?_)
    | (have q := HT3; clear q; refine wl_get1 HT3.out.c rfl rfl rfl ?_)
    | (have q := HT3; clear q; refine wl_get2 HT3.out.c rfl rfl rfl ?_))
   refine bodyPost_ret (res_two (fn := Try.f9) (p := 4) (u := 5) rfl _ _ rfl rfl HT3.out.b Try.underlying23 (by kernel_rfl)) rfl ?_
   exact ⟨rfl, HT3.out.ext⟩
  by_cases hc : C > 600
  ·
   skip
   have c1 : decide (C < 10) = false := decide_eq_false (by omega)
   have c2 : decide (C > 600) = true := decide_eq_true hc
   have HB : bd C = 600 := by unfold bd; split <;> (try split) <;> omega
   rw [HB]
   clear HB hc
   go_enter Try.func9, Try.ntmps9
   go_wp2_with (first
    | (refine wl_boxG (C := EV e) rfl rfl rfl ?_; intro w1 g1 hg1 hb1 he1; have HG1 : Hid (g1 = w.heap.size) := hg1; clear hg1)
    | (have q := HT; clear q; refine wl_allocG rfl rfl zeroR ?_; intro w5 g5 hg5 hb5 he5; have HT3 : Hid (Tri _ _ _ _ _ _ _ _ _) := ⟨HT.out.a.ext he5, HT.out.b.ext he5, hb5, HT.out.ext.trans he5, HT.out.g0, HT.out.lt, (by rw [hg5]; exact HT.out.b.lt)⟩; clear hb5 he5 hg5 HT)
    | (have q := hb1; clear q; refine wl_allocG rfl rfl zeroR ?_; intro w2 g2 hg2 hb2 he2; have HT : Hid (Two w w2 g1 g2 _ e e0) := ⟨hb1.ext he2, hb2, he1.trans he2, Nat.le_of_eq HG1.out.symm, (by rw [hg2]; exact hb1.lt)⟩; clear hb1 hb2 he1 he2 hg2 HG1)
    | (have q := HT; clear q; refine wl_load rfl rowR rfl rfl HT.out.a rfl ?_)
    | (have q := HT3; clear q; refine wl_load rfl rowR rfl rfl HT3.out.c rfl ?_)
    | (go_at_call 12; refine (refGood_any _ _).mono ?_; rintro e w3 ⟨rfl, he3⟩; rw [hg]; replace HT : Hid (Two _ _ _ _ _ _ _) := HT.out.grow he3; clear he3)
    | (have q := HT3; clear q; refine wl_store (D := EV ⟨A, B, 0, true⟩) rfl rowR rfl rfl rfl HT3.out.c rfl rfl (EV.one _) ?_; intro w4 hb4 hk4 hx4; clear hx4; replace HT3 : Hid (Tri _ _ _ _ _ _ _ _ _) := HT3.out.setC hb4 hk4; clear hb4 hk4)
    | (have q := HT3; clear q; refine wl_set0 HT3.out.c rfl rfl rfl rfl ?_; intro w4 hb4 hk4; replace HT3 : Hid (Tri _ _ _ _ _ _ _ _ _) := HT3.out.setC hb4 hk4; clear hb4 hk4)
    | (have q := HT3; clear q; refine wl_set1 HT3.out.c rfl rfl rfl rfl ?_; intro w4 hb4 hk4; replace HT3 : Hid (Tri _ _ _ _ _ _ _ _ _) := HT3.out.setC hb4 hk4; clear hb4 hk4)
    | (have q := HT3; clear q; refine wl_set2 HT3.out.c rfl rfl rfl rfl ?_; intro w4 hb4 hk4; replace HT3 : Hid (Tri _ _ _ _ _ _ _ _ _) := HT3.out.setC hb4 hk4; clear hb4 hk4)
    | (have q := HT3; clear q; refine wl_store rfl rowR rfl rfl rfl HT3.out.b rfl rfl (EV.one _) ?_; intro w4 hb4 hk4 hx4; clear hx4; replace HT3 : Hid (Tri _ _ _ _ _ _ _ _ _) := HT3.out.setB hb4 hk4; clear hb4 hk4)
    | (have q := HT3; clear q; refine wl_get0 HT3.out.a rfl rfl rfl ?_)
    | (have q := HT3; clear q; refine wl_get1 HT3.out.a rfl rfl rfl ?_)
    | (have q := HT3; clear q; refine wl_get2 HT3.out.a rfl rfl rfl ?_)
    | (have q := HT3; clear q; refine wl_get3 HT3.out.a rfl rfl rfl ?_; rw [hme])
    | (have q := HT3; clear q; refine wl_get0 HT3.out.c rfl rfl rfl ?_)
    | (have q := HT3; clear q; refine wl_get1 HT3.out.c rfl rfl rfl ?_)
    | (have q := HT3; clear q; refine wl_get2 HT3.out.c rfl rfl rfl ?_))
   refine bodyPost_ret (res_two (fn := Try.f9) (p := 4) (u := 5) rfl _ _ rfl rfl HT3.out.b Try.underlying23 (by kernel_rfl)) rfl ?_
   exact ⟨rfl, HT3.out.ext⟩
  have c1 : decide (C < 10) = false := decide_eq_false (by omega)
  have c2 : decide (C > 600) = false := decide_eq_false (by omega)
  have HB : bd C = C := by unfold bd; split <;> (try split) <;> omega
  rw [HB]
  clear HB
  go_enter Try.func9, Try.ntmps9
  go_wp2_with (first
   | (refine wl_boxG (C := EV e) rfl rfl rfl ?_; intro w1 g1 hg1 hb1 he1; have HG1 : Hid (g1 = w.heap.size) := hg1; clear hg1)
   | (have q := HT; clear q; refine wl_allocG rfl rfl zeroR ?_; intro w5 g5 hg5 hb5 he5; have HT3 : Hid (Tri _ _ _ _ _ _ _ _ _) := ⟨HT.out.a.ext he5, HT.out.b.ext he5, hb5, HT.out.ext.trans he5, HT.out.g0, HT.out.lt, (by rw [hg5]; exact HT.out.b.lt)⟩; clear hb5 he5 hg5 HT)
   | (have q := hb1; clear q; refine wl_allocG rfl rfl zeroR ?_; intro w2 g2 hg2 hb2 he2; have HT : Hid (Two w w2 g1 g2 _ e e0) := ⟨hb1.ext he2, hb2, he1.trans he2, Nat.le_of_eq HG1.out.symm, (by rw [hg2]; exact hb1.lt)⟩; clear hb1 hb2 he1 he2 hg2 HG1)
   | (have q := HT; clear q; refine wl_load rfl rowR rfl rfl HT.out.a rfl ?_)
   | (have q := HT3; clear q; refine wl_load rfl rowR rfl rfl HT3.out.c rfl ?_)
   | (go_at_call 12; refine (refGood_any _ _).mono ?_; rintro e w3 ⟨rfl, he3⟩; rw [hg]; replace HT : Hid (Two _ _ _ _ _ _ _) := HT.out.grow he3; clear he3)
   | (have q := HT3; clear q; refine wl_store (D := EV ⟨A, B, 0, true⟩) rfl rowR rfl rfl rfl HT3.out.c rfl rfl (EV.one _) ?_; intro w4 hb4 hk4 hx4; clear hx4; replace HT3 : Hid (Tri _ _ _ _ _ _ _ _ _) := HT3.out.setC hb4 hk4; clear hb4 hk4)
   | (have q := HT3; clear q; refine wl_set0 HT3.out.c rfl rfl rfl rfl ?_; intro w4 hb4 hk4; replace HT3 : Hid (Tri _ _ _ _ _ _ _ _ _) := HT3.out.setC hb4 hk4; clear hb4 hk4)
   | (have q := HT3; clear q; refine wl_set1 HT3.out.c rfl rfl rfl rfl ?_; intro w4 hb4 hk4; replace HT3 : Hid (Tri _ _ _ _ _ _ _ _ _) := HT3.out.setC hb4 hk4; clear hb4 hk4)
   | (have q := HT3; clear q; refine wl_set2 HT3.out.c rfl rfl rfl rfl ?_; intro w4 hb4 hk4; replace HT3 : Hid (Tri _ _ _ _ _ _ _ _ _) := HT3.out.setC hb4 hk4; clear hb4 hk4)
   | (have q := HT3; clear q; refine wl_store rfl rowR rfl rfl rfl HT3.out.b rfl rfl (EV.one _) ?_; intro w4 hb4 hk4 hx4; clear hx4; replace HT3 : Hid (Tri _ _ _ _ _ _ _ _ _) := HT3.out.setB hb4 hk4; clear hb4 hk4)
   | (have q := HT3; clear q; refine wl_get0 HT3.out.a rfl rfl rfl ?_)
   | (have q := HT3; clear q; refine wl_get1 HT3.out.a rfl rfl rfl ?_)
   | (have q := HT3; clear q; refine wl_get2 HT3.out.a rfl rfl rfl ?_)
   | (have q := HT3; clear q; refine wl_get3 HT3.out.a rfl rfl rfl ?_; rw [hme])
   | (have q := HT3; clear q; refine wl_get0 HT3.out.c rfl rfl rfl ?_)
   | (have q := HT3; clear q; refine wl_get1 HT3.out.c rfl rfl rfl ?_)
   | (have q := HT3; clear q; refine wl_get2 HT3.out.c rfl rfl rfl ?_))
  refine bodyPost_ret (res_two (fn := Try.f9) (p := 4) (u := 5) rfl _ _ rfl rfl HT3.out.b Try.underlying23 (by kernel_rfl)) rfl ?_
  exact ⟨rfl, HT3.out.ext⟩
end Rto
end Go.Proofs.Ytdjijipbfiofmaa
/- The document's estimate behind an answer. No condition of its own. -/
namespace Go.Proofs.Ytdjijipbfiofmaa
namespace Rto
open Go Go.RowKit
set_option maxRecDepth 100000
theorem refTook_any (e : E) (r : Int) (w : World) : Calls Try.prog 9 #[.agg (EV e), .int .i64 r] w fun x w' => x = .returned (.tuple #[.agg (EV (tookV e r)), .bool (okT e r)]) ∧ Ext w w' := by
 cases hk : okT e r with
 | false => rw [← hk]; exact refTook_no hk
 | true =>
  rw [← hk]
  cases hme : e.me with
  | false => exact refTook_first hk hme
  | true =>
   by_cases hs : r - e.sm / 8 < 0
   ·
    exact refTook_neg hk hme hs
   ·
    exact refTook_pos hk hme hs
end Rto
end Go.Proofs.Ytdjijipbfiofmaa
