/- For any estimate and any count the law RtoWaits answers true and leaves its arguments as they were: how many ticks go by when nothing comes is what the document says. Conditions: none. -/
import Derived.Test.YtdjijipbfiofmaaWa1
import Derived.BigQuiet
import Derived.Deep.LoopGhost
import Derived.Deep.QuietTactic
import Derived.Laws.ResultCell
import Derived.Test.YtdjijipbfiofmaaProg
import Derived.Laws.StructEq
import Derived.Lib.SmallJoins
import Derived.Test.YtdjijipbfiofmaaRows
import Derived.WalkKit
import Derived.ProofKit
import Derived.OpenShut
import Derived.ShutString
import Derived.ChangeOld
import Derived.Below
set_option linter.unusedVariables false
set_option linter.unusedSimpArgs false
/- Estimates as cells; which are good. No condition of its own. -/
namespace Go.Proofs.Ytdjijipbfiofmaa
namespace Rto
open Go Go.RowKit
set_option maxRecDepth 100000
theorem one3 : OneT Try.prog 3 := ⟨⟨_, Try.underlying3, rfl⟩, by kernel_rfl⟩
theorem one4 : OneT Try.prog 4 := ⟨⟨_, Try.underlying4, rfl⟩, by kernel_rfl⟩
/-- What an estimate holds. -/
structure E where
 sm : Int
 sp : Int
 wt : Int
 me : Bool
def EV (e : E) : Array Value := #[.int .i64 e.sm, .int .i64 e.sp, .int .i64 e.wt, .bool e.me]
theorem ev0 {w : World} {g T : Nat} {e : E} (h : Blk w g (EV e) T) : w.cell? ⟨g, 0, none⟩ = some (.int .i64 e.sm) := h.cell 0
theorem ev1 {w : World} {g T : Nat} {e : E} (h : Blk w g (EV e) T) : w.cell? ⟨g, 1, none⟩ = some (.int .i64 e.sp) := h.cell 1
theorem ev2 {w : World} {g T : Nat} {e : E} (h : Blk w g (EV e) T) : w.cell? ⟨g, 2, none⟩ = some (.int .i64 e.wt) := h.cell 2
theorem ev3 {w : World} {g T : Nat} {e : E} (h : Blk w g (EV e) T) : w.cell? ⟨g, 3, none⟩ = some (.bool e.me) := h.cell 3
theorem EV.size (e : E) : (EV e).size = 4 := rfl
theorem EV.one (e : E) : ∀ v ∈ (EV e).toList, v.oneCell' = true := by
 intro v hv
 simp [EV] at hv
 rcases hv with rfl | rfl | rfl | rfl <;> rfl
theorem rowE : RowT Try.prog 25 4 := ⟨⟨_, Try.underlying25, rfl⟩, by kernel_rfl⟩
theorem rowR : RowT Try.prog 23 4 := ⟨⟨_, Try.underlying23, rfl⟩, by kernel_rfl⟩
/-- Which are good. -/
def goodB (e : E) : Bool := decide (10 ≤ e.wt) && decide (e.wt ≤ 600) && decide (0 ≤ e.sm) && decide (e.sm ≤ 524280) && decide (0 ≤ e.sp) && decide (e.sp ≤ 262140) && (e.me || (decide (e.sm = 0) && decide (e.sp = 0)))
theorem goodB_iff (e : E) : goodB e = true ↔ (10 ≤ e.wt ∧ e.wt ≤ 600 ∧ 0 ≤ e.sm ∧ e.sm ≤ 524280 ∧ 0 ≤ e.sp ∧ e.sp ≤ 262140 ∧ (e.me = true ∨ (e.sm = 0 ∧ e.sp = 0))) := by
 simp [goodB, and_assoc]
theorem goodB_no {e : E} (h : e.wt < 10 ∨ e.wt > 600 ∨ (e.me = false ∧ (e.sm ≠ 0 ∨ e.sp ≠ 0))) : goodB e = false := by
 rw [Bool.eq_false_iff, Ne, goodB_iff]
 rintro ⟨h1, h2, -, -, -, -, h3⟩
 rcases h with h | h | ⟨h, h'⟩
 ·
  omega
 ·
  omega
 ·
  rcases h3 with h3 | h3
  ·
   rw [h] at h3; cases h3
  ·
   omega
set_option maxHeartbeats 4000000 in
theorem good_any (e : E) (w : World) : Calls Try.prog 11 #[.agg (EV e)] w fun x w' => x = .returned (.bool (goodB e)) ∧ Ext w w' := by
 obtain ⟨m, hme⟩ : ∃ m, e.me = m := ⟨_, rfl⟩
 by_cases h1 : e.wt < 10
 ·
  have d1 : decide (e.wt < 10) = true := decide_eq_true h1
  rw [goodB_no (.inl h1)]
  go_enter Try.func11, Try.ntmps11
  go_wp2_with (first
   | (refine wl_box (C := EV e) rfl rfl rfl ?_; intro w1 hb1 he1 hx; clear hx; have x0 := ev0 hb1; have x1 := ev1 hb1; have x2 := ev2 hb1; have x3 := ev3 hb1; rw [hme] at x3))
  go_ret
  exact ⟨rfl, he1⟩
 have d1 : decide (e.wt < 10) = false := decide_eq_false h1
 by_cases h2 : e.wt > 600
 ·
  have d2 : decide (e.wt > 600) = true := decide_eq_true h2
  rw [goodB_no (.inr (.inl h2))]
  go_enter Try.func11, Try.ntmps11
  go_wp2_with (first
   | (refine wl_box (C := EV e) rfl rfl rfl ?_; intro w1 hb1 he1 hx; clear hx; have x0 := ev0 hb1; have x1 := ev1 hb1; have x2 := ev2 hb1; have x3 := ev3 hb1; rw [hme] at x3))
  go_ret
  exact ⟨rfl, he1⟩
 have d2 : decide (e.wt > 600) = false := decide_eq_false h2
 cases m with
 | true =>
  have HG : Hid (goodB e = ((((decide ((e.sm : Int) ≥ (0 : Int))) && ((decide ((e.sm : Int) ≤ (524280 : Int))))) && ((decide ((e.sp : Int) ≥ (0 : Int))))) && ((decide ((e.sp : Int) ≤ (262140 : Int)))))) := show _ = _ by rw [Bool.eq_iff_iff, goodB_iff]; simp [hme]; omega
  rw [HG.out]
  go_enter Try.func11, Try.ntmps11
  go_wp2_with (first
   | (refine stop_at 19 rfl ?_)
   | (refine wl_box (C := EV e) rfl rfl rfl ?_; intro w1 hb1 he1 hx; clear hx; have x0 := ev0 hb1; have x1 := ev1 hb1; have x2 := ev2 hb1; have x3 := ev3 hb1; rw [hme] at x3))
  refine ⟨?_⟩
  refine wpList_line 0 (fun t => bif Nat.ble 22 t && Nat.ble t 39 then some (t - 22) else bif Nat.beq t 2 then some 18 else none) 40 Ext
   [Is (.pointer (some ⟨w.heap.size, 0, none⟩)),
    Is (.int .i64 e.sm),
    Is (.bool (decide ((e.sm : Int) ≥ (0 : Int)))),
    Is (.bool (decide ((e.sm : Int) ≥ (0 : Int)))),
    Under (((decide ((e.sm : Int) ≥ (0 : Int))))) (.pointer (some ⟨w.heap.size, 0, none⟩)),
    Under (((decide ((e.sm : Int) ≥ (0 : Int))))) (.int .i64 e.sm),
    Under (((decide ((e.sm : Int) ≥ (0 : Int))))) (.bool (decide ((e.sm : Int) ≤ (524280 : Int)))),
    Is (.bool ((decide ((e.sm : Int) ≥ (0 : Int))) && ((decide ((e.sm : Int) ≤ (524280 : Int)))))),
    Is (.bool ((decide ((e.sm : Int) ≥ (0 : Int))) && ((decide ((e.sm : Int) ≤ (524280 : Int)))))),
    Under ((((decide ((e.sm : Int) ≥ (0 : Int))) && ((decide ((e.sm : Int) ≤ (524280 : Int))))))) (.pointer (some ⟨w.heap.size, 1, none⟩)),
    Under ((((decide ((e.sm : Int) ≥ (0 : Int))) && ((decide ((e.sm : Int) ≤ (524280 : Int))))))) (.int .i64 e.sp),
    Under ((((decide ((e.sm : Int) ≥ (0 : Int))) && ((decide ((e.sm : Int) ≤ (524280 : Int))))))) (.bool (decide ((e.sp : Int) ≥ (0 : Int)))),
    Is (.bool (((decide ((e.sm : Int) ≥ (0 : Int))) && ((decide ((e.sm : Int) ≤ (524280 : Int))))) && ((decide ((e.sp : Int) ≥ (0 : Int)))))),
    Is (.bool (((decide ((e.sm : Int) ≥ (0 : Int))) && ((decide ((e.sm : Int) ≤ (524280 : Int))))) && ((decide ((e.sp : Int) ≥ (0 : Int)))))),
    Under (((((decide ((e.sm : Int) ≥ (0 : Int))) && ((decide ((e.sm : Int) ≤ (524280 : Int))))) && ((decide ((e.sp : Int) ≥ (0 : Int))))))) (.pointer (some ⟨w.heap.size, 1, none⟩)),
    Under (((((decide ((e.sm : Int) ≥ (0 : Int))) && ((decide ((e.sm : Int) ≤ (524280 : Int))))) && ((decide ((e.sp : Int) ≥ (0 : Int))))))) (.int .i64 e.sp),
    Under (((((decide ((e.sm : Int) ≥ (0 : Int))) && ((decide ((e.sm : Int) ≤ (524280 : Int))))) && ((decide ((e.sp : Int) ≥ (0 : Int))))))) (.bool (decide ((e.sp : Int) ≤ (262140 : Int)))),
    Is (.bool ((((decide ((e.sm : Int) ≥ (0 : Int))) && ((decide ((e.sm : Int) ≤ (524280 : Int))))) && ((decide ((e.sp : Int) ≥ (0 : Int))))) && ((decide ((e.sp : Int) ≤ (262140 : Int)))))),
    Is (.bool ((((decide ((e.sm : Int) ≥ (0 : Int))) && ((decide ((e.sm : Int) ≤ (524280 : Int))))) && ((decide ((e.sp : Int) ≥ (0 : Int))))) && ((decide ((e.sp : Int) ≤ (262140 : Int))))))]
   rfl (by kernel_rfl) rfl Ext.refl (fun _ _ _ => Ext.trans) (Ks (Ks (Ks (Ks (Ku (Ku (Ku (Ks (Ks (Ku (Ku (Ku (Ks (Ks (Ku (Ku (Ku (Ks (Ks (KeepAll.nil)))))))))))))))))))) ?_ ?_ ?_
  ·
   intro i o hi ho
   exact absurd hi (by omega)
  ·
   refine goodFrom 0 ?_
   refine Gc (ln1 (gd0 rfl) rfl (ouI rfl) (fun _ _ h _ => h) (fun r wx hR h1 => by simp [execOp, h1, go_sem])) ?_
   refine Gc (ln1 (gd0 rfl) rfl (ouI rfl) (fun _ _ h _ => h) (fun r wx hR h1 => exg one3 rfl h1 (ev0 (hb1.ext hR)))) ?_
   refine Gc (ln2 (gd0 rfl) rfl (ouI rfl) (fun _ _ h _ => h) (fun _ _ h _ => h) (fun r wx hR h1 h2 => by simp [execOp, h1, h2, go_sem])) ?_
   refine Gc (ln1 (gd0 rfl) rfl (ouI rfl) (fun _ _ h _ => h) (fun r wx hR h1 => exec_mv (.inl rfl) h1)) ?_
   refine Gc (ln1 (gdU rfl (fun _ _ h => h) (want_t _)) rfl (ouU rfl) (fun _ _ h _ => h) (fun r wx hR h1 => by simp [execOp, h1, go_sem])) ?_
   refine Gc (ln1 (gdU rfl (fun _ _ h => h) (want_t _)) rfl (ouU rfl) (fun _ _ h c => Eq.trans h (if_pos c)) (fun r wx hR h1 => exg one3 rfl h1 (ev0 (hb1.ext hR)))) ?_
   refine Gc (ln2 (gdU rfl (fun _ _ h => h) (want_t _)) rfl (ouU rfl) (fun _ _ h c => Eq.trans h (if_pos c)) (fun _ _ h _ => h) (fun r wx hR h1 h2 => by simp [execOp, h1, h2, go_sem])) ?_
   refine Gc (lnA (gd0 rfl) rfl (ouI rfl) (fun _ _ h _ => h) (fun _ _ h c hb => Eq.trans h (if_pos (by first | exact hb | (rw [hb]; rfl) | (rw [c, hb]; rfl))))) ?_
   refine Gc (ln1 (gd0 rfl) rfl (ouI rfl) (fun _ _ h _ => h) (fun r wx hR h1 => exec_mv (.inl rfl) h1)) ?_
   refine Gc (ln1 (gdU rfl (fun _ _ h => h) (want_t _)) rfl (ouU rfl) (fun _ _ h _ => h) (fun r wx hR h1 => by simp [execOp, h1, go_sem])) ?_
   refine Gc (ln1 (gdU rfl (fun _ _ h => h) (want_t _)) rfl (ouU rfl) (fun _ _ h c => Eq.trans h (if_pos c)) (fun r wx hR h1 => exg one3 rfl h1 (ev1 (hb1.ext hR)))) ?_
   refine Gc (ln2 (gdU rfl (fun _ _ h => h) (want_t _)) rfl (ouU rfl) (fun _ _ h c => Eq.trans h (if_pos c)) (fun _ _ h _ => h) (fun r wx hR h1 h2 => by simp [execOp, h1, h2, go_sem])) ?_
   refine Gc (lnA (gd0 rfl) rfl (ouI rfl) (fun _ _ h _ => h) (fun _ _ h c hb => Eq.trans h (if_pos (by first | exact hb | (rw [hb]; rfl) | (rw [c, hb]; rfl))))) ?_
   refine Gc (ln1 (gd0 rfl) rfl (ouI rfl) (fun _ _ h _ => h) (fun r wx hR h1 => exec_mv (.inl rfl) h1)) ?_
   refine Gc (ln1 (gdU rfl (fun _ _ h => h) (want_t _)) rfl (ouU rfl) (fun _ _ h _ => h) (fun r wx hR h1 => by simp [execOp, h1, go_sem])) ?_
   refine Gc (ln1 (gdU rfl (fun _ _ h => h) (want_t _)) rfl (ouU rfl) (fun _ _ h c => Eq.trans h (if_pos c)) (fun r wx hR h1 => exg one3 rfl h1 (ev1 (hb1.ext hR)))) ?_
   refine Gc (ln2 (gdU rfl (fun _ _ h => h) (want_t _)) rfl (ouU rfl) (fun _ _ h c => Eq.trans h (if_pos c)) (fun _ _ h _ => h) (fun r wx hR h1 h2 => by simp [execOp, h1, h2, go_sem])) ?_
   refine Gc (lnA (gd0 rfl) rfl (ouI rfl) (fun _ _ h _ => h) (fun _ _ h c hb => Eq.trans h (if_pos (by first | exact hb | (rw [hb]; rfl) | (rw [c, hb]; rfl))))) ?_
   refine Gc (ln1 (gd0 rfl) rfl (ouI rfl) (fun _ _ h _ => h) (fun r wx hR h1 => exec_mv (.inr rfl) h1)) ?_
   exact GoodAll.nil
  ·
   intro vs wE aE hR hold haE
   have hv : vs 18 = .bool ((((decide ((e.sm : Int) ≥ (0 : Int))) && ((decide ((e.sm : Int) ≤ (524280 : Int))))) && ((decide ((e.sp : Int) ≥ (0 : Int))))) && ((decide ((e.sp : Int) ≤ (262140 : Int))))) := hold.at 18
   refine ‹∀ (a : Act) (w : World), Code.wp Try.prog Code.ret _ a w → _› _ _ ?_
   refine wp_ret ?_
   have hs : aE.tmps[2]? = some (.bool ((((decide ((e.sm : Int) ≥ (0 : Int))) && ((decide ((e.sm : Int) ≤ (524280 : Int))))) && ((decide ((e.sp : Int) ≥ (0 : Int))))) && ((decide ((e.sp : Int) ≤ (262140 : Int)))))) := by rw [haE, ← hv]; kernel_rfl
   have hdf : aE.defers = [] := by rw [haE]; exact putAll_defers _ _ _ _
   clear haE
   try unfold Exit.then
   try unfold Exit.inBlock
   try dsimp only
   refine bodyPost_ret (v := .bool ((((decide ((e.sm : Int) ≥ (0 : Int))) && ((decide ((e.sm : Int) ≤ (524280 : Int))))) && ((decide ((e.sp : Int) ≥ (0 : Int))))) && ((decide ((e.sp : Int) ≤ (262140 : Int)))))) ?_ hdf ⟨rfl, he1.trans hR⟩
   simp [results, Try.results11, go_sem, hs]
 | false =>
  have HG : Hid (goodB e = (((e.sm : Int) == (0 : Int)) && (((e.sp : Int) == (0 : Int))))) := show _ = _ by rw [Bool.eq_iff_iff, goodB_iff]; simp [hme]; omega
  rw [HG.out]
  go_enter Try.func11, Try.ntmps11
  go_wp2_with (first
   | (refine stop_at 9 rfl ?_)
   | (refine wl_box (C := EV e) rfl rfl rfl ?_; intro w1 hb1 he1 hx; clear hx; have x0 := ev0 hb1; have x1 := ev1 hb1; have x2 := ev2 hb1; have x3 := ev3 hb1; rw [hme] at x3))
  refine ⟨?_⟩
  refine wpList_line 0 (fun t => bif Nat.ble 14 t && Nat.ble t 21 then some (t - 14) else bif Nat.beq t 2 then some 8 else none) 40 Ext
   [Is (.pointer (some ⟨w.heap.size, 0, none⟩)),
    Is (.int .i64 e.sm),
    Is (.bool ((e.sm : Int) == (0 : Int))),
    Is (.bool ((e.sm : Int) == (0 : Int))),
    Under ((((e.sm : Int) == (0 : Int)))) (.pointer (some ⟨w.heap.size, 1, none⟩)),
    Under ((((e.sm : Int) == (0 : Int)))) (.int .i64 e.sp),
    Under ((((e.sm : Int) == (0 : Int)))) (.bool ((e.sp : Int) == (0 : Int))),
    Is (.bool (((e.sm : Int) == (0 : Int)) && (((e.sp : Int) == (0 : Int))))),
    Is (.bool (((e.sm : Int) == (0 : Int)) && (((e.sp : Int) == (0 : Int)))))]
   rfl (by kernel_rfl) rfl Ext.refl (fun _ _ _ => Ext.trans) (Ks (Ks (Ks (Ks (Ku (Ku (Ku (Ks (Ks (KeepAll.nil)))))))))) ?_ ?_ ?_
  ·
   intro i o hi ho
   exact absurd hi (by omega)
  ·
   refine goodFrom 0 ?_
   refine Gc (ln1 (gd0 rfl) rfl (ouI rfl) (fun _ _ h _ => h) (fun r wx hR h1 => by simp [execOp, h1, go_sem])) ?_
   refine Gc (ln1 (gd0 rfl) rfl (ouI rfl) (fun _ _ h _ => h) (fun r wx hR h1 => exg one3 rfl h1 (ev0 (hb1.ext hR)))) ?_
   refine Gc (ln2 (gd0 rfl) rfl (ouI rfl) (fun _ _ h _ => h) (fun _ _ h _ => h) (fun r wx hR h1 h2 => by simp [execOp, h1, h2, go_sem])) ?_
   refine Gc (ln1 (gd0 rfl) rfl (ouI rfl) (fun _ _ h _ => h) (fun r wx hR h1 => exec_mv (.inl rfl) h1)) ?_
   refine Gc (ln1 (gdU rfl (fun _ _ h => h) (want_t _)) rfl (ouU rfl) (fun _ _ h _ => h) (fun r wx hR h1 => by simp [execOp, h1, go_sem])) ?_
   refine Gc (ln1 (gdU rfl (fun _ _ h => h) (want_t _)) rfl (ouU rfl) (fun _ _ h c => Eq.trans h (if_pos c)) (fun r wx hR h1 => exg one3 rfl h1 (ev1 (hb1.ext hR)))) ?_
   refine Gc (ln2 (gdU rfl (fun _ _ h => h) (want_t _)) rfl (ouU rfl) (fun _ _ h c => Eq.trans h (if_pos c)) (fun _ _ h _ => h) (fun r wx hR h1 h2 => by simp [execOp, h1, h2, go_sem])) ?_
   refine Gc (lnA (gd0 rfl) rfl (ouI rfl) (fun _ _ h _ => h) (fun _ _ h c hb => Eq.trans h (if_pos (by first | exact hb | (rw [hb]; rfl) | (rw [c, hb]; rfl))))) ?_
   refine Gc (ln1 (gd0 rfl) rfl (ouI rfl) (fun _ _ h _ => h) (fun r wx hR h1 => exec_mv (.inr rfl) h1)) ?_
   exact GoodAll.nil
  ·
   intro vs wE aE hR hold haE
   have hv : vs 8 = .bool (((e.sm : Int) == (0 : Int)) && (((e.sp : Int) == (0 : Int)))) := hold.at 8
   refine ‹∀ (a : Act) (w : World), Code.wp Try.prog Code.ret _ a w → _› _ _ ?_
   refine wp_ret ?_
   have hs : aE.tmps[2]? = some (.bool (((e.sm : Int) == (0 : Int)) && (((e.sp : Int) == (0 : Int))))) := by rw [haE, ← hv]; kernel_rfl
   have hdf : aE.defers = [] := by rw [haE]; exact putAll_defers _ _ _ _
   clear haE
   try unfold Exit.then
   try unfold Exit.inBlock
   try dsimp only
   refine bodyPost_ret (v := .bool (((e.sm : Int) == (0 : Int)) && (((e.sp : Int) == (0 : Int))))) ?_ hdf ⟨rfl, he1.trans hR⟩
   simp [results, Try.results11, go_sem, hs]
set_option maxHeartbeats 4000000 in
theorem refGood_any (e : E) (w : World) : Calls Try.prog 12 #[.agg (EV e)] w fun x w' => x = .returned (.bool (goodB e)) ∧ Ext w w' := by
 obtain ⟨m, hme⟩ : ∃ m, e.me = m := ⟨_, rfl⟩
 have key : ∀ (c1 c2 : Bool), (e.sm != 0) = c1 → (e.sp != 0) = c2 → (m || (!c1 && !c2)) = true → goodB e = ((((((decide ((e.wt : Int) ≥ (10 : Int))) && ((decide ((e.wt : Int) ≤ (600 : Int))))) && ((decide ((e.sm : Int) ≥ (0 : Int))))) && ((decide ((e.sm : Int) ≤ (524280 : Int))))) && ((decide ((e.sp : Int) ≥ (0 : Int))))) && ((decide ((e.sp : Int) ≤ (262140 : Int))))) → Calls Try.prog 12 #[.agg (EV e)] w fun x w' => x = .returned (.bool (goodB e)) ∧ Ext w w' := by
  intro c1 c2 d1 d2 hm HG
  have HG : Hid (goodB e = ((((((decide ((e.wt : Int) ≥ (10 : Int))) && ((decide ((e.wt : Int) ≤ (600 : Int))))) && ((decide ((e.sm : Int) ≥ (0 : Int))))) && ((decide ((e.sm : Int) ≤ (524280 : Int))))) && ((decide ((e.sp : Int) ≥ (0 : Int))))) && ((decide ((e.sp : Int) ≤ (262140 : Int)))))) := HG
  rw [HG.out]
  cases m with
  | true =>
   clear d1 d2 hm
   go_enter Try.func12, Try.ntmps12
   go_wp2_with (first
    | (refine stop_at 29 rfl ?_)
    | (refine wl_box (C := EV e) rfl rfl rfl ?_; intro w1 hb1 he1 hx; clear hx; have x0 := ev0 hb1; have x1 := ev1 hb1; have x2 := ev2 hb1; have x3 := ev3 hb1; rw [hme] at x3))
   refine ⟨?_⟩
   refine wpList_line 0 (fun t => bif Nat.ble 16 t && Nat.ble t 43 then some (t - 16) else bif Nat.beq t 2 then some 28 else none) 44 Ext
    [Is (.pointer (some ⟨w.heap.size, 2, none⟩)),
     Is (.int .i64 e.wt),
     Is (.bool (decide ((e.wt : Int) ≥ (10 : Int)))),
     Is (.bool (decide ((e.wt : Int) ≥ (10 : Int)))),
     Under (((decide ((e.wt : Int) ≥ (10 : Int))))) (.pointer (some ⟨w.heap.size, 2, none⟩)),
     Under (((decide ((e.wt : Int) ≥ (10 : Int))))) (.int .i64 e.wt),
     Under (((decide ((e.wt : Int) ≥ (10 : Int))))) (.bool (decide ((e.wt : Int) ≤ (600 : Int)))),
     Is (.bool ((decide ((e.wt : Int) ≥ (10 : Int))) && ((decide ((e.wt : Int) ≤ (600 : Int)))))),
     Is (.bool ((decide ((e.wt : Int) ≥ (10 : Int))) && ((decide ((e.wt : Int) ≤ (600 : Int)))))),
     Under ((((decide ((e.wt : Int) ≥ (10 : Int))) && ((decide ((e.wt : Int) ≤ (600 : Int))))))) (.pointer (some ⟨w.heap.size, 0, none⟩)),
     Under ((((decide ((e.wt : Int) ≥ (10 : Int))) && ((decide ((e.wt : Int) ≤ (600 : Int))))))) (.int .i64 e.sm),
     Under ((((decide ((e.wt : Int) ≥ (10 : Int))) && ((decide ((e.wt : Int) ≤ (600 : Int))))))) (.bool (decide ((e.sm : Int) ≥ (0 : Int)))),
     Is (.bool (((decide ((e.wt : Int) ≥ (10 : Int))) && ((decide ((e.wt : Int) ≤ (600 : Int))))) && ((decide ((e.sm : Int) ≥ (0 : Int)))))),
     Is (.bool (((decide ((e.wt : Int) ≥ (10 : Int))) && ((decide ((e.wt : Int) ≤ (600 : Int))))) && ((decide ((e.sm : Int) ≥ (0 : Int)))))),
     Under (((((decide ((e.wt : Int) ≥ (10 : Int))) && ((decide ((e.wt : Int) ≤ (600 : Int))))) && ((decide ((e.sm : Int) ≥ (0 : Int))))))) (.pointer (some ⟨w.heap.size, 0, none⟩)),
     Under (((((decide ((e.wt : Int) ≥ (10 : Int))) && ((decide ((e.wt : Int) ≤ (600 : Int))))) && ((decide ((e.sm : Int) ≥ (0 : Int))))))) (.int .i64 e.sm),
     Under (((((decide ((e.wt : Int) ≥ (10 : Int))) && ((decide ((e.wt : Int) ≤ (600 : Int))))) && ((decide ((e.sm : Int) ≥ (0 : Int))))))) (.bool (decide ((e.sm : Int) ≤ (524280 : Int)))),
     Is (.bool ((((decide ((e.wt : Int) ≥ (10 : Int))) && ((decide ((e.wt : Int) ≤ (600 : Int))))) && ((decide ((e.sm : Int) ≥ (0 : Int))))) && ((decide ((e.sm : Int) ≤ (524280 : Int)))))),
     Is (.bool ((((decide ((e.wt : Int) ≥ (10 : Int))) && ((decide ((e.wt : Int) ≤ (600 : Int))))) && ((decide ((e.sm : Int) ≥ (0 : Int))))) && ((decide ((e.sm : Int) ≤ (524280 : Int)))))),
     Under ((((((decide ((e.wt : Int) ≥ (10 : Int))) && ((decide ((e.wt : Int) ≤ (600 : Int))))) && ((decide ((e.sm : Int) ≥ (0 : Int))))) && ((decide ((e.sm : Int) ≤ (524280 : Int))))))) (.pointer (some ⟨w.heap.size, 1, none⟩)),
     Under ((((((decide ((e.wt : Int) ≥ (10 : Int))) && ((decide ((e.wt : Int) ≤ (600 : Int))))) && ((decide ((e.sm : Int) ≥ (0 : Int))))) && ((decide ((e.sm : Int) ≤ (524280 : Int))))))) (.int .i64 e.sp),
     Under ((((((decide ((e.wt : Int) ≥ (10 : Int))) && ((decide ((e.wt : Int) ≤ (600 : Int))))) && ((decide ((e.sm : Int) ≥ (0 : Int))))) && ((decide ((e.sm : Int) ≤ (524280 : Int))))))) (.bool (decide ((e.sp : Int) ≥ (0 : Int)))),
     Is (.bool (((((decide ((e.wt : Int) ≥ (10 : Int))) && ((decide ((e.wt : Int) ≤ (600 : Int))))) && ((decide ((e.sm : Int) ≥ (0 : Int))))) && ((decide ((e.sm : Int) ≤ (524280 : Int))))) && ((decide ((e.sp : Int) ≥ (0 : Int)))))),
     Is (.bool (((((decide ((e.wt : Int) ≥ (10 : Int))) && ((decide ((e.wt : Int) ≤ (600 : Int))))) && ((decide ((e.sm : Int) ≥ (0 : Int))))) && ((decide ((e.sm : Int) ≤ (524280 : Int))))) && ((decide ((e.sp : Int) ≥ (0 : Int)))))),
     Under (((((((decide ((e.wt : Int) ≥ (10 : Int))) && ((decide ((e.wt : Int) ≤ (600 : Int))))) && ((decide ((e.sm : Int) ≥ (0 : Int))))) && ((decide ((e.sm : Int) ≤ (524280 : Int))))) && ((decide ((e.sp : Int) ≥ (0 : Int))))))) (.pointer (some ⟨w.heap.size, 1, none⟩)),
     Under (((((((decide ((e.wt : Int) ≥ (10 : Int))) && ((decide ((e.wt : Int) ≤ (600 : Int))))) && ((decide ((e.sm : Int) ≥ (0 : Int))))) && ((decide ((e.sm : Int) ≤ (524280 : Int))))) && ((decide ((e.sp : Int) ≥ (0 : Int))))))) (.int .i64 e.sp),
     Under (((((((decide ((e.wt : Int) ≥ (10 : Int))) && ((decide ((e.wt : Int) ≤ (600 : Int))))) && ((decide ((e.sm : Int) ≥ (0 : Int))))) && ((decide ((e.sm : Int) ≤ (524280 : Int))))) && ((decide ((e.sp : Int) ≥ (0 : Int))))))) (.bool (decide ((e.sp : Int) ≤ (262140 : Int)))),
     Is (.bool ((((((decide ((e.wt : Int) ≥ (10 : Int))) && ((decide ((e.wt : Int) ≤ (600 : Int))))) && ((decide ((e.sm : Int) ≥ (0 : Int))))) && ((decide ((e.sm : Int) ≤ (524280 : Int))))) && ((decide ((e.sp : Int) ≥ (0 : Int))))) && ((decide ((e.sp : Int) ≤ (262140 : Int)))))),
     Is (.bool ((((((decide ((e.wt : Int) ≥ (10 : Int))) && ((decide ((e.wt : Int) ≤ (600 : Int))))) && ((decide ((e.sm : Int) ≥ (0 : Int))))) && ((decide ((e.sm : Int) ≤ (524280 : Int))))) && ((decide ((e.sp : Int) ≥ (0 : Int))))) && ((decide ((e.sp : Int) ≤ (262140 : Int))))))]
    rfl (by kernel_rfl) rfl Ext.refl (fun _ _ _ => Ext.trans) (Ks (Ks (Ks (Ks (Ku (Ku (Ku (Ks (Ks (Ku (Ku (Ku (Ks (Ks (Ku (Ku (Ku (Ks (Ks (Ku (Ku (Ku (Ks (Ks (Ku (Ku (Ku (Ks (Ks (KeepAll.nil)))))))))))))))))))))))))))))) ?_ ?_ ?_
   ·
    intro i o hi ho
    exact absurd hi (by omega)
   ·
    refine goodFrom 0 ?_
    refine Gc (ln1 (gd0 rfl) rfl (ouI rfl) (fun _ _ h _ => h) (fun r wx hR h1 => by simp [execOp, h1, go_sem])) ?_
    refine Gc (ln1 (gd0 rfl) rfl (ouI rfl) (fun _ _ h _ => h) (fun r wx hR h1 => exg one3 rfl h1 (ev2 (hb1.ext hR)))) ?_
    refine Gc (ln2 (gd0 rfl) rfl (ouI rfl) (fun _ _ h _ => h) (fun _ _ h _ => h) (fun r wx hR h1 h2 => by simp [execOp, h1, h2, go_sem])) ?_
    refine Gc (ln1 (gd0 rfl) rfl (ouI rfl) (fun _ _ h _ => h) (fun r wx hR h1 => exec_mv (.inl rfl) h1)) ?_
    refine Gc (ln1 (gdU rfl (fun _ _ h => h) (want_t _)) rfl (ouU rfl) (fun _ _ h _ => h) (fun r wx hR h1 => by simp [execOp, h1, go_sem])) ?_
    refine Gc (ln1 (gdU rfl (fun _ _ h => h) (want_t _)) rfl (ouU rfl) (fun _ _ h c => Eq.trans h (if_pos c)) (fun r wx hR h1 => exg one3 rfl h1 (ev2 (hb1.ext hR)))) ?_
    refine Gc (ln2 (gdU rfl (fun _ _ h => h) (want_t _)) rfl (ouU rfl) (fun _ _ h c => Eq.trans h (if_pos c)) (fun _ _ h _ => h) (fun r wx hR h1 h2 => by simp [execOp, h1, h2, go_sem])) ?_
    refine Gc (lnA (gd0 rfl) rfl (ouI rfl) (fun _ _ h _ => h) (fun _ _ h c hb => Eq.trans h (if_pos (by first | exact hb | (rw [hb]; rfl) | (rw [c, hb]; rfl))))) ?_
    refine Gc (ln1 (gd0 rfl) rfl (ouI rfl) (fun _ _ h _ => h) (fun r wx hR h1 => exec_mv (.inl rfl) h1)) ?_
    refine Gc (ln1 (gdU rfl (fun _ _ h => h) (want_t _)) rfl (ouU rfl) (fun _ _ h _ => h) (fun r wx hR h1 => by simp [execOp, h1, go_sem])) ?_
    refine Gc (ln1 (gdU rfl (fun _ _ h => h) (want_t _)) rfl (ouU rfl) (fun _ _ h c => Eq.trans h (if_pos c)) (fun r wx hR h1 => exg one3 rfl h1 (ev0 (hb1.ext hR)))) ?_
    refine Gc (ln2 (gdU rfl (fun _ _ h => h) (want_t _)) rfl (ouU rfl) (fun _ _ h c => Eq.trans h (if_pos c)) (fun _ _ h _ => h) (fun r wx hR h1 h2 => by simp [execOp, h1, h2, go_sem])) ?_
    refine Gc (lnA (gd0 rfl) rfl (ouI rfl) (fun _ _ h _ => h) (fun _ _ h c hb => Eq.trans h (if_pos (by first | exact hb | (rw [hb]; rfl) | (rw [c, hb]; rfl))))) ?_
    refine Gc (ln1 (gd0 rfl) rfl (ouI rfl) (fun _ _ h _ => h) (fun r wx hR h1 => exec_mv (.inl rfl) h1)) ?_
    refine Gc (ln1 (gdU rfl (fun _ _ h => h) (want_t _)) rfl (ouU rfl) (fun _ _ h _ => h) (fun r wx hR h1 => by simp [execOp, h1, go_sem])) ?_
    refine Gc (ln1 (gdU rfl (fun _ _ h => h) (want_t _)) rfl (ouU rfl) (fun _ _ h c => Eq.trans h (if_pos c)) (fun r wx hR h1 => exg one3 rfl h1 (ev0 (hb1.ext hR)))) ?_
    refine Gc (ln2 (gdU rfl (fun _ _ h => h) (want_t _)) rfl (ouU rfl) (fun _ _ h c => Eq.trans h (if_pos c)) (fun _ _ h _ => h) (fun r wx hR h1 h2 => by simp [execOp, h1, h2, go_sem])) ?_
    refine Gc (lnA (gd0 rfl) rfl (ouI rfl) (fun _ _ h _ => h) (fun _ _ h c hb => Eq.trans h (if_pos (by first | exact hb | (rw [hb]; rfl) | (rw [c, hb]; rfl))))) ?_
    refine Gc (ln1 (gd0 rfl) rfl (ouI rfl) (fun _ _ h _ => h) (fun r wx hR h1 => exec_mv (.inl rfl) h1)) ?_
    refine Gc (ln1 (gdU rfl (fun _ _ h => h) (want_t _)) rfl (ouU rfl) (fun _ _ h _ => h) (fun r wx hR h1 => by simp [execOp, h1, go_sem])) ?_
    refine Gc (ln1 (gdU rfl (fun _ _ h => h) (want_t _)) rfl (ouU rfl) (fun _ _ h c => Eq.trans h (if_pos c)) (fun r wx hR h1 => exg one3 rfl h1 (ev1 (hb1.ext hR)))) ?_
    refine Gc (ln2 (gdU rfl (fun _ _ h => h) (want_t _)) rfl (ouU rfl) (fun _ _ h c => Eq.trans h (if_pos c)) (fun _ _ h _ => h) (fun r wx hR h1 h2 => by simp [execOp, h1, h2, go_sem])) ?_
    refine Gc (lnA (gd0 rfl) rfl (ouI rfl) (fun _ _ h _ => h) (fun _ _ h c hb => Eq.trans h (if_pos (by first | exact hb | (rw [hb]; rfl) | (rw [c, hb]; rfl))))) ?_
    refine Gc (ln1 (gd0 rfl) rfl (ouI rfl) (fun _ _ h _ => h) (fun r wx hR h1 => exec_mv (.inl rfl) h1)) ?_
    refine Gc (ln1 (gdU rfl (fun _ _ h => h) (want_t _)) rfl (ouU rfl) (fun _ _ h _ => h) (fun r wx hR h1 => by simp [execOp, h1, go_sem])) ?_
    refine Gc (ln1 (gdU rfl (fun _ _ h => h) (want_t _)) rfl (ouU rfl) (fun _ _ h c => Eq.trans h (if_pos c)) (fun r wx hR h1 => exg one3 rfl h1 (ev1 (hb1.ext hR)))) ?_
    refine Gc (ln2 (gdU rfl (fun _ _ h => h) (want_t _)) rfl (ouU rfl) (fun _ _ h c => Eq.trans h (if_pos c)) (fun _ _ h _ => h) (fun r wx hR h1 h2 => by simp [execOp, h1, h2, go_sem])) ?_
    refine Gc (lnA (gd0 rfl) rfl (ouI rfl) (fun _ _ h _ => h) (fun _ _ h c hb => Eq.trans h (if_pos (by first | exact hb | (rw [hb]; rfl) | (rw [c, hb]; rfl))))) ?_
    refine Gc (ln1 (gd0 rfl) rfl (ouI rfl) (fun _ _ h _ => h) (fun r wx hR h1 => exec_mv (.inr rfl) h1)) ?_
    exact GoodAll.nil
   ·
    intro vs wE aE hR hold haE
    have hv : vs 28 = .bool ((((((decide ((e.wt : Int) ≥ (10 : Int))) && ((decide ((e.wt : Int) ≤ (600 : Int))))) && ((decide ((e.sm : Int) ≥ (0 : Int))))) && ((decide ((e.sm : Int) ≤ (524280 : Int))))) && ((decide ((e.sp : Int) ≥ (0 : Int))))) && ((decide ((e.sp : Int) ≤ (262140 : Int))))) := hold.at 28
    refine ‹∀ (a : Act) (w : World), Code.wp Try.prog Code.ret _ a w → _› _ _ ?_
    refine wp_ret ?_
    have hs : aE.tmps[2]? = some (.bool ((((((decide ((e.wt : Int) ≥ (10 : Int))) && ((decide ((e.wt : Int) ≤ (600 : Int))))) && ((decide ((e.sm : Int) ≥ (0 : Int))))) && ((decide ((e.sm : Int) ≤ (524280 : Int))))) && ((decide ((e.sp : Int) ≥ (0 : Int))))) && ((decide ((e.sp : Int) ≤ (262140 : Int)))))) := by rw [haE, ← hv]; kernel_rfl
    have hdf : aE.defers = [] := by rw [haE]; exact putAll_defers _ _ _ _
    clear haE
    try unfold Exit.then
    try unfold Exit.inBlock
    try dsimp only
    refine bodyPost_ret (v := .bool ((((((decide ((e.wt : Int) ≥ (10 : Int))) && ((decide ((e.wt : Int) ≤ (600 : Int))))) && ((decide ((e.sm : Int) ≥ (0 : Int))))) && ((decide ((e.sm : Int) ≤ (524280 : Int))))) && ((decide ((e.sp : Int) ≥ (0 : Int))))) && ((decide ((e.sp : Int) ≤ (262140 : Int)))))) ?_ hdf ⟨rfl, he1.trans hR⟩
    simp [results, Try.results12, go_sem, hs]
  | false =>
   cases c1 <;> cases c2 <;> try cases hm
   go_enter Try.func12, Try.ntmps12
   go_wp2_with (first
    | (refine stop_at 29 rfl ?_)
    | (refine wl_box (C := EV e) rfl rfl rfl ?_; intro w1 hb1 he1 hx; clear hx; have x0 := ev0 hb1; have x1 := ev1 hb1; have x2 := ev2 hb1; have x3 := ev3 hb1; rw [hme] at x3))
   refine ⟨?_⟩
   refine wpList_line 0 (fun t => bif Nat.ble 16 t && Nat.ble t 43 then some (t - 16) else bif Nat.beq t 2 then some 28 else none) 44 Ext
    [Is (.pointer (some ⟨w.heap.size, 2, none⟩)),
     Is (.int .i64 e.wt),
     Is (.bool (decide ((e.wt : Int) ≥ (10 : Int)))),
     Is (.bool (decide ((e.wt : Int) ≥ (10 : Int)))),
     Under (((decide ((e.wt : Int) ≥ (10 : Int))))) (.pointer (some ⟨w.heap.size, 2, none⟩)),
     Under (((decide ((e.wt : Int) ≥ (10 : Int))))) (.int .i64 e.wt),
     Under (((decide ((e.wt : Int) ≥ (10 : Int))))) (.bool (decide ((e.wt : Int) ≤ (600 : Int)))),
     Is (.bool ((decide ((e.wt : Int) ≥ (10 : Int))) && ((decide ((e.wt : Int) ≤ (600 : Int)))))),
     Is (.bool ((decide ((e.wt : Int) ≥ (10 : Int))) && ((decide ((e.wt : Int) ≤ (600 : Int)))))),
     Under ((((decide ((e.wt : Int) ≥ (10 : Int))) && ((decide ((e.wt : Int) ≤ (600 : Int))))))) (.pointer (some ⟨w.heap.size, 0, none⟩)),
     Under ((((decide ((e.wt : Int) ≥ (10 : Int))) && ((decide ((e.wt : Int) ≤ (600 : Int))))))) (.int .i64 e.sm),
     Under ((((decide ((e.wt : Int) ≥ (10 : Int))) && ((decide ((e.wt : Int) ≤ (600 : Int))))))) (.bool (decide ((e.sm : Int) ≥ (0 : Int)))),
     Is (.bool (((decide ((e.wt : Int) ≥ (10 : Int))) && ((decide ((e.wt : Int) ≤ (600 : Int))))) && ((decide ((e.sm : Int) ≥ (0 : Int)))))),
     Is (.bool (((decide ((e.wt : Int) ≥ (10 : Int))) && ((decide ((e.wt : Int) ≤ (600 : Int))))) && ((decide ((e.sm : Int) ≥ (0 : Int)))))),
     Under (((((decide ((e.wt : Int) ≥ (10 : Int))) && ((decide ((e.wt : Int) ≤ (600 : Int))))) && ((decide ((e.sm : Int) ≥ (0 : Int))))))) (.pointer (some ⟨w.heap.size, 0, none⟩)),
     Under (((((decide ((e.wt : Int) ≥ (10 : Int))) && ((decide ((e.wt : Int) ≤ (600 : Int))))) && ((decide ((e.sm : Int) ≥ (0 : Int))))))) (.int .i64 e.sm),
     Under (((((decide ((e.wt : Int) ≥ (10 : Int))) && ((decide ((e.wt : Int) ≤ (600 : Int))))) && ((decide ((e.sm : Int) ≥ (0 : Int))))))) (.bool (decide ((e.sm : Int) ≤ (524280 : Int)))),
     Is (.bool ((((decide ((e.wt : Int) ≥ (10 : Int))) && ((decide ((e.wt : Int) ≤ (600 : Int))))) && ((decide ((e.sm : Int) ≥ (0 : Int))))) && ((decide ((e.sm : Int) ≤ (524280 : Int)))))),
     Is (.bool ((((decide ((e.wt : Int) ≥ (10 : Int))) && ((decide ((e.wt : Int) ≤ (600 : Int))))) && ((decide ((e.sm : Int) ≥ (0 : Int))))) && ((decide ((e.sm : Int) ≤ (524280 : Int)))))),
     Under ((((((decide ((e.wt : Int) ≥ (10 : Int))) && ((decide ((e.wt : Int) ≤ (600 : Int))))) && ((decide ((e.sm : Int) ≥ (0 : Int))))) && ((decide ((e.sm : Int) ≤ (524280 : Int))))))) (.pointer (some ⟨w.heap.size, 1, none⟩)),
     Under ((((((decide ((e.wt : Int) ≥ (10 : Int))) && ((decide ((e.wt : Int) ≤ (600 : Int))))) && ((decide ((e.sm : Int) ≥ (0 : Int))))) && ((decide ((e.sm : Int) ≤ (524280 : Int))))))) (.int .i64 e.sp),
     Under ((((((decide ((e.wt : Int) ≥ (10 : Int))) && ((decide ((e.wt : Int) ≤ (600 : Int))))) && ((decide ((e.sm : Int) ≥ (0 : Int))))) && ((decide ((e.sm : Int) ≤ (524280 : Int))))))) (.bool (decide ((e.sp : Int) ≥ (0 : Int)))),
     Is (.bool (((((decide ((e.wt : Int) ≥ (10 : Int))) && ((decide ((e.wt : Int) ≤ (600 : Int))))) && ((decide ((e.sm : Int) ≥ (0 : Int))))) && ((decide ((e.sm : Int) ≤ (524280 : Int))))) && ((decide ((e.sp : Int) ≥ (0 : Int)))))),
     Is (.bool (((((decide ((e.wt : Int) ≥ (10 : Int))) && ((decide ((e.wt : Int) ≤ (600 : Int))))) && ((decide ((e.sm : Int) ≥ (0 : Int))))) && ((decide ((e.sm : Int) ≤ (524280 : Int))))) && ((decide ((e.sp : Int) ≥ (0 : Int)))))),
     Under (((((((decide ((e.wt : Int) ≥ (10 : Int))) && ((decide ((e.wt : Int) ≤ (600 : Int))))) && ((decide ((e.sm : Int) ≥ (0 : Int))))) && ((decide ((e.sm : Int) ≤ (524280 : Int))))) && ((decide ((e.sp : Int) ≥ (0 : Int))))))) (.pointer (some ⟨w.heap.size, 1, none⟩)),
     Under (((((((decide ((e.wt : Int) ≥ (10 : Int))) && ((decide ((e.wt : Int) ≤ (600 : Int))))) && ((decide ((e.sm : Int) ≥ (0 : Int))))) && ((decide ((e.sm : Int) ≤ (524280 : Int))))) && ((decide ((e.sp : Int) ≥ (0 : Int))))))) (.int .i64 e.sp),
     Under (((((((decide ((e.wt : Int) ≥ (10 : Int))) && ((decide ((e.wt : Int) ≤ (600 : Int))))) && ((decide ((e.sm : Int) ≥ (0 : Int))))) && ((decide ((e.sm : Int) ≤ (524280 : Int))))) && ((decide ((e.sp : Int) ≥ (0 : Int))))))) (.bool (decide ((e.sp : Int) ≤ (262140 : Int)))),
     Is (.bool ((((((decide ((e.wt : Int) ≥ (10 : Int))) && ((decide ((e.wt : Int) ≤ (600 : Int))))) && ((decide ((e.sm : Int) ≥ (0 : Int))))) && ((decide ((e.sm : Int) ≤ (524280 : Int))))) && ((decide ((e.sp : Int) ≥ (0 : Int))))) && ((decide ((e.sp : Int) ≤ (262140 : Int)))))),
     Is (.bool ((((((decide ((e.wt : Int) ≥ (10 : Int))) && ((decide ((e.wt : Int) ≤ (600 : Int))))) && ((decide ((e.sm : Int) ≥ (0 : Int))))) && ((decide ((e.sm : Int) ≤ (524280 : Int))))) && ((decide ((e.sp : Int) ≥ (0 : Int))))) && ((decide ((e.sp : Int) ≤ (262140 : Int))))))]
    rfl (by kernel_rfl) rfl Ext.refl (fun _ _ _ => Ext.trans) (Ks (Ks (Ks (Ks (Ku (Ku (Ku (Ks (Ks (Ku (Ku (Ku (Ks (Ks (Ku (Ku (Ku (Ks (Ks (Ku (Ku (Ku (Ks (Ks (Ku (Ku (Ku (Ks (Ks (KeepAll.nil)))))))))))))))))))))))))))))) ?_ ?_ ?_
   ·
    intro i o hi ho
    exact absurd hi (by omega)
   ·
    refine goodFrom 0 ?_
    refine Gc (ln1 (gd0 rfl) rfl (ouI rfl) (fun _ _ h _ => h) (fun r wx hR h1 => by simp [execOp, h1, go_sem])) ?_
    refine Gc (ln1 (gd0 rfl) rfl (ouI rfl) (fun _ _ h _ => h) (fun r wx hR h1 => exg one3 rfl h1 (ev2 (hb1.ext hR)))) ?_
    refine Gc (ln2 (gd0 rfl) rfl (ouI rfl) (fun _ _ h _ => h) (fun _ _ h _ => h) (fun r wx hR h1 h2 => by simp [execOp, h1, h2, go_sem])) ?_
    refine Gc (ln1 (gd0 rfl) rfl (ouI rfl) (fun _ _ h _ => h) (fun r wx hR h1 => exec_mv (.inl rfl) h1)) ?_
    refine Gc (ln1 (gdU rfl (fun _ _ h => h) (want_t _)) rfl (ouU rfl) (fun _ _ h _ => h) (fun r wx hR h1 => by simp [execOp, h1, go_sem])) ?_
    refine Gc (ln1 (gdU rfl (fun _ _ h => h) (want_t _)) rfl (ouU rfl) (fun _ _ h c => Eq.trans h (if_pos c)) (fun r wx hR h1 => exg one3 rfl h1 (ev2 (hb1.ext hR)))) ?_
    refine Gc (ln2 (gdU rfl (fun _ _ h => h) (want_t _)) rfl (ouU rfl) (fun _ _ h c => Eq.trans h (if_pos c)) (fun _ _ h _ => h) (fun r wx hR h1 h2 => by simp [execOp, h1, h2, go_sem])) ?_
    refine Gc (lnA (gd0 rfl) rfl (ouI rfl) (fun _ _ h _ => h) (fun _ _ h c hb => Eq.trans h (if_pos (by first | exact hb | (rw [hb]; rfl) | (rw [c, hb]; rfl))))) ?_
    refine Gc (ln1 (gd0 rfl) rfl (ouI rfl) (fun _ _ h _ => h) (fun r wx hR h1 => exec_mv (.inl rfl) h1)) ?_
    refine Gc (ln1 (gdU rfl (fun _ _ h => h) (want_t _)) rfl (ouU rfl) (fun _ _ h _ => h) (fun r wx hR h1 => by simp [execOp, h1, go_sem])) ?_
    refine Gc (ln1 (gdU rfl (fun _ _ h => h) (want_t _)) rfl (ouU rfl) (fun _ _ h c => Eq.trans h (if_pos c)) (fun r wx hR h1 => exg one3 rfl h1 (ev0 (hb1.ext hR)))) ?_
    refine Gc (ln2 (gdU rfl (fun _ _ h => h) (want_t _)) rfl (ouU rfl) (fun _ _ h c => Eq.trans h (if_pos c)) (fun _ _ h _ => h) (fun r wx hR h1 h2 => by simp [execOp, h1, h2, go_sem])) ?_
    refine Gc (lnA (gd0 rfl) rfl (ouI rfl) (fun _ _ h _ => h) (fun _ _ h c hb => Eq.trans h (if_pos (by first | exact hb | (rw [hb]; rfl) | (rw [c, hb]; rfl))))) ?_
    refine Gc (ln1 (gd0 rfl) rfl (ouI rfl) (fun _ _ h _ => h) (fun r wx hR h1 => exec_mv (.inl rfl) h1)) ?_
    refine Gc (ln1 (gdU rfl (fun _ _ h => h) (want_t _)) rfl (ouU rfl) (fun _ _ h _ => h) (fun r wx hR h1 => by simp [execOp, h1, go_sem])) ?_
    refine Gc (ln1 (gdU rfl (fun _ _ h => h) (want_t _)) rfl (ouU rfl) (fun _ _ h c => Eq.trans h (if_pos c)) (fun r wx hR h1 => exg one3 rfl h1 (ev0 (hb1.ext hR)))) ?_
    refine Gc (ln2 (gdU rfl (fun _ _ h => h) (want_t _)) rfl (ouU rfl) (fun _ _ h c => Eq.trans h (if_pos c)) (fun _ _ h _ => h) (fun r wx hR h1 h2 => by simp [execOp, h1, h2, go_sem])) ?_
    refine Gc (lnA (gd0 rfl) rfl (ouI rfl) (fun _ _ h _ => h) (fun _ _ h c hb => Eq.trans h (if_pos (by first | exact hb | (rw [hb]; rfl) | (rw [c, hb]; rfl))))) ?_
    refine Gc (ln1 (gd0 rfl) rfl (ouI rfl) (fun _ _ h _ => h) (fun r wx hR h1 => exec_mv (.inl rfl) h1)) ?_
    refine Gc (ln1 (gdU rfl (fun _ _ h => h) (want_t _)) rfl (ouU rfl) (fun _ _ h _ => h) (fun r wx hR h1 => by simp [execOp, h1, go_sem])) ?_
    refine Gc (ln1 (gdU rfl (fun _ _ h => h) (want_t _)) rfl (ouU rfl) (fun _ _ h c => Eq.trans h (if_pos c)) (fun r wx hR h1 => exg one3 rfl h1 (ev1 (hb1.ext hR)))) ?_
    refine Gc (ln2 (gdU rfl (fun _ _ h => h) (want_t _)) rfl (ouU rfl) (fun _ _ h c => Eq.trans h (if_pos c)) (fun _ _ h _ => h) (fun r wx hR h1 h2 => by simp [execOp, h1, h2, go_sem])) ?_
    refine Gc (lnA (gd0 rfl) rfl (ouI rfl) (fun _ _ h _ => h) (fun _ _ h c hb => Eq.trans h (if_pos (by first | exact hb | (rw [hb]; rfl) | (rw [c, hb]; rfl))))) ?_
    refine Gc (ln1 (gd0 rfl) rfl (ouI rfl) (fun _ _ h _ => h) (fun r wx hR h1 => exec_mv (.inl rfl) h1)) ?_
    refine Gc (ln1 (gdU rfl (fun _ _ h => h) (want_t _)) rfl (ouU rfl) (fun _ _ h _ => h) (fun r wx hR h1 => by simp [execOp, h1, go_sem])) ?_
    refine Gc (ln1 (gdU rfl (fun _ _ h => h) (want_t _)) rfl (ouU rfl) (fun _ _ h c => Eq.trans h (if_pos c)) (fun r wx hR h1 => exg one3 rfl h1 (ev1 (hb1.ext hR)))) ?_
    refine Gc (ln2 (gdU rfl (fun _ _ h => h) (want_t _)) rfl (ouU rfl) (fun _ _ h c => Eq.trans h (if_pos c)) (fun _ _ h _ => h) (fun r wx hR h1 h2 => by simp [execOp, h1, h2, go_sem])) ?_
    refine Gc (lnA (gd0 rfl) rfl (ouI rfl) (fun _ _ h _ => h) (fun _ _ h c hb => Eq.trans h (if_pos (by first | exact hb | (rw [hb]; rfl) | (rw [c, hb]; rfl))))) ?_
    refine Gc (ln1 (gd0 rfl) rfl (ouI rfl) (fun _ _ h _ => h) (fun r wx hR h1 => exec_mv (.inr rfl) h1)) ?_
    exact GoodAll.nil
   ·
    intro vs wE aE hR hold haE
    have hv : vs 28 = .bool ((((((decide ((e.wt : Int) ≥ (10 : Int))) && ((decide ((e.wt : Int) ≤ (600 : Int))))) && ((decide ((e.sm : Int) ≥ (0 : Int))))) && ((decide ((e.sm : Int) ≤ (524280 : Int))))) && ((decide ((e.sp : Int) ≥ (0 : Int))))) && ((decide ((e.sp : Int) ≤ (262140 : Int))))) := hold.at 28
    refine ‹∀ (a : Act) (w : World), Code.wp Try.prog Code.ret _ a w → _› _ _ ?_
    refine wp_ret ?_
    have hs : aE.tmps[2]? = some (.bool ((((((decide ((e.wt : Int) ≥ (10 : Int))) && ((decide ((e.wt : Int) ≤ (600 : Int))))) && ((decide ((e.sm : Int) ≥ (0 : Int))))) && ((decide ((e.sm : Int) ≤ (524280 : Int))))) && ((decide ((e.sp : Int) ≥ (0 : Int))))) && ((decide ((e.sp : Int) ≤ (262140 : Int)))))) := by rw [haE, ← hv]; kernel_rfl
    have hdf : aE.defers = [] := by rw [haE]; exact putAll_defers _ _ _ _
    clear haE
    try unfold Exit.then
    try unfold Exit.inBlock
    try dsimp only
    refine bodyPost_ret (v := .bool ((((((decide ((e.wt : Int) ≥ (10 : Int))) && ((decide ((e.wt : Int) ≤ (600 : Int))))) && ((decide ((e.sm : Int) ≥ (0 : Int))))) && ((decide ((e.sm : Int) ≤ (524280 : Int))))) && ((decide ((e.sp : Int) ≥ (0 : Int))))) && ((decide ((e.sp : Int) ≤ (262140 : Int)))))) ?_ hdf ⟨rfl, he1.trans hR⟩
    simp [results, Try.results12, go_sem, hs]
 cases m with
 | true => exact key _ _ rfl rfl rfl (by rw [Bool.eq_iff_iff, goodB_iff]; simp [hme]; omega)
 | false =>
  by_cases h1 : e.sm = 0
  ·
   by_cases h2 : e.sp = 0
   ·
    exact key false false (by simp [h1]) (by simp [h2]) rfl (by rw [Bool.eq_iff_iff, goodB_iff]; simp [hme, h1, h2])
   ·
    have d1 : (e.sm != 0) = false := by simp [h1]
    have d2 : (e.sp != 0) = true := by simp [h2]
    rw [goodB_no (.inr (.inr ⟨hme, .inr h2⟩))]
    go_enter Try.func12, Try.ntmps12
    go_wp2_with (first
     | (refine wl_box (C := EV e) rfl rfl rfl ?_; intro w1 hb1 he1 hx; clear hx; have x0 := ev0 hb1; have x1 := ev1 hb1; have x2 := ev2 hb1; have x3 := ev3 hb1; rw [hme] at x3))
    go_ret
    exact ⟨rfl, he1⟩
  ·
   have d1 : (e.sm != 0) = true := by simp [h1]
   rw [goodB_no (.inr (.inr ⟨hme, .inl h1⟩))]
   go_enter Try.func12, Try.ntmps12
   go_wp2_with (first
    | (refine wl_box (C := EV e) rfl rfl rfl ?_; intro w1 hb1 he1 hx; clear hx; have x0 := ev0 hb1; have x1 := ev1 hb1; have x2 := ev2 hb1; have x3 := ev3 hb1; rw [hme] at x3))
   go_ret
   exact ⟨rfl, he1⟩
end Rto
end Go.Proofs.Ytdjijipbfiofmaa
/- A wait that is bounded, the first estimate, errors as numbers. No condition of its own. -/
namespace Go.Proofs.Ytdjijipbfiofmaa
namespace Rto
open Go Go.RowKit
set_option maxRecDepth 100000
theorem wl_minI {w : World} {ops : Array Oper} {rest : List Oper} {o : Oper} {a : Act} {Q : Exit → Act → World → Prop} (hgd : o.guard = none) {x y : Operand} {m n k : Int} (ho : o.op = .call { callee := .builtin .min, args := #[x, y], argTypes := #[3, 3] }) (hx : a.eval x = .int .i64 m) (hy : a.eval y = .int .i64 n) (hk : k = if n < m then n else m)
  (h : wpList Try.prog ops Q rest (a.put o.dst (.int .i64 k)) w) : wpList Try.prog ops Q (o :: rest) a w := by
 have hr : (Builtin.min_ #[3, 3] o.type #[.int .i64 m, .int .i64 n]).run Try.prog w = .ok (.int .i64 k) w := by
  subst hk
  by_cases hl : n < m
  ·
   simp [Builtin.min_, Builtin.min2, go_sem, hl]
  ·
   simp [Builtin.min_, Builtin.min2, go_sem, hl]
 refine wpList_of_run hgd (v := .int .i64 k) (w' := w) ?_ h
 simp only [execOp, ho, resolve, invoke, builtin, Sem.run_bind, Sem.run_pure, Result.andThen_ok, List.map_toArray, List.map_cons, List.map_nil, hx, hy, hr]
/-- A wait that is neither too short nor too long. -/
def bd (x : Int) : Int := if x < 10 then 10 else if 600 < x then 600 else x
theorem bd_in (x : Int) : 10 ≤ bd x ∧ bd x ≤ 600 := by unfold bd; split <;> (try split) <;> omega
set_option maxHeartbeats 2000000 in
theorem bounded_any (x : Int) (w : World) : Calls Try.prog 20 #[.int .i64 x] w fun e w' => e = .returned (.int .i64 (bd x)) ∧ Ext w w' := by
 go_enter Try.func20, Try.ntmps20
 go_wp2
 all_goals go_ret
 all_goals refine ⟨congrArg Ending.returned (congrArg (Value.int .i64) (?_ : (_ : Int) = _)), Ext.refl _⟩
 all_goals unfold bd
 all_goals (rename_i h'; first | (rw [if_pos h] at h'; omega) | (rw [if_neg (by omega)] at h'; omega) | skip)
 all_goals split <;> (try split) <;> omega
theorem wl_build {w : World} {ops : Array Oper} {rest : List Oper} {o : Oper} {a : Act} {Q : Exit → Act → World → Prop} (hgd : o.guard = none) {t : TypeId} {parts : Array (Nat × Operand)} {vals : List (Nat × Value)} {cells : Array Value} (ho : o.op = .build t parts)
  (hv : (parts.map fun (i, x) => (i, a.eval x)).toList = vals) (hc : Try.prog.built t vals = some cells) (h : wpList Try.prog ops Q rest (a.put o.dst (.agg cells)) w) : wpList Try.prog ops Q (o :: rest) a w := by
 refine wpList_of_run hgd (v := .agg cells) ?_ h
 have := run_build (P := Try.prog) w t (parts.map fun (i, x) => (i, a.eval x)) cells (by rw [hv]; exact hc)
 simp [execOp, ho, this]
def e0 : E := ⟨0, 0, 0, false⟩
def eF : E := ⟨0, 0, 30, false⟩
theorem zeroE : (Try.prog.info? 25).bind (·.zero) = some (.agg (EV e0)) := by kernel_rfl
theorem zeroR : (Try.prog.info? 23).bind (·.zero) = some (.agg (EV e0)) := by kernel_rfl
theorem builtF : Try.prog.built 25 [(2, .int .i64 30)] = some (EV eF) := by kernel_rfl
theorem builtFR : Try.prog.built 23 [(0, .int .i64 0), (1, .int .i64 0), (2, .int .i64 30), (3, .bool false)] = some (EV eF) := by kernel_rfl
theorem built0 : Try.prog.built 25 [] = some (EV e0) := by kernel_rfl
theorem builtM (a b : Int) : Try.prog.built 25 [(0, .int .i64 a), (1, .int .i64 b), (3, .bool true)] = some (EV ⟨a, b, 0, true⟩) := by kernel_rfl
set_option maxHeartbeats 2000000 in
theorem first_any (w : World) : Calls Try.prog 14 #[] w fun e w' => e = .returned (.agg (EV eF)) ∧ Ext w w' := by
 go_enter Try.func14, Try.ntmps14
 go_wp2_with (first
  | (refine wl_alloc rfl rfl zeroE ?_; intro w1 hb1 he1 hx; clear hx)
  | (refine wl_build rfl rfl rfl builtF ?_)
  | (refine wl_store (D := EV eF) rfl rowE rfl rfl rfl hb1 rfl rfl (EV.one _) ?_; intro w2 hb2 hk2 hx2; clear hx2))
 refine bodyPost_ret (results_cell_row (fn := Try.f14) (p := 0) rfl _ w2 _ _ _ (0, 0) _ rfl hb2 Try.underlying25 rfl (by kernel_rfl)) rfl ?_
 exact ⟨rfl, he1.of_but hk2 (fun q e => by subst e; exact Nat.le_refl _)⟩
set_option maxHeartbeats 2000000 in
theorem refFirst_any (w : World) : Calls Try.prog 15 #[] w fun e w' => e = .returned (.agg (EV eF)) ∧ Ext w w' := by
 go_enter Try.func15, Try.ntmps15
 go_wp2_with (first
  | (refine wl_alloc rfl rfl zeroR ?_; intro w1 hb1 he1 hx; clear hx)
  | (refine wl_build rfl rfl rfl builtFR ?_)
  | (refine wl_store (D := EV eF) rfl rowR rfl rfl rfl hb1 rfl rfl (EV.one _) ?_; intro w2 hb2 hk2 hx2; clear hx2))
 refine bodyPost_ret (results_cell_row (fn := Try.f15) (p := 0) rfl _ w2 _ _ _ (0, 0) _ rfl hb2 Try.underlying23 rfl (by kernel_rfl)) rfl ?_
 exact ⟨rfl, he1.of_but hk2 (fun q e => by subst e; exact Nat.le_refl _)⟩
/-! ### Errors -/
def errV (n : Int) : Value := if n = 0 then .nilIface else .iface 37 (.int .i64 n)
theorem errT : Try.prog.underlying 27 = some (.interface (Try.prog.methodsAt 27)) := by kernel_rfl
theorem exec_eqlV {r : Operand → Value} {o : Oper} {x : Operand} {tt : TypeId} {w : World} (n : Int) (ho : o.op = .binOp .eql 27 x (.const .nilIface) tt) (hx : r x = errV n) (hc : r (.const .nilIface) = .nilIface) : (execOp r o).run Try.prog w = .ok (.value (.bool (n == 0))) w := by
 by_cases h : n = 0
 ·
  subst h
  have h2 := run_eql_nil_nil (P := Try.prog) w 27 errT
  have hx' : r x = .nilIface := hx
  cases x <;> simp [execOp, ho, hx', hc, h2, eqGuard, go_sem]
 ·
  have hx' : r x = .iface 37 (.int .i64 n) := hx.trans (if_neg h)
  have h2 := run_eql_held_nil (P := Try.prog) w 27 37 (.int .i64 n) errT
  have hn : (n == 0) = false := by simpa using h
  simp [execOp, ho, hx', hc, h2, eqGuard, go_sem, hn]
end Rto
end Go.Proofs.Ytdjijipbfiofmaa
/- Estimates in their blocks; Twice and Times. No condition of its own. -/
namespace Go.Proofs.Ytdjijipbfiofmaa
namespace Rto
open Go Go.RowKit
set_option maxRecDepth 100000
/-- Two estimates in blocks of the own. -/
structure Two (w0 w : World) (g h T : Nat) (x y : E) : Prop where
 a : Blk w g (EV x) T
 b : Blk w h (EV y) T
 ext : Ext w0 w
 g0 : w0.heap.size ≤ g
 lt : g < h
theorem Two.grow {w0 w w' : World} {g h T : Nat} {x y : E} (H : Two w0 w g h T x y) (he : Ext w w') : Two w0 w' g h T x y := ⟨H.a.ext he, H.b.ext he, H.ext.trans he, H.g0, H.lt⟩
theorem Two.setA {w0 w w' : World} {g h T : Nat} {x y z : E} (H : Two w0 w g h T x y) (hz : Blk w' g (EV z) T) (hk : KeepBut (· = g) w w') : Two w0 w' g h T z y := ⟨hz, H.b.but hk (by have := H.lt; omega), H.ext.of_but hk (fun q e => by subst e; exact H.g0), H.g0, H.lt⟩
theorem Two.setB {w0 w w' : World} {g h T : Nat} {x y z : E} (H : Two w0 w g h T x y) (hz : Blk w' h (EV z) T) (hk : KeepBut (· = h) w w') : Two w0 w' g h T x z := ⟨H.a.but hk (by have := H.lt; omega), hz, H.ext.of_but hk (fun q e => by subst e; have := H.g0; have := H.lt; omega), H.g0, H.lt⟩
section
variable {w : World} {ops : Array Oper} {rest : List Oper} {o : Oper} {a : Act} {Q : Exit → Act → World → Prop} {g T : Nat} {e : E}
theorem wl_get0 (hB : Blk w g (EV e) T) (hgd : o.guard = none) {x : Operand} (ho : o.op = .load 3 x) (hx : a.eval x = .pointer (some ⟨g, 0, none⟩)) (h : wpList Try.prog ops Q rest (a.put o.dst (.int .i64 e.sm)) w) : wpList Try.prog ops Q (o :: rest) a w := wpList_of_run hgd (exg one3 ho hx (ev0 hB)) h
theorem wl_get1 (hB : Blk w g (EV e) T) (hgd : o.guard = none) {x : Operand} (ho : o.op = .load 3 x) (hx : a.eval x = .pointer (some ⟨g, 1, none⟩)) (h : wpList Try.prog ops Q rest (a.put o.dst (.int .i64 e.sp)) w) : wpList Try.prog ops Q (o :: rest) a w := wpList_of_run hgd (exg one3 ho hx (ev1 hB)) h
theorem wl_get2 (hB : Blk w g (EV e) T) (hgd : o.guard = none) {x : Operand} (ho : o.op = .load 3 x) (hx : a.eval x = .pointer (some ⟨g, 2, none⟩)) (h : wpList Try.prog ops Q rest (a.put o.dst (.int .i64 e.wt)) w) : wpList Try.prog ops Q (o :: rest) a w := wpList_of_run hgd (exg one3 ho hx (ev2 hB)) h
theorem wl_get3 (hB : Blk w g (EV e) T) (hgd : o.guard = none) {x : Operand} (ho : o.op = .load 4 x) (hx : a.eval x = .pointer (some ⟨g, 3, none⟩)) (h : wpList Try.prog ops Q rest (a.put o.dst (.bool e.me)) w) : wpList Try.prog ops Q (o :: rest) a w := wpList_of_run hgd (exg one4 ho hx (ev3 hB)) h
theorem wl_set0 (hB : Blk w g (EV e) T) (hgd : o.guard = none) {x y : Operand} {v : Int} (ho : o.op = .store 3 x y) (hx : a.eval x = .pointer (some ⟨g, 0, none⟩)) (hy : a.eval y = .int .i64 v) (h : ∀ w', Blk w' g (EV { e with sm := v }) T → KeepBut (· = g) w w' → wpList Try.prog ops Q rest (a.put o.dst undef) w') : wpList Try.prog ops Q (o :: rest) a w :=
 wl_set hgd one3 ho hx hy rfl rfl hB (by rw [EV.size]; decide) (fun w' h1 h2 _ => h w' h1 h2)
theorem wl_set1 (hB : Blk w g (EV e) T) (hgd : o.guard = none) {x y : Operand} {v : Int} (ho : o.op = .store 3 x y) (hx : a.eval x = .pointer (some ⟨g, 1, none⟩)) (hy : a.eval y = .int .i64 v) (h : ∀ w', Blk w' g (EV { e with sp := v }) T → KeepBut (· = g) w w' → wpList Try.prog ops Q rest (a.put o.dst undef) w') : wpList Try.prog ops Q (o :: rest) a w :=
 wl_set hgd one3 ho hx hy rfl rfl hB (by rw [EV.size]; decide) (fun w' h1 h2 _ => h w' h1 h2)
theorem wl_set2 (hB : Blk w g (EV e) T) (hgd : o.guard = none) {x y : Operand} {v : Int} (ho : o.op = .store 3 x y) (hx : a.eval x = .pointer (some ⟨g, 2, none⟩)) (hy : a.eval y = .int .i64 v) (h : ∀ w', Blk w' g (EV { e with wt := v }) T → KeepBut (· = g) w w' → wpList Try.prog ops Q rest (a.put o.dst undef) w') : wpList Try.prog ops Q (o :: rest) a w :=
 wl_set hgd one3 ho hx hy rfl rfl hB (by rw [EV.size]; decide) (fun w' h1 h2 _ => h w' h1 h2)
end
/-- The estimate when nothing came. -/
def twiceE (e : E) : E := if goodB e = true then { e with wt := bd (2 * e.wt) } else eF
theorem twiceE_no {e : E} (h : goodB e = false) : twiceE e = eF := if_neg (by rw [h]; decide)
theorem twiceE_yes {e : E} (h : goodB e = true) : twiceE e = { e with wt := bd (2 * e.wt) } := if_pos h
theorem twiceE_good (e : E) : goodB (twiceE e) = true := by
 cases h : goodB e with
 | false => rw [twiceE_no h]; rfl
 | true =>
  rw [twiceE_yes h]
  rw [goodB_iff] at h ⊢
  have := bd_in (2 * e.wt)
  obtain ⟨h1, h2, h3, h4, h5, h6, h7⟩ := h
  exact ⟨this.1, this.2, h3, h4, h5, h6, h7⟩
set_option maxHeartbeats 4000000 in
theorem twice_any (e : E) (w : World) : Calls Try.prog 16 #[.agg (EV e)] w fun x w' => x = .returned (.agg (EV (twiceE e))) ∧ Ext w w' := by
 cases hg : goodB e with
 | false =>
  rw [twiceE_no hg]
  go_enter Try.func16, Try.ntmps16
  go_wp2_with (first
   | (refine wl_box (C := EV e) rfl rfl rfl ?_; intro w1 hb1 he1 hx1; have HX1 : Hid (w1.heap.size = w.heap.size + 1) := hx1; clear hx1)
   | (have q := hb1; clear q; refine wl_alloc rfl rfl zeroE ?_; intro w2 hb2 he2 hx2; clear hx2; have HT : Hid (Two w w2 w.heap.size w1.heap.size _ e e0) := ⟨hb1.ext he2, hb2, he1.trans he2, Nat.le_refl _, (by have := HX1.out; omega)⟩; clear hb1 hb2 he1 he2)
   | (have q := HT; clear q; refine wl_load rfl rowE rfl rfl HT.out.a rfl ?_)
   | (go_at_call 11; refine (good_any _ _).mono ?_; rintro e w3 ⟨rfl, he3⟩; rw [hg]; replace HT : Hid (Two _ _ _ _ _ _ _) := HT.out.grow he3; clear he3)
   | (go_at_call 14; refine (first_any _).mono ?_; rintro e w3 ⟨rfl, he3⟩; replace HT : Hid (Two _ _ _ _ _ _ _) := HT.out.grow he3; clear he3)
   | (have q := HT; clear q; refine wl_store rfl rowE rfl rfl rfl HT.out.b rfl rfl (EV.one _) ?_; intro w4 hb4 hk4 hx4; clear hx4; replace HT : Hid (Two _ _ _ _ _ _ _) := HT.out.setB hb4 hk4; clear hb4 hk4)
   | (have q := HT; clear q; refine wl_get0 HT.out.a rfl rfl rfl ?_)
   | (have q := HT; clear q; refine wl_get1 HT.out.a rfl rfl rfl ?_)
   | (have q := HT; clear q; refine wl_get2 HT.out.a rfl rfl rfl ?_)
   | (have q := HT; clear q; refine wl_get3 HT.out.a rfl rfl rfl ?_))
  refine bodyPost_ret (results_cell_row (fn := Try.f16) (p := 2) rfl _ _ _ _ _ (0, 0) _ rfl HT.out.b Try.underlying25 rfl (by kernel_rfl)) rfl ?_
  exact ⟨rfl, HT.out.ext⟩
 | true =>
  have hn := (goodB_iff e).1 hg
  obtain ⟨M, hM⟩ : ∃ M, M = 2 * e.wt := ⟨_, rfl⟩
  have hw : IntKind.i64.wrap (2 * e.wt) = M := by rw [IntKind.wrap_i64, hM]; omega
  rw [twiceE_yes hg, ← hM]
  clear hn hM
  go_enter Try.func16, Try.ntmps16
  go_wp2_with (first
   | (refine wl_box (C := EV e) rfl rfl rfl ?_; intro w1 hb1 he1 hx1; have HX1 : Hid (w1.heap.size = w.heap.size + 1) := hx1; clear hx1)
   | (have q := hb1; clear q; refine wl_alloc rfl rfl zeroE ?_; intro w2 hb2 he2 hx2; clear hx2; have HT : Hid (Two w w2 w.heap.size w1.heap.size _ e e0) := ⟨hb1.ext he2, hb2, he1.trans he2, Nat.le_refl _, (by have := HX1.out; omega)⟩; clear hb1 hb2 he1 he2)
   | (have q := HT; clear q; refine wl_load rfl rowE rfl rfl HT.out.a rfl ?_)
   | (go_at_call 11; refine (good_any _ _).mono ?_; rintro e w3 ⟨rfl, he3⟩; rw [hg]; replace HT : Hid (Two _ _ _ _ _ _ _) := HT.out.grow he3; clear he3)
   | (go_at_call 20; refine (bounded_any _ _).mono ?_; rintro e w3 ⟨rfl, he3⟩; replace HT : Hid (Two _ _ _ _ _ _ _) := HT.out.grow he3; clear he3)
   | (have q := HT; clear q; refine wl_set2 HT.out.a rfl rfl rfl rfl ?_; intro w4 hb4 hk4; replace HT : Hid (Two _ _ _ _ _ _ _) := HT.out.setA hb4 hk4; clear hb4 hk4)
   | (have q := HT; clear q; refine wl_store rfl rowE rfl rfl rfl HT.out.b rfl rfl (EV.one _) ?_; intro w4 hb4 hk4 hx4; clear hx4; replace HT : Hid (Two _ _ _ _ _ _ _) := HT.out.setB hb4 hk4; clear hb4 hk4)
   | (have q := HT; clear q; refine wl_get0 HT.out.a rfl rfl rfl ?_)
   | (have q := HT; clear q; refine wl_get1 HT.out.a rfl rfl rfl ?_)
   | (have q := HT; clear q; refine wl_get2 HT.out.a rfl rfl rfl ?_)
   | (have q := HT; clear q; refine wl_get3 HT.out.a rfl rfl rfl ?_))
  refine bodyPost_ret (results_cell_row (fn := Try.f16) (p := 2) rfl _ _ _ _ _ (0, 0) _ rfl HT.out.b Try.underlying25 rfl (by kernel_rfl)) rfl ?_
  exact ⟨rfl, HT.out.ext⟩
set_option maxHeartbeats 4000000 in
theorem refTwice_any (e : E) (w : World) : Calls Try.prog 17 #[.agg (EV e)] w fun x w' => x = .returned (.agg (EV (twiceE e))) ∧ Ext w w' := by
 cases hg : goodB e with
 | false =>
  rw [twiceE_no hg]
  go_enter Try.func17, Try.ntmps17
  go_wp2_with (first
   | (refine wl_box (C := EV e) rfl rfl rfl ?_; intro w1 hb1 he1 hx1; have HX1 : Hid (w1.heap.size = w.heap.size + 1) := hx1; clear hx1)
   | (have q := hb1; clear q; refine wl_alloc rfl rfl zeroR ?_; intro w2 hb2 he2 hx2; clear hx2; have HT : Hid (Two w w2 w.heap.size w1.heap.size _ e e0) := ⟨hb1.ext he2, hb2, he1.trans he2, Nat.le_refl _, (by have := HX1.out; omega)⟩; clear hb1 hb2 he1 he2)
   | (have q := HT; clear q; refine wl_load rfl rowR rfl rfl HT.out.a rfl ?_)
   | (go_at_call 12; refine (refGood_any _ _).mono ?_; rintro e w3 ⟨rfl, he3⟩; rw [hg]; replace HT : Hid (Two _ _ _ _ _ _ _) := HT.out.grow he3; clear he3)
   | (go_at_call 15; refine (refFirst_any _).mono ?_; rintro e w3 ⟨rfl, he3⟩; replace HT : Hid (Two _ _ _ _ _ _ _) := HT.out.grow he3; clear he3)
   | (have q := HT; clear q; refine wl_store rfl rowR rfl rfl rfl HT.out.b rfl rfl (EV.one _) ?_; intro w4 hb4 hk4 hx4; clear hx4; replace HT : Hid (Two _ _ _ _ _ _ _) := HT.out.setB hb4 hk4; clear hb4 hk4)
   | (have q := HT; clear q; refine wl_get0 HT.out.a rfl rfl rfl ?_)
   | (have q := HT; clear q; refine wl_get1 HT.out.a rfl rfl rfl ?_)
   | (have q := HT; clear q; refine wl_get2 HT.out.a rfl rfl rfl ?_)
   | (have q := HT; clear q; refine wl_get3 HT.out.a rfl rfl rfl ?_))
  refine bodyPost_ret (results_cell_row (fn := Try.f17) (p := 2) rfl _ _ _ _ _ (0, 0) _ rfl HT.out.b Try.underlying23 rfl (by kernel_rfl)) rfl ?_
  exact ⟨rfl, HT.out.ext⟩
 | true =>
  have hn := (goodB_iff e).1 hg
  obtain ⟨M, hM⟩ : ∃ M, M = e.wt + e.wt := ⟨_, rfl⟩
  have hw : IntKind.i64.wrap (e.wt + e.wt) = M := by rw [IntKind.wrap_i64, hM]; omega
  rw [twiceE_yes hg, show 2 * e.wt = M from by omega]
  by_cases hx : M > 600
  ·
   have d1 : decide (M > 600) = true := decide_eq_true hx
   have HB : Hid (bd M = 600) := show _ = _ by unfold bd; rw [if_neg (by omega), if_pos (by omega)]
   rw [HB.out]
   clear hn hM hx
   go_enter Try.func17, Try.ntmps17
   go_wp2_with (first
    | (refine wl_box (C := EV e) rfl rfl rfl ?_; intro w1 hb1 he1 hx1; have HX1 : Hid (w1.heap.size = w.heap.size + 1) := hx1; clear hx1)
    | (have q := hb1; clear q; refine wl_alloc rfl rfl zeroR ?_; intro w2 hb2 he2 hx2; clear hx2; have HT : Hid (Two w w2 w.heap.size w1.heap.size _ e e0) := ⟨hb1.ext he2, hb2, he1.trans he2, Nat.le_refl _, (by have := HX1.out; omega)⟩; clear hb1 hb2 he1 he2)
    | (have q := HT; clear q; refine wl_load rfl rowR rfl rfl HT.out.a rfl ?_)
    | (go_at_call 12; refine (refGood_any _ _).mono ?_; rintro e w3 ⟨rfl, he3⟩; rw [hg]; replace HT : Hid (Two _ _ _ _ _ _ _) := HT.out.grow he3; clear he3)
    | (have q := HT; clear q; refine wl_set2 HT.out.a rfl rfl rfl rfl ?_; intro w4 hb4 hk4; replace HT : Hid (Two _ _ _ _ _ _ _) := HT.out.setA hb4 hk4; clear hb4 hk4)
    | (have q := HT; clear q; refine wl_store rfl rowR rfl rfl rfl HT.out.b rfl rfl (EV.one _) ?_; intro w4 hb4 hk4 hx4; clear hx4; replace HT : Hid (Two _ _ _ _ _ _ _) := HT.out.setB hb4 hk4; clear hb4 hk4)
    | (have q := HT; clear q; refine wl_get0 HT.out.a rfl rfl rfl ?_)
    | (have q := HT; clear q; refine wl_get1 HT.out.a rfl rfl rfl ?_)
    | (have q := HT; clear q; refine wl_get2 HT.out.a rfl rfl rfl ?_)
    | (have q := HT; clear q; refine wl_get3 HT.out.a rfl rfl rfl ?_))
   refine bodyPost_ret (results_cell_row (fn := Try.f17) (p := 2) rfl _ _ _ _ _ (0, 0) _ rfl HT.out.b Try.underlying23 rfl (by kernel_rfl)) rfl ?_
   exact ⟨rfl, HT.out.ext⟩
  ·
   have d1 : decide (M > 600) = false := decide_eq_false hx
   have HB : Hid (bd M = M) := show _ = _ by unfold bd; rw [if_neg (by omega), if_neg (by omega)]
   rw [HB.out]
   clear hn hM hx
   go_enter Try.func17, Try.ntmps17
   go_wp2_with (first
    | (refine wl_box (C := EV e) rfl rfl rfl ?_; intro w1 hb1 he1 hx1; have HX1 : Hid (w1.heap.size = w.heap.size + 1) := hx1; clear hx1)
    | (have q := hb1; clear q; refine wl_alloc rfl rfl zeroR ?_; intro w2 hb2 he2 hx2; clear hx2; have HT : Hid (Two w w2 w.heap.size w1.heap.size _ e e0) := ⟨hb1.ext he2, hb2, he1.trans he2, Nat.le_refl _, (by have := HX1.out; omega)⟩; clear hb1 hb2 he1 he2)
    | (have q := HT; clear q; refine wl_load rfl rowR rfl rfl HT.out.a rfl ?_)
    | (go_at_call 12; refine (refGood_any _ _).mono ?_; rintro e w3 ⟨rfl, he3⟩; rw [hg]; replace HT : Hid (Two _ _ _ _ _ _ _) := HT.out.grow he3; clear he3)
    | (have q := HT; clear q; refine wl_set2 HT.out.a rfl rfl rfl rfl ?_; intro w4 hb4 hk4; replace HT : Hid (Two _ _ _ _ _ _ _) := HT.out.setA hb4 hk4; clear hb4 hk4)
    | (have q := HT; clear q; refine wl_store rfl rowR rfl rfl rfl HT.out.b rfl rfl (EV.one _) ?_; intro w4 hb4 hk4 hx4; clear hx4; replace HT : Hid (Two _ _ _ _ _ _ _) := HT.out.setB hb4 hk4; clear hb4 hk4)
    | (have q := HT; clear q; refine wl_get0 HT.out.a rfl rfl rfl ?_)
    | (have q := HT; clear q; refine wl_get1 HT.out.a rfl rfl rfl ?_)
    | (have q := HT; clear q; refine wl_get2 HT.out.a rfl rfl rfl ?_)
    | (have q := HT; clear q; refine wl_get3 HT.out.a rfl rfl rfl ?_))
   refine bodyPost_ret (results_cell_row (fn := Try.f17) (p := 2) rfl _ _ _ _ _ (0, 0) _ rfl HT.out.b Try.underlying23 rfl (by kernel_rfl)) rfl ?_
   exact ⟨rfl, HT.out.ext⟩
end Rto
end Go.Proofs.Ytdjijipbfiofmaa
/- How many ticks go by. No condition of its own. -/
namespace Go.Proofs.Ytdjijipbfiofmaa
namespace Rto
open Go Go.RowKit
set_option maxRecDepth 100000
def itE (e : E) : Nat → E
 | 0 => e
 | n + 1 => twiceE (itE e n)
def sumE (e : E) : Nat → Int
 | 0 => 0
 | n + 1 => sumE e n + (itE e n).wt
theorem itE_good {e : E} (h : goodB e = true) : ∀ n, goodB (itE e n) = true
 | 0 => h
 | n + 1 => twiceE_good _
theorem sumE_in {e : E} (h : goodB e = true) : ∀ n, 0 ≤ sumE e n ∧ sumE e n ≤ 600 * n
 | 0 => by simp [sumE]
 | n + 1 => by
  have := sumE_in h n
  have h2 := (goodB_iff _).1 (itE_good h n)
  show 0 ≤ sumE e n + (itE e n).wt ∧ sumE e n + (itE e n).wt ≤ 600 * ((n + 1 : Nat) : Int)
  omega
/-- How many are counted. -/
def numW (many : Int) : Nat := (if 1000 < many then 1000 else many).toNat
def waitsE (e : E) (many : Int) : Int := if goodB e = true then sumE e (numW many) else 0
/-- One estimate in a block of the own. -/
structure One (w0 w : World) (g T : Nat) (x : E) : Prop where
 a : Blk w g (EV x) T
 ext : Ext w0 w
 g0 : w0.heap.size ≤ g
theorem One.grow {w0 w w' : World} {g T : Nat} {x : E} (H : One w0 w g T x) (he : Ext w w') : One w0 w' g T x := ⟨H.a.ext he, H.ext.trans he, H.g0⟩
theorem One.setA {w0 w w' : World} {g T : Nat} {x z : E} (H : One w0 w g T x) (hz : Blk w' g (EV z) T) (hk : KeepBut (· = g) w w') : One w0 w' g T z := ⟨hz, H.ext.of_but hk (fun q e => by subst e; exact H.g0), H.g0⟩
set_option maxHeartbeats 8000000 in
theorem waits_any (e : E) (many : Int) (w : World) : Calls Try.prog 18 #[.agg (EV e), .int .i64 many] w fun x w' => x = .returned (.int .i64 (waitsE e many)) ∧ Ext w w' := by
 cases hg : goodB e with
 | false =>
  rw [show waitsE e many = 0 from if_neg (by rw [hg]; decide)]
  go_enter Try.func18, Try.ntmps18
  go_wp2_with (first
   | (refine wl_box (C := EV e) rfl rfl rfl ?_; intro w1 hb1 he1 hx1; clear hx1; have HT : Hid (One w w1 w.heap.size _ e) := ⟨hb1, he1, Nat.le_refl _⟩; clear hb1 he1)
   | (have q := HT; clear q; refine wl_load rfl rowE rfl rfl HT.out.a rfl ?_)
   | (go_at_call 11; refine (good_any _ _).mono ?_; rintro e w3 ⟨rfl, he3⟩; rw [hg]; replace HT : Hid (One _ _ _ _ _) := HT.out.grow he3; clear he3))
  go_ret
  exact ⟨rfl, HT.out.ext⟩
 | true =>
  rw [show waitsE e many = sumE e (numW many) from if_pos hg]
  obtain ⟨M, hM⟩ : ∃ M : Int, M = if 1000 < many then 1000 else many := ⟨_, rfl⟩
  have HM : Hid (numW many = M.toNat) := show _ = _ by rw [hM]; rfl
  have HS : Hid (∀ n, n ≤ 1000 → 0 ≤ sumE e n ∧ sumE e n ≤ 600000) := fun n hn => by have := sumE_in hg n; omega
  have HG : Hid (∀ n, goodB (itE e n) = true) := itE_good hg
  have hM1 : M ≤ 1000 := by rw [hM]; split <;> omega
  go_enter Try.func18, Try.ntmps18
  go_wp2_with (first
   | (have q := HMK; clear q; refine stop_at 2 rfl ?_)
   | (refine wl_box (C := EV e) rfl rfl rfl ?_; intro w1 hb1 he1 hx1; clear hx1; have HT : Hid (One w w1 w.heap.size _ e) := ⟨hb1, he1, Nat.le_refl _⟩; clear hb1 he1)
   | (have q := HT; clear q; refine wl_load rfl rowE rfl rfl HT.out.a rfl ?_)
   | (go_at_call 11; refine (good_any _ _).mono ?_; rintro e w3 ⟨rfl, he3⟩; rw [hg]; replace HT : Hid (One _ _ _ _ _) := HT.out.grow he3; clear he3; have HMK : Hid True := trivial))
  refine ⟨?_⟩
  refine wl_minI (k := M) rfl rfl (by first | rfl | go_simp) (by first | rfl | go_simp) (by exact hM) ?_
  clear hM HMK
  go_wp2_with fail
  have HT0 := HT
  clear HT
  go_loopg [5, 11] (M.toNat) (fun gm s t wr => ∃ k : Nat, k ≤ M.toNat ∧ gm = M.toNat - k ∧ s = .int .i64 (sumE e k) ∧ t = .int .i64 (k : Int) ∧ Hid (One w wr w.heap.size 25 (itE e k)))
  case atStart => exact ⟨0, Nat.zero_le _, rfl, rfl, rfl, HT0⟩
  case round =>
   obtain ⟨k, hk, rfl, rfl, rfl, HT⟩ := hrel
   by_cases hlt : (k : Int) < M
   ·
    have hd : decide ((k : Int) < M) = true := decide_eq_true hlt
    have h2 := (goodB_iff _).1 (HG.out k)
    have h3 := HS.out k (by omega)
    have s1 : IntKind.i64.wrap (sumE e k + (itE e k).wt) = sumE e (k + 1) := by rw [IntKind.wrap_i64]; show _ = sumE e k + (itE e k).wt; omega
    have k1 : IntKind.i64.wrap ((k : Int) + 1) = ((k + 1 : Nat) : Int) := by rw [IntKind.wrap_i64]; omega
    have HK : Hid (k + 1 ≤ M.toNat) := show _ ≤ _ by omega
    clear h2 h3 hlt hM1
    go_wp2_with (first
     | (have q := HT; clear q; refine wl_load rfl rowE rfl rfl HT.out.a rfl ?_)
     | (go_at_call 16; refine (twice_any _ _).mono ?_; rintro e w3 ⟨rfl, he3⟩; replace HT : Hid (One _ _ _ _ _) := HT.out.grow he3; clear he3)
     | (have q := HT; clear q; refine wl_store rfl rowE rfl rfl rfl HT.out.a rfl rfl (EV.one _) ?_; intro w4 hb4 hk4 hx4; clear hx4; replace HT : Hid (One _ _ _ _ _) := HT.out.setA hb4 hk4; clear hb4 hk4)
     | (have q := HT; clear q; refine wl_get2 HT.out.a rfl rfl rfl ?_))
    go_roundg (M.toNat - (k + 1))
    case measure => have := HK.out; omega
    case rel => exact ⟨k + 1, HK.out, rfl, rfl, rfl, HT.out⟩
   ·
    have hd : decide ((k : Int) < M) = false := decide_eq_false hlt
    have HK : Hid (k = numW many) := show _ = _ by rw [HM.out]; omega
    go_wp2
    go_ret
    exact ⟨by rw [HK.out]; rfl, HT.out.ext⟩
end Rto
end Go.Proofs.Ytdjijipbfiofmaa
/- How many ticks go by, by the document. No condition of its own. -/
namespace Go.Proofs.Ytdjijipbfiofmaa
namespace Rto
open Go Go.RowKit
set_option maxRecDepth 100000
/-- How many rounds there are. -/
def numV (e : E) (many : Int) : Nat := if goodB e = true then numW many else 0
theorem waits_eq (e : E) (many : Int) : waitsE e many = sumE e (numV e many) := by
 unfold waitsE numV
 split <;> rfl
theorem numV_lt {e : E} {many : Int} {k : Nat} (h : k < numV e many) : goodB e = true ∧ (k : Int) < many ∧ (k : Int) < 1000 := by
 unfold numV at h
 split at h
 ·
  rename_i hg
  unfold numW at h
  refine ⟨hg, ?_⟩
  split at h <;> omega
 ·
  omega
theorem numV_end (e : E) (many : Int) : ¬ ((numV e many : Nat) : Int) < many ∨ ¬ ((numV e many : Nat) : Int) < 1000 ∨ (goodB e = false ∧ numV e many = 0) := by
 unfold numV
 split
 ·
  rename_i hg
  unfold numW
  split <;> omega
 ·
  rename_i hg
  exact .inr (.inr ⟨by simpa using hg, rfl⟩)
set_option maxHeartbeats 8000000 in
theorem refWaits_any (e : E) (many : Int) (w : World) : Calls Try.prog 19 #[.agg (EV e), .int .i64 many] w fun x w' => x = .returned (.int .i64 (waitsE e many)) ∧ Ext w w' := by
 rw [waits_eq]
 obtain ⟨N, hN⟩ : ∃ N, N = numV e many := ⟨_, rfl⟩
 have HN : Hid (∀ k, k < N → goodB e = true ∧ (k : Int) < many ∧ (k : Int) < 1000) := fun k hk => numV_lt (by rw [← hN]; exact hk)
 have HE : Hid (¬ (N : Int) < many ∨ ¬ (N : Int) < 1000 ∨ (goodB e = false ∧ N = 0)) := by have := numV_end e many; rw [← hN] at this; exact this
 have HS : Hid (goodB e = true → ∀ n, n ≤ 1000 → 0 ≤ sumE e n ∧ sumE e n ≤ 600000) := fun hg n hn => by have := sumE_in hg n; omega
 have HG : Hid (goodB e = true → ∀ n, goodB (itE e n) = true) := itE_good
 rw [← hN]
 clear hN
 go_enter Try.func19, Try.ntmps19
 go_wp2_with (first
  | (refine wl_box (C := EV e) rfl rfl rfl ?_; intro w1 hb1 he1 hx1; clear hx1; have HT : Hid (One w w1 w.heap.size _ e) := ⟨hb1, he1, Nat.le_refl _⟩; clear hb1 he1))
 have HT0 := HT
 clear HT
 go_loopg [5, 6] N (fun gm s t wr => ∃ k : Nat, k ≤ N ∧ gm = N - k ∧ s = .int .i64 (sumE e k) ∧ t = .int .i64 (k : Int) ∧ Hid (One w wr w.heap.size 23 (itE e k)))
 case atStart => exact ⟨0, Nat.zero_le _, rfl, rfl, rfl, HT0⟩
 case round =>
  obtain ⟨k, hk, rfl, rfl, rfl, HT⟩ := hrel
  by_cases hlt : k < N
  ·
   obtain ⟨hge, hk1, hk2⟩ := HN.out k hlt
   have d1 : decide ((k : Int) < many) = true := decide_eq_true hk1
   have d2 : decide ((k : Int) < 1000) = true := decide_eq_true hk2
   have hgk : goodB (itE e k) = true := HG.out hge k
   have h2 := (goodB_iff _).1 hgk
   have h3 := HS.out hge k (by omega)
   have s1 : IntKind.i64.wrap (sumE e k + (itE e k).wt) = sumE e (k + 1) := by rw [IntKind.wrap_i64]; show _ = sumE e k + (itE e k).wt; omega
   have k1 : IntKind.i64.wrap ((k : Int) + 1) = ((k + 1 : Nat) : Int) := by rw [IntKind.wrap_i64]; omega
   have HK : Hid (k + 1 ≤ N) := hlt
   clear h2 h3 hlt hk1 hk2
   have x0 := ev0 HT.out.a; have x1 := ev1 HT.out.a; have x2 := ev2 HT.out.a; have x3 := ev3 HT.out.a
   go_wp2_with (first
    | (go_at_call 12; refine (refGood_any (itE e k) _).mono ?_; clear x0 x1 x2 x3; rintro e w3 ⟨rfl, he3⟩; rw [hgk]; replace HT : Hid (One _ _ _ _ _) := HT.out.grow he3; clear he3)
    | (have q := HT; clear q; refine wl_load rfl rowR rfl rfl HT.out.a rfl ?_)
    | (go_at_call 17; refine (refTwice_any _ _).mono ?_; rintro e w3 ⟨rfl, he3⟩; replace HT : Hid (One _ _ _ _ _) := HT.out.grow he3; clear he3)
    | (have q := HT; clear q; refine wl_store rfl rowR rfl rfl rfl HT.out.a rfl rfl (EV.one _) ?_; intro w4 hb4 hk4 hx4; clear hx4; replace HT : Hid (One _ _ _ _ _) := HT.out.setA hb4 hk4; clear hb4 hk4)
    | (have q := HT; clear q; refine wl_get2 HT.out.a rfl rfl rfl ?_))
   go_roundg (N - (k + 1))
   case measure => have := HK.out; omega
   case rel => exact ⟨k + 1, HK.out, rfl, rfl, rfl, HT.out⟩
  ·
   have hkN : k = N := by omega
   have HK : Hid (k = N) := hkN
   by_cases c1 : (k : Int) < many
   ·
    have d1 : decide ((k : Int) < many) = true := decide_eq_true c1
    by_cases c2 : (k : Int) < 1000
    ·
     have d2 : decide ((k : Int) < 1000) = true := decide_eq_true c2
     have hgk : goodB (itE e k) = false := by
      rcases HE.out with h | h | ⟨h, h0⟩
      ·
       exfalso; omega
      ·
       exfalso; omega
      ·
       rw [hkN, h0]; exact h
     clear hkN c1 c2 hlt
     have x0 := ev0 HT.out.a; have x1 := ev1 HT.out.a; have x2 := ev2 HT.out.a; have x3 := ev3 HT.out.a
     go_wp2_with (first
      | (go_at_call 12; refine (refGood_any (itE e k) _).mono ?_; clear x0 x1 x2 x3; rintro e w3 ⟨rfl, he3⟩; rw [hgk]; replace HT : Hid (One _ _ _ _ _) := HT.out.grow he3; clear he3))
     go_ret
     exact ⟨by rw [← HK.out]; rfl, HT.out.ext⟩
    ·
     have d2 : decide ((k : Int) < 1000) = false := decide_eq_false c2
     clear hkN c1 c2 hlt
     go_wp2
     go_ret
     exact ⟨by rw [← HK.out]; rfl, HT.out.ext⟩
   ·
    have d1 : decide ((k : Int) < many) = false := decide_eq_false c1
    clear hkN c1 hlt
    go_wp2
    go_ret
    exact ⟨by rw [← HK.out]; rfl, HT.out.ext⟩
end Rto
end Go.Proofs.Ytdjijipbfiofmaa
/- The estimate behind an answer. No condition of its own. -/
namespace Go.Proofs.Ytdjijipbfiofmaa
namespace Rto
open Go Go.RowKit
set_option maxRecDepth 100000
theorem res_two {fn : Func} {p u : Tmp} {ty g t : Nat} {cs : Array Value} {fs : Array Field} {x : Value} (h : fn.results = #[.cell p ty, .tmp u]) (tmps : Array Value) (w : World) (hp : tmps.getD p undef = .pointer (some ⟨g, 0, none⟩)) (hx : tmps.getD u undef = x) (hg : Blk w g cs t) (hu : Try.prog.underlying ty = some (.struct fs)) (hi : (Try.prog.info? ty).map (·.size) = some cs.size) :
  (results fn tmps).run Try.prog w = .ok (.tuple #[.agg cs, x]) w := by
 rw [results_cell_tmp h, hp, hx]
 have := run_loadVar_row (P := Try.prog) w g t ty cs (0, 0) _ hg hu rfl hi
 simp [asAddr, this]
def absI (d : Int) : Int := if d < 0 then -d else d
/-- The estimate behind an answer that took r ticks. -/
def tookE (e : E) (r : Int) : E :=
 if e.me = true then ⟨e.sm + (r - e.sm / 8), e.sp + (absI (r - e.sm / 8) - e.sp / 4), bd ((e.sm + (r - e.sm / 8)) / 8 + (e.sp + (absI (r - e.sm / 8) - e.sp / 4))), true⟩
 else ⟨8 * r, 2 * r, bd (r + 2 * r), true⟩
def okT (e : E) (r : Int) : Bool := goodB e && decide (0 ≤ r) && decide (r ≤ 65535)
theorem okT_iff (e : E) (r : Int) : okT e r = true ↔ goodB e = true ∧ 0 ≤ r ∧ r ≤ 65535 := by simp [okT, and_assoc]
def tookV (e : E) (r : Int) : E := if okT e r = true then tookE e r else e0
def tookN (e : E) (r : Int) : Int := if okT e r = true then 0 else 1
theorem took_no {e : E} {r : Int} (h : okT e r = false) : tookV e r = e0 ∧ tookN e r = 1 := ⟨if_neg (by rw [h]; decide), if_neg (by rw [h]; decide)⟩
theorem took_yes {e : E} {r : Int} (h : okT e r = true) : tookV e r = tookE e r ∧ tookN e r = 0 := ⟨if_pos h, if_pos h⟩
set_option maxHeartbeats 8000000 in
theorem took_any (e : E) (r : Int) (w : World) : Calls Try.prog 8 #[.agg (EV e), .int .i64 r] w fun x w' => x = .returned (.tuple #[.agg (EV (tookV e r)), errV (tookN e r)]) ∧ Ext w w' := by
 cases hg : goodB e with
 | false =>
  obtain ⟨a1, a2⟩ := took_no (show okT e r = false by simp [okT, hg])
  rw [a1, a2]
  clear a1 a2
  go_enter Try.func8, Try.ntmps8
  go_wp2_with (first
   | (refine wl_box (C := EV e) rfl rfl rfl ?_; intro w1 hb1 he1 hx1; have HX1 : Hid (w1.heap.size = w.heap.size + 1) := hx1; clear hx1)
   | (have q := hb1; clear q; refine wl_alloc rfl rfl zeroE ?_; intro w2 hb2 he2 hx2; clear hx2; have HT : Hid (Two w w2 w.heap.size w1.heap.size _ e e0) := ⟨hb1.ext he2, hb2, he1.trans he2, Nat.le_refl _, (by have := HX1.out; omega)⟩; clear hb1 hb2 he1 he2)
   | (have q := HT; clear q; refine wl_load rfl rowE rfl rfl HT.out.a rfl ?_)
   | (go_at_call 11; refine (good_any _ _).mono ?_; rintro e w3 ⟨rfl, he3⟩; rw [hg]; replace HT : Hid (Two _ _ _ _ _ _ _) := HT.out.grow he3; clear he3)
   | (refine wl_build rfl rfl rfl built0 ?_)
   | (have q := HT; clear q; refine wl_store (D := EV e0) rfl rowE rfl rfl rfl HT.out.b rfl rfl (EV.one _) ?_; intro w4 hb4 hk4 hx4; clear hx4; replace HT : Hid (Two _ _ _ _ _ _ _) := HT.out.setB hb4 hk4; clear hb4 hk4)
   | (have q := HT; clear q; refine wl_get0 HT.out.a rfl rfl rfl ?_)
   | (have q := HT; clear q; refine wl_get1 HT.out.a rfl rfl rfl ?_)
   | (have q := HT; clear q; refine wl_get2 HT.out.a rfl rfl rfl ?_)
   | (have q := HT; clear q; refine wl_get3 HT.out.a rfl rfl rfl ?_))
  refine bodyPost_ret (res_two (fn := Try.f8) (p := 4) (u := 5) rfl _ _ rfl rfl HT.out.b Try.underlying25 (by kernel_rfl)) rfl ?_
  exact ⟨rfl, HT.out.ext⟩
 | true =>
 by_cases h1 : r < 0
 ·
  have d1 : decide (r < 0) = true := decide_eq_true h1
  obtain ⟨a1, a2⟩ := took_no (show okT e r = false by rw [Bool.eq_false_iff, Ne, okT_iff]; omega)
  rw [a1, a2]
  clear a1 a2
  go_enter Try.func8, Try.ntmps8
  go_wp2_with (first
   | (refine wl_box (C := EV e) rfl rfl rfl ?_; intro w1 hb1 he1 hx1; have HX1 : Hid (w1.heap.size = w.heap.size + 1) := hx1; clear hx1)
   | (have q := hb1; clear q; refine wl_alloc rfl rfl zeroE ?_; intro w2 hb2 he2 hx2; clear hx2; have HT : Hid (Two w w2 w.heap.size w1.heap.size _ e e0) := ⟨hb1.ext he2, hb2, he1.trans he2, Nat.le_refl _, (by have := HX1.out; omega)⟩; clear hb1 hb2 he1 he2)
   | (have q := HT; clear q; refine wl_load rfl rowE rfl rfl HT.out.a rfl ?_)
   | (go_at_call 11; refine (good_any _ _).mono ?_; rintro e w3 ⟨rfl, he3⟩; rw [hg]; replace HT : Hid (Two _ _ _ _ _ _ _) := HT.out.grow he3; clear he3)
   | (refine wl_build rfl rfl rfl built0 ?_)
   | (have q := HT; clear q; refine wl_store (D := EV e0) rfl rowE rfl rfl rfl HT.out.b rfl rfl (EV.one _) ?_; intro w4 hb4 hk4 hx4; clear hx4; replace HT : Hid (Two _ _ _ _ _ _ _) := HT.out.setB hb4 hk4; clear hb4 hk4)
   | (have q := HT; clear q; refine wl_get0 HT.out.a rfl rfl rfl ?_)
   | (have q := HT; clear q; refine wl_get1 HT.out.a rfl rfl rfl ?_)
   | (have q := HT; clear q; refine wl_get2 HT.out.a rfl rfl rfl ?_)
   | (have q := HT; clear q; refine wl_get3 HT.out.a rfl rfl rfl ?_))
  refine bodyPost_ret (res_two (fn := Try.f8) (p := 4) (u := 5) rfl _ _ rfl rfl HT.out.b Try.underlying25 (by kernel_rfl)) rfl ?_
  exact ⟨rfl, HT.out.ext⟩
 have hd1 : decide (r < 0) = false := decide_eq_false h1
 by_cases h2 : r > 65535
 ·
  have d2 : decide (r > 65535) = true := decide_eq_true h2
  obtain ⟨a1, a2⟩ := took_no (show okT e r = false by rw [Bool.eq_false_iff, Ne, okT_iff]; omega)
  rw [a1, a2]
  clear a1 a2
  go_enter Try.func8, Try.ntmps8
  go_wp2_with (first
   | (refine wl_box (C := EV e) rfl rfl rfl ?_; intro w1 hb1 he1 hx1; have HX1 : Hid (w1.heap.size = w.heap.size + 1) := hx1; clear hx1)
   | (have q := hb1; clear q; refine wl_alloc rfl rfl zeroE ?_; intro w2 hb2 he2 hx2; clear hx2; have HT : Hid (Two w w2 w.heap.size w1.heap.size _ e e0) := ⟨hb1.ext he2, hb2, he1.trans he2, Nat.le_refl _, (by have := HX1.out; omega)⟩; clear hb1 hb2 he1 he2)
   | (have q := HT; clear q; refine wl_load rfl rowE rfl rfl HT.out.a rfl ?_)
   | (go_at_call 11; refine (good_any _ _).mono ?_; rintro e w3 ⟨rfl, he3⟩; rw [hg]; replace HT : Hid (Two _ _ _ _ _ _ _) := HT.out.grow he3; clear he3)
   | (refine wl_build rfl rfl rfl built0 ?_)
   | (have q := HT; clear q; refine wl_store (D := EV e0) rfl rowE rfl rfl rfl HT.out.b rfl rfl (EV.one _) ?_; intro w4 hb4 hk4 hx4; clear hx4; replace HT : Hid (Two _ _ _ _ _ _ _) := HT.out.setB hb4 hk4; clear hb4 hk4)
   | (have q := HT; clear q; refine wl_get0 HT.out.a rfl rfl rfl ?_)
   | (have q := HT; clear q; refine wl_get1 HT.out.a rfl rfl rfl ?_)
   | (have q := HT; clear q; refine wl_get2 HT.out.a rfl rfl rfl ?_)
   | (have q := HT; clear q; refine wl_get3 HT.out.a rfl rfl rfl ?_))
  refine bodyPost_ret (res_two (fn := Try.f8) (p := 4) (u := 5) rfl _ _ rfl rfl HT.out.b Try.underlying25 (by kernel_rfl)) rfl ?_
  exact ⟨rfl, HT.out.ext⟩
 have hd2 : decide (r > 65535) = false := decide_eq_false h2
 obtain ⟨a1, a2⟩ := took_yes ((okT_iff e r).2 ⟨hg, by omega, by omega⟩)
 rw [a1, a2]
 clear a1 a2
 have hn := (goodB_iff e).1 hg
 cases hme : e.me with
 | false =>
  obtain ⟨A, hA⟩ : ∃ A, A = 8 * r := ⟨_, rfl⟩
  have A1 : IntKind.i64.wrap (8 * r) = A := by rw [IntKind.wrap_i64]; omega
  obtain ⟨B, hB⟩ : ∃ B, B = 2 * r := ⟨_, rfl⟩
  have B1 : IntKind.i64.wrap (2 * r) = B := by rw [IntKind.wrap_i64]; omega
  have A2 : A.tdiv 8 = r := by rw [Int.tdiv_eq_ediv_of_nonneg (by omega)]; omega
  have A3 : IntKind.i64.wrap r = r := by rw [IntKind.wrap_i64]; omega
  obtain ⟨C, hC⟩ : ∃ C, C = r + B := ⟨_, rfl⟩
  have C1 : IntKind.i64.wrap (r + B) = C := by rw [IntKind.wrap_i64]; omega
  rw [show tookE e r = ⟨A, B, bd C, true⟩ from by unfold tookE; rw [if_neg (by rw [hme]; decide), hC, hA, hB]]
  clear hn h1 h2 hA hB hC
  go_enter Try.func8, Try.ntmps8
  go_wp2_with (first
   | (refine wl_box (C := EV e) rfl rfl rfl ?_; intro w1 hb1 he1 hx1; have HX1 : Hid (w1.heap.size = w.heap.size + 1) := hx1; clear hx1)
   | (have q := hb1; clear q; refine wl_alloc rfl rfl zeroE ?_; intro w2 hb2 he2 hx2; clear hx2; have HT : Hid (Two w w2 w.heap.size w1.heap.size _ e e0) := ⟨hb1.ext he2, hb2, he1.trans he2, Nat.le_refl _, (by have := HX1.out; omega)⟩; clear hb1 hb2 he1 he2)
   | (have q := HT; clear q; refine wl_load rfl rowE rfl rfl HT.out.a rfl ?_)
   | (go_at_call 11; refine (good_any _ _).mono ?_; rintro e w3 ⟨rfl, he3⟩; rw [hg]; replace HT : Hid (Two _ _ _ _ _ _ _) := HT.out.grow he3; clear he3)
   | (refine wl_build rfl rfl rfl (builtM A B) ?_)
   | (have q := HT; clear q; refine wl_store (D := EV ⟨A, B, 0, true⟩) rfl rowE rfl rfl rfl HT.out.a rfl rfl (EV.one _) ?_; intro w4 hb4 hk4 hx4; clear hx4; replace HT : Hid (Two _ _ _ _ _ _ _) := HT.out.setA hb4 hk4; clear hb4 hk4)
   | (go_at_call 20; refine (bounded_any _ _).mono ?_; rintro e w3 ⟨rfl, he3⟩; replace HT : Hid (Two _ _ _ _ _ _ _) := HT.out.grow he3; clear he3)
   | (have q := HT; clear q; refine wl_set2 HT.out.a rfl rfl rfl rfl ?_; intro w4 hb4 hk4; replace HT : Hid (Two _ _ _ _ _ _ _) := HT.out.setA hb4 hk4; clear hb4 hk4)
   | (have q := HT; clear q; refine wl_store rfl rowE rfl rfl rfl HT.out.b rfl rfl (EV.one _) ?_; intro w4 hb4 hk4 hx4; clear hx4; replace HT : Hid (Two _ _ _ _ _ _ _) := HT.out.setB hb4 hk4; clear hb4 hk4)
   | (have q := HT; clear q; refine wl_get0 HT.out.a rfl rfl rfl ?_)
   | (have q := HT; clear q; refine wl_get1 HT.out.a rfl rfl rfl ?_)
   | (have q := HT; clear q; refine wl_get2 HT.out.a rfl rfl rfl ?_)
   | (have q := HT; clear q; refine wl_get3 HT.out.a rfl rfl rfl ?_; rw [hme]))
  refine bodyPost_ret (res_two (fn := Try.f8) (p := 4) (u := 5) rfl _ _ rfl rfl HT.out.b Try.underlying25 (by kernel_rfl)) rfl ?_
  exact ⟨rfl, HT.out.ext⟩
 | true =>
  obtain ⟨q, hq⟩ : ∃ q, q = e.sm / 8 := ⟨_, rfl⟩
  have q1 : e.sm.tdiv 8 = q := by rw [Int.tdiv_eq_ediv_of_nonneg (by omega), hq]
  have q2 : IntKind.i64.wrap q = q := by rw [IntKind.wrap_i64]; omega
  obtain ⟨d, hd⟩ : ∃ d, d = r - q := ⟨_, rfl⟩
  have d1 : IntKind.i64.wrap (r - q) = d := by rw [IntKind.wrap_i64]; omega
  obtain ⟨S, hS⟩ : ∃ S, S = e.sm + d := ⟨_, rfl⟩
  have s1 : IntKind.i64.wrap (e.sm + d) = S := by rw [IntKind.wrap_i64]; omega
  obtain ⟨n, hnn⟩ : ∃ n, n = -d := ⟨_, rfl⟩
  have n1 : IntKind.i64.wrap (-d) = n := by rw [IntKind.wrap_i64]; omega
  obtain ⟨p, hp⟩ : ∃ p, p = e.sp / 4 := ⟨_, rfl⟩
  have p1 : e.sp.tdiv 4 = p := by rw [Int.tdiv_eq_ediv_of_nonneg (by omega), hp]
  have p2 : IntKind.i64.wrap p = p := by rw [IntKind.wrap_i64]; omega
  obtain ⟨u, hu⟩ : ∃ u, u = S / 8 := ⟨_, rfl⟩
  have u1 : S.tdiv 8 = u := by rw [Int.tdiv_eq_ediv_of_nonneg (by omega), hu]
  have u2 : IntKind.i64.wrap u = u := by rw [IntKind.wrap_i64]; omega
  have hM : absI d = if d < n then n else d := by rw [hnn]; unfold absI; split <;> split <;> omega
  have hM2 : 0 ≤ absI d ∧ absI d ≤ 65535 := by unfold absI; split <;> omega
  obtain ⟨v, hv⟩ : ∃ v, v = absI d - p := ⟨_, rfl⟩
  have v1 : IntKind.i64.wrap ((if d < n then n else d) - p) = v := by rw [← hM, IntKind.wrap_i64]; omega
  obtain ⟨Z, hZ⟩ : ∃ Z, Z = e.sp + v := ⟨_, rfl⟩
  have z1 : IntKind.i64.wrap (e.sp + v) = Z := by rw [IntKind.wrap_i64]; omega
  obtain ⟨C, hC⟩ : ∃ C, C = u + Z := ⟨_, rfl⟩
  have C1 : IntKind.i64.wrap (u + Z) = C := by rw [IntKind.wrap_i64]; omega
  rw [show tookE e r = ⟨S, Z, bd C, true⟩ from by unfold tookE; rw [if_pos hme, ← hq, ← hd, ← hS, ← hu, ← hp, ← hv, ← hZ, ← hC]]
  clear hn hnn h1 h2 hq hd hS hp hu hM hM2 hv hZ hC
  go_enter Try.func8, Try.ntmps8
  go_wp2_with (first
   | (refine wl_box (C := EV e) rfl rfl rfl ?_; intro w1 hb1 he1 hx1; have HX1 : Hid (w1.heap.size = w.heap.size + 1) := hx1; clear hx1)
   | (have q := hb1; clear q; refine wl_alloc rfl rfl zeroE ?_; intro w2 hb2 he2 hx2; clear hx2; have HT : Hid (Two w w2 w.heap.size w1.heap.size _ e e0) := ⟨hb1.ext he2, hb2, he1.trans he2, Nat.le_refl _, (by have := HX1.out; omega)⟩; clear hb1 hb2 he1 he2)
   | (have q := HT; clear q; refine wl_load rfl rowE rfl rfl HT.out.a rfl ?_)
   | (go_at_call 11; refine (good_any _ _).mono ?_; rintro e w3 ⟨rfl, he3⟩; rw [hg]; replace HT : Hid (Two _ _ _ _ _ _ _) := HT.out.grow he3; clear he3)
   | (go_at_call 20; refine (bounded_any _ _).mono ?_; rintro e w3 ⟨rfl, he3⟩; replace HT : Hid (Two _ _ _ _ _ _ _) := HT.out.grow he3; clear he3)
   | (have q := HT; clear q; refine wl_set0 HT.out.a rfl rfl rfl rfl ?_; intro w4 hb4 hk4; replace HT : Hid (Two _ _ _ _ _ _ _) := HT.out.setA hb4 hk4; clear hb4 hk4)
   | (have q := HT; clear q; refine wl_set1 HT.out.a rfl rfl rfl rfl ?_; intro w4 hb4 hk4; replace HT : Hid (Two _ _ _ _ _ _ _) := HT.out.setA hb4 hk4; clear hb4 hk4)
   | (have q := HT; clear q; refine wl_set2 HT.out.a rfl rfl rfl rfl ?_; intro w4 hb4 hk4; replace HT : Hid (Two _ _ _ _ _ _ _) := HT.out.setA hb4 hk4; clear hb4 hk4)
   | (have q := HT; clear q; refine wl_store rfl rowE rfl rfl rfl HT.out.b rfl rfl (EV.one _) ?_; intro w4 hb4 hk4 hx4; clear hx4; replace HT : Hid (Two _ _ _ _ _ _ _) := HT.out.setB hb4 hk4; clear hb4 hk4)
   | (have q := HT; clear q; refine wl_get0 HT.out.a rfl rfl rfl ?_)
   | (have q := HT; clear q; refine wl_get1 HT.out.a rfl rfl rfl ?_)
   | (have q := HT; clear q; refine wl_get2 HT.out.a rfl rfl rfl ?_)
   | (have q := HT; clear q; refine wl_get3 HT.out.a rfl rfl rfl ?_; rw [hme]))
  all_goals
   refine bodyPost_ret (res_two (fn := Try.f8) (p := 4) (u := 5) rfl _ _ rfl rfl HT.out.b Try.underlying25 (by kernel_rfl)) rfl ?_
   exact ⟨by rw [show ({ sm := S, sp := Z, wt := bd C, me := e.me } : E) = ⟨S, Z, bd C, true⟩ from by rw [hme]]; rfl, HT.out.ext⟩
end Rto
end Go.Proofs.Ytdjijipbfiofmaa
/- Estimates compared. No condition of its own. -/
namespace Go.Proofs.Ytdjijipbfiofmaa
namespace Rto
open Go Go.RowKit
set_option maxRecDepth 100000
/-- A type of three whole numbers and a truth. -/
structure EstEq (t : TypeId) : Prop where
 u : Try.prog.underlying t = some (.struct (Try.prog.fieldsOf t))
 gd : Try.prog.eqGuardType Try.prog.depth t = false
 hd : Try.prog.stoodInHeld t = false
 fo : (Try.prog.fieldsOf t).toList.map (fun f => f.offset) = [0, 1, 2, 3]
 fa : (Try.prog.fieldsOf t).toList.map (fun f => decide (f.name = "_")) = [false, false, false, false]
 fy : (Try.prog.fieldsOf t).toList.map (fun f => f.type) = [3, 3, 3, 4]
theorem four_of {α : Type} : ∀ {L : List α}, L.length = 4 → ∃ f g h k, L = [f, g, h, k]
 | [f, g, h, k], _ => ⟨f, g, h, k, rfl⟩
 | [], h => by cases h
 | [_], h => by cases h
 | [_, _], h => by cases h
 | [_, _, _], h => by cases h
 | _ :: _ :: _ :: _ :: _ :: _, h => by simp at h
def sameE (x y : E) : Bool := x.sm == y.sm && x.sp == y.sp && x.wt == y.wt && x.me == y.me
set_option maxHeartbeats 4000000 in
theorem equal_est {t : TypeId} (hT : EstEq t) (w : World) (x y : E) :
  (Op.equal t (.agg (EV x)) (.agg (EV y))).run Try.prog w = .ok (sameE x y) w := by
 show (Op.equalIn (9999 + 1) t _ _).run Try.prog w = _
 unfold EV
 rw [run_equalIn_struct w 9999 t _ _ hT.u hT.hd]
 have h1 := hT.fo
 have h2 := hT.fa
 have h3 := hT.fy
 clear hT
 generalize (Try.prog.fieldsOf t).toList = L at *
 have hl : L.length = 4 := by simpa using congrArg List.length h1
 obtain ⟨f, g, h, k, rfl⟩ := four_of hl
 clear hl
 simp only [List.map_cons, List.map_nil, List.cons.injEq, and_true] at h1 h2 h3
 obtain ⟨f1, g1, i1, k1⟩ := h1
 have f2 : f.name ≠ "_" := of_decide_eq_false h2.1
 have g2 : g.name ≠ "_" := of_decide_eq_false h2.2.1
 have i2 : h.name ≠ "_" := of_decide_eq_false h2.2.2.1
 have k2 : k.name ≠ "_" := of_decide_eq_false h2.2.2.2
 obtain ⟨f3, g3, i3, k3⟩ := h3
 have u3 := Try.underlying3
 have u4 := Try.underlying4
 have s3 : (Try.prog.info? 3).map (·.size) = some 1 := by kernel_rfl
 have s4 : (Try.prog.info? 4).map (·.size) = some 1 := by kernel_rfl
 cases hq3 : Try.prog.info? 3 with
 | none => simp [hq3] at s3
 | some i =>
  cases hq4 : Try.prog.info? 4 with
  | none => simp [hq4] at s4
  | some j =>
   have hi : i.size = 1 := by simpa [hq3] using s3
   have hj : j.size = 1 := by simpa [hq4] using s4
   have ha3 : (isAgg 3).run Try.prog w = .ok false w := by unfold isAgg; rw [Sem.run_bind, run_underlying u3 w]; rfl
   have ha4 : (isAgg 4).run Try.prog w = .ok false w := by unfold isAgg; rw [Sem.run_bind, run_underlying u4 w]; rfl
   simp [Op.eqFields, f1, f2, f3, g1, g2, g3, i1, i2, i3, k1, k2, k3, part, sizeOf, typeInfo, hq3, hq4, hi, hj, ha3, ha4, go_sem, run_equalIn_int w 9998 3 .i64 .i64 _ _ u3, run_equalIn_bool w 9998 4 _ _ u4]
   unfold sameE
   by_cases e1 : x.sm = y.sm
   ·
    by_cases e2 : x.sp = y.sp
    ·
     by_cases e3 : x.wt = y.wt
     ·
      simp [e1, e2, e3]
      cases x.me <;> cases y.me <;> rfl
     ·
      simp [e1, e2, e3, beq_false_of_ne e3]
    ·
     simp [e1, e2, beq_false_of_ne e2]
   ·
    simp [e1, beq_false_of_ne e1]
theorem exec_eqlS {t : TypeId} (hT : EstEq t) {r : Operand → Value} {o : Oper} {x y : Operand} {ty : TypeId} {w : World} (ho : o.op = .binOp .eql t x y ty) {a b : E} (hx : r x = .agg (EV a)) (hy : r y = .agg (EV b)) :
  (execOp r o).run Try.prog w = .ok (.value (.bool (sameE a b))) w := by
 simp [execOp, ho, hx, hy, binOp, eqGuard, hT.gd, go_sem, equal_est hT]
theorem esE : EstEq 25 := ⟨by kernel_rfl, by kernel_rfl, by kernel_rfl, by kernel_rfl, by kernel_rfl, by kernel_rfl⟩
end Rto
end Go.Proofs.Ytdjijipbfiofmaa
/- The chapter's example: it holds. No condition of its own. -/
namespace Go.Proofs.Ytdjijipbfiofmaa
namespace Rto
open Go Go.RowKit
set_option maxRecDepth 100000
theorem took1 : tookV eF 8 = ⟨64, 16, 24, true⟩ ∧ tookN eF 8 = 0 := ⟨by kernel_rfl, by kernel_rfl⟩
theorem took2 : tookV ⟨64, 16, 24, true⟩ 8 = ⟨64, 12, 20, true⟩ ∧ tookN ⟨64, 16, 24, true⟩ 8 = 0 := ⟨by kernel_rfl, by kernel_rfl⟩
theorem exec_buildc {r : Operand → Value} {o : Oper} {w : World} {t : TypeId} {parts : Array (Nat × Operand)} {vals : List (Nat × Value)} {cells : Array Value} (ho : o.op = .build t parts) (hv : (parts.map fun (i, x) => (i, r x)).toList = vals) (hc : Try.prog.built t vals = some cells) : (execOp r o).run Try.prog w = .ok (.value (.agg cells)) w := by
 have := run_build (P := Try.prog) w t (parts.map fun (i, x) => (i, r x)) cells (by rw [hv]; exact hc)
 simp [execOp, ho, this]
theorem built64 : Try.prog.built 25 [(0, .int .i64 64), (1, .int .i64 16), (2, .int .i64 24), (3, .bool true)] = some (EV ⟨64, 16, 24, true⟩) := by kernel_rfl
set_option maxHeartbeats 8000000 in
theorem alive_any (w : World) : Calls Try.prog 7 #[] w fun e w' => e = .returned (.bool true) ∧ Ext w w' := by
 go_enter Try.func7, Try.ntmps7
 go_wp2_with (first
  | (have q := HB1; clear q; refine stop_at 21 rfl ?_)
  | (go_at_call 14; refine (first_any _).mono ?_; rintro e w1 ⟨rfl, he1⟩)
  | (have q := HA1; clear q; go_at_call 8; refine (took_any _ _ _).mono ?_; rintro e w5 ⟨rfl, he5⟩; rw [took2.1, took2.2]; have HA2 : Hid (Blk w5 _ (EV ⟨64, 16, 24, true⟩) _ ∧ Ext w w5) := ⟨HA1.out.1.ext he5, HA1.out.2.trans he5⟩; clear HA1 he5)
  | (go_at_call 8; refine (took_any _ _ _).mono ?_; rintro e w2 ⟨rfl, he2⟩; rw [took1.1, took1.2]; have HW : Hid (Ext w w2) := he1.trans he2; clear he1 he2)
  | (have q := HA1; clear q; refine wl_load rfl rowE rfl rfl HA1.out.1 rfl ?_)
  | (have q := HA2; clear q; refine wl_alloc rfl rfl zeroE ?_; intro w6 hb6 he6 hx6; have HA3 : Hid (Blk w6 _ (EV ⟨64, 16, 24, true⟩) _ ∧ Ext w w6 ∧ _ ≠ w5.heap.size ∧ w.heap.size ≤ w5.heap.size) := ⟨HA2.out.1.ext he6, HA2.out.2.trans he6, Nat.ne_of_lt HA2.out.1.lt, HA2.out.2.size⟩; clear HA2 he6 hx6)
  | (refine wl_alloc rfl rfl zeroE ?_; intro w3 hb3 he3 hx3; clear hx3)
  | (have q := HA3; clear q; refine wl_store (D := EV ⟨64, 12, 20, true⟩) rfl rowE rfl rfl rfl hb6 rfl rfl (EV.one _) ?_; intro w7 hb7 hk7 hx7; clear hx7; have HB1 : Hid (Blk w7 _ (EV ⟨64, 16, 24, true⟩) _ ∧ Blk w7 w5.heap.size (EV ⟨64, 12, 20, true⟩) _ ∧ Ext w w7) := ⟨HA3.out.1.but hk7 HA3.out.2.2.1, hb7, HA3.out.2.1.of_but hk7 (fun q e => by subst e; exact HA3.out.2.2.2)⟩; clear HA3 hb6 hb7 hk7)
  | (refine wl_store (D := EV ⟨64, 16, 24, true⟩) rfl rowE rfl rfl rfl hb3 rfl rfl (EV.one _) ?_; intro w4 hb4 hk4 hx4; clear hx4; have HA1 : Hid (Blk w4 _ (EV ⟨64, 16, 24, true⟩) _ ∧ Ext w w4) := ⟨hb4, (HW.out.trans he3).of_but hk4 (fun q e => by subst e; exact HW.out.size)⟩; clear hb3 hb4 hk4 he3 HW))
 refine ⟨?_⟩
 refine wpList_line 1 (fun t => bif Nat.ble 15 t && Nat.ble t 35 then some (t - 15) else bif Nat.beq t 0 then some 21 else none) 36 Ext
  [Is (.nilIface),
   Is (.bool true),
   Is (.bool true),
   Under ((true)) (.nilIface),
   Under ((true)) (.bool true),
   Is (.bool (true && (true))),
   Is (.bool (true && (true))),
   Under (((true && (true)))) (.agg (EV ⟨64, 16, 24, true⟩)),
   Under (((true && (true)))) (.agg (EV ⟨64, 16, 24, true⟩)),
   Under (((true && (true)))) (.bool true),
   Is (.bool ((true && (true)) && (true))),
   Is (.bool ((true && (true)) && (true))),
   Under ((((true && (true)) && (true)))) (.pointer (some ⟨w5.heap.size, 1, none⟩)),
   Under ((((true && (true)) && (true)))) (.int .i64 12),
   Under ((((true && (true)) && (true)))) (.bool ((12 : Int) == (12 : Int))),
   Is (.bool (((true && (true)) && (true)) && (((12 : Int) == (12 : Int))))),
   Is (.bool (((true && (true)) && (true)) && (((12 : Int) == (12 : Int))))),
   Under (((((true && (true)) && (true)) && (((12 : Int) == (12 : Int)))))) (.pointer (some ⟨w5.heap.size, 2, none⟩)),
   Under (((((true && (true)) && (true)) && (((12 : Int) == (12 : Int)))))) (.int .i64 20),
   Under (((((true && (true)) && (true)) && (((12 : Int) == (12 : Int)))))) (.bool ((20 : Int) == (20 : Int))),
   Is (.bool ((((true && (true)) && (true)) && (((12 : Int) == (12 : Int)))) && (((20 : Int) == (20 : Int))))),
   Is (.bool ((((true && (true)) && (true)) && (((12 : Int) == (12 : Int)))) && (((20 : Int) == (20 : Int)))))]
  rfl (by kernel_rfl) rfl Ext.refl (fun _ _ _ => Ext.trans) (Ks (Ks (Ks (Ku (Ku (Ks (Ks (Ku (Ku (Ku (Ks (Ks (Ku (Ku (Ku (Ks (Ks (Ku (Ku (Ku (Ks (Ks (KeepAll.nil))))))))))))))))))))))) ?_ ?_ ?_
 ·
  intro i o hi ho
  by_cases hi0 : i = 0
  ·
   subst hi0; cases ho; exact ⟨_, fun d hd => by cases hd; rfl, rfl⟩
  exact absurd hi (by omega)
 ·
  refine goodFrom 1 ?_
  refine Gc (ln2 (gd0 rfl) rfl (ouI rfl) (fun _ _ h _ => h) (fun _ _ h _ => h) (fun r wx hR h1 h2 => exec_eqlV 0 rfl h1 h2)) ?_
  refine Gc (ln1 (gd0 rfl) rfl (ouI rfl) (fun _ _ h _ => h) (fun r wx hR h1 => exec_mv (.inl rfl) h1)) ?_
  refine Gc (ln1 (gdU rfl (fun _ _ h => h) (want_t _)) rfl (ouU rfl) (fun _ _ h _ => h) (fun r wx hR h1 => exec_mv (.inl rfl) h1)) ?_
  refine Gc (ln2 (gdU rfl (fun _ _ h => h) (want_t _)) rfl (ouU rfl) (fun _ _ h c => Eq.trans h (if_pos c)) (fun _ _ h _ => h) (fun r wx hR h1 h2 => exec_eqlV 0 rfl h1 h2)) ?_
  refine Gc (lnA (gd0 rfl) rfl (ouI rfl) (fun _ _ h _ => h) (fun _ _ h c hb => Eq.trans h (if_pos (by first | exact hb | (rw [hb]; rfl) | (rw [c, hb]; rfl))))) ?_
  refine Gc (ln1 (gd0 rfl) rfl (ouI rfl) (fun _ _ h _ => h) (fun r wx hR h1 => exec_mv (.inl rfl) h1)) ?_
  refine Gc (ln1 (gdU rfl (fun _ _ h => h) (want_t _)) rfl (ouU rfl) (fun _ _ h _ => h) (fun r wx hR h1 => exec_loadW rowE rfl h1 (HB1.out.1.ext hR) rfl)) ?_
  refine Gc ?_ ?_
  ·
   rintro r wx hR ⟨h1, h2, h3, h4, _⟩
   replace h1 : r (.const (.int .i64 64)) = .int .i64 64 := h1
   replace h2 : r (.const (.int .i64 16)) = .int .i64 16 := h2
   replace h3 : r (.const (.int .i64 24)) = .int .i64 24 := h3
   replace h4 : r (.const (.bool true)) = .bool true := h4
   intro gb hgb
   refine guard_u (C := ((true && (true)))) (b := (true && (true))) (want := true) hgb (want_t _) (fun hc => ?_) (fun hc => un_ hc)
   exact gvo (exec_buildc (vals := _) rfl (by simp [h1, h2, h3, h4]) built64) ⟨Ext.refl _, uy hc⟩
  refine Gc (ln2 (gdU rfl (fun _ _ h => h) (want_t _)) rfl (ouU rfl) (fun _ _ h c => Eq.trans h (if_pos c)) (fun _ _ h c => Eq.trans h (if_pos c)) (fun r wx hR h1 h2 => exec_eqlS (a := ⟨64, 16, 24, true⟩) (b := ⟨64, 16, 24, true⟩) esE rfl h1 h2)) ?_
  refine Gc (lnA (gd0 rfl) rfl (ouI rfl) (fun _ _ h _ => h) (fun _ _ h c hb => Eq.trans h (if_pos (by first | exact hb | (rw [hb]; rfl) | (rw [c, hb]; rfl))))) ?_
  refine Gc (ln1 (gd0 rfl) rfl (ouI rfl) (fun _ _ h _ => h) (fun r wx hR h1 => exec_mv (.inl rfl) h1)) ?_
  refine Gc (ln1 (gdU rfl (fun _ _ h => h) (want_t _)) rfl (ouU rfl) (fun _ _ h _ => h) (fun r wx hR h1 => by simp [execOp, h1, go_sem])) ?_
  refine Gc (ln1 (gdU rfl (fun _ _ h => h) (want_t _)) rfl (ouU rfl) (fun _ _ h c => Eq.trans h (if_pos c)) (fun r wx hR h1 => exg one3 rfl h1 (ev1 (HB1.out.2.1.ext hR)))) ?_
  refine Gc (ln2 (gdU rfl (fun _ _ h => h) (want_t _)) rfl (ouU rfl) (fun _ _ h c => Eq.trans h (if_pos c)) (fun _ _ h _ => h) (fun r wx hR h1 h2 => by simp [execOp, h1, h2, go_sem])) ?_
  refine Gc (lnA (gd0 rfl) rfl (ouI rfl) (fun _ _ h _ => h) (fun _ _ h c hb => Eq.trans h (if_pos (by first | exact hb | (rw [hb]; rfl) | (rw [c, hb]; rfl))))) ?_
  refine Gc (ln1 (gd0 rfl) rfl (ouI rfl) (fun _ _ h _ => h) (fun r wx hR h1 => exec_mv (.inl rfl) h1)) ?_
  refine Gc (ln1 (gdU rfl (fun _ _ h => h) (want_t _)) rfl (ouU rfl) (fun _ _ h _ => h) (fun r wx hR h1 => by simp [execOp, h1, go_sem])) ?_
  refine Gc (ln1 (gdU rfl (fun _ _ h => h) (want_t _)) rfl (ouU rfl) (fun _ _ h c => Eq.trans h (if_pos c)) (fun r wx hR h1 => exg one3 rfl h1 (ev2 (HB1.out.2.1.ext hR)))) ?_
  refine Gc (ln2 (gdU rfl (fun _ _ h => h) (want_t _)) rfl (ouU rfl) (fun _ _ h c => Eq.trans h (if_pos c)) (fun _ _ h _ => h) (fun r wx hR h1 h2 => by simp [execOp, h1, h2, go_sem])) ?_
  refine Gc (lnA (gd0 rfl) rfl (ouI rfl) (fun _ _ h _ => h) (fun _ _ h c hb => Eq.trans h (if_pos (by first | exact hb | (rw [hb]; rfl) | (rw [c, hb]; rfl))))) ?_
  refine Gc (ln1 (gd0 rfl) rfl (ouI rfl) (fun _ _ h _ => h) (fun r wx hR h1 => exec_mv (.inr rfl) h1)) ?_
  exact GoodAll.nil
 ·
  intro vs wE aE hR hold haE
  have hv : vs 21 = .bool ((((true && (true)) && (true)) && (((12 : Int) == (12 : Int)))) && (((20 : Int) == (20 : Int)))) := hold.at 21
  refine ‹∀ (a : Act) (w : World), Code.wp Try.prog Code.ret _ a w → _› _ _ ?_
  refine wp_ret ?_
  have hs : aE.tmps[0]? = some (.bool ((((true && (true)) && (true)) && (((12 : Int) == (12 : Int)))) && (((20 : Int) == (20 : Int))))) := by rw [haE, ← hv]; kernel_rfl
  have hdf : aE.defers = [] := by rw [haE]; exact putAll_defers _ _ _ _
  clear haE
  try unfold Exit.then
  try unfold Exit.inBlock
  try dsimp only
  refine bodyPost_ret (v := .bool ((((true && (true)) && (true)) && (((12 : Int) == (12 : Int)))) && (((20 : Int) == (20 : Int))))) ?_ hdf ⟨rfl, HB1.out.2.2.trans hR⟩
  simp [results, Try.results7, go_sem, hs]
end Rto
end Go.Proofs.Ytdjijipbfiofmaa
/- The law RtoWaits walked: it answers true. No condition of its own. -/
namespace Go.Proofs.Ytdjijipbfiofmaa
namespace Rto
open Go Go.RowKit
set_option maxRecDepth 100000
set_option maxHeartbeats 8000000 in
theorem waits_walk (e : E) (many : Int) (w : World) : Calls Try.prog 4 #[.agg (EV e), .int .i64 many] w fun x w' => x = .returned (.bool true) ∧ Ext w w' := by
 go_enter Try.func4, Try.ntmps4
 go_wp2_with (first
  | (refine wl_box (C := EV e) rfl rfl rfl ?_; intro w1 hb1 he1 hx; clear hx)
  | (go_at_call 7; refine (alive_any _).mono ?_; rintro xx w2 ⟨rfl, he2⟩; have HT : Hid (One w w2 w.heap.size _ e) := ⟨hb1.ext he2, he1.trans he2, Nat.le_refl _⟩; clear hb1 he1 he2))
 have HB : ∀ {wx : World}, Ext w2.drew wx → Blk wx w.heap.size (EV e) 23 := fun hx => HT.out.a.ext ((Ext.drew _).trans hx)
 refine wp_region_facts (fun t => bif Nat.ble 7 t && Nat.ble t 13 then some (t - 7) else bif Nat.beq t 4 then some 7 else none) 14 Ext
  [Is (.agg (EV e)),
   Is (.int .i64 many),
   Is (.int .i64 (waitsE e many)),
   Is (.agg (EV e)),
   Is (.int .i64 many),
   Is (.int .i64 (waitsE e many)),
   Is (.bool true),
   Is (.bool true)]
  rfl (by kernel_rfl) (by kernel_rfl) rfl Ext.refl (fun _ _ _ => Ext.trans) ?_ ?_ ?_
 ·
  exact Ks (Ks (Ks (Ks (Ks (Ks (Ks (Ks (KeepAll.nil))))))))
 ·
  refine Gc (lr1 Ext.refl rfl rfl rfl (fun _ _ h => h) (fun r wx hR h1 => exec_loadW rowR rfl h1 (HB hR) rfl)) ?_
  refine Gc (lr1 Ext.refl rfl rfl rfl (fun _ _ h => h) (fun r wx hR h1 => exec_mv (.inl rfl) h1)) ?_
  refine Gc ?_ ?_
  ·
   rintro r wx hR ⟨h1, h2, h3, _⟩
   replace h1 : r (.func 18) = .func (.func 18) #[] #[] := h1
   replace h2 : r (.tmp 7) = (.agg (EV e)) := h2
   replace h3 : r (.tmp 8) = (.int .i64 many) := h3
   refine give_func #[.agg (EV e), .int .i64 many] rfl h1 Try.call18 (by simp [h2, h3]) ?_
   refine (waits_any e many _).mono ?_
   rintro x w' ⟨rfl, he⟩
   exact ⟨_, rfl, he, rfl⟩
  refine Gc (lr1 Ext.refl rfl rfl rfl (fun _ _ h => h) (fun r wx hR h1 => exec_loadW rowR rfl h1 (HB hR) rfl)) ?_
  refine Gc (lr1 Ext.refl rfl rfl rfl (fun _ _ h => h) (fun r wx hR h1 => exec_mv (.inl rfl) h1)) ?_
  refine Gc ?_ ?_
  ·
   rintro r wx hR ⟨h1, h2, h3, _⟩
   replace h1 : r (.func 19) = .func (.func 19) #[] #[] := h1
   replace h2 : r (.tmp 10) = (.agg (EV e)) := h2
   replace h3 : r (.tmp 11) = (.int .i64 many) := h3
   refine give_func #[.agg (EV e), .int .i64 many] rfl h1 Try.call19 (by simp [h2, h3]) ?_
   refine (refWaits_any e many _).mono ?_
   rintro x w' ⟨rfl, he⟩
   exact ⟨_, rfl, he, rfl⟩
  refine Gc (lr2 Ext.refl rfl rfl rfl (fun _ _ h => h) (fun _ _ h => h) (fun r wx hR h1 h2 => by simp [execOp, h1, h2, go_sem])) ?_
  refine Gc (lr1 Ext.refl rfl rfl rfl (fun _ _ h => h) (fun r wx hR h1 => exec_mv (.inr rfl) h1)) ?_
  exact GoodAll.nil
 ·
  intro vs wE aE hR hold haE
  have hv : vs 7 = .bool true := hold.at 7
  refine ‹∀ (a : Act) (w : World), Code.wp Try.prog Code.ret _ a w → _› _ _ ?_
  refine wp_ret ?_
  have hs : aE.tmps[4]? = some (.bool true) := by rw [haE, ← hv]; kernel_rfl
  have hdf : aE.defers = [] := by rw [haE]; exact putAll_defers _ _ _ _
  clear haE
  try unfold Exit.then
  try unfold Exit.inBlock
  try dsimp only
  refine bodyPost_ret (v := .bool true) ?_ hdf ⟨rfl, HT.out.ext.trans ((Ext.drew _).trans hR)⟩
  simp [results, Try.results4, go_sem, hs]
end Rto
end Go.Proofs.Ytdjijipbfiofmaa
/- An argument that is a slice of numbers, opened. No condition of its own. -/
namespace Go.Proofs.Ytdjijipbfiofmaa
open Go.RowKit Go.ChangeShapes
end Go.Proofs.Ytdjijipbfiofmaa
namespace Go.Proofs.Ytdjijipbfiofmaa
open Go.ChangeShapes Go.WideShapes Go.ChangeAt Go.RowKit
open Go.ChangeMaps (open_string shut_string)
theorem rtoWaitsOwn : ownKnob Try.prog.godebug = none := by kernel_rfl
theorem rtoWaitsLaidOut : laidOutB Try.prog = true := by kernel_rfl
set_option maxRecDepth 100000 in
theorem rtoWaitsLifted (os : Os) (started : os.Started) (H : Type) (enc : TypeId × Value → H) :
  ReturnsInHanded {} Try.checked os 4 .any (Rows.rtoWaitsSpec.pre6 enc Try.prog Try.f4 Rows.rtoWaitsRow.domain false) (Rows.rtoWaitsSpec.post enc Try.prog Try.f4 false true false false) := by
 refine returnsInHanded_of_change (C := Try.checked) rtoWaitsOwn started (by kernel_rfl) Try.func4
  (ChangeSpec.witness6 (enc := enc) (C := Try.checked) false ⟨#[], #[.agg #[.int .i64 0, .int .i64 0, .int .i64 0, .bool false], .int .i64 0], []⟩ 8 (by kernel_rfl) (by kernel_rfl) (by kernel_rfl) (by kernel_rfl)) ?_
 intro W base args ds gs before hval0 hW hcnd _
 have hval : ∀ (j : Nat) t v, Try.f4.params[j]? = some t → args[j]? = some v → Value.okWide Try.prog W .any base t v := hval0
 have hW' := hW
 obtain ⟨p, q, hA0, hV, rfl, hfz, hnd⟩ := hW
 have hA : DataW.TrodAll enc Try.prog W 0 (fun _ => true) true Try.f4.params.toList args.toList ds p := hA0
 rw [Try.params4] at hA hval
 obtain ⟨v0, vs0, d0, ds0, p0, q0, hargs, rfl, rfl, h0, r0⟩ := trodAll_cons hA
 obtain ⟨v1, vs1, d1, ds1, p1, q1, rfl, rfl, rfl, h1, r1⟩ := trodAll_cons r0
 obtain ⟨rfl, rfl, rfl⟩ := trodAll_nil r1
 obtain rfl : args = #[v0, v1] := by cases args; simp_all
 obtain ⟨rfl, rfl⟩ := trodVars_none hV
 have k0 := h0
 have lt0 : ∀ x ∈ p0, x.block < W.heap.size := by obtain ⟨m, hm⟩ := k0; exact DataW.trod_lt m _ _ _ hm
 obtain ⟨x0, x1, x2, x3, y0, y1, y2, y3, fu0, rfl, hd0, hp0, t0, t1, t2, t3⟩ := Go.Joins.open_agg4 Try.underlying23 (by kernel_rfl) (by kernel_rfl) (hval 0 23 v0 rfl rfl) h0
 obtain ⟨f0, e0, _, w0⟩ := DataW.trod_int Try.underlying3 t0
 obtain ⟨f1, e1, _, w1⟩ := DataW.trod_int Try.underlying3 t1
 obtain ⟨f2, e2, _, w2⟩ := DataW.trod_int Try.underlying3 t2
 obtain ⟨f3, e3, _⟩ := DataW.trod_bool Try.underlying4 t3
 simp only [List.cons.injEq, and_true] at e0 e1 e2 e3
 subst e0 e1 e2 e3
 obtain ⟨a1, rfl, rfl, rfl, w1⟩ := open_int Try.underlying3 (hval 1 3 v1 rfl rfl) h1
 clear hA0 hval0
 refine (Rto.waits_walk ⟨f0, f1, f2, f3⟩ a1 W).mono fun e W' ⟨he, bel⟩ => ?_
 subst he
 exact ⟨_, rfl, _, _, _, [], _, [], hW', trodAll_mk1 (shut_bool Try.underlying4 _), (trodAll_cons_mk (Below.trod rtoWaitsLaidOut (by kernel_rfl) (of_decide_eq_true (by kernel_rfl)) k0 bel lt0) (trodAll_cons_mk (shut_int Try.underlying3 w1) (trodAll_mk0))), rfl, bel.frame _, fun h => by cases h⟩
theorem rtoWaitsOver : Rows.rtoWaitsRow.holds Try.pinned (OpenSpec.ofChange Rows.rtoWaitsSpec) :=
 OpenClaim.holds_of_wide 4 Try.f4 rfl rfl rfl rfl rfl rfl rfl ⟨rfl, rfl, rfl, rfl, rfl⟩ rfl rfl rfl rfl rfl (by kernel_rfl) Try.func4 (by kernel_rfl)
  (of_decide_eq_true (by kernel_rfl)) (by unfold Func.isWrapper; first | (rw [if_pos (by decide +kernel)]; kernel_rfl) | (rw [if_neg (by decide +kernel)]; exact ⟨rfl, rfl⟩))
  (fun os started H enc _ => rtoWaitsLifted os started H enc)
/-- THE STATEMENT. -/
theorem rtoWaits_holds : Rows.RtoWaitsSaid := rtoWaitsOver
#print axioms rtoWaits_holds
end Go.Proofs.Ytdjijipbfiofmaa
