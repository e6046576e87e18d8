/- One parameter: read by a reader, put into an Out. No condition of its own. -/
import Derived.Test.YtmfciiccomagpaaTlv7
namespace Go.Proofs.Ytmfciiccomagpaa
namespace Tlv
open Go Go.RowKit
set_option linter.unusedVariables false
set_option linter.unusedSimpArgs false
set_option maxRecDepth 100000


theorem rowP : RowT Try.prog 75 2 := ⟨⟨_, Try.underlying75, rfl⟩, by kernel_rfl⟩
theorem zeroP : (Try.prog.info? 75).bind (·.zero) = some (.agg #[.int .i64 0, .slice none 0 0]) := by kernel_rfl
theorem one_par (k : Int) (u : Value) (hu : u.oneCell' = true) : ∀ v ∈ (#[Value.int .i64 k, u] : Array Value).toList, v.oneCell' = true := by
  intro v hv
  simp at hv
  rcases hv with rfl | rfl
  · rfl
  · exact hu
theorem numS2_lt {B : List Nat} (h : AllB B) (s : Option Nat) : (numS B s 2).2 < 65536 := by
  cases s with
  | none => rw [numS_none]; decide
  | some a =>
    by_cases ha : a + 2 ≤ B.length
    · rw [numS2_yes ha]
      have := h.getD a
      have := h.getD (a + 1)
      simp only; omega
    · rw [numS2_no (by omega)]; decide

set_option maxHeartbeats 2000000 in
theorem param_any {w : World} {base g : Nat} {bv : Value} {B : List Nat} {s : Option Nat} (h : InAt w base g bv B s) (hB : B.length ≤ 1000000) :
    Calls Try.prog 43 #[ptr g] w fun e w' => ∃ u, e = .returned (.agg #[.int .i64 (paramS B s).2.1, u]) ∧ OB w' w.heap.size u (paramS B s).2.2 ∧ InAt w' base g bv B (paramS B s).1 ∧ KeepBut (· = g) w w' := by
  obtain ⟨r1, hr1⟩ : ∃ r, r = numS B s 2 := ⟨_, rfl⟩
  obtain ⟨r2, hr2⟩ : ∃ r, r = numS B r1.1 2 := ⟨_, rfl⟩
  obtain ⟨s3, hs3⟩ : ∃ x, x = (if (4000 : Int) < (r2.2 : Int) - 4 then none else r2.1) := ⟨_, rfl⟩
  obtain ⟨r4, hr4⟩ : ∃ r, r = takeS B s3 ((r2.2 : Int) - 4) := ⟨_, rfl⟩
  have HE : Hid (paramS B s = (padS B r4.1, ((r1.2 : Int), r4.2))) := by
    show _ = _
    unfold paramS
    rw [hr4, hs3, hr2, hr1]
  rw [HE.out]
  have l1 : r1.2 < 65536 := by rw [hr1]; exact numS2_lt h.own.all s
  have l2 : r2.2 < 65536 := by rw [hr2]; exact numS2_lt h.own.all _
  have HH : Hid (InAt w base g bv B s ∧ B.length ≤ 1000000 ∧ g < w.heap.size) := ⟨h, hB, h.lt⟩
  have H1 : Hid (r1 = numS B s 2) := hr1
  have H2 : Hid (r2 = numS B r1.1 2) := hr2
  have H3 : Hid (s3 = (if (4000 : Int) < (r2.2 : Int) - 4 then none else r2.1)) := hs3
  have H4 : Hid (r4 = takeS B s3 ((r2.2 : Int) - 4)) := hr4
  clear h hB hr1 hr2 hs3 hr4
  have w1x : IntKind.i64.wrap (r1.2 : Int) = (r1.2 : Int) := by rw [IntKind.wrap_i64]; omega
  have w2x : IntKind.i64.wrap (r2.2 : Int) = (r2.2 : Int) := by rw [IntKind.wrap_i64]; omega
  have w3x : IntKind.i64.wrap ((r2.2 : Int) - 4) = (r2.2 : Int) - 4 := by rw [IntKind.wrap_i64]; omega
  obtain ⟨x1, hx1⟩ : ∃ x, x = r1.2 := ⟨_, rfl⟩
  obtain ⟨x2, hx2⟩ : ∃ x, x = r2.2 := ⟨_, rfl⟩
  have HX : Hid (x1 = r1.2 ∧ x2 = r2.2) := ⟨hx1, hx2⟩
  rw [← hx1] at l1 w1x
  rw [← hx2] at l2 w2x w3x H3 H4
  clear hx1 hx2
  obtain ⟨d, hd⟩ : ∃ d : Int, d = (x2 : Int) - 4 := ⟨_, rfl⟩
  have HD : Hid (d = (x2 : Int) - 4) := hd
  have hd2 : (x2 : Int) - 4 = d := hd.symm
  rw [hd2] at w3x H3 H4
  have w4x : wrap64 d = d := by unfold wrap64; omega
  clear hd
  by_cases hbig : 4000 < d
  · have hdb : decide (d > 4000) = true := decide_eq_true hbig
    have HS3 : Hid (s3 = none) := show _ = _ by rw [H3.out, if_pos hbig]
    clear hbig
    go_enter Try.func43, Try.ntmps43
    go_wp2_with (first
      | (refine wl_alloc rfl rfl zeroP ?_; intro w1 hb1 he1 hx; clear hx; have HP : Hid (Blk w1 w.heap.size #[.int .i64 0, .slice none 0 0] 75 ∧ Ext w w1) := ⟨hb1, he1⟩; clear hb1 he1)
      | (go_at_call 17; have q := hk2; clear q; refine (inNum_any hi2 HH.out.2.1 2).mono ?_; rintro e w3 ⟨rfl, hi3, hk3⟩; rw [← H2.out] at hi3 ⊢; rw [← HX.out.2])
      | (go_at_call 17; refine (inNum_any (HH.out.1.ext HP.out.2) HH.out.2.1 2).mono ?_; rintro e w2 ⟨rfl, hi2, hk2⟩; rw [← H1.out] at hi2 ⊢; rw [← HX.out.1])
      | (go_at_call 38; refine (fail_any hi3).mono ?_; rintro e w4 ⟨⟨y4, rfl⟩, hi4, hk4⟩; rw [← HS3.out] at hi4)
      | (go_at_call 19; refine (inTake_any hi4 HH.out.2.1 d).mono ?_; rintro e w5 ⟨a5, m5, c5, rfl, hm5, ho5, hi5, hk5⟩; rw [← H4.out] at hi5 ho5; have HM : Hid (m5 = r4.2.length) := (show _ = _ by rw [H4.out]; exact hm5); clear hm5)
      | (go_at_call 20; refine (inPad_any hi5 HH.out.2.1).mono ?_; rintro e w6 ⟨⟨y6, rfl⟩, hi6, hk6⟩)
      | (have hb6 := (((((HP.out.1.but hk2 (show ¬ _ = _ by have := HH.out.2.2; omega)).but hk3 (show ¬ _ = _ by have := HH.out.2.2; omega)).but hk4 (show ¬ _ = _ by have := HH.out.2.2; omega)).but hk5 (show ¬ _ = _ by have := HH.out.2.2; omega)).but hk6 (show ¬ _ = _ by have := HH.out.2.2; omega)); refine wl_store (D := #[.int .i64 (x1 : Int), .slice a5 m5 c5]) rfl rowP rfl rfl rfl hb6 rfl rfl (one_par _ _ rfl) ?_; intro w7 hb7 hk7 hx; clear hx))
    refine bodyPost_ret (v := .agg #[.int .i64 (x1 : Int), .slice a5 m5 c5]) (results_cell_row (fn := Try.f43) (p := 2) (by rfl) _ _ w.heap.size 75 _ (0, 0) _ rfl hb7 Try.underlying75 rfl rfl) rfl ?_
    have hk := (((KeepBut.ext HP.out.2).trans hk2).trans hk3)
    replace hk := hk.trans hk4
    have ho6 := (ho5.base hk.size).but hk6 (fun k e => by have := (ho5.lt e).1; have := HH.out.2.2; have := hk.size; show ¬ _ = _; omega)
    exact ⟨_, by rw [HX.out.1], ho6.but hk7 (ho6.ne hb6 (by decide)), hi6.but hk7 (show ¬ _ = _ by have := HH.out.2.2; omega) (hi6.own.ne hb6 (by decide)), keep_new ((hk.trans hk5).trans hk6) hk7 (Nat.le_refl _)⟩
  · have hdb : decide (d > 4000) = false := decide_eq_false hbig
    have HS3 : Hid (s3 = r2.1) := show _ = _ by rw [H3.out, if_neg hbig]
    clear hbig
    go_enter Try.func43, Try.ntmps43
    go_wp2_with (first
      | (refine wl_alloc rfl rfl zeroP ?_; intro w1 hb1 he1 hx; clear hx; have HP : Hid (Blk w1 w.heap.size #[.int .i64 0, .slice none 0 0] 75 ∧ Ext w w1) := ⟨hb1, he1⟩; clear hb1 he1)
      | (go_at_call 17; have q := hk2; clear q; refine (inNum_any hi2 HH.out.2.1 2).mono ?_; rintro e w3 ⟨rfl, hi3, hk3⟩; rw [← H2.out] at hi3 ⊢; rw [← HX.out.2]; rw [← HS3.out] at hi3)
      | (go_at_call 17; refine (inNum_any (HH.out.1.ext HP.out.2) HH.out.2.1 2).mono ?_; rintro e w2 ⟨rfl, hi2, hk2⟩; rw [← H1.out] at hi2 ⊢; rw [← HX.out.1])
      | (go_at_call 19; refine (inTake_any hi3 HH.out.2.1 d).mono ?_; rintro e w5 ⟨a5, m5, c5, rfl, hm5, ho5, hi5, hk5⟩; rw [← H4.out] at hi5 ho5; have HM : Hid (m5 = r4.2.length) := (show _ = _ by rw [H4.out]; exact hm5); clear hm5)
      | (go_at_call 20; refine (inPad_any hi5 HH.out.2.1).mono ?_; rintro e w6 ⟨⟨y6, rfl⟩, hi6, hk6⟩)
      | (have hb6 := ((((HP.out.1.but hk2 (show ¬ _ = _ by have := HH.out.2.2; omega)).but hk3 (show ¬ _ = _ by have := HH.out.2.2; omega)).but hk5 (show ¬ _ = _ by have := HH.out.2.2; omega)).but hk6 (show ¬ _ = _ by have := HH.out.2.2; omega)); refine wl_store (D := #[.int .i64 (x1 : Int), .slice a5 m5 c5]) rfl rowP rfl rfl rfl hb6 rfl rfl (one_par _ _ rfl) ?_; intro w7 hb7 hk7 hx; clear hx))
    refine bodyPost_ret (v := .agg #[.int .i64 (x1 : Int), .slice a5 m5 c5]) (results_cell_row (fn := Try.f43) (p := 2) (by rfl) _ _ w.heap.size 75 _ (0, 0) _ rfl hb7 Try.underlying75 rfl rfl) rfl ?_
    have hk := (((KeepBut.ext HP.out.2).trans hk2).trans hk3)
    have ho6 := (ho5.base hk.size).but hk6 (fun k e => by have := (ho5.lt e).1; have := HH.out.2.2; have := hk.size; show ¬ _ = _; omega)
    exact ⟨_, by rw [HX.out.1], ho6.but hk7 (ho6.ne hb6 (by decide)), hi6.but hk7 (show ¬ _ = _ by have := HH.out.2.2; omega) (hi6.own.ne hb6 (by decide)), keep_new ((hk.trans hk5).trans hk6) hk7 (Nat.le_refl _)⟩
end Tlv
end Go.Proofs.Ytmfciiccomagpaa
