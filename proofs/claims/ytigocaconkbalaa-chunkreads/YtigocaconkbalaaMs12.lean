/- Texts of the seat, one behind the other. No condition of its own. -/
import Derived.Test.YtigocaconkbalaaMs11
set_option linter.unusedVariables false
set_option linter.unusedSimpArgs false
set_option maxHeartbeats 32000000
set_option maxRecDepth 100000
namespace Go.Proofs.Ytigocaconkbalaa
namespace Tlv
open Go Go.RowKit
theorem gapNo_iff (c : Ck) (k : Nat) : gapNo c k = false ↔ (1 ≤ (c.gaps.getD k (0, 0)).1 ∧ (c.gaps.getD k (0, 0)).2 ≤ 65535 ∧ (c.gaps.getD k (0, 0)).1 ≤ (c.gaps.getD k (0, 0)).2 ∧ pvG (-1) c.gaps k + 2 ≤ (c.gaps.getD k (0, 0)).1) := by
 unfold gapNo gapB
 simp only [Bool.or_eq_false_iff, Bool.and_eq_false_iff, decide_eq_false_iff_not]
 by_cases hk : k = 0
 ·
  subst hk; simp only [pvG, if_true]; omega
 ·
  simp only [pvG, if_neg hk]; omega
theorem gaps_iff (c : Ck) : gapsB (-1) c.gaps = true ↔ ∀ k, k < c.gaps.length → gapNo c k = false := by
 rw [gapsB_iff _ _ (by omega)]
 exact ⟨fun h k hk => (gapNo_iff c k).2 (h k hk), fun h k hk => (gapNo_iff c k).1 (h k hk)⟩
theorem all_iff {α : Type} (f : α → Bool) (d : α) (L : List α) : L.all f = true ↔ ∀ k, k < L.length → f (L.getD k d) = true := by
 rw [List.all_eq_true]
 constructor
 ·
  intro h k hk
  rw [List.getD_eq_getElem?_getD, List.getElem?_eq_getElem hk]
  exact h _ (List.getElem_mem hk)
 ·
  intro h x hx
  obtain ⟨k, hk, rfl⟩ := List.getElem_of_mem hx
  have := h k hk
  rwa [List.getD_eq_getElem?_getD, List.getElem?_eq_getElem hk] at this
theorem refOpNo_iff (c : Ck) (k : Nat) : refOpNo c k = false ↔ opB (c.ops.getD k (0, 0)) = true := by
 unfold refOpNo refOpB opB opK
 generalize c.ops.getD k (0, 0) = p
 obtain ⟨x, y⟩ := p
 simp only
 cases hy : adB y
 ·
  simp
 ·
  by_cases h1 : x = 1
  ·
   simp [h1]
  ·
   by_cases h2 : x = 2
   ·
    simp [h2]
   ·
    by_cases h4 : x = 4 <;> simp [h1, h2, h4]
theorem ops_iff (c : Ck) : opsB c.ops = true ↔ ∀ k, k < c.ops.length → refOpNo c k = false := by
 unfold opsB
 rw [all_iff opB (0, 0)]
 exact ⟨fun h k hk => (refOpNo_iff c k).2 (h k hk), fun h k hk => (refOpNo_iff c k).1 (h k hk)⟩
theorem swB_iff (c : Ck) (s : Sv) (n : Nat) (hn : s.iN = n) : swB c s = false ↔ ((c.kind = 2 ∨ c.kind = 4 ∨ c.kind = 5 ∨ c.kind = 10) → 1 ≤ n ∧ n ≤ 300) ∧ (c.kind = 15 → n = 32) ∧ (¬ (c.kind = 2 ∨ c.kind = 4 ∨ c.kind = 5 ∨ c.kind = 10) → c.kind ≠ 15 → n = 0) := by
 subst hn
 by_cases h : c.kind = 2 ∨ c.kind = 4 ∨ c.kind = 5 ∨ c.kind = 10
 ·
  have h15 : c.kind ≠ 15 := by omega
  by_cases h1 : s.iN < 1
  ·
   rw [sw_lo h h1]; simp only [Bool.true_eq_false, false_iff]; omega
  ·
   by_cases h2 : s.iN > 300
   ·
    rw [sw_hi h h2]; simp only [Bool.true_eq_false, false_iff]; omega
   ·
    rw [sw_ok h h1 h2]; simp only [true_iff]; omega
 ·
  by_cases h15 : c.kind = 15
  ·
   by_cases h1 : s.iN = 32
   ·
    rw [sw_15ok h15 h1]; simp only [true_iff]; omega
   ·
    rw [sw_15 h15 h1]; simp only [Bool.true_eq_false, false_iff]; omega
  ·
   by_cases h1 : s.iN > 0
   ·
    rw [sw_o (by omega) (by omega) (by omega) (by omega) h15 h1]; simp only [Bool.true_eq_false, false_iff]; omega
   ·
    rw [sw_ook (by omega) (by omega) (by omega) (by omega) h15 h1]; simp only [true_iff]; omega
theorem wrap_small {g d : Nat} (h1 : g ≤ 16) (h2 : d ≤ 16) : IntKind.i64.wrap ((g : Int) + (d : Int)) = (g : Int) + (d : Int) := by
 rw [IntKind.wrap_i64]; omega
theorem noG_yes {w : World} {c : Ck} {s : Sv} (ha : CkAt w s c) (hn : ¬ NoG c s) : Yes c := by
 have lt := (bytes_len ha.t).1
 have lr := (bytes_len ha.r).1
 have la := (nums_len ha.a).1
 have li := (bytes_len ha.i).1
 have lg := ha.g.len.1
 have ld : s.dN = c.dups.length := by have := (nums_len ha.d).1; rwa [ci_len] at this
 have lo := ha.o.len.1
 have h3 : ¬ _ := fun h => hn (.gd3 h)
 have h5 : ¬ _ := fun h => hn (.gd5 h)
 have h7 : ¬ _ := fun h => hn (.gd7 h)
 have h9 : ¬ _ := fun h => hn (.gd9 h)
 have h16 : ¬ _ := fun h => hn (.gd16 h)
 have h30 : ¬ _ := fun h => hn (.gd30 h)
 have h37 : ¬ _ := fun h => hn (.gd37 h)
 have hsw := (swB_iff c s _ li).1 (by cases h : swB c s with | true => exact absurd (.sw h) hn | false => rfl)
 have hads : adsB c.addrs = true := (all_iff adB 0 _).2 fun k hk => by
  cases h : adB (c.addrs.getD k 0) with
  | true => rfl
  | false => exact absurd (.addrs k hk h) hn
 have hgp : gapsB (-1) c.gaps = true := (gaps_iff c).2 fun k hk => by
  cases h : gapNo c k with
  | true => exact absurd (.gaps k hk h) hn
  | false => rfl
 have hop : opsB c.ops = true := (ops_iff c).2 fun k hk => by
  cases h : refOpNo c k with
  | true => exact absurd (.ops k hk h) hn
  | false => rfl
 clear hn
 simp only [gd3_0, gd3_1, gd3_2, gd3_3, gd5_0, gd5_1, gd5_2, gd5_3, gd7_0, gd7_1, gd7_2, gd7_3, gd7_4, gd7_5, gd7_6, gd7_7, gd7_8, gd9_0, gd9_1, gd9_2, gd9_3, gd9_4, gd16_0, gd16_1, gd16_2, gd16_3, gd16_4, gd16_5, gd16_6, gd16_7, gd16_8, gd30_0, gd30_1, gd30_2, gd37_0, gd37_1, gd37_2, gd37_3, gd37_4, gd37_5, gd37_6, gd37_7, gd37_8] at h3 h5 h7 h9 h16 h30 h37
 rw [lt] at h5
 rw [lr, la] at h7 h9
 rw [lg, ld] at h30
 rw [lo] at h37
 unfold blankB at h5
 rw [lt] at h5
 clear lt lr la li lg ld lo ha
 simp only [Bool.or_eq_true, Bool.and_eq_true, Bool.not_eq_true', Bool.and_eq_false_iff, Bool.or_eq_false_iff, decide_eq_true_eq, decide_eq_false_iff_not, beq_iff_eq, bne_iff_ne, beq_eq_false_iff_ne, ne_eq, not_or, not_and, Bool.not_eq_false, Bool.not_eq_true, Decidable.not_not] at h3 h5 h7 h9 h16 h30 h37
 obtain ⟨⟨⟨⟨k1, k2⟩, k3⟩, k4⟩, k5⟩ := h3
 refine ⟨k1, by omega, by omega, fun hk => ?_, fun hk => ?_, fun hk => ?_, fun hk => ?_, hads, ?_, ?_, ?_, hsw.1, hsw.2.1, hsw.2.2, fun hk => ?_, by omega, hgp, fun hk => ?_, fun hk => ?_, ?_, ?_, hop⟩
 ·
  have := h5.1 hk; omega
 ·
  have := h5.2 hk
  obtain ⟨⟨⟨⟨⟨⟨a1, a2⟩, a3⟩, a4⟩, a5⟩, a6⟩, a7⟩ := this
  exact ⟨by omega, by omega, by omega, a4, a5, a6, by omega⟩
 ·
  have := h7 hk; omega
 ·
  have := h9 (by omega); omega
 ·
  intro h; have := h16.1.1; omega
 ·
  intro h; have := h16.1.2; omega
 ·
  intro h; have := h16.2; omega
 ·
  have h1 := h30.1.1 hk
  rw [wrap_small (by omega) (by omega)] at h1
  omega
 ·
  have := h37.1.1.1 hk; omega
 ·
  have := h37.1.1.2 hk; omega
 ·
  intro h; have := h37.1.2; omega
 ·
  exact fun h => h37.2 h
theorem yes_noG {w : World} {c : Ck} {s : Sv} (ha : CkAt w s c) (y : Yes c) : ¬ NoG c s := by
 have lt := (bytes_len ha.t).1
 have lr := (bytes_len ha.r).1
 have la := (nums_len ha.a).1
 have li := (bytes_len ha.i).1
 have lg := ha.g.len.1
 have ld : s.dN = c.dups.length := by have := (nums_len ha.d).1; rwa [ci_len] at this
 have lo := ha.o.len.1
 intro hn
 obtain ⟨y1, y2, y3, y4, y5, y6, y7, y8, y9, y10, y11, y12, y13, y14, y15, y16, y17, y18, y19, y20, y21, y22⟩ := y
 cases hn with
 | gd3 h =>
  simp only [gd3_0, gd3_1, gd3_2, gd3_3, gd5_0, gd5_1, gd5_2, gd5_3, gd7_0, gd7_1, gd7_2, gd7_3, gd7_4, gd7_5, gd7_6, gd7_7, gd7_8, gd9_0, gd9_1, gd9_2, gd9_3, gd9_4, gd16_0, gd16_1, gd16_2, gd16_3, gd16_4, gd16_5, gd16_6, gd16_7, gd16_8, gd30_0, gd30_1, gd30_2, gd37_0, gd37_1, gd37_2, gd37_3, gd37_4, gd37_5, gd37_6, gd37_7, gd37_8] at h
  simp only [Bool.or_eq_true, Bool.not_eq_true', decide_eq_true_eq, y1, Bool.true_eq_false, false_or] at h
  omega
 | gd5 h =>
  simp only [gd3_0, gd3_1, gd3_2, gd3_3, gd5_0, gd5_1, gd5_2, gd5_3, gd7_0, gd7_1, gd7_2, gd7_3, gd7_4, gd7_5, gd7_6, gd7_7, gd7_8, gd9_0, gd9_1, gd9_2, gd9_3, gd9_4, gd16_0, gd16_1, gd16_2, gd16_3, gd16_4, gd16_5, gd16_6, gd16_7, gd16_8, gd30_0, gd30_1, gd30_2, gd37_0, gd37_1, gd37_2, gd37_3, gd37_4, gd37_5, gd37_6, gd37_7, gd37_8] at h
  unfold blankB at h
  rw [lt] at h
  by_cases hk : c.kind = 0
  ·
   have := y4 hk
   simp [hk] at h
   omega
  ·
   obtain ⟨a1, a2, a3, a4, a5, a6, a7⟩ := y5 hk
   simp [hk, a1, a2, a3, a4, a5, a6, a7] at h
 | gd7 h =>
  simp only [gd3_0, gd3_1, gd3_2, gd3_3, gd5_0, gd5_1, gd5_2, gd5_3, gd7_0, gd7_1, gd7_2, gd7_3, gd7_4, gd7_5, gd7_6, gd7_7, gd7_8, gd9_0, gd9_1, gd9_2, gd9_3, gd9_4, gd16_0, gd16_1, gd16_2, gd16_3, gd16_4, gd16_5, gd16_6, gd16_7, gd16_8, gd30_0, gd30_1, gd30_2, gd37_0, gd37_1, gd37_2, gd37_3, gd37_4, gd37_5, gd37_6, gd37_7, gd37_8] at h
  rw [lr, la] at h
  simp only [Bool.or_eq_true, Bool.and_eq_true, decide_eq_true_eq, beq_iff_eq] at h
  have := y6 h.1
  omega
 | gd9 h =>
  simp only [gd3_0, gd3_1, gd3_2, gd3_3, gd5_0, gd5_1, gd5_2, gd5_3, gd7_0, gd7_1, gd7_2, gd7_3, gd7_4, gd7_5, gd7_6, gd7_7, gd7_8, gd9_0, gd9_1, gd9_2, gd9_3, gd9_4, gd16_0, gd16_1, gd16_2, gd16_3, gd16_4, gd16_5, gd16_6, gd16_7, gd16_8, gd30_0, gd30_1, gd30_2, gd37_0, gd37_1, gd37_2, gd37_3, gd37_4, gd37_5, gd37_6, gd37_7, gd37_8] at h
  rw [lr, la] at h
  simp only [Bool.or_eq_true, Bool.and_eq_true, Bool.not_eq_true', Bool.or_eq_false_iff, decide_eq_true_eq, beq_eq_false_iff_ne, bne_iff_ne] at h
  have := y7 (by omega)
  omega
 | gd16 h =>
  simp only [gd3_0, gd3_1, gd3_2, gd3_3, gd5_0, gd5_1, gd5_2, gd5_3, gd7_0, gd7_1, gd7_2, gd7_3, gd7_4, gd7_5, gd7_6, gd7_7, gd7_8, gd9_0, gd9_1, gd9_2, gd9_3, gd9_4, gd16_0, gd16_1, gd16_2, gd16_3, gd16_4, gd16_5, gd16_6, gd16_7, gd16_8, gd30_0, gd30_1, gd30_2, gd37_0, gd37_1, gd37_2, gd37_3, gd37_4, gd37_5, gd37_6, gd37_7, gd37_8] at h
  simp only [Bool.or_eq_true, Bool.and_eq_true, Bool.not_eq_true', Bool.or_eq_false_iff, decide_eq_true_eq, beq_eq_false_iff_ne, bne_iff_ne] at h
  omega
 | gd30 h =>
  simp only [gd3_0, gd3_1, gd3_2, gd3_3, gd5_0, gd5_1, gd5_2, gd5_3, gd7_0, gd7_1, gd7_2, gd7_3, gd7_4, gd7_5, gd7_6, gd7_7, gd7_8, gd9_0, gd9_1, gd9_2, gd9_3, gd9_4, gd16_0, gd16_1, gd16_2, gd16_3, gd16_4, gd16_5, gd16_6, gd16_7, gd16_8, gd30_0, gd30_1, gd30_2, gd37_0, gd37_1, gd37_2, gd37_3, gd37_4, gd37_5, gd37_6, gd37_7, gd37_8] at h
  rw [lg, ld, wrap_small y16.1 y16.2] at h
  simp only [Bool.or_eq_true, Bool.and_eq_true, decide_eq_true_eq, bne_iff_ne] at h
  omega
 | gd37 h =>
  simp only [gd3_0, gd3_1, gd3_2, gd3_3, gd5_0, gd5_1, gd5_2, gd5_3, gd7_0, gd7_1, gd7_2, gd7_3, gd7_4, gd7_5, gd7_6, gd7_7, gd7_8, gd9_0, gd9_1, gd9_2, gd9_3, gd9_4, gd16_0, gd16_1, gd16_2, gd16_3, gd16_4, gd16_5, gd16_6, gd16_7, gd16_8, gd30_0, gd30_1, gd30_2, gd37_0, gd37_1, gd37_2, gd37_3, gd37_4, gd37_5, gd37_6, gd37_7, gd37_8] at h
  rw [lo] at h
  simp only [Bool.or_eq_true, Bool.and_eq_true, decide_eq_true_eq, beq_iff_eq, bne_iff_ne] at h
  rcases h with (h | h) | h
  ·
   omega
  ·
   omega
  ·
   exact h.2 (y21 h.1)
 | addrs k hk h => rw [(all_iff adB 0 _).1 y8 k hk] at h; cases h
 | sw h => rw [(swB_iff c s _ li).2 ⟨y12, y13, y14⟩] at h; cases h
 | gaps k hk h => rw [(gaps_iff c).1 y17 k hk] at h; cases h
 | ops k hk h => rw [(ops_iff c).1 y22 k hk] at h; cases h
theorem refGoodC {w : World} {c : Ck} {s : Sv} (ha : CkAt w s c) :
  Calls Try.prog 11 #[.agg (CV c s)] w fun e w' => e = .returned (.bool (goodB c)) ∧ Ext w w' := by
 refine (refGood_any ha).mono ?_
 rintro e w' ⟨h, he⟩
 refine ⟨?_, he⟩
 rcases h with ⟨hn, rfl⟩ | ⟨hn, rfl⟩
 ·
  have : goodB c = false := by
   cases h : goodB c with
   | false => rfl
   | true => exact absurd hn (yes_noG ha ((yes_iff c).2 ((goodB_iff c).1 h)))
  rw [this]
 ·
  rw [(goodB_iff c).2 ((yes_iff c).1 (noG_yes ha hn))]
theorem mul_byte (x b : Nat) (hx : x * 256 < 18446744073709551616) (hb : b < 256) : 256 * x + b < 18446744073709551616 := by omega
def NumIs (w : World) (bv : Value) (B : List Nat) (r : Option Nat × Nat) (e : Ending) (w' : World) : Prop :=
 ∃ v', e = .returned (.tuple #[v', .int .u64 (r.2 : Nat)]) ∧ RefV v' bv B r.1 ∧ Ext w w'
theorem refReadNum_any {w : World} {v bv : Value} {B : List Nat} {s : Option Nat} (hv : RefV v bv B s) (hb : BytesAt w bv B) (hB : B.length ≤ 1000000) (n : Int) :
  Calls Try.prog 84 #[v, .int .i64 n] w (NumIs w bv B (numS B s n)) := by
 have HT : Hid (∀ (x : Value) (w' : World), x = v → Ext w w' → Calls Try.prog 85 #[x, .int .i64 n] w' (TakeIs w' bv B (takeS B s n))) := fun x w' hx he => by subst hx; exact refTake_any hv (hb.ext he) hB n
 obtain ⟨a0, b0, hv0, ha0, hs0⟩ := hv
 have HA : Hid (AllB B) := hb.1
 obtain ⟨ba, bc, rfl, _, _⟩ := hb.form
 rename_i z1 z2
 clear z1 z2
 have hbv1 : (Value.slice ba B.length bc).oneCell' = true := rfl
 clear hb
 subst hv0
 cases hs : isSz n with
 | false =>
  have e : numS B s n = (none, 0) := by unfold numS; rw [hs]; rfl
  have hlen : (numB 0 n).length = 0 := (numB_nil 0 n).2 hs
  rw [e]
  clear e HT hs0
  go_enter Try.func84, Try.ntmps84
  go_wp2_with (first
   | (refine wl_box (C := #[.slice ba B.length bc, .int .i64 (a0 : Int), .bool b0]) rfl rfl rfl ?_; intro w1 hb1 he1 hx; clear hx)
   | (refine wl_alloc rfl rfl zeroI ?_; intro w2 hb2 he2 hx; clear hx)
   | (go_at_call 75; refine (refNum_any 0 n _).mono ?_; rintro e w3 ⟨na, nn, nc, rfl, hnn, ho3, he3⟩; rw [hlen] at hnn; subst hnn)
   | (refine wl_set (v := .bool true) rfl one4 rfl rfl rfl rfl rfl ((hb1.ext he2).ext he3) (by simp) ?_; intro w4 hb4 hk4 hx; clear hx)
   | (have q := hk4; clear q; refine wl_load rfl rowI rfl rfl hb4 rfl ?_)
   | (refine wl_store (D := #[.slice ba B.length bc, .int .i64 (a0 : Int), .bool true]) rfl rowI rfl rfl rfl ((hb2.ext he3).but hk4 (show ¬ _ = _ by have := hb1.lt; omega)) rfl rfl (one_in _ _ _ hbv1) ?_; intro w5 hb5 hk5 hx; clear hx))
  refine bodyPost_ret (res_two (fn := Try.f84) (p := 4) (u := 5) rfl _ _ rfl rfl hb5 Try.underlying98 (by kernel_rfl)) rfl ?_
  exact ⟨_, rfl, ⟨a0, true, rfl, ha0, rfl⟩, (((he1.trans he2).trans he3).of_but hk4 (fun k e => by subst e; exact Nat.le_refl _)).of_but hk5 (fun k e => by subst e; exact he1.size)⟩
 | true =>
  have e : numS B s n = ((takeS B s n).1, val (takeS B s n).2) := by unfold numS; rw [hs]; rfl
  have hlen : (numB 0 n).length ≠ 0 := fun h => by rw [(numB_nil 0 n).1 h] at hs; cases hs
  rw [e]
  have HR : Hid (AllB (takeS B s n).2 ∧ (takeS B s n).2.length ≤ 8) := ⟨takeS_all HA.out s n, takeS_8 (by rcases (isSz_iff n).1 hs with e | e | e | e <;> omega)⟩
  clear e hs0 HA
  obtain ⟨q0, hq0⟩ : ∃ q0, q0 = (numB 0 n).length := ⟨_, rfl⟩
  have hq1 : q0 ≠ 0 := by rw [hq0]; exact hlen
  have HQ0 : Hid (q0 = (numB 0 n).length) := hq0
  have hq2 : ((q0 : Int) == 0) = false := beq_false_of_ne (by omega)
  have hq3 : decide ((q0 : Int) = 0) = false := decide_eq_false (by omega)
  have hq4 : decide (q0 = 0) = false := decide_eq_false hq1
  clear hlen hq0
  generalize takeS B s n = r at *
  go_enter Try.func84, Try.ntmps84
  go_wp2_with (first
   | (refine wl_box (C := #[.slice ba B.length bc, .int .i64 (a0 : Int), .bool b0]) rfl rfl rfl ?_; intro w1 hb1 he1 hx; clear hx)
   | (refine wl_alloc rfl rfl zeroI ?_; intro w2 hb2 he2 hx; clear hx)
   | (go_at_call 75; refine (refNum_any 0 n _).mono ?_; rintro e w3 ⟨na, nn, nc, rfl, hnn, ho3, he3⟩; rw [← HQ0.out] at hnn; subst hnn)
   | (refine wl_load rfl rowI rfl rfl ((hb1.ext he2).ext he3) rfl ?_)
   | (go_at_call 85; refine (HT.out _ _ rfl ((he1.trans he2).trans he3)).mono ?_; rintro e w4 ⟨v4, oa, on, oc, rfl, ⟨a4, b4, rfl, ha4, hs4⟩, hon, ho4, he4⟩; have HN : Hid (on = r.2.length ∧ r.1 = (if b4 = true then none else some a4)) := ⟨hon, hs4⟩; clear hon hs4)
   | (refine wl_store (D := #[.slice ba B.length bc, .int .i64 (a4 : Int), .bool b4]) rfl rowI rfl rfl rfl (((hb1.ext he2).ext he3).ext he4) rfl rfl (one_in _ _ _ hbv1) ?_; intro w5 hb5 hk5 hx; clear hx))
  have HW : Hid (Blk w5 w.heap.size #[.slice ba B.length bc, .int .i64 (a4 : Int), .bool b4] 98 ∧ Blk w5 w1.heap.size #[.slice none 0 0, .int .i64 0, .bool false] 98 ∧ Ext w w5 ∧ w.heap.size ≤ w1.heap.size ∧ w.heap.size < w1.heap.size ∧ BytesAt w5 (.slice oa on oc) r.2) := ⟨hb5, ((hb2.ext he3).ext he4).but hk5 (show ¬ _ = _ by have := hb1.lt; omega), (((he1.trans he2).trans he3).trans he4).of_but hk5 (fun k e => by subst e; exact Nat.le_refl _), he1.size, hb1.lt, (ho4.but hk5 (fun k e e2 => by have := (ho4.lt e).1; have := hb1.lt; have := he2.size; have := he3.size; omega)).bytes⟩
  have hsn8 : on ≤ 8 := by rw [HN.out.1]; exact HR.out.2
  clear hb1 he1 hb2 he2 ho3 he3 ho4 he4 hb5 hk5
  obtain ⟨_, _, e3, _, hcell⟩ := HW.out.2.2.2.2.2.form
  have HL : Hid (∀ j, j < on → ∃ b off, oa = some ⟨b, off, none⟩ ∧ w5.cell? ⟨b, off + j, none⟩ = some (.int .u8 (r.2.getD j 0 : Nat))) := fun j hj => by
   cases e3
   exact hcell j (by rw [← HN.out.1]; exact hj)
  clear e3 hcell
  go_loopg [7, 8] on (fun gm x t wr => ∃ k : Nat, k ≤ on ∧ gm = on - k ∧ x = .int .u64 (val (r.2.take k) : Nat) ∧ t = .int .i64 (k : Int) ∧ wr = w5)
  case atStart => exact ⟨0, Nat.zero_le _, rfl, rfl, rfl, rfl⟩
  case round =>
   obtain ⟨k, hk, rfl, rfl, rfl, hw⟩ := hrel
   subst wr
   by_cases hlt : k < on
   ·
    have hd : decide ((k : Int) < (on : Int)) = true := decide_eq_true (by omega)
    obtain ⟨b, off, rfl, hc⟩ := HL.out k hlt
    have hkr : k < r.2.length := by rw [← HN.out.1]; exact hlt
    have HV : Hid (val (r.2.take (k + 1)) = 256 * val (r.2.take k) + r.2.getD k 0) := show _ = _ by rw [take_next r.2 0 k hkr, val_snoc]
    have hk8 : k < 8 := by omega
    have hx := val_take HR.out.1 HR.out.2 hkr
    have hb8 := HR.out.1.getD k
    generalize r.2.getD k 0 = b8 at *
    generalize val (r.2.take k) = x at *
    obtain ⟨q, hq⟩ : ∃ q, q = 256 * x + b8 := ⟨_, rfl⟩
    obtain ⟨p, hp⟩ : ∃ p, p = x * 256 := ⟨_, rfl⟩
    have hq64 : q < 18446744073709551616 := by rw [hq]; exact mul_byte x b8 hx hb8
    have hw0 : (256 : Int) * (x : Int) = (p : Int) := by omega
    have hw4 : (p : Int) + (b8 : Int) = (q : Int) := by omega
    have hw1 : IntKind.u64.wrap (p : Int) = (p : Int) := by rw [IntKind.wrap_u64]; exact Int.emod_eq_of_lt (by omega) (by omega)
    have hw2 : (p : Int) % 18446744073709551616 = (p : Int) := Int.emod_eq_of_lt (by omega) (by omega)
    have hw5 : IntKind.u64.wrap (q : Int) = (q : Int) := by rw [IntKind.wrap_u64]; exact Int.emod_eq_of_lt (by omega) (by omega)
    have hw6 : (q : Int) % 18446744073709551616 = (q : Int) := Int.emod_eq_of_lt (by omega) (by omega)
    rw [← hq] at HV
    clear hp hq hx hkr hq64
    go_wp2
    go_roundg (on - (k + 1))
    case measure => omega
    case rel => exact ⟨k + 1, by omega, rfl, by rw [HV.out], by simp, rfl⟩
   ·
    have hd : decide ((k : Int) < (on : Int)) = false := decide_eq_false (by omega)
    obtain rfl : k = on := by omega
    have HT2 : Hid (r.2.take k = r.2) := List.take_of_length_le (by rw [HN.out.1]; exact Nat.le_refl _)
    rw [HT2.out]
    go_wp2_with (first
     | (refine wl_load rfl rowI rfl rfl HW.out.1 rfl ?_)
     | (refine wl_store (D := #[.slice ba B.length bc, .int .i64 (a4 : Int), .bool b4]) rfl rowI rfl rfl rfl HW.out.2.1 rfl rfl (one_in _ _ _ hbv1) ?_; intro w6 hb6 hk6 hx; clear hx))
    refine bodyPost_ret (res_two (fn := Try.f84) (p := 4) (u := 5) rfl _ _ rfl rfl hb6 Try.underlying98 (by kernel_rfl)) rfl ?_
    exact ⟨_, rfl, ⟨a4, b4, rfl, ha4, HN.out.2⟩, HW.out.2.2.1.of_but hk6 (fun k e => by subst e; exact HW.out.2.2.2.1)⟩
def RdQ (w : World) (q : Nat) (bv : Value) (B : List Nat) (s : Option Nat) : Prop := ∃ (a : Nat) (b : Bool), Blk w q #[bv, .int .i64 (a : Int), .bool b] 100 ∧ a ≤ B.length ∧ s = (if b = true then none else some a)
theorem RdQ.ext {w w' : World} {q : Nat} {bv : Value} {B : List Nat} {s : Option Nat} (h : RdQ w q bv B s) (he : Ext w w') : RdQ w' q bv B s := by
 obtain ⟨a, b, hb, h2⟩ := h
 exact ⟨a, b, hb.ext he, h2⟩
theorem docWord_any {w : World} {q : Nat} {bv : Value} {B : List Nat} {s : Option Nat} (h : RdQ w q bv B s) (hv : BytesAt w bv B) (hB : B.length ≤ 1000000) (n : Int) (hn : n = 2 ∨ n = 4) :
  Calls Try.prog 44 #[.pointer (some ⟨q, 0, none⟩), .int .i64 n] w fun e w' => e = .returned (.int .i64 ((numS B s n).2 : Nat)) ∧ RdQ w' q bv B (numS B s n).1 ∧ KeepBut (· = q) w w' := by
 obtain ⟨a, b, hb, ha, hs⟩ := h
 have hlt := numS_le hv.1 s n (by omega)
 have hone : bv.oneCell' = true := by obtain ⟨_, _, rfl, _⟩ := hv.form; rfl
 have HV : Hid (BytesAt w bv B ∧ B.length ≤ 1000000 ∧ bv.oneCell' = true) := ⟨hv, hB, hone⟩
 have HR : Hid (RefV (.agg #[bv, .int .i64 (a : Int), .bool b]) bv B s) := ⟨a, b, rfl, ha, hs⟩
 obtain ⟨X, hX⟩ : ∃ X, X = (numS B s n).2 := ⟨_, rfl⟩
 have HX : Hid (X = (numS B s n).2) := hX
 rw [← hX] at hlt ⊢
 have w1 : IntKind.i64.wrap (X : Int) = (X : Int) := by rw [IntKind.wrap_i64]; omega
 have w2 : wrap64 (X : Int) = (X : Int) := by unfold wrap64; omega
 have hlq : q < w.heap.size := hb.lt
 clear hv hB hone ha hs hX
 go_enter Try.func44, Try.ntmps44
 go_wp2_with (first
  | (have q_ := hb6; clear q_; refine wl_store (D := #[bv, .int .i64 (a4 : Int), .bool b4]) rfl rowI rfl rfl rfl hb6 rfl rfl (one_in _ _ _ HV.out.2.2) ?_; intro w7 hb7 hk7 hx; clear hx)
  | (have q_ := hb6; clear q_; refine wl_load rfl rowI rfl rfl hc6 rfl ?_)
  | (have q_ := HR4; clear q_; refine wl_alloc rfl rfl zeroI ?_; intro w5 hb5 he5 hx; clear hx; refine wl_store (D := #[bv, .int .i64 (a4 : Int), .bool b4]) rfl rowI rfl rfl rfl hb5 rfl rfl (one_in _ _ _ HV.out.2.2) ?_; intro w6 hc6 hk6 hx; clear hx; have he6 : Ext w3 w6 := he5.of_but hk6 (fun k e => by subst e; exact Nat.le_refl _); have hb6 := (hb.ext he3).ext he6; clear hb5 he5 hk6)
  | (go_at_call 84; refine (refReadNum_any HR.out HV.out.1 HV.out.2.1 n).mono ?_; rintro e w3 ⟨v4, rfl, hr4, he3⟩; rw [← HX.out]; obtain ⟨a4, b4, rfl, ha4, hs4⟩ := hr4; have HR4 : Hid (a4 ≤ B.length ∧ (numS B s n).1 = (if b4 = true then none else some a4)) := ⟨ha4, hs4⟩; clear ha4 hs4)
  | (refine wl_load rfl rowI rfl rfl hb rfl ?_))
 go_ret
 exact ⟨rfl, ⟨a4, b4, hb7, HR4.out.1, HR4.out.2⟩, (KeepBut.ext (he3.trans he6)).trans hk7⟩
structure RestW (w0 : World) (q : Nat) (bv : Value) (B : List Nat) (s : Option Nat) (a : Nat) (b : Bool) (L : Nat → Bool) (vs : Nat → Value) (wx : World) : Prop where
 ext : Ext w0 wx
 k0 : L 0 = true → vs 0 = .pointer (some ⟨q, 0, none⟩)
 k1 : L 1 = true → vs 1 = .pointer (some ⟨q, 0, none⟩)
 k2 : L 2 = true → vs 2 = .pointer (some ⟨q, 0, none⟩)
 k3 : L 3 = true → vs 3 = .agg #[bv, .int .i64 (a : Int), .bool b]
 k4 : L 4 = true → vs 4 = .pointer (some ⟨q, 0, none⟩)
 k5 : L 5 = true → vs 5 = .pointer (some ⟨q, 0, none⟩)
 k6 : L 6 = true → vs 6 = .pointer (some ⟨q, 0, none⟩)
 k7 : L 7 = true → vs 7 = .agg #[bv, .int .i64 (a : Int), .bool b]
 k8 : L 8 = true → vs 8 = .int .i64 ((leftS B s : Nat) : Int)
 k9 : L 9 = true → ∃ x y, vs 9 = .tuple #[x, y] ∧ RefV x bv B (rdRestS B s) ∧ (∃ ya yc, y = .slice ya (rdRest B s).length yc ∧ OB wx w0.heap.size y (rdRest B s)) ∧ (L 10 = true → vs 10 = .tuple #[x, y]) ∧ (L 11 = true → vs 11 = x) ∧ (L 12 = true → vs 12 = y) ∧ (L 15 = true → vs 15 = y)
 k13 : L 13 = true → ∃ g C, vs 13 = .pointer (some ⟨g, 0, none⟩) ∧ w0.heap.size ≤ g ∧ Blk wx g C 98 ∧ C.size = 3 ∧ (L 14 = true → vs 11 = .agg C)
 i10 : L 10 = true → L 9 = true
 i11 : L 11 = true → L 10 = true
 i12 : L 12 = true → L 10 = true
 i14 : L 14 = true → L 13 = true ∧ L 11 = true
 i15 : L 15 = true → L 12 = true
section
variable {w0 wx : World} {q a : Nat} {bv : Value} {B : List Nat} {s : Option Nat} {b : Bool} {L : Nat → Bool} {vs : Nat → Value}
theorem RestW.start (w0 : World) (vs : Nat → Value) : RestW w0 q bv B s a b (fun i => decide (16 ≤ i)) vs w0 :=
 ⟨Ext.refl _, fun h => by simp at h, fun h => by simp at h, fun h => by simp at h, fun h => by simp at h, fun h => by simp at h, fun h => by simp at h, fun h => by simp at h, fun h => by simp at h, fun h => by simp at h, fun h => by simp at h, fun h => by simp at h, fun h => by simp at h, fun h => by simp at h, fun h => by simp at h, fun h => by simp at h, fun h => by simp at h⟩
theorem RestW.grow (H : RestW w0 q bv B s a b L vs wx) {w' : World} (he : Ext wx w') : RestW w0 q bv B s a b L vs w' :=
 { H with ext := H.ext.trans he, k9 := fun h => by obtain ⟨x, y, e, h2, ⟨ya, yc, e2, ho⟩, h3⟩ := H.k9 h; exact ⟨x, y, e, h2, ⟨ya, yc, e2, ho.ext he⟩, h3⟩, k13 := fun h => by obtain ⟨g, C, e, hg, hB, hC⟩ := H.k13 h; exact ⟨g, C, e, hg, hB.ext he, hC⟩ }
theorem RestW.op0 (H : RestW w0 q bv B s a b L vs wx) : RestW w0 q bv B s a b (met1 L 0) (updV vs 0 (.pointer (some ⟨q, 0, none⟩))) wx := { H with k0 := fun _ => rfl }
theorem RestW.op1 (H : RestW w0 q bv B s a b L vs wx) : RestW w0 q bv B s a b (met1 L 1) (updV vs 1 (.pointer (some ⟨q, 0, none⟩))) wx := { H with k1 := fun _ => rfl }
theorem RestW.op2 (H : RestW w0 q bv B s a b L vs wx) : RestW w0 q bv B s a b (met1 L 2) (updV vs 2 (.pointer (some ⟨q, 0, none⟩))) wx := { H with k2 := fun _ => rfl }
theorem RestW.op4 (H : RestW w0 q bv B s a b L vs wx) : RestW w0 q bv B s a b (met1 L 4) (updV vs 4 (.pointer (some ⟨q, 0, none⟩))) wx := { H with k4 := fun _ => rfl }
theorem RestW.op5 (H : RestW w0 q bv B s a b L vs wx) : RestW w0 q bv B s a b (met1 L 5) (updV vs 5 (.pointer (some ⟨q, 0, none⟩))) wx := { H with k5 := fun _ => rfl }
theorem RestW.op6 (H : RestW w0 q bv B s a b L vs wx) : RestW w0 q bv B s a b (met1 L 6) (updV vs 6 (.pointer (some ⟨q, 0, none⟩))) wx := { H with k6 := fun _ => rfl }
theorem RestW.op3 (H : RestW w0 q bv B s a b L vs wx) : RestW w0 q bv B s a b (met1 L 3) (updV vs 3 (.agg #[bv, .int .i64 (a : Int), .bool b])) wx := { H with k3 := fun _ => rfl }
theorem RestW.op7 (H : RestW w0 q bv B s a b L vs wx) : RestW w0 q bv B s a b (met1 L 7) (updV vs 7 (.agg #[bv, .int .i64 (a : Int), .bool b])) wx := { H with k7 := fun _ => rfl }
theorem RestW.op8 (H : RestW w0 q bv B s a b L vs wx) : RestW w0 q bv B s a b (met1 L 8) (updV vs 8 (.int .i64 ((leftS B s : Nat) : Int))) wx := { H with k8 := fun _ => rfl }
theorem RestW.op9 (H0 : RestW w0 q bv B s a b L vs wx) (hl : L 9 = false) {w' : World} {x : Value} {ya : Option Addr} {yc : Nat} (hr : RefV x bv B (rdRestS B s)) (ho : OB w' w0.heap.size (.slice ya (rdRest B s).length yc) (rdRest B s)) (he : Ext wx w') : RestW w0 q bv B s a b (met1 L 9) (updV vs 9 (.tuple #[x, .slice ya (rdRest B s).length yc])) w' := by
 have H := H0.grow he
 have n10 : L 10 = false := by cases h : L 10 with | false => rfl | true => exact absurd ((H.i10 h).symm.trans hl) (by decide)
 have n11 : L 11 = false := by cases h : L 11 with | false => rfl | true => exact absurd ((H.i11 h).symm.trans n10) (by decide)
 have n12 : L 12 = false := by cases h : L 12 with | false => rfl | true => exact absurd ((H.i12 h).symm.trans n10) (by decide)
 have n15 : L 15 = false := by cases h : L 15 with | false => rfl | true => exact absurd ((H.i15 h).symm.trans n12) (by decide)
 exact { H with k9 := fun _ => ⟨x, _, rfl, hr, ⟨ya, yc, rfl, ho⟩, fun h => absurd (h.symm.trans n10) (by decide), fun h => absurd (h.symm.trans n11) (by decide), fun h => absurd (h.symm.trans n12) (by decide), fun h => absurd (h.symm.trans n15) (by decide)⟩, i10 := fun h => rfl }
theorem RestW.op10 (H : RestW w0 q bv B s a b L vs wx) (h9 : L 9 = true) (hl : L 10 = false) {v : Value} (hv : v = vs 9) : RestW w0 q bv B s a b (met1 L 10) (updV vs 10 v) wx := by
 subst hv
 exact { H with k9 := fun h => by obtain ⟨x1, y1, e1, h2, ho, h3, h4, h5, h6⟩ := H.k9 h; exact ⟨x1, y1, e1, h2, ho, fun _ => e1, h4, h5, h6⟩, i10 := fun _ => h9, i11 := fun _ => rfl, i12 := fun _ => rfl }
theorem RestW.op11 (H : RestW w0 q bv B s a b L vs wx) (h10 : L 10 = true) (hl : L 11 = false) {x y : Value} (hv : vs 9 = .tuple #[x, y]) : RestW w0 q bv B s a b (met1 L 11) (updV vs 11 x) wx := by
 have n14 : L 14 = false := by cases h : L 14 with | false => rfl | true => exact absurd ((H.i14 h).2.symm.trans hl) (by decide)
 exact { H with k9 := fun h => by obtain ⟨x1, y1, e1, h2, ho, h3, h4, h5, h6⟩ := H.k9 h; exact ⟨x1, y1, e1, h2, ho, h3, fun _ => by have := hv.symm.trans e1; simp at this; exact this.1, h5, h6⟩, k13 := fun h => by obtain ⟨g, C, e, hg, hB, hC, hc⟩ := H.k13 h; exact ⟨g, C, e, hg, hB, hC, fun h => absurd (h.symm.trans n14) (by decide)⟩, i11 := fun _ => h10, i14 := fun h => ⟨(H.i14 h).1, rfl⟩ }
theorem RestW.op12 (H : RestW w0 q bv B s a b L vs wx) (h10 : L 10 = true) {x y : Value} (hv : vs 9 = .tuple #[x, y]) : RestW w0 q bv B s a b (met1 L 12) (updV vs 12 y) wx := by
 exact { H with k9 := fun h => by obtain ⟨x1, y1, e1, h2, ho, h3, h4, h5, h6⟩ := H.k9 h; exact ⟨x1, y1, e1, h2, ho, h3, h4, fun _ => by have := hv.symm.trans e1; simp at this; exact this.2, h6⟩, i12 := fun _ => h10, i15 := fun _ => rfl }
theorem RestW.op15 (H : RestW w0 q bv B s a b L vs wx) (h12 : L 12 = true) {v : Value} (hv : v = vs 12) : RestW w0 q bv B s a b (met1 L 15) (updV vs 15 v) wx := by
 subst hv
 exact { H with k9 := fun h => by obtain ⟨x1, y1, e1, h2, ho, h3, h4, h5, h6⟩ := H.k9 h; exact ⟨x1, y1, e1, h2, ho, h3, h4, h5, fun _ => h5 h12⟩, i15 := fun _ => h12 }
theorem RestW.op13 (H0 : RestW w0 q bv B s a b L vs wx) (hl : L 13 = false) : RestW w0 q bv B s a b (met1 L 13) (updV vs 13 (.pointer (some ⟨wx.heap.size, 0, none⟩))) (wx.alloc (.cells #[.slice none 0 0, .int .i64 0, .bool false] 98)) := by
 have H := H0.grow (Ext.alloc wx (.cells #[.slice none 0 0, .int .i64 0, .bool false] 98))
 have n14 : L 14 = false := by cases h : L 14 with | false => rfl | true => exact absurd ((H.i14 h).1.symm.trans hl) (by decide)
 exact { H with k13 := fun _ => ⟨wx.heap.size, _, rfl, H0.ext.size, Blk.new _ _ _, rfl, fun h => absurd (h.symm.trans n14) (by decide)⟩, i14 := fun h => ⟨rfl, (H.i14 h).2⟩ }
theorem RestW.op14 (H : RestW w0 q bv B s a b L vs wx) (h13 : L 13 = true) (h11 : L 11 = true) {g : Nat} {C D : Array Value} (e : vs 13 = .pointer (some ⟨g, 0, none⟩)) (hB : Blk wx g C 98) (hC : C.size = 3) (hD : vs 11 = .agg D) (hDs : D.size = 3) : RestW w0 q bv B s a b (met1 L 14) (updV vs 14 undef) (wx.setRow g (putIn C 0 D.toList)) := by
 rw [putIn_all C D (by rw [hC, hDs])]
 obtain ⟨g', C', e', hg, _⟩ := H.k13 h13
 rw [e] at e'
 simp at e'
 subst e'
 have hk : KeepBut (· = g) wx (wx.setRow g D) := KeepBut.row _ _ _
 exact { H with ext := H.ext.of_but hk (fun k e => by subst e; exact hg), k9 := fun h => by obtain ⟨x1, y1, e1, h2, ⟨ya, yc, e2, ho⟩, h3⟩ := H.k9 h; exact ⟨x1, y1, e1, h2, ⟨ya, yc, e2, ho.but hk (fun p hp e3 => by subst e3; exact ho.ne hB (by decide) _ hp rfl)⟩, h3⟩, k13 := fun _ => ⟨g, _, e, hg, hB.row _, hDs, fun _ => hD⟩, i14 := fun _ => ⟨h13, h11⟩ }
end
theorem docRest_any {w : World} {q : Nat} {bv : Value} {B : List Nat} {s : Option Nat} (h : RdQ w q bv B s) (hv : BytesAt w bv B) (hB : B.length ≤ 1000000) :
  Calls Try.prog 45 #[.pointer (some ⟨q, 0, none⟩)] w fun e w' => ∃ ya yc, e = .returned (.slice ya (rdRest B s).length yc) ∧ OB w' w.heap.size (.slice ya (rdRest B s).length yc) (rdRest B s) ∧ RdQ w' q bv B (rdRestS B s) ∧ KeepBut (· = q) w w' := by
 obtain ⟨a, b, hb, ha, hs⟩ := h
 have hone : bv.oneCell' = true := by obtain ⟨_, _, rfl, _⟩ := hv.form; rfl
 have HV : Hid (BytesAt w bv B ∧ B.length ≤ 1000000 ∧ bv.oneCell' = true) := ⟨hv, hB, hone⟩
 have HR : Hid (RefV (.agg #[bv, .int .i64 (a : Int), .bool b]) bv B s) := ⟨a, b, rfl, ha, hs⟩
 have hlq : q < w.heap.size := hb.lt
 have HB : Hid (Blk w q #[bv, .int .i64 (a : Int), .bool b] 100) := hb
 clear hv hB hone ha hs hb
 go_enter Try.func45, Try.ntmps45
 refine wp_seq_k (fun K hK => ?_)
 have HK := Stop.mk hK
 clear hK
 go_wp2
 refine HK.go _ _ ?_
 clear HK
 refine wp_seq_k (fun K2 hK => ?_)
 have HK2 := Stop.mk hK
 clear hK
 refine wp_region_W (RestW w.drew q bv B s a b) (fun t => bif Nat.ble 6 t && Nat.ble t 15 then some (t - 6) else bif Nat.beq t 5 then some 10 else bif Nat.ble 16 t && Nat.ble t 17 then some (t - 5) else bif Nat.beq t 3 then some 13 else bif Nat.beq t 4 then some 15 else none) 23 rfl (by kernel_rfl) rfl (fun vs => RestW.start _ _) ?_ ?_
 ·
  refine Ow ⟨rfl, ?_⟩ (Ow ⟨rfl, ?_⟩ (Ow ⟨rfl, ?_⟩ (Ow ⟨rfl, ?_⟩ (Ow ⟨rfl, ?_⟩ (Ow ⟨rfl, ?_⟩ (Ow ⟨rfl, ?_⟩ (Ow ⟨rfl, ?_⟩ (Ow ⟨rfl, ?_⟩ (Ow ⟨rfl, ?_⟩ (Ow ⟨rfl, ?_⟩ (Ow ⟨rfl, ?_⟩ (Ow ⟨rfl, ?_⟩ (Ow ⟨rfl, ?_⟩ (Ow ⟨rfl, ?_⟩ (Ow ⟨rfl, ?_⟩ OwedVs.nil)))))))))))))))
  ·
   rintro L vs wx r H hl hL ⟨h1, _⟩
   replace h1 : r (.tmp 0) = .pointer (some ⟨q, 0, none⟩) := h1
   exact gvo (by simp [execOp, h1, go_sem]) H.op0
  ·
   rintro L vs wx r H hl hL ⟨h1, _⟩
   replace h1 : r (.tmp 6) = .pointer (some ⟨q, 0, none⟩) := Eq.trans h1 (H.k0 (hL 0 (by kernel_rfl)))
   exact gvo (by simp [execOp, h1, go_sem]) H.op1
  ·
   rintro L vs wx r H hl hL ⟨h1, _⟩
   replace h1 : r (.tmp 7) = .pointer (some ⟨q, 0, none⟩) := Eq.trans h1 (H.k1 (hL 1 (by kernel_rfl)))
   exact gvo (by simp [execOp, h1, go_sem]) H.op2
  ·
   rintro L vs wx r H hl hL ⟨h1, _⟩
   replace h1 : r (.tmp 8) = .pointer (some ⟨q, 0, none⟩) := Eq.trans h1 (H.k2 (hL 2 (by kernel_rfl)))
   exact gvo (exec_loadW rowI rfl h1 (HB.out.ext ((Ext.drew _).trans H.ext)) rfl) H.op3
  ·
   rintro L vs wx r H hl hL ⟨h1, _⟩
   replace h1 : r (.tmp 0) = .pointer (some ⟨q, 0, none⟩) := h1
   exact gvo (by simp [execOp, h1, go_sem]) H.op4
  ·
   rintro L vs wx r H hl hL ⟨h1, _⟩
   replace h1 : r (.tmp 10) = .pointer (some ⟨q, 0, none⟩) := Eq.trans h1 (H.k4 (hL 4 (by kernel_rfl)))
   exact gvo (by simp [execOp, h1, go_sem]) H.op5
  ·
   rintro L vs wx r H hl hL ⟨h1, _⟩
   replace h1 : r (.tmp 11) = .pointer (some ⟨q, 0, none⟩) := Eq.trans h1 (H.k5 (hL 5 (by kernel_rfl)))
   exact gvo (by simp [execOp, h1, go_sem]) H.op6
  ·
   rintro L vs wx r H hl hL ⟨h1, _⟩
   replace h1 : r (.tmp 12) = .pointer (some ⟨q, 0, none⟩) := Eq.trans h1 (H.k6 (hL 6 (by kernel_rfl)))
   exact gvo (exec_loadW rowI rfl h1 (HB.out.ext ((Ext.drew _).trans H.ext)) rfl) H.op7
  ·
   rintro L vs wx r H hl hL ⟨h1, h2, _⟩
   replace h1 : r (.func 86) = .func (.func 86) #[] #[] := h1
   replace h2 : r (.tmp 13) = .agg #[bv, .int .i64 (a : Int), .bool b] := Eq.trans h2 (H.k7 (hL 7 (by kernel_rfl)))
   refine give_func #[.agg #[bv, .int .i64 (a : Int), .bool b]] rfl h1 Try.call86 (by simp [h2]) ?_
   refine (refLeft_any HR.out (HV.out.1.ext ((Ext.drew _).trans H.ext)) HV.out.2.1).mono ?_
   rintro e w' ⟨rfl, he⟩
   exact ⟨_, rfl, (H.grow he).op8⟩
  ·
   rintro L vs wx r H hl hL ⟨h1, h2, h3, _⟩
   replace h1 : r (.func 85) = .func (.func 85) #[] #[] := h1
   replace h2 : r (.tmp 9) = .agg #[bv, .int .i64 (a : Int), .bool b] := Eq.trans h2 (H.k3 (hL 3 (by kernel_rfl)))
   replace h3 : r (.tmp 14) = .int .i64 ((leftS B s : Nat) : Int) := Eq.trans h3 (H.k8 (hL 8 (by kernel_rfl)))
   refine give_func #[.agg #[bv, .int .i64 (a : Int), .bool b], .int .i64 ((leftS B s : Nat) : Int)] rfl h1 Try.call85 (by simp [h2, h3]) ?_
   refine (refTake_any HR.out (HV.out.1.ext ((Ext.drew _).trans H.ext)) HV.out.2.1 _).mono ?_
   rintro e w' ⟨v', ta, tn, tc, rfl, hr, hn, ho, he⟩
   subst hn
   exact ⟨_, rfl, H.op9 hl hr (ho.base H.ext.size) he⟩
  ·
   rintro L vs wx r H hl hL ⟨h1, _⟩
   replace h1 : r (.tmp 15) = vs 9 := h1
   exact give_move (.inl rfl) (H.op10 (hL 9 (by kernel_rfl)) hl h1)
  ·
   rintro L vs wx r H hl hL ⟨h1, _⟩
   replace h1 : r (.tmp 5) = vs 10 := h1
   have h10 := hL 10 (by kernel_rfl)
   obtain ⟨x1, y1, e1, _, _, h3, _⟩ := H.k9 (H.i10 h10)
   replace h1 := h1.trans (h3 h10)
   exact gvo (by simp [execOp, h1, go_sem]) (H.op11 h10 hl e1)
  ·
   rintro L vs wx r H hl hL ⟨h1, _⟩
   replace h1 : r (.tmp 5) = vs 10 := h1
   have h10 := hL 10 (by kernel_rfl)
   obtain ⟨x1, y1, e1, _, _, h3, _⟩ := H.k9 (H.i10 h10)
   replace h1 := h1.trans (h3 h10)
   exact gvo (by simp [execOp, h1, go_sem]) (H.op12 h10 e1)
  ·
   intro L vs wx r H hl hL hx
   exact gvo (exec_alloc wx rfl zeroI) (H.op13 hl)
  ·
   rintro L vs wx r H hl hL ⟨h1, h2, _⟩
   replace h1 : r (.tmp 3) = vs 13 := h1
   replace h2 : r (.tmp 16) = vs 11 := h2
   have h13 := hL 13 (by kernel_rfl)
   have h11 := hL 11 (by kernel_rfl)
   obtain ⟨g, C, e, hg, hB, hC, _⟩ := H.k13 h13
   obtain ⟨x1, y1, e1, hr, _, _, h4, _⟩ := H.k9 (H.i10 (H.i11 h11))
   obtain ⟨a4, b4, hx4, _⟩ := hr
   have e11 : vs 11 = .agg #[bv, .int .i64 (a4 : Int), .bool b4] := (h4 h11).trans hx4
   exact give_skip (exec_store rowI rfl (h1.trans e) (h2.trans e11) hB rfl (by rw [hC]; decide) (one_in _ _ _ HV.out.2.2)) (H.op14 h13 h11 e hB hC e11 rfl)
  ·
   rintro L vs wx r H hl hL ⟨h1, _⟩
   replace h1 : r (.tmp 17) = vs 12 := h1
   exact give_move (.inr rfl) (H.op15 (hL 12 (by kernel_rfl)) h1)
 ·
  intro vs a1 w1 H ha1
  obtain ⟨x, y, e9, hr, ⟨ya, yc, ey, ho⟩, e10, e11, e12, e15⟩ := H.k9 rfl
  obtain ⟨g, C, e13, hg, hBg, hs3, hC⟩ := H.k13 rfl
  clear hs3
  obtain ⟨a4, b4, rfl, ha4, hs4⟩ := hr
  subst ey
  have q5 : C = #[bv, .int .i64 (a4 : Int), .bool b4] := by have := (hC rfl).symm.trans (e11 rfl); simpa using this
  subst q5
  simp only [putAll, Act.put, H.k0 rfl, H.k1 rfl, H.k2 rfl, H.k3 rfl, H.k4 rfl, H.k5 rfl, H.k6 rfl, H.k7 rfl, H.k8 rfl, e9, e10 rfl, e11 rfl, e12 rfl, e13, e15 rfl, Nat.zero_add, Nat.reduceAdd, List.setIfInBounds_toArray, List.set_cons_succ, List.set_cons_zero] at ha1
  subst ha1
  have HE : Hid (Ext w w1) := (Ext.drew _).trans H.ext
  have HO : Hid (OB w1 w.heap.size (.slice ya (rdRest B s).length yc) (rdRest B s)) := ho
  have HS : Hid (a4 ≤ B.length ∧ rdRestS B s = (if b4 = true then none else some a4)) := ⟨ha4, hs4⟩
  have hb1 := HB.out.ext HE.out
  have hgq : Hid (w.heap.size ≤ g) := hg
  clear H e9 e10 e11 e12 e13 e15 ho hC ha4 hs4 hg
  refine HK2.go _ _ ?_
  clear HK2
  go_wp2_with (first
   | (have q_ := hb1; clear q_; refine wl_store (D := #[bv, .int .i64 (a4 : Int), .bool b4]) rfl rowI rfl rfl rfl hb1 rfl rfl (one_in _ _ _ HV.out.2.2) ?_; intro w7 hb7 hk7 hx; clear hx)
   | (refine wl_load rfl rowI rfl rfl hBg rfl ?_))
  go_ret
  exact ⟨ya, yc, rfl, HO.out.but hk7 (fun p hp e => by subst e; have := (HO.out.lt hp).1; omega), ⟨a4, b4, hb7, HS.out.1, HS.out.2⟩, (KeepBut.ext HE.out).trans hk7⟩
theorem docFour_any {w : World} {v : Value} {m : List Nat} (hv : BytesAt w v m) (hm : m.length ≤ 1000000) :
  Calls Try.prog 87 #[v] w fun e w' => e = .returned (.int .i64 (if m.length = 4 then addrV m else 0)) ∧ Ext w w' := by
 obtain ⟨ba, bc, rfl, _, _⟩ := hv.form
 rename_i z1 z2
 clear z1 z2
 have HV : Hid (BytesAt w (.slice ba m.length bc) m ∧ m.length ≤ 1000000) := ⟨hv, hm⟩
 by_cases h4 : m.length = 4
 ·
  rw [if_pos h4]
  have hlt := numS_le hv.1 (some 0) 4 (by omega)
  have HL4 : Hid (m.length = 4) := h4
  obtain ⟨X, hX⟩ : ∃ X, X = (numS m (some 0) 4).2 := ⟨_, rfl⟩
  have HX : Hid (X = (numS m (some 0) 4).2) := hX
  rw [← hX] at hlt
  have e0 : addrV m = (X : Int) := by unfold addrV; rw [hX]
  rw [e0]
  have w1 : IntKind.i64.wrap (X : Int) = (X : Int) := by rw [IntKind.wrap_i64]; omega
  have w2 : wrap64 (X : Int) = (X : Int) := by unfold wrap64; omega
  rw [h4] at HV
  rw [h4]
  clear hv hm hX e0 h4
  go_enter Try.func87, Try.ntmps87
  go_wp2_with (first
   | (have q_ := HR4; clear q_; refine wl_alloc rfl rfl zeroI ?_; intro w5 hb5 he5 hx; clear hx; refine wl_store (D := #[.slice ba 4 bc, .int .i64 (a4 : Int), .bool b4]) rfl rowI rfl rfl rfl hb5 rfl rfl (one_in _ _ _ rfl) ?_; intro w6 hc6 hk6 hx; clear hx; have he6 : Ext w3 w6 := he5.of_but hk6 (fun k e => by subst e; exact Nat.le_refl _); clear hb5 he5 hk6)
   | (go_at_call 84; refine (refReadNum_any (s := some 0) ⟨0, false, rfl, Nat.zero_le _, rfl⟩ HV.out.1 (by have := HL4.out; omega) 4).mono ?_; rintro e w3 ⟨v4, rfl, hr4, he3⟩; rw [← HX.out]; obtain ⟨a4, b4, rfl, ha4, hs4⟩ := hr4; have HR4 : Hid (a4 ≤ m.length) := ha4; clear ha4 hs4))
  go_ret
  exact ⟨rfl, he3.trans he6⟩
 ·
  rw [if_neg h4]
  obtain ⟨n, hn⟩ : ∃ n, n = m.length := ⟨_, rfl⟩
  rw [← hn] at h4 ⊢
  have hb : ((n : Int) != 4) = true := bne_iff_ne.2 (by omega)
  clear hv hm HV hn
  go_enter Try.func87, Try.ntmps87
  go_wp2
  go_ret
  exact ⟨rfl, Ext.refl _⟩
theorem zeroCd : (Try.prog.info? 32).bind (·.zero) = some (.agg (CV (ck0 0) sv0)) := by kernel_rfl
theorem zeroPd : (Try.prog.info? 85).bind (·.zero) = some (.agg #[.int .i64 0, .slice none 0 0]) := by kernel_rfl
theorem rowPd : RowT Try.prog 85 2 := ⟨⟨_, Try.underlying85, rfl⟩, by kernel_rfl⟩
theorem withK_r {x : Int} {n i : Nat} {d : Ck} {K : Int} {m : List Nat} (h : x = 1 ∨ x = 2) (hi : i = 0) (hK : K = 32770) : withK x n i d (K, m) = some { d with rand := m } := by
 unfold withK; rw [if_pos ⟨h, hi, hK⟩]
theorem withK_a {x : Int} {n i : Nat} {d : Ck} {K : Int} {m : List Nat} (h : x = 1 ∨ x = 2) (hi : 0 < i) (hK : K = 5) : withK x n i d (K, m) = some { d with addrs := d.addrs ++ [fourV m] } := by
 unfold withK; rw [if_neg (fun e => by have := e.2.1; omega), if_pos ⟨h, hi, hK⟩]
theorem withK_7 {x : Int} {n i : Nat} {d : Ck} {K : Int} {m : List Nat} (h : x = 2) (hi : 0 < i) (hn : i + 1 = n) (hK : K = 7) : withK x n i d (K, m) = some { d with info := m } := by
 unfold withK; rw [if_neg (fun e => by have := e.2.1; omega), if_neg (fun e => absurd (hK.symm.trans e.2.2) (by decide)), if_pos ⟨h, hi, hn, hK⟩]
theorem withK_1 {x : Int} {n i : Nat} {d : Ck} {K : Int} {m : List Nat} (h : x = 4 ∨ x = 5) (hi : i = 0) (hn : i + 1 = n) (hK : K = 1) : withK x n i d (K, m) = some { d with info := m } := by
 unfold withK; rw [if_neg (fun e => by have := e.1; omega), if_neg (fun e => by have := e.1; omega), if_neg (fun e => by have := e.1; omega), if_pos ⟨h, hi, hn, hK⟩]
theorem withK_o {x : Int} {n i : Nat} {d : Ck} {K : Int} {m : List Nat} (h : x = 193) : withK x n i d (K, m) = some { d with ops := d.ops ++ [(K - 49152, fourV m)] } := by
 unfold withK; rw [if_neg (fun e => by have := e.1; omega), if_neg (fun e => by have := e.1; omega), if_neg (fun e => by have := e.1; omega), if_neg (fun e => by have := e.1; omega), if_pos h]
theorem withK_no {x : Int} {n i : Nat} {d : Ck} {K : Int} {m : List Nat} (h1 : ¬ ((x = 1 ∨ x = 2) ∧ i = 0 ∧ K = 32770)) (h2 : ¬ ((x = 1 ∨ x = 2) ∧ 0 < i ∧ K = 5)) (h3 : ¬ (x = 2 ∧ 0 < i ∧ i + 1 = n ∧ K = 7)) (h4 : ¬ ((x = 4 ∨ x = 5) ∧ i = 0 ∧ i + 1 = n ∧ K = 1)) (h5 : ¬ x = 193) : withK x n i d (K, m) = none := by
 unfold withK; rw [if_neg h1, if_neg h2, if_neg h3, if_neg h4, if_neg h5]
theorem withS_step {x : Int} {n k : Nat} {d e : Ck} {p : Par} {L : List Par} (h : withK x n k d p = some e) : withS x n k d (p :: L) = withS x n (k + 1) e L := by rw [withS, h]
theorem withS_fail {x : Int} {n k : Nat} {d : Ck} {p : Par} {L : List Par} (h : withK x n k d p = none) : withS x n k d (p :: L) = none := by rw [withS, h]
structure ListsQ (B0 : Nat) (w : World) (s : Sv) (c : Ck) : Prop where
 t : OB w B0 (.slice s.tA s.tN s.tC) c.text
 r : OB w B0 (.slice s.rA s.rN s.rC) c.rand
 a : OwnN .i64 w B0 65 (.slice s.aA s.aN s.aC) c.addrs
 i : OB w B0 (.slice s.iA s.iN s.iC) c.info
 g : OwnP 70 w B0 (.slice s.gA s.gN s.gC) c.gaps
 d : OwnN .u32 w B0 22 (.slice s.dA s.dN s.dC) (ci c.dups)
 o : OwnP 71 w B0 (.slice s.oA s.oN s.oC) c.ops
theorem ListsQ.at {B0 : Nat} {w : World} {s : Sv} {c : Ck} (h : ListsQ B0 w s c) : CkAt w s c := ⟨h.t.bytes, h.r.bytes, h.a.nums, h.i.bytes, h.g.pairs, h.d.nums, h.o.pairs⟩
theorem ListsQ.ext {B0 : Nat} {w w' : World} {s : Sv} {c : Ck} (h : ListsQ B0 w s c) (he : Ext w w') : ListsQ B0 w' s c := ⟨h.t.ext he, h.r.ext he, h.a.ext he, h.i.ext he, h.g.ext he, h.d.ext he, h.o.ext he⟩
theorem ListsQ.but {B0 g : Nat} {w w' : World} {s : Sv} {c : Ck} {C : Array Value} (h : ListsQ B0 w s c) (hk : KeepBut (· = g) w w') (hb : Blk w g C 32) : ListsQ B0 w' s c :=
 ⟨h.t.but hk (h.t.ne hb (by decide)), h.r.but hk (h.r.ne hb (by decide)), h.a.mono_via hk (ownsRow_ne h.a.1 hb (by decide)), h.i.but hk (h.i.ne hb (by decide)), h.g.but hk (ownsRow_ne h.g.1 hb (by decide)), h.d.mono_via hk (ownsRow_ne h.d.1 hb (by decide)), h.o.but hk (ownsRow_ne h.o.1 hb (by decide))⟩
theorem lq0 (B0 : Nat) (w : World) (k : Int) : ListsQ B0 w sv0 (ck0 k) := ⟨OB.nil _ _, OB.nil _ _, OwnN.nil _ _ _ _, OB.nil _ _, OwnP.nil _ _ _, OwnN.nil _ _ _ _, OwnP.nil _ _ _⟩
structure WSt (B0 : Nat) (w0 w : World) (q q4 : Nat) (c : Ck) (Lp : List Par) (N k : Nat) (d : Ck) (z : Sv) : Prop where
 wq : WQ B0 w0 w q q4 d z
 kd : d.kind = c.kind
 ws : withS c.kind N 0 c Lp = withS c.kind N k d (Lp.drop k)
 la : d.addrs.length ≤ k
 lo : d.ops.length ≤ k
def WithIs (B0 : Nat) (w : World) (c : Ck) (Lp : List Par) (N : Nat) (e : Ending) (w' : World) : Prop :=
 Ext w w' ∧ ∃ d z b, e = .returned (.tuple #[.agg (CV d z), .bool b]) ∧ ListsQ B0 w' z d ∧ ((b = true ∧ withS c.kind N 0 c Lp = some d ∧ goodB d = true) ∨ (b = false ∧ d = ck0 0 ∧ z = sv0 ∧ ∀ d', withS c.kind N 0 c Lp = some d' → goodB d' = false))
theorem with_1 {B0 : Nat} {w : World} {c : Ck} {s : Sv} {la : Option Addr} {N lc : Nat} {Lp : List Par} (ha : ListsQ B0 w s c) (hB0 : B0 ≤ w.heap.size) (hkc : c.kind = 1) (hn : (s.aA = none ∧ s.aN = 0 ∧ s.aC = 0 ∧ c.addrs = []) ∧ s.oA = none ∧ s.oN = 0 ∧ s.oC = 0 ∧ c.ops = []) (hp : OwnL 85 w B0 (.slice la N lc) Lp) (hN : Lp.length ≤ 25000) (hg : ∀ p ∈ Lp, (0 ≤ p.1 ∧ p.1 ≤ 65535) ∧ p.2.length ≤ 1000000) :
  Calls Try.prog 47 #[.agg (CV c s), .slice la N lc] w (WithIs B0 w c Lp N) := by
 have hNL : N = Lp.length := hp.len
 have HB0 : Hid (B0 ≤ w.heap.size) := hB0
 have HP : Hid (OwnL 85 w B0 (.slice la N lc) Lp) := hp
 have HG : Hid (∀ p ∈ Lp, (0 ≤ p.1 ∧ p.1 ≤ 65535) ∧ p.2.length ≤ 1000000) := hg
 have HN : Hid (N = Lp.length) := hNL
 have HA : Hid (ListsQ B0 w s c ∧ OwnN .i64 w w.heap.size 65 (.slice s.aA s.aN s.aC) c.addrs ∧ OwnP 71 w w.heap.size (.slice s.oA s.oN s.oC) c.ops ∧ c.addrs.length = 0 ∧ c.ops.length = 0) := by
  obtain ⟨⟨e1, e2, e3, e4⟩, f1, f2, f3, f4⟩ := hn
  rw [e1, e2, e3, e4, f1, f2, f3, f4]
  exact ⟨ha, OwnN.nil _ _ _ _, OwnP.nil _ _ _, rfl, rfl⟩
 have hN2 : N ≤ 25000 := by omega
 have hs1 : wrap64 ((N : Int) - 1) = (N : Int) - 1 := by unfold wrap64; omega
 have hs2 : IntKind.i64.wrap ((N : Int) - 1) = (N : Int) - 1 := by rw [IntKind.wrap_i64]; omega
 have HKC : Hid (c.kind = 1) := hkc
 clear ha hn hp hN hg hNL hkc hB0
 go_enter Try.func47, Try.ntmps47
 go_wp2_with (first
  | (refine wl_box (C := CV c s) rfl rfl rfl ?_; intro w1 hb1 he1 hx; have HX1 : Hid (w1.heap.size = w.heap.size + 1) := hx; clear hx)
  | (refine wl_alloc rfl rfl zeroCd ?_; intro w2 hb2 he2 hx; clear hx; have HQ2 : Hid (WQ B0 w w2 w.heap.size w1.heap.size c s) := ⟨he1.trans he2, Nat.le_refl _, hb1.ext he2, he1.size, hb2, by have := HX1.out; omega, HA.out.1.t, HA.out.1.r, HA.out.1.i, HA.out.1.g, HA.out.1.d, HA.out.2.1.ext (he1.trans he2), HA.out.2.2.1.ext (he1.trans he2)⟩; clear hb1 hb2 he1 he2))
 go_loopg [6] N (fun gm t wr => ∃ (k : Nat) (d : Ck) (z : Sv), k ≤ N ∧ gm = N - k ∧ t = .int .i64 (k : Int) ∧ Hid (WSt B0 w wr w.heap.size w1.heap.size c Lp N k d z))
 case atStart => exact ⟨0, c, s, Nat.zero_le _, rfl, rfl, HQ2.out, rfl, rfl, by rw [HA.out.2.2.2.1]; exact Nat.le_refl _, by rw [HA.out.2.2.2.2]; exact Nat.le_refl _⟩
 case round =>
  obtain ⟨k, d, z, hk, rfl, rfl, HS⟩ := hrel
  by_cases hlt : k < N
  ·
   have hd : decide ((k : Int) < (N : Int)) = true := decide_eq_true (by omega)
   have hkn : (k : Int) < (N : Int) := by omega
   have hkL : k < Lp.length := by rw [← HN.out]; exact hlt
   obtain ⟨b, u, rfl, hc0, hc1, hu⟩ := HP.out.at k hkL
   obtain ⟨p, hp⟩ : ∃ p, p = Lp.getD k (0, []) := ⟨_, rfl⟩
   rw [← hp] at hc0 hu
   have HD : Hid (Lp.drop k = p :: Lp.drop (k + 1)) := show _ = _ by
    rw [List.drop_eq_getElem_cons hkL, hp]
    simp [List.getD_eq_getElem?_getD, hkL]
   have hgk := HG.out p (by rw [hp]; exact getD_mem Lp _ k hkL)
   obtain ⟨K, m⟩ := p
   dsimp only at hc0 hu hgk
   obtain ⟨ua, uc, rfl⟩ := hu.form
   obtain ⟨l, hl⟩ : ∃ l, l = m.length := ⟨_, rfl⟩
   rw [← hl] at hc1 hu
   have HU : Hid (OB w B0 (.slice ua l uc) m ∧ m.length ≤ 1000000) := ⟨hu, hgk.2⟩
   have HKw : Hid (IntKind.i64.wrap (K - 49152) = K - 49152) := show _ = _ by rw [IntKind.wrap_i64]; omega
   replace hc0 := HS.out.wq.ext.cell hc0
   replace hc1 := HS.out.wq.ext.cell hc1
   obtain ⟨b9, hb9⟩ : ∃ x, ((k : Int) == (N : Int) - 1) = x := ⟨_, rfl⟩
   clear hp hl hu hgk hkL HQ2
   have HK : Hid (d.kind = 1) := HS.out.kd.trans HKC.out
   by_cases hk0 : k = 0
   ·
    by_cases hK32770 : K = 32770
    ·
     replace hc0 : wr.cell? ⟨b, 0, none⟩ = some (.int .i64 K) := by rw [hk0] at hc0; simpa using hc0
     replace hc1 : wr.cell? ⟨b, 1, none⟩ = some (.slice ua l uc) := by rw [hk0] at hc1; simpa using hc1
     have hb0 : ((0 : Int) == (N : Int) - 1) = b9 := by rw [← hb9, hk0]; rfl
     have hz : ((k : Int) == 0) = true := beq_iff_eq.2 (by omega)
     have hz2 : decide ((k : Int) > 0) = false := decide_eq_false (by omega)
     have hz3 : decide (0 < k) = false := decide_eq_false (by omega)
     have e32770 : (K == 32770) = true := beq_iff_eq.2 hK32770
     go_wp2_with (first
      | (refine wl_setQ HQ.out.1 rfl oneS 13 rfl (by first | rfl | go_simp) (by first | rfl | go_simp) rfl rfl (by decide) ({ d with rand := m }) ({ z with rA := ua, rN := l, rC := uc }) (fun h => ⟨h.ext, h.lo, h.hb, h.lz, h.hz, h.ne, h.t, HU.out.1, h.i, h.g, h.d, h.a, h.o⟩) rfl ?_; intro w8 hr; have HQ8 : Hid (WQ B0 w w8 w.heap.size w1.heap.size ({ d with rand := m }) ({ z with rA := ua, rN := l, rC := uc })) := hr; clear hr)
      | (have q_ := hb6; clear q_; refine wl_store (D := #[.int .i64 K, .slice ua l uc]) rfl rowPd rfl rfl rfl hb6 rfl rfl (one_par _ _ rfl) ?_; intro w7 hb7 hk7 hx; clear hx; have he7 : Ext wr w7 := he6.of_but hk7 (fun k e => by subst e; exact Nat.le_refl _); have HQ : Hid (WQ B0 w w7 w.heap.size w1.heap.size d z ∧ Blk w7 wr.heap.size #[.int .i64 K, .slice ua l uc] 85) := ⟨HS.out.wq.grow he7, hb7⟩; have x0 : w7.cell? ⟨wr.heap.size, 0, none⟩ = some (.int .i64 K) := hb7.cell 0; have x1 : w7.cell? ⟨wr.heap.size, 1, none⟩ = some (.slice ua l uc) := hb7.cell 1; have c0 : w7.cell? ⟨w.heap.size, 0, none⟩ = some (.int .i64 (1)) := (cv0 HQ.out.1.hb).trans (by rw [HK.out]); clear hb6 hb7 hk7 he7 he6 hc0 hc1)
      | (refine wl_alloc rfl rfl zeroPd ?_; intro w6 hb6 he6 hx; clear hx)
      | (refine wl_loadP rfl rowPd rfl rfl hc0 hc1 ?_))
     go_roundg (N - (k + 1))
     case measure => omega
     case rel => exact ⟨k + 1, { d with rand := m }, { z with rA := ua, rN := l, rC := uc }, by omega, rfl, by simp <;> omega, HQ8.out, HS.out.kd, by rw [HS.out.ws, HD.out, withS_step (withK_r (by have := HS.out.kd; have := HK.out; omega) hk0 hK32770)], Nat.le_succ_of_le HS.out.la, Nat.le_succ_of_le HS.out.lo⟩
    ·
     replace hc0 : wr.cell? ⟨b, 0, none⟩ = some (.int .i64 K) := by rw [hk0] at hc0; simpa using hc0
     replace hc1 : wr.cell? ⟨b, 1, none⟩ = some (.slice ua l uc) := by rw [hk0] at hc1; simpa using hc1
     have hb0 : ((0 : Int) == (N : Int) - 1) = b9 := by rw [← hb9, hk0]; rfl
     have hz : ((k : Int) == 0) = true := beq_iff_eq.2 (by omega)
     have hz2 : decide ((k : Int) > 0) = false := decide_eq_false (by omega)
     have hz3 : decide (0 < k) = false := decide_eq_false (by omega)
     have e32770 : (K == 32770) = false := beq_false_of_ne hK32770
     have HF : Hid (¬ ((c.kind = 1 ∨ c.kind = 2) ∧ k = 0 ∧ K = 32770) ∧ ¬ ((c.kind = 1 ∨ c.kind = 2) ∧ 0 < k ∧ K = 5) ∧ ¬ (c.kind = 2 ∧ 0 < k ∧ k + 1 = N ∧ K = 7) ∧ ¬ ((c.kind = 4 ∨ c.kind = 5) ∧ k = 0 ∧ k + 1 = N ∧ K = 1) ∧ ¬ c.kind = 193) := by have := HS.out.kd; have := HK.out; refine ⟨?_, ?_, ?_, ?_, ?_⟩ <;> omega
     go_wp2_with (first
      | (refine wl_store (D := CV (ck0 0) sv0) rfl rowC2 rfl rfl rfl HQ.out.1.hz rfl rfl (CV.one _ _) ?_; intro w8 hb8 hk8 hx; clear hx)
      | (have q_ := hb6; clear q_; refine wl_store (D := #[.int .i64 K, .slice ua l uc]) rfl rowPd rfl rfl rfl hb6 rfl rfl (one_par _ _ rfl) ?_; intro w7 hb7 hk7 hx; clear hx; have he7 : Ext wr w7 := he6.of_but hk7 (fun k e => by subst e; exact Nat.le_refl _); have HQ : Hid (WQ B0 w w7 w.heap.size w1.heap.size d z ∧ Blk w7 wr.heap.size #[.int .i64 K, .slice ua l uc] 85) := ⟨HS.out.wq.grow he7, hb7⟩; have x0 : w7.cell? ⟨wr.heap.size, 0, none⟩ = some (.int .i64 K) := hb7.cell 0; have x1 : w7.cell? ⟨wr.heap.size, 1, none⟩ = some (.slice ua l uc) := hb7.cell 1; have c0 : w7.cell? ⟨w.heap.size, 0, none⟩ = some (.int .i64 (1)) := (cv0 HQ.out.1.hb).trans (by rw [HK.out]); clear hb6 hb7 hk7 he7 he6 hc0 hc1)
      | (refine wl_alloc rfl rfl zeroPd ?_; intro w6 hb6 he6 hx; clear hx)
      | (refine wl_loadP rfl rowPd rfl rfl hc0 hc1 ?_))
     refine bodyPost_ret (res_two (fn := Try.f47) (p := 4) (u := 5) rfl _ _ rfl rfl hb8 Try.underlying32 (by kernel_rfl)) rfl ?_
     refine show WithIs B0 w c Lp N _ w8 from ⟨HQ.out.1.ext.of_but hk8 (fun k e => by subst e; exact HQ.out.1.lz), _, _, _, rfl, lq0 _ _ _, .inr ⟨rfl, rfl, rfl, fun d2 h2 => ?_⟩⟩
     rw [HS.out.ws, HD.out, withS_fail (withK_no HF.out.1 HF.out.2.1 HF.out.2.2.1 HF.out.2.2.2.1 HF.out.2.2.2.2)] at h2
     cases h2
   ·
    by_cases hK5 : K = 5
    ·
     have hz : ((k : Int) == 0) = false := beq_false_of_ne (by omega)
     have hz2 : decide ((k : Int) > 0) = true := decide_eq_true (by omega)
     have hz3 : decide (0 < k) = true := decide_eq_true (by omega)
     have e5 : (K == 5) = true := beq_iff_eq.2 hK5
     go_wp2_with (first
      | (have q_ := hb6; clear q_; refine wl_store (D := #[.int .i64 K, .slice ua l uc]) rfl rowPd rfl rfl rfl hb6 rfl rfl (one_par _ _ rfl) ?_; intro w7 hb7 hk7 hx; clear hx; have he7 : Ext wr w7 := he6.of_but hk7 (fun k e => by subst e; exact Nat.le_refl _); have HQ : Hid (WQ B0 w w7 w.heap.size w1.heap.size d z ∧ Blk w7 wr.heap.size #[.int .i64 K, .slice ua l uc] 85) := ⟨HS.out.wq.grow he7, hb7⟩; have x0 : w7.cell? ⟨wr.heap.size, 0, none⟩ = some (.int .i64 K) := hb7.cell 0; have x1 : w7.cell? ⟨wr.heap.size, 1, none⟩ = some (.slice ua l uc) := hb7.cell 1; have c0 : w7.cell? ⟨w.heap.size, 0, none⟩ = some (.int .i64 (1)) := (cv0 HQ.out.1.hb).trans (by rw [HK.out]); clear hb6 hb7 hk7 he7 he6 hc0 hc1)
      | (refine wl_alloc rfl rfl zeroPd ?_; intro w6 hb6 he6 hx; clear hx)
      | (refine wl_loadP rfl rowPd rfl rfl hc0 hc1 ?_))
     have HLn : Hid (d.addrs.length ≤ 100000) := show _ ≤ _ by have := HS.out.la; omega
     refine wp_region_W (WithQA B0 w w.heap.size w1.heap.size wr.heap.size d z K (.slice ua l uc) m) (fun t => bif Nat.ble 59 t && Nat.ble t 66 then some (t - 59) else none) 131 rfl (by kernel_rfl) rfl (fun vs => ⟨fun _ => ⟨HQ.out.1.grow (Ext.drew _), HQ.out.2.ext (Ext.drew _)⟩, fun h => by simp at h, fun h => by simp at h, fun h => by simp at h, fun h => by simp at h, fun h => by simp at h, fun h => by simp at h, fun h => by simp at h, fun h => by simp at h, fun h => by simp at h, fun h => by simp at h, fun h => by simp at h, fun h => by simp at h, fun h => by simp at h, fun h => by simp at h⟩) ?_ ?_
     ·
      refine Ow ⟨rfl, ?_⟩ (Ow ⟨rfl, ?_⟩ (Ow ⟨rfl, ?_⟩ (Ow ⟨rfl, ?_⟩ (Ow ⟨rfl, ?_⟩ (Ow ⟨rfl, ?_⟩ (Ow ⟨rfl, ?_⟩ (Ow ⟨rfl, ?_⟩ (Ow ⟨rfl, ?_⟩ OwedVs.nil))))))))
      ·
       rintro L vs wx r H hl hL ⟨h1, _⟩
       replace h1 : r (.tmp 2) = ptr w.heap.size := h1
       exact gvo (by simp [execOp, h1, ptr, go_sem]; done) { H with k0 := fun _ => rfl }
      ·
       rintro L vs wx r H hl hL ⟨h1, _⟩
       replace h1 : r (.tmp 59) = .pointer (some ⟨w.heap.size, 14, none⟩) := Eq.trans h1 (H.k0 (hL 0 (by kernel_rfl)))
       have hAP : L 6 = false := met_no H.d6_1 hl
       exact gvo (exg oneSA rfl h1 (cv14 (H.A hAP).1.hb)) { H with k1 := fun _ => rfl, d6_1 := fun _ => rfl }
      ·
       rintro L vs wx r H hl hL ⟨h1, _⟩
       replace h1 : r (.tmp 7) = ptr wr.heap.size := h1
       exact gvo (by simp [execOp, h1, ptr, go_sem]; done) { H with k2 := fun _ => rfl }
      ·
       rintro L vs wx r H hl hL ⟨h1, _⟩
       replace h1 : r (.tmp 61) = .pointer (some ⟨wr.heap.size, 1, none⟩) := Eq.trans h1 (H.k2 (hL 2 (by kernel_rfl)))
       have hCA : L 4 = false := met_no H.d4_3 hl
       have hBS : L 5 = false := met_no H.d5_4 hCA
       have hAP : L 6 = false := met_no H.d6_5 hBS
       exact gvo (exg oneS rfl h1 ((H.A hAP).2.cell 1)) { H with k3 := fun _ => rfl, d4_3 := fun _ => rfl }
      ·
       rintro L vs wx r H hl hL ⟨h1, h2, _⟩
       replace h1 : r (.func 87) = .func (.func 87) #[] #[] := h1
       replace h2 : r (.tmp 62) = .slice ua l uc := Eq.trans h2 (H.k3 (hL 3 (by kernel_rfl)))
       have hBS : L 5 = false := met_no H.d5_4 hl
       have hAP : L 6 = false := met_no H.d6_5 hBS
       have hST : L 8 = false := met_no H.d8_6 hAP
       refine give_func #[.slice ua l uc] rfl h1 Try.call87 (by simp [h2]) ?_
       refine (docFour_any (HU.out.1.bytes.ext (H.A hAP).1.ext) HU.out.2).mono ?_
       rintro e w' ⟨rfl, he⟩
       exact ⟨_, rfl, ⟨fun _ => ⟨(H.A hAP).1.grow he, (H.A hAP).2.ext he⟩, fun h => absurd (h.symm.trans hAP) (by decide), fun h => absurd (h.symm.trans hST) (by decide), fun h => absurd (h.symm.trans hBS) (by decide), H.k0, H.k1, H.k2, H.k3, fun _ => rfl, H.k7, H.d6_1, H.d6_5, H.d8_6, fun _ => hL 3 (by kernel_rfl), fun _ => rfl⟩⟩
      ·
       rintro L vs wx r H hl hL ⟨h1, _⟩
       replace h1 : r (.tmp 63) = .int .i64 (fourV m) := Eq.trans h1 (H.k4 (hL 4 (by kernel_rfl)))
       have hAP : L 6 = false := met_no H.d6_5 hl
       have hST : L 8 = false := met_no H.d8_6 hAP
       exact give_one_num rfl numTA h1 { H with A := fun h => ⟨(H.A h).1.grow (Ext.alloc _ _), (H.A h).2.ext (Ext.alloc _ _)⟩, B := fun h => absurd (h.symm.trans hAP) (by decide), C := fun h => absurd (h.symm.trans hST) (by decide), S := fun _ _ => NumsAt.one wx _ _ _ rfl, d6_5 := fun _ => rfl, d5_4 := fun _ => hL 4 (by kernel_rfl) }
      ·
       rintro L vs wx r H hl hL ⟨h1, h2, _⟩
       have hST : L 8 = false := met_no H.d8_6 hl
       replace h1 : r (.tmp 60) = .slice z.aA z.aN z.aC := Eq.trans h1 (H.k1 (hL 1 (by kernel_rfl)))
       replace h2 : r (.tmp 64) = vs 5 := h2
       exact give_wq_a (H.A hl).1 (H.S (hL 5 (by kernel_rfl)) hl) HLn.out rfl h1 h2 (fun ad n cap w' hf => ⟨fun h => absurd h (by simp [met1]), fun _ _ => ⟨ad, n, cap, rfl, hf⟩, fun h => absurd (h.symm.trans hST) (by decide), fun _ h => absurd h (by simp [met1]), H.k0, H.k1, H.k2, H.k3, H.k4, H.k7, fun _ => hL 1 (by kernel_rfl), fun _ => hL 5 (by kernel_rfl), fun _ => rfl, H.d4_3, H.d5_4⟩)
      ·
       rintro L vs wx r H hl hL ⟨h1, _⟩
       replace h1 : r (.tmp 2) = ptr w.heap.size := h1
       exact gvo (by simp [execOp, h1, ptr, go_sem]; done) { H with k7 := fun _ => rfl }
      ·
       rintro L vs wx r H hl hL ⟨h1, h2, _⟩
       replace h1 : r (.tmp 66) = .pointer (some ⟨w.heap.size, 14, none⟩) := Eq.trans h1 (H.k7 (hL 7 (by kernel_rfl)))
       obtain ⟨ad, n, cap, e, hf⟩ := H.B (hL 6 (by kernel_rfl)) hl
       replace h2 : r (.tmp 65) = .slice ad n cap := Eq.trans h2 e
       exact give_skip (exec_set oneSA rfl h1 h2 rfl rfl hf.hb (show 14 < (CV d z).size from (by decide : 14 < 22))) { H with A := fun h => absurd (h.symm.trans (hL 6 (by kernel_rfl))) (by decide), B := fun _ h => absurd h (by simp [met1]), C := fun _ => ⟨_, hf.store rfl⟩, S := fun _ h => absurd (h.symm.trans (hL 6 (by kernel_rfl))) (by decide), d8_6 := fun _ => hL 6 (by kernel_rfl) }
     ·
      intro vs2 a2 w8 H ha2
      obtain ⟨s2, hr2⟩ := H.C rfl
      have HQ8 : Hid (WQ B0 w w8 w.heap.size w1.heap.size _ s2) := hr2
      clear hr2 H
      simp only [putAll, Act.put, Nat.zero_add, Nat.reduceAdd, List.setIfInBounds_toArray, List.set_cons_succ, List.set_cons_zero] at ha2
      subst ha2
      go_wp2
      go_roundg (N - (k + 1))
      case measure => omega
      case rel => exact ⟨k + 1, { d with addrs := d.addrs ++ [fourV m] }, s2, by omega, rfl, by simp <;> omega, HQ8.out, HS.out.kd, by rw [HS.out.ws, HD.out, withS_step (withK_a (by have := HS.out.kd; have := HK.out; omega) (by omega) hK5)], by simp only [List.length_append, List.length_cons, List.length_nil]; have := HS.out.la; omega, Nat.le_succ_of_le HS.out.lo⟩
    ·
     have hz : ((k : Int) == 0) = false := beq_false_of_ne (by omega)
     have hz2 : decide ((k : Int) > 0) = true := decide_eq_true (by omega)
     have hz3 : decide (0 < k) = true := decide_eq_true (by omega)
     have e5 : (K == 5) = false := beq_false_of_ne hK5
     have HF : Hid (¬ ((c.kind = 1 ∨ c.kind = 2) ∧ k = 0 ∧ K = 32770) ∧ ¬ ((c.kind = 1 ∨ c.kind = 2) ∧ 0 < k ∧ K = 5) ∧ ¬ (c.kind = 2 ∧ 0 < k ∧ k + 1 = N ∧ K = 7) ∧ ¬ ((c.kind = 4 ∨ c.kind = 5) ∧ k = 0 ∧ k + 1 = N ∧ K = 1) ∧ ¬ c.kind = 193) := by have := HS.out.kd; have := HK.out; refine ⟨?_, ?_, ?_, ?_, ?_⟩ <;> omega
     go_wp2_with (first
      | (refine wl_store (D := CV (ck0 0) sv0) rfl rowC2 rfl rfl rfl HQ.out.1.hz rfl rfl (CV.one _ _) ?_; intro w8 hb8 hk8 hx; clear hx)
      | (have q_ := hb6; clear q_; refine wl_store (D := #[.int .i64 K, .slice ua l uc]) rfl rowPd rfl rfl rfl hb6 rfl rfl (one_par _ _ rfl) ?_; intro w7 hb7 hk7 hx; clear hx; have he7 : Ext wr w7 := he6.of_but hk7 (fun k e => by subst e; exact Nat.le_refl _); have HQ : Hid (WQ B0 w w7 w.heap.size w1.heap.size d z ∧ Blk w7 wr.heap.size #[.int .i64 K, .slice ua l uc] 85) := ⟨HS.out.wq.grow he7, hb7⟩; have x0 : w7.cell? ⟨wr.heap.size, 0, none⟩ = some (.int .i64 K) := hb7.cell 0; have x1 : w7.cell? ⟨wr.heap.size, 1, none⟩ = some (.slice ua l uc) := hb7.cell 1; have c0 : w7.cell? ⟨w.heap.size, 0, none⟩ = some (.int .i64 (1)) := (cv0 HQ.out.1.hb).trans (by rw [HK.out]); clear hb6 hb7 hk7 he7 he6 hc0 hc1)
      | (refine wl_alloc rfl rfl zeroPd ?_; intro w6 hb6 he6 hx; clear hx)
      | (refine wl_loadP rfl rowPd rfl rfl hc0 hc1 ?_))
     refine bodyPost_ret (res_two (fn := Try.f47) (p := 4) (u := 5) rfl _ _ rfl rfl hb8 Try.underlying32 (by kernel_rfl)) rfl ?_
     refine show WithIs B0 w c Lp N _ w8 from ⟨HQ.out.1.ext.of_but hk8 (fun k e => by subst e; exact HQ.out.1.lz), _, _, _, rfl, lq0 _ _ _, .inr ⟨rfl, rfl, rfl, fun d2 h2 => ?_⟩⟩
     rw [HS.out.ws, HD.out, withS_fail (withK_no HF.out.1 HF.out.2.1 HF.out.2.2.1 HF.out.2.2.2.1 HF.out.2.2.2.2)] at h2
     cases h2
  ·
   have hd : decide ((k : Int) < (N : Int)) = false := decide_eq_false (by omega)
   have HE : Hid (withS c.kind N 0 c Lp = some d) := show _ = _ by
    rw [HS.out.ws, List.drop_eq_nil_of_le (by rw [← HN.out]; omega)]; rfl
   cases hgd : goodB d
   ·
    go_wp2_with (first
     | (refine wl_load rfl rowC2 rfl rfl HS.out.wq.hb rfl ?_)
     | (go_at_call 11; refine (refGoodC HS.out.wq.at).mono ?_; rintro e w3 ⟨rfl, he3⟩; rw [hgd]; have HQ3 : Hid (WQ B0 w w3 w.heap.size w1.heap.size d z) := HS.out.wq.grow he3; clear he3)
     | (refine wl_store (D := CV (ck0 0) sv0) rfl rowC2 rfl rfl rfl HQ3.out.hz rfl rfl (CV.one _ _) ?_; intro w8 hb8 hk8 hx; clear hx))
    refine bodyPost_ret (res_two (fn := Try.f47) (p := 4) (u := 5) rfl _ _ rfl rfl hb8 Try.underlying32 (by kernel_rfl)) rfl ?_
    refine show WithIs B0 w c Lp N _ w8 from ⟨HQ3.out.ext.of_but hk8 (fun k e => by subst e; exact HQ3.out.lz), _, _, _, rfl, lq0 _ _ _, .inr ⟨rfl, rfl, rfl, fun d2 h2 => ?_⟩⟩
    rw [HE.out] at h2
    cases h2
    exact hgd
   ·
    go_wp2_with (first
     | (refine wl_load rfl rowC2 rfl rfl HQ3.out.hb rfl ?_)
     | (refine wl_load rfl rowC2 rfl rfl HS.out.wq.hb rfl ?_)
     | (go_at_call 11; refine (refGoodC HS.out.wq.at).mono ?_; rintro e w3 ⟨rfl, he3⟩; rw [hgd]; have HQ3 : Hid (WQ B0 w w3 w.heap.size w1.heap.size d z) := HS.out.wq.grow he3; clear he3)
     | (refine wl_store (D := CV d z) rfl rowC2 rfl rfl rfl HQ3.out.hz rfl rfl (CV.one _ _) ?_; intro w8 hb8 hk8 hx; clear hx))
    refine bodyPost_ret (res_two (fn := Try.f47) (p := 4) (u := 5) rfl _ _ rfl rfl hb8 Try.underlying32 (by kernel_rfl)) rfl ?_
    exact show WithIs B0 w c Lp N _ w8 from ⟨HQ3.out.ext.of_but hk8 (fun k e => by subst e; exact HQ3.out.lz), _, _, _, rfl, ⟨HQ3.out.t.ext (HQ3.out.ext.of_but hk8 (fun k e => by subst e; exact HQ3.out.lz)), HQ3.out.r.ext (HQ3.out.ext.of_but hk8 (fun k e => by subst e; exact HQ3.out.lz)), (HQ3.out.a.mono_via hk8 (ownsRow_ne HQ3.out.a.1 HQ3.out.hz (by decide))).base HB0.out, HQ3.out.i.ext (HQ3.out.ext.of_but hk8 (fun k e => by subst e; exact HQ3.out.lz)), HQ3.out.g.ext (HQ3.out.ext.of_but hk8 (fun k e => by subst e; exact HQ3.out.lz)), HQ3.out.d.ext (HQ3.out.ext.of_but hk8 (fun k e => by subst e; exact HQ3.out.lz)), (HQ3.out.o.but hk8 (ownsRow_ne HQ3.out.o.1 HQ3.out.hz (by decide))).base HB0.out⟩, .inl ⟨rfl, HE.out, hgd⟩⟩
theorem with_2 {B0 : Nat} {w : World} {c : Ck} {s : Sv} {la : Option Addr} {N lc : Nat} {Lp : List Par} (ha : ListsQ B0 w s c) (hB0 : B0 ≤ w.heap.size) (hkc : c.kind = 2) (hn : (s.aA = none ∧ s.aN = 0 ∧ s.aC = 0 ∧ c.addrs = []) ∧ s.oA = none ∧ s.oN = 0 ∧ s.oC = 0 ∧ c.ops = []) (hp : OwnL 85 w B0 (.slice la N lc) Lp) (hN : Lp.length ≤ 25000) (hg : ∀ p ∈ Lp, (0 ≤ p.1 ∧ p.1 ≤ 65535) ∧ p.2.length ≤ 1000000) :
  Calls Try.prog 47 #[.agg (CV c s), .slice la N lc] w (WithIs B0 w c Lp N) := by
 have hNL : N = Lp.length := hp.len
 have HB0 : Hid (B0 ≤ w.heap.size) := hB0
 have HP : Hid (OwnL 85 w B0 (.slice la N lc) Lp) := hp
 have HG : Hid (∀ p ∈ Lp, (0 ≤ p.1 ∧ p.1 ≤ 65535) ∧ p.2.length ≤ 1000000) := hg
 have HN : Hid (N = Lp.length) := hNL
 have HA : Hid (ListsQ B0 w s c ∧ OwnN .i64 w w.heap.size 65 (.slice s.aA s.aN s.aC) c.addrs ∧ OwnP 71 w w.heap.size (.slice s.oA s.oN s.oC) c.ops ∧ c.addrs.length = 0 ∧ c.ops.length = 0) := by
  obtain ⟨⟨e1, e2, e3, e4⟩, f1, f2, f3, f4⟩ := hn
  rw [e1, e2, e3, e4, f1, f2, f3, f4]
  exact ⟨ha, OwnN.nil _ _ _ _, OwnP.nil _ _ _, rfl, rfl⟩
 have hN2 : N ≤ 25000 := by omega
 have hs1 : wrap64 ((N : Int) - 1) = (N : Int) - 1 := by unfold wrap64; omega
 have hs2 : IntKind.i64.wrap ((N : Int) - 1) = (N : Int) - 1 := by rw [IntKind.wrap_i64]; omega
 have HKC : Hid (c.kind = 2) := hkc
 clear ha hn hp hN hg hNL hkc hB0
 go_enter Try.func47, Try.ntmps47
 go_wp2_with (first
  | (refine wl_box (C := CV c s) rfl rfl rfl ?_; intro w1 hb1 he1 hx; have HX1 : Hid (w1.heap.size = w.heap.size + 1) := hx; clear hx)
  | (refine wl_alloc rfl rfl zeroCd ?_; intro w2 hb2 he2 hx; clear hx; have HQ2 : Hid (WQ B0 w w2 w.heap.size w1.heap.size c s) := ⟨he1.trans he2, Nat.le_refl _, hb1.ext he2, he1.size, hb2, by have := HX1.out; omega, HA.out.1.t, HA.out.1.r, HA.out.1.i, HA.out.1.g, HA.out.1.d, HA.out.2.1.ext (he1.trans he2), HA.out.2.2.1.ext (he1.trans he2)⟩; clear hb1 hb2 he1 he2))
 go_loopg [6] N (fun gm t wr => ∃ (k : Nat) (d : Ck) (z : Sv), k ≤ N ∧ gm = N - k ∧ t = .int .i64 (k : Int) ∧ Hid (WSt B0 w wr w.heap.size w1.heap.size c Lp N k d z))
 case atStart => exact ⟨0, c, s, Nat.zero_le _, rfl, rfl, HQ2.out, rfl, rfl, by rw [HA.out.2.2.2.1]; exact Nat.le_refl _, by rw [HA.out.2.2.2.2]; exact Nat.le_refl _⟩
 case round =>
  obtain ⟨k, d, z, hk, rfl, rfl, HS⟩ := hrel
  by_cases hlt : k < N
  ·
   have hd : decide ((k : Int) < (N : Int)) = true := decide_eq_true (by omega)
   have hkn : (k : Int) < (N : Int) := by omega
   have hkL : k < Lp.length := by rw [← HN.out]; exact hlt
   obtain ⟨b, u, rfl, hc0, hc1, hu⟩ := HP.out.at k hkL
   obtain ⟨p, hp⟩ : ∃ p, p = Lp.getD k (0, []) := ⟨_, rfl⟩
   rw [← hp] at hc0 hu
   have HD : Hid (Lp.drop k = p :: Lp.drop (k + 1)) := show _ = _ by
    rw [List.drop_eq_getElem_cons hkL, hp]
    simp [List.getD_eq_getElem?_getD, hkL]
   have hgk := HG.out p (by rw [hp]; exact getD_mem Lp _ k hkL)
   obtain ⟨K, m⟩ := p
   dsimp only at hc0 hu hgk
   obtain ⟨ua, uc, rfl⟩ := hu.form
   obtain ⟨l, hl⟩ : ∃ l, l = m.length := ⟨_, rfl⟩
   rw [← hl] at hc1 hu
   have HU : Hid (OB w B0 (.slice ua l uc) m ∧ m.length ≤ 1000000) := ⟨hu, hgk.2⟩
   have HKw : Hid (IntKind.i64.wrap (K - 49152) = K - 49152) := show _ = _ by rw [IntKind.wrap_i64]; omega
   replace hc0 := HS.out.wq.ext.cell hc0
   replace hc1 := HS.out.wq.ext.cell hc1
   obtain ⟨b9, hb9⟩ : ∃ x, ((k : Int) == (N : Int) - 1) = x := ⟨_, rfl⟩
   clear hp hl hu hgk hkL HQ2
   have HK : Hid (d.kind = 2) := HS.out.kd.trans HKC.out
   by_cases hk0 : k = 0
   ·
    by_cases hK32770 : K = 32770
    ·
     replace hc0 : wr.cell? ⟨b, 0, none⟩ = some (.int .i64 K) := by rw [hk0] at hc0; simpa using hc0
     replace hc1 : wr.cell? ⟨b, 1, none⟩ = some (.slice ua l uc) := by rw [hk0] at hc1; simpa using hc1
     have hb0 : ((0 : Int) == (N : Int) - 1) = b9 := by rw [← hb9, hk0]; rfl
     have hz : ((k : Int) == 0) = true := beq_iff_eq.2 (by omega)
     have hz2 : decide ((k : Int) > 0) = false := decide_eq_false (by omega)
     have hz3 : decide (0 < k) = false := decide_eq_false (by omega)
     have e32770 : (K == 32770) = true := beq_iff_eq.2 hK32770
     go_wp2_with (first
      | (refine wl_setQ HQ.out.1 rfl oneS 13 rfl (by first | rfl | go_simp) (by first | rfl | go_simp) rfl rfl (by decide) ({ d with rand := m }) ({ z with rA := ua, rN := l, rC := uc }) (fun h => ⟨h.ext, h.lo, h.hb, h.lz, h.hz, h.ne, h.t, HU.out.1, h.i, h.g, h.d, h.a, h.o⟩) rfl ?_; intro w8 hr; have HQ8 : Hid (WQ B0 w w8 w.heap.size w1.heap.size ({ d with rand := m }) ({ z with rA := ua, rN := l, rC := uc })) := hr; clear hr)
      | (have q_ := hb6; clear q_; refine wl_store (D := #[.int .i64 K, .slice ua l uc]) rfl rowPd rfl rfl rfl hb6 rfl rfl (one_par _ _ rfl) ?_; intro w7 hb7 hk7 hx; clear hx; have he7 : Ext wr w7 := he6.of_but hk7 (fun k e => by subst e; exact Nat.le_refl _); have HQ : Hid (WQ B0 w w7 w.heap.size w1.heap.size d z ∧ Blk w7 wr.heap.size #[.int .i64 K, .slice ua l uc] 85) := ⟨HS.out.wq.grow he7, hb7⟩; have x0 : w7.cell? ⟨wr.heap.size, 0, none⟩ = some (.int .i64 K) := hb7.cell 0; have x1 : w7.cell? ⟨wr.heap.size, 1, none⟩ = some (.slice ua l uc) := hb7.cell 1; have c0 : w7.cell? ⟨w.heap.size, 0, none⟩ = some (.int .i64 (2)) := (cv0 HQ.out.1.hb).trans (by rw [HK.out]); clear hb6 hb7 hk7 he7 he6 hc0 hc1)
      | (refine wl_alloc rfl rfl zeroPd ?_; intro w6 hb6 he6 hx; clear hx)
      | (refine wl_loadP rfl rowPd rfl rfl hc0 hc1 ?_))
     go_roundg (N - (k + 1))
     case measure => omega
     case rel => exact ⟨k + 1, { d with rand := m }, { z with rA := ua, rN := l, rC := uc }, by omega, rfl, by simp <;> omega, HQ8.out, HS.out.kd, by rw [HS.out.ws, HD.out, withS_step (withK_r (by have := HS.out.kd; have := HK.out; omega) hk0 hK32770)], Nat.le_succ_of_le HS.out.la, Nat.le_succ_of_le HS.out.lo⟩
    ·
     replace hc0 : wr.cell? ⟨b, 0, none⟩ = some (.int .i64 K) := by rw [hk0] at hc0; simpa using hc0
     replace hc1 : wr.cell? ⟨b, 1, none⟩ = some (.slice ua l uc) := by rw [hk0] at hc1; simpa using hc1
     have hb0 : ((0 : Int) == (N : Int) - 1) = b9 := by rw [← hb9, hk0]; rfl
     have hz : ((k : Int) == 0) = true := beq_iff_eq.2 (by omega)
     have hz2 : decide ((k : Int) > 0) = false := decide_eq_false (by omega)
     have hz3 : decide (0 < k) = false := decide_eq_false (by omega)
     have e32770 : (K == 32770) = false := beq_false_of_ne hK32770
     have HF : Hid (¬ ((c.kind = 1 ∨ c.kind = 2) ∧ k = 0 ∧ K = 32770) ∧ ¬ ((c.kind = 1 ∨ c.kind = 2) ∧ 0 < k ∧ K = 5) ∧ ¬ (c.kind = 2 ∧ 0 < k ∧ k + 1 = N ∧ K = 7) ∧ ¬ ((c.kind = 4 ∨ c.kind = 5) ∧ k = 0 ∧ k + 1 = N ∧ K = 1) ∧ ¬ c.kind = 193) := by have := HS.out.kd; have := HK.out; refine ⟨?_, ?_, ?_, ?_, ?_⟩ <;> omega
     go_wp2_with (first
      | (refine wl_store (D := CV (ck0 0) sv0) rfl rowC2 rfl rfl rfl HQ.out.1.hz rfl rfl (CV.one _ _) ?_; intro w8 hb8 hk8 hx; clear hx)
      | (have q_ := hb6; clear q_; refine wl_store (D := #[.int .i64 K, .slice ua l uc]) rfl rowPd rfl rfl rfl hb6 rfl rfl (one_par _ _ rfl) ?_; intro w7 hb7 hk7 hx; clear hx; have he7 : Ext wr w7 := he6.of_but hk7 (fun k e => by subst e; exact Nat.le_refl _); have HQ : Hid (WQ B0 w w7 w.heap.size w1.heap.size d z ∧ Blk w7 wr.heap.size #[.int .i64 K, .slice ua l uc] 85) := ⟨HS.out.wq.grow he7, hb7⟩; have x0 : w7.cell? ⟨wr.heap.size, 0, none⟩ = some (.int .i64 K) := hb7.cell 0; have x1 : w7.cell? ⟨wr.heap.size, 1, none⟩ = some (.slice ua l uc) := hb7.cell 1; have c0 : w7.cell? ⟨w.heap.size, 0, none⟩ = some (.int .i64 (2)) := (cv0 HQ.out.1.hb).trans (by rw [HK.out]); clear hb6 hb7 hk7 he7 he6 hc0 hc1)
      | (refine wl_alloc rfl rfl zeroPd ?_; intro w6 hb6 he6 hx; clear hx)
      | (refine wl_loadP rfl rowPd rfl rfl hc0 hc1 ?_))
     refine bodyPost_ret (res_two (fn := Try.f47) (p := 4) (u := 5) rfl _ _ rfl rfl hb8 Try.underlying32 (by kernel_rfl)) rfl ?_
     refine show WithIs B0 w c Lp N _ w8 from ⟨HQ.out.1.ext.of_but hk8 (fun k e => by subst e; exact HQ.out.1.lz), _, _, _, rfl, lq0 _ _ _, .inr ⟨rfl, rfl, rfl, fun d2 h2 => ?_⟩⟩
     rw [HS.out.ws, HD.out, withS_fail (withK_no HF.out.1 HF.out.2.1 HF.out.2.2.1 HF.out.2.2.2.1 HF.out.2.2.2.2)] at h2
     cases h2
   ·
    by_cases hK5 : K = 5
    ·
     have hz : ((k : Int) == 0) = false := beq_false_of_ne (by omega)
     have hz2 : decide ((k : Int) > 0) = true := decide_eq_true (by omega)
     have hz3 : decide (0 < k) = true := decide_eq_true (by omega)
     have e5 : (K == 5) = true := beq_iff_eq.2 hK5
     go_wp2_with (first
      | (have q_ := hb6; clear q_; refine wl_store (D := #[.int .i64 K, .slice ua l uc]) rfl rowPd rfl rfl rfl hb6 rfl rfl (one_par _ _ rfl) ?_; intro w7 hb7 hk7 hx; clear hx; have he7 : Ext wr w7 := he6.of_but hk7 (fun k e => by subst e; exact Nat.le_refl _); have HQ : Hid (WQ B0 w w7 w.heap.size w1.heap.size d z ∧ Blk w7 wr.heap.size #[.int .i64 K, .slice ua l uc] 85) := ⟨HS.out.wq.grow he7, hb7⟩; have x0 : w7.cell? ⟨wr.heap.size, 0, none⟩ = some (.int .i64 K) := hb7.cell 0; have x1 : w7.cell? ⟨wr.heap.size, 1, none⟩ = some (.slice ua l uc) := hb7.cell 1; have c0 : w7.cell? ⟨w.heap.size, 0, none⟩ = some (.int .i64 (2)) := (cv0 HQ.out.1.hb).trans (by rw [HK.out]); clear hb6 hb7 hk7 he7 he6 hc0 hc1)
      | (refine wl_alloc rfl rfl zeroPd ?_; intro w6 hb6 he6 hx; clear hx)
      | (refine wl_loadP rfl rowPd rfl rfl hc0 hc1 ?_))
     have HLn : Hid (d.addrs.length ≤ 100000) := show _ ≤ _ by have := HS.out.la; omega
     refine wp_region_W (WithQA B0 w w.heap.size w1.heap.size wr.heap.size d z K (.slice ua l uc) m) (fun t => bif Nat.ble 59 t && Nat.ble t 66 then some (t - 59) else none) 131 rfl (by kernel_rfl) rfl (fun vs => ⟨fun _ => ⟨HQ.out.1.grow (Ext.drew _), HQ.out.2.ext (Ext.drew _)⟩, fun h => by simp at h, fun h => by simp at h, fun h => by simp at h, fun h => by simp at h, fun h => by simp at h, fun h => by simp at h, fun h => by simp at h, fun h => by simp at h, fun h => by simp at h, fun h => by simp at h, fun h => by simp at h, fun h => by simp at h, fun h => by simp at h, fun h => by simp at h⟩) ?_ ?_
     ·
      refine Ow ⟨rfl, ?_⟩ (Ow ⟨rfl, ?_⟩ (Ow ⟨rfl, ?_⟩ (Ow ⟨rfl, ?_⟩ (Ow ⟨rfl, ?_⟩ (Ow ⟨rfl, ?_⟩ (Ow ⟨rfl, ?_⟩ (Ow ⟨rfl, ?_⟩ (Ow ⟨rfl, ?_⟩ OwedVs.nil))))))))
      ·
       rintro L vs wx r H hl hL ⟨h1, _⟩
       replace h1 : r (.tmp 2) = ptr w.heap.size := h1
       exact gvo (by simp [execOp, h1, ptr, go_sem]; done) { H with k0 := fun _ => rfl }
      ·
       rintro L vs wx r H hl hL ⟨h1, _⟩
       replace h1 : r (.tmp 59) = .pointer (some ⟨w.heap.size, 14, none⟩) := Eq.trans h1 (H.k0 (hL 0 (by kernel_rfl)))
       have hAP : L 6 = false := met_no H.d6_1 hl
       exact gvo (exg oneSA rfl h1 (cv14 (H.A hAP).1.hb)) { H with k1 := fun _ => rfl, d6_1 := fun _ => rfl }
      ·
       rintro L vs wx r H hl hL ⟨h1, _⟩
       replace h1 : r (.tmp 7) = ptr wr.heap.size := h1
       exact gvo (by simp [execOp, h1, ptr, go_sem]; done) { H with k2 := fun _ => rfl }
      ·
       rintro L vs wx r H hl hL ⟨h1, _⟩
       replace h1 : r (.tmp 61) = .pointer (some ⟨wr.heap.size, 1, none⟩) := Eq.trans h1 (H.k2 (hL 2 (by kernel_rfl)))
       have hCA : L 4 = false := met_no H.d4_3 hl
       have hBS : L 5 = false := met_no H.d5_4 hCA
       have hAP : L 6 = false := met_no H.d6_5 hBS
       exact gvo (exg oneS rfl h1 ((H.A hAP).2.cell 1)) { H with k3 := fun _ => rfl, d4_3 := fun _ => rfl }
      ·
       rintro L vs wx r H hl hL ⟨h1, h2, _⟩
       replace h1 : r (.func 87) = .func (.func 87) #[] #[] := h1
       replace h2 : r (.tmp 62) = .slice ua l uc := Eq.trans h2 (H.k3 (hL 3 (by kernel_rfl)))
       have hBS : L 5 = false := met_no H.d5_4 hl
       have hAP : L 6 = false := met_no H.d6_5 hBS
       have hST : L 8 = false := met_no H.d8_6 hAP
       refine give_func #[.slice ua l uc] rfl h1 Try.call87 (by simp [h2]) ?_
       refine (docFour_any (HU.out.1.bytes.ext (H.A hAP).1.ext) HU.out.2).mono ?_
       rintro e w' ⟨rfl, he⟩
       exact ⟨_, rfl, ⟨fun _ => ⟨(H.A hAP).1.grow he, (H.A hAP).2.ext he⟩, fun h => absurd (h.symm.trans hAP) (by decide), fun h => absurd (h.symm.trans hST) (by decide), fun h => absurd (h.symm.trans hBS) (by decide), H.k0, H.k1, H.k2, H.k3, fun _ => rfl, H.k7, H.d6_1, H.d6_5, H.d8_6, fun _ => hL 3 (by kernel_rfl), fun _ => rfl⟩⟩
      ·
       rintro L vs wx r H hl hL ⟨h1, _⟩
       replace h1 : r (.tmp 63) = .int .i64 (fourV m) := Eq.trans h1 (H.k4 (hL 4 (by kernel_rfl)))
       have hAP : L 6 = false := met_no H.d6_5 hl
       have hST : L 8 = false := met_no H.d8_6 hAP
       exact give_one_num rfl numTA h1 { H with A := fun h => ⟨(H.A h).1.grow (Ext.alloc _ _), (H.A h).2.ext (Ext.alloc _ _)⟩, B := fun h => absurd (h.symm.trans hAP) (by decide), C := fun h => absurd (h.symm.trans hST) (by decide), S := fun _ _ => NumsAt.one wx _ _ _ rfl, d6_5 := fun _ => rfl, d5_4 := fun _ => hL 4 (by kernel_rfl) }
      ·
       rintro L vs wx r H hl hL ⟨h1, h2, _⟩
       have hST : L 8 = false := met_no H.d8_6 hl
       replace h1 : r (.tmp 60) = .slice z.aA z.aN z.aC := Eq.trans h1 (H.k1 (hL 1 (by kernel_rfl)))
       replace h2 : r (.tmp 64) = vs 5 := h2
       exact give_wq_a (H.A hl).1 (H.S (hL 5 (by kernel_rfl)) hl) HLn.out rfl h1 h2 (fun ad n cap w' hf => ⟨fun h => absurd h (by simp [met1]), fun _ _ => ⟨ad, n, cap, rfl, hf⟩, fun h => absurd (h.symm.trans hST) (by decide), fun _ h => absurd h (by simp [met1]), H.k0, H.k1, H.k2, H.k3, H.k4, H.k7, fun _ => hL 1 (by kernel_rfl), fun _ => hL 5 (by kernel_rfl), fun _ => rfl, H.d4_3, H.d5_4⟩)
      ·
       rintro L vs wx r H hl hL ⟨h1, _⟩
       replace h1 : r (.tmp 2) = ptr w.heap.size := h1
       exact gvo (by simp [execOp, h1, ptr, go_sem]; done) { H with k7 := fun _ => rfl }
      ·
       rintro L vs wx r H hl hL ⟨h1, h2, _⟩
       replace h1 : r (.tmp 66) = .pointer (some ⟨w.heap.size, 14, none⟩) := Eq.trans h1 (H.k7 (hL 7 (by kernel_rfl)))
       obtain ⟨ad, n, cap, e, hf⟩ := H.B (hL 6 (by kernel_rfl)) hl
       replace h2 : r (.tmp 65) = .slice ad n cap := Eq.trans h2 e
       exact give_skip (exec_set oneSA rfl h1 h2 rfl rfl hf.hb (show 14 < (CV d z).size from (by decide : 14 < 22))) { H with A := fun h => absurd (h.symm.trans (hL 6 (by kernel_rfl))) (by decide), B := fun _ h => absurd h (by simp [met1]), C := fun _ => ⟨_, hf.store rfl⟩, S := fun _ h => absurd (h.symm.trans (hL 6 (by kernel_rfl))) (by decide), d8_6 := fun _ => hL 6 (by kernel_rfl) }
     ·
      intro vs2 a2 w8 H ha2
      obtain ⟨s2, hr2⟩ := H.C rfl
      have HQ8 : Hid (WQ B0 w w8 w.heap.size w1.heap.size _ s2) := hr2
      clear hr2 H
      simp only [putAll, Act.put, Nat.zero_add, Nat.reduceAdd, List.setIfInBounds_toArray, List.set_cons_succ, List.set_cons_zero] at ha2
      subst ha2
      go_wp2
      go_roundg (N - (k + 1))
      case measure => omega
      case rel => exact ⟨k + 1, { d with addrs := d.addrs ++ [fourV m] }, s2, by omega, rfl, by simp <;> omega, HQ8.out, HS.out.kd, by rw [HS.out.ws, HD.out, withS_step (withK_a (by have := HS.out.kd; have := HK.out; omega) (by omega) hK5)], by simp only [List.length_append, List.length_cons, List.length_nil]; have := HS.out.la; omega, Nat.le_succ_of_le HS.out.lo⟩
    ·
     by_cases hlast : k + 1 = N
     ·
      by_cases hK7 : K = 7
      ·
       have hz : ((k : Int) == 0) = false := beq_false_of_ne (by omega)
       have hz2 : decide ((k : Int) > 0) = true := decide_eq_true (by omega)
       have hz3 : decide (0 < k) = true := decide_eq_true (by omega)
       have e5 : (K == 5) = false := beq_false_of_ne hK5
       have e7 : (K == 7) = true := beq_iff_eq.2 hK7
       have hl9 : b9 = true := by rw [← hb9]; exact beq_iff_eq.2 (by omega)
       subst hl9
       go_wp2_with (first
        | (refine wl_setQ HQ.out.1 rfl oneS 15 rfl (by first | rfl | go_simp) (by first | rfl | go_simp) rfl rfl (by decide) ({ d with info := m }) ({ z with iA := ua, iN := l, iC := uc }) (fun h => ⟨h.ext, h.lo, h.hb, h.lz, h.hz, h.ne, h.t, h.r, HU.out.1, h.g, h.d, h.a, h.o⟩) rfl ?_; intro w8 hr; have HQ8 : Hid (WQ B0 w w8 w.heap.size w1.heap.size ({ d with info := m }) ({ z with iA := ua, iN := l, iC := uc })) := hr; clear hr)
        | (have q_ := hb6; clear q_; refine wl_store (D := #[.int .i64 K, .slice ua l uc]) rfl rowPd rfl rfl rfl hb6 rfl rfl (one_par _ _ rfl) ?_; intro w7 hb7 hk7 hx; clear hx; have he7 : Ext wr w7 := he6.of_but hk7 (fun k e => by subst e; exact Nat.le_refl _); have HQ : Hid (WQ B0 w w7 w.heap.size w1.heap.size d z ∧ Blk w7 wr.heap.size #[.int .i64 K, .slice ua l uc] 85) := ⟨HS.out.wq.grow he7, hb7⟩; have x0 : w7.cell? ⟨wr.heap.size, 0, none⟩ = some (.int .i64 K) := hb7.cell 0; have x1 : w7.cell? ⟨wr.heap.size, 1, none⟩ = some (.slice ua l uc) := hb7.cell 1; have c0 : w7.cell? ⟨w.heap.size, 0, none⟩ = some (.int .i64 (2)) := (cv0 HQ.out.1.hb).trans (by rw [HK.out]); clear hb6 hb7 hk7 he7 he6 hc0 hc1)
        | (refine wl_alloc rfl rfl zeroPd ?_; intro w6 hb6 he6 hx; clear hx)
        | (refine wl_loadP rfl rowPd rfl rfl hc0 hc1 ?_))
       go_roundg (N - (k + 1))
       case measure => omega
       case rel => exact ⟨k + 1, { d with info := m }, { z with iA := ua, iN := l, iC := uc }, by omega, rfl, by simp <;> omega, HQ8.out, HS.out.kd, by rw [HS.out.ws, HD.out, withS_step (withK_7 (by have := HS.out.kd; have := HK.out; omega) (by omega) hlast hK7)], Nat.le_succ_of_le HS.out.la, Nat.le_succ_of_le HS.out.lo⟩
      ·
       have hz : ((k : Int) == 0) = false := beq_false_of_ne (by omega)
       have hz2 : decide ((k : Int) > 0) = true := decide_eq_true (by omega)
       have hz3 : decide (0 < k) = true := decide_eq_true (by omega)
       have e5 : (K == 5) = false := beq_false_of_ne hK5
       have e7 : (K == 7) = false := beq_false_of_ne hK7
       have hl9 : b9 = true := by rw [← hb9]; exact beq_iff_eq.2 (by omega)
       subst hl9
       have HF : Hid (¬ ((c.kind = 1 ∨ c.kind = 2) ∧ k = 0 ∧ K = 32770) ∧ ¬ ((c.kind = 1 ∨ c.kind = 2) ∧ 0 < k ∧ K = 5) ∧ ¬ (c.kind = 2 ∧ 0 < k ∧ k + 1 = N ∧ K = 7) ∧ ¬ ((c.kind = 4 ∨ c.kind = 5) ∧ k = 0 ∧ k + 1 = N ∧ K = 1) ∧ ¬ c.kind = 193) := by have := HS.out.kd; have := HK.out; refine ⟨?_, ?_, ?_, ?_, ?_⟩ <;> omega
       go_wp2_with (first
        | (refine wl_store (D := CV (ck0 0) sv0) rfl rowC2 rfl rfl rfl HQ.out.1.hz rfl rfl (CV.one _ _) ?_; intro w8 hb8 hk8 hx; clear hx)
        | (have q_ := hb6; clear q_; refine wl_store (D := #[.int .i64 K, .slice ua l uc]) rfl rowPd rfl rfl rfl hb6 rfl rfl (one_par _ _ rfl) ?_; intro w7 hb7 hk7 hx; clear hx; have he7 : Ext wr w7 := he6.of_but hk7 (fun k e => by subst e; exact Nat.le_refl _); have HQ : Hid (WQ B0 w w7 w.heap.size w1.heap.size d z ∧ Blk w7 wr.heap.size #[.int .i64 K, .slice ua l uc] 85) := ⟨HS.out.wq.grow he7, hb7⟩; have x0 : w7.cell? ⟨wr.heap.size, 0, none⟩ = some (.int .i64 K) := hb7.cell 0; have x1 : w7.cell? ⟨wr.heap.size, 1, none⟩ = some (.slice ua l uc) := hb7.cell 1; have c0 : w7.cell? ⟨w.heap.size, 0, none⟩ = some (.int .i64 (2)) := (cv0 HQ.out.1.hb).trans (by rw [HK.out]); clear hb6 hb7 hk7 he7 he6 hc0 hc1)
        | (refine wl_alloc rfl rfl zeroPd ?_; intro w6 hb6 he6 hx; clear hx)
        | (refine wl_loadP rfl rowPd rfl rfl hc0 hc1 ?_))
       refine bodyPost_ret (res_two (fn := Try.f47) (p := 4) (u := 5) rfl _ _ rfl rfl hb8 Try.underlying32 (by kernel_rfl)) rfl ?_
       refine show WithIs B0 w c Lp N _ w8 from ⟨HQ.out.1.ext.of_but hk8 (fun k e => by subst e; exact HQ.out.1.lz), _, _, _, rfl, lq0 _ _ _, .inr ⟨rfl, rfl, rfl, fun d2 h2 => ?_⟩⟩
       rw [HS.out.ws, HD.out, withS_fail (withK_no HF.out.1 HF.out.2.1 HF.out.2.2.1 HF.out.2.2.2.1 HF.out.2.2.2.2)] at h2
       cases h2
     ·
      have hz : ((k : Int) == 0) = false := beq_false_of_ne (by omega)
      have hz2 : decide ((k : Int) > 0) = true := decide_eq_true (by omega)
      have hz3 : decide (0 < k) = true := decide_eq_true (by omega)
      have e5 : (K == 5) = false := beq_false_of_ne hK5
      have hl9 : b9 = false := by rw [← hb9]; exact beq_false_of_ne (by omega)
      subst hl9
      have HF : Hid (¬ ((c.kind = 1 ∨ c.kind = 2) ∧ k = 0 ∧ K = 32770) ∧ ¬ ((c.kind = 1 ∨ c.kind = 2) ∧ 0 < k ∧ K = 5) ∧ ¬ (c.kind = 2 ∧ 0 < k ∧ k + 1 = N ∧ K = 7) ∧ ¬ ((c.kind = 4 ∨ c.kind = 5) ∧ k = 0 ∧ k + 1 = N ∧ K = 1) ∧ ¬ c.kind = 193) := by have := HS.out.kd; have := HK.out; refine ⟨?_, ?_, ?_, ?_, ?_⟩ <;> omega
      go_wp2_with (first
       | (refine wl_store (D := CV (ck0 0) sv0) rfl rowC2 rfl rfl rfl HQ.out.1.hz rfl rfl (CV.one _ _) ?_; intro w8 hb8 hk8 hx; clear hx)
       | (have q_ := hb6; clear q_; refine wl_store (D := #[.int .i64 K, .slice ua l uc]) rfl rowPd rfl rfl rfl hb6 rfl rfl (one_par _ _ rfl) ?_; intro w7 hb7 hk7 hx; clear hx; have he7 : Ext wr w7 := he6.of_but hk7 (fun k e => by subst e; exact Nat.le_refl _); have HQ : Hid (WQ B0 w w7 w.heap.size w1.heap.size d z ∧ Blk w7 wr.heap.size #[.int .i64 K, .slice ua l uc] 85) := ⟨HS.out.wq.grow he7, hb7⟩; have x0 : w7.cell? ⟨wr.heap.size, 0, none⟩ = some (.int .i64 K) := hb7.cell 0; have x1 : w7.cell? ⟨wr.heap.size, 1, none⟩ = some (.slice ua l uc) := hb7.cell 1; have c0 : w7.cell? ⟨w.heap.size, 0, none⟩ = some (.int .i64 (2)) := (cv0 HQ.out.1.hb).trans (by rw [HK.out]); clear hb6 hb7 hk7 he7 he6 hc0 hc1)
       | (refine wl_alloc rfl rfl zeroPd ?_; intro w6 hb6 he6 hx; clear hx)
       | (refine wl_loadP rfl rowPd rfl rfl hc0 hc1 ?_))
      refine bodyPost_ret (res_two (fn := Try.f47) (p := 4) (u := 5) rfl _ _ rfl rfl hb8 Try.underlying32 (by kernel_rfl)) rfl ?_
      refine show WithIs B0 w c Lp N _ w8 from ⟨HQ.out.1.ext.of_but hk8 (fun k e => by subst e; exact HQ.out.1.lz), _, _, _, rfl, lq0 _ _ _, .inr ⟨rfl, rfl, rfl, fun d2 h2 => ?_⟩⟩
      rw [HS.out.ws, HD.out, withS_fail (withK_no HF.out.1 HF.out.2.1 HF.out.2.2.1 HF.out.2.2.2.1 HF.out.2.2.2.2)] at h2
      cases h2
  ·
   have hd : decide ((k : Int) < (N : Int)) = false := decide_eq_false (by omega)
   have HE : Hid (withS c.kind N 0 c Lp = some d) := show _ = _ by
    rw [HS.out.ws, List.drop_eq_nil_of_le (by rw [← HN.out]; omega)]; rfl
   cases hgd : goodB d
   ·
    go_wp2_with (first
     | (refine wl_load rfl rowC2 rfl rfl HS.out.wq.hb rfl ?_)
     | (go_at_call 11; refine (refGoodC HS.out.wq.at).mono ?_; rintro e w3 ⟨rfl, he3⟩; rw [hgd]; have HQ3 : Hid (WQ B0 w w3 w.heap.size w1.heap.size d z) := HS.out.wq.grow he3; clear he3)
     | (refine wl_store (D := CV (ck0 0) sv0) rfl rowC2 rfl rfl rfl HQ3.out.hz rfl rfl (CV.one _ _) ?_; intro w8 hb8 hk8 hx; clear hx))
    refine bodyPost_ret (res_two (fn := Try.f47) (p := 4) (u := 5) rfl _ _ rfl rfl hb8 Try.underlying32 (by kernel_rfl)) rfl ?_
    refine show WithIs B0 w c Lp N _ w8 from ⟨HQ3.out.ext.of_but hk8 (fun k e => by subst e; exact HQ3.out.lz), _, _, _, rfl, lq0 _ _ _, .inr ⟨rfl, rfl, rfl, fun d2 h2 => ?_⟩⟩
    rw [HE.out] at h2
    cases h2
    exact hgd
   ·
    go_wp2_with (first
     | (refine wl_load rfl rowC2 rfl rfl HQ3.out.hb rfl ?_)
     | (refine wl_load rfl rowC2 rfl rfl HS.out.wq.hb rfl ?_)
     | (go_at_call 11; refine (refGoodC HS.out.wq.at).mono ?_; rintro e w3 ⟨rfl, he3⟩; rw [hgd]; have HQ3 : Hid (WQ B0 w w3 w.heap.size w1.heap.size d z) := HS.out.wq.grow he3; clear he3)
     | (refine wl_store (D := CV d z) rfl rowC2 rfl rfl rfl HQ3.out.hz rfl rfl (CV.one _ _) ?_; intro w8 hb8 hk8 hx; clear hx))
    refine bodyPost_ret (res_two (fn := Try.f47) (p := 4) (u := 5) rfl _ _ rfl rfl hb8 Try.underlying32 (by kernel_rfl)) rfl ?_
    exact show WithIs B0 w c Lp N _ w8 from ⟨HQ3.out.ext.of_but hk8 (fun k e => by subst e; exact HQ3.out.lz), _, _, _, rfl, ⟨HQ3.out.t.ext (HQ3.out.ext.of_but hk8 (fun k e => by subst e; exact HQ3.out.lz)), HQ3.out.r.ext (HQ3.out.ext.of_but hk8 (fun k e => by subst e; exact HQ3.out.lz)), (HQ3.out.a.mono_via hk8 (ownsRow_ne HQ3.out.a.1 HQ3.out.hz (by decide))).base HB0.out, HQ3.out.i.ext (HQ3.out.ext.of_but hk8 (fun k e => by subst e; exact HQ3.out.lz)), HQ3.out.g.ext (HQ3.out.ext.of_but hk8 (fun k e => by subst e; exact HQ3.out.lz)), HQ3.out.d.ext (HQ3.out.ext.of_but hk8 (fun k e => by subst e; exact HQ3.out.lz)), (HQ3.out.o.but hk8 (ownsRow_ne HQ3.out.o.1 HQ3.out.hz (by decide))).base HB0.out⟩, .inl ⟨rfl, HE.out, hgd⟩⟩
theorem with_4 {B0 : Nat} {w : World} {c : Ck} {s : Sv} {la : Option Addr} {N lc : Nat} {Lp : List Par} (ha : ListsQ B0 w s c) (hB0 : B0 ≤ w.heap.size) (hkc : c.kind = 4) (hn : (s.aA = none ∧ s.aN = 0 ∧ s.aC = 0 ∧ c.addrs = []) ∧ s.oA = none ∧ s.oN = 0 ∧ s.oC = 0 ∧ c.ops = []) (hp : OwnL 85 w B0 (.slice la N lc) Lp) (hN : Lp.length ≤ 25000) (hg : ∀ p ∈ Lp, (0 ≤ p.1 ∧ p.1 ≤ 65535) ∧ p.2.length ≤ 1000000) :
  Calls Try.prog 47 #[.agg (CV c s), .slice la N lc] w (WithIs B0 w c Lp N) := by
 have hNL : N = Lp.length := hp.len
 have HB0 : Hid (B0 ≤ w.heap.size) := hB0
 have HP : Hid (OwnL 85 w B0 (.slice la N lc) Lp) := hp
 have HG : Hid (∀ p ∈ Lp, (0 ≤ p.1 ∧ p.1 ≤ 65535) ∧ p.2.length ≤ 1000000) := hg
 have HN : Hid (N = Lp.length) := hNL
 have HA : Hid (ListsQ B0 w s c ∧ OwnN .i64 w w.heap.size 65 (.slice s.aA s.aN s.aC) c.addrs ∧ OwnP 71 w w.heap.size (.slice s.oA s.oN s.oC) c.ops ∧ c.addrs.length = 0 ∧ c.ops.length = 0) := by
  obtain ⟨⟨e1, e2, e3, e4⟩, f1, f2, f3, f4⟩ := hn
  rw [e1, e2, e3, e4, f1, f2, f3, f4]
  exact ⟨ha, OwnN.nil _ _ _ _, OwnP.nil _ _ _, rfl, rfl⟩
 have hN2 : N ≤ 25000 := by omega
 have hs1 : wrap64 ((N : Int) - 1) = (N : Int) - 1 := by unfold wrap64; omega
 have hs2 : IntKind.i64.wrap ((N : Int) - 1) = (N : Int) - 1 := by rw [IntKind.wrap_i64]; omega
 have HKC : Hid (c.kind = 4) := hkc
 clear ha hn hp hN hg hNL hkc hB0
 go_enter Try.func47, Try.ntmps47
 go_wp2_with (first
  | (refine wl_box (C := CV c s) rfl rfl rfl ?_; intro w1 hb1 he1 hx; have HX1 : Hid (w1.heap.size = w.heap.size + 1) := hx; clear hx)
  | (refine wl_alloc rfl rfl zeroCd ?_; intro w2 hb2 he2 hx; clear hx; have HQ2 : Hid (WQ B0 w w2 w.heap.size w1.heap.size c s) := ⟨he1.trans he2, Nat.le_refl _, hb1.ext he2, he1.size, hb2, by have := HX1.out; omega, HA.out.1.t, HA.out.1.r, HA.out.1.i, HA.out.1.g, HA.out.1.d, HA.out.2.1.ext (he1.trans he2), HA.out.2.2.1.ext (he1.trans he2)⟩; clear hb1 hb2 he1 he2))
 go_loopg [6] N (fun gm t wr => ∃ (k : Nat) (d : Ck) (z : Sv), k ≤ N ∧ gm = N - k ∧ t = .int .i64 (k : Int) ∧ Hid (WSt B0 w wr w.heap.size w1.heap.size c Lp N k d z))
 case atStart => exact ⟨0, c, s, Nat.zero_le _, rfl, rfl, HQ2.out, rfl, rfl, by rw [HA.out.2.2.2.1]; exact Nat.le_refl _, by rw [HA.out.2.2.2.2]; exact Nat.le_refl _⟩
 case round =>
  obtain ⟨k, d, z, hk, rfl, rfl, HS⟩ := hrel
  by_cases hlt : k < N
  ·
   have hd : decide ((k : Int) < (N : Int)) = true := decide_eq_true (by omega)
   have hkn : (k : Int) < (N : Int) := by omega
   have hkL : k < Lp.length := by rw [← HN.out]; exact hlt
   obtain ⟨b, u, rfl, hc0, hc1, hu⟩ := HP.out.at k hkL
   obtain ⟨p, hp⟩ : ∃ p, p = Lp.getD k (0, []) := ⟨_, rfl⟩
   rw [← hp] at hc0 hu
   have HD : Hid (Lp.drop k = p :: Lp.drop (k + 1)) := show _ = _ by
    rw [List.drop_eq_getElem_cons hkL, hp]
    simp [List.getD_eq_getElem?_getD, hkL]
   have hgk := HG.out p (by rw [hp]; exact getD_mem Lp _ k hkL)
   obtain ⟨K, m⟩ := p
   dsimp only at hc0 hu hgk
   obtain ⟨ua, uc, rfl⟩ := hu.form
   obtain ⟨l, hl⟩ : ∃ l, l = m.length := ⟨_, rfl⟩
   rw [← hl] at hc1 hu
   have HU : Hid (OB w B0 (.slice ua l uc) m ∧ m.length ≤ 1000000) := ⟨hu, hgk.2⟩
   have HKw : Hid (IntKind.i64.wrap (K - 49152) = K - 49152) := show _ = _ by rw [IntKind.wrap_i64]; omega
   replace hc0 := HS.out.wq.ext.cell hc0
   replace hc1 := HS.out.wq.ext.cell hc1
   obtain ⟨b9, hb9⟩ : ∃ x, ((k : Int) == (N : Int) - 1) = x := ⟨_, rfl⟩
   clear hp hl hu hgk hkL HQ2
   have HK : Hid (d.kind = 4) := HS.out.kd.trans HKC.out
   by_cases hk0 : k = 0
   ·
    by_cases hlast : k + 1 = N
    ·
     by_cases hK1 : K = 1
     ·
      replace hc0 : wr.cell? ⟨b, 0, none⟩ = some (.int .i64 K) := by rw [hk0] at hc0; simpa using hc0
      replace hc1 : wr.cell? ⟨b, 1, none⟩ = some (.slice ua l uc) := by rw [hk0] at hc1; simpa using hc1
      have hb0 : ((0 : Int) == (N : Int) - 1) = b9 := by rw [← hb9, hk0]; rfl
      have hz : ((k : Int) == 0) = true := beq_iff_eq.2 (by omega)
      have hz2 : decide ((k : Int) > 0) = false := decide_eq_false (by omega)
      have hz3 : decide (0 < k) = false := decide_eq_false (by omega)
      have e1 : (K == 1) = true := beq_iff_eq.2 hK1
      have hl9 : b9 = true := by rw [← hb9]; exact beq_iff_eq.2 (by omega)
      subst hl9
      go_wp2_with (first
       | (refine wl_setQ HQ.out.1 rfl oneS 15 rfl (by first | rfl | go_simp) (by first | rfl | go_simp) rfl rfl (by decide) ({ d with info := m }) ({ z with iA := ua, iN := l, iC := uc }) (fun h => ⟨h.ext, h.lo, h.hb, h.lz, h.hz, h.ne, h.t, h.r, HU.out.1, h.g, h.d, h.a, h.o⟩) rfl ?_; intro w8 hr; have HQ8 : Hid (WQ B0 w w8 w.heap.size w1.heap.size ({ d with info := m }) ({ z with iA := ua, iN := l, iC := uc })) := hr; clear hr)
       | (have q_ := hb6; clear q_; refine wl_store (D := #[.int .i64 K, .slice ua l uc]) rfl rowPd rfl rfl rfl hb6 rfl rfl (one_par _ _ rfl) ?_; intro w7 hb7 hk7 hx; clear hx; have he7 : Ext wr w7 := he6.of_but hk7 (fun k e => by subst e; exact Nat.le_refl _); have HQ : Hid (WQ B0 w w7 w.heap.size w1.heap.size d z ∧ Blk w7 wr.heap.size #[.int .i64 K, .slice ua l uc] 85) := ⟨HS.out.wq.grow he7, hb7⟩; have x0 : w7.cell? ⟨wr.heap.size, 0, none⟩ = some (.int .i64 K) := hb7.cell 0; have x1 : w7.cell? ⟨wr.heap.size, 1, none⟩ = some (.slice ua l uc) := hb7.cell 1; have c0 : w7.cell? ⟨w.heap.size, 0, none⟩ = some (.int .i64 (4)) := (cv0 HQ.out.1.hb).trans (by rw [HK.out]); clear hb6 hb7 hk7 he7 he6 hc0 hc1)
       | (refine wl_alloc rfl rfl zeroPd ?_; intro w6 hb6 he6 hx; clear hx)
       | (refine wl_loadP rfl rowPd rfl rfl hc0 hc1 ?_))
      go_roundg (N - (k + 1))
      case measure => omega
      case rel => exact ⟨k + 1, { d with info := m }, { z with iA := ua, iN := l, iC := uc }, by omega, rfl, by simp <;> omega, HQ8.out, HS.out.kd, by rw [HS.out.ws, HD.out, withS_step (withK_1 (by have := HS.out.kd; have := HK.out; omega) hk0 hlast hK1)], Nat.le_succ_of_le HS.out.la, Nat.le_succ_of_le HS.out.lo⟩
     ·
      replace hc0 : wr.cell? ⟨b, 0, none⟩ = some (.int .i64 K) := by rw [hk0] at hc0; simpa using hc0
      replace hc1 : wr.cell? ⟨b, 1, none⟩ = some (.slice ua l uc) := by rw [hk0] at hc1; simpa using hc1
      have hb0 : ((0 : Int) == (N : Int) - 1) = b9 := by rw [← hb9, hk0]; rfl
      have hz : ((k : Int) == 0) = true := beq_iff_eq.2 (by omega)
      have hz2 : decide ((k : Int) > 0) = false := decide_eq_false (by omega)
      have hz3 : decide (0 < k) = false := decide_eq_false (by omega)
      have e1 : (K == 1) = false := beq_false_of_ne hK1
      have hl9 : b9 = true := by rw [← hb9]; exact beq_iff_eq.2 (by omega)
      subst hl9
      have HF : Hid (¬ ((c.kind = 1 ∨ c.kind = 2) ∧ k = 0 ∧ K = 32770) ∧ ¬ ((c.kind = 1 ∨ c.kind = 2) ∧ 0 < k ∧ K = 5) ∧ ¬ (c.kind = 2 ∧ 0 < k ∧ k + 1 = N ∧ K = 7) ∧ ¬ ((c.kind = 4 ∨ c.kind = 5) ∧ k = 0 ∧ k + 1 = N ∧ K = 1) ∧ ¬ c.kind = 193) := by have := HS.out.kd; have := HK.out; refine ⟨?_, ?_, ?_, ?_, ?_⟩ <;> omega
      go_wp2_with (first
       | (refine wl_store (D := CV (ck0 0) sv0) rfl rowC2 rfl rfl rfl HQ.out.1.hz rfl rfl (CV.one _ _) ?_; intro w8 hb8 hk8 hx; clear hx)
       | (have q_ := hb6; clear q_; refine wl_store (D := #[.int .i64 K, .slice ua l uc]) rfl rowPd rfl rfl rfl hb6 rfl rfl (one_par _ _ rfl) ?_; intro w7 hb7 hk7 hx; clear hx; have he7 : Ext wr w7 := he6.of_but hk7 (fun k e => by subst e; exact Nat.le_refl _); have HQ : Hid (WQ B0 w w7 w.heap.size w1.heap.size d z ∧ Blk w7 wr.heap.size #[.int .i64 K, .slice ua l uc] 85) := ⟨HS.out.wq.grow he7, hb7⟩; have x0 : w7.cell? ⟨wr.heap.size, 0, none⟩ = some (.int .i64 K) := hb7.cell 0; have x1 : w7.cell? ⟨wr.heap.size, 1, none⟩ = some (.slice ua l uc) := hb7.cell 1; have c0 : w7.cell? ⟨w.heap.size, 0, none⟩ = some (.int .i64 (4)) := (cv0 HQ.out.1.hb).trans (by rw [HK.out]); clear hb6 hb7 hk7 he7 he6 hc0 hc1)
       | (refine wl_alloc rfl rfl zeroPd ?_; intro w6 hb6 he6 hx; clear hx)
       | (refine wl_loadP rfl rowPd rfl rfl hc0 hc1 ?_))
      refine bodyPost_ret (res_two (fn := Try.f47) (p := 4) (u := 5) rfl _ _ rfl rfl hb8 Try.underlying32 (by kernel_rfl)) rfl ?_
      refine show WithIs B0 w c Lp N _ w8 from ⟨HQ.out.1.ext.of_but hk8 (fun k e => by subst e; exact HQ.out.1.lz), _, _, _, rfl, lq0 _ _ _, .inr ⟨rfl, rfl, rfl, fun d2 h2 => ?_⟩⟩
      rw [HS.out.ws, HD.out, withS_fail (withK_no HF.out.1 HF.out.2.1 HF.out.2.2.1 HF.out.2.2.2.1 HF.out.2.2.2.2)] at h2
      cases h2
    ·
     replace hc0 : wr.cell? ⟨b, 0, none⟩ = some (.int .i64 K) := by rw [hk0] at hc0; simpa using hc0
     replace hc1 : wr.cell? ⟨b, 1, none⟩ = some (.slice ua l uc) := by rw [hk0] at hc1; simpa using hc1
     have hb0 : ((0 : Int) == (N : Int) - 1) = b9 := by rw [← hb9, hk0]; rfl
     have hz : ((k : Int) == 0) = true := beq_iff_eq.2 (by omega)
     have hz2 : decide ((k : Int) > 0) = false := decide_eq_false (by omega)
     have hz3 : decide (0 < k) = false := decide_eq_false (by omega)
     have hl9 : b9 = false := by rw [← hb9]; exact beq_false_of_ne (by omega)
     subst hl9
     have HF : Hid (¬ ((c.kind = 1 ∨ c.kind = 2) ∧ k = 0 ∧ K = 32770) ∧ ¬ ((c.kind = 1 ∨ c.kind = 2) ∧ 0 < k ∧ K = 5) ∧ ¬ (c.kind = 2 ∧ 0 < k ∧ k + 1 = N ∧ K = 7) ∧ ¬ ((c.kind = 4 ∨ c.kind = 5) ∧ k = 0 ∧ k + 1 = N ∧ K = 1) ∧ ¬ c.kind = 193) := by have := HS.out.kd; have := HK.out; refine ⟨?_, ?_, ?_, ?_, ?_⟩ <;> omega
     go_wp2_with (first
      | (refine wl_store (D := CV (ck0 0) sv0) rfl rowC2 rfl rfl rfl HQ.out.1.hz rfl rfl (CV.one _ _) ?_; intro w8 hb8 hk8 hx; clear hx)
      | (have q_ := hb6; clear q_; refine wl_store (D := #[.int .i64 K, .slice ua l uc]) rfl rowPd rfl rfl rfl hb6 rfl rfl (one_par _ _ rfl) ?_; intro w7 hb7 hk7 hx; clear hx; have he7 : Ext wr w7 := he6.of_but hk7 (fun k e => by subst e; exact Nat.le_refl _); have HQ : Hid (WQ B0 w w7 w.heap.size w1.heap.size d z ∧ Blk w7 wr.heap.size #[.int .i64 K, .slice ua l uc] 85) := ⟨HS.out.wq.grow he7, hb7⟩; have x0 : w7.cell? ⟨wr.heap.size, 0, none⟩ = some (.int .i64 K) := hb7.cell 0; have x1 : w7.cell? ⟨wr.heap.size, 1, none⟩ = some (.slice ua l uc) := hb7.cell 1; have c0 : w7.cell? ⟨w.heap.size, 0, none⟩ = some (.int .i64 (4)) := (cv0 HQ.out.1.hb).trans (by rw [HK.out]); clear hb6 hb7 hk7 he7 he6 hc0 hc1)
      | (refine wl_alloc rfl rfl zeroPd ?_; intro w6 hb6 he6 hx; clear hx)
      | (refine wl_loadP rfl rowPd rfl rfl hc0 hc1 ?_))
     refine bodyPost_ret (res_two (fn := Try.f47) (p := 4) (u := 5) rfl _ _ rfl rfl hb8 Try.underlying32 (by kernel_rfl)) rfl ?_
     refine show WithIs B0 w c Lp N _ w8 from ⟨HQ.out.1.ext.of_but hk8 (fun k e => by subst e; exact HQ.out.1.lz), _, _, _, rfl, lq0 _ _ _, .inr ⟨rfl, rfl, rfl, fun d2 h2 => ?_⟩⟩
     rw [HS.out.ws, HD.out, withS_fail (withK_no HF.out.1 HF.out.2.1 HF.out.2.2.1 HF.out.2.2.2.1 HF.out.2.2.2.2)] at h2
     cases h2
   ·
    have hz : ((k : Int) == 0) = false := beq_false_of_ne (by omega)
    have hz2 : decide ((k : Int) > 0) = true := decide_eq_true (by omega)
    have hz3 : decide (0 < k) = true := decide_eq_true (by omega)
    have HF : Hid (¬ ((c.kind = 1 ∨ c.kind = 2) ∧ k = 0 ∧ K = 32770) ∧ ¬ ((c.kind = 1 ∨ c.kind = 2) ∧ 0 < k ∧ K = 5) ∧ ¬ (c.kind = 2 ∧ 0 < k ∧ k + 1 = N ∧ K = 7) ∧ ¬ ((c.kind = 4 ∨ c.kind = 5) ∧ k = 0 ∧ k + 1 = N ∧ K = 1) ∧ ¬ c.kind = 193) := by have := HS.out.kd; have := HK.out; refine ⟨?_, ?_, ?_, ?_, ?_⟩ <;> omega
    go_wp2_with (first
     | (refine wl_store (D := CV (ck0 0) sv0) rfl rowC2 rfl rfl rfl HQ.out.1.hz rfl rfl (CV.one _ _) ?_; intro w8 hb8 hk8 hx; clear hx)
     | (have q_ := hb6; clear q_; refine wl_store (D := #[.int .i64 K, .slice ua l uc]) rfl rowPd rfl rfl rfl hb6 rfl rfl (one_par _ _ rfl) ?_; intro w7 hb7 hk7 hx; clear hx; have he7 : Ext wr w7 := he6.of_but hk7 (fun k e => by subst e; exact Nat.le_refl _); have HQ : Hid (WQ B0 w w7 w.heap.size w1.heap.size d z ∧ Blk w7 wr.heap.size #[.int .i64 K, .slice ua l uc] 85) := ⟨HS.out.wq.grow he7, hb7⟩; have x0 : w7.cell? ⟨wr.heap.size, 0, none⟩ = some (.int .i64 K) := hb7.cell 0; have x1 : w7.cell? ⟨wr.heap.size, 1, none⟩ = some (.slice ua l uc) := hb7.cell 1; have c0 : w7.cell? ⟨w.heap.size, 0, none⟩ = some (.int .i64 (4)) := (cv0 HQ.out.1.hb).trans (by rw [HK.out]); clear hb6 hb7 hk7 he7 he6 hc0 hc1)
     | (refine wl_alloc rfl rfl zeroPd ?_; intro w6 hb6 he6 hx; clear hx)
     | (refine wl_loadP rfl rowPd rfl rfl hc0 hc1 ?_))
    refine bodyPost_ret (res_two (fn := Try.f47) (p := 4) (u := 5) rfl _ _ rfl rfl hb8 Try.underlying32 (by kernel_rfl)) rfl ?_
    refine show WithIs B0 w c Lp N _ w8 from ⟨HQ.out.1.ext.of_but hk8 (fun k e => by subst e; exact HQ.out.1.lz), _, _, _, rfl, lq0 _ _ _, .inr ⟨rfl, rfl, rfl, fun d2 h2 => ?_⟩⟩
    rw [HS.out.ws, HD.out, withS_fail (withK_no HF.out.1 HF.out.2.1 HF.out.2.2.1 HF.out.2.2.2.1 HF.out.2.2.2.2)] at h2
    cases h2
  ·
   have hd : decide ((k : Int) < (N : Int)) = false := decide_eq_false (by omega)
   have HE : Hid (withS c.kind N 0 c Lp = some d) := show _ = _ by
    rw [HS.out.ws, List.drop_eq_nil_of_le (by rw [← HN.out]; omega)]; rfl
   cases hgd : goodB d
   ·
    go_wp2_with (first
     | (refine wl_load rfl rowC2 rfl rfl HS.out.wq.hb rfl ?_)
     | (go_at_call 11; refine (refGoodC HS.out.wq.at).mono ?_; rintro e w3 ⟨rfl, he3⟩; rw [hgd]; have HQ3 : Hid (WQ B0 w w3 w.heap.size w1.heap.size d z) := HS.out.wq.grow he3; clear he3)
     | (refine wl_store (D := CV (ck0 0) sv0) rfl rowC2 rfl rfl rfl HQ3.out.hz rfl rfl (CV.one _ _) ?_; intro w8 hb8 hk8 hx; clear hx))
    refine bodyPost_ret (res_two (fn := Try.f47) (p := 4) (u := 5) rfl _ _ rfl rfl hb8 Try.underlying32 (by kernel_rfl)) rfl ?_
    refine show WithIs B0 w c Lp N _ w8 from ⟨HQ3.out.ext.of_but hk8 (fun k e => by subst e; exact HQ3.out.lz), _, _, _, rfl, lq0 _ _ _, .inr ⟨rfl, rfl, rfl, fun d2 h2 => ?_⟩⟩
    rw [HE.out] at h2
    cases h2
    exact hgd
   ·
    go_wp2_with (first
     | (refine wl_load rfl rowC2 rfl rfl HQ3.out.hb rfl ?_)
     | (refine wl_load rfl rowC2 rfl rfl HS.out.wq.hb rfl ?_)
     | (go_at_call 11; refine (refGoodC HS.out.wq.at).mono ?_; rintro e w3 ⟨rfl, he3⟩; rw [hgd]; have HQ3 : Hid (WQ B0 w w3 w.heap.size w1.heap.size d z) := HS.out.wq.grow he3; clear he3)
     | (refine wl_store (D := CV d z) rfl rowC2 rfl rfl rfl HQ3.out.hz rfl rfl (CV.one _ _) ?_; intro w8 hb8 hk8 hx; clear hx))
    refine bodyPost_ret (res_two (fn := Try.f47) (p := 4) (u := 5) rfl _ _ rfl rfl hb8 Try.underlying32 (by kernel_rfl)) rfl ?_
    exact show WithIs B0 w c Lp N _ w8 from ⟨HQ3.out.ext.of_but hk8 (fun k e => by subst e; exact HQ3.out.lz), _, _, _, rfl, ⟨HQ3.out.t.ext (HQ3.out.ext.of_but hk8 (fun k e => by subst e; exact HQ3.out.lz)), HQ3.out.r.ext (HQ3.out.ext.of_but hk8 (fun k e => by subst e; exact HQ3.out.lz)), (HQ3.out.a.mono_via hk8 (ownsRow_ne HQ3.out.a.1 HQ3.out.hz (by decide))).base HB0.out, HQ3.out.i.ext (HQ3.out.ext.of_but hk8 (fun k e => by subst e; exact HQ3.out.lz)), HQ3.out.g.ext (HQ3.out.ext.of_but hk8 (fun k e => by subst e; exact HQ3.out.lz)), HQ3.out.d.ext (HQ3.out.ext.of_but hk8 (fun k e => by subst e; exact HQ3.out.lz)), (HQ3.out.o.but hk8 (ownsRow_ne HQ3.out.o.1 HQ3.out.hz (by decide))).base HB0.out⟩, .inl ⟨rfl, HE.out, hgd⟩⟩
end Tlv
end Go.Proofs.Ytigocaconkbalaa
