/- Which text is less, and a shared key: the code's. Condition: the tables hold what the text lays. -/
import Derived.Test.YtaklbnaaoebknaaDoorCmp
namespace Go.Proofs.YtaklbnaaoebknaaDoor
open Go Go.RowKit
set_option linter.unusedVariables false
set_option linter.unusedSimpArgs false
set_option maxRecDepth 100000

set_option maxHeartbeats 2000000 in
theorem derive_less {w : World} {av bv u : Value} {A B : List Nat} {ls : List (List Nat)} (hT : Tabs w) (ha : BytesAt w av A) (hb : BytesAt w bv B) (hv : PartsOf w u ls) (hA : A.length ≤ 10000) (hB : B.length ≤ 10000) (hlen : ls.flatten.length ≤ 50000) (hc : 0 < Mac.cmpL A B) :
    Calls Tryd.prog 13 #[av, bv, u] w fun e w' => ∃ v, e = .returned v ∧ BytesAt w' v (Sha.dgst (Mac.pair A B ++ ls.flatten)) ∧ Ext w w' := by
  have HA : Hid (Tabs w ∧ BytesAt w bv B ∧ BytesAt w av A ∧ PartsOf w u ls ∧ B.length ≤ 10000 ∧ A.length ≤ 10000 ∧ ls.flatten.length ≤ 50000) := ⟨hT, by assumption, by assumption, hv, by assumption, by assumption, hlen⟩
  have HAB : Hid (BytesAt w av A ∧ BytesAt w bv B) := ⟨ha, hb⟩
  obtain ⟨D, hD⟩ : ∃ D, D = Sha.dgst (Mac.pair A B ++ ls.flatten) := ⟨_, rfl⟩
  have HD : Hid (D = Sha.dgst ((B ++ A) ++ ls.flatten) ∧ D.length = 32 ∧ Sha.AllB D) := ⟨by rw [hD]; unfold Mac.pair; rw [if_pos hc], by rw [hD]; exact Mac.dlen _, by rw [hD]; exact Mac.dall _⟩
  rw [← hD]
  obtain ⟨c0, hc0⟩ : ∃ c, c = Mac.cmpL A B := ⟨_, rfl⟩
  rw [← hc0] at hc
  have HC0 : Hid (c0 = Mac.cmpL A B ∧ (0 < c0)) := ⟨hc0, hc⟩
  have hd0 : decide ((c0 : Int) > 0) = true := decide_eq_true (by have := HC0.out; omega)
  obtain ⟨aa, ac, rfl, _, _⟩ := ha.form
  obtain ⟨ba, bc, rfl, _, _⟩ := hb.form
  obtain ⟨_, ua, uc, rfl, _⟩ := hv
  rename_i z1 z2 z3 z4 z5 z6
  clear z1 z2 z3 z4 z5 z6 ha hb hT hD hc hc0
  go_enter Tryd.func13, Tryd.ntmps13
  go_wp2_with (first
    | (go_at_call 26; refine (compare_any _ _ A B _ HAB.out.1 HAB.out.2).mono ?_; rintro e wq ⟨rfl, hq⟩; have hq2 := hq.symm; clear hq; subst hq2; rw [← HC0.out.1])
    | (go_at_call 18; refine (begin_any _ HA.out.1).mono ?_; rintro e w1 ⟨rfl, hS1, he1⟩)
    | (go_at_call 19; have q := hS2; clear q; refine (add_any (HA.out.1.ext HE2.out) hS2 (HA.out.2.2.1.ext HE2.out) (fun hne g hg => by have := HA.out.2.2.1.lt hne hg; omega) (by have := HA.out.1.two; omega) (by have := HA.out; simp; omega)).mono ?_; rintro e w3 ⟨⟨x3, rfl⟩, hS3, hk3⟩; have HE3 : Hid (Ext w w3) := HE2.out.of_but hk3 (fun k e => by subst e; exact Nat.le_refl _))
    | (go_at_call 19; refine (add_any (HA.out.1.ext he1) hS1 (HA.out.2.1.ext he1) (fun hne g hg => by have := HA.out.2.1.lt hne hg; omega) (by have := HA.out.1.two; omega) (by have := HA.out; simp; omega)).mono ?_; rintro e w2 ⟨⟨x2, rfl⟩, hS2, hk2⟩; rw [List.nil_append] at hS2; have HE2 : Hid (Ext w w2) := he1.of_but hk2 (fun k e => by subst e; exact Nat.le_refl _))
    | (go_at_call 21; refine (sumBehind_any (w0 := w) HA.out.1 HE3.out (Nat.le_refl _) hS3 HA.out.2.2.2.1 (by have := HA.out; rw [List.length_append]; omega)).mono ?_; rintro e w4 ⟨rfl, hk4⟩; rw [← HD.out.1]; have HE4 : Hid (Ext w w4) := HE3.out.of_but hk4 (fun k e => by subst e; exact Nat.le_refl _))
    | (refine wl_alloc rfl rfl zero25 ?_; intro w5 hb5 he5 hx; clear hx; refine wl_store (D := bA D) rfl row25 rfl rfl rfl hb5 (by rw [bA_size, HD.out.2.1]) rfl (bA_one _) ?_; intro w6 hb6 hk6 hx; clear hx; have he6 := he5.of_but hk6 (fun k e => by subst e; exact Nat.le_refl _); clear hk6 he5 hb5)
    | (refine wpList_of_run rfl (exec_sliceA rfl Tryd.underlying25 rfl (by decide)) ?_))
  go_ret
  exact ⟨_, rfl, bytes_ofBlk hb6 HD.out.2.2 HD.out.2.1 (by decide), HE4.out.trans he6⟩

set_option maxHeartbeats 2000000 in
theorem derive_more {w : World} {av bv u : Value} {A B : List Nat} {ls : List (List Nat)} (hT : Tabs w) (ha : BytesAt w av A) (hb : BytesAt w bv B) (hv : PartsOf w u ls) (hA : A.length ≤ 10000) (hB : B.length ≤ 10000) (hlen : ls.flatten.length ≤ 50000) (hc : ¬ 0 < Mac.cmpL A B) :
    Calls Tryd.prog 13 #[av, bv, u] w fun e w' => ∃ v, e = .returned v ∧ BytesAt w' v (Sha.dgst (Mac.pair A B ++ ls.flatten)) ∧ Ext w w' := by
  have HA : Hid (Tabs w ∧ BytesAt w av A ∧ BytesAt w bv B ∧ PartsOf w u ls ∧ A.length ≤ 10000 ∧ B.length ≤ 10000 ∧ ls.flatten.length ≤ 50000) := ⟨hT, by assumption, by assumption, hv, by assumption, by assumption, hlen⟩
  have HAB : Hid (BytesAt w av A ∧ BytesAt w bv B) := ⟨ha, hb⟩
  obtain ⟨D, hD⟩ : ∃ D, D = Sha.dgst (Mac.pair A B ++ ls.flatten) := ⟨_, rfl⟩
  have HD : Hid (D = Sha.dgst ((A ++ B) ++ ls.flatten) ∧ D.length = 32 ∧ Sha.AllB D) := ⟨by rw [hD]; unfold Mac.pair; rw [if_neg hc], by rw [hD]; exact Mac.dlen _, by rw [hD]; exact Mac.dall _⟩
  rw [← hD]
  obtain ⟨c0, hc0⟩ : ∃ c, c = Mac.cmpL A B := ⟨_, rfl⟩
  rw [← hc0] at hc
  have HC0 : Hid (c0 = Mac.cmpL A B ∧ (¬ 0 < c0)) := ⟨hc0, hc⟩
  have hd0 : decide ((c0 : Int) > 0) = false := decide_eq_false (by have := HC0.out; omega)
  obtain ⟨aa, ac, rfl, _, _⟩ := ha.form
  obtain ⟨ba, bc, rfl, _, _⟩ := hb.form
  obtain ⟨_, ua, uc, rfl, _⟩ := hv
  rename_i z1 z2 z3 z4 z5 z6
  clear z1 z2 z3 z4 z5 z6 ha hb hT hD hc hc0
  go_enter Tryd.func13, Tryd.ntmps13
  go_wp2_with (first
    | (go_at_call 26; refine (compare_any _ _ A B _ HAB.out.1 HAB.out.2).mono ?_; rintro e wq ⟨rfl, hq⟩; have hq2 := hq.symm; clear hq; subst hq2; rw [← HC0.out.1])
    | (go_at_call 18; refine (begin_any _ HA.out.1).mono ?_; rintro e w1 ⟨rfl, hS1, he1⟩)
    | (go_at_call 19; have q := hS2; clear q; refine (add_any (HA.out.1.ext HE2.out) hS2 (HA.out.2.2.1.ext HE2.out) (fun hne g hg => by have := HA.out.2.2.1.lt hne hg; omega) (by have := HA.out.1.two; omega) (by have := HA.out; simp; omega)).mono ?_; rintro e w3 ⟨⟨x3, rfl⟩, hS3, hk3⟩; have HE3 : Hid (Ext w w3) := HE2.out.of_but hk3 (fun k e => by subst e; exact Nat.le_refl _))
    | (go_at_call 19; refine (add_any (HA.out.1.ext he1) hS1 (HA.out.2.1.ext he1) (fun hne g hg => by have := HA.out.2.1.lt hne hg; omega) (by have := HA.out.1.two; omega) (by have := HA.out; simp; omega)).mono ?_; rintro e w2 ⟨⟨x2, rfl⟩, hS2, hk2⟩; rw [List.nil_append] at hS2; have HE2 : Hid (Ext w w2) := he1.of_but hk2 (fun k e => by subst e; exact Nat.le_refl _))
    | (go_at_call 21; refine (sumBehind_any (w0 := w) HA.out.1 HE3.out (Nat.le_refl _) hS3 HA.out.2.2.2.1 (by have := HA.out; rw [List.length_append]; omega)).mono ?_; rintro e w4 ⟨rfl, hk4⟩; rw [← HD.out.1]; have HE4 : Hid (Ext w w4) := HE3.out.of_but hk4 (fun k e => by subst e; exact Nat.le_refl _))
    | (refine wl_alloc rfl rfl zero25 ?_; intro w5 hb5 he5 hx; clear hx; refine wl_store (D := bA D) rfl row25 rfl rfl rfl hb5 (by rw [bA_size, HD.out.2.1]) rfl (bA_one _) ?_; intro w6 hb6 hk6 hx; clear hx; have he6 := he5.of_but hk6 (fun k e => by subst e; exact Nat.le_refl _); clear hk6 he5 hb5)
    | (refine wpList_of_run rfl (exec_sliceA rfl Tryd.underlying25 rfl (by decide)) ?_))
  go_ret
  exact ⟨_, rfl, bytes_ofBlk hb6 HD.out.2.2 HD.out.2.1 (by decide), HE4.out.trans he6⟩

theorem derive_any {w : World} {av bv u : Value} {A B : List Nat} {ls : List (List Nat)} (hT : Tabs w) (ha : BytesAt w av A) (hb : BytesAt w bv B) (hv : PartsOf w u ls) (hA : A.length ≤ 10000) (hB : B.length ≤ 10000) (hlen : ls.flatten.length ≤ 50000) :
    Calls Tryd.prog 13 #[av, bv, u] w fun e w' => ∃ v, e = .returned v ∧ BytesAt w' v (Sha.dgst (Mac.pair A B ++ ls.flatten)) ∧ Ext w w' := by
  by_cases hc : 0 < Mac.cmpL A B
  · exact derive_less hT ha hb hv hA hB hlen hc
  · exact derive_more hT ha hb hv hA hB hlen hc
end Go.Proofs.YtaklbnaaoebknaaDoor
