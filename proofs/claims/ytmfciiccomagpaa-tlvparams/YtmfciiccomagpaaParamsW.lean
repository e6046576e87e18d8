/- The law TlvParams. No condition of its own. -/
import Derived.Test.YtmfciiccomagpaaSame6
namespace Go.Proofs.Ytmfciiccomagpaa
namespace Tlv
open Go Go.RowKit
set_option linter.unusedVariables false
set_option linter.unusedSimpArgs false
set_option maxRecDepth 100000


theorem refParams_some {w : World} {v : Value} {B : List Nat} {L : List Par} (hv : BytesAt w v B) (hB : B.length ≤ 100000) (hL : readAll B = some L) :
    Calls Try.prog 34 #[v] w fun e w' => Ext w w' ∧ ∃ lv, e = .returned (.tuple #[lv, .bool true]) ∧ OwnL 59 w' w.heap.size lv L :=
  (refParams_any hv hB).mono fun e w' h => by
    obtain ⟨h1, ⟨h2, _⟩ | ⟨L', lv, h2, h3, h4⟩⟩ := h
    · rw [hL] at h2; cases h2
    · rw [hL] at h2; cases h2; exact ⟨h1, lv, h3, h4⟩
theorem refParams_none {w : World} {v : Value} {B : List Nat} (hv : BytesAt w v B) (hB : B.length ≤ 100000) (hL : readAll B = none) :
    Calls Try.prog 34 #[v] w fun e w' => Ext w w' ∧ e = .returned (.tuple #[.slice none 0 0, .bool false]) :=
  (refParams_any hv hB).mono fun e w' h => by
    obtain ⟨h1, ⟨_, h2⟩ | ⟨L', lv, h2, _⟩⟩ := h
    · exact ⟨h1, h2⟩
    · rw [hL] at h2; cases h2
set_option maxHeartbeats 4000000 in
theorem params_walk (u : Value) (B : List Nat) (w : World) (hu : BytesAt w u B) :
    Calls Try.prog 6 #[u] w fun e w' => e = .returned (.bool true) ∧ Ext w w' := by
  obtain ⟨a, c, rfl, hcm, _⟩ := hu.form
  obtain ⟨n0, hn0⟩ : ∃ n, n = B.length := ⟨_, rfl⟩
  rw [← hn0] at hu hcm ⊢
  have hn63 : (n0 : Int) ≤ 9223372036854775807 := by unfold maxLen at hcm; omega
  clear hcm
  by_cases hbig : 9000 < n0
  · have hd : decide ((n0 : Int) > 9000) = true := decide_eq_true (by omega)
    clear hu hn0
    go_enter Try.func6, Try.ntmps6
    go_wp2_with (first
      | (go_at_call 7; refine (alive_any _).mono ?_; rintro e w1 ⟨rfl, he1⟩))
    go_ret
    exact ⟨rfl, he1⟩
  have hd : decide ((n0 : Int) > 9000) = false := decide_eq_false (by omega)
  have H : Hid (BytesAt w (.slice a n0 c) B ∧ B.length ≤ 9000 ∧ AllB B) := ⟨hu, by omega, hu.1⟩
  clear hu hn0 hbig
  cases hr : readAll B with
  | none =>
    have HR : Hid (readAll B = none) := hr
    clear hr
    go_enter Try.func6, Try.ntmps6
    go_wp2_with (first
      | (go_at_call 7; refine (alive_any _).mono ?_; rintro e w1 ⟨rfl, he1⟩)
      | (at_builtin; refine wl_app (l := []) (m := B) (u := .slice a n0 c) (base := w1.heap.size) rfl rfl rfl rfl (OB.lit0 w1 _ _ rfl (Nat.le_refl _)) (H.out.1.ext (he1.trans (Ext.alloc _ _))) (by have := H.out; simp; omega) (by simp) ?_; intro ad n cap w2 hn2 ho2 hk2 hg2; rw [List.nil_append] at ho2; have HE2 : Hid (Ext w w2) := he1.trans ((Ext.alloc _ _).of_but hk2 (fun k e => by cases e; exact Nat.le_refl _)); clear hn2 hk2 hg2)
      | (go_at_call 31; refine (params_none ho2.bytes (by have := H.out; omega) HR.out).mono ?_; rintro e w3 ⟨he3, rfl⟩)
      | (go_at_call 34; refine (refParams_none (H.out.1.ext (HE2.out.trans he3)) (by have := H.out; omega) HR.out).mono ?_; rintro e w4 ⟨he4, rfl⟩)
      | (go_at_call 26; refine (isF _).mono ?_; rintro e w7 ⟨rfl, hw⟩; subst w7)
      | (go_at_call 33; refine (same_eq (OwnL.nil 75 _ 0).pars (OwnL.nil 59 _ 0).pars).mono ?_; rintro e w5 ⟨rfl, he5⟩; have hs1 := run_string_bytes byteT strT w5 _ _ ((ho2.ext (he3.trans he4)).ext he5).bytes; have hs2 := run_string_bytes byteT strT w5 _ _ (H.out.1.ext (((HE2.out.trans he3).trans he4).trans he5))))
    go_ret
    exact ⟨rfl, ((HE2.out.trans he3).trans he4).trans he5⟩
  | some L =>
    have HR : Hid (readAll B = some L ∧ (∀ p ∈ L, goodP p = true) ∧ writeB L = B ∧ 4 * L.length ≤ B.length) := by
      have h1 := readAll_some _ B L (Nat.le_refl _) H.out.2.2 hr
      exact ⟨hr, fun p hp => (h1.1 p hp).1, h1.2, readAll_len _ B L (Nat.le_refl _) hr⟩
    clear hr
    go_enter Try.func6, Try.ntmps6
    go_wp2_with (first
      | (go_at_call 7; refine (alive_any _).mono ?_; rintro e w1 ⟨rfl, he1⟩)
      | (at_builtin; refine wl_app (l := []) (m := B) (u := .slice a n0 c) (base := w1.heap.size) rfl rfl rfl rfl (OB.lit0 w1 _ _ rfl (Nat.le_refl _)) (H.out.1.ext (he1.trans (Ext.alloc _ _))) (by have := H.out; simp; omega) (by simp) ?_; intro ad n cap w2 hn2 ho2 hk2 hg2; rw [List.nil_append] at ho2; have HE2 : Hid (Ext w w2) := he1.trans ((Ext.alloc _ _).of_but hk2 (fun k e => by cases e; exact Nat.le_refl _)); clear hn2 hk2 hg2)
      | (go_at_call 31; refine (params_some ho2.bytes (by have := H.out; omega) HR.out.1).mono ?_; rintro e w3 ⟨he3, lv, rfl, hl3⟩)
      | (go_at_call 34; refine (refParams_some (H.out.1.ext (HE2.out.trans he3)) (by have := H.out; omega) HR.out.1).mono ?_; rintro e w4 ⟨he4, rv, rfl, hl4⟩)
      | (go_at_call 33; refine (same_eq (hl3.ext he4).pars hl4.pars).mono ?_; rintro e w5 ⟨rfl, he5⟩; have hs1 := run_string_bytes byteT strT w5 _ _ ((ho2.ext (he3.trans he4)).ext he5).bytes; have hs2 := run_string_bytes byteT strT w5 _ _ (H.out.1.ext (((HE2.out.trans he3).trans he4).trans he5)))
      | (go_at_call 29; refine (write_good ((hl3.ext he4).ext he5).pars (by have := H.out; rw [HR.out.2.2.1]; omega) (by have := HR.out; have := H.out; omega) HR.out.2.1).mono ?_; rintro e w6 ⟨he6, a6, n6, c6, rfl, hn6, ho6⟩; rw [HR.out.2.2.1] at ho6; clear hn6 hs1 hs2; have hs1 := run_string_bytes byteT strT w6 _ _ ho6.bytes; have hs2 := run_string_bytes byteT strT w6 _ _ (H.out.1.ext ((((HE2.out.trans he3).trans he4).trans he5).trans he6))))
    go_ret
    exact ⟨rfl, (((HE2.out.trans he3).trans he4).trans he5).trans he6⟩
end Tlv
end Go.Proofs.Ytmfciiccomagpaa
