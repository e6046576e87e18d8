/- Which text is less: the document's. No condition of its own. -/
import Derived.Test.YtaklbnaaoebknaaDoorCmp
import Derived.BigQuiet
namespace Go.Proofs.YtaklbnaaoebknaaDoor
open Go Go.RowKit
set_option linter.unusedVariables false
set_option linter.unusedSimpArgs false
set_option maxRecDepth 100000

theorem cmp_step {A B : List Nat} {k : Nat} (h1 : k < A.length) (h2 : k < B.length) : Mac.cmpL (A.drop k) (B.drop k) = if A.getD k 0 < B.getD k 0 then -1 else if B.getD k 0 < A.getD k 0 then 1 else Mac.cmpL (A.drop (k + 1)) (B.drop (k + 1)) := by
  have e1 : A.drop k = A.getD k 0 :: A.drop (k + 1) := by rw [List.drop_eq_getElem_cons h1]; simp [List.getD_eq_getElem?_getD, h1]
  have e2 : B.drop k = B.getD k 0 :: B.drop (k + 1) := by rw [List.drop_eq_getElem_cons h2]; simp [List.getD_eq_getElem?_getD, h2]
  rw [e1, e2]; rfl
theorem cmp_end {A B : List Nat} {k : Nat} (h : ¬ (k < A.length ∧ k < B.length)) (hk : k ≤ A.length) (hk2 : k ≤ B.length) : (Mac.cmpL (A.drop k) (B.drop k) < 0) ↔ A.length < B.length := by
  by_cases h1 : k < A.length
  · have e2 : B.drop k = [] := List.drop_eq_nil_of_le (by omega)
    have e1 : A.drop k = A[k] :: A.drop (k + 1) := List.drop_eq_getElem_cons h1
    rw [e1, e2]; simp [Mac.cmpL]; omega
  · have e1 : A.drop k = [] := List.drop_eq_nil_of_le (by omega)
    by_cases h2 : k < B.length
    · have e2 : B.drop k = B[k] :: B.drop (k + 1) := List.drop_eq_getElem_cons h2
      rw [e1, e2]; simp [Mac.cmpL]; omega
    · have e2 : B.drop k = [] := List.drop_eq_nil_of_le (by omega)
      rw [e1, e2]; simp [Mac.cmpL]; omega

set_option maxHeartbeats 4000000 in
theorem refLess_any (av bv : Value) (A B : List Nat) (w : World) (ha : BytesAt w av A) (hb : BytesAt w bv B) (hA : A.length ≤ 10000) (hB : B.length ≤ 10000) :
    Calls Tryd.prog 27 #[av, bv] w fun e w' => e = .returned (.bool (decide (Mac.cmpL A B < 0))) ∧ Ext w w' := by
  obtain ⟨R, hR⟩ : ∃ R, R = decide (Mac.cmpL A B < 0) := ⟨_, rfl⟩
  rw [← hR]
  have HRb : Hid (R = decide (Mac.cmpL A B < 0)) := hR
  obtain ⟨aa, ac, rfl, _, hac⟩ := ha.form
  obtain ⟨ba, bc, rfl, _, hbc⟩ := hb.form
  have HAc : Hid (∀ j, j < A.length → ∃ b off, aa = some ⟨b, off, none⟩ ∧ w.cell? ⟨b, off + j, none⟩ = some (.int .u8 (A.getD j 0 : Nat))) := hac
  have HBc : Hid (∀ j, j < B.length → ∃ b off, ba = some ⟨b, off, none⟩ ∧ w.cell? ⟨b, off + j, none⟩ = some (.int .u8 (B.getD j 0 : Nat))) := hbc
  rename_i z1 z2
  clear z1 z2 ha hb hac hbc hR
  go_enter Tryd.func27, Tryd.ntmps27
  go_wp2
  go_loopg [5] (A.length + 1) (fun g s wr => ∃ k : Nat, k ≤ A.length ∧ k ≤ B.length ∧ g = A.length + 1 - k ∧ s = .int .i64 (k : Int) ∧ Hid (Mac.cmpL A B = Mac.cmpL (A.drop k) (B.drop k) ∧ Ext w wr))
  case atStart => exact ⟨0, Nat.zero_le _, Nat.zero_le _, rfl, rfl, rfl, Ext.refl _⟩
  case round =>
    obtain ⟨k, hkA, hkB, rfl, rfl, HR⟩ := hrel
    by_cases h1 : k < A.length
    · have hd1 : decide ((k : Int) < (A.length : Int)) = true := decide_eq_true (by omega)
      by_cases h2 : k < B.length
      · have hd2 : decide ((k : Int) < (B.length : Int)) = true := decide_eq_true (by omega)
        obtain ⟨b1, o1, rfl, hc1⟩ := HAc.out k h1
        obtain ⟨b2, o2, rfl, hc2⟩ := HBc.out k h2
        have hx1 := HR.out.2.cell hc1
        have hx2 := HR.out.2.cell hc2
        have HS : Hid _ := cmp_step h1 h2
        clear hc1 hc2
        generalize A.getD k 0 = x at *
        generalize B.getD k 0 = y at *
        by_cases hxy : x = y
        · subst hxy
          go_wp2_with fail
          go_quiet (fail)
          go_wp2
          go_roundg (A.length + 1 - (k + 1))
          case measure => omega
          case rel => exact ⟨k + 1, by omega, by omega, rfl, by simp, by rw [HR.out.1, HS.out, if_neg (by omega), if_neg (by omega)], HR.out.2.trans (Ext.drewN _ _)⟩
        · have hne : ((x : Int) != (y : Int)) = true := by simp; omega
          go_wp2_with fail
          go_quiet (fail)
          have HE1 : Hid (Ext w (wr.drewN nq)) := HR.out.2.trans (Ext.drewN _ _)
          have hx1' : (wr.drewN nq).cell? ⟨b1, o1 + k, none⟩ = some (.int .u8 (x : Nat)) := hx1
          have hx2' : (wr.drewN nq).cell? ⟨b2, o2 + k, none⟩ = some (.int .u8 (y : Nat)) := hx2
          clear hx1 hx2
          generalize wr.drewN nq = w2 at *
          by_cases hlt : x < y
          · have hl1 : decide ((x : Int) < (y : Int)) = true := decide_eq_true (by omega)
            obtain rfl : R = true := by rw [HRb.out]; exact decide_eq_true (by rw [HR.out.1, HS.out, if_pos hlt]; decide)
            go_wp2_with fail
            go_quiet (fail)
            go_wp2
            go_ret
            exact ⟨rfl, HE1.out.trans (Ext.drewN _ _)⟩
          · have hl1 : decide ((x : Int) < (y : Int)) = false := decide_eq_false (by omega)
            obtain rfl : R = false := by rw [HRb.out]; exact decide_eq_false (by rw [HR.out.1, HS.out, if_neg hlt, if_pos (by omega)]; decide)
            go_wp2_with fail
            go_quiet (fail)
            go_wp2
            go_ret
            exact ⟨rfl, HE1.out.trans (Ext.drewN _ _)⟩
      · have hd2 : decide ((k : Int) < (B.length : Int)) = false := decide_eq_false (by omega)
        have hf : decide (A.length < B.length) = false := decide_eq_false (by omega)
        obtain rfl : R = false := by rw [HRb.out]; exact decide_eq_false (by rw [HR.out.1, cmp_end (by omega) hkA hkB]; omega)
        go_wp2
        go_ret
        exact ⟨rfl, HR.out.2⟩
    · have hd1 : decide ((k : Int) < (A.length : Int)) = false := decide_eq_false (by omega)
      by_cases hfin : A.length < B.length
      · have hf : decide (A.length < B.length) = true := decide_eq_true (by omega)
        obtain rfl : R = true := by rw [HRb.out]; exact decide_eq_true (by rw [HR.out.1, cmp_end (by omega) hkA hkB]; exact hfin)
        go_wp2
        go_ret
        exact ⟨rfl, HR.out.2⟩
      · have hf : decide (A.length < B.length) = false := decide_eq_false (by omega)
        obtain rfl : R = false := by rw [HRb.out]; exact decide_eq_false (by rw [HR.out.1, cmp_end (by omega) hkA hkB]; exact hfin)
        go_wp2
        go_ret
        exact ⟨rfl, HR.out.2⟩
end Go.Proofs.YtaklbnaaoebknaaDoor
