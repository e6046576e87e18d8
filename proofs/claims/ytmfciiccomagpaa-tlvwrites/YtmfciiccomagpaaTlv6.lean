/- Noughts passed over; a reader made, and its end; errors as numbers. No condition of its own. -/
import Derived.Test.YtmfciiccomagpaaTlv5
namespace Go.Proofs.Ytmfciiccomagpaa
namespace Tlv
open Go Go.RowKit
set_option linter.unusedVariables false
set_option linter.unusedSimpArgs false
set_option maxRecDepth 100000


/-- The reader behind k of the noughts that were next. -/
def zst (r : Option Nat × List Nat) (k : Nat) : Option Nat := if allZ (r.2.take k) = true then r.1 else none
theorem zst_0 (r : Option Nat × List Nat) : zst r 0 = r.1 := rfl
theorem zst_bad {r : Option Nat × List Nat} {k : Nat} (hk : k < r.2.length) (h : r.2.getD k 0 ≠ 0) : zst r (k + 1) = none := by
  unfold zst; rw [take_next r.2 0 k hk, allZ_snoc, beq_false_of_ne h]; simp
theorem zst_ok {r : Option Nat × List Nat} {k : Nat} (hk : k < r.2.length) (h : r.2.getD k 0 = 0) : zst r (k + 1) = zst r k := by
  unfold zst; rw [take_next r.2 0 k hk, allZ_snoc, h]; simp
theorem zst_end {r : Option Nat × List Nat} {k : Nat} (hk : r.2.length ≤ k) : zst r k = if allZ r.2 = true then r.1 else none := by
  unfold zst; rw [List.take_of_length_le hk]
theorem takeS_n {B : List Nat} {s : Option Nat} {n : Nat} : (takeS B s (n : Int)).2.length ≤ n := by
  unfold takeS
  cases s with
  | none => simp
  | some a =>
    simp only
    split
    · rw [List.length_take]; omega
    · simp

set_option maxHeartbeats 2000000 in
theorem inPad_any {w : World} {base g : Nat} {bv : Value} {B : List Nat} {s : Option Nat} (h : InAt w base g bv B s) (hB : B.length ≤ 1000000) :
    Calls Try.prog 20 #[ptr g] w fun e w' => (∃ y, e = .returned y) ∧ InAt w' base g bv B (padS B s) ∧ KeepBut (· = g) w w' := by
  obtain ⟨_, a, b, HB, ha, hs⟩ := id h
  have c1 := HB.cell 1
  have HP : Hid (a ≤ 1000000) := Nat.le_trans ha hB
  have HX : Hid (Calls Try.prog 39 #[ptr g, .int .i64 ((pads a : Nat) : Int)] w (NextIs w base g bv B (takeS B s (pads a : Nat)))) := next_any h hB _
  have HE : Hid ((if allZ (takeS B s (pads a : Nat)).2 = true then (takeS B s (pads a : Nat)).1 else none) = padS B s) := by
    cases b with
    | true => have hs' : s = none := hs; subst hs'; exact (rfl : (none : Option Nat) = none)
    | false => have hs' : s = some a := hs; subst hs'; exact (padS_some B a).symm
  have HL : Hid ((takeS B s (pads a : Nat)).2.length ≤ 3) := Nat.le_trans takeS_n (by have := pads_lt a; omega)
  have HNE : Hid (∀ k, bv.ownBlock = some k → k ≠ g) := h.ne
  clear h hB HB ha hs
  generalize takeS B s (pads a : Nat) = r at *
  go_enter Try.func20, Try.ntmps20
  go_wp2_with (first
    | (go_at_call 36; refine (padding_any a HP.out _).mono ?_; rintro e w1 ⟨rfl, hw⟩; subst w1)
    | (go_at_call 39; refine HX.out.mono ?_; rintro e w2 ⟨sa, sn, sc, rfl, hsn, hb2, hbl2, hi2, hk2⟩; have HN : Hid (sn = r.2.length) := hsn; clear hsn))
  have hsn3 : sn ≤ 3 := by rw [HN.out]; exact HL.out
  have HI : Hid (InAt w2 base g bv B r.1 ∧ KeepBut (· = g) w w2 ∧ BytesAt w2 (.slice sa sn sc) r.2 ∧ ∀ k, blockOf (.slice sa sn sc) = some k → k ≠ g) := ⟨hi2, hk2, hb2, fun k hk => HNE.out k (hbl2 k hk)⟩
  clear hb2 hi2 hk2 hbl2 c1
  go_loopg [14] sn (fun gm t wr => ∃ k : Nat, k ≤ sn ∧ gm = sn - k ∧ t = .int .i64 (k : Int) ∧ Hid (InAt wr base g bv B (zst r k) ∧ KeepBut (· = g) w wr ∧ BytesAt wr (.slice sa sn sc) r.2))
  case atStart => exact ⟨0, Nat.zero_le _, rfl, rfl, HI.out.1, HI.out.2.1, HI.out.2.2.1⟩
  case round =>
    obtain ⟨k, hk, rfl, rfl, HR⟩ := hrel
    by_cases hlt : k < sn
    · have hd : decide ((k : Int) < (sn : Int)) = true := decide_eq_true (by omega)
      have hkr : k < r.2.length := by rw [← HN.out]; exact hlt
      obtain ⟨x, y, e3, _, hcell⟩ := HR.out.2.2.form
      obtain ⟨bb, off, rfl, hc⟩ := hcell k hkr
      have e4 : sa = some ⟨bb, off, none⟩ := by simp only [Value.slice.injEq] at e3; exact e3.1
      subst e4
      clear e3 hcell
      have hk3 : k < 3 := by omega
      by_cases hz : r.2.getD k 0 = 0
      · rw [hz] at hc
        have HZ : Hid (zst r (k + 1) = zst r k) := zst_ok hkr hz
        clear hkr hz
        have hc' : wr.cell? ⟨bb, off + k, none⟩ = some (.int .u8 0) := hc
        clear hc
        go_wp2
        go_roundg (sn - (k + 1))
        case measure => omega
        case rel => exact ⟨k + 1, by omega, rfl, by simp, by rw [HZ.out]; exact HR.out.1, HR.out.2.1, HR.out.2.2⟩
      · have HZ : Hid (zst r (k + 1) = none) := zst_bad hkr hz
        generalize r.2.getD k 0 = z at *
        have hd2 : decide ((z : Int) = 0) = false := decide_eq_false (by omega)
        have hd3 : ((z : Int) == 0) = false := by simpa using hz
        clear hkr
        go_wp2_with (first
          | (go_at_call 38; refine (fail_any HR.out.1).mono ?_; rintro e w4 ⟨⟨y4, rfl⟩, hi4, hk4⟩))
        go_roundg (sn - (k + 1))
        case measure => omega
        case rel => exact ⟨k + 1, by omega, rfl, by simp, by rw [HZ.out]; exact hi4, HR.out.2.1.trans hk4, bytes_but HR.out.2.2 hk4 HI.out.2.2.2⟩
    · have hd : decide ((k : Int) < (sn : Int)) = false := decide_eq_false (by omega)
      have HZ : Hid (zst r k = padS B s) := (zst_end (by rw [← HN.out]; omega)).trans HE.out
      go_wp2
      go_end0
      exact ⟨⟨_, rfl⟩, by rw [← HZ.out]; exact HR.out.1, HR.out.2.1⟩
theorem inPad_nil (w : World) : Calls Try.prog 20 #[.pointer none] w fun e w' => (∃ y, e = .returned y) ∧ w' = w := by
  go_enter Try.func20, Try.ntmps20
  go_wp2
  refine bodyPost_ret (results_none rfl _ _ _) rfl ?_
  exact ⟨⟨_, rfl⟩, rfl⟩
end Tlv
end Go.Proofs.Ytmfciiccomagpaa
