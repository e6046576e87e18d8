/- Which parameters are good; what is done about a kind that is not known. No condition of its own. -/
import Derived.Test.YtmfciiccomagpaaBehind6
namespace Go.Proofs.Ytmfciiccomagpaa
namespace Tlv
open Go Go.RowKit
set_option linter.unusedVariables false
set_option linter.unusedSimpArgs false
set_option maxRecDepth 100000


theorem rowP2 : RowT Try.prog 59 2 := ⟨⟨_, Try.underlying59, rfl⟩, by kernel_rfl⟩
theorem zeroP2 : (Try.prog.info? 59).bind (·.zero) = some (.agg #[.int .i64 0, .slice none 0 0]) := by kernel_rfl
theorem goodP_eq (k : Int) (m : List Nat) : goodP (k, m) = (decide (0 ≤ k) && (decide (k ≤ 65535) && decide (m.length ≤ 4000))) := rfl
set_option maxHeartbeats 2000000 in
theorem good_any (k : Int) (a : Option Addr) (c : Nat) (m : List Nat) (w : World) :
    Calls Try.prog 27 #[.agg #[.int .i64 k, .slice a m.length c]] w fun e w' => e = .returned (.bool (goodP (k, m))) ∧ Ext w w' := by
  rw [goodP_eq]
  generalize m.length = n
  have LD : ∀ {w2 : World}, Blk w2 w.heap.size #[.int .i64 k, .slice a n c] 59 → w2.cell? ⟨w.heap.size, 0, none⟩ = some (.int .i64 k) ∧ w2.cell? ⟨w.heap.size, 1, none⟩ = some (.slice a n c) := fun h => ⟨h.cell 0, h.cell 1⟩
  by_cases h1 : 0 ≤ k
  · have d1 : decide (k ≥ 0) = true := decide_eq_true h1
    have d1' : decide (0 ≤ k) = true := decide_eq_true h1
    by_cases h2 : k ≤ 65535
    · have d2 : decide (k ≤ 65535) = true := decide_eq_true h2
      rw [d1', d2]
      go_enter Try.func27, Try.ntmps27
      go_wp2_with (first
        | (refine wl_box (C := #[.int .i64 k, .slice a n c]) rfl rfl rfl ?_; intro w1 hb1 he1 hx; clear hx; have c0 := (LD hb1).1; have c1 := (LD hb1).2))
      go_ret
      exact ⟨by simp; omega, he1⟩
    · have d2 : decide (k ≤ 65535) = false := decide_eq_false h2
      rw [d1', d2]
      go_enter Try.func27, Try.ntmps27
      go_wp2_with (first
        | (refine wl_box (C := #[.int .i64 k, .slice a n c]) rfl rfl rfl ?_; intro w1 hb1 he1 hx; clear hx; have c0 := (LD hb1).1; have c1 := (LD hb1).2))
      go_ret
      exact ⟨by simp, he1⟩
  · have d1 : decide (k ≥ 0) = false := decide_eq_false h1
    have d1' : decide (0 ≤ k) = false := decide_eq_false h1
    rw [d1']
    go_enter Try.func27, Try.ntmps27
    go_wp2_with (first
      | (refine wl_box (C := #[.int .i64 k, .slice a n c]) rfl rfl rfl ?_; intro w1 hb1 he1 hx; clear hx; have c0 := (LD hb1).1; have c1 := (LD hb1).2))
    go_ret
    exact ⟨by simp, he1⟩

def actP (n : Int) : Bool := isKd n && decide (n / 16384 ≥ 2)
def actR (n : Int) : Bool := isKd n && decide (n / 16384 % 2 = 1)
theorem ofInt64 (a : Nat) (ha : a < 65536) : (BitVec.ofInt 64 (a : Int)).toNat = a := by
  rw [BitVec.ofInt_natCast, BitVec.toNat_ofNat]; exact Nat.mod_eq_of_lt (by omega)
theorem i64_and (a b : Nat) (ha : a < 65536) (hb : b < 65536) : bits .and .i64 (a : Int) (b : Int) = ((a &&& b : Nat) : Int) := by
  have hx : a &&& b < 2 ^ 16 := Nat.and_lt_two_pow _ (by omega)
  show IntKind.i64.wrap ((BitVec.ofInt 64 (a : Int) &&& BitVec.ofInt 64 (b : Int)).toNat : Int) = _
  rw [BitVec.toNat_and, ofInt64 a ha, ofInt64 b hb, IntKind.wrap_i64]
  omega
theorem bit_and (K i : Nat) : (K &&& 2 ^ i = 0) ↔ ¬ (K / 2 ^ i % 2 = 1) := by
  have hb : (K.testBit i) = decide (K / 2 ^ i % 2 = 1) := Nat.testBit_eq_decide_div_mod_eq
  constructor
  · intro h h1
    have := congrArg (fun x => Nat.testBit x i) h
    simp only [Nat.testBit_and, Nat.testBit_two_pow_self, Bool.and_true, Nat.zero_testBit, hb, h1] at this
    simp at this
  · intro h
    apply Nat.eq_of_testBit_eq
    intro j
    rw [Nat.testBit_and, Nat.testBit_two_pow, Nat.zero_testBit]
    by_cases hj : i = j
    · subst hj
      rw [hb, decide_eq_false h]; rfl
    · simp [hj]
theorem bit15 (K : Nat) (hK : K < 65536) : (bits .and .i64 (K : Int) 32768 != 0) = decide ((K : Int) / 16384 ≥ 2) := by
  have h1 := i64_and K 32768 hK (by omega)
  rw [show ((32768 : Nat) : Int) = 32768 from rfl] at h1
  rw [h1]
  have h2 := bit_and K 15
  rw [show (2 : Nat) ^ 15 = 32768 from rfl] at h2
  generalize K &&& 32768 = z at *
  by_cases hz : z = 0
  · have := h2.1 hz
    subst hz
    rw [decide_eq_false (by omega)]; rfl
  · have : ¬ ¬ (K / 32768 % 2 = 1) := fun h => hz (h2.2 h)
    rw [decide_eq_true (by omega)]
    simp; omega
theorem bit14 (K : Nat) (hK : K < 65536) : (bits .and .i64 (K : Int) 16384 != 0) = decide ((K : Int) / 16384 % 2 = 1) := by
  have h1 := i64_and K 16384 hK (by omega)
  rw [show ((16384 : Nat) : Int) = 16384 from rfl] at h1
  rw [h1]
  have h2 := bit_and K 14
  rw [show (2 : Nat) ^ 14 = 16384 from rfl] at h2
  generalize K &&& 16384 = z at *
  by_cases hz : z = 0
  · have := h2.1 hz
    subst hz
    rw [decide_eq_false (by omega)]; rfl
  · have : ¬ ¬ (K / 16384 % 2 = 1) := fun h => hz (h2.2 h)
    rw [decide_eq_true (by omega)]
    simp; omega
set_option maxHeartbeats 2000000 in
theorem action_any (n : Int) (w : World) :
    Calls Try.prog 28 #[.int .i64 n] w fun e w' => e = .returned (.tuple #[.bool (actP n), .bool (actR n)]) ∧ w' = w := by
  cases hk : isKd n with
  | false =>
    have e1 : actP n = false := by unfold actP; rw [hk]; rfl
    have e2 : actR n = false := by unfold actR; rw [hk]; rfl
    rw [e1, e2]
    go_enter Try.func28, Try.ntmps28
    go_wp2_with (first
      | (go_at_call 41; refine (isKind_any _ _).mono ?_; rintro e w4 ⟨rfl, hw⟩; subst w4; rw [hk]))
    go_ret2
    exact ⟨rfl, rfl⟩
  | true =>
    obtain ⟨K, rfl⟩ : ∃ K : Nat, n = (K : Int) := ⟨n.toNat, by unfold isKd at hk; simp at hk; omega⟩
    have hK : K < 65536 := by unfold isKd at hk; simp at hk; omega
    go_enter Try.func28, Try.ntmps28
    go_wp2_with (first
      | (go_at_call 41; refine (isKind_any _ _).mono ?_; rintro e w4 ⟨rfl, hw⟩; subst w4; rw [hk]))
    go_ret2
    refine ⟨?_, rfl⟩
    unfold actP actR
    rw [hk, ← bit15 K hK, ← bit14 K hK]
    rfl
end Tlv
end Go.Proofs.Ytmfciiccomagpaa
