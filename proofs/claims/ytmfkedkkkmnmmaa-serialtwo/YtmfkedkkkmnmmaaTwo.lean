/- The law SerialTwo walked: it answers true. No condition of its own. -/
import Derived.Test.YtmfkedkkkmnmmaaAlive
namespace Go.Proofs.Ytmfkedkkkmnmmaa
open Go.RowKit
set_option linter.unusedVariables false
set_option linter.unusedSimpArgs false

theorem Ser.back (a n : Int) (ha : Of 4294967296 a) : Ser.step 4294967296 (Ser.step 4294967296 a n) (-n) = a := by unfold Ser.step; omega
theorem Ser.there (a b : Int) (ha : Of 4294967296 a) (hb : Of 4294967296 b) : Ser.step 4294967296 a (Ser.far 4294967296 a b) = b := by unfold Ser.step Ser.far; omega
theorem Ser.same (a : Int) : Ser.far 4294967296 a a = 0 := by unfold Ser.far; omega
theorem Ser.half (a b : Int) (ha : Of 4294967296 a) (hb : Of 4294967296 b) (h : a = b ∨ (a - b) % 4294967296 = 2147483648) : Ser.ahead 4294967296 a b = false ∧ Ser.ahead 4294967296 b a = false := by
  unfold Ser.ahead Ser.far
  rcases h with rfl | h
  · simp
  · have h2 : (b - a) % 4294967296 = 2147483648 := by omega
    rw [h, h2]; decide
theorem Ser.one (a b : Int) (ha : Of 4294967296 a) (hb : Of 4294967296 b) (h : ¬ a = b) (h2 : ¬ (a - b) % 4294967296 = 2147483648) : Ser.ahead 4294967296 b a = !Ser.ahead 4294967296 a b := by
  have e : ∀ x y : Int, Ser.ahead 4294967296 x y = decide ((y - x) % 4294967296 ≠ 0 ∧ (y - x) % 4294967296 < 2147483648) := by
    intro x y; simp [Ser.ahead, Ser.far, bne, Bool.decide_and]; rfl
  rw [e, e, ← decide_not]
  congr 1
  simp only [eq_iff_iff]; omega
theorem Ser.latest (a b : Int) (h : Ser.ahead 4294967296 b a = !Ser.ahead 4294967296 a b) : Ser.later 4294967296 b a = Ser.later 4294967296 a b := by
  unfold Ser.later; rw [h]; cases Ser.ahead 4294967296 a b <;> rfl

set_option maxHeartbeats 1000000 in
theorem two_min (a b : Int) (w : World) : Calls Try.prog 7 #[.int .u32 a, .int .u32 b, .int .i64 (-9223372036854775808)] w fun e w' => e = .returned (.bool true) ∧ Below w.heap.size w w' := by
  have hw : wrap64 (-(-9223372036854775808)) = -9223372036854775808 := by decide +kernel
  have hw2 : wrap64 9223372036854775808 = -9223372036854775808 := by decide +kernel
  go_enter Try.func7, Try.ntmps7
  go_wp2_with (first
    | (go_at_call 8; refine (alive_any _).mono ?_; rintro e w' ⟨rfl, rfl⟩))
  go_ret
  exact ⟨rfl, Below.refl _ _⟩

set_option maxHeartbeats 1000000 in
theorem two_same (a b n : Int) (w : World) (ha : Of 4294967296 a) (hb : Of 4294967296 b) (hn : W64 n) (hn2 : W64 (-n)) (hz : (n == -n) = false ∨ (n == -n) = true ∧ (n != 0) = false) (hs : a = b ∨ (a - b) % 4294967296 = 2147483648) : Calls Try.prog 7 #[.int .u32 a, .int .u32 b, .int .i64 n] w fun e w' => e = .returned (.bool true) ∧ Below w.heap.size w w' := by
  have hf := Ser.far_lt (m := 4294967296) a b (by decide)
  have hst := Ser.step_lt (m := 4294967296) a n (by decide)
  have h1 : Hid _ := Ser.back a n ha
  have h2 : Hid _ := Ser.there a b ha hb
  have h3 := Ser.same a
  obtain ⟨h4, h5⟩ := Ser.half a b ha hb hs
  have hz2 : (a == b) = true ∨ (a == b) = false ∧ ((a - b) % 4294967296 == 2147483648) = true := by
    by_cases h : a = b
    · exact .inl (by simp [h])
    · exact .inr ⟨by simp [h], by rcases hs with h' | h' <;> simp_all⟩
  clear hs
  rcases hz2 with hz2 | ⟨hz2, hz3⟩
  all_goals rcases hz with hz | ⟨hz, hz'⟩
  all_goals go_enter Try.func7, Try.ntmps7
  all_goals go_wp2_with (first
    | (go_at_call 8; refine (alive_any _).mono ?_; rintro e w' ⟨rfl, rfl⟩)
    | (go_at_call 13; refine (step32 _ _ _ (by first | exact ha | exact hst) (by first | exact hn | exact hn2 | (constructor <;> omega))).mono ?_; rintro e w' ⟨rfl, rfl⟩; first | rw [h1.out] | rw [h2.out] | skip)
    | (go_at_call 10; refine (far32 _ _ _ ha hb).mono ?_; rintro e w' ⟨rfl, rfl⟩)
    | (go_at_call 17; refine (within32 _ _ _ _ ha ha (by decide)).mono ?_; rintro e w' ⟨rfl, rfl⟩; rw [h3])
    | (go_at_call 11; refine (ahead32 _ _ _ (by first | exact ha | exact hb) (by first | exact hb | exact ha)).mono ?_; rintro e w' ⟨rfl, rfl⟩; first | rw [h4] | rw [h5]))
  all_goals go_ret
  all_goals exact ⟨rfl, Below.refl _ _⟩

set_option maxHeartbeats 1000000 in
theorem two_else (a b n : Int) (w : World) (ha : Of 4294967296 a) (hb : Of 4294967296 b) (hn : W64 n) (hn2 : W64 (-n)) (hz : (n == -n) = false ∨ (n == -n) = true ∧ (n != 0) = false) (hs : ¬ a = b) (hs2 : ¬ (a - b) % 4294967296 = 2147483648) : Calls Try.prog 7 #[.int .u32 a, .int .u32 b, .int .i64 n] w fun e w' => e = .returned (.bool true) ∧ Below w.heap.size w w' := by
  have hf := Ser.far_lt (m := 4294967296) a b (by decide)
  have hst := Ser.step_lt (m := 4294967296) a n (by decide)
  have h1 : Hid _ := Ser.back a n ha
  have h2 : Hid _ := Ser.there a b ha hb
  have h3 := Ser.same a
  have h4 : Hid _ := Ser.one a b ha hb hs hs2
  have h5 : Hid _ := Ser.latest a b h4.out
  have hz2 : (a == b) = false := by simp [hs]
  have hz3 : ((a - b) % 4294967296 == 2147483648) = false := by simp [hs2]
  have hq : ∀ x : Bool, (x != !x) = true := by intro x; cases x <;> rfl
  have hl := Ser.later_lt (m := 4294967296) ha hb
  clear hs hs2
  rcases hz with hz | ⟨hz, hz'⟩
  all_goals go_enter Try.func7, Try.ntmps7
  all_goals go_wp2_with (first
    | (go_at_call 8; refine (alive_any _).mono ?_; rintro e w' ⟨rfl, rfl⟩)
    | (go_at_call 13; refine (step32 _ _ _ (by first | exact ha | exact hst) (by first | exact hn | exact hn2 | (constructor <;> omega))).mono ?_; rintro e w' ⟨rfl, rfl⟩; first | rw [h1.out] | rw [h2.out] | skip)
    | (go_at_call 10; refine (far32 _ _ _ ha hb).mono ?_; rintro e w' ⟨rfl, rfl⟩)
    | (go_at_call 17; refine (within32 _ _ _ _ ha ha (by decide)).mono ?_; rintro e w' ⟨rfl, rfl⟩; rw [h3])
    | (go_at_call 11; refine (ahead32 _ _ _ (by first | exact ha | exact hb) (by first | exact hb | exact ha)).mono ?_; rintro e w' ⟨rfl, rfl⟩; first | rw [h4.out] | skip)
    | (go_at_call 15; refine (later32 _ _ _ (by first | exact ha | exact hb) (by first | exact hb | exact ha)).mono ?_; rintro e w' ⟨rfl, rfl⟩; first | rw [h5.out] | skip))
  all_goals go_ret
  all_goals exact ⟨rfl, Below.refl _ _⟩

theorem two_any (a b n : Int) (w : World) (ha : Of 4294967296 a) (hb : Of 4294967296 b) (hn : W64 n) : Calls Try.prog 7 #[.int .u32 a, .int .u32 b, .int .i64 n] w fun e w' => e = .returned (.bool true) ∧ Below w.heap.size w w' := by
  by_cases hm : n = -9223372036854775808
  · subst hm; exact two_min a b w
  have hz : (n == -n) = false ∨ (n == -n) = true ∧ (n != 0) = false := by
    by_cases h : n = 0
    · subst h; exact .inr ⟨rfl, rfl⟩
    · exact .inl (beq_eq_false_iff_ne.2 (by omega))
  have hn2 : W64 (-n) := by constructor <;> omega
  by_cases hs : a = b
  · exact two_same a b n w ha hb hn hn2 hz (.inl hs)
  · by_cases hs2 : (a - b) % 4294967296 = 2147483648
    · exact two_same a b n w ha hb hn hn2 hz (.inr hs2)
    · exact two_else a b n w ha hb hn hn2 hz hs hs2
end Go.Proofs.Ytmfkedkkkmnmmaa
