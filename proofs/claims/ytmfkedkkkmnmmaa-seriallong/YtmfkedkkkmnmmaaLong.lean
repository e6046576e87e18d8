/- The laws SerialLong, SerialShort and SerialTwo walked: they answer true. No condition of its own. -/
import Derived.Test.YtmfkedkkkmnmmaaAlive
namespace Go.Proofs.Ytmfkedkkkmnmmaa
open Go.RowKit
set_option linter.unusedVariables false
set_option linter.unusedSimpArgs false

set_option maxHeartbeats 1000000 in
theorem long_any (a b n : Int) (w : World) (ha : Of 4294967296 a) (hb : Of 4294967296 b) (hn : W64 n) : Calls Try.prog 3 #[.int .u32 a, .int .u32 b, .int .i64 n] w fun e w' => e = .returned (.bool true) ∧ Below w.heap.size w w' := by
  have hf := Ser.far_lt (m := 4294967296) a b (by decide)
  have hs := Ser.step_lt (m := 4294967296) a n (by decide)
  have hl := Ser.later_lt (m := 4294967296) ha hb
  go_enter Try.func3, Try.ntmps3
  go_wp2_with (first
    | (go_at_call 8; refine (alive_any _).mono ?_; rintro e w' ⟨rfl, rfl⟩)
    | (go_at_call 9; refine (rfar _ _ _ _ (.inr rfl) ha hb).mono ?_; rintro e w' ⟨rfl, rfl⟩)
    | (go_at_call 10; refine (far32 _ _ _ ha hb).mono ?_; rintro e w' ⟨rfl, rfl⟩)
    | (go_at_call 11; refine (ahead32 _ _ _ ha hb).mono ?_; rintro e w' ⟨rfl, rfl⟩)
    | (go_at_call 12; refine (rahead _ _ _ _ (.inr rfl) ha hb).mono ?_; rintro e w' ⟨rfl, rfl⟩)
    | (go_at_call 13; refine (step32 _ _ _ ha hn).mono ?_; rintro e w' ⟨rfl, rfl⟩)
    | (go_at_call 14; refine (rstep _ _ _ _ (.inr rfl) ha hn).mono ?_; rintro e w' ⟨rfl, rfl⟩)
    | (go_at_call 15; refine (later32 _ _ _ ha hb).mono ?_; rintro e w' ⟨rfl, rfl⟩)
    | (go_at_call 16; refine (rlater _ _ _ _ (.inr rfl) ha hb).mono ?_; rintro e w' ⟨rfl, rfl⟩)
    | (go_at_call 17; refine (within32 _ _ _ _ hb ha hn).mono ?_; rintro e w' ⟨rfl, rfl⟩))
  go_ret
  exact ⟨rfl, Below.refl _ _⟩

set_option maxHeartbeats 1000000 in
theorem short_any (a b n : Int) (w : World) (ha : Of 65536 a) (hb : Of 65536 b) (hn : W64 n) : Calls Try.prog 4 #[.int .u16 a, .int .u16 b, .int .i64 n] w fun e w' => e = .returned (.bool true) ∧ Below w.heap.size w w' := by
  have hf := Ser.far_lt (m := 65536) a b (by decide)
  have hs := Ser.step_lt (m := 65536) a n (by decide)
  have hl := Ser.later_lt (m := 65536) ha hb
  go_enter Try.func4, Try.ntmps4
  go_wp2_with (first
    | (go_at_call 8; refine (alive_any _).mono ?_; rintro e w' ⟨rfl, rfl⟩)
    | (go_at_call 9; refine (rfar _ _ _ _ (.inl rfl) ha hb).mono ?_; rintro e w' ⟨rfl, rfl⟩)
    | (go_at_call 18; refine (farS _ _ _ ha hb).mono ?_; rintro e w' ⟨rfl, rfl⟩)
    | (go_at_call 19; refine (aheadS _ _ _ ha hb).mono ?_; rintro e w' ⟨rfl, rfl⟩)
    | (go_at_call 12; refine (rahead _ _ _ _ (.inl rfl) ha hb).mono ?_; rintro e w' ⟨rfl, rfl⟩)
    | (go_at_call 20; refine (stepS _ _ _ ha hn).mono ?_; rintro e w' ⟨rfl, rfl⟩)
    | (go_at_call 14; refine (rstep _ _ _ _ (.inl rfl) ha hn).mono ?_; rintro e w' ⟨rfl, rfl⟩)
    | (go_at_call 21; refine (laterS _ _ _ ha hb).mono ?_; rintro e w' ⟨rfl, rfl⟩)
    | (go_at_call 16; refine (rlater _ _ _ _ (.inl rfl) ha hb).mono ?_; rintro e w' ⟨rfl, rfl⟩)
    | (go_at_call 22; refine (withinS _ _ _ _ hb ha hn).mono ?_; rintro e w' ⟨rfl, rfl⟩))
  go_ret
  exact ⟨rfl, Below.refl _ _⟩
end Go.Proofs.Ytmfkedkkkmnmmaa
