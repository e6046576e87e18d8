/- Words turned and spread, the place of a register's name, a block's own words: what these functions answer. No condition of its own. -/
import Derived.Test.YtaklbnaaoebknaaDoorRows
import Derived.Test.YtaklbnaaoebknaaDoorMath
import Derived.Test.YtaklbnaaoebknaaDoorArr
import Derived.BigQuiet
namespace Go.Proofs.YtaklbnaaoebknaaDoor
open Go Go.RowKit
set_option linter.unusedVariables false
set_option linter.unusedSimpArgs false
set_option maxRecDepth 100000

theorem xorN (r s : Nat) (hr : r < 4294967296) (hs : s < 4294967296) : bits .xor .u32 (r : Int) (s : Int) = ((r ^^^ s : Nat) : Int) := by
  rw [u32_xor _ _ (by omega) (by omega) (by omega) (by omega)]
  simp
theorem andN (r s : Nat) (hr : r < 4294967296) (hs : s < 4294967296) : bits .and .u32 (r : Int) (s : Int) = ((r &&& s : Nat) : Int) := by
  rw [u32_and _ _ (by omega) (by omega) (by omega) (by omega)]
  simp
theorem orN (r s : Nat) (hr : r < 4294967296) (hs : s < 4294967296) : bits .or .u32 (r : Int) (s : Int) = ((r ||| s : Nat) : Int) := by
  rw [u32_or _ _ (by omega) (by omega) (by omega) (by omega)]
  simp

theorem rotl_2 (x : Nat) (w : World) (h : x < 4294967296) :
    Calls Tryd.prog 46 #[.int .u32 (x : Int), .int .i64 (-2)] w fun e w' => e = .returned (.int .u32 (Sha.rot x 2 : Nat)) ∧ w' = w := by
  have hk : bits .and .u64 (IntKind.u64.wrap (-2)) 31 = 30 := by rfl
  go_enter Tryd.func46, Tryd.ntmps46
  go_wp2
  go_ret
  refine ⟨ret_int ?_, rfl⟩
  rw [← Sha.rot_or h (n := 2) (by decide)]
  have := orN (x * 1073741824 % 4294967296) (x / 4) (Nat.mod_lt _ (by decide)) (Nat.lt_of_le_of_lt (Nat.div_le_self _ _) h)
  simpa using this
theorem turned_2 (x : Nat) (w : World) (h : x < 4294967296) :
    Calls Tryd.prog 45 #[.int .u32 (x : Int), .int .i64 2] w fun e w' => e = .returned (.int .u32 (Sha.rot x 2 : Nat)) ∧ w' = w := by
  go_enter Tryd.func45, Tryd.ntmps45
  go_wp2_with (go_at_call 46; refine (rotl_2 _ _ h).mono ?_; rintro e w' ⟨rfl, rfl⟩)
  go_ret
  exact ⟨rfl, rfl⟩

theorem rotl_6 (x : Nat) (w : World) (h : x < 4294967296) :
    Calls Tryd.prog 46 #[.int .u32 (x : Int), .int .i64 (-6)] w fun e w' => e = .returned (.int .u32 (Sha.rot x 6 : Nat)) ∧ w' = w := by
  have hk : bits .and .u64 (IntKind.u64.wrap (-6)) 31 = 26 := by rfl
  go_enter Tryd.func46, Tryd.ntmps46
  go_wp2
  go_ret
  refine ⟨ret_int ?_, rfl⟩
  rw [← Sha.rot_or h (n := 6) (by decide)]
  have := orN (x * 67108864 % 4294967296) (x / 64) (Nat.mod_lt _ (by decide)) (Nat.lt_of_le_of_lt (Nat.div_le_self _ _) h)
  simpa using this
theorem turned_6 (x : Nat) (w : World) (h : x < 4294967296) :
    Calls Tryd.prog 45 #[.int .u32 (x : Int), .int .i64 6] w fun e w' => e = .returned (.int .u32 (Sha.rot x 6 : Nat)) ∧ w' = w := by
  go_enter Tryd.func45, Tryd.ntmps45
  go_wp2_with (go_at_call 46; refine (rotl_6 _ _ h).mono ?_; rintro e w' ⟨rfl, rfl⟩)
  go_ret
  exact ⟨rfl, rfl⟩

theorem rotl_7 (x : Nat) (w : World) (h : x < 4294967296) :
    Calls Tryd.prog 46 #[.int .u32 (x : Int), .int .i64 (-7)] w fun e w' => e = .returned (.int .u32 (Sha.rot x 7 : Nat)) ∧ w' = w := by
  have hk : bits .and .u64 (IntKind.u64.wrap (-7)) 31 = 25 := by rfl
  go_enter Tryd.func46, Tryd.ntmps46
  go_wp2
  go_ret
  refine ⟨ret_int ?_, rfl⟩
  rw [← Sha.rot_or h (n := 7) (by decide)]
  have := orN (x * 33554432 % 4294967296) (x / 128) (Nat.mod_lt _ (by decide)) (Nat.lt_of_le_of_lt (Nat.div_le_self _ _) h)
  simpa using this
theorem turned_7 (x : Nat) (w : World) (h : x < 4294967296) :
    Calls Tryd.prog 45 #[.int .u32 (x : Int), .int .i64 7] w fun e w' => e = .returned (.int .u32 (Sha.rot x 7 : Nat)) ∧ w' = w := by
  go_enter Tryd.func45, Tryd.ntmps45
  go_wp2_with (go_at_call 46; refine (rotl_7 _ _ h).mono ?_; rintro e w' ⟨rfl, rfl⟩)
  go_ret
  exact ⟨rfl, rfl⟩

theorem rotl_11 (x : Nat) (w : World) (h : x < 4294967296) :
    Calls Tryd.prog 46 #[.int .u32 (x : Int), .int .i64 (-11)] w fun e w' => e = .returned (.int .u32 (Sha.rot x 11 : Nat)) ∧ w' = w := by
  have hk : bits .and .u64 (IntKind.u64.wrap (-11)) 31 = 21 := by rfl
  go_enter Tryd.func46, Tryd.ntmps46
  go_wp2
  go_ret
  refine ⟨ret_int ?_, rfl⟩
  rw [← Sha.rot_or h (n := 11) (by decide)]
  have := orN (x * 2097152 % 4294967296) (x / 2048) (Nat.mod_lt _ (by decide)) (Nat.lt_of_le_of_lt (Nat.div_le_self _ _) h)
  simpa using this
theorem turned_11 (x : Nat) (w : World) (h : x < 4294967296) :
    Calls Tryd.prog 45 #[.int .u32 (x : Int), .int .i64 11] w fun e w' => e = .returned (.int .u32 (Sha.rot x 11 : Nat)) ∧ w' = w := by
  go_enter Tryd.func45, Tryd.ntmps45
  go_wp2_with (go_at_call 46; refine (rotl_11 _ _ h).mono ?_; rintro e w' ⟨rfl, rfl⟩)
  go_ret
  exact ⟨rfl, rfl⟩

theorem rotl_13 (x : Nat) (w : World) (h : x < 4294967296) :
    Calls Tryd.prog 46 #[.int .u32 (x : Int), .int .i64 (-13)] w fun e w' => e = .returned (.int .u32 (Sha.rot x 13 : Nat)) ∧ w' = w := by
  have hk : bits .and .u64 (IntKind.u64.wrap (-13)) 31 = 19 := by rfl
  go_enter Tryd.func46, Tryd.ntmps46
  go_wp2
  go_ret
  refine ⟨ret_int ?_, rfl⟩
  rw [← Sha.rot_or h (n := 13) (by decide)]
  have := orN (x * 524288 % 4294967296) (x / 8192) (Nat.mod_lt _ (by decide)) (Nat.lt_of_le_of_lt (Nat.div_le_self _ _) h)
  simpa using this
theorem turned_13 (x : Nat) (w : World) (h : x < 4294967296) :
    Calls Tryd.prog 45 #[.int .u32 (x : Int), .int .i64 13] w fun e w' => e = .returned (.int .u32 (Sha.rot x 13 : Nat)) ∧ w' = w := by
  go_enter Tryd.func45, Tryd.ntmps45
  go_wp2_with (go_at_call 46; refine (rotl_13 _ _ h).mono ?_; rintro e w' ⟨rfl, rfl⟩)
  go_ret
  exact ⟨rfl, rfl⟩

theorem rotl_17 (x : Nat) (w : World) (h : x < 4294967296) :
    Calls Tryd.prog 46 #[.int .u32 (x : Int), .int .i64 (-17)] w fun e w' => e = .returned (.int .u32 (Sha.rot x 17 : Nat)) ∧ w' = w := by
  have hk : bits .and .u64 (IntKind.u64.wrap (-17)) 31 = 15 := by rfl
  go_enter Tryd.func46, Tryd.ntmps46
  go_wp2
  go_ret
  refine ⟨ret_int ?_, rfl⟩
  rw [← Sha.rot_or h (n := 17) (by decide)]
  have := orN (x * 32768 % 4294967296) (x / 131072) (Nat.mod_lt _ (by decide)) (Nat.lt_of_le_of_lt (Nat.div_le_self _ _) h)
  simpa using this
theorem turned_17 (x : Nat) (w : World) (h : x < 4294967296) :
    Calls Tryd.prog 45 #[.int .u32 (x : Int), .int .i64 17] w fun e w' => e = .returned (.int .u32 (Sha.rot x 17 : Nat)) ∧ w' = w := by
  go_enter Tryd.func45, Tryd.ntmps45
  go_wp2_with (go_at_call 46; refine (rotl_17 _ _ h).mono ?_; rintro e w' ⟨rfl, rfl⟩)
  go_ret
  exact ⟨rfl, rfl⟩

theorem rotl_18 (x : Nat) (w : World) (h : x < 4294967296) :
    Calls Tryd.prog 46 #[.int .u32 (x : Int), .int .i64 (-18)] w fun e w' => e = .returned (.int .u32 (Sha.rot x 18 : Nat)) ∧ w' = w := by
  have hk : bits .and .u64 (IntKind.u64.wrap (-18)) 31 = 14 := by rfl
  go_enter Tryd.func46, Tryd.ntmps46
  go_wp2
  go_ret
  refine ⟨ret_int ?_, rfl⟩
  rw [← Sha.rot_or h (n := 18) (by decide)]
  have := orN (x * 16384 % 4294967296) (x / 262144) (Nat.mod_lt _ (by decide)) (Nat.lt_of_le_of_lt (Nat.div_le_self _ _) h)
  simpa using this
theorem turned_18 (x : Nat) (w : World) (h : x < 4294967296) :
    Calls Tryd.prog 45 #[.int .u32 (x : Int), .int .i64 18] w fun e w' => e = .returned (.int .u32 (Sha.rot x 18 : Nat)) ∧ w' = w := by
  go_enter Tryd.func45, Tryd.ntmps45
  go_wp2_with (go_at_call 46; refine (rotl_18 _ _ h).mono ?_; rintro e w' ⟨rfl, rfl⟩)
  go_ret
  exact ⟨rfl, rfl⟩

theorem rotl_19 (x : Nat) (w : World) (h : x < 4294967296) :
    Calls Tryd.prog 46 #[.int .u32 (x : Int), .int .i64 (-19)] w fun e w' => e = .returned (.int .u32 (Sha.rot x 19 : Nat)) ∧ w' = w := by
  have hk : bits .and .u64 (IntKind.u64.wrap (-19)) 31 = 13 := by rfl
  go_enter Tryd.func46, Tryd.ntmps46
  go_wp2
  go_ret
  refine ⟨ret_int ?_, rfl⟩
  rw [← Sha.rot_or h (n := 19) (by decide)]
  have := orN (x * 8192 % 4294967296) (x / 524288) (Nat.mod_lt _ (by decide)) (Nat.lt_of_le_of_lt (Nat.div_le_self _ _) h)
  simpa using this
theorem turned_19 (x : Nat) (w : World) (h : x < 4294967296) :
    Calls Tryd.prog 45 #[.int .u32 (x : Int), .int .i64 19] w fun e w' => e = .returned (.int .u32 (Sha.rot x 19 : Nat)) ∧ w' = w := by
  go_enter Tryd.func45, Tryd.ntmps45
  go_wp2_with (go_at_call 46; refine (rotl_19 _ _ h).mono ?_; rintro e w' ⟨rfl, rfl⟩)
  go_ret
  exact ⟨rfl, rfl⟩

theorem rotl_22 (x : Nat) (w : World) (h : x < 4294967296) :
    Calls Tryd.prog 46 #[.int .u32 (x : Int), .int .i64 (-22)] w fun e w' => e = .returned (.int .u32 (Sha.rot x 22 : Nat)) ∧ w' = w := by
  have hk : bits .and .u64 (IntKind.u64.wrap (-22)) 31 = 10 := by rfl
  go_enter Tryd.func46, Tryd.ntmps46
  go_wp2
  go_ret
  refine ⟨ret_int ?_, rfl⟩
  rw [← Sha.rot_or h (n := 22) (by decide)]
  have := orN (x * 1024 % 4294967296) (x / 4194304) (Nat.mod_lt _ (by decide)) (Nat.lt_of_le_of_lt (Nat.div_le_self _ _) h)
  simpa using this
theorem turned_22 (x : Nat) (w : World) (h : x < 4294967296) :
    Calls Tryd.prog 45 #[.int .u32 (x : Int), .int .i64 22] w fun e w' => e = .returned (.int .u32 (Sha.rot x 22 : Nat)) ∧ w' = w := by
  go_enter Tryd.func45, Tryd.ntmps45
  go_wp2_with (go_at_call 46; refine (rotl_22 _ _ h).mono ?_; rintro e w' ⟨rfl, rfl⟩)
  go_ret
  exact ⟨rfl, rfl⟩

theorem rotl_25 (x : Nat) (w : World) (h : x < 4294967296) :
    Calls Tryd.prog 46 #[.int .u32 (x : Int), .int .i64 (-25)] w fun e w' => e = .returned (.int .u32 (Sha.rot x 25 : Nat)) ∧ w' = w := by
  have hk : bits .and .u64 (IntKind.u64.wrap (-25)) 31 = 7 := by rfl
  go_enter Tryd.func46, Tryd.ntmps46
  go_wp2
  go_ret
  refine ⟨ret_int ?_, rfl⟩
  rw [← Sha.rot_or h (n := 25) (by decide)]
  have := orN (x * 128 % 4294967296) (x / 33554432) (Nat.mod_lt _ (by decide)) (Nat.lt_of_le_of_lt (Nat.div_le_self _ _) h)
  simpa using this
theorem turned_25 (x : Nat) (w : World) (h : x < 4294967296) :
    Calls Tryd.prog 45 #[.int .u32 (x : Int), .int .i64 25] w fun e w' => e = .returned (.int .u32 (Sha.rot x 25 : Nat)) ∧ w' = w := by
  go_enter Tryd.func45, Tryd.ntmps45
  go_wp2_with (go_at_call 46; refine (rotl_25 _ _ h).mono ?_; rintro e w' ⟨rfl, rfl⟩)
  go_ret
  exact ⟨rfl, rfl⟩

set_option maxHeartbeats 400000 in
theorem all_6 (x : Nat) (w : World) (h : x < 4294967296) :
    Calls Tryd.prog 44 #[.int .u32 (x : Int), .int .i64 6, .int .i64 11, .int .i64 25] w fun e w' => e = .returned (.int .u32 (Sha.all3 x 6 11 25 : Nat)) ∧ w' = w := by
  go_enter Tryd.func44, Tryd.ntmps44
  go_wp2_with (first
    | (go_at_call_of 45 (Value.int .i64 6); refine (turned_6 _ _ h).mono ?_; rintro e w' ⟨rfl, rfl⟩)
    | (go_at_call_of 45 (Value.int .i64 11); refine (turned_11 _ _ h).mono ?_; rintro e w' ⟨rfl, rfl⟩)
    | (go_at_call_of 45 (Value.int .i64 25); refine (turned_25 _ _ h).mono ?_; rintro e w' ⟨rfl, rfl⟩))
  go_ret
  refine ⟨ret_int ?_, rfl⟩
  rw [xorN _ _ (Sha.rot_lt h (by decide)) (Sha.rot_lt h (by decide)), xorN _ _ (Sha.xor_lt (Sha.rot_lt h (by decide)) (Sha.rot_lt h (by decide))) (Sha.rot_lt h (by decide))]
  rfl

set_option maxHeartbeats 400000 in
theorem all_2 (x : Nat) (w : World) (h : x < 4294967296) :
    Calls Tryd.prog 44 #[.int .u32 (x : Int), .int .i64 2, .int .i64 13, .int .i64 22] w fun e w' => e = .returned (.int .u32 (Sha.all3 x 2 13 22 : Nat)) ∧ w' = w := by
  go_enter Tryd.func44, Tryd.ntmps44
  go_wp2_with (first
    | (go_at_call_of 45 (Value.int .i64 2); refine (turned_2 _ _ h).mono ?_; rintro e w' ⟨rfl, rfl⟩)
    | (go_at_call_of 45 (Value.int .i64 13); refine (turned_13 _ _ h).mono ?_; rintro e w' ⟨rfl, rfl⟩)
    | (go_at_call_of 45 (Value.int .i64 22); refine (turned_22 _ _ h).mono ?_; rintro e w' ⟨rfl, rfl⟩))
  go_ret
  refine ⟨ret_int ?_, rfl⟩
  rw [xorN _ _ (Sha.rot_lt h (by decide)) (Sha.rot_lt h (by decide)), xorN _ _ (Sha.xor_lt (Sha.rot_lt h (by decide)) (Sha.rot_lt h (by decide))) (Sha.rot_lt h (by decide))]
  rfl

set_option maxHeartbeats 400000 in
theorem spread_7 (x : Nat) (w : World) (h : x < 4294967296) :
    Calls Tryd.prog 42 #[.int .u32 (x : Int), .int .i64 7, .int .i64 18, .int .i64 3] w fun e w' => e = .returned (.int .u32 (Sha.spr x 7 18 3 : Nat)) ∧ ∃ q, w' = w.drewN q := by
  go_enter Tryd.func42, Tryd.ntmps42
  go_wp2_with fail
  go_quiet (first
    | (go_at_call_of 45 (Value.int .i64 7); refine Calls.quiet_of_same (turned_7 _ _ h))
    | (go_at_call_of 45 (Value.int .i64 18); refine Calls.quiet_of_same (turned_18 _ _ h)))
  go_wp2
  go_ret
  refine ⟨ret_int ?_, _, rfl⟩
  rw [xorN _ _ (Sha.rot_lt h (by decide)) (Sha.rot_lt h (by decide))]
  have := xorN (Sha.rot x 7 ^^^ Sha.rot x 18) (x / 8) (Sha.xor_lt (Sha.rot_lt h (by decide)) (Sha.rot_lt h (by decide))) (Nat.lt_of_le_of_lt (Nat.div_le_self _ _) h)
  rw [show (x : Int) / 8 = ((x / 8 : Nat) : Int) by simp, this]
  rfl

set_option maxHeartbeats 400000 in
theorem spread_17 (x : Nat) (w : World) (h : x < 4294967296) :
    Calls Tryd.prog 42 #[.int .u32 (x : Int), .int .i64 17, .int .i64 19, .int .i64 10] w fun e w' => e = .returned (.int .u32 (Sha.spr x 17 19 10 : Nat)) ∧ ∃ q, w' = w.drewN q := by
  go_enter Tryd.func42, Tryd.ntmps42
  go_wp2_with fail
  go_quiet (first
    | (go_at_call_of 45 (Value.int .i64 17); refine Calls.quiet_of_same (turned_17 _ _ h))
    | (go_at_call_of 45 (Value.int .i64 19); refine Calls.quiet_of_same (turned_19 _ _ h)))
  go_wp2
  go_ret
  refine ⟨ret_int ?_, _, rfl⟩
  rw [xorN _ _ (Sha.rot_lt h (by decide)) (Sha.rot_lt h (by decide))]
  have := xorN (Sha.rot x 17 ^^^ Sha.rot x 19) (x / 1024) (Sha.xor_lt (Sha.rot_lt h (by decide)) (Sha.rot_lt h (by decide))) (Nat.lt_of_le_of_lt (Nat.div_le_self _ _) h)
  rw [show (x : Int) / 1024 = ((x / 1024 : Nat) : Int) by simp, this]
  rfl

end Go.Proofs.YtaklbnaaoebknaaDoor
