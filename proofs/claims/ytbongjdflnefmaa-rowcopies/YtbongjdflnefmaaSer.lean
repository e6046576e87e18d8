/- What the small functions of package serial and of the numbers of errors answer, each as a contract over the translated program. No condition of its own. -/
import Derived.Test.YtbongjdflnefmaaRows
import Derived.Test.YtbongjdflnefmaaWords
import Derived.BigQuiet
namespace Go.Proofs.Ytbongjdflnefmaa
open Go.RowKit
set_option linter.unusedVariables false
set_option linter.unusedSimpArgs false
set_option maxRecDepth 100000

/-- How far b is behind a. -/
def Ser.far (a b : Int) : Int := (b - a) % 4294967296
def Ser.step (a n : Int) : Int := (a + n) % 4294967296
theorem Ser.far_lt (a b : Int) : 0 ≤ Ser.far a b ∧ Ser.far a b < 4294967296 := ⟨Int.emod_nonneg _ (by omega), Int.emod_lt_of_pos _ (by omega)⟩
theorem Ser.step_lt (a b : Int) : Of 4294967296 (Ser.step a b) := ⟨Int.emod_nonneg _ (by omega), Int.emod_lt_of_pos _ (by omega)⟩

set_option maxHeartbeats 400000 in
theorem far32 (a b : Int) (w : World) (ha : Of 4294967296 a) (hb : Of 4294967296 b) :
    Calls Try.prog 37 #[.int .u32 a, .int .u32 b] w fun e w' => e = .returned (.int .i64 (Ser.far a b)) ∧ w' = w := by
  go_enter Try.func37, Try.ntmps37
  go_wp2
  go_ret
  exact ⟨rfl, rfl⟩

set_option maxHeartbeats 400000 in
theorem step32 (a n : Int) (w : World) (ha : Of 4294967296 a) (hb : W64 n) :
    Calls Try.prog 38 #[.int .u32 a, .int .i64 n] w fun e w' => e = .returned (.int .u32 (Ser.step a n)) ∧ w' = w := by
  go_enter Try.func38, Try.ntmps38
  go_wp2
  go_ret
  exact ⟨ret_int (by unfold Ser.step; omega), rfl⟩

set_option maxHeartbeats 400000 in
theorem within32 (a b n : Int) (w : World) (ha : Of 4294967296 a) (hb : Of 4294967296 b) (hn : W64 n) :
    Calls Try.prog 45 #[.int .u32 a, .int .u32 b, .int .i64 n] w fun e w' => e = .returned (.bool (decide (Ser.far b a < n))) ∧ w' = w := by
  go_enter Try.func45, Try.ntmps45
  go_wp2_with (go_at_call 37; refine (far32 b a _ hb ha).mono ?_; rintro e w' ⟨rfl, rfl⟩)
  go_ret
  exact ⟨rfl, rfl⟩

/-- An error by its number: none, or one of the program's. -/
def errOf (n : Int) : Value := if n = 0 then .nilIface else .iface 33 (.int .i64 n)

set_option maxHeartbeats 400000 in
theorem num_nil (w : World) : Calls Try.prog 29 #[.nilIface] w fun e w' => e = .returned (.int .i64 0) ∧ w' = w := by
  go_enter Try.func29, Try.ntmps29
  go_wp2
  go_ret
  exact ⟨rfl, rfl⟩
theorem assert33 (W : World) (v : Value) : (Instr.typeAssert (.iface 33 v) 29 33 true).run Try.prog W = .ok (.tuple #[v, .bool true]) W := by kernel_rfl
set_option maxHeartbeats 400000 in
theorem num_err (n : Int) (w : World) (hn : W64 n) (h0 : n ≠ 0) : Calls Try.prog 29 #[.iface 33 (.int .i64 n)] w fun e w' => e = .returned (.int .i64 n) ∧ w' = w := by
  have ha := assert33 w (.int .i64 n)
  go_enter Try.func29, Try.ntmps29
  go_wp2
  all_goals go_ret
  all_goals exact ⟨rfl, rfl⟩
theorem num_any (n : Int) (w : World) (hn : W64 n) : Calls Try.prog 29 #[errOf n] w fun e w' => e = .returned (.int .i64 n) ∧ w' = w := by
  unfold errOf
  split
  · rename_i h; subst h; exact num_nil w
  · rename_i h; exact num_err n w hn h
set_option maxHeartbeats 400000 in
theorem is_nil (k : Int) (w : World) (hk : W64 k) : Calls Try.prog 10 #[.nilIface, .int .i64 k] w fun e w' => e = .returned (.bool (decide (0 = k))) ∧ w' = w := by
  go_enter Try.func10, Try.ntmps10
  go_wp2_with (go_at_call 29; refine (num_nil _).mono ?_; rintro e w' ⟨rfl, rfl⟩)
  go_ret
  exact ⟨rfl, rfl⟩
set_option maxHeartbeats 400000 in
theorem is_err (n k : Int) (w : World) (hn : W64 n) (h0 : n ≠ 0) (hk : W64 k) : Calls Try.prog 10 #[.iface 33 (.int .i64 n), .int .i64 k] w fun e w' => e = .returned (.bool (decide (n = k))) ∧ w' = w := by
  go_enter Try.func10, Try.ntmps10
  go_wp2_with (go_at_call 29; refine (num_err n _ hn h0).mono ?_; rintro e w' ⟨rfl, rfl⟩)
  go_ret
  exact ⟨rfl, rfl⟩
end Go.Proofs.Ytbongjdflnefmaa
