/- What the small functions of package serial and of the document's own reckoning answer, each as a contract over the translated program. No condition of its own. -/
import Derived.Test.YtmfkedkkkmnmmaaRows
import Derived.Test.YtmfkedkkkmnmmaaKit
import Derived.WalkKit
import Derived.ProofKit
import Derived.OpenShut
import Derived.ChangeOld
import Derived.Below
import Derived.Laws.BitsAllLaws
namespace Go.Proofs.Ytmfkedkkkmnmmaa
open Go.RowKit
set_option linter.unusedVariables false
set_option linter.unusedSimpArgs false

/-- How far b is behind a, of m numbers. -/
def Ser.far (m a b : Int) : Int := (b - a) % m
def Ser.ahead (m a b : Int) : Bool := Ser.far m a b != 0 && decide (Ser.far m a b < m / 2)
def Ser.step (m a n : Int) : Int := (a + n) % m
def Ser.later (m a b : Int) : Int := if Ser.ahead m a b then b else a

theorem Ser.far_lt {m : Int} (a b : Int) (h : 0 < m) : 0 ≤ Ser.far m a b ∧ Ser.far m a b < m := ⟨Int.emod_nonneg _ (by omega), Int.emod_lt_of_pos _ h⟩
theorem Ser.step_lt {m : Int} (a b : Int) (h : 0 < m) : 0 ≤ Ser.step m a b ∧ Ser.step m a b < m := ⟨Int.emod_nonneg _ (by omega), Int.emod_lt_of_pos _ h⟩
theorem Ser.later_lt {m a b : Int} (ha : 0 ≤ a ∧ a < m) (hb : 0 ≤ b ∧ b < m) : 0 ≤ Ser.later m a b ∧ Ser.later m a b < m := by
  unfold Ser.later; split <;> assumption
theorem ret_bool {a b : Bool} (h : a = b) : Ending.returned (.bool a) = .returned (.bool b) := by rw [h]
/-- The half of the numbers of a kind, as the code reckons it. -/
theorem half32 : bits .xor .u32 IntKind.u32.max 0 = 4294967295 := by decide +kernel
theorem half16 : bits .xor .u16 IntKind.u16.max 0 = 65535 := by decide +kernel
abbrev W64 (n : Int) : Prop := -9223372036854775808 ≤ n ∧ n < 9223372036854775808
abbrev Of (m a : Int) : Prop := 0 ≤ a ∧ a < m

set_option maxHeartbeats 400000 in
theorem far32 (a b : Int) (w : World) (ha : Of 4294967296 a) (hb : Of 4294967296 b) :
    Calls Try.prog 10 #[.int .u32 a, .int .u32 b] w fun e w' => e = .returned (.int .i64 (Ser.far 4294967296 a b)) ∧ w' = w := by
  go_enter Try.func10, Try.ntmps10
  go_wp2
  go_ret
  exact ⟨rfl, rfl⟩

set_option maxHeartbeats 400000 in
theorem step32 (a n : Int) (w : World) (ha : Of 4294967296 a) (hb : W64 n) :
    Calls Try.prog 13 #[.int .u32 a, .int .i64 n] w fun e w' => e = .returned (.int .u32 (Ser.step 4294967296 a n)) ∧ w' = w := by
  go_enter Try.func13, Try.ntmps13
  go_wp2
  go_ret
  exact ⟨ret_int (by unfold Ser.step; omega), rfl⟩

set_option maxHeartbeats 400000 in
theorem ahead32 (a b : Int) (w : World) (ha : Of 4294967296 a) (hb : Of 4294967296 b) :
    Calls Try.prog 11 #[.int .u32 a, .int .u32 b] w fun e w' => e = .returned (.bool (Ser.ahead 4294967296 a b)) ∧ w' = w := by
  have hh := half32
  have hu := Ser.far_lt (m := 4294967296) a b (by decide)
  have hE : Hid (Ser.ahead 4294967296 a b = ((b - a) % 4294967296 != 0 && decide ((b - a) % 4294967296 ≤ 2147483647))) := by
    show (_ && decide (_ < _)) = _
    unfold Ser.far
    congr 2
    simp only [eq_iff_iff]; omega
  by_cases h0 : (b - a) % 4294967296 = 0
  · have hz : ((b - a) % 4294967296 != 0) = false := by rw [h0]; rfl
    go_enter Try.func11, Try.ntmps11
    go_wp2
    all_goals (try (exfalso; revert h; decide))
    all_goals go_ret
    all_goals exact ⟨ret_bool (by rw [hE.out, hz]; rfl), rfl⟩
  · have hz : ((b - a) % 4294967296 != 0) = true := bne_iff_ne.2 h0
    go_enter Try.func11, Try.ntmps11
    go_wp2
    all_goals (try (exfalso; revert h; decide))
    all_goals go_ret
    all_goals exact ⟨ret_bool (by rw [hE.out]; simp [hz, hh]), rfl⟩

set_option maxHeartbeats 400000 in
theorem later32 (a b : Int) (w : World) (ha : Of 4294967296 a) (hb : Of 4294967296 b) :
    Calls Try.prog 15 #[.int .u32 a, .int .u32 b] w fun e w' => e = .returned (.int .u32 (Ser.later 4294967296 a b)) ∧ w' = w := by
  have hE : Hid (Ser.later 4294967296 a b = if Ser.ahead 4294967296 a b then b else a) := rfl
  cases hz : Ser.ahead 4294967296 a b
  · go_enter Try.func15, Try.ntmps15
    go_wp2_with (go_at_call 11; refine (ahead32 a b _ ha hb).mono ?_; rintro e w' ⟨rfl, rfl⟩; rw [hz])
    go_ret
    exact ⟨ret_int (by rw [hE.out, hz]; rfl), rfl⟩
  · go_enter Try.func15, Try.ntmps15
    go_wp2_with (go_at_call 11; refine (ahead32 a b _ ha hb).mono ?_; rintro e w' ⟨rfl, rfl⟩; rw [hz])
    go_ret
    exact ⟨ret_int (by rw [hE.out, hz]; rfl), rfl⟩

set_option maxHeartbeats 400000 in
theorem within32 (a b n : Int) (w : World) (ha : Of 4294967296 a) (hb : Of 4294967296 b) (hn : W64 n) :
    Calls Try.prog 17 #[.int .u32 a, .int .u32 b, .int .i64 n] w fun e w' => e = .returned (.bool (decide (Ser.far 4294967296 b a < n))) ∧ w' = w := by
  go_enter Try.func17, Try.ntmps17
  go_wp2_with (go_at_call 10; refine (far32 b a _ hb ha).mono ?_; rintro e w' ⟨rfl, rfl⟩)
  go_ret
  exact ⟨rfl, rfl⟩

set_option maxHeartbeats 400000 in
theorem farS (a b : Int) (w : World) (ha : Of 65536 a) (hb : Of 65536 b) :
    Calls Try.prog 18 #[.int .u16 a, .int .u16 b] w fun e w' => e = .returned (.int .i64 (Ser.far 65536 a b)) ∧ w' = w := by
  have hw := IntKind.wrap_u16 (b - a)
  go_enter Try.func18, Try.ntmps18
  go_wp2
  go_ret
  exact ⟨rfl, rfl⟩

set_option maxHeartbeats 400000 in
theorem stepS (a n : Int) (w : World) (ha : Of 65536 a) (hb : W64 n) :
    Calls Try.prog 20 #[.int .u16 a, .int .i64 n] w fun e w' => e = .returned (.int .u16 (Ser.step 65536 a n)) ∧ w' = w := by
  have hw := IntKind.wrap_u16 n
  have hw2 := IntKind.wrap_u16 (a + n % 65536)
  go_enter Try.func20, Try.ntmps20
  go_wp2
  go_ret
  exact ⟨ret_int (by unfold Ser.step; omega), rfl⟩

set_option maxHeartbeats 400000 in
theorem aheadS (a b : Int) (w : World) (ha : Of 65536 a) (hb : Of 65536 b) :
    Calls Try.prog 19 #[.int .u16 a, .int .u16 b] w fun e w' => e = .returned (.bool (Ser.ahead 65536 a b)) ∧ w' = w := by
  have hh := half16
  have hu := Ser.far_lt (m := 65536) a b (by decide)
  have hE : Hid (Ser.ahead 65536 a b = ((b - a) % 65536 != 0 && decide ((b - a) % 65536 ≤ 32767))) := by
    show (_ && decide (_ < _)) = _
    unfold Ser.far
    congr 2
    simp only [eq_iff_iff]; omega
  have hw := IntKind.wrap_u16 (b - a)
  by_cases h0 : (b - a) % 65536 = 0
  · have hz : ((b - a) % 65536 != 0) = false := by rw [h0]; rfl
    go_enter Try.func19, Try.ntmps19
    go_wp2
    all_goals (try (exfalso; revert h; decide))
    all_goals go_ret
    all_goals exact ⟨ret_bool (by rw [hE.out, hz]; rfl), rfl⟩
  · have hz : ((b - a) % 65536 != 0) = true := bne_iff_ne.2 h0
    go_enter Try.func19, Try.ntmps19
    go_wp2
    all_goals (try (exfalso; revert h; decide))
    all_goals go_ret
    all_goals exact ⟨ret_bool (by rw [hE.out]; simp [hz, hh]), rfl⟩

set_option maxHeartbeats 400000 in
theorem laterS (a b : Int) (w : World) (ha : Of 65536 a) (hb : Of 65536 b) :
    Calls Try.prog 21 #[.int .u16 a, .int .u16 b] w fun e w' => e = .returned (.int .u16 (Ser.later 65536 a b)) ∧ w' = w := by
  have hE : Hid (Ser.later 65536 a b = if Ser.ahead 65536 a b then b else a) := rfl
  cases hz : Ser.ahead 65536 a b
  · go_enter Try.func21, Try.ntmps21
    go_wp2_with (go_at_call 19; refine (aheadS a b _ ha hb).mono ?_; rintro e w' ⟨rfl, rfl⟩; rw [hz])
    go_ret
    exact ⟨ret_int (by rw [hE.out, hz]; rfl), rfl⟩
  · go_enter Try.func21, Try.ntmps21
    go_wp2_with (go_at_call 19; refine (aheadS a b _ ha hb).mono ?_; rintro e w' ⟨rfl, rfl⟩; rw [hz])
    go_ret
    exact ⟨ret_int (by rw [hE.out, hz]; rfl), rfl⟩

set_option maxHeartbeats 400000 in
theorem withinS (a b n : Int) (w : World) (ha : Of 65536 a) (hb : Of 65536 b) (hn : W64 n) :
    Calls Try.prog 22 #[.int .u16 a, .int .u16 b, .int .i64 n] w fun e w' => e = .returned (.bool (decide (Ser.far 65536 b a < n))) ∧ w' = w := by
  go_enter Try.func22, Try.ntmps22
  go_wp2_with (go_at_call 18; refine (farS b a _ hb ha).mono ?_; rintro e w' ⟨rfl, rfl⟩)
  go_ret
  exact ⟨rfl, rfl⟩

set_option maxHeartbeats 400000 in
theorem far16 (a b : Int) (w : World) (ha : Of 65536 a) (hb : Of 65536 b) :
    Calls Try.prog 33 #[.int .u16 a, .int .u16 b] w fun e w' => e = .returned (.int .i64 (Ser.far 65536 a b)) ∧ w' = w := by
  have hw := IntKind.wrap_u16 (b - a)
  go_enter Try.func33, Try.ntmps33
  go_wp2
  go_ret
  exact ⟨rfl, rfl⟩

set_option maxHeartbeats 400000 in
theorem step16 (a n : Int) (w : World) (ha : Of 65536 a) (hb : W64 n) :
    Calls Try.prog 42 #[.int .u16 a, .int .i64 n] w fun e w' => e = .returned (.int .u16 (Ser.step 65536 a n)) ∧ w' = w := by
  have hw := IntKind.wrap_u16 n
  have hw2 := IntKind.wrap_u16 (a + n % 65536)
  go_enter Try.func42, Try.ntmps42
  go_wp2
  go_ret
  exact ⟨ret_int (by unfold Ser.step; omega), rfl⟩

set_option maxHeartbeats 400000 in
theorem ahead16 (a b : Int) (w : World) (ha : Of 65536 a) (hb : Of 65536 b) :
    Calls Try.prog 32 #[.int .u16 a, .int .u16 b] w fun e w' => e = .returned (.bool (Ser.ahead 65536 a b)) ∧ w' = w := by
  have hh := half16
  have hu := Ser.far_lt (m := 65536) a b (by decide)
  have hE : Hid (Ser.ahead 65536 a b = ((b - a) % 65536 != 0 && decide ((b - a) % 65536 ≤ 32767))) := by
    show (_ && decide (_ < _)) = _
    unfold Ser.far
    congr 2
    simp only [eq_iff_iff]; omega
  have hw := IntKind.wrap_u16 (b - a)
  by_cases h0 : (b - a) % 65536 = 0
  · have hz : ((b - a) % 65536 != 0) = false := by rw [h0]; rfl
    go_enter Try.func32, Try.ntmps32
    go_wp2
    all_goals (try (exfalso; revert h; decide))
    all_goals go_ret
    all_goals exact ⟨ret_bool (by rw [hE.out, hz]; rfl), rfl⟩
  · have hz : ((b - a) % 65536 != 0) = true := bne_iff_ne.2 h0
    go_enter Try.func32, Try.ntmps32
    go_wp2
    all_goals (try (exfalso; revert h; decide))
    all_goals go_ret
    all_goals exact ⟨ret_bool (by rw [hE.out]; simp [hz, hh]), rfl⟩

abbrev Kind (m : Int) : Prop := m = 65536 ∨ m = 4294967296
theorem Ser.rem_far {m a b : Int} (hm : Kind m) (ha : Of m a) (hb : Of m b) : (wrap64 ((b - a).tmod m + m)).tmod m = Ser.far m a b := by
  unfold Ser.far
  rcases hm with rfl | rfl <;> simp only [Int.tmod_eq_emod, wrap64] <;> (repeat' split) <;> omega
theorem Ser.rem_step {m a n : Int} (hm : Kind m) (ha : Of m a) (hn : W64 n) : (wrap64 (wrap64 (a + n.tmod m) + m)).tmod m = Ser.step m a n := by
  unfold Ser.step
  rcases hm with rfl | rfl <;> simp only [Int.tmod_eq_emod, wrap64] <;> (repeat' split) <;> omega

set_option maxHeartbeats 400000 in
theorem rfar (a b m : Int) (w : World) (hm : Kind m) (ha : Of m a) (hb : Of m b) :
    Calls Try.prog 9 #[.int .i64 a, .int .i64 b, .int .i64 m] w fun e w' => e = .returned (.int .i64 (Ser.far m a b)) ∧ w' = w := by
  have hE : Hid (_ = Ser.far m a b) := Ser.rem_far hm ha hb
  go_enter Try.func9, Try.ntmps9
  go_wp2
  go_ret
  exact ⟨ret_int hE.out, rfl⟩
set_option maxHeartbeats 400000 in
theorem rstep (a n m : Int) (w : World) (hm : Kind m) (ha : Of m a) (hb : W64 n) :
    Calls Try.prog 14 #[.int .i64 a, .int .i64 n, .int .i64 m] w fun e w' => e = .returned (.int .i64 (Ser.step m a n)) ∧ w' = w := by
  have hE : Hid (_ = Ser.step m a n) := Ser.rem_step hm ha hb
  go_enter Try.func14, Try.ntmps14
  go_wp2
  go_ret
  exact ⟨ret_int hE.out, rfl⟩
set_option maxHeartbeats 400000 in
theorem rahead (a b m : Int) (w : World) (hm : Kind m) (ha : Of m a) (hb : Of m b) :
    Calls Try.prog 12 #[.int .i64 a, .int .i64 b, .int .i64 m] w fun e w' => e = .returned (.bool (Ser.ahead m a b)) ∧ w' = w := by
  have hu := Ser.far_lt (m := m) a b (by rcases hm with rfl | rfl <;> decide)
  obtain ⟨f, hf⟩ : ∃ f, Ser.far m a b = f := ⟨_, rfl⟩
  have hE : Hid (Ser.ahead m a b = (f != 0 && decide (f < m / 2))) := by subst hf; rfl
  have hG : Hid (Ser.far m a b = f) := hf
  rw [hf] at hu
  clear hf
  have hF : Hid (Kind m ∧ Of m a ∧ Of m b) := ⟨hm, ha, hb⟩
  have hq : m.tdiv 2 = m / 2 := by rcases hm with rfl | rfl <;> decide
  cases hz : (f != 0)
  · go_enter Try.func12, Try.ntmps12
    go_wp2_with (go_at_call 9; refine (rfar a b m _ hF.out.1 hF.out.2.1 hF.out.2.2).mono ?_; rintro e w' ⟨rfl, rfl⟩; rw [hG.out])
    go_ret
    exact ⟨ret_bool (by rw [hE.out, hz]; rfl), rfl⟩
  · go_enter Try.func12, Try.ntmps12
    go_wp2_with (go_at_call 9; refine (rfar a b m _ hF.out.1 hF.out.2.1 hF.out.2.2).mono ?_; rintro e w' ⟨rfl, rfl⟩; rw [hG.out])
    go_ret
    exact ⟨ret_bool (by rw [hE.out, hz]; simp [hq]), rfl⟩
set_option maxHeartbeats 400000 in
theorem rlater (a b m : Int) (w : World) (hm : Kind m) (ha : Of m a) (hb : Of m b) :
    Calls Try.prog 16 #[.int .i64 a, .int .i64 b, .int .i64 m] w fun e w' => e = .returned (.int .i64 (Ser.later m a b)) ∧ w' = w := by
  have hE : Hid (Ser.later m a b = if Ser.ahead m a b then b else a) := rfl
  have hF : Hid (Kind m ∧ Of m a ∧ Of m b) := ⟨hm, ha, hb⟩
  cases hz : Ser.ahead m a b
  · go_enter Try.func16, Try.ntmps16
    go_wp2_with (go_at_call 12; refine (rahead a b m _ hF.out.1 hF.out.2.1 hF.out.2.2).mono ?_; rintro e w' ⟨rfl, rfl⟩; rw [hz])
    go_ret
    exact ⟨ret_int (by rw [hE.out, hz]; rfl), rfl⟩
  · go_enter Try.func16, Try.ntmps16
    go_wp2_with (go_at_call 12; refine (rahead a b m _ hF.out.1 hF.out.2.1 hF.out.2.2).mono ?_; rintro e w' ⟨rfl, rfl⟩; rw [hz])
    go_ret
    exact ⟨ret_int (by rw [hE.out, hz]; rfl), rfl⟩
theorem of_u32 {a : Int} (h : (Lit.int IntKind.u32 a).wf = true) : Of 4294967296 a := by
  simp only [Lit.wf, IntKind.min, IntKind.max, IntKind.signed, IntKind.bits] at h
  simp at h; constructor <;> omega
theorem of_u16 {a : Int} (h : (Lit.int IntKind.u16 a).wf = true) : Of 65536 a := by
  simp only [Lit.wf, IntKind.min, IntKind.max, IntKind.signed, IntKind.bits] at h
  simp at h; constructor <;> omega
theorem of_i64 {a : Int} (h : (Lit.int IntKind.i64 a).wf = true) : W64 a := by
  simp only [Lit.wf, IntKind.min, IntKind.max, IntKind.signed, IntKind.bits] at h
  simp at h; constructor <;> omega
end Go.Proofs.Ytmfkedkkkmnmmaa
