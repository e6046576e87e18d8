/- The document's own row: where a number stands, and its thing. No condition of its own. -/
import Derived.Test.YtbongjdflnefmaaMine
namespace Go.Proofs.Ytbongjdflnefmaa
open Go.RowKit
set_option linter.unusedVariables false
set_option linter.unusedSimpArgs false
set_option maxRecDepth 100000

abbrev refV (f m : Int) (u : Value) : Value := .agg #[.int .u32 f, .int .i64 m, u]
def refFind (f n : Int) (l : List Int) : Int := if Ser.far f n < l.length then Ser.far f n else -1

section
variable {f m n : Int} {l : List Int} {u : Value} {w : World}
set_option maxHeartbeats 1000000 in
theorem find_any (hf : Of 4294967296 f) (hm : W64 m) (hn : Of 4294967296 n) (hu : NumsAt .i64 w u l) (hl : l.length ≤ 1024) :
    Calls Try.prog 43 #[refV f m u, .int .u32 n] w fun e w' => e = .returned (.int .i64 (refFind f n l)) ∧ Ext w w' := by
  obtain ⟨a, cap, rfl, hcap, hcell⟩ := hu.form
  have hmx : cap ≤ 9223372036854775807 := by have := hcap.2; unfold maxLen at this; omega
  clear hu hcell
  go_enter Try.func43, Try.ntmps43
  go_wp2
  go_loopg [5] l.length (fun g s wr => wr = w.alloc (.cells #[.int .u32 f, .int .i64 m, .slice a l.length cap] 36) ∧ ∃ i : Nat, i ≤ l.length ∧ g = l.length - i ∧ s = .int .i64 i ∧ Hid (∀ j : Nat, j < i → (f + j) % 4294967296 ≠ n))
  case atStart => exact ⟨rfl, 0, by omega, rfl, rfl, fun j hj => by omega⟩
  case round =>
    obtain ⟨rfl, i, hi, rfl, rfl, HJ⟩ := hrel
    by_cases hlt : i < l.length
    · have hlt' : (i : Int) < (l.length : Int) := by omega
      by_cases hq : (f + i) % 4294967296 = n
      · have hqb : ((f + (i : Int)) % 4294967296 == n) = true := beq_iff_eq.2 hq
        have HR : Hid (refFind f n l = i) := (by
          have h1 := far_step hf i (by omega)
          rw [hq] at h1
          unfold refFind
          rw [h1, if_pos (by omega)] : refFind f n l = i)
        clear hq
        go_wp2
        go_ret
        exact ⟨ret_int HR.out.symm, Ext.alloc _ _⟩
      · have hqb : ((f + (i : Int)) % 4294967296 == n) = false := beq_eq_false_iff_ne.2 hq
        have HQ : Hid ((f + i) % 4294967296 ≠ n) := hq
        clear hq
        go_wp2
        go_roundg (l.length - (i + 1))
        case measure => omega
        case rel => exact ⟨rfl, i + 1, by omega, rfl, by simp, fun j hj => by
          rcases Nat.lt_or_ge j i with h | h
          · exact HJ.out j h
          · obtain rfl : j = i := by omega
            exact HQ.out⟩
    · have hlt' : decide ((i : Int) < (l.length : Int)) = false := decide_eq_false (by omega)
      have HR : Hid (refFind f n l = -1) := (by
        unfold refFind
        rw [if_neg]
        intro h
        have h1 := Ser.far_lt f n
        refine HJ.out (Ser.far f n).toNat (by omega) ?_
        rw [Int.toNat_of_nonneg h1.1]
        unfold Ser.far
        obtain ⟨_, _⟩ := hn
        omega : refFind f n l = -1)
      go_wp2
      go_ret
      exact ⟨ret_int HR.out.symm, Ext.alloc _ _⟩

set_option maxHeartbeats 1000000 in
theorem rat_any (hf : Of 4294967296 f) (hm : W64 m) (hn : Of 4294967296 n) (hu : NumsAt .i64 w u l) (hl : l.length ≤ 1024) :
    Calls Try.prog 34 #[refV f m u, .int .u32 n] w fun e w' => e = .returned (.tuple #[.int .i64 (rowGet f n l), .bool (decide (Ser.far f n < l.length))]) ∧ Ext w w' := by
  have HU : Hid (NumsAt .i64 w u l) := hu
  obtain ⟨a, cap, rfl, hcap, hcell⟩ := hu.form
  have hmx : cap ≤ 9223372036854775807 := by have := hcap.2; unfold maxLen at this; omega
  clear hu hcell
  have hu0 := Ser.far_lt f n
  by_cases hd : Ser.far f n < l.length
  · have hdd : decide (Ser.far f n < l.length) = true := by simpa using hd
    have hg : rowGet f n l = l.getD (Ser.far f n).toNat 0 := by unfold rowGet; rw [if_pos hd]
    have hr : refFind f n l = Ser.far f n := by unfold refFind; rw [if_pos hd]
    obtain ⟨k, hk⟩ : ∃ k : Nat, Ser.far f n = k := ⟨(Ser.far f n).toNat, by omega⟩
    rw [hdd, hg, hk, Int.toNat_natCast]
    rw [hk] at hr hd
    have HR : Hid (refFind f n l = k) := hr
    clear hr hg hk hdd hu0
    go_enter Try.func34, Try.ntmps34
    go_wp2_with (first
      | (go_at_call 43
         refine (find_any hf hm hn (HU.out.ext (Ext.alloc _ _)) hl).mono ?_
         rintro e w1 ⟨rfl, he⟩
         rw [HR.out]
         have c2 := he.cell (cellNew w _ 36 (0, 0) w.heap.size 2 rfl)
         obtain ⟨b1, o1, rfl, e1⟩ := HU.out.cellAt k (by omega)
         have c3 := ((Ext.alloc w _).trans he).cell e1
         have HE : Hid (Ext w w1) := (Ext.alloc w _).trans he
         clear he e1))
    go_ret2
    exact ⟨rfl, HE.out⟩
  · have hdd : decide (Ser.far f n < l.length) = false := by simpa using hd
    have hg : rowGet f n l = 0 := by unfold rowGet; rw [if_neg hd]
    have hr : refFind f n l = -1 := by unfold refFind; rw [if_neg hd]
    rw [hdd, hg]
    have HR : Hid (refFind f n l = -1) := hr
    clear hr hg hdd hu0 hd
    go_enter Try.func34, Try.ntmps34
    go_wp2_with (first
      | (go_at_call 43
         refine (find_any hf hm hn (HU.out.ext (Ext.alloc _ _)) hl).mono ?_
         rintro e w1 ⟨rfl, he⟩
         rw [HR.out]
         have HE : Hid (Ext w w1) := (Ext.alloc w _).trans he
         clear he))
    go_ret2
    exact ⟨rfl, HE.out⟩
end
end Go.Proofs.Ytbongjdflnefmaa
