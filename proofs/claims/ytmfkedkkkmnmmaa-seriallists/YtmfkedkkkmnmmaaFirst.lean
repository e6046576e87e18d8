/- How many numbers the first run of a list has: the code's own count. No condition of its own. -/
import Derived.Test.YtmfkedkkkmnmmaaNums
import Derived.Deep.QuietTactic
import Derived.BigQuiet
import Derived.WalkSmall
import Derived.Deep.LoopGhost
namespace Go.Proofs.Ytmfkedkkkmnmmaa
open Go.RowKit Go.Shelf
set_option linter.unusedVariables false
set_option linter.unusedSimpArgs false

/-- How many numbers the first run of a list has. -/
def Ser.runLen (m : Int) : List Int → Nat
  | [] => 0
  | [_] => 1
  | x :: y :: r => if y = Ser.step m x 1 then Ser.runLen m (y :: r) + 1 else 1
theorem Ser.runLen_eq (m : Int) : ∀ (l : List Int) (n : Nat), 1 ≤ n → n ≤ l.length → (∀ j, 1 ≤ j → j < n → l.getD j 0 = Ser.step m (l.getD (j - 1) 0) 1) → (n = l.length ∨ l.getD n 0 ≠ Ser.step m (l.getD (n - 1) 0) 1) → Ser.runLen m l = n
  | [], n, h1, h2, _, _ => by simp at h2; omega
  | [x], n, h1, h2, _, _ => by simp at h2; simp [Ser.runLen]; omega
  | x :: y :: r, n, h1, h2, h3, h4 => by
    unfold Ser.runLen
    by_cases hy : y = Ser.step m x 1
    · rw [if_pos hy]
      have hn : 2 ≤ n := by
        rcases Nat.lt_or_ge n 2 with h | h
        · obtain rfl : n = 1 := by omega
          rcases h4 with h4 | h4
          · simp at h4
          · simp at h4; exact absurd hy h4
        · exact h
      rw [Ser.runLen_eq m (y :: r) (n - 1) (by omega) (by simp at h2 ⊢; omega) (fun j hj1 hj2 => by
        have := h3 (j + 1) (by omega) (by omega)
        obtain ⟨j', rfl⟩ : ∃ j', j = j' + 1 := ⟨j - 1, by omega⟩
        simpa using this) ?_]
      · omega
      · obtain ⟨n', rfl⟩ : ∃ n', n = n' + 2 := ⟨n - 2, by omega⟩
        rcases h4 with h4 | h4
        · left; simp at h4 ⊢; omega
        · right; simpa using h4
    · rw [if_neg hy]
      rcases Nat.lt_or_ge n 2 with h | h
      · omega
      · exact absurd (h3 1 (by omega) (by omega)) (by simpa using hy)
theorem Ser.runLen_le (m : Int) : ∀ l : List Int, Ser.runLen m l ≤ l.length
  | [] => Nat.le_refl _
  | [_] => Nat.le_refl _
  | x :: y :: r => by
    unfold Ser.runLen
    split
    · have := Ser.runLen_le m (y :: r); simp at this ⊢; omega
    · simp
theorem Ser.runLen_pos (m : Int) : ∀ l : List Int, l ≠ [] → 1 ≤ Ser.runLen m l
  | [], h => absurd rfl h
  | [_], _ => Nat.le_refl _
  | x :: y :: r, _ => by unfold Ser.runLen; split <;> omega

set_option maxHeartbeats 1000000 in
theorem firstRun16 (v : Value) (l : List Int) (w : World) (hv : NumsAt .u16 w v l) (h1 : ∀ x ∈ l, Of 65536 x) (hne : l ≠ []) :
    Calls Try.prog 44 #[v] w fun e w' => e = .returned (.int .i64 (Ser.runLen 65536 l : Nat)) ∧ Ext w w' := by
  obtain ⟨a, cap, rfl, ⟨hlc, hcm⟩, hcell⟩ := hv.form
  have hlen : 0 < l.length := List.length_pos_iff.2 hne
  obtain ⟨b, off, rfl, _⟩ := hcell 0 hlen
  have HC : Hid (∀ j, j < l.length → w.cell? ⟨b, off + j, none⟩ = some (.int .u16 (l.getD j 0))) := fun j hj => by
    obtain ⟨b', off', e, hc⟩ := hcell j hj
    simp at e; obtain ⟨rfl, rfl⟩ := e; exact hc
  have HO : Hid (∀ j, j < l.length → Of 65536 (l.getD j 0)) := fun j hj => h1 _ (getD_mem l 0 j hj)
  have HN : Hid (l ≠ []) := hne
  have hmx : cap ≤ 9223372036854775807 := by unfold maxLen at hcm; omega
  clear hv hcell h1 hne hcm
  go_enter Try.func44, Try.ntmps44
  go_wp2
  go_loopg [3] (l.length - 1) (fun g s wr => Ext w wr ∧ ∃ n : Nat, 1 ≤ n ∧ n ≤ l.length ∧ g = l.length - n ∧ s = .int .i64 (n : Int) ∧ Hid (∀ j, 1 ≤ j → j < n → l.getD j 0 = Ser.step 65536 (l.getD (j - 1) 0) 1))
  case atStart => exact ⟨Ext.refl _, 1, by omega, hlen, rfl, rfl, fun j h1 h2 => by omega⟩
  case round =>
    obtain ⟨hE, n, hn1, hn2, rfl, rfl, HJ⟩ := hrel
    by_cases hlt : n < l.length
    · have c1 := hE.cell (HC.out n hlt)
      have c2 := hE.cell (HC.out (n - 1) (by omega))
      have o2 := HO.out (n - 1) (by omega)
      have o1 := HO.out n hlt
      have HX : Hid (l.getD n 0 = Ser.step 65536 (l.getD (n - 1) 0) 1 → ∀ j, 1 ≤ j → j < n + 1 → l.getD j 0 = Ser.step 65536 (l.getD (j - 1) 0) 1) := fun e j hj1 hj2 => by
        rcases Nat.lt_or_ge j n with h | h
        · exact HJ.out j hj1 h
        · obtain rfl : j = n := by omega
          exact e
      have HY : Hid (l.getD n 0 ≠ Ser.step 65536 (l.getD (n - 1) 0) 1 → Ser.runLen 65536 l = n) := fun e => Ser.runLen_eq 65536 l n hn1 (by omega) HJ.out (.inr e)
      generalize l.getD n 0 = x at *
      generalize l.getD (n - 1) 0 = y at *
      have hi : ((n : Int) - 1).toNat = n - 1 := by omega
      have hlt' : (n : Int) < (l.length : Int) := by omega
      have hs := Ser.step_lt (m := 65536) y 1 (by decide)
      obtain ⟨st, hst⟩ : ∃ st, Ser.step 65536 y 1 = st := ⟨_, rfl⟩
      rw [hst] at HX HY hs
      by_cases hq : x = st
      · have hqb : (x == st) = true := by simp [hq]
        go_wp2_with fail
        go_quiet (first | (go_at_call 42; refine Calls.quiet_of_same (hst ▸ step16 _ _ _ o2 (by decide))))
        go_wp2
        go_roundg (l.length - (n + 1))
        case measure => omega
        case rel => exact ⟨hE.trans (below_drewN (Below.refl _ _) _), n + 1, by omega, by omega, rfl, by simp, HX.out hq⟩
      · have hqb : (x == st) = false := by simp [hq]
        go_wp2_with fail
        go_quiet (first | (go_at_call 42; refine Calls.quiet_of_same (hst ▸ step16 _ _ _ o2 (by decide))))
        go_wp2
        go_ret
        exact ⟨ret_int (by rw [HY.out hq]), hE.trans (below_drewN (Below.refl _ _) _)⟩
    · have hd : decide ((n : Int) < (l.length : Int)) = false := decide_eq_false (by omega)
      have HY : Hid (Ser.runLen 65536 l = n) := Ser.runLen_eq 65536 l n hn1 (by omega) HJ.out (.inl (by omega))
      go_wp2_with fail
      go_quiet (fail)
      go_wp2
      go_ret
      exact ⟨ret_int (by rw [HY.out]), hE.trans (below_drewN (Below.refl _ _) _)⟩

set_option maxHeartbeats 1000000 in
theorem firstRun32 (v : Value) (l : List Int) (w : World) (hv : NumsAt .u32 w v l) (h1 : ∀ x ∈ l, Of 4294967296 x) (hne : l ≠ []) :
    Calls Try.prog 39 #[v] w fun e w' => e = .returned (.int .i64 (Ser.runLen 4294967296 l : Nat)) ∧ Ext w w' := by
  obtain ⟨a, cap, rfl, ⟨hlc, hcm⟩, hcell⟩ := hv.form
  have hlen : 0 < l.length := List.length_pos_iff.2 hne
  obtain ⟨b, off, rfl, _⟩ := hcell 0 hlen
  have HC : Hid (∀ j, j < l.length → w.cell? ⟨b, off + j, none⟩ = some (.int .u32 (l.getD j 0))) := fun j hj => by
    obtain ⟨b', off', e, hc⟩ := hcell j hj
    simp at e; obtain ⟨rfl, rfl⟩ := e; exact hc
  have HO : Hid (∀ j, j < l.length → Of 4294967296 (l.getD j 0)) := fun j hj => h1 _ (getD_mem l 0 j hj)
  have HN : Hid (l ≠ []) := hne
  have hmx : cap ≤ 9223372036854775807 := by unfold maxLen at hcm; omega
  clear hv hcell h1 hne hcm
  go_enter Try.func39, Try.ntmps39
  go_wp2
  go_loopg [3] (l.length - 1) (fun g s wr => Ext w wr ∧ ∃ n : Nat, 1 ≤ n ∧ n ≤ l.length ∧ g = l.length - n ∧ s = .int .i64 (n : Int) ∧ Hid (∀ j, 1 ≤ j → j < n → l.getD j 0 = Ser.step 4294967296 (l.getD (j - 1) 0) 1))
  case atStart => exact ⟨Ext.refl _, 1, by omega, hlen, rfl, rfl, fun j h1 h2 => by omega⟩
  case round =>
    obtain ⟨hE, n, hn1, hn2, rfl, rfl, HJ⟩ := hrel
    by_cases hlt : n < l.length
    · have c1 := hE.cell (HC.out n hlt)
      have c2 := hE.cell (HC.out (n - 1) (by omega))
      have o2 := HO.out (n - 1) (by omega)
      have o1 := HO.out n hlt
      have HX : Hid (l.getD n 0 = Ser.step 4294967296 (l.getD (n - 1) 0) 1 → ∀ j, 1 ≤ j → j < n + 1 → l.getD j 0 = Ser.step 4294967296 (l.getD (j - 1) 0) 1) := fun e j hj1 hj2 => by
        rcases Nat.lt_or_ge j n with h | h
        · exact HJ.out j hj1 h
        · obtain rfl : j = n := by omega
          exact e
      have HY : Hid (l.getD n 0 ≠ Ser.step 4294967296 (l.getD (n - 1) 0) 1 → Ser.runLen 4294967296 l = n) := fun e => Ser.runLen_eq 4294967296 l n hn1 (by omega) HJ.out (.inr e)
      generalize l.getD n 0 = x at *
      generalize l.getD (n - 1) 0 = y at *
      have hi : ((n : Int) - 1).toNat = n - 1 := by omega
      have hlt' : (n : Int) < (l.length : Int) := by omega
      have hs := Ser.step_lt (m := 4294967296) y 1 (by decide)
      obtain ⟨st, hst⟩ : ∃ st, Ser.step 4294967296 y 1 = st := ⟨_, rfl⟩
      rw [hst] at HX HY hs
      by_cases hq : x = st
      · have hqb : (x == st) = true := by simp [hq]
        go_wp2_with fail
        go_quiet (first | (go_at_call 13; refine Calls.quiet_of_same (hst ▸ step32 _ _ _ o2 (by decide))))
        go_wp2
        go_roundg (l.length - (n + 1))
        case measure => omega
        case rel => exact ⟨hE.trans (below_drewN (Below.refl _ _) _), n + 1, by omega, by omega, rfl, by simp, HX.out hq⟩
      · have hqb : (x == st) = false := by simp [hq]
        go_wp2_with fail
        go_quiet (first | (go_at_call 13; refine Calls.quiet_of_same (hst ▸ step32 _ _ _ o2 (by decide))))
        go_wp2
        go_ret
        exact ⟨ret_int (by rw [HY.out hq]), hE.trans (below_drewN (Below.refl _ _) _)⟩
    · have hd : decide ((n : Int) < (l.length : Int)) = false := decide_eq_false (by omega)
      have HY : Hid (Ser.runLen 4294967296 l = n) := Ser.runLen_eq 4294967296 l n hn1 (by omega) HJ.out (.inl (by omega))
      go_wp2_with fail
      go_quiet (fail)
      go_wp2
      go_ret
      exact ⟨ret_int (by rw [HY.out]), hE.trans (below_drewN (Below.refl _ _) _)⟩
end Go.Proofs.Ytmfkedkkkmnmmaa
