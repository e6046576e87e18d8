/- Lists held side by side: the answer is true where both read as the same numbers. No condition of its own. -/
import Derived.Test.YtmfkedkkkmnmmaaNums
import Derived.Deep.QuietTactic
import Derived.BigQuiet
import Derived.WalkSmall
import Derived.Deep.LoopGhost
namespace Go.Proofs.Ytmfkedkkkmnmmaa
open Go.RowKit Go.Shelf
set_option linter.unusedVariables false
set_option linter.unusedSimpArgs false

set_option maxHeartbeats 1000000 in
theorem ints_same (v1 v2 : Value) (l : List Int) (w : World) (h1 : NumsAt .i64 w v1 l) (h2 : NumsAt .i64 w v2 l) :
    Calls Try.prog 27 #[v1, v2] w fun e w' => e = .returned (.bool true) ∧ Ext w w' := by
  obtain ⟨a1, c1, rfl, ⟨hc1, hm1⟩, hcell1⟩ := h1.form
  obtain ⟨a2, c2, rfl, ⟨hc2, hm2⟩, hcell2⟩ := h2.form
  have H1 : Hid (∀ j, j < l.length → ∃ b off, a1 = some ⟨b, off, none⟩ ∧ w.cell? ⟨b, off + j, none⟩ = some (.int .i64 (l.getD j 0))) := hcell1
  have H2 : Hid (∀ j, j < l.length → ∃ b off, a2 = some ⟨b, off, none⟩ ∧ w.cell? ⟨b, off + j, none⟩ = some (.int .i64 (l.getD j 0))) := hcell2
  have hmx : l.length ≤ 9223372036854775807 := by unfold maxLen at hm1; omega
  clear h1 h2 hcell1 hcell2 hm1 hm2
  go_enter Try.func27, Try.ntmps27
  go_wp2
  go_loopg [13] l.length (fun g s wr => Ext w wr ∧ ∃ i : Nat, i ≤ l.length ∧ g = l.length - i ∧ s = .int .i64 (i : Int))
  case atStart => exact ⟨Ext.refl _, 0, by omega, rfl, rfl⟩
  case round =>
    obtain ⟨hE, i, hi, rfl, rfl⟩ := hrel
    by_cases hlt : i < l.length
    · obtain ⟨b1, o1, rfl, e1⟩ := H1.out i hlt
      obtain ⟨b2, o2, rfl, e2⟩ := H2.out i hlt
      have d1 := hE.cell e1
      have d2 := hE.cell e2
      clear e1 e2
      generalize l.getD i 0 = x at *
      have hlt' : (i : Int) < (l.length : Int) := by omega
      go_wp2_with fail
      go_quiet (fail)
      go_wp2
      go_roundg (l.length - (i + 1))
      case measure => omega
      case rel => exact ⟨hE.trans (below_drewN (Below.refl _ _) _), i + 1, by omega, rfl, by simp⟩
    · have hd : decide ((i : Int) < (l.length : Int)) = false := decide_eq_false (by omega)
      go_wp2
      go_ret
      exact ⟨rfl, hE⟩

set_option maxHeartbeats 1000000 in
theorem words_same (v1 v2 : Value) (l : List Int) (w : World) (h1 : NumsAt .u32 w v1 l) (h2 : NumsAt .u32 w v2 l) :
    Calls Try.prog 29 #[v1, v2] w fun e w' => e = .returned (.bool true) ∧ Ext w w' := by
  obtain ⟨a1, c1, rfl, ⟨hc1, hm1⟩, hcell1⟩ := h1.form
  obtain ⟨a2, c2, rfl, ⟨hc2, hm2⟩, hcell2⟩ := h2.form
  have H1 : Hid (∀ j, j < l.length → ∃ b off, a1 = some ⟨b, off, none⟩ ∧ w.cell? ⟨b, off + j, none⟩ = some (.int .u32 (l.getD j 0))) := hcell1
  have H2 : Hid (∀ j, j < l.length → ∃ b off, a2 = some ⟨b, off, none⟩ ∧ w.cell? ⟨b, off + j, none⟩ = some (.int .u32 (l.getD j 0))) := hcell2
  have hmx : l.length ≤ 9223372036854775807 := by unfold maxLen at hm1; omega
  clear h1 h2 hcell1 hcell2 hm1 hm2
  go_enter Try.func29, Try.ntmps29
  go_wp2
  go_loopg [13] l.length (fun g s wr => Ext w wr ∧ ∃ i : Nat, i ≤ l.length ∧ g = l.length - i ∧ s = .int .i64 (i : Int))
  case atStart => exact ⟨Ext.refl _, 0, by omega, rfl, rfl⟩
  case round =>
    obtain ⟨hE, i, hi, rfl, rfl⟩ := hrel
    by_cases hlt : i < l.length
    · obtain ⟨b1, o1, rfl, e1⟩ := H1.out i hlt
      obtain ⟨b2, o2, rfl, e2⟩ := H2.out i hlt
      have d1 := hE.cell e1
      have d2 := hE.cell e2
      clear e1 e2
      generalize l.getD i 0 = x at *
      have hlt' : (i : Int) < (l.length : Int) := by omega
      go_wp2_with fail
      go_quiet (fail)
      go_wp2
      go_roundg (l.length - (i + 1))
      case measure => omega
      case rel => exact ⟨hE.trans (below_drewN (Below.refl _ _) _), i + 1, by omega, rfl, by simp⟩
    · have hd : decide ((i : Int) < (l.length : Int)) = false := decide_eq_false (by omega)
      go_wp2
      go_ret
      exact ⟨rfl, hE⟩
end Go.Proofs.Ytmfkedkkkmnmmaa
