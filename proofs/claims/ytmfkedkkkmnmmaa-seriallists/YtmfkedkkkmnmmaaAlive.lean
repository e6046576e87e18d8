/- What the fixed fact of the laws of layer 2 answers: true. No condition of its own. -/
import Derived.Test.YtmfkedkkkmnmmaaSer
namespace Go.Proofs.Ytmfkedkkkmnmmaa
open Go.RowKit
set_option linter.unusedVariables false
set_option linter.unusedSimpArgs false

set_option maxHeartbeats 1000000 in
theorem alive_any (w : World) : Calls Try.prog 8 #[] w fun e w' => e = .returned (.bool true) ∧ w' = w := by
  have h1 : Ser.ahead 65536 65535 2 = true := by decide +kernel
  have h2 : Ser.far 65536 65535 2 = 3 := by decide +kernel
  have h3 : Ser.ahead 65536 2 65535 = false := by decide +kernel
  go_enter Try.func8, Try.ntmps8
  go_wp2_with (first
    | (go_at_call 33; refine (far16 _ _ _ (by decide) (by decide)).mono ?_; rintro e w' ⟨rfl, rfl⟩; rw [h2])
    | (go_at_call 32; refine (ahead16 _ _ _ (by decide) (by decide)).mono ?_; rintro e w' ⟨rfl, rfl⟩; first | rw [h1] | rw [h3]))
  go_ret
  exact ⟨rfl, rfl⟩
end Go.Proofs.Ytmfkedkkkmnmmaa
