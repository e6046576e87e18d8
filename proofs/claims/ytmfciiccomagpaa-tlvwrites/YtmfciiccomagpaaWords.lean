/- Small words: numbers in their bounds, answers that are equal. No condition of its own. -/
import Derived.Test.YtmfciiccomagpaaKit
import Derived.WalkKit
import Derived.ProofKit
import Derived.OpenShut
import Derived.ChangeOld
import Derived.Below
import Derived.Laws.BitsAllLaws
namespace Go.Proofs.Ytmfciiccomagpaa
open Go.RowKit

theorem ret_bool {a b : Bool} (h : a = b) : Ending.returned (.bool a) = .returned (.bool b) := by rw [h]
abbrev W64 (n : Int) : Prop := -9223372036854775808 ≤ n ∧ n < 9223372036854775808
abbrev Of (m a : Int) : Prop := 0 ≤ a ∧ a < m
theorem of_u32 {a : Int} (h : (Lit.int IntKind.u32 a).wf = true) : Of 4294967296 a := by
  simp only [Lit.wf, IntKind.min, IntKind.max, IntKind.signed, IntKind.bits] at h
  simp at h; constructor <;> omega
theorem of_u16 {a : Int} (h : (Lit.int IntKind.u16 a).wf = true) : Of 65536 a := by
  simp only [Lit.wf, IntKind.min, IntKind.max, IntKind.signed, IntKind.bits] at h
  simp at h; constructor <;> omega
theorem of_i64 {a : Int} (h : (Lit.int IntKind.i64 a).wf = true) : W64 a := by
  simp only [Lit.wf, IntKind.min, IntKind.max, IntKind.signed, IntKind.bits] at h
  simp at h; constructor <;> omega
end Go.Proofs.Ytmfciiccomagpaa
