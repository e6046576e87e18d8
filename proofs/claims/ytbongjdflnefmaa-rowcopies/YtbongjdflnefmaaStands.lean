/- A row stands as the document's own does. No condition of its own. -/
import Derived.Test.YtbongjdflnefmaaRefCut
import Derived.Test.YtbongjdflnefmaaCopy
namespace Go.Proofs.Ytbongjdflnefmaa
open Go.RowKit
set_option linter.unusedVariables false
set_option linter.unusedSimpArgs false
set_option maxRecDepth 100000

section
variable {w : World} {b : Nat} {v u : Value} {f m : Int} {l : List Int}
theorem RowAt.at_in (h : RowAt w b v f m l) (i : Nat) (hi : i < l.length) {x : Int} (hx : l.getD i 0 = x) : Calls Try.prog 23 #[rowP b, .int .u32 ((f + i) % 4294967296)] w fun e w' => e = .returned (.tuple #[.int .i64 x, .bool true]) ∧ ∃ q, w' = w.drewN q := by
  have hl := h.small
  have h1 := at_any h _ (mod32 (f + i))
  rw [rowGet_step h.hf l i hi hl, far_step h.hf i (by omega), decide_eq_true (by omega), hx] at h1
  exact h1
theorem RowAt.next_sum (h : RowAt w b v f m l) : Calls Try.prog 17 #[rowP b] w fun e w' => e = .returned (.int .u32 ((f + l.length) % 4294967296)) ∧ w' = w := next_any h

set_option maxHeartbeats 2000000 in
theorem stands_any (h : RowAt w b v f m l) (hu : NumsAt .i64 w u l) : Calls Try.prog 21 #[rowP b, refV f m u] w fun e w' => e = .returned (.bool true) ∧ Ext w w' := by
  have H : Hid (RowAt w b v f m l) := h
  have HU : Hid (NumsAt .i64 w u l) := hu
  have hs := h.small
  have hf := h.hf
  have hm := h.hm
  have hl := h.hl
  obtain ⟨a, cap, rfl, hcap, hcell⟩ := hu.form
  have hmx : cap ≤ 9223372036854775807 := by have := hcap.2; unfold maxLen at this; omega
  clear hu hcell h
  go_enter Try.func21, Try.ntmps21
  go_wp2_with fail
  go_quiet (first
    | (go_at_call 15; refine Calls.quiet_of_same (from_any (H.out.ext ((Ext.alloc _ _).trans (Ext.drewN _ _)))))
    | (go_at_call 18; refine Calls.quiet_of_same (len_any (H.out.ext ((Ext.alloc _ _).trans (Ext.drewN _ _)))))
    | (go_at_call 17; refine Calls.quiet_of_same ((H.out.ext ((Ext.alloc _ _).trans (Ext.drewN _ _))).next_sum))
    | (go_at_call 25; refine Calls.quiet_of (free_any (H.out.ext ((Ext.alloc _ _).trans (Ext.drewN _ _))))))
  go_wp2_with fail
  go_loopg [48] l.length (fun g s wr => (∃ q, wr = (w.alloc (.cells #[.int .u32 f, .int .i64 m, .slice a l.length cap] 36)).drewN q) ∧ ∃ i : Nat, i ≤ l.length ∧ g = l.length - i ∧ s = .int .i64 i)
  case atStart => exact ⟨⟨_, rfl⟩, 0, by omega, rfl, rfl⟩
  case round =>
    obtain ⟨⟨q, rfl⟩, i, hi, rfl, rfl⟩ := hrel
    by_cases hlt : i < l.length
    · have hlt' : (i : Int) < (l.length : Int) := by omega
      obtain ⟨b1, o1, rfl, e1⟩ := HU.out.cellAt i hlt
      have e2 := ((Ext.alloc w (.cells #[.int .u32 f, .int .i64 m, .slice (some ⟨b1, o1, none⟩) l.length cap] 36))).cell e1
      obtain ⟨x, hx⟩ : ∃ x, l.getD i 0 = x := ⟨_, rfl⟩
      rw [hx] at e1 e2
      have HX : Hid (l.getD i 0 = x) := hx
      clear hx
      go_wp2_with (first
        | (go_at_call 23
           refine ((H.out.ext ((Ext.alloc _ _).trans (Ext.drewN _ _))).at_in i hlt HX.out).mono ?_
           rintro e w6 ⟨rfl, q', rfl⟩))
      go_roundg (l.length - (i + 1))
      case measure => omega
      case rel => exact ⟨⟨_, rfl⟩, i + 1, by omega, rfl, by simp⟩
    · have hlt' : decide ((i : Int) < (l.length : Int)) = false := decide_eq_false (by omega)
      go_wp2
      go_ret
      exact ⟨rfl, (Ext.alloc _ _).trans (Ext.drewN _ _)⟩
end
end Go.Proofs.Ytbongjdflnefmaa
