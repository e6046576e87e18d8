/- A reader made, and its end; errors as numbers. No condition of its own. -/
import Derived.Test.YtmfciiccomagpaaTlv6
namespace Go.Proofs.Ytmfciiccomagpaa
namespace Tlv
open Go Go.RowKit
set_option linter.unusedVariables false
set_option linter.unusedSimpArgs false
set_option maxRecDepth 100000


/-- The error that is answered. -/
abbrev errF : Value := .iface 55 (.int .i64 2)
def endV (b : Bool) : Value := if b = true then .nilIface else errF
set_option maxHeartbeats 1000000 in
theorem end_any {w : World} {base g : Nat} {bv : Value} {B : List Nat} {s : Option Nat} (h : InAt w base g bv B s) (hB : B.length ≤ 1000000) :
    Calls Try.prog 24 #[ptr g] w fun e w' => e = .returned (endV (endS B s)) ∧ Ext w w' := by
  obtain ⟨_, a, b, HB, ha, hs⟩ := id h
  have HX : Hid (Calls Try.prog 22 #[ptr g] w fun e w' => e = .returned (.int .i64 (leftS B s : Nat)) ∧ Ext w w') := left_any h hB
  have c2 := HB.cell 2
  cases b with
  | true =>
    have hs' : s = none := hs
    subst hs'
    clear h hB ha hs
    go_enter Try.func24, Try.ntmps24
    go_wp2
    go_ret
    exact ⟨rfl, Ext.refl _⟩
  | false =>
    have hs' : s = some a := hs
    have he : endS B s = (leftS B s == 0) := by rw [hs']; rfl
    rw [he]
    clear h hB HB ha hs hs' he
    generalize leftS B s = L at *
    by_cases hL : L = 0
    · subst hL
      go_enter Try.func24, Try.ntmps24
      go_wp2_with (first
        | (go_at_call 22; refine HX.out.mono ?_; rintro e w1 ⟨rfl, he1⟩))
      go_ret
      exact ⟨rfl, he1⟩
    · have hd : decide ((L : Int) > 0) = true := decide_eq_true (by omega)
      have HL : Hid ((L == 0) = false) := beq_false_of_ne hL
      go_enter Try.func24, Try.ntmps24
      go_wp2_with (first
        | (go_at_call 22; refine HX.out.mono ?_; rintro e w1 ⟨rfl, he1⟩))
      go_ret
      exact ⟨by rw [HL.out]; rfl, he1⟩
theorem end_nil (w : World) : Calls Try.prog 24 #[.pointer none] w fun e w' => e = .returned errF ∧ w' = w := by
  go_enter Try.func24, Try.ntmps24
  go_wp2
  go_ret
  exact ⟨rfl, rfl⟩
theorem assertF (W : World) : (Instr.typeAssert errF 51 55 true).run Try.prog W = .ok (.tuple #[.int .i64 2, .bool true]) W := by kernel_rfl
theorem errNum_f (w : World) : Calls Try.prog 40 #[errF] w fun e w' => e = .returned (.int .i64 2) ∧ w' = w := by
  have ha := assertF w
  go_enter Try.func40, Try.ntmps40
  go_wp2
  go_ret
  exact ⟨rfl, rfl⟩
theorem errNum_0 (w : World) : Calls Try.prog 40 #[.nilIface] w fun e w' => e = .returned (.int .i64 0) ∧ w' = w := by
  go_enter Try.func40, Try.ntmps40
  go_wp2
  go_ret
  exact ⟨rfl, rfl⟩
theorem isF (w : World) : Calls Try.prog 26 #[errF, .int .i64 2] w fun e w' => e = .returned (.bool true) ∧ w' = w := by
  go_enter Try.func26, Try.ntmps26
  go_wp2_with (first
    | (go_at_call 40; refine (errNum_f _).mono ?_; rintro e w1 ⟨rfl, hw⟩; subst w1))
  go_ret
  exact ⟨rfl, rfl⟩
set_option maxHeartbeats 1000000 in
theorem read_any {w : World} {v : Value} {B : List Nat} (hv : BytesAt w v B) (hB : B.length ≤ 1000000) :
    Calls Try.prog 15 #[v] w fun e w' => ∃ g bv, e = .returned (ptr g) ∧ w.heap.size ≤ g ∧ InAt w' w.heap.size g bv B (some 0) ∧ Ext w w' := by
  have H : Hid (BytesAt w v B ∧ B.length ≤ 1000000) := ⟨hv, hB⟩
  clear hv hB
  go_enter Try.func15, Try.ntmps15
  go_wp2_with (first
    | (go_at_call 37; refine (copied_any H.out.1 H.out.2).mono ?_; rintro e w1 ⟨a, n, c, rfl, hn, ho1, he1⟩; have HN : Hid (n = B.length) := hn; clear hn)
    | (refine wl_box (C := #[.slice a n c, .int .i64 0, .bool false]) rfl rfl rfl ?_; intro w2 hb2 he2 hx; clear hx))
  go_ret
  exact ⟨_, _, rfl, he1.size, ⟨ho1.ext he2, 0, false, hb2, Nat.zero_le _, rfl⟩, he1.trans he2⟩
end Tlv
end Go.Proofs.Ytmfciiccomagpaa
