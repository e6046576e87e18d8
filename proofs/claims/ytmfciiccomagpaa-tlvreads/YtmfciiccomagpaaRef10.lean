/- Noughts that the document's reader passes over, and its end. No condition of its own. -/
import Derived.Test.YtmfciiccomagpaaRef9
namespace Go.Proofs.Ytmfciiccomagpaa
namespace Tlv
open Go Go.RowKit
set_option linter.unusedVariables false
set_option linter.unusedSimpArgs false
set_option maxRecDepth 100000


theorem numS1_yes {B : List Nat} {a : Nat} (h : a < B.length) : numS B (some a) 1 = (some (a + 1), B.getD a 0) := by
  unfold numS
  rw [if_pos (by decide), takeS_yes (by decide) (by omega), drop_next h]
  show (some (a + 1), val [B.getD a 0]) = _
  simp [val]
theorem numS1_no {B : List Nat} {a : Nat} (h : B.length ≤ a) : numS B (some a) 1 = (none, 0) := by
  unfold numS
  rw [if_pos (by decide), takeS_no (by omega)]
  rfl
set_option maxHeartbeats 1000000 in
theorem refEnd_any {w : World} {v bv : Value} {B : List Nat} {s : Option Nat} (hv : RefV v bv B s) (hb : BytesAt w bv B) (hB : B.length ≤ 1000000) :
    Calls Try.prog 25 #[v] w fun e w' => e = .returned (.bool (endS B s)) ∧ Ext w w' := by
  have HX : Hid (∀ (x : Value) (w' : World), x = v → Ext w w' → Calls Try.prog 23 #[x] w' fun e w'' => e = .returned (.int .i64 (leftS B s : Nat)) ∧ Ext w' w'') := fun x w' hx he => by subst hx; exact refLeft_any hv (hb.ext he) hB
  obtain ⟨ba, bc, rfl, _, _⟩ := hb.form
  rename_i z1 z2
  clear z1 z2 hb
  obtain ⟨a, b, rfl, ha, rfl⟩ := hv
  cases b with
  | true =>
    clear HX
    go_enter Try.func25, Try.ntmps25
    go_wp2_with (first
      | (refine wl_box (C := #[.slice ba B.length bc, .int .i64 (a : Int), .bool true]) rfl rfl rfl ?_; intro w1 hb1 he1 hx; clear hx; have c0 := hb1.cell 0; have c1 := hb1.cell 1; have c2 := hb1.cell 2; clear hb1))
    go_ret
    exact ⟨rfl, he1⟩
  | false =>
    have he : endS B (if false = true then none else some a) = (leftS B (if false = true then none else some a) == 0) := rfl
    rw [he]
    clear he
    generalize leftS B (if false = true then none else some a) = L at *
    by_cases hL : L = 0
    · subst hL
      go_enter Try.func25, Try.ntmps25
      go_wp2_with (first
        | (refine wl_box (C := #[.slice ba B.length bc, .int .i64 (a : Int), .bool false]) rfl rfl rfl ?_; intro w1 hb1 he1 hx; clear hx; have c0 := hb1.cell 0; have c1 := hb1.cell 1; have c2 := hb1.cell 2; clear hb1)
        | (go_at_call 23; refine (HX.out _ _ rfl he1).mono ?_; rintro e w2 ⟨rfl, he2⟩))
      go_ret
      exact ⟨rfl, he1.trans he2⟩
    · have hL2 : ((L : Int) == 0) = false := beq_false_of_ne (by omega)
      have hL3 : decide ((L : Int) = 0) = false := decide_eq_false (by omega)
      have HL : Hid ((L == 0) = false) := beq_false_of_ne hL
      go_enter Try.func25, Try.ntmps25
      go_wp2_with (first
        | (refine wl_box (C := #[.slice ba B.length bc, .int .i64 (a : Int), .bool false]) rfl rfl rfl ?_; intro w1 hb1 he1 hx; clear hx; have c0 := hb1.cell 0; have c1 := hb1.cell 1; have c2 := hb1.cell 2; clear hb1)
        | (go_at_call 23; refine (HX.out _ _ rfl he1).mono ?_; rintro e w2 ⟨rfl, he2⟩))
      go_ret
      exact ⟨by rw [HL.out]; first | rfl | simp [hL], he1.trans he2⟩
end Tlv
end Go.Proofs.Ytmfciiccomagpaa
