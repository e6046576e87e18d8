/- For any start, any list of numbers of 16 bits, any count and any place to stop the law SerialLeft answers true and leaves its argument as it was: iterators that are left early end, after as many as were taken. Conditions: none. -/
import Derived.Test.YtmfkedkkkmnmmaaLeft
import Derived.Test.YtmfkedkkkmnmmaaOpen
import Derived.Lib.SmallJoins
import Derived.Test.YtmfkedkkkmnmmaaRows
import Derived.WalkKit
import Derived.ProofKit
import Derived.OpenShut
import Derived.ShutString
import Derived.ChangeOld
import Derived.Below
namespace Go.Proofs.Ytmfkedkkkmnmmaa
open Go.ChangeShapes Go.WideShapes Go.ChangeAt Go.RowKit
open Go.ChangeMaps (open_string shut_string)
set_option linter.unusedVariables false
set_option linter.unusedSimpArgs false

theorem serialLeftOwn : ownKnob Try.prog.godebug = none := by kernel_rfl
theorem serialLeftLaidOut : laidOutB Try.prog = true := by kernel_rfl
set_option maxRecDepth 100000 in
theorem serialLeftLifted (os : Os) (started : os.Started) (H : Type) (enc : TypeId × Value → H) :
    ReturnsInHanded {} Try.checked os 6 .any (Rows.serialLeftSpec.pre6 enc Try.prog Try.f6 Rows.serialLeftRow.domain false) (Rows.serialLeftSpec.post enc Try.prog Try.f6 false true false false) := by
  refine returnsInHanded_of_change (C := Try.checked) serialLeftOwn started (by kernel_rfl) Try.func6
    (ChangeSpec.witness6 (enc := enc) (C := Try.checked) false ⟨#[], #[.agg #[.int .u16 0, .slice none 0 0, .int .i64 0, .int .i64 0]], []⟩ 8 (by kernel_rfl) (by kernel_rfl) (by kernel_rfl) (by kernel_rfl)) ?_
  intro W base args ds gs before hval0 hW hcnd _
  have hval : ∀ (j : Nat) t v, Try.f6.params[j]? = some t → args[j]? = some v → Value.okWide Try.prog W .any base t v := hval0
  have hW' := hW
  obtain ⟨p, q, hA0, hV, rfl, hfz, hnd⟩ := hW
  have hA : DataW.TrodAll enc Try.prog W 0 (fun _ => true) true Try.f6.params.toList args.toList ds p := hA0
  rw [Try.params6] at hA hval
  obtain ⟨v0, vs0, d0, ds0, p0, q0, hargs, rfl, rfl, h0, r0⟩ := trodAll_cons hA
  obtain ⟨rfl, rfl, rfl⟩ := trodAll_nil r0
  obtain rfl : args = #[v0] := by cases args; simp_all
  obtain ⟨rfl, rfl⟩ := trodVars_none hV
  have k0 := h0
  have lt0 : ∀ x ∈ p0, x.block < W.heap.size := by obtain ⟨m, hm⟩ := k0; exact DataW.trod_lt m _ _ _ hm
  obtain ⟨x0, x1, x2, x3, y0, y1, y2, y3, fu, rfl, hd0, hp0, t0, t1, t2, t3⟩ := Go.Joins.open_agg4 Try.underlying56 (by kernel_rfl) (by kernel_rfl) (hval 0 56 v0 rfl rfl) h0
  obtain ⟨f, e1, _, wf⟩ := DataW.trod_int Try.underlying31 t0
  obtain ⟨n, e2, _, wn⟩ := DataW.trod_int Try.underlying3 t2
  obtain ⟨s, e3, _, ws⟩ := DataW.trod_int Try.underlying3 t3
  obtain ⟨l, hl, hlw⟩ := nums_open Try.underlying54 Try.underlying31 (by kernel_rfl) t1
  simp only [List.cons.injEq, and_true] at e1 e2 e3
  subst e1 e2 e3
  clear hA0 hval0
  refine ((callsIn_wide (n := 5)).1 (left_any f x1 l n s W (of_u16 wf) hl (fun x hx => of_u16 (hlw x hx)) (of_i64 wn) (of_i64 ws))).mono fun e W' ⟨he, bel⟩ => ?_
  subst he
  exact ⟨_, rfl, _, _, _, [], _, [], hW', trodAll_mk1 (shut_bool Try.underlying4 _), (trodAll_cons_mk (Below.trod serialLeftLaidOut (by kernel_rfl) (of_decide_eq_true (by kernel_rfl)) k0 bel lt0) (trodAll_mk0)), rfl, bel.frame _, fun h => by cases h⟩

theorem serialLeftOver : Rows.serialLeftRow.holds Try.pinned (OpenSpec.ofChange Rows.serialLeftSpec) :=
  OpenClaim.holds_of_wide 6 Try.f6 rfl rfl rfl rfl rfl rfl rfl ⟨rfl, rfl, rfl, rfl, rfl⟩ rfl rfl rfl rfl rfl (by kernel_rfl) Try.func6 (by kernel_rfl)
    (of_decide_eq_true (by kernel_rfl)) (by unfold Func.isWrapper; first | (rw [if_pos (by decide +kernel)]; kernel_rfl) | (rw [if_neg (by decide +kernel)]; exact ⟨rfl, rfl⟩))
    (fun os started H enc _ => serialLeftLifted os started H enc)

/-- THE STATEMENT. -/
theorem serialLeft_holds : Rows.SerialLeftSaid := serialLeftOver
#print axioms serialLeft_holds
end Go.Proofs.Ytmfkedkkkmnmmaa
