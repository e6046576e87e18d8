/- For any start, any list of numbers of 32 bits and any count the law SerialLists answers true and leaves its arguments as they were: numbers are sorted, cut into runs and counted from a start as the document's own reckoning does, and the list that is handed in is not changed. Conditions: none. -/
import Derived.Test.YtmfkedkkkmnmmaaLists
import Derived.Test.YtmfkedkkkmnmmaaListsL
import Derived.Test.YtmfkedkkkmnmmaaOpen
import Derived.Test.YtmfkedkkkmnmmaaRows
import Derived.WalkKit
import Derived.ProofKit
import Derived.OpenShut
import Derived.ShutString
import Derived.ChangeOld
import Derived.Below
namespace Go.Proofs.Ytmfkedkkkmnmmaa
open Go.ChangeShapes Go.WideShapes Go.ChangeAt Go.RowKit
open Go.ChangeMaps (open_string shut_string)
set_option linter.unusedVariables false
set_option linter.unusedSimpArgs false

theorem lists_any (f : Int) (v : Value) (l : List Int) (n : Int) (w : World) (hf : Of 4294967296 f) (hv : NumsAt .u32 w v l) (hl : ∀ x ∈ l, Of 4294967296 x) (hn : W64 n) :
    Calls Try.prog 5 #[.int .u32 f, v, .int .i64 n] w fun e W' => e = .returned (.bool true) ∧ Below w.heap.size w W' := by
  refine (callsIn_wide (n := 5)).1 ?_
  by_cases h60 : l.length ≤ 60
  · by_cases h200 : n ≤ 200
    · exact lists_short f v l n w hf hv hl hn h60 h200
    · exact lists_long f v l n w hf hv hl hn (.inr ⟨h60, by omega⟩)
  · exact lists_long f v l n w hf hv hl hn (.inl (by omega))

theorem serialListsOwn : ownKnob Try.prog.godebug = none := by kernel_rfl
theorem serialListsLaidOut : laidOutB Try.prog = true := by kernel_rfl
set_option maxRecDepth 100000 in
theorem serialListsLifted (os : Os) (started : os.Started) (H : Type) (enc : TypeId × Value → H) :
    ReturnsInHanded {} Try.checked os 5 .any (Rows.serialListsSpec.pre6 enc Try.prog Try.f5 Rows.serialListsRow.domain false) (Rows.serialListsSpec.post enc Try.prog Try.f5 false true false false) := by
  refine returnsInHanded_of_change (C := Try.checked) serialListsOwn started (by kernel_rfl) Try.func5
    (ChangeSpec.witness6 (enc := enc) (C := Try.checked) false ⟨#[], #[.int .u32 0, .slice none 0 0, .int .i64 0], []⟩ 8 (by kernel_rfl) (by kernel_rfl) (by kernel_rfl) (by kernel_rfl)) ?_
  intro W base args ds gs before hval0 hW hcnd _
  have hval : ∀ (j : Nat) t v, Try.f5.params[j]? = some t → args[j]? = some v → Value.okWide Try.prog W .any base t v := hval0
  have hW' := hW
  obtain ⟨p, q, hA0, hV, rfl, hfz, hnd⟩ := hW
  have hA : DataW.TrodAll enc Try.prog W 0 (fun _ => true) true Try.f5.params.toList args.toList ds p := hA0
  rw [Try.params5] at hA hval
  obtain ⟨v0, vs0, d0, ds0, p0, q0, hargs, rfl, rfl, h0, r0⟩ := trodAll_cons hA
  obtain ⟨v1, vs1, d1, ds1, p1, q1, rfl, rfl, rfl, h1, r1⟩ := trodAll_cons r0
  obtain ⟨v2, vs2, d2, ds2, p2, q2, rfl, rfl, rfl, h2, r2⟩ := trodAll_cons r1
  obtain ⟨rfl, rfl, rfl⟩ := trodAll_nil r2
  obtain rfl : args = #[v0, v1, v2] := by cases args; simp_all
  obtain ⟨rfl, rfl⟩ := trodVars_none hV
  obtain ⟨a0, rfl, rfl, rfl, w0⟩ := open_int Try.underlying22 (hval 0 22 v0 rfl rfl) h0
  have k1 := h1
  have lt1 : ∀ x ∈ p1, x.block < W.heap.size := by obtain ⟨m, hm⟩ := k1; exact DataW.trod_lt m _ _ _ hm
  obtain ⟨a1, len1, cap1, rfl⟩ := okWide_slice Try.underlying39 (hval 1 39 v1 rfl rfl)
  obtain ⟨l1, w1, e1⟩ : ∃ l, NumsAt .u32 W (.slice a1 len1 cap1) l ∧ ∀ z ∈ l, (Lit.int .u32 z).wf = true := by
    obtain ⟨fuel, hf⟩ := h1
    exact nums_open Try.underlying39 Try.underlying22 (by kernel_rfl) (by simpa [Value.cells] using hf)
  obtain ⟨a2, rfl, rfl, rfl, w2⟩ := open_int Try.underlying3 (hval 2 3 v2 rfl rfl) h2
  clear hA0 hval0
  refine (lists_any a0 _ l1 a2 W (of_u32 w0) w1 (fun x hx => of_u32 (e1 x hx)) (of_i64 w2)).mono fun e W' ⟨he, bel⟩ => ?_
  subst he
  exact ⟨_, rfl, _, _, _, [], _, [], hW', trodAll_mk1 (shut_bool Try.underlying4 _), (trodAll_cons_mk (shut_int Try.underlying22 w0) (trodAll_cons_mk (Below.trod serialListsLaidOut (by kernel_rfl) (of_decide_eq_true (by kernel_rfl)) k1 bel lt1) (trodAll_cons_mk (shut_int Try.underlying3 w2) (trodAll_mk0)))), rfl, bel.frame _, fun h => by cases h⟩

theorem serialListsOver : Rows.serialListsRow.holds Try.pinned (OpenSpec.ofChange Rows.serialListsSpec) :=
  OpenClaim.holds_of_wide 5 Try.f5 rfl rfl rfl rfl rfl rfl rfl ⟨rfl, rfl, rfl, rfl, rfl⟩ rfl rfl rfl rfl rfl (by kernel_rfl) Try.func5 (by kernel_rfl)
    (of_decide_eq_true (by kernel_rfl)) (by unfold Func.isWrapper; first | (rw [if_pos (by decide +kernel)]; kernel_rfl) | (rw [if_neg (by decide +kernel)]; exact ⟨rfl, rfl⟩))
    (fun os started H enc _ => serialListsLifted os started H enc)

/-- THE STATEMENT. -/
theorem serialLists_holds : Rows.SerialListsSaid := serialListsOver
#print axioms serialLists_holds
end Go.Proofs.Ytmfkedkkkmnmmaa
