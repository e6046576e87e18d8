/- For any beginning and bound and any two lists of acts the law RowCopies answers true and leaves its arguments as they were: a copy is another row, going through a row may be left, and a nil row answers as the document says. Conditions: none. -/
import Derived.Test.YtbongjdflnefmaaCopies
import Derived.Test.YtbongjdflnefmaaOpen
import Derived.Lib.SmallJoins
import Derived.Test.YtbongjdflnefmaaRows
import Derived.WalkKit
import Derived.ProofKit
import Derived.OpenShut
import Derived.ShutString
import Derived.ChangeOld
import Derived.Below
namespace Go.Proofs.Ytbongjdflnefmaa
open Go.ChangeShapes Go.WideShapes Go.ChangeAt Go.RowKit
open Go.ChangeMaps (open_string shut_string)
set_option linter.unusedVariables false
set_option linter.unusedSimpArgs false

theorem copies_any (f m : Int) (sva svb : Value) (na nb : Nat) (Ka Ja Xa Kb Jb Xb : Nat → Int) (w : World) (hf : Of 4294967296 f) (hm : W64 m) (hsa : ActsAt w sva na Ka Ja Xa) (hsb : ActsAt w svb nb Kb Jb Xb) :
    Calls Try.prog 5 #[.agg #[.int .u32 f, .int .i64 m], sva, svb] w fun e w' => e = .returned (.bool true) ∧ Ext w w' := by
  by_cases hmo : m < 1 ∨ 1024 < m
  · exact copies_out f m sva svb na nb Ka Ja Xa Kb Jb Xb w hf hm hsa hsb hmo
  · by_cases h40 : 40 < na
    · exact copies_longa f m sva svb na nb Ka Ja Xa Kb Jb Xb w hf hm hsa hsb (by omega) h40
    · by_cases h40b : 40 < nb
      · exact copies_longb f m sva svb na nb Ka Ja Xa Kb Jb Xb w hf hm hsa hsb (by omega) h40 h40b
      · exact (Go.callsIn_wide (n := 6)).1 (copies_in f m sva svb na nb Ka Ja Xa Kb Jb Xb w hf hm hsa hsb (by omega) h40 h40b)

theorem rowCopiesOwn : ownKnob Try.prog.godebug = none := by kernel_rfl
theorem rowCopiesLaidOut : laidOutB Try.prog = true := by kernel_rfl
set_option maxRecDepth 100000 in
theorem rowCopiesLifted (os : Os) (started : os.Started) (H : Type) (enc : TypeId × Value → H) :
    ReturnsInHanded {} Try.checked os 5 .any (Rows.rowCopiesSpec.pre6 enc Try.prog Try.f5 Rows.rowCopiesRow.domain false) (Rows.rowCopiesSpec.post enc Try.prog Try.f5 false true false false) := by
  refine returnsInHanded_of_change (C := Try.checked) rowCopiesOwn started (by kernel_rfl) Try.func5
    (ChangeSpec.witness6 (enc := enc) (C := Try.checked) false ⟨#[], #[.agg #[.int .u32 0, .int .i64 0], .slice none 0 0, .slice none 0 0], []⟩ 8 (by kernel_rfl) (by kernel_rfl) (by kernel_rfl) (by kernel_rfl)) ?_
  intro W base args ds gs before hval0 hW hcnd _
  have hval : ∀ (j : Nat) t v, Try.f5.params[j]? = some t → args[j]? = some v → Value.okWide Try.prog W .any base t v := hval0
  have hW' := hW
  obtain ⟨p, q, hA0, hV, rfl, hfz, hnd⟩ := hW
  have hA : DataW.TrodAll enc Try.prog W 0 (fun _ => true) true Try.f5.params.toList args.toList ds p := hA0
  rw [Try.params5] at hA hval
  obtain ⟨v0, vs0, d0, ds0, p0, q0, hargs, rfl, rfl, h0, r0⟩ := trodAll_cons hA
  obtain ⟨v1, vs1, d1, ds1, p1, q1, rfl, rfl, rfl, h1, r1⟩ := trodAll_cons r0
  obtain ⟨v2, vs2, d2, ds2, p2, q2, rfl, rfl, rfl, h2, r2⟩ := trodAll_cons r1
  obtain ⟨rfl, rfl, rfl⟩ := trodAll_nil r2
  obtain rfl : args = #[v0, v1, v2] := by cases args; simp_all
  obtain ⟨rfl, rfl⟩ := trodVars_none hV
  have k0 := h0
  have lt0 : ∀ x ∈ p0, x.block < W.heap.size := by obtain ⟨m, hm⟩ := k0; exact DataW.trod_lt m _ _ _ hm
  obtain ⟨x0, x1, y0, y1, fu, rfl, hd0, hp0, t0, t1⟩ := Go.Joins.open_agg2 Try.underlying24 (by kernel_rfl) (by kernel_rfl) (hval 0 24 v0 rfl rfl) h0
  obtain ⟨f, ef, _, wf⟩ := DataW.trod_int Try.underlying22 t0
  obtain ⟨m, em, _, wm⟩ := DataW.trod_int Try.underlying3 t1
  simp only [List.cons.injEq, and_true] at ef em
  subst ef em
  have k1 := h1
  have lt1 : ∀ x ∈ p1, x.block < W.heap.size := by obtain ⟨m, hm⟩ := k1; exact DataW.trod_lt m _ _ _ hm
  obtain ⟨sa1, sl1, sc1, rfl⟩ := okWide_slice Try.underlying25 (hval 1 25 v1 rfl rfl)
  obtain ⟨n1, K1, J1, X1, ha1⟩ : ∃ n K J X, ActsAt W (.slice sa1 sl1 sc1) n K J X := by
    obtain ⟨fuel, hf⟩ := h1
    exact acts_open (by simpa [Value.cells] using hf)
  have k2 := h2
  have lt2 : ∀ x ∈ p2, x.block < W.heap.size := by obtain ⟨m, hm⟩ := k2; exact DataW.trod_lt m _ _ _ hm
  obtain ⟨sa2, sl2, sc2, rfl⟩ := okWide_slice Try.underlying25 (hval 2 25 v2 rfl rfl)
  obtain ⟨n2, K2, J2, X2, ha2⟩ : ∃ n K J X, ActsAt W (.slice sa2 sl2 sc2) n K J X := by
    obtain ⟨fuel, hf⟩ := h2
    exact acts_open (by simpa [Value.cells] using hf)
  clear hA0 hval0
  refine (copies_any f m _ _ n1 n2 K1 J1 X1 K2 J2 X2 W (of_u32 wf) (of_i64 wm) ha1 ha2).mono fun e W' ⟨he, bel⟩ => ?_
  subst he
  exact ⟨_, rfl, _, _, _, [], _, [], hW', trodAll_mk1 (shut_bool Try.underlying4 _), (trodAll_cons_mk (Below.trod rowCopiesLaidOut (by kernel_rfl) (of_decide_eq_true (by kernel_rfl)) k0 bel lt0) (trodAll_cons_mk (Below.trod rowCopiesLaidOut (by kernel_rfl) (of_decide_eq_true (by kernel_rfl)) k1 bel lt1) (trodAll_cons_mk (Below.trod rowCopiesLaidOut (by kernel_rfl) (of_decide_eq_true (by kernel_rfl)) k2 bel lt2) (trodAll_mk0)))), rfl, bel.frame _, fun h => by cases h⟩

theorem rowCopiesOver : Rows.rowCopiesRow.holds Try.pinned (OpenSpec.ofChange Rows.rowCopiesSpec) :=
  OpenClaim.holds_of_wide 5 Try.f5 rfl rfl rfl rfl rfl rfl rfl ⟨rfl, rfl, rfl, rfl, rfl⟩ rfl rfl rfl rfl rfl (by kernel_rfl) Try.func5 (by kernel_rfl)
    (of_decide_eq_true (by kernel_rfl)) (by unfold Func.isWrapper; first | (rw [if_pos (by decide +kernel)]; kernel_rfl) | (rw [if_neg (by decide +kernel)]; exact ⟨rfl, rfl⟩))
    (fun os started H enc _ => rowCopiesLifted os started H enc)

/-- THE STATEMENT. -/
theorem rowCopies_holds : Rows.RowCopiesSaid := rowCopiesOver
#print axioms rowCopies_holds
end Go.Proofs.Ytbongjdflnefmaa
