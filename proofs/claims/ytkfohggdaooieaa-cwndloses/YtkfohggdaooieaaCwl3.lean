/- For any window the law CwndLoses answers true and leaves its argument as it was: what it comes to when something was lost, when the time is up, when nothing was sent for long and when nothing is on its way is what the document says. Conditions: none. -/
import Derived.Test.YtkfohggdaooieaaCwl2
import Derived.Lib.SmallJoins
import Derived.Test.YtkfohggdaooieaaRows
import Derived.WalkKit
import Derived.ProofKit
import Derived.OpenShut
import Derived.ShutString
import Derived.ChangeOld
import Derived.Below
set_option linter.unusedVariables false
set_option linter.unusedSimpArgs false
/- The law CwndLoses walked: it answers true. No condition of its own. -/
namespace Go.Proofs.Ytkfohggdaooieaa
namespace Cw
open Go Go.RowKit
set_option maxRecDepth 100000
set_option maxHeartbeats 16000000 in
theorem loses_walk (e : E) (w : World) : Calls Try.prog 3 #[.agg (EV e)] w fun x w' => x = .returned (.bool true) ∧ Ext w w' := by
 go_enter Try.func3, Try.ntmps3
 go_wp2_with (first
  | (refine wl_box (C := EV e) rfl rfl rfl ?_; intro w1 hb1 he1 hx1; clear hx1; have HB : Hid (Bs w w1 [(w.heap.size, e, 23)]) := (Bs.nil (Ext.refl w)).put he1 hb1; clear hb1 he1)
  | (go_at_call 5; refine (alive_any _).mono ?_; rintro x w2 ⟨rfl, heq⟩; replace HB : Hid (Bs _ _ _) := HB.out.grow heq; clear heq)
  | (have q := HB; clear q; refine wl_load rfl rowR rfl rfl (HB.out.at 0 rfl) rfl ?_)
  | (have q := HB; clear q; refine wl_alloc rfl rfl zeroE ?_; intro w3 hb3 he3 hx3; clear hx3; replace HB : Hid (Bs _ _ (_ :: _)) := HB.out.put he3 hb3; clear hb3 he3)
  | (have q := HB; clear q; refine wl_store (D := EV e) rfl rowE rfl rfl rfl (HB.out.at 0 rfl) rfl rfl (EV.one _) ?_; intro w4 hb4 hk4 hx4; clear hx4; replace HB : Hid (Bs _ _ (_ :: _)) := HB.out.set hb4 hk4; clear hb4 hk4))
 have HBx : ∀ {wx : World}, Ext _ wx → Bs w wx [(w2.heap.size, e, 25), (w.heap.size, e, 23)] := fun hx => HB.out.grow ((Ext.drew _).trans hx)
 refine wp_region_facts (fun t => bif Nat.ble 7 t && Nat.ble t 32 then some (t - 7) else bif Nat.beq t 2 then some 26 else none) 33 Ext
  [Is (.agg (EV e)),
   Is (.agg (EV (lostE e))),
   Is (.agg (EV e)),
   Is (.agg (EV (lostE e))),
   Is (.bool true),
   Is (.bool true),
   Is (.agg (EV e)),
   Is (.agg (EV (lateE e))),
   Is (.agg (EV e)),
   Is (.agg (EV (lateE e))),
   Is (.bool true),
   Is (.bool true),
   Is (.bool true),
   Is (.agg (EV e)),
   Is (.agg (EV (idleE e))),
   Is (.agg (EV e)),
   Is (.agg (EV (idleE e))),
   Is (.bool true),
   Is (.bool true),
   Is (.bool true),
   Is (.agg (EV e)),
   Is (.agg (EV (emptyE e))),
   Is (.agg (EV e)),
   Is (.agg (EV (emptyE e))),
   Is (.bool true),
   Is (.bool true),
   Is (.bool true)]
  rfl (by kernel_rfl) (by kernel_rfl) rfl Ext.refl (fun _ _ _ => Ext.trans) ?_ ?_ ?_
 ·
  exact Ks (Ks (Ks (Ks (Ks (Ks (Ks (Ks (Ks (Ks (Ks (Ks (Ks (Ks (Ks (Ks (Ks (Ks (Ks (Ks (Ks (Ks (Ks (Ks (Ks (Ks (Ks (KeepAll.nil)))))))))))))))))))))))))))
 ·
  refine Gc (lr1 Ext.refl rfl rfl rfl (fun _ _ h => h) (fun r wx hR h1 => exec_loadW rowE rfl h1 ((HBx hR).at 0 rfl) rfl)) ?_
  refine Gc ?_ ?_
  ·
   rintro r wx hR ⟨h1, h2, _⟩
   replace h1 : r (.func 6) = .func (.func 6) #[] #[] := h1
   replace h2 : r (.tmp 7) = (.agg (EV e)) := h2
   refine give_func #[.agg (EV e)] rfl h1 Try.call6 (by simp [h2]) ?_
   refine (lost_any _ _).mono ?_
   rintro x w' ⟨rfl, he⟩
   exact ⟨_, rfl, he, rfl⟩
  refine Gc (lr1 Ext.refl rfl rfl rfl (fun _ _ h => h) (fun r wx hR h1 => exec_loadW rowR rfl h1 ((HBx hR).at 1 rfl) rfl)) ?_
  refine Gc ?_ ?_
  ·
   rintro r wx hR ⟨h1, h2, h3, _⟩
   replace h1 : r (.func 7) = .func (.func 7) #[] #[] := h1
   replace h2 : r (.tmp 9) = (.agg (EV e)) := h2
   replace h3 : r (.const (.bool false)) = .bool false := h3
   refine give_func #[.agg (EV e), .bool false] rfl h1 Try.call7 (by simp [h2, h3]) ?_
   refine (refLost_any _ false _).mono ?_
   rintro x w' ⟨rfl, he⟩
   exact ⟨_, rfl, he, rfl⟩
  refine Gc ?_ ?_
  ·
   rintro r wx hR ⟨h1, h2, _⟩
   replace h1 : r (.tmp 8) = (.agg (EV (lostE e))) := h1
   replace h2 : r (.tmp 10) = (.agg (EV (lostE e))) := h2
   exact gvo (exec_eqlS (a := lostE e) (b := lostE e) weR rfl h1 h2) ⟨Ext.refl _, by rw [sameE_self]; rfl⟩
  refine Gc (lr1 Ext.refl rfl rfl rfl (fun _ _ h => h) (fun r wx hR h1 => exec_mv (.inl rfl) h1)) ?_
  refine Gc ?_ ?_
  ·
   rintro r wx hR ⟨h1, _⟩
   replace h1 : r (.tmp 3) = (.pointer (some ⟨w2.heap.size, 0, none⟩)) := h1
   intro gb hgb
   refine guard_in (b := gb) (want := true) hgb ?_
   exact gvo (exec_loadW rowE rfl h1 ((HBx hR).at 0 rfl) rfl) ⟨Ext.refl _, rfl⟩
  refine Gc ?_ ?_
  ·
   rintro r wx hR ⟨h1, h2, _⟩
   replace h1 : r (.func 8) = .func (.func 8) #[] #[] := h1
   replace h2 : r (.tmp 13) = (.agg (EV e)) := h2
   intro gb hgb
   refine guard_in (b := gb) (want := true) hgb ?_
   refine give_func #[.agg (EV e)] rfl h1 Try.call8 (by simp [h2]) ?_
   refine (late_any _ _).mono ?_
   rintro x w' ⟨rfl, he⟩
   exact ⟨_, rfl, he, rfl⟩
  refine Gc ?_ ?_
  ·
   rintro r wx hR ⟨h1, _⟩
   replace h1 : r (.tmp 1) = (.pointer (some ⟨w.heap.size, 0, none⟩)) := h1
   intro gb hgb
   refine guard_in (b := gb) (want := true) hgb ?_
   exact gvo (exec_loadW rowR rfl h1 ((HBx hR).at 1 rfl) rfl) ⟨Ext.refl _, rfl⟩
  refine Gc ?_ ?_
  ·
   rintro r wx hR ⟨h1, h2, h3, _⟩
   replace h1 : r (.func 7) = .func (.func 7) #[] #[] := h1
   replace h2 : r (.tmp 15) = (.agg (EV e)) := h2
   replace h3 : r (.const (.bool true)) = .bool true := h3
   intro gb hgb
   refine guard_in (b := gb) (want := true) hgb ?_
   refine give_func #[.agg (EV e), .bool true] rfl h1 Try.call7 (by simp [h2, h3]) ?_
   refine (refLost_any _ true _).mono ?_
   rintro x w' ⟨rfl, he⟩
   exact ⟨_, rfl, he, rfl⟩
  refine Gc ?_ ?_
  ·
   rintro r wx hR ⟨h1, h2, _⟩
   replace h1 : r (.tmp 14) = (.agg (EV (lateE e))) := h1
   replace h2 : r (.tmp 16) = (.agg (EV (lateE e))) := h2
   intro gb hgb
   refine guard_in (b := gb) (want := true) hgb ?_
   exact gvo (exec_eqlS (a := lateE e) (b := lateE e) weR rfl h1 h2) ⟨Ext.refl _, by rw [sameE_self]; rfl⟩
  refine Gc ?_ ?_
  ·
   rintro r wx hR ⟨h1, h2, h3, _⟩
   replace h1 : r (.tmp 12) = (.bool true) := h1
   replace h2 : r (.tmp 17) = (.bool true) := h2
   replace h3 : r (.const (.bool false)) = .bool false := h3
   exact give_pick rfl h1 ⟨Ext.refl _, h2⟩
  refine Gc (lr1 Ext.refl rfl rfl rfl (fun _ _ h => h) (fun r wx hR h1 => exec_mv (.inl rfl) h1)) ?_
  refine Gc ?_ ?_
  ·
   rintro r wx hR ⟨h1, _⟩
   replace h1 : r (.tmp 3) = (.pointer (some ⟨w2.heap.size, 0, none⟩)) := h1
   intro gb hgb
   refine guard_in (b := gb) (want := true) hgb ?_
   exact gvo (exec_loadW rowE rfl h1 ((HBx hR).at 0 rfl) rfl) ⟨Ext.refl _, rfl⟩
  refine Gc ?_ ?_
  ·
   rintro r wx hR ⟨h1, h2, _⟩
   replace h1 : r (.func 9) = .func (.func 9) #[] #[] := h1
   replace h2 : r (.tmp 20) = (.agg (EV e)) := h2
   intro gb hgb
   refine guard_in (b := gb) (want := true) hgb ?_
   refine give_func #[.agg (EV e)] rfl h1 Try.call9 (by simp [h2]) ?_
   refine (idle_any _ _).mono ?_
   rintro x w' ⟨rfl, he⟩
   exact ⟨_, rfl, he, rfl⟩
  refine Gc ?_ ?_
  ·
   rintro r wx hR ⟨h1, _⟩
   replace h1 : r (.tmp 1) = (.pointer (some ⟨w.heap.size, 0, none⟩)) := h1
   intro gb hgb
   refine guard_in (b := gb) (want := true) hgb ?_
   exact gvo (exec_loadW rowR rfl h1 ((HBx hR).at 1 rfl) rfl) ⟨Ext.refl _, rfl⟩
  refine Gc ?_ ?_
  ·
   rintro r wx hR ⟨h1, h2, h3, _⟩
   replace h1 : r (.func 10) = .func (.func 10) #[] #[] := h1
   replace h2 : r (.tmp 22) = (.agg (EV e)) := h2
   replace h3 : r (.const (.bool true)) = .bool true := h3
   intro gb hgb
   refine guard_in (b := gb) (want := true) hgb ?_
   refine give_func #[.agg (EV e), .bool true] rfl h1 Try.call10 (by simp [h2, h3]) ?_
   refine (refRest_any _ true _).mono ?_
   rintro x w' ⟨rfl, he⟩
   exact ⟨_, rfl, he, rfl⟩
  refine Gc ?_ ?_
  ·
   rintro r wx hR ⟨h1, h2, _⟩
   replace h1 : r (.tmp 21) = (.agg (EV (idleE e))) := h1
   replace h2 : r (.tmp 23) = (.agg (EV (idleE e))) := h2
   intro gb hgb
   refine guard_in (b := gb) (want := true) hgb ?_
   exact gvo (exec_eqlS (a := idleE e) (b := idleE e) weR rfl h1 h2) ⟨Ext.refl _, by rw [sameE_self]; rfl⟩
  refine Gc ?_ ?_
  ·
   rintro r wx hR ⟨h1, h2, h3, _⟩
   replace h1 : r (.tmp 19) = (.bool true) := h1
   replace h2 : r (.tmp 24) = (.bool true) := h2
   replace h3 : r (.const (.bool false)) = .bool false := h3
   exact give_pick rfl h1 ⟨Ext.refl _, h2⟩
  refine Gc (lr1 Ext.refl rfl rfl rfl (fun _ _ h => h) (fun r wx hR h1 => exec_mv (.inl rfl) h1)) ?_
  refine Gc ?_ ?_
  ·
   rintro r wx hR ⟨h1, _⟩
   replace h1 : r (.tmp 3) = (.pointer (some ⟨w2.heap.size, 0, none⟩)) := h1
   intro gb hgb
   refine guard_in (b := gb) (want := true) hgb ?_
   exact gvo (exec_loadW rowE rfl h1 ((HBx hR).at 0 rfl) rfl) ⟨Ext.refl _, rfl⟩
  refine Gc ?_ ?_
  ·
   rintro r wx hR ⟨h1, h2, _⟩
   replace h1 : r (.func 11) = .func (.func 11) #[] #[] := h1
   replace h2 : r (.tmp 27) = (.agg (EV e)) := h2
   intro gb hgb
   refine guard_in (b := gb) (want := true) hgb ?_
   refine give_func #[.agg (EV e)] rfl h1 Try.call11 (by simp [h2]) ?_
   refine (empty_any _ _).mono ?_
   rintro x w' ⟨rfl, he⟩
   exact ⟨_, rfl, he, rfl⟩
  refine Gc ?_ ?_
  ·
   rintro r wx hR ⟨h1, _⟩
   replace h1 : r (.tmp 1) = (.pointer (some ⟨w.heap.size, 0, none⟩)) := h1
   intro gb hgb
   refine guard_in (b := gb) (want := true) hgb ?_
   exact gvo (exec_loadW rowR rfl h1 ((HBx hR).at 1 rfl) rfl) ⟨Ext.refl _, rfl⟩
  refine Gc ?_ ?_
  ·
   rintro r wx hR ⟨h1, h2, h3, _⟩
   replace h1 : r (.func 10) = .func (.func 10) #[] #[] := h1
   replace h2 : r (.tmp 29) = (.agg (EV e)) := h2
   replace h3 : r (.const (.bool false)) = .bool false := h3
   intro gb hgb
   refine guard_in (b := gb) (want := true) hgb ?_
   refine give_func #[.agg (EV e), .bool false] rfl h1 Try.call10 (by simp [h2, h3]) ?_
   refine (refRest_any _ false _).mono ?_
   rintro x w' ⟨rfl, he⟩
   exact ⟨_, rfl, he, rfl⟩
  refine Gc ?_ ?_
  ·
   rintro r wx hR ⟨h1, h2, _⟩
   replace h1 : r (.tmp 28) = (.agg (EV (emptyE e))) := h1
   replace h2 : r (.tmp 30) = (.agg (EV (emptyE e))) := h2
   intro gb hgb
   refine guard_in (b := gb) (want := true) hgb ?_
   exact gvo (exec_eqlS (a := emptyE e) (b := emptyE e) weR rfl h1 h2) ⟨Ext.refl _, by rw [sameE_self]; rfl⟩
  refine Gc ?_ ?_
  ·
   rintro r wx hR ⟨h1, h2, h3, _⟩
   replace h1 : r (.tmp 26) = (.bool true) := h1
   replace h2 : r (.tmp 31) = (.bool true) := h2
   replace h3 : r (.const (.bool false)) = .bool false := h3
   exact give_pick rfl h1 ⟨Ext.refl _, h2⟩
  refine Gc (lr1 Ext.refl rfl rfl rfl (fun _ _ h => h) (fun r wx hR h1 => exec_mv (.inr rfl) h1)) ?_
  exact GoodAll.nil
 ·
  intro vs wE aE hR hold haE
  have hv : vs 26 = .bool true := hold.at 26
  refine ‹∀ (a : Act) (w : World), Code.wp Try.prog Code.ret _ a w → _› _ _ ?_
  refine wp_ret ?_
  have hs : aE.tmps[2]? = some (.bool true) := by rw [haE, ← hv]; kernel_rfl
  have hdf : aE.defers = [] := by rw [haE]; exact putAll_defers _ _ _ _
  clear haE
  try unfold Exit.then
  try unfold Exit.inBlock
  try dsimp only
  refine bodyPost_ret (v := .bool true) ?_ hdf ⟨rfl, (HBx hR).1⟩
  simp [results, Try.results3, go_sem, hs]
end Cw
end Go.Proofs.Ytkfohggdaooieaa
/- An argument that is a slice of numbers, opened. No condition of its own. -/
namespace Go.Proofs.Ytkfohggdaooieaa
open Go.RowKit Go.ChangeShapes
end Go.Proofs.Ytkfohggdaooieaa
namespace Go.Proofs.Ytkfohggdaooieaa
open Go.ChangeShapes Go.WideShapes Go.ChangeAt Go.RowKit
open Go.ChangeMaps (open_string shut_string)
theorem cwndLosesOwn : ownKnob Try.prog.godebug = none := by kernel_rfl
theorem cwndLosesLaidOut : laidOutB Try.prog = true := by kernel_rfl
set_option maxRecDepth 100000 in
theorem cwndLosesLifted (os : Os) (started : os.Started) (H : Type) (enc : TypeId × Value → H) :
  ReturnsInHanded {} Try.checked os 3 .any (Rows.cwndLosesSpec.pre6 enc Try.prog Try.f3 Rows.cwndLosesRow.domain false) (Rows.cwndLosesSpec.post enc Try.prog Try.f3 false true false false) := by
 refine returnsInHanded_of_change (C := Try.checked) cwndLosesOwn started (by kernel_rfl) Try.func3
  (ChangeSpec.witness6 (enc := enc) (C := Try.checked) false ⟨#[], #[.agg #[.int .i64 0, .int .i64 0, .int .i64 0]], []⟩ 8 (by kernel_rfl) (by kernel_rfl) (by kernel_rfl) (by kernel_rfl)) ?_
 intro W base args ds gs before hval0 hW hcnd _
 have hval : ∀ (j : Nat) t v, Try.f3.params[j]? = some t → args[j]? = some v → Value.okWide Try.prog W .any base t v := hval0
 have hW' := hW
 obtain ⟨p, q, hA0, hV, rfl, hfz, hnd⟩ := hW
 have hA : DataW.TrodAll enc Try.prog W 0 (fun _ => true) true Try.f3.params.toList args.toList ds p := hA0
 rw [Try.params3] at hA hval
 obtain ⟨v0, vs0, d0, ds0, p0, q0, hargs, rfl, rfl, h0, r0⟩ := trodAll_cons hA
 obtain ⟨rfl, rfl, rfl⟩ := trodAll_nil r0
 obtain rfl : args = #[v0] := by cases args; simp_all
 obtain ⟨rfl, rfl⟩ := trodVars_none hV
 have k0 := h0
 have lt0 : ∀ x ∈ p0, x.block < W.heap.size := by obtain ⟨m, hm⟩ := k0; exact DataW.trod_lt m _ _ _ hm
 obtain ⟨x0, x1, x2, y0, y1, y2, fu0, rfl, hd0, hp0, t0, t1, t2⟩ := Go.Joins.open_agg3 Try.underlying23 (by kernel_rfl) (by kernel_rfl) (hval 0 23 v0 rfl rfl) h0
 obtain ⟨f0, e0, _, wf0⟩ := DataW.trod_int Try.underlying3 t0
 obtain ⟨f1, e1, _, wf1⟩ := DataW.trod_int Try.underlying3 t1
 obtain ⟨f2, e2, _, wf2⟩ := DataW.trod_int Try.underlying3 t2
 simp only [List.cons.injEq, and_true] at e0 e1 e2
 subst e0 e1 e2
 clear hA0 hval0
 refine (Cw.loses_walk ⟨f0, f1, f2⟩ W).mono fun e W' ⟨he, bel⟩ => ?_
 subst he
 exact ⟨_, rfl, _, _, _, [], _, [], hW', trodAll_mk1 (shut_bool Try.underlying4 _), (trodAll_cons_mk (Below.trod cwndLosesLaidOut (by kernel_rfl) (of_decide_eq_true (by kernel_rfl)) k0 bel lt0) (trodAll_mk0)), rfl, bel.frame _, fun h => by cases h⟩
theorem cwndLosesOver : Rows.cwndLosesRow.holds Try.pinned (OpenSpec.ofChange Rows.cwndLosesSpec) :=
 OpenClaim.holds_of_wide 3 Try.f3 rfl rfl rfl rfl rfl rfl rfl ⟨rfl, rfl, rfl, rfl, rfl⟩ rfl rfl rfl rfl rfl (by kernel_rfl) Try.func3 (by kernel_rfl)
  (of_decide_eq_true (by kernel_rfl)) (by unfold Func.isWrapper; first | (rw [if_pos (by decide +kernel)]; kernel_rfl) | (rw [if_neg (by decide +kernel)]; exact ⟨rfl, rfl⟩))
  (fun os started H enc _ => cwndLosesLifted os started H enc)
/-- THE STATEMENT. -/
theorem cwndLoses_holds : Rows.CwndLosesSaid := cwndLosesOver
#print axioms cwndLoses_holds
end Go.Proofs.Ytkfohggdaooieaa
