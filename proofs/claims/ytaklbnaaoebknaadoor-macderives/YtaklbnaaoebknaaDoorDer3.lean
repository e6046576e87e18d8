/- A shared key: the document's. Condition: the document's table holds what the text lays. -/
import Derived.Test.YtaklbnaaoebknaaDoorDer2
import Derived.Test.YtaklbnaaoebknaaDoorR52
namespace Go.Proofs.YtaklbnaaoebknaaDoor
open Go Go.RowKit
set_option linter.unusedVariables false
set_option linter.unusedSimpArgs false
set_option maxRecDepth 100000

set_option maxHeartbeats 600000 in
theorem refDerive_less {w : World} {av bv tv : Value} {A B T : List Nat} (hC : Cube w) (ha : BytesAt w av A) (hb : BytesAt w bv B) (ht : BytesAt w tv T) (hA : A.length ≤ 5000) (hB : B.length ≤ 5000) (hT : T.length ≤ 9000) (hc : Mac.cmpL B A < 0) :
    Calls Tryd.prog 14 #[av, bv, tv] w fun e w' => ∃ v, e = .returned v ∧ OwnB w' w.heap.size 5 v (Sha.dgst (Mac.pair A B ++ T)) ∧ Ext w w' := by
  have HA : Hid (Cube w ∧ BytesAt w bv B ∧ BytesAt w av A ∧ BytesAt w tv T ∧ B.length ≤ 5000 ∧ A.length ≤ 5000 ∧ T.length ≤ 9000) := ⟨hC, by assumption, by assumption, ht, by assumption, by assumption, hT⟩
  have HAB : Hid (BytesAt w av A ∧ BytesAt w bv B ∧ A.length ≤ 10000 ∧ B.length ≤ 10000) := ⟨ha, hb, by omega, by omega⟩
  obtain ⟨D, hD⟩ : ∃ D, D = Sha.dgst (Mac.pair A B ++ T) := ⟨_, rfl⟩
  have hng := Mac.cmpL_neg A B
  have HD : Hid (D = Sha.dgst ((B ++ A) ++ T) ∧ D.length = 32 ∧ Sha.AllB D) := ⟨by rw [hD]; unfold Mac.pair; rw [if_pos (by omega)], by rw [hD]; exact Mac.dlen _, by rw [hD]; exact Mac.dall _⟩
  rw [← hD]
  have HC0 : Hid (decide (Mac.cmpL B A < 0) = true) := decide_eq_true hc
  obtain ⟨aa, ac, rfl, _, _⟩ := ha.form
  obtain ⟨ba, bc, rfl, _, _⟩ := hb.form
  obtain ⟨ta, tc, rfl, _, _⟩ := ht.form
  rename_i z1 z2 z3 z4 z5 z6
  clear z1 z2 z3 z4 z5 z6 ha hb ht hC hD hc hng
  go_enter Tryd.func14, Tryd.ntmps14
  go_wp2_with (first
    | (go_at_call 27; refine (refLess_any _ _ B A _ HAB.out.2.1 HAB.out.1 HAB.out.2.2.2 HAB.out.2.2.1).mono ?_; rintro e w1 ⟨rfl, he1⟩; rw [HC0.out])
    | (at_builtin; have q := ho3; clear q; refine wl_appendG byteT rfl _ _ rfl w1.heap.size _ _ _ (B ++ A) T rfl ho3 (HA.out.2.2.2.1.ext HE3.out) (by have := HA.out; rw [List.length_append]; omega) ?_; intro g4 c4 w4 ho4 hk4 hg4; generalize hn4 : ((B ++ A) ++ T).length = n4 at ho4 ⊢; clear hn4; have HE4 : Hid (Ext w w4) := HE3.out.of_but hk4 (fun k e => by subst e; have := ho3.cap; have := he1.size; omega); have hy4 := ho4.bytes)
    | (at_builtin; have q := ho2; clear q; refine wl_appendG byteT rfl _ _ rfl w1.heap.size _ _ _ B A rfl ho2 (HA.out.2.2.1.ext HE2.out) (by have := HA.out; omega) ?_; intro g3 c3 w3 ho3 hk3 hg3; generalize hn3 : (B ++ A).length = n3 at ho3 ⊢; clear hn3; have HE3 : Hid (Ext w w3) := HE2.out.of_but hk3 (fun k e => by subst e; have := ho2.cap; have := he1.size; omega))
    | (at_builtin; refine wl_appendG byteT rfl _ _ rfl w1.heap.size w1.heap.size 0 0 [] B rfl (OwnB.made #[] [] rfl (Nat.le_refl _) rfl (by simp) (by simp) rfl) (HA.out.2.1.ext (he1.trans (Ext.alloc _ _))) (by have := HA.out; simp; omega) ?_; intro g2 c2 w2 ho2 hk2 hg2; simp only [List.nil_append] at ho2 ⊢; have HE2 : Hid (Ext w w2) := he1.trans ((Ext.alloc _ _).of_but hk2 (fun k e => by subst e; exact Nat.le_refl _)))
    | (go_at_call 23; refine (refSum_any _ ((B ++ A) ++ T) _ hy4 (by have := HA.out; rw [List.length_append, List.length_append]; omega) (HA.out.1.ext HE4.out)).mono ?_; rintro e w5 ⟨rfl, he5⟩; rw [← HD.out.1])
    | (go_at_call 22; refine (refBytes_any D _ HD.out.2.1 HD.out.2.2).mono ?_; rintro e w6 ⟨v6, rfl, ho6, he6⟩))
  go_ret
  exact ⟨_, rfl, ho6.low (HE4.out.trans he5).size, (HE4.out.trans he5).trans he6⟩

set_option maxHeartbeats 600000 in
theorem refDerive_more {w : World} {av bv tv : Value} {A B T : List Nat} (hC : Cube w) (ha : BytesAt w av A) (hb : BytesAt w bv B) (ht : BytesAt w tv T) (hA : A.length ≤ 5000) (hB : B.length ≤ 5000) (hT : T.length ≤ 9000) (hc : ¬ Mac.cmpL B A < 0) :
    Calls Tryd.prog 14 #[av, bv, tv] w fun e w' => ∃ v, e = .returned v ∧ OwnB w' w.heap.size 5 v (Sha.dgst (Mac.pair A B ++ T)) ∧ Ext w w' := by
  have HA : Hid (Cube w ∧ BytesAt w av A ∧ BytesAt w bv B ∧ BytesAt w tv T ∧ A.length ≤ 5000 ∧ B.length ≤ 5000 ∧ T.length ≤ 9000) := ⟨hC, by assumption, by assumption, ht, by assumption, by assumption, hT⟩
  have HAB : Hid (BytesAt w av A ∧ BytesAt w bv B ∧ A.length ≤ 10000 ∧ B.length ≤ 10000) := ⟨ha, hb, by omega, by omega⟩
  obtain ⟨D, hD⟩ : ∃ D, D = Sha.dgst (Mac.pair A B ++ T) := ⟨_, rfl⟩
  have hng := Mac.cmpL_neg A B
  have HD : Hid (D = Sha.dgst ((A ++ B) ++ T) ∧ D.length = 32 ∧ Sha.AllB D) := ⟨by rw [hD]; unfold Mac.pair; rw [if_neg (by omega)], by rw [hD]; exact Mac.dlen _, by rw [hD]; exact Mac.dall _⟩
  rw [← hD]
  have HC0 : Hid (decide (Mac.cmpL B A < 0) = false) := decide_eq_false hc
  obtain ⟨aa, ac, rfl, _, _⟩ := ha.form
  obtain ⟨ba, bc, rfl, _, _⟩ := hb.form
  obtain ⟨ta, tc, rfl, _, _⟩ := ht.form
  rename_i z1 z2 z3 z4 z5 z6
  clear z1 z2 z3 z4 z5 z6 ha hb ht hC hD hc hng
  go_enter Tryd.func14, Tryd.ntmps14
  go_wp2_with (first
    | (go_at_call 27; refine (refLess_any _ _ B A _ HAB.out.2.1 HAB.out.1 HAB.out.2.2.2 HAB.out.2.2.1).mono ?_; rintro e w1 ⟨rfl, he1⟩; rw [HC0.out])
    | (at_builtin; have q := ho3; clear q; refine wl_appendG byteT rfl _ _ rfl w1.heap.size _ _ _ (A ++ B) T rfl ho3 (HA.out.2.2.2.1.ext HE3.out) (by have := HA.out; rw [List.length_append]; omega) ?_; intro g4 c4 w4 ho4 hk4 hg4; generalize hn4 : ((A ++ B) ++ T).length = n4 at ho4 ⊢; clear hn4; have HE4 : Hid (Ext w w4) := HE3.out.of_but hk4 (fun k e => by subst e; have := ho3.cap; have := he1.size; omega); have hy4 := ho4.bytes)
    | (at_builtin; have q := ho2; clear q; refine wl_appendG byteT rfl _ _ rfl w1.heap.size _ _ _ A B rfl ho2 (HA.out.2.2.1.ext HE2.out) (by have := HA.out; omega) ?_; intro g3 c3 w3 ho3 hk3 hg3; generalize hn3 : (A ++ B).length = n3 at ho3 ⊢; clear hn3; have HE3 : Hid (Ext w w3) := HE2.out.of_but hk3 (fun k e => by subst e; have := ho2.cap; have := he1.size; omega))
    | (at_builtin; refine wl_appendG byteT rfl _ _ rfl w1.heap.size w1.heap.size 0 0 [] A rfl (OwnB.made #[] [] rfl (Nat.le_refl _) rfl (by simp) (by simp) rfl) (HA.out.2.1.ext (he1.trans (Ext.alloc _ _))) (by have := HA.out; simp; omega) ?_; intro g2 c2 w2 ho2 hk2 hg2; simp only [List.nil_append] at ho2 ⊢; have HE2 : Hid (Ext w w2) := he1.trans ((Ext.alloc _ _).of_but hk2 (fun k e => by subst e; exact Nat.le_refl _)))
    | (go_at_call 23; refine (refSum_any _ ((A ++ B) ++ T) _ hy4 (by have := HA.out; rw [List.length_append, List.length_append]; omega) (HA.out.1.ext HE4.out)).mono ?_; rintro e w5 ⟨rfl, he5⟩; rw [← HD.out.1])
    | (go_at_call 22; refine (refBytes_any D _ HD.out.2.1 HD.out.2.2).mono ?_; rintro e w6 ⟨v6, rfl, ho6, he6⟩))
  go_ret
  exact ⟨_, rfl, ho6.low (HE4.out.trans he5).size, (HE4.out.trans he5).trans he6⟩

theorem refDerive_any {w : World} {av bv tv : Value} {A B T : List Nat} (hC : Cube w) (ha : BytesAt w av A) (hb : BytesAt w bv B) (ht : BytesAt w tv T) (hA : A.length ≤ 5000) (hB : B.length ≤ 5000) (hT : T.length ≤ 9000) :
    Calls Tryd.prog 14 #[av, bv, tv] w fun e w' => ∃ v, e = .returned v ∧ OwnB w' w.heap.size 5 v (Sha.dgst (Mac.pair A B ++ T)) ∧ Ext w w' := by
  by_cases hc : Mac.cmpL B A < 0
  · exact refDerive_less hC ha hb ht hA hB hT hc
  · exact refDerive_more hC ha hb ht hA hB hT hc
end Go.Proofs.YtaklbnaaoebknaaDoor
