/- The document's tag of a key and a text. Condition: the document's table holds what the text lays. -/
import Derived.Test.YtaklbnaaoebknaaDoorR51
import Derived.Test.YtaklbnaaoebknaaDoorLaidR
namespace Go.Proofs.YtaklbnaaoebknaaDoor
open Go Go.RowKit
set_option linter.unusedVariables false
set_option linter.unusedSimpArgs false
set_option maxRecDepth 100000

theorem OwnB.form1 {w : World} {base : Nat} {e : TypeId} {v : Value} {l : List Nat} (h : OwnB w base e v l) : ∃ g c, v = .slice (some ⟨g, 0, Option.none⟩) l.length c := by
  obtain ⟨_, ⟨g, c, e1, _⟩, _⟩ := h
  exact ⟨g, c, e1⟩
theorem OwnB.low {w : World} {base b2 : Nat} {e : TypeId} {v : Value} {l : List Nat} (h : OwnB w base e v l) (hb : b2 ≤ base) : OwnB w b2 e v l := by
  obtain ⟨h0, ⟨g, c, e1, h1, h2⟩, h3, h4 | ⟨g', c', cur, e2, h5, h6⟩⟩ := h
  · exact ⟨h0, ⟨g, c, e1, Nat.le_trans hb h1, h2⟩, h3, .inl h4⟩
  · exact ⟨h0, ⟨g, c, e1, Nat.le_trans hb h1, h2⟩, h3, .inr ⟨g', c', cur, e2, Nat.le_trans hb h5, h6⟩⟩

set_option maxHeartbeats 4000000 in
theorem refMac_short (kv tv : Value) (K T : List Nat) (w : World) (hC : Cube w) (hk : BytesAt w kv K) (ht : BytesAt w tv T) (hlK : K.length ≤ 20000) (hlT : T.length ≤ 10000) (h64 : K.length ≤ 64) :
    Calls Tryd.prog 10 #[kv, tv] w fun e w' => ∃ v, e = .returned v ∧ OwnB w' w.heap.size 5 v (Mac.tag K T) ∧ Ext w w' := by
  have HA : Hid (Cube w ∧ BytesAt w kv K ∧ BytesAt w tv T ∧ K.length ≤ 20000 ∧ T.length ≤ 10000) := ⟨hC, hk, ht, hlK, hlT⟩
  obtain ⟨F, hF⟩ : ∃ F, F = Mac.full K := ⟨_, rfl⟩
  obtain ⟨I, hI⟩ : ∃ I, I = Mac.inner K T := ⟨_, rfl⟩
  obtain ⟨D, hD⟩ : ∃ D, D = Mac.tag K T := ⟨_, rfl⟩
  obtain ⟨S, hS⟩ : ∃ S, S = Mac.short K := ⟨_, rfl⟩
  have HF : Hid (S ++ List.replicate (64 - S.length) 0 = F ∧ F.length = 64 ∧ S.length ≤ 64 ∧ Sha.AllB F) := ⟨by rw [hF, hS]; rfl, by rw [hF]; exact Mac.full_len K, by rw [hS]; exact Mac.short_len K, by rw [hF]; exact Mac.full_all hk.1⟩
  have HI : Hid (I = Sha.dgst (Mac.chg F 54 ++ T) ∧ I.length = 32 ∧ Sha.AllB I) := ⟨by rw [hI, hF]; rfl, by rw [hI]; exact Mac.inner_len _ _, by rw [hI]; exact Mac.inner_all _ _⟩
  have HD : Hid (D = Sha.dgst (Mac.chg F 92 ++ I) ∧ D.length = 32 ∧ Sha.AllB D) := ⟨by rw [hD, hF, hI]; rfl, by rw [hD]; exact Mac.tag_len _ _, by rw [hD]; exact Mac.tag_all _ _⟩
  rw [← hD]
  obtain ⟨a, cap, rfl, _, _⟩ := hk.form
  obtain ⟨ta, tc, rfl, _, _⟩ := ht.form
  rename_i z1 z2 z3 z4
  clear z1 z2 z3 z4
  obtain rfl : S = K := by rw [hS]; unfold Mac.short; rw [if_neg (by omega)]
  have hd : decide ((S.length : Int) > 64) = false := decide_eq_false (by omega)
  clear hk ht hC hF hI hD hS
  go_enter Tryd.func10, Tryd.ntmps10
  go_wp2_with (first
    | (go_at_call_of 24 (Value.int .u8 92); refine (refPad_any _ S 92 _ (HA.out.2.1.ext (he2.trans he34)) HF.out.2.2.1 (by decide)).mono ?_; rintro e w5 ⟨v5, rfl, ho5, he5⟩; rw [HF.out.1] at ho5; obtain ⟨g5, c5, rfl⟩ := ho5.form1)
    | (go_at_call_of 24 (Value.int .u8 54); refine (refPad_any _ S 54 _ (HA.out.2.1) HF.out.2.2.1 (by decide)).mono ?_; rintro e w1 ⟨v1, rfl, ho1, he1⟩; rw [HF.out.1] at ho1; obtain ⟨g1, c1, rfl⟩ := ho1.form1)
    | (at_builtin; have q := ho5; clear q; refine wl_appendG byteT rfl _ _ rfl w4.heap.size _ _ _ (Mac.chg F 92) I rfl ho5 (ho4.bytes.ext he5) (by rw [Mac.chg_len, HF.out.2.1, HI.out.2.1]; decide) ?_; intro g6 c6 w6 ho6 hk6 hg6; have hy6 := ho6.bytes; rw [List.length_append] at hy6; have he6 : Ext w4 w6 := he5.of_but hk6 (fun k e => by subst e; exact (ho5.cap).2.2.2.1))
    | (at_builtin; refine wl_appendG byteT rfl _ _ rfl w.heap.size _ _ _ (Mac.chg F 54) T rfl ho1 (HA.out.2.2.1.ext ((Ext.refl w).trans he1)) (by rw [Mac.chg_len, HF.out.2.1]; have := HA.out; omega) ?_; intro g2 c2 w2 ho2 hk2 hg2; have hy2 := ho2.bytes; rw [List.length_append] at hy2; have he2 : Ext w w2 := he1.of_but hk2 (fun k e => by subst e; exact (ho1.cap).2.2.2.1))
    | (go_at_call 23; have q := ho6; clear q; refine (refSum_any _ (Mac.chg F 92 ++ I) _ hy6 (by rw [List.length_append, Mac.chg_len, HF.out.2.1, HI.out.2.1]; decide) (HA.out.1.ext ((((Ext.refl w).trans he2).trans he34).trans he6))).mono ?_; rintro e w7 ⟨rfl, he7⟩; rw [← HD.out.1])
    | (go_at_call 23; have q := ho2; clear q; refine (refSum_any _ (Mac.chg F 54 ++ T) _ hy2 (by rw [List.length_append, Mac.chg_len, HF.out.2.1]; have := HA.out; omega) (HA.out.1.ext ((Ext.refl w).trans he2))).mono ?_; rintro e w3 ⟨rfl, he3⟩; rw [← HI.out.1])
    | (go_at_call 22; have q := he7; clear q; refine (refBytes_any D _ HD.out.2.1 HD.out.2.2).mono ?_; rintro e w8 ⟨v8, rfl, ho8, he8⟩)
    | (go_at_call 22; have q := he3; clear q; refine (refBytes_any I _ HI.out.2.1 HI.out.2.2).mono ?_; rintro e w4 ⟨v4, rfl, ho4, he4⟩; have he34 : Ext w2 w4 := he3.trans he4; obtain ⟨g4, c4, rfl⟩ := ho4.form1))
  go_ret
  exact ⟨_, rfl, ho8.low ((he2.trans he34).trans (he6.trans he7)).size, ((he2.trans he34).trans (he6.trans he7)).trans he8⟩

set_option maxHeartbeats 4000000 in
theorem refMac_long (kv tv : Value) (K T : List Nat) (w : World) (hC : Cube w) (hk : BytesAt w kv K) (ht : BytesAt w tv T) (hlK : K.length ≤ 20000) (hlT : T.length ≤ 10000) (h64 : 64 < K.length) :
    Calls Tryd.prog 10 #[kv, tv] w fun e w' => ∃ v, e = .returned v ∧ OwnB w' w.heap.size 5 v (Mac.tag K T) ∧ Ext w w' := by
  have HA : Hid (Cube w ∧ BytesAt w kv K ∧ BytesAt w tv T ∧ K.length ≤ 20000 ∧ T.length ≤ 10000) := ⟨hC, hk, ht, hlK, hlT⟩
  obtain ⟨F, hF⟩ : ∃ F, F = Mac.full K := ⟨_, rfl⟩
  obtain ⟨I, hI⟩ : ∃ I, I = Mac.inner K T := ⟨_, rfl⟩
  obtain ⟨D, hD⟩ : ∃ D, D = Mac.tag K T := ⟨_, rfl⟩
  obtain ⟨S, hS⟩ : ∃ S, S = Mac.short K := ⟨_, rfl⟩
  have HF : Hid (S ++ List.replicate (64 - S.length) 0 = F ∧ F.length = 64 ∧ S.length ≤ 64 ∧ Sha.AllB F) := ⟨by rw [hF, hS]; rfl, by rw [hF]; exact Mac.full_len K, by rw [hS]; exact Mac.short_len K, by rw [hF]; exact Mac.full_all hk.1⟩
  have HI : Hid (I = Sha.dgst (Mac.chg F 54 ++ T) ∧ I.length = 32 ∧ Sha.AllB I) := ⟨by rw [hI, hF]; rfl, by rw [hI]; exact Mac.inner_len _ _, by rw [hI]; exact Mac.inner_all _ _⟩
  have HD : Hid (D = Sha.dgst (Mac.chg F 92 ++ I) ∧ D.length = 32 ∧ Sha.AllB D) := ⟨by rw [hD, hF, hI]; rfl, by rw [hD]; exact Mac.tag_len _ _, by rw [hD]; exact Mac.tag_all _ _⟩
  rw [← hD]
  obtain ⟨a, cap, rfl, _, _⟩ := hk.form
  obtain ⟨ta, tc, rfl, _, _⟩ := ht.form
  rename_i z1 z2 z3 z4
  clear z1 z2 z3 z4
  have HS : Hid (S = Sha.dgst K ∧ S.length = 32 ∧ Sha.AllB S) := ⟨by rw [hS]; unfold Mac.short; rw [if_pos h64], by rw [hS]; unfold Mac.short; rw [if_pos h64]; exact Mac.dlen _, by rw [hS]; exact Mac.short_all hk.1⟩
  have hd : decide ((K.length : Int) > 64) = true := decide_eq_true (by omega)
  clear hk ht hC hF hI hD hS
  go_enter Tryd.func10, Tryd.ntmps10
  go_wp2_with (first
    | (go_at_call_of 24 (Value.int .u8 92); refine (refPad_any _ S 92 _ (oy2.bytes.ext (he2.trans he34)) HF.out.2.2.1 (by decide)).mono ?_; rintro e w5 ⟨v5, rfl, ho5, he5⟩; rw [HF.out.1] at ho5; obtain ⟨g5, c5, rfl⟩ := ho5.form1)
    | (go_at_call_of 24 (Value.int .u8 54); refine (refPad_any _ S 54 _ (oy2.bytes) HF.out.2.2.1 (by decide)).mono ?_; rintro e w1 ⟨v1, rfl, ho1, he1⟩; rw [HF.out.1] at ho1; obtain ⟨g1, c1, rfl⟩ := ho1.form1)
    | (at_builtin; have q := ho5; clear q; refine wl_appendG byteT rfl _ _ rfl w4.heap.size _ _ _ (Mac.chg F 92) I rfl ho5 (ho4.bytes.ext he5) (by rw [Mac.chg_len, HF.out.2.1, HI.out.2.1]; decide) ?_; intro g6 c6 w6 ho6 hk6 hg6; have hy6 := ho6.bytes; rw [List.length_append] at hy6; have he6 : Ext w4 w6 := he5.of_but hk6 (fun k e => by subst e; exact (ho5.cap).2.2.2.1))
    | (at_builtin; refine wl_appendG byteT rfl _ _ rfl x2.heap.size _ _ _ (Mac.chg F 54) T rfl ho1 (HA.out.2.2.1.ext (hx2.trans he1)) (by rw [Mac.chg_len, HF.out.2.1]; have := HA.out; omega) ?_; intro g2 c2 w2 ho2 hk2 hg2; have hy2 := ho2.bytes; rw [List.length_append] at hy2; have he2 : Ext x2 w2 := he1.of_but hk2 (fun k e => by subst e; exact (ho1.cap).2.2.2.1))
    | (go_at_call 23; have q := ho6; clear q; refine (refSum_any _ (Mac.chg F 92 ++ I) _ hy6 (by rw [List.length_append, Mac.chg_len, HF.out.2.1, HI.out.2.1]; decide) (HA.out.1.ext (((hx2.trans he2).trans he34).trans he6))).mono ?_; rintro e w7 ⟨rfl, he7⟩; rw [← HD.out.1])
    | (go_at_call 23; have q := ho2; clear q; refine (refSum_any _ (Mac.chg F 54 ++ T) _ hy2 (by rw [List.length_append, Mac.chg_len, HF.out.2.1]; have := HA.out; omega) (HA.out.1.ext (hx2.trans he2))).mono ?_; rintro e w3 ⟨rfl, he3⟩; rw [← HI.out.1])
    | (go_at_call 22; have q := he7; clear q; refine (refBytes_any D _ HD.out.2.1 HD.out.2.2).mono ?_; rintro e w8 ⟨v8, rfl, ho8, he8⟩)
    | (go_at_call 22; have q := he3; clear q; refine (refBytes_any I _ HI.out.2.1 HI.out.2.2).mono ?_; rintro e w4 ⟨v4, rfl, ho4, he4⟩; have he34 : Ext w2 w4 := he3.trans he4; obtain ⟨g4, c4, rfl⟩ := ho4.form1)
    | (go_at_call 23; refine (refSum_any _ K _ HA.out.2.1 HA.out.2.2.2.1 HA.out.1).mono ?_; rintro e x1 ⟨rfl, hx1⟩; rw [← HS.out.1])
    | (go_at_call 22; refine (refBytes_any S _ HS.out.2.1 HS.out.2.2).mono ?_; rintro e x2 ⟨y2, rfl, oy2, hx2'⟩; have hx2 := hx1.trans hx2'; obtain ⟨gy, cy, rfl⟩ := oy2.form1))
  go_ret
  exact ⟨_, rfl, ho8.low (((hx2.trans he2).trans he34).trans (he6.trans he7)).size, (((hx2.trans he2).trans he34).trans (he6.trans he7)).trans he8⟩

theorem refMac_any (kv tv : Value) (K T : List Nat) (w : World) (hC : Cube w) (hk : BytesAt w kv K) (ht : BytesAt w tv T) (hlK : K.length ≤ 20000) (hlT : T.length ≤ 10000) :
    Calls Tryd.prog 10 #[kv, tv] w fun e w' => ∃ v, e = .returned v ∧ OwnB w' w.heap.size 5 v (Mac.tag K T) ∧ Ext w w' := by
  by_cases h : K.length ≤ 64
  · exact refMac_short kv tv K T w hC hk ht hlK hlT h
  · exact refMac_long kv tv K T w hC hk ht hlK hlT (by omega)
end Go.Proofs.YtaklbnaaoebknaaDoor
