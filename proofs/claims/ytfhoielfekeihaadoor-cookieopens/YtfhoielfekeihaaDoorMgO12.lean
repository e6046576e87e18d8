/- Texts of the seat, one behind the other. No condition of its own. -/
import Derived.Test.YtfhoielfekeihaaDoorMgO11
/- The document's tag of a key and a text. Condition: the document's table holds what the text lays. -/
namespace Go.Proofs.YtfhoielfekeihaaDoor
open Go Go.RowKit
set_option linter.unusedVariables false
set_option linter.unusedSimpArgs false
set_option maxRecDepth 100000

theorem OwnB.form1 {w : World} {base : Nat} {e : TypeId} {v : Value} {l : List Nat} (h : OwnB w base e v l) : ∃ g c, v = .slice (some ⟨g, 0, Option.none⟩) l.length c := by
  obtain ⟨_, ⟨g, c, e1, _⟩, _⟩ := h
  exact ⟨g, c, e1⟩
theorem OwnB.low {w : World} {base b2 : Nat} {e : TypeId} {v : Value} {l : List Nat} (h : OwnB w base e v l) (hb : b2 ≤ base) : OwnB w b2 e v l := by
  obtain ⟨h0, ⟨g, c, e1, h1, h2⟩, h3, h4 | ⟨g', c', cur, e2, h5, h6⟩⟩ := h
  · exact ⟨h0, ⟨g, c, e1, Nat.le_trans hb h1, h2⟩, h3, .inl h4⟩
  · exact ⟨h0, ⟨g, c, e1, Nat.le_trans hb h1, h2⟩, h3, .inr ⟨g', c', cur, e2, Nat.le_trans hb h5, h6⟩⟩

set_option maxHeartbeats 4000000 in
theorem refMac_short (kv tv : Value) (K T : List Nat) (w : World) (hC : Cube w) (hk : BytesAt w kv K) (ht : BytesAt w tv T) (hlK : K.length ≤ 20000) (hlT : T.length ≤ 10000) (h64 : K.length ≤ 64) :
    Calls Tryd.prog 29 #[kv, tv] w fun e w' => ∃ v, e = .returned v ∧ OwnB w' w.heap.size 5 v (Mac.tag K T) ∧ Ext w w' := by
  have HA : Hid (Cube w ∧ BytesAt w kv K ∧ BytesAt w tv T ∧ K.length ≤ 20000 ∧ T.length ≤ 10000) := ⟨hC, hk, ht, hlK, hlT⟩
  obtain ⟨F, hF⟩ : ∃ F, F = Mac.full K := ⟨_, rfl⟩
  obtain ⟨I, hI⟩ : ∃ I, I = Mac.inner K T := ⟨_, rfl⟩
  obtain ⟨D, hD⟩ : ∃ D, D = Mac.tag K T := ⟨_, rfl⟩
  obtain ⟨S, hS⟩ : ∃ S, S = Mac.short K := ⟨_, rfl⟩
  have HF : Hid (S ++ List.replicate (64 - S.length) 0 = F ∧ F.length = 64 ∧ S.length ≤ 64 ∧ Sha.AllB F) := ⟨by rw [hF, hS]; rfl, by rw [hF]; exact Mac.full_len K, by rw [hS]; exact Mac.short_len K, by rw [hF]; exact Mac.full_all hk.1⟩
  have HI : Hid (I = Sha.dgst (Mac.chg F 54 ++ T) ∧ I.length = 32 ∧ Sha.AllB I) := ⟨by rw [hI, hF]; rfl, by rw [hI]; exact Mac.inner_len _ _, by rw [hI]; exact Mac.inner_all _ _⟩
  have HD : Hid (D = Sha.dgst (Mac.chg F 92 ++ I) ∧ D.length = 32 ∧ Sha.AllB D) := ⟨by rw [hD, hF, hI]; rfl, by rw [hD]; exact Mac.tag_len _ _, by rw [hD]; exact Mac.tag_all _ _⟩
  rw [← hD]
  obtain ⟨a, cap, rfl, _, _⟩ := hk.form
  obtain ⟨ta, tc, rfl, _, _⟩ := ht.form
  rename_i z1 z2 z3 z4
  clear z1 z2 z3 z4
  obtain rfl : S = K := by rw [hS]; unfold Mac.short; rw [if_neg (by omega)]
  have hd : decide ((S.length : Int) > 64) = false := decide_eq_false (by omega)
  clear hk ht hC hF hI hD hS
  go_enter Tryd.func29, Tryd.ntmps29
  go_wp2_with (first
    | (go_at_call_of 52 (Value.int .u8 92); refine (refPad_any _ S 92 _ (HA.out.2.1.ext (he2.trans he34)) HF.out.2.2.1 (by decide)).mono ?_; rintro e w5 ⟨v5, rfl, ho5, he5⟩; rw [HF.out.1] at ho5; obtain ⟨g5, c5, rfl⟩ := ho5.form1)
    | (go_at_call_of 52 (Value.int .u8 54); refine (refPad_any _ S 54 _ (HA.out.2.1) HF.out.2.2.1 (by decide)).mono ?_; rintro e w1 ⟨v1, rfl, ho1, he1⟩; rw [HF.out.1] at ho1; obtain ⟨g1, c1, rfl⟩ := ho1.form1)
    | (at_builtin; have q := ho5; clear q; refine wl_appendG byteT rfl _ _ rfl w4.heap.size _ _ _ (Mac.chg F 92) I rfl ho5 (ho4.bytes.ext he5) (by rw [Mac.chg_len, HF.out.2.1, HI.out.2.1]; decide) ?_; intro g6 c6 w6 ho6 hk6 hg6; have hy6 := ho6.bytes; rw [List.length_append] at hy6; have he6 : Ext w4 w6 := he5.of_but hk6 (fun k e => by subst e; exact (ho5.cap).2.2.2.1))
    | (at_builtin; refine wl_appendG byteT rfl _ _ rfl w.heap.size _ _ _ (Mac.chg F 54) T rfl ho1 (HA.out.2.2.1.ext ((Ext.refl w).trans he1)) (by rw [Mac.chg_len, HF.out.2.1]; have := HA.out; omega) ?_; intro g2 c2 w2 ho2 hk2 hg2; have hy2 := ho2.bytes; rw [List.length_append] at hy2; have he2 : Ext w w2 := he1.of_but hk2 (fun k e => by subst e; exact (ho1.cap).2.2.2.1))
    | (go_at_call 51; have q := ho6; clear q; refine (refSum_any _ (Mac.chg F 92 ++ I) _ hy6 (by rw [List.length_append, Mac.chg_len, HF.out.2.1, HI.out.2.1]; decide) (HA.out.1.ext ((((Ext.refl w).trans he2).trans he34).trans he6))).mono ?_; rintro e w7 ⟨rfl, he7⟩; rw [← HD.out.1])
    | (go_at_call 51; have q := ho2; clear q; refine (refSum_any _ (Mac.chg F 54 ++ T) _ hy2 (by rw [List.length_append, Mac.chg_len, HF.out.2.1]; have := HA.out; omega) (HA.out.1.ext ((Ext.refl w).trans he2))).mono ?_; rintro e w3 ⟨rfl, he3⟩; rw [← HI.out.1])
    | (go_at_call 50; have q := he7; clear q; refine (refBytes_any D _ HD.out.2.1 HD.out.2.2).mono ?_; rintro e w8 ⟨v8, rfl, ho8, he8⟩)
    | (go_at_call 50; have q := he3; clear q; refine (refBytes_any I _ HI.out.2.1 HI.out.2.2).mono ?_; rintro e w4 ⟨v4, rfl, ho4, he4⟩; have he34 : Ext w2 w4 := he3.trans he4; obtain ⟨g4, c4, rfl⟩ := ho4.form1))
  go_ret
  exact ⟨_, rfl, ho8.low ((he2.trans he34).trans (he6.trans he7)).size, ((he2.trans he34).trans (he6.trans he7)).trans he8⟩

set_option maxHeartbeats 4000000 in
theorem refMac_long (kv tv : Value) (K T : List Nat) (w : World) (hC : Cube w) (hk : BytesAt w kv K) (ht : BytesAt w tv T) (hlK : K.length ≤ 20000) (hlT : T.length ≤ 10000) (h64 : 64 < K.length) :
    Calls Tryd.prog 29 #[kv, tv] w fun e w' => ∃ v, e = .returned v ∧ OwnB w' w.heap.size 5 v (Mac.tag K T) ∧ Ext w w' := by
  have HA : Hid (Cube w ∧ BytesAt w kv K ∧ BytesAt w tv T ∧ K.length ≤ 20000 ∧ T.length ≤ 10000) := ⟨hC, hk, ht, hlK, hlT⟩
  obtain ⟨F, hF⟩ : ∃ F, F = Mac.full K := ⟨_, rfl⟩
  obtain ⟨I, hI⟩ : ∃ I, I = Mac.inner K T := ⟨_, rfl⟩
  obtain ⟨D, hD⟩ : ∃ D, D = Mac.tag K T := ⟨_, rfl⟩
  obtain ⟨S, hS⟩ : ∃ S, S = Mac.short K := ⟨_, rfl⟩
  have HF : Hid (S ++ List.replicate (64 - S.length) 0 = F ∧ F.length = 64 ∧ S.length ≤ 64 ∧ Sha.AllB F) := ⟨by rw [hF, hS]; rfl, by rw [hF]; exact Mac.full_len K, by rw [hS]; exact Mac.short_len K, by rw [hF]; exact Mac.full_all hk.1⟩
  have HI : Hid (I = Sha.dgst (Mac.chg F 54 ++ T) ∧ I.length = 32 ∧ Sha.AllB I) := ⟨by rw [hI, hF]; rfl, by rw [hI]; exact Mac.inner_len _ _, by rw [hI]; exact Mac.inner_all _ _⟩
  have HD : Hid (D = Sha.dgst (Mac.chg F 92 ++ I) ∧ D.length = 32 ∧ Sha.AllB D) := ⟨by rw [hD, hF, hI]; rfl, by rw [hD]; exact Mac.tag_len _ _, by rw [hD]; exact Mac.tag_all _ _⟩
  rw [← hD]
  obtain ⟨a, cap, rfl, _, _⟩ := hk.form
  obtain ⟨ta, tc, rfl, _, _⟩ := ht.form
  rename_i z1 z2 z3 z4
  clear z1 z2 z3 z4
  have HS : Hid (S = Sha.dgst K ∧ S.length = 32 ∧ Sha.AllB S) := ⟨by rw [hS]; unfold Mac.short; rw [if_pos h64], by rw [hS]; unfold Mac.short; rw [if_pos h64]; exact Mac.dlen _, by rw [hS]; exact Mac.short_all hk.1⟩
  have hd : decide ((K.length : Int) > 64) = true := decide_eq_true (by omega)
  clear hk ht hC hF hI hD hS
  go_enter Tryd.func29, Tryd.ntmps29
  go_wp2_with (first
    | (go_at_call_of 52 (Value.int .u8 92); refine (refPad_any _ S 92 _ (oy2.bytes.ext (he2.trans he34)) HF.out.2.2.1 (by decide)).mono ?_; rintro e w5 ⟨v5, rfl, ho5, he5⟩; rw [HF.out.1] at ho5; obtain ⟨g5, c5, rfl⟩ := ho5.form1)
    | (go_at_call_of 52 (Value.int .u8 54); refine (refPad_any _ S 54 _ (oy2.bytes) HF.out.2.2.1 (by decide)).mono ?_; rintro e w1 ⟨v1, rfl, ho1, he1⟩; rw [HF.out.1] at ho1; obtain ⟨g1, c1, rfl⟩ := ho1.form1)
    | (at_builtin; have q := ho5; clear q; refine wl_appendG byteT rfl _ _ rfl w4.heap.size _ _ _ (Mac.chg F 92) I rfl ho5 (ho4.bytes.ext he5) (by rw [Mac.chg_len, HF.out.2.1, HI.out.2.1]; decide) ?_; intro g6 c6 w6 ho6 hk6 hg6; have hy6 := ho6.bytes; rw [List.length_append] at hy6; have he6 : Ext w4 w6 := he5.of_but hk6 (fun k e => by subst e; exact (ho5.cap).2.2.2.1))
    | (at_builtin; refine wl_appendG byteT rfl _ _ rfl x2.heap.size _ _ _ (Mac.chg F 54) T rfl ho1 (HA.out.2.2.1.ext (hx2.trans he1)) (by rw [Mac.chg_len, HF.out.2.1]; have := HA.out; omega) ?_; intro g2 c2 w2 ho2 hk2 hg2; have hy2 := ho2.bytes; rw [List.length_append] at hy2; have he2 : Ext x2 w2 := he1.of_but hk2 (fun k e => by subst e; exact (ho1.cap).2.2.2.1))
    | (go_at_call 51; have q := ho6; clear q; refine (refSum_any _ (Mac.chg F 92 ++ I) _ hy6 (by rw [List.length_append, Mac.chg_len, HF.out.2.1, HI.out.2.1]; decide) (HA.out.1.ext (((hx2.trans he2).trans he34).trans he6))).mono ?_; rintro e w7 ⟨rfl, he7⟩; rw [← HD.out.1])
    | (go_at_call 51; have q := ho2; clear q; refine (refSum_any _ (Mac.chg F 54 ++ T) _ hy2 (by rw [List.length_append, Mac.chg_len, HF.out.2.1]; have := HA.out; omega) (HA.out.1.ext (hx2.trans he2))).mono ?_; rintro e w3 ⟨rfl, he3⟩; rw [← HI.out.1])
    | (go_at_call 50; have q := he7; clear q; refine (refBytes_any D _ HD.out.2.1 HD.out.2.2).mono ?_; rintro e w8 ⟨v8, rfl, ho8, he8⟩)
    | (go_at_call 50; have q := he3; clear q; refine (refBytes_any I _ HI.out.2.1 HI.out.2.2).mono ?_; rintro e w4 ⟨v4, rfl, ho4, he4⟩; have he34 : Ext w2 w4 := he3.trans he4; obtain ⟨g4, c4, rfl⟩ := ho4.form1)
    | (go_at_call 51; refine (refSum_any _ K _ HA.out.2.1 HA.out.2.2.2.1 HA.out.1).mono ?_; rintro e x1 ⟨rfl, hx1⟩; rw [← HS.out.1])
    | (go_at_call 50; refine (refBytes_any S _ HS.out.2.1 HS.out.2.2).mono ?_; rintro e x2 ⟨y2, rfl, oy2, hx2'⟩; have hx2 := hx1.trans hx2'; obtain ⟨gy, cy, rfl⟩ := oy2.form1))
  go_ret
  exact ⟨_, rfl, ho8.low (((hx2.trans he2).trans he34).trans (he6.trans he7)).size, (((hx2.trans he2).trans he34).trans (he6.trans he7)).trans he8⟩

theorem refMac_any (kv tv : Value) (K T : List Nat) (w : World) (hC : Cube w) (hk : BytesAt w kv K) (ht : BytesAt w tv T) (hlK : K.length ≤ 20000) (hlT : T.length ≤ 10000) :
    Calls Tryd.prog 29 #[kv, tv] w fun e w' => ∃ v, e = .returned v ∧ OwnB w' w.heap.size 5 v (Mac.tag K T) ∧ Ext w w' := by
  by_cases h : K.length ≤ 64
  · exact refMac_short kv tv K T w hC hk ht hlK hlT h
  · exact refMac_long kv tv K T w hC hk ht hlK hlT (by omega)
end Go.Proofs.YtfhoielfekeihaaDoor

/- The document's reader of a cookie. No condition of its own. -/
namespace Go.Proofs.YtfhoielfekeihaaDoor
namespace Tlv
open Go Go.RowKit
set_option linter.unusedVariables false
set_option linter.unusedSimpArgs false
set_option maxRecDepth 100000


def FRd (gi : Nat) (bv : Value) (B : List Nat) (w : World) (st : Option Nat) : Prop := ∃ (a : Nat) (b : Bool), Blk w gi #[bv, .int .i64 (a : Int), .bool b] 78 ∧ a ≤ B.length ∧ st = (if b = true then none else some a)
theorem noKRd : NoK 78 := ⟨by decide, by decide⟩
theorem frd_rd {w0 : World} {gi : Nat} {bv : Value} {B : List Nat} (hg : w0.heap.size ≤ gi) : RdF (FRd gi bv B) w0 gi :=
  ⟨fun h he => by obtain ⟨a, b, hb, h2⟩ := h; exact ⟨a, b, hb.ext he, h2⟩, fun {S w w' st} h hk hS => by obtain ⟨a, b, hb, h2⟩ := h; exact ⟨a, b, hb.but hk (fun e => (hS gi e).2.1 rfl), h2⟩, hg, fun h => by obtain ⟨a, b, hb, h2⟩ := h; exact ⟨_, _, hb, noKRd⟩⟩
theorem rowRd : RowT Tryd.prog 78 3 := ⟨⟨_, Tryd.underlying78, rfl⟩, by kernel_rfl⟩
set_option maxHeartbeats 4000000 in
theorem rkNum {w0 w : World} {q r gi : Nat} {bv : Value} {B : List Nat} {c : Co} {s : So} {st : Option Nat} (hg : w0.heap.size ≤ gi) (hbv : BytesAt w0 bv B) (h : SK 26 (FRd gi bv B) w0 w q r gi c s st) (hB : B.length ≤ 1000000) (n : Int) :
    Calls Tryd.prog 34 #[ptr gi, .int .i64 n] w (StepK 26 (FRd gi bv B) w0 q r gi c s (numS B st n).1 (.int .u64 ((numS B st n).2 : Nat))) := by
  have HB : Hid (BytesAt w0 bv B ∧ B.length ≤ 1000000 ∧ w0.heap.size ≤ gi) := ⟨hbv, hB, hg⟩
  have HS : Hid (SK 26 (FRd gi bv B) w0 w q r gi c s st) := h
  obtain ⟨a, b, hb, ha, hst⟩ := h.hi
  obtain ⟨ba, bc, rfl, _, _⟩ := hbv.form
  rename_i z1 z2
  have HR : Hid (RefV (.agg #[.slice ba B.length bc, .int .i64 (a : Int), .bool b]) (.slice ba B.length bc) B st) := ⟨a, b, rfl, ha, hst⟩
  have HBL : Hid (Blk w gi #[.slice ba B.length bc, .int .i64 (a : Int), .bool b] 78) := hb
  clear z1 z2 hst ha hb h hbv hB hg
  obtain ⟨N, hN⟩ : ∃ N, N = (numS B st n).2 := ⟨_, rfl⟩
  have HN : Hid (N = (numS B st n).2) := hN
  rw [← hN]
  clear hN
  go_enter Tryd.func34, Tryd.ntmps34
  go_wp2_with (first
    | (have q_ := hb5; clear q_; refine wl_store (D := #[.slice ba B.length bc, .int .i64 (a2 : Int), .bool b2]) rfl rowI rfl rfl rfl HBg.out rfl rfl (one_in _ _ _ rfl) ?_; intro w6 hb6 hk6 hx; clear hx)
    | (have q_ := hb5; clear q_; refine wl_load rfl rowI rfl rfl hb5 rfl ?_)
    | (have q_ := he3; clear q_; refine wl_alloc rfl rfl zeroI ?_; intro w4 hb4 he4 hx; clear hx; refine wl_store (D := #[.slice ba B.length bc, .int .i64 (a2 : Int), .bool b2]) rfl rowI rfl rfl rfl hb4 rfl rfl (one_in _ _ _ rfl) ?_; intro w5 hb5 hk5 hx; clear hx; have he5 := he4.of_but hk5 (fun k e => by subst e; exact Nat.le_refl _); have HBg : Hid (Blk w5 gi #[.slice ba B.length bc, .int .i64 (a : Int), .bool b] 78) := (HBL.out.ext he3).ext he5; clear hb4 he4 hk5)
    | (refine wl_load rfl rowI rfl rfl HBL.out rfl ?_)
    | (go_at_call 56; refine (refReadNum_any HR.out (HB.out.1.ext HS.out.ext) HB.out.2.1 n).mono ?_; rintro e w3 ⟨v2, rfl, hv2, he3⟩; rw [← HN.out]; obtain ⟨a2, b2, rfl, ha2, hst2⟩ := hv2; have HV2 : Hid (a2 ≤ B.length ∧ (numS B st n).1 = (if b2 = true then none else some a2)) := ⟨ha2, hst2⟩; clear ha2 hst2))
  go_ret
  have hS5 := (HS.out.grow (frd_rd HB.out.2.2) he3).grow (frd_rd HB.out.2.2) he5
  exact ⟨rfl, hS5.step (frd_rd HB.out.2.2) hk6 ⟨a2, b2, hb6, HV2.out.1, HV2.out.2⟩⟩
set_option maxHeartbeats 4000000 in
theorem rkText {w0 w : World} {q r gi : Nat} {bv : Value} {B : List Nat} {c : Co} {s : So} {st : Option Nat} (hg : w0.heap.size ≤ gi) (hbv : BytesAt w0 bv B) (h : SK 26 (FRd gi bv B) w0 w q r gi c s st) (hB : B.length ≤ 1000000) :
    Calls Tryd.prog 35 #[ptr gi] w (TookK 26 (FRd gi bv B) w0 q r gi c s (takeS B (numS B st 1).1 ((numS B st 1).2 : Nat)).1 (takeS B (numS B st 1).1 ((numS B st 1).2 : Nat)).2) := by
  have HB : Hid (BytesAt w0 bv B ∧ B.length ≤ 1000000 ∧ w0.heap.size ≤ gi) := ⟨hbv, hB, hg⟩
  have HS : Hid (SK 26 (FRd gi bv B) w0 w q r gi c s st) := h
  obtain ⟨ba, bc, rfl, _, _⟩ := hbv.form
  rename_i z1 z2
  have hn8 := numS_u8 hbv.1 st
  obtain ⟨N, hN⟩ : ∃ N, N = (numS B st 1).2 := ⟨_, rfl⟩
  obtain ⟨st1, hst1⟩ : ∃ N, N = (numS B st 1).1 := ⟨_, rfl⟩
  have HN : Hid (N = (numS B st 1).2 ∧ st1 = (numS B st 1).1) := ⟨hN, hst1⟩
  rw [← hN, ← hst1]
  have hw : IntKind.i64.wrap (N : Int) = (N : Int) := by rw [IntKind.wrap_i64, hN]; omega
  clear z1 z2 h hbv hB hg hN hst1 hn8
  go_enter Tryd.func35, Tryd.ntmps35
  refine wp_seq_k (fun K0 hK => ?_)
  have HK0 := Stop.mk hK
  clear hK
  go_wp2
  refine HK0.go _ _ ?_
  clear HK0
  refine wp_seq_k (fun K1 hK => ?_)
  have HK1 := Stop.mk hK
  clear hK
  go_wp2_with (first
    | (go_at_call 34; refine (rkNum HB.out.2.2 HB.out.1 HS.out HB.out.2.1 1).mono ?_; rintro e w1 ⟨rfl, hs1⟩; rw [← HN.out.1]; rw [← HN.out.2] at hs1))
  refine HK1.go _ _ ?_
  clear HK1
  have HS1 : Hid (SK 26 (FRd gi (.slice ba B.length bc) B) w0 w1 q r gi c s st1) := hs1
  obtain ⟨a, b, hb, ha, hst⟩ := hs1.hi
  have HR : Hid (RefV (.agg #[.slice ba B.length bc, .int .i64 (a : Int), .bool b]) (.slice ba B.length bc) B st1) := ⟨a, b, rfl, ha, hst⟩
  have HBL : Hid (Blk w1 gi #[.slice ba B.length bc, .int .i64 (a : Int), .bool b] 78) := hb
  clear hst ha hb hs1 HS
  go_wp2_with (first
    | (have q_ := hb5; clear q_; refine wl_store (D := #[.slice ba B.length bc, .int .i64 (a2 : Int), .bool b2]) rfl rowI rfl rfl rfl HBg.out rfl rfl (one_in _ _ _ rfl) ?_; intro w6 hb6 hk6 hx; clear hx)
    | (have q_ := hb5; clear q_; refine wl_load rfl rowI rfl rfl hb5 rfl ?_)
    | (have q_ := he3; clear q_; refine wl_alloc rfl rfl zeroI ?_; intro w4 hb4 he4 hx; clear hx; refine wl_store (D := #[.slice ba B.length bc, .int .i64 (a2 : Int), .bool b2]) rfl rowI rfl rfl rfl hb4 rfl rfl (one_in _ _ _ rfl) ?_; intro w5 hb5 hk5 hx; clear hx; have he5 := he4.of_but hk5 (fun k e => by subst e; exact Nat.le_refl _); have HBg : Hid (Blk w5 gi #[.slice ba B.length bc, .int .i64 (a : Int), .bool b] 78) := (HBL.out.ext he3).ext he5; clear hb4 he4 hk5)
    | (refine wl_load rfl rowI rfl rfl HBL.out rfl ?_)
    | (go_at_call 57; refine (refTake_any HR.out (HB.out.1.ext HS1.out.ext) HB.out.2.1 _).mono ?_; rintro e w3 ⟨v2, ta, tn, tc, rfl, hv2, htn, hto, he3⟩; obtain ⟨a2, b2, rfl, ha2, hst2⟩ := hv2; have HV2 : Hid (a2 ≤ B.length ∧ (takeS B st1 (N : Nat)).1 = (if b2 = true then none else some a2)) := ⟨ha2, hst2⟩; have HTO : Hid (OB w3 w0.heap.size (.slice ta tn tc) (takeS B st1 (N : Nat)).2) := hto.base HS1.out.ext.size; clear ha2 hst2 htn hto))
  go_ret
  have hS5 := (HS1.out.grow (frd_rd HB.out.2.2) he3).grow (frd_rd HB.out.2.2) he5
  have hO6 := (HTO.out.ext he5).but hk6 (HTO.out.ext he5 |>.ne HBg.out (by decide))
  exact ⟨ta, tn, tc, rfl, hO6, hS5.step (frd_rd HB.out.2.2) hk6 ⟨a2, b2, hb6, HV2.out.1, HV2.out.2⟩⟩
end Tlv
end Go.Proofs.YtfhoielfekeihaaDoor

/- Bytes opened to a cookie, by the document. Condition: the tables hold what the text lays. -/
namespace Go.Proofs.YtfhoielfekeihaaDoor
namespace Tlv
open Go Go.RowKit
set_option linter.unusedVariables false
set_option linter.unusedSimpArgs false
set_option maxRecDepth 100000


theorem builtZ2 : Tryd.prog.built 26 [] = some (KV co0 so0) := by kernel_rfl
theorem zeroC2 : (Tryd.prog.info? 26).bind (·.zero) = some (.agg (KV co0 so0)) := by kernel_rfl
theorem builtIn (a : Option Addr) (n c : Nat) : Tryd.prog.built 76 [(0, .slice a n c)] = some #[.slice a n c, .int .i64 0, .bool false] := by kernel_rfl
theorem builtRd (a : Option Addr) (n c : Nat) : Tryd.prog.built 78 [(0, .agg #[.slice a n c, .int .i64 0, .bool false])] = some #[.slice a n c, .int .i64 0, .bool false] := by kernel_rfl
theorem fit0 : FitC co0 := ⟨by decide, by decide, by decide, by decide, by decide, by decide, by decide, by decide, by decide, fun x hx => (by cases hx), by decide, by decide⟩
theorem noKR9 : NoK 26 := ⟨by decide, by decide⟩
theorem exec_neqS {r : Operand → Value} {o : Oper} {x y : Operand} {tt : TypeId} {w : World} {l m : List Nat} (ho : o.op = .binOp .neq 9 x y tt) (hx : r x = .string (strOf l)) (hy : r y = .string (strOf m)) (hl : ∀ x ∈ l, x < 256) (hm : ∀ x ∈ m, x < 256) :
    (execOp r o).run Tryd.prog w = .ok (.value (.bool (!decide (l = m)))) w := by
  have := strOf_beq l m hl hm
  simp [execOp, ho, hx, hy, go_sem, this, bne]
theorem late_facts {c : Co} (hg : goodK c = true) : IntKind.i64.wrap (c.made + c.life) = c.made + c.life ∧ IntKind.i64.wrap (c.made + c.life) = c.made + c.life ∧ wrap64 (c.made + c.life) = c.made + c.life := by
  have := goodK_nums hg
  refine ⟨by rw [IntKind.wrap_i64]; omega, by rw [IntKind.wrap_i64]; omega, by unfold wrap64; omega⟩
theorem late_pos {c : Co} {now : Int} (hg : goodK c = true) : 0 < lateK c now ↔ c.made + c.life < now := by
  unfold lateK
  rw [if_pos hg]
  split <;> omega
/-- What the document's Open answers. -/
def OpenRIs (w : World) (K B : List Nat) (now : Int) (e : Ending) (w' : World) : Prop := Ext w w' ∧ ∃ s, e = .returned (.tuple #[.agg (KV (openC K B now) s), .int .i64 (openE K B now)]) ∧ OwnK w' w.heap.size s (openC K B now)
theorem OpenRIs.err {w w' : World} {K B : List Nat} {now n : Int} (he : Ext w w') (h : openE K B now = n) (hn : n ≠ 0) : OpenRIs w K B now (.returned (.tuple #[.agg (KV co0 so0), .int .i64 n])) w' := by
  refine ⟨he, so0, ?_, ?_⟩
  · rw [openC_no (by rw [h]; exact hn), h]
  · rw [openC_no (by rw [h]; exact hn)]
    exact OwnK.nil _ _
set_option maxHeartbeats 32000000 in
theorem refOpen_any {w : World} {kv bv : Value} {K B : List Nat} {now : Int} (hC : Cube w) (hk : BytesAt w kv K) (hb : BytesAt w bv B) (hlK : K.length ≤ 20000) (hlB : B.length ≤ 9000) (hnow : W64 now) :
    Calls Tryd.prog 18 #[kv, bv, .int .i64 now] w (OpenRIs w K B now) := by
  have HX0 : Hid (Cube w ∧ BytesAt w kv K ∧ BytesAt w bv B ∧ W64 now) := ⟨hC, hk, hb, hnow⟩
  obtain ⟨ka, kc, rfl, _, _⟩ := hk.form
  obtain ⟨ba, bc, rfl, hbc, _⟩ := hb.form
  rename_i z1 z2 z3
  have HBC : Hid (B.length ≤ bc) := hbc.1
  have HAB : Hid (AllB B) := hb.1
  clear z1 z2 z3 hC hk hb hbc
  by_cases hsh : B.length < 32
  · obtain ⟨x, hx⟩ : ∃ x : Int, x = (B.length : Int) - 32 := ⟨_, rfl⟩
    have hw : IntKind.i64.wrap ((B.length : Int) - 32) = x := by rw [IntKind.wrap_i64, hx]; omega
    have hw2 : (B.length : Int) - 32 = x := hx.symm
    have hx0 : decide (x < 0) = true := decide_eq_true (by omega)
    have hxw : IntKind.i64.wrap x = x := by rw [IntKind.wrap_i64]; omega
    have hxv : wrap64 x = x := by unfold wrap64; omega
    have HE : Hid (openE K B now = 15) := openE_15 (.inl hsh)
    clear hx hsh hlK hlB hnow
    go_enter Tryd.func18, Tryd.ntmps18
    go_wp2_with (first
      | (refine wl_alloc rfl rfl zeroC2 ?_; intro w1 hb1 he1 hx; clear hx))
    go_quiet (fail)
    have hb2 := hb1.ext (Ext.drewN w1 nq)
    have he2 := he1.trans (Ext.drewN w1 nq)
    clear hb1 he1
    go_wp2_with (first
      | (refine wl_buildC rfl rfl (vals := []) rfl builtZ2 ?_)
      | (refine wl_store (D := KV co0 so0) rfl rowC2 rfl rfl rfl hb2 rfl rfl (KV.one _ _) ?_; intro w9 hb9 hk9 hx9; clear hx9))
    refine bodyPost_ret (res_two9 (fn := Tryd.f18) (p := 6) (u := 7) rfl _ _ rfl rfl hb9 Tryd.underlying26 (by kernel_rfl)) rfl ?_
    exact OpenRIs.err (he2.of_but hk9 (fun k e => by subst e; exact Nat.le_refl _)) HE.out (by decide)
  · obtain ⟨E, hEE⟩ : ∃ E, E = B.length - 32 := ⟨_, rfl⟩
    have HEE : Hid (bodyB B = B.take E ∧ sealB B = B.drop E ∧ E + 32 = B.length) := ⟨by rw [hEE]; rfl, by rw [hEE]; rfl, by omega⟩
    have HEn : Hid (E ≤ B.length) := show E ≤ _ by omega
    have HEc : Hid (E ≤ bc) := Nat.le_trans HEn.out HBC.out
    have hw : IntKind.i64.wrap ((B.length : Int) - 32) = (E : Int) := by rw [IntKind.wrap_i64]; omega
    have hw2 : (B.length : Int) - 32 = (E : Int) := by omega
    have hw3 : wrap64 (E : Int) = (E : Int) := by unfold wrap64; omega
    have hw4 : IntKind.i64.wrap (E : Int) = (E : Int) := by rw [IntKind.wrap_i64]; omega
    have hE0 : ¬ (E : Int) < 0 := by omega
    have HL : Hid (K.length ≤ 20000 ∧ (B.take E).length ≤ 9000) := ⟨hlK, by rw [List.length_take]; omega⟩
    have HNS : Hid (¬ B.length < 32) := hsh
    have hEb : (E : Int) ≤ (bc : Int) := by have := HEc.out; omega
    obtain ⟨R, hRR⟩ : ∃ R, R = decide (Mac.tag K (B.take E) = B.drop E) := ⟨_, rfl⟩
    have HRR : Hid (R = decide (Mac.tag K (B.take E) = B.drop E)) := hRR
    have HLB : Hid (B.length ≤ 9000) := hlB
    clear hRR hEE hsh hlK hlB hnow
    go_enter Tryd.func18, Tryd.ntmps18
    refine wp_seq_k (fun Ka hK => ?_)
    have HKa := Stop.mk hK
    clear hK
    go_wp2_with (first
      | (refine wl_alloc rfl rfl zeroC2 ?_; intro w1 hb1 he1 hx; clear hx))
    refine HKa.go _ _ ?_
    clear HKa
    refine wp_seq_k (fun Kb hK => ?_)
    have HKb := Stop.mk hK
    clear hK
    go_wp2
    refine HKb.go _ _ ?_
    clear HKb
    refine wp_seq_k (fun Kc hK => ?_)
    have HKc := Stop.mk hK
    clear hK
    refine wp_seq_k (fun Kd hK => ?_)
    have HKd := Stop.mk hK
    clear hK
    have HB1 : Hid (Blk w1 w.heap.size (KV co0 so0) 26 ∧ Ext w w1) := ⟨hb1, he1⟩
    clear hb1 he1
    have HCx : ∀ {wx : World}, Ext w1.drew wx → Cube wx := fun hx => HX0.out.1.ext (HB1.out.2.trans ((Ext.drew _).trans hx))
    have HKx : ∀ {wx : World}, Ext w1.drew wx → BytesAt wx (.slice ka K.length kc) K := fun hx => HX0.out.2.1.ext (HB1.out.2.trans ((Ext.drew _).trans hx))
    have HBx : ∀ {wx : World}, Ext w1.drew wx → BytesAt wx (.slice ba B.length bc) B := fun hx => HX0.out.2.2.1.ext (HB1.out.2.trans ((Ext.drew _).trans hx))
    refine wp_region_facts (fun t => bif Nat.ble 16 t && Nat.ble t 30 then some (t - 16) else none) 126 Ext
      [Is (.int .i64 (E : Nat)),
       Is (.bool false),
       Is (.bool false),
       Is (.slice ka K.length kc),
       Is (.slice ba B.length bc),
       Is (.int .i64 (E : Nat)),
       (fun wx v => BytesAt wx v (B.take E)),
       (fun wx v => BytesAt wx v (Mac.tag K (B.take E))),
       Is (.string (strOf (Mac.tag K (B.take E)))),
       Is (.slice ba B.length bc),
       Is (.int .i64 (E : Nat)),
       (fun wx v => BytesAt wx v (B.drop E)),
       Is (.string (strOf (B.drop E))),
       Is (.bool (!R)),
       Is (.bool (!R))]
      rfl (by kernel_rfl) (by kernel_rfl) rfl Ext.refl (fun _ _ _ => Ext.trans) ?_ ?_ ?_
    · exact KeepAll.is (KeepAll.is (KeepAll.is (KeepAll.is (KeepAll.is (KeepAll.is (KeepAll.cons (fun _ _ _ hr h => BytesAt.ext h hr) (KeepAll.cons (fun _ _ _ hr h => BytesAt.ext h hr) (KeepAll.is (KeepAll.is (KeepAll.is (KeepAll.cons (fun _ _ _ hr h => BytesAt.ext h hr) (KeepAll.is (KeepAll.is (KeepAll.is (KeepAll.nil)))))))))))))))
    · refine GoodAll.cons ?_ ?_
      · intro r_ wx hR hx
        obtain ⟨h1, _⟩ := hx
        replace h1 : r_ (.tmp 8) = (.int .i64 (E : Nat)) := h1
        exact give_move (.inl rfl) ⟨Ext.refl _, h1⟩
      refine GoodAll.cons ?_ ?_
      · intro r_ wx hR hx
        obtain ⟨h1, h2, _⟩ := hx
        replace h1 : r_ (.tmp 16) = (.int .i64 (E : Nat)) := h1
        replace h2 : r_ (.const (.int .i64 0)) = .int .i64 0 := h2
        exact give_of (by simp [execOp, h1, h2, go_sem, hE0]; done) ⟨Ext.refl _, rfl⟩
      refine GoodAll.cons ?_ ?_
      · intro r_ wx hR hx
        obtain ⟨h1, _⟩ := hx
        replace h1 : r_ (.tmp 17) = (.bool false) := h1
        exact give_move (.inl rfl) ⟨Ext.refl _, h1⟩
      refine GoodAll.cons ?_ ?_
      · intro r_ wx hR hx
        obtain ⟨h1, _⟩ := hx
        replace h1 : r_ (.tmp 0) = (.slice ka K.length kc) := h1
        intro gb hgb
        refine guard_in (b := gb) (want := false) hgb ?_
        exact give_move (.inl rfl) ⟨Ext.refl _, h1⟩
      refine GoodAll.cons ?_ ?_
      · intro r_ wx hR hx
        obtain ⟨h1, _⟩ := hx
        replace h1 : r_ (.tmp 1) = (.slice ba B.length bc) := h1
        intro gb hgb
        refine guard_in (b := gb) (want := false) hgb ?_
        exact give_move (.inl rfl) ⟨Ext.refl _, h1⟩
      refine GoodAll.cons ?_ ?_
      · intro r_ wx hR hx
        obtain ⟨h1, _⟩ := hx
        replace h1 : r_ (.tmp 8) = (.int .i64 (E : Nat)) := h1
        intro gb hgb
        refine guard_in (b := gb) (want := false) hgb ?_
        exact give_move (.inl rfl) ⟨Ext.refl _, h1⟩
      refine GoodAll.cons ?_ ?_
      · intro r_ wx hR hx
        obtain ⟨h1, h2, _⟩ := hx
        replace h1 : r_ (.tmp 20) = (.slice ba B.length bc) := h1
        replace h2 : r_ (.tmp 21) = (.int .i64 (E : Nat)) := h2
        intro gb hgb
        refine guard_in (b := gb) (want := false) hgb ?_
        refine give_of (exec_slice_h byteT rfl wx _ _ bc E _ h1 h2 HEc.out) ⟨Ext.refl _, ?_⟩
        have hX := (HBx hR).sliced 0 E (Nat.zero_le _) HEn.out
        rw [List.drop_zero] at hX
        exact hX
      refine GoodAll.cons ?_ ?_
      · intro r_ wx hR hx
        obtain ⟨h1, h2, h3, _⟩ := hx
        replace h1 : r_ (.func 29) = .func (.func 29) #[] #[] := h1
        replace h2 : r_ (.tmp 19) = (.slice ka K.length kc) := h2
        replace h3 : ((fun wx v => BytesAt wx v (B.take E)) : Fact) wx (r_ (.tmp 22)) := h3
        intro gb hgb
        refine guard_in (b := gb) (want := false) hgb ?_
        refine give_func #[.slice ka K.length kc, r_ (.tmp 22)] rfl h1 Tryd.call29 (by simp [h2]) ?_
        refine (refMac_any _ _ K (B.take E) _ (HCx hR) (HKx hR) h3 (by have := HL.out; omega) (by have := HL.out; omega)).mono ?_
        rintro e w' ⟨v, rfl, ho, he⟩
        exact ⟨_, rfl, he, ho.bytes⟩
      refine GoodAll.cons ?_ ?_
      · intro r_ wx hR hx
        obtain ⟨h1, _⟩ := hx
        replace h1 : ((fun wx v => BytesAt wx v (Mac.tag K (B.take E))) : Fact) wx (r_ (.tmp 23)) := h1
        intro gb hgb
        refine guard_in (b := gb) (want := false) hgb ?_
        exact give_of (exec_string byteT strT rfl wx _ h1) ⟨Ext.refl _, rfl⟩
      refine GoodAll.cons ?_ ?_
      · intro r_ wx hR hx
        obtain ⟨h1, _⟩ := hx
        replace h1 : r_ (.tmp 1) = (.slice ba B.length bc) := h1
        intro gb hgb
        refine guard_in (b := gb) (want := false) hgb ?_
        exact give_move (.inl rfl) ⟨Ext.refl _, h1⟩
      refine GoodAll.cons ?_ ?_
      · intro r_ wx hR hx
        obtain ⟨h1, _⟩ := hx
        replace h1 : r_ (.tmp 8) = (.int .i64 (E : Nat)) := h1
        intro gb hgb
        refine guard_in (b := gb) (want := false) hgb ?_
        exact give_move (.inl rfl) ⟨Ext.refl _, h1⟩
      refine GoodAll.cons ?_ ?_
      · intro r_ wx hR hx
        obtain ⟨h1, h2, _⟩ := hx
        replace h1 : r_ (.tmp 25) = (.slice ba B.length bc) := h1
        replace h2 : r_ (.tmp 26) = (.int .i64 (E : Nat)) := h2
        intro gb hgb
        refine guard_in (b := gb) (want := false) hgb ?_
        refine give_of (exec_slice_l byteT rfl wx _ _ bc E _ h1 h2 HEn.out) ⟨Ext.refl _, ?_⟩
        have hX := (HBx hR).sliced E B.length HEn.out (Nat.le_refl _)
        rw [List.take_length] at hX
        exact hX
      refine GoodAll.cons ?_ ?_
      · intro r_ wx hR hx
        obtain ⟨h1, _⟩ := hx
        replace h1 : ((fun wx v => BytesAt wx v (B.drop E)) : Fact) wx (r_ (.tmp 27)) := h1
        intro gb hgb
        refine guard_in (b := gb) (want := false) hgb ?_
        exact give_of (exec_string byteT strT rfl wx _ h1) ⟨Ext.refl _, rfl⟩
      refine GoodAll.cons ?_ ?_
      · intro r_ wx hR hx
        obtain ⟨h1, h2, _⟩ := hx
        replace h1 : r_ (.tmp 24) = (.string (strOf (Mac.tag K (B.take E)))) := h1
        replace h2 : r_ (.tmp 28) = (.string (strOf (B.drop E))) := h2
        intro gb hgb
        refine guard_in (b := gb) (want := false) hgb ?_
        exact give_of (exec_neqS rfl h1 h2 (Mac.tag_all _ _) (HAB.out.drop _)) ⟨Ext.refl _, by rw [← HRR.out]; rfl⟩
      refine GoodAll.cons ?_ ?_
      · intro r_ wx hR hx
        obtain ⟨h1, h2, h3, _⟩ := hx
        replace h1 : r_ (.tmp 18) = (.bool false) := h1
        replace h2 : r_ (.const (.bool true)) = .bool true := h2
        replace h3 : r_ (.tmp 29) = (.bool (!R)) := h3
        exact give_pickF rfl h1 ⟨Ext.refl _, h3⟩
      exact GoodAll.nil
    · intro vs w7 aY hR7 hold ha
      have hv0 : vs 0 = (.int .i64 (E : Nat)) := hold.at 0
      have hv1 : vs 1 = (.bool false) := hold.at 1
      have hv2 : vs 2 = (.bool false) := hold.at 2
      have hv3 : vs 3 = (.slice ka K.length kc) := hold.at 3
      have hv4 : vs 4 = (.slice ba B.length bc) := hold.at 4
      have hv5 : vs 5 = (.int .i64 (E : Nat)) := hold.at 5
      have hv8 : vs 8 = (.string (strOf (Mac.tag K (B.take E)))) := hold.at 8
      have hv9 : vs 9 = (.slice ba B.length bc) := hold.at 9
      have hv10 : vs 10 = (.int .i64 (E : Nat)) := hold.at 10
      have hv12 : vs 12 = (.string (strOf (B.drop E))) := hold.at 12
      have hv13 : vs 13 = (.bool (!R)) := hold.at 13
      have hv14 : vs 14 = (.bool (!R)) := hold.at 14
      simp only [putAll, Act.put, hv0, hv1, hv2, hv3, hv4, hv5, hv8, hv9, hv10, hv12, hv13, hv14, List.setIfInBounds_toArray, List.set_cons_succ, List.set_cons_zero] at ha
      subst ha
      have HE7 : Hid (Ext w1 w7) := (Ext.drew _).trans hR7
      have hb7 := HB1.out.1.ext HE7.out
      have he7 := HB1.out.2.trans HE7.out
      have HBW : Hid (BytesAt w (.slice ba E bc) (bodyB B)) := show BytesAt _ _ _ by
        have hX := HX0.out.2.2.1.sliced 0 E (Nat.zero_le _) HEn.out
        rw [List.drop_zero, slice0] at hX
        rw [HEE.out.1]; exact hX
      clear hold HCx HKx HBx hv0 hv1 hv2 hv3 hv4 hv5 hv8 hv9 hv10 hv12 hv13 hv14
      refine HKd.go _ _ ?_
      cases R with
      | false =>
        have HE : Hid (openE K B now = 15) := openE_15 (.inr (by rw [HEE.out.1, HEE.out.2.1]; exact fun e => of_decide_eq_false HRR.out.symm e.symm))
        go_wp2_with (first
          | (refine wl_buildC rfl rfl (vals := []) rfl builtZ2 ?_)
          | (refine wl_store (D := KV co0 so0) rfl rowC2 rfl rfl rfl hb7 rfl rfl (KV.one _ _) ?_; intro w9 hb9 hk9 hx9; clear hx9))
        refine bodyPost_ret (res_two9 (fn := Tryd.f18) (p := 6) (u := 7) rfl _ _ rfl rfl hb9 Tryd.underlying26 (by kernel_rfl)) rfl ?_
        exact OpenRIs.err (he7.of_but hk9 (fun k e => by subst e; exact Nat.le_refl _)) HE.out (by decide)
      | true =>
        have HIN : Hid (sealB B = Mac.tag K (bodyB B)) := show _ = _ by rw [HEE.out.1, HEE.out.2.1]; exact (of_decide_eq_true HRR.out.symm).symm
        have HOE := openE_in (now := now) HNS.out HIN.out
        have HAY : Hid (AllB (bodyB B)) := HAB.out.take _
        have HLY : Hid ((bodyB B).length ≤ 1000000 ∧ E = (bodyB B).length) := ⟨by have := HL.out.2; rw [HEE.out.1]; omega, by rw [HEE.out.1, List.length_take]; have := HEE.out.2.2; omega⟩
        obtain ⟨V, hY⟩ : ∃ Y, Y = bodyB B := ⟨_, rfl⟩
        have HYB : Hid (V = bodyB B) := hY
        rw [← hY] at HOE HAY HLY HBW
        have HO : Hid (openE K B now = if endK V = false then 2 else if goodK (readK V) = false then 2 else if 0 < lateK (readK V) now then 8 else 0) := HOE
        clear hY HOE HRR
        have hA := HAY.out
        have HX : Hid (AllB V ∧ V.length ≤ 1000000) := ⟨HAY.out, HLY.out.1⟩
        have HBV : Hid (BytesAt w (.slice ba E bc) V) := HBW.out
        have w2_ : IntKind.u32.wrap (((numS V (q2 V) 4).2 : Nat) : Int) = (((numS V (q2 V) 4).2 : Nat) : Int) := by have := numS_u32 hA (q2 V); rw [IntKind.wrap_u32]; omega
        have w3_ : IntKind.u32.wrap (((numS V (q3 V) 4).2 : Nat) : Int) = (((numS V (q3 V) 4).2 : Nat) : Int) := by have := numS_u32 hA (q3 V); rw [IntKind.wrap_u32]; omega
        have w4_ : IntKind.u32.wrap (((numS V (q4 V) 4).2 : Nat) : Int) = (((numS V (q4 V) 4).2 : Nat) : Int) := by have := numS_u32 hA (q4 V); rw [IntKind.wrap_u32]; omega
        have w5_ : IntKind.u32.wrap (((numS V (q5 V) 4).2 : Nat) : Int) = (((numS V (q5 V) 4).2 : Nat) : Int) := by have := numS_u32 hA (q5 V); rw [IntKind.wrap_u32]; omega
        have w15_ : IntKind.u32.wrap (((numS V (q15 V) 4).2 : Nat) : Int) = (((numS V (q15 V) 4).2 : Nat) : Int) := by have := numS_u32 hA (q15 V); rw [IntKind.wrap_u32]; omega
        have w16_ : IntKind.u32.wrap (((numS V (q16 V) 4).2 : Nat) : Int) = (((numS V (q16 V) 4).2 : Nat) : Int) := by have := numS_u32 hA (q16 V); rw [IntKind.wrap_u32]; omega
        have w6_ : IntKind.i64.wrap (((numS V (q6 V) 4).2 : Nat) : Int) = (((numS V (q6 V) 4).2 : Nat) : Int) := by have := numS_u32 hA (q6 V); rw [IntKind.wrap_i64]; omega
        have w7_ : IntKind.i64.wrap (((numS V (q7 V) 1).2 : Nat) : Int) = (((numS V (q7 V) 1).2 : Nat) : Int) := by have := numS_u8 hA (q7 V); rw [IntKind.wrap_i64]; omega
        have w8_ : IntKind.i64.wrap (((numS V (q8 V) 1).2 : Nat) : Int) = (((numS V (q8 V) 1).2 : Nat) : Int) := by have := numS_u8 hA (q8 V); rw [IntKind.wrap_i64]; omega
        have w9_ : IntKind.i64.wrap (((numS V (q9 V) 1).2 : Nat) : Int) = (((numS V (q9 V) 1).2 : Nat) : Int) := by have := numS_u8 hA (q9 V); rw [IntKind.wrap_i64]; omega
        have noT := noKR9
        clear hA
        go_wp2_with fail
        refine HKc.go _ _ ?_
        clear HKc HKd
        refine wp_seq_k (fun K1 hK => ?_)
        have HK1 := Stop.mk hK
        clear hK
        go_wp2_with (first
          | (refine wl_buildC rfl rfl (vals := [(0, .slice ba E bc)]) rfl (builtIn ba E bc) ?_)
          | (refine wl_buildC rfl rfl (vals := [(0, .agg #[.slice ba E bc, .int .i64 0, .bool false])]) rfl (builtRd ba E bc) ?_)
          | (refine wl_box (C := #[.slice ba E bc, .int .i64 0, .bool false]) rfl rfl rfl ?_; intro w8 hb8 he8 hx; clear hx))
        refine HK1.go _ _ ?_
        clear HK1
        refine wp_seq_k (fun K2 hK => ?_)
        have HK2 := Stop.mk hK
        clear hK
        go_wp2_with (first
          | (refine wl_buildC rfl rfl (vals := []) rfl builtZ2 ?_)
          | (refine wl_alloc rfl rfl zeroC2 ?_; intro w9a hb9a he9a hx; clear hx; refine wl_store (D := KV co0 so0) rfl rowC2 rfl rfl rfl hb9a rfl rfl (KV.one _ _) ?_; intro w9 hb9 hk9 hx; clear hx; have he9 := he9a.of_but hk9 (fun k e => by subst e; exact Nat.le_refl _); clear hb9a he9a hk9))
        refine HK2.go _ _ ?_
        clear HK2
        have hsz1 := hb7.lt
        have hsz2 := hb8.lt
        have hsz3 := he8.size
        have hst : SK 26 (FRd w7.heap.size (.slice ba E bc) V) w w9 w8.heap.size w.heap.size w7.heap.size co0 so0 (some 0) := ⟨(he7.trans he8).trans he9, by omega, OwnK.nil _ _, fit0, hb9, (hb7.ext he8).ext he9, Nat.le_refl _, by omega, by omega, by omega, 0, false, hb8.ext he9, Nat.zero_le _, rfl⟩
        have hgle : w.heap.size ≤ w7.heap.size := by omega
        clear hb7 he7 hb8 he8 hb9 he9 hsz1 hsz2 hsz3
        obtain ⟨r, hr⟩ : ∃ x, x = w.heap.size := ⟨_, rfl⟩
        have HRQ : Hid (r = w.heap.size) := hr
        rw [← hr] at hst ⊢
        clear hr
        generalize w8.heap.size = q at hst ⊢
        obtain ⟨gi, hgi⟩ : ∃ x, x = w7.heap.size := ⟨_, rfl⟩
        rw [← hgi] at hst hgle
        try rw [← hgi]
        clear hgi
        have HG : Hid (w.heap.size ≤ gi) := hgle
        have HF : Hid (RdF (FRd gi (.slice ba E bc) V) w gi) := frd_rd hgle
        have HR0 : Hid (SK 26 (FRd gi (.slice ba E bc) V) w w9 q r gi co0 so0 (some 0)) := hst
        clear hst hgle
        refine wp_seq_k (fun K3 hK => ?_)
        have HK3 := Stop.mk hK
        clear hK
        go_wp2_with (first
          | (have q_ := HR1; clear q_; refine wl_setK HF.out noT HR1.out rfl one3 0 rfl (by first | rfl | go_simp) (by first | rfl | go_simp) rfl rfl (by decide) (⟨wrap64 (((numS V (some 0) 8).2 : Nat) : Int), 0, 0, 0, 0, 0, 0, 0, 0, [], [], [], 0, 0⟩ : Co) so0 rfl ⟨HR1.out.own.a, HR1.out.own.m, HR1.out.own.p⟩ { HR1.out.fit with made := wrap_w64 _ } ?_; intro y2 hr; have HR2 : Hid (SK 26 (FRd gi (.slice ba E bc) V) w y2 q r gi (⟨wrap64 (((numS V (some 0) 8).2 : Nat) : Int), 0, 0, 0, 0, 0, 0, 0, 0, [], [], [], 0, 0⟩ : Co) so0 (q1 V)) := hr; clear hr)
          | (have q_ := HR0; clear q_; go_at_call 34; refine (rkNum HG.out HBV.out HR0.out HX.out.2 8).mono ?_; rintro e y1 ⟨rfl, hr⟩; have HR1 : Hid (SK 26 (FRd gi (.slice ba E bc) V) w y1 q r gi co0 so0 (q1 V)) := hr; clear hr))
        refine HK3.go _ _ ?_
        clear HK3
        refine wp_seq_k (fun K4 hK => ?_)
        have HK4 := Stop.mk hK
        clear hK
        go_wp2_with (first
          | (have q_ := HR3; clear q_; refine wl_setK HF.out noT HR3.out rfl one3 1 rfl (by first | rfl | go_simp) (by first | rfl | go_simp) rfl rfl (by decide) (⟨wrap64 (((numS V (some 0) 8).2 : Nat) : Int), wrap64 (((numS V (q1 V) 8).2 : Nat) : Int), 0, 0, 0, 0, 0, 0, 0, [], [], [], 0, 0⟩ : Co) so0 rfl ⟨HR3.out.own.a, HR3.out.own.m, HR3.out.own.p⟩ { HR3.out.fit with life := wrap_w64 _ } ?_; intro y4 hr; have HR4 : Hid (SK 26 (FRd gi (.slice ba E bc) V) w y4 q r gi (⟨wrap64 (((numS V (some 0) 8).2 : Nat) : Int), wrap64 (((numS V (q1 V) 8).2 : Nat) : Int), 0, 0, 0, 0, 0, 0, 0, [], [], [], 0, 0⟩ : Co) so0 (q2 V)) := hr; clear hr)
          | (have q_ := HR2; clear q_; go_at_call 34; refine (rkNum HG.out HBV.out HR2.out HX.out.2 8).mono ?_; rintro e y3 ⟨rfl, hr⟩; have HR3 : Hid (SK 26 (FRd gi (.slice ba E bc) V) w y3 q r gi (⟨wrap64 (((numS V (some 0) 8).2 : Nat) : Int), 0, 0, 0, 0, 0, 0, 0, 0, [], [], [], 0, 0⟩ : Co) so0 (q2 V)) := hr; clear hr))
        refine HK4.go _ _ ?_
        clear HK4
        refine wp_seq_k (fun K5 hK => ?_)
        have HK5 := Stop.mk hK
        clear hK
        go_wp2_with (first
          | (have q_ := HR5; clear q_; refine wl_setK HF.out noT HR5.out rfl one22 2 rfl (by first | rfl | go_simp) (by first | rfl | go_simp) rfl rfl (by decide) (⟨wrap64 (((numS V (some 0) 8).2 : Nat) : Int), wrap64 (((numS V (q1 V) 8).2 : Nat) : Int), (numS V (q2 V) 4).2, 0, 0, 0, 0, 0, 0, [], [], [], 0, 0⟩ : Co) so0 rfl ⟨HR5.out.own.a, HR5.out.own.m, HR5.out.own.p⟩ { HR5.out.fit with mine := numS_u32 HX.out.1 _ } ?_; intro y6 hr; have HR6 : Hid (SK 26 (FRd gi (.slice ba E bc) V) w y6 q r gi (⟨wrap64 (((numS V (some 0) 8).2 : Nat) : Int), wrap64 (((numS V (q1 V) 8).2 : Nat) : Int), (numS V (q2 V) 4).2, 0, 0, 0, 0, 0, 0, [], [], [], 0, 0⟩ : Co) so0 (q3 V)) := hr; clear hr)
          | (have q_ := HR4; clear q_; go_at_call 34; refine (rkNum HG.out HBV.out HR4.out HX.out.2 4).mono ?_; rintro e y5 ⟨rfl, hr⟩; have HR5 : Hid (SK 26 (FRd gi (.slice ba E bc) V) w y5 q r gi (⟨wrap64 (((numS V (some 0) 8).2 : Nat) : Int), wrap64 (((numS V (q1 V) 8).2 : Nat) : Int), 0, 0, 0, 0, 0, 0, 0, [], [], [], 0, 0⟩ : Co) so0 (q3 V)) := hr; clear hr))
        refine HK5.go _ _ ?_
        clear HK5
        refine wp_seq_k (fun K6 hK => ?_)
        have HK6 := Stop.mk hK
        clear hK
        go_wp2_with (first
          | (have q_ := HR7; clear q_; refine wl_setK HF.out noT HR7.out rfl one22 3 rfl (by first | rfl | go_simp) (by first | rfl | go_simp) rfl rfl (by decide) (⟨wrap64 (((numS V (some 0) 8).2 : Nat) : Int), wrap64 (((numS V (q1 V) 8).2 : Nat) : Int), (numS V (q2 V) 4).2, (numS V (q3 V) 4).2, 0, 0, 0, 0, 0, [], [], [], 0, 0⟩ : Co) so0 rfl ⟨HR7.out.own.a, HR7.out.own.m, HR7.out.own.p⟩ { HR7.out.fit with peers := numS_u32 HX.out.1 _ } ?_; intro y8 hr; have HR8 : Hid (SK 26 (FRd gi (.slice ba E bc) V) w y8 q r gi (⟨wrap64 (((numS V (some 0) 8).2 : Nat) : Int), wrap64 (((numS V (q1 V) 8).2 : Nat) : Int), (numS V (q2 V) 4).2, (numS V (q3 V) 4).2, 0, 0, 0, 0, 0, [], [], [], 0, 0⟩ : Co) so0 (q4 V)) := hr; clear hr)
          | (have q_ := HR6; clear q_; go_at_call 34; refine (rkNum HG.out HBV.out HR6.out HX.out.2 4).mono ?_; rintro e y7 ⟨rfl, hr⟩; have HR7 : Hid (SK 26 (FRd gi (.slice ba E bc) V) w y7 q r gi (⟨wrap64 (((numS V (some 0) 8).2 : Nat) : Int), wrap64 (((numS V (q1 V) 8).2 : Nat) : Int), (numS V (q2 V) 4).2, 0, 0, 0, 0, 0, 0, [], [], [], 0, 0⟩ : Co) so0 (q4 V)) := hr; clear hr))
        refine HK6.go _ _ ?_
        clear HK6
        refine wp_seq_k (fun K7 hK => ?_)
        have HK7 := Stop.mk hK
        clear hK
        go_wp2_with (first
          | (have q_ := HR9; clear q_; refine wl_setK HF.out noT HR9.out rfl one22 4 rfl (by first | rfl | go_simp) (by first | rfl | go_simp) rfl rfl (by decide) (⟨wrap64 (((numS V (some 0) 8).2 : Nat) : Int), wrap64 (((numS V (q1 V) 8).2 : Nat) : Int), (numS V (q2 V) 4).2, (numS V (q3 V) 4).2, (numS V (q4 V) 4).2, 0, 0, 0, 0, [], [], [], 0, 0⟩ : Co) so0 rfl ⟨HR9.out.own.a, HR9.out.own.m, HR9.out.own.p⟩ { HR9.out.fit with mtsn := numS_u32 HX.out.1 _ } ?_; intro y10 hr; have HR10 : Hid (SK 26 (FRd gi (.slice ba E bc) V) w y10 q r gi (⟨wrap64 (((numS V (some 0) 8).2 : Nat) : Int), wrap64 (((numS V (q1 V) 8).2 : Nat) : Int), (numS V (q2 V) 4).2, (numS V (q3 V) 4).2, (numS V (q4 V) 4).2, 0, 0, 0, 0, [], [], [], 0, 0⟩ : Co) so0 (q5 V)) := hr; clear hr)
          | (have q_ := HR8; clear q_; go_at_call 34; refine (rkNum HG.out HBV.out HR8.out HX.out.2 4).mono ?_; rintro e y9 ⟨rfl, hr⟩; have HR9 : Hid (SK 26 (FRd gi (.slice ba E bc) V) w y9 q r gi (⟨wrap64 (((numS V (some 0) 8).2 : Nat) : Int), wrap64 (((numS V (q1 V) 8).2 : Nat) : Int), (numS V (q2 V) 4).2, (numS V (q3 V) 4).2, 0, 0, 0, 0, 0, [], [], [], 0, 0⟩ : Co) so0 (q5 V)) := hr; clear hr))
        refine HK7.go _ _ ?_
        clear HK7
        refine wp_seq_k (fun K8 hK => ?_)
        have HK8 := Stop.mk hK
        clear hK
        go_wp2_with (first
          | (have q_ := HR11; clear q_; refine wl_setK HF.out noT HR11.out rfl one22 5 rfl (by first | rfl | go_simp) (by first | rfl | go_simp) rfl rfl (by decide) (⟨wrap64 (((numS V (some 0) 8).2 : Nat) : Int), wrap64 (((numS V (q1 V) 8).2 : Nat) : Int), (numS V (q2 V) 4).2, (numS V (q3 V) 4).2, (numS V (q4 V) 4).2, (numS V (q5 V) 4).2, 0, 0, 0, [], [], [], 0, 0⟩ : Co) so0 rfl ⟨HR11.out.own.a, HR11.out.own.m, HR11.out.own.p⟩ { HR11.out.fit with ptsn := numS_u32 HX.out.1 _ } ?_; intro y12 hr; have HR12 : Hid (SK 26 (FRd gi (.slice ba E bc) V) w y12 q r gi (⟨wrap64 (((numS V (some 0) 8).2 : Nat) : Int), wrap64 (((numS V (q1 V) 8).2 : Nat) : Int), (numS V (q2 V) 4).2, (numS V (q3 V) 4).2, (numS V (q4 V) 4).2, (numS V (q5 V) 4).2, 0, 0, 0, [], [], [], 0, 0⟩ : Co) so0 (q6 V)) := hr; clear hr)
          | (have q_ := HR10; clear q_; go_at_call 34; refine (rkNum HG.out HBV.out HR10.out HX.out.2 4).mono ?_; rintro e y11 ⟨rfl, hr⟩; have HR11 : Hid (SK 26 (FRd gi (.slice ba E bc) V) w y11 q r gi (⟨wrap64 (((numS V (some 0) 8).2 : Nat) : Int), wrap64 (((numS V (q1 V) 8).2 : Nat) : Int), (numS V (q2 V) 4).2, (numS V (q3 V) 4).2, (numS V (q4 V) 4).2, 0, 0, 0, 0, [], [], [], 0, 0⟩ : Co) so0 (q6 V)) := hr; clear hr))
        refine HK8.go _ _ ?_
        clear HK8
        refine wp_seq_k (fun K9 hK => ?_)
        have HK9 := Stop.mk hK
        clear hK
        go_wp2_with (first
          | (have q_ := HR13; clear q_; refine wl_setK HF.out noT HR13.out rfl one3 6 rfl (by first | rfl | go_simp) (by first | rfl | go_simp) rfl rfl (by decide) (⟨wrap64 (((numS V (some 0) 8).2 : Nat) : Int), wrap64 (((numS V (q1 V) 8).2 : Nat) : Int), (numS V (q2 V) 4).2, (numS V (q3 V) 4).2, (numS V (q4 V) 4).2, (numS V (q5 V) 4).2, (((numS V (q6 V) 4).2 : Nat) : Int), 0, 0, [], [], [], 0, 0⟩ : Co) so0 rfl ⟨HR13.out.own.a, HR13.out.own.m, HR13.out.own.p⟩ { HR13.out.fit with win := numS_w4 HX.out.1 _ } ?_; intro y14 hr; have HR14 : Hid (SK 26 (FRd gi (.slice ba E bc) V) w y14 q r gi (⟨wrap64 (((numS V (some 0) 8).2 : Nat) : Int), wrap64 (((numS V (q1 V) 8).2 : Nat) : Int), (numS V (q2 V) 4).2, (numS V (q3 V) 4).2, (numS V (q4 V) 4).2, (numS V (q5 V) 4).2, (((numS V (q6 V) 4).2 : Nat) : Int), 0, 0, [], [], [], 0, 0⟩ : Co) so0 (q7 V)) := hr; clear hr)
          | (have q_ := HR12; clear q_; go_at_call 34; refine (rkNum HG.out HBV.out HR12.out HX.out.2 4).mono ?_; rintro e y13 ⟨rfl, hr⟩; have HR13 : Hid (SK 26 (FRd gi (.slice ba E bc) V) w y13 q r gi (⟨wrap64 (((numS V (some 0) 8).2 : Nat) : Int), wrap64 (((numS V (q1 V) 8).2 : Nat) : Int), (numS V (q2 V) 4).2, (numS V (q3 V) 4).2, (numS V (q4 V) 4).2, (numS V (q5 V) 4).2, 0, 0, 0, [], [], [], 0, 0⟩ : Co) so0 (q7 V)) := hr; clear hr))
        refine HK9.go _ _ ?_
        clear HK9
        refine wp_seq_k (fun K10 hK => ?_)
        have HK10 := Stop.mk hK
        clear hK
        go_wp2_with (first
          | (have q_ := HR15; clear q_; refine wl_setK HF.out noT HR15.out rfl one3 7 rfl (by first | rfl | go_simp) (by first | rfl | go_simp) rfl rfl (by decide) (⟨wrap64 (((numS V (some 0) 8).2 : Nat) : Int), wrap64 (((numS V (q1 V) 8).2 : Nat) : Int), (numS V (q2 V) 4).2, (numS V (q3 V) 4).2, (numS V (q4 V) 4).2, (numS V (q5 V) 4).2, (((numS V (q6 V) 4).2 : Nat) : Int), (((numS V (q7 V) 1).2 : Nat) : Int), 0, [], [], [], 0, 0⟩ : Co) so0 rfl ⟨HR15.out.own.a, HR15.out.own.m, HR15.out.own.p⟩ { HR15.out.fit with out := numS_w8 HX.out.1 _ } ?_; intro y16 hr; have HR16 : Hid (SK 26 (FRd gi (.slice ba E bc) V) w y16 q r gi (⟨wrap64 (((numS V (some 0) 8).2 : Nat) : Int), wrap64 (((numS V (q1 V) 8).2 : Nat) : Int), (numS V (q2 V) 4).2, (numS V (q3 V) 4).2, (numS V (q4 V) 4).2, (numS V (q5 V) 4).2, (((numS V (q6 V) 4).2 : Nat) : Int), (((numS V (q7 V) 1).2 : Nat) : Int), 0, [], [], [], 0, 0⟩ : Co) so0 (q8 V)) := hr; clear hr)
          | (have q_ := HR14; clear q_; go_at_call 34; refine (rkNum HG.out HBV.out HR14.out HX.out.2 1).mono ?_; rintro e y15 ⟨rfl, hr⟩; have HR15 : Hid (SK 26 (FRd gi (.slice ba E bc) V) w y15 q r gi (⟨wrap64 (((numS V (some 0) 8).2 : Nat) : Int), wrap64 (((numS V (q1 V) 8).2 : Nat) : Int), (numS V (q2 V) 4).2, (numS V (q3 V) 4).2, (numS V (q4 V) 4).2, (numS V (q5 V) 4).2, (((numS V (q6 V) 4).2 : Nat) : Int), 0, 0, [], [], [], 0, 0⟩ : Co) so0 (q8 V)) := hr; clear hr))
        refine HK10.go _ _ ?_
        clear HK10
        refine wp_seq_k (fun K11 hK => ?_)
        have HK11 := Stop.mk hK
        clear hK
        go_wp2_with (first
          | (have q_ := HR17; clear q_; refine wl_setK HF.out noT HR17.out rfl one3 8 rfl (by first | rfl | go_simp) (by first | rfl | go_simp) rfl rfl (by decide) (⟨wrap64 (((numS V (some 0) 8).2 : Nat) : Int), wrap64 (((numS V (q1 V) 8).2 : Nat) : Int), (numS V (q2 V) 4).2, (numS V (q3 V) 4).2, (numS V (q4 V) 4).2, (numS V (q5 V) 4).2, (((numS V (q6 V) 4).2 : Nat) : Int), (((numS V (q7 V) 1).2 : Nat) : Int), (((numS V (q8 V) 1).2 : Nat) : Int), [], [], [], 0, 0⟩ : Co) so0 rfl ⟨HR17.out.own.a, HR17.out.own.m, HR17.out.own.p⟩ { HR17.out.fit with inn := numS_w8 HX.out.1 _ } ?_; intro y18 hr; have HR18 : Hid (SK 26 (FRd gi (.slice ba E bc) V) w y18 q r gi (⟨wrap64 (((numS V (some 0) 8).2 : Nat) : Int), wrap64 (((numS V (q1 V) 8).2 : Nat) : Int), (numS V (q2 V) 4).2, (numS V (q3 V) 4).2, (numS V (q4 V) 4).2, (numS V (q5 V) 4).2, (((numS V (q6 V) 4).2 : Nat) : Int), (((numS V (q7 V) 1).2 : Nat) : Int), (((numS V (q8 V) 1).2 : Nat) : Int), [], [], [], 0, 0⟩ : Co) so0 (q9 V)) := hr; clear hr)
          | (have q_ := HR16; clear q_; go_at_call 34; refine (rkNum HG.out HBV.out HR16.out HX.out.2 1).mono ?_; rintro e y17 ⟨rfl, hr⟩; have HR17 : Hid (SK 26 (FRd gi (.slice ba E bc) V) w y17 q r gi (⟨wrap64 (((numS V (some 0) 8).2 : Nat) : Int), wrap64 (((numS V (q1 V) 8).2 : Nat) : Int), (numS V (q2 V) 4).2, (numS V (q3 V) 4).2, (numS V (q4 V) 4).2, (numS V (q5 V) 4).2, (((numS V (q6 V) 4).2 : Nat) : Int), (((numS V (q7 V) 1).2 : Nat) : Int), 0, [], [], [], 0, 0⟩ : Co) so0 (q9 V)) := hr; clear hr))
        refine HK11.go _ _ ?_
        clear HK11
        refine wp_seq_k (fun K12 hK => ?_)
        have HK12 := Stop.mk hK
        clear hK
        go_wp2_with (first
          | (have q_ := HR18; clear q_; go_at_call 34; refine (rkNum HG.out HBV.out HR18.out HX.out.2 1).mono ?_; rintro e y19 ⟨rfl, hr⟩; have HR19 : Hid (SK 26 (FRd gi (.slice ba E bc) V) w y19 q r gi (⟨wrap64 (((numS V (some 0) 8).2 : Nat) : Int), wrap64 (((numS V (q1 V) 8).2 : Nat) : Int), (numS V (q2 V) 4).2, (numS V (q3 V) 4).2, (numS V (q4 V) 4).2, (numS V (q5 V) 4).2, (((numS V (q6 V) 4).2 : Nat) : Int), (((numS V (q7 V) 1).2 : Nat) : Int), (((numS V (q8 V) 1).2 : Nat) : Int), [], [], [], 0, 0⟩ : Co) so0 (q10 V)) := hr; clear hr))
        refine HK12.go _ _ ?_
        clear HK12
        obtain ⟨N, hN⟩ : ∃ N, N = (numS V (q9 V) 1).2 := ⟨_, rfl⟩
        have HN : Hid (N = nA V ∧ N < 256) := ⟨hN, by rw [hN]; exact numS_u8 HX.out.1 _⟩
        have hN2 := HN.out.2
        rw [← hN]
        clear hN HR0 HR1 HR2 HR3 HR4 HR5 HR6 HR7 HR8 HR9 HR10 HR11 HR12 HR13 HR14 HR15 HR16 HR17 HR18
        refine wp_seq_k (fun K60 hK => ?_)
        have HK60 := Stop.mk hK
        clear hK
        go_wp2
        go_loopg [12] N (fun gm t wr => ∃ (k : Nat) (ad : Option Addr) (n cap : Nat), k ≤ N ∧ gm = N - k ∧ t = .int .i64 (k : Int) ∧ Hid (SK 26 (FRd gi (.slice ba E bc) V) w wr q r gi (⟨wrap64 (((numS V (some 0) 8).2 : Nat) : Int), wrap64 (((numS V (q1 V) 8).2 : Nat) : Int), (numS V (q2 V) 4).2, (numS V (q3 V) 4).2, (numS V (q4 V) 4).2, (numS V (q5 V) 4).2, (((numS V (q6 V) 4).2 : Nat) : Int), (((numS V (q7 V) 1).2 : Nat) : Int), (((numS V (q8 V) 1).2 : Nat) : Int), (adS V (q10 V) k).2, [], [], 0, 0⟩ : Co) { so0 with aA := ad, aN := n, aC := cap } (adS V (q10 V) k).1))
        case atStart => exact ⟨0, none, 0, 0, Nat.zero_le _, rfl, rfl, HR19.out⟩
        case round =>
          obtain ⟨k, ad, n, cap, hk, rfl, rfl, HR⟩ := hrel
          by_cases hlt : k < N
          · have hd : decide ((k : Int) < (N : Int)) = true := decide_eq_true (by omega)
            have HLn : Hid ((adS V (q10 V) k).2.length ≤ 100000) := show _ ≤ _ by rw [adS_len]; omega
            go_wp2_with fail
            obtain ⟨s, hs⟩ : ∃ s : So, s = { so0 with aA := ad, aN := n, aC := cap } := ⟨_, rfl⟩
            obtain ⟨c, hc⟩ : ∃ c : Co, c = (⟨wrap64 (((numS V (some 0) 8).2 : Nat) : Int), wrap64 (((numS V (q1 V) 8).2 : Nat) : Int), (numS V (q2 V) 4).2, (numS V (q3 V) 4).2, (numS V (q4 V) 4).2, (numS V (q5 V) 4).2, (((numS V (q6 V) 4).2 : Nat) : Int), (((numS V (q7 V) 1).2 : Nat) : Int), (((numS V (q8 V) 1).2 : Nat) : Int), (adS V (q10 V) k).2, [], [], 0, 0⟩ : Co) := ⟨_, rfl⟩
            obtain ⟨st, hst⟩ : ∃ st, st = (adS V (q10 V) k).1 := ⟨_, rfl⟩
            rw [← hs, ← hc, ← hst] at HR
            replace HLn : Hid (c.addrs.length ≤ 100000) := show _ ≤ _ by rw [hc]; exact HLn.out
            have HS : Hid (s = { so0 with aA := ad, aN := n, aC := cap } ∧ c = (⟨wrap64 (((numS V (some 0) 8).2 : Nat) : Int), wrap64 (((numS V (q1 V) 8).2 : Nat) : Int), (numS V (q2 V) 4).2, (numS V (q3 V) 4).2, (numS V (q4 V) 4).2, (numS V (q5 V) 4).2, (((numS V (q6 V) 4).2 : Nat) : Int), (((numS V (q7 V) 1).2 : Nat) : Int), (((numS V (q8 V) 1).2 : Nat) : Int), (adS V (q10 V) k).2, [], [], 0, 0⟩ : Co) ∧ st = (adS V (q10 V) k).1) := ⟨hs, hc, hst⟩
            clear hs hc hst
            refine wp_region_W (AdI 26 (FRd gi (.slice ba E bc) V) w q r gi V c s st) (fun t => bif Nat.ble 83 t && Nat.ble t 90 then some (t - 83) else none) 126 rfl (by kernel_rfl) rfl (fun vs => ⟨fun _ => HR.out.grow HF.out (Ext.drew _), fun h => by simp at h, fun h => by simp at h, fun h => by simp at h, fun h => by simp at h, fun h => by simp at h, fun h => by simp at h, fun h => by simp at h, fun h => by simp at h, fun h => by simp at h, fun h => by simp at h, fun h => by simp at h, fun h => by simp at h, fun h => by simp at h, fun h => by simp at h⟩) ?_ ?_
            · refine OwedVs.cons ⟨rfl, ?_⟩ (OwedVs.cons ⟨rfl, ?_⟩ (OwedVs.cons ⟨rfl, ?_⟩ (OwedVs.cons ⟨rfl, ?_⟩ (OwedVs.cons ⟨rfl, ?_⟩ (OwedVs.cons ⟨rfl, ?_⟩ (OwedVs.cons ⟨rfl, ?_⟩ (OwedVs.cons ⟨rfl, ?_⟩ (OwedVs.cons ⟨rfl, ?_⟩ OwedVs.nil))))))))
              · intro L vs wx r_ H hl hL hx
                obtain ⟨h1, _⟩ := hx
                replace h1 : r_ (.tmp 10) = ptr q := h1
                exact give_of (by simp [execOp, h1, ptr, go_sem]; done) ⟨H.A, H.B, H.C, H.S, fun _ => rfl, H.k1, H.k2, H.k3, H.k4, H.k7, H.d4_3, H.d5_3, H.d6_1, H.d6_5, H.d8_6⟩
              · intro L vs wx r_ H hl hL hx
                obtain ⟨h1, _⟩ := hx
                replace h1 : r_ (.tmp 83) = .pointer (some ⟨q, 9, none⟩) := Eq.trans h1 (H.k0 (hL 0 (by kernel_rfl)))
                exact give_of (exec_get oneSA rfl h1 (kv9 (H.A (met_no H.d6_1 hl)).hb)) ⟨H.A, H.B, H.C, H.S, H.k0, fun _ => rfl, H.k2, H.k3, H.k4, H.k7, H.d4_3, H.d5_3, fun _ => rfl, H.d6_5, H.d8_6⟩
              · intro L vs wx r_ H hl hL hx
                obtain ⟨h1, _⟩ := hx
                replace h1 : r_ (.tmp 9) = ptr gi := h1
                exact give_move (.inl rfl) (by rw [h1]; exact ⟨H.A, H.B, H.C, H.S, H.k0, H.k1, fun _ => rfl, H.k3, H.k4, H.k7, H.d4_3, H.d5_3, H.d6_1, H.d6_5, H.d8_6⟩)
              · intro L vs wx r_ H hl hL hx
                obtain ⟨h1, h2, h3, _⟩ := hx
                replace h1 : r_ (.func 34) = .func (.func 34) #[] #[] := h1
                replace h2 : r_ (.tmp 85) = ptr gi := Eq.trans h2 (H.k2 (hL 2 (by kernel_rfl)))
                replace h3 : r_ (.const (.int .i64 4)) = .int .i64 4 := h3
                have h4 : L 4 = false := met_no H.d4_3 hl
                have h5 : L 5 = false := met_no H.d5_3 hl
                have h6 : L 6 = false := met_no H.d6_5 h5
                have h8 : L 8 = false := met_no H.d8_6 h6
                have hA := H.A h6
                rw [hl] at hA
                refine give_func #[ptr gi, .int .i64 4] rfl h1 Tryd.call34 (by simp [h2, h3]) ?_
                refine (rkNum HG.out HBV.out hA HX.out.2 4).mono ?_
                rintro e w' ⟨rfl, hr⟩
                exact ⟨_, rfl, ⟨fun _ => hr, fun h => absurd (h.symm.trans h6) (by decide), fun h => absurd (h.symm.trans h8) (by decide), fun h => absurd (h.symm.trans h5) (by decide), H.k0, H.k1, H.k2, fun _ => rfl, H.k4, H.k7, fun _ => rfl, fun _ => rfl, H.d6_1, H.d6_5, H.d8_6⟩⟩
              · intro L vs wx r_ H hl hL hx
                obtain ⟨h1, _⟩ := hx
                replace h1 : r_ (.tmp 86) = .int .u64 ((numS V st 4).2 : Nat) := Eq.trans h1 (H.k3 (hL 3 (by kernel_rfl)))
                have hw : IntKind.i64.wrap (((numS V st 4).2 : Nat) : Int) = (((numS V st 4).2 : Nat) : Int) := by have := numS_u32 HX.out.1 st; rw [IntKind.wrap_i64]; omega
                exact give_of (by simp [execOp, h1, go_sem, hw]; done) ⟨H.A, H.B, H.C, H.S, H.k0, H.k1, H.k2, H.k3, fun _ => rfl, H.k7, fun _ => hL 3 (by kernel_rfl), H.d5_3, H.d6_1, H.d6_5, H.d8_6⟩
              · intro L vs wx r_ H hl hL hx
                obtain ⟨h1, _⟩ := hx
                replace h1 : r_ (.tmp 87) = .int .i64 ((numS V st 4).2 : Nat) := Eq.trans h1 (H.k4 (hL 4 (by kernel_rfl)))
                have h6 : L 6 = false := met_no H.d6_5 hl
                have h8 : L 8 = false := met_no H.d8_6 h6
                exact give_one_num rfl numTA h1 ⟨fun h => (H.A h).grow HF.out (Ext.alloc _ _), fun h => absurd (h.symm.trans h6) (by decide), fun h => absurd (h.symm.trans h8) (by decide), fun _ _ => NumsAt.one wx _ _ _ rfl, H.k0, H.k1, H.k2, H.k3, H.k4, H.k7, H.d4_3, fun _ => H.d4_3 (hL 4 (by kernel_rfl)), H.d6_1, fun _ => rfl, H.d8_6⟩
              · intro L vs wx r_ H hl hL hx
                obtain ⟨h1, h2, _⟩ := hx
                have hA := H.A hl
                rw [H.d5_3 (hL 5 (by kernel_rfl))] at hA
                have h8 : L 8 = false := met_no H.d8_6 hl
                replace h1 : r_ (.tmp 84) = .slice s.aA s.aN s.aC := Eq.trans h1 (H.k1 (hL 1 (by kernel_rfl)))
                replace h2 : r_ (.tmp 88) = vs 5 := h2
                exact give_app_k HF.out noT hA (H.S (hL 5 (by kernel_rfl)) hl) HLn.out (numS_w4 HX.out.1 _) rfl h1 h2 (fun ad n cap w' hf => ⟨fun h => absurd h (by simp [met1]), fun _ _ => ⟨ad, n, cap, rfl, hf⟩, fun h => absurd (h.symm.trans h8) (by decide), fun _ h => absurd h (by simp [met1]), H.k0, H.k1, H.k2, H.k3, H.k4, H.k7, H.d4_3, H.d5_3, fun _ => hL 1 (by kernel_rfl), fun _ => hL 5 (by kernel_rfl), fun _ => rfl⟩)
              · intro L vs wx r_ H hl hL hx
                obtain ⟨h1, _⟩ := hx
                replace h1 : r_ (.tmp 10) = ptr q := h1
                exact give_of (by simp [execOp, h1, ptr, go_sem]; done) ⟨H.A, H.B, H.C, H.S, H.k0, H.k1, H.k2, H.k3, H.k4, fun _ => rfl, H.d4_3, H.d5_3, H.d6_1, H.d6_5, H.d8_6⟩
              · intro L vs wx r_ H hl hL hx
                obtain ⟨h1, h2, _⟩ := hx
                replace h1 : r_ (.tmp 90) = .pointer (some ⟨q, 9, none⟩) := Eq.trans h1 (H.k7 (hL 7 (by kernel_rfl)))
                obtain ⟨ad, n, cap, e, hf⟩ := H.B (hL 6 (by kernel_rfl)) hl
                replace h2 : r_ (.tmp 89) = .slice ad n cap := Eq.trans h2 e
                exact give_skip (exec_set oneSA rfl h1 h2 rfl rfl hf.hb (show 9 < (KV c s).size from (by decide : 9 < 14))) ⟨fun h => absurd (h.symm.trans (hL 6 (by kernel_rfl))) (by decide), fun _ h => absurd h (by simp [met1]), fun _ => ⟨ad, n, cap, hf.store HF.out noT rfl⟩, fun _ h => absurd (h.symm.trans (hL 6 (by kernel_rfl))) (by decide), H.k0, H.k1, H.k2, H.k3, H.k4, H.k7, H.d4_3, H.d5_3, H.d6_1, H.d6_5, fun _ => hL 6 (by kernel_rfl)⟩
            · intro vs2 a2 wE H ha2
              obtain ⟨ad2, n2, cap2, h2⟩ := H.C rfl
              rw [HS.out.1, HS.out.2.1, HS.out.2.2] at h2
              have HR2 : Hid (SK 26 (FRd gi (.slice ba E bc) V) w wE q r gi (⟨wrap64 (((numS V (some 0) 8).2 : Nat) : Int), wrap64 (((numS V (q1 V) 8).2 : Nat) : Int), (numS V (q2 V) 4).2, (numS V (q3 V) 4).2, (numS V (q4 V) 4).2, (numS V (q5 V) 4).2, (((numS V (q6 V) 4).2 : Nat) : Int), (((numS V (q7 V) 1).2 : Nat) : Int), (((numS V (q8 V) 1).2 : Nat) : Int), (adS V (q10 V) (k + 1)).2, [], [], 0, 0⟩ : Co) { so0 with aA := ad2, aN := n2, aC := cap2 } (adS V (q10 V) (k + 1)).1) := h2
              clear h2 H
              simp only [putAll, Act.put, Nat.zero_add, Nat.reduceAdd, List.setIfInBounds_toArray, List.set_cons_succ, List.set_cons_zero] at ha2
              subst ha2
              go_wp2
              go_roundg (N - (k + 1))
              case measure => omega
              case rel => exact ⟨k + 1, ad2, n2, cap2, by omega, rfl, by simp, HR2.out⟩
          · have hd : decide ((k : Int) < (N : Int)) = false := decide_eq_false (by omega)
            obtain rfl : k = N := by omega
            have hkN := HN.out.1
            subst hkN
            have HT0 : Hid (SK 26 (FRd gi (.slice ba E bc) V) w wr q r gi (⟨wrap64 (((numS V (some 0) 8).2 : Nat) : Int), wrap64 (((numS V (q1 V) 8).2 : Nat) : Int), (numS V (q2 V) 4).2, (numS V (q3 V) 4).2, (numS V (q4 V) 4).2, (numS V (q5 V) 4).2, (((numS V (q6 V) 4).2 : Nat) : Int), (((numS V (q7 V) 1).2 : Nat) : Int), (((numS V (q8 V) 1).2 : Nat) : Int), (adS V (q10 V) (nA V)).2, [], [], 0, 0⟩ : Co) { so0 with aA := ad, aN := n, aC := cap } (q11 V)) := HR.out
            clear HR HR19
            go_wp2
            refine HK60.go _ _ ?_
            clear HK60
            refine wp_seq_k (fun K61 hK => ?_)
            have HK61 := Stop.mk hK
            clear hK
            go_wp2_with (first
              | (have q_ := HT1; clear q_; refine wl_setK HF.out noT HT1.out rfl oneS 10 rfl (by first | rfl | go_simp) (by first | rfl | go_simp) rfl rfl (by decide) (⟨wrap64 (((numS V (some 0) 8).2 : Nat) : Int), wrap64 (((numS V (q1 V) 8).2 : Nat) : Int), (numS V (q2 V) 4).2, (numS V (q3 V) 4).2, (numS V (q4 V) 4).2, (numS V (q5 V) 4).2, (((numS V (q6 V) 4).2 : Nat) : Int), (((numS V (q7 V) 1).2 : Nat) : Int), (((numS V (q8 V) 1).2 : Nat) : Int), (adS V (q10 V) (nA V)).2, (takeS V (q12 V) (nM V)).2, [], 0, 0⟩ : Co) { so0 with aA := ad, aN := n, aC := cap, mA := ma, mN := mn, mC := mc } rfl ⟨HT1.out.own.a, HO1.out, HT1.out.own.p⟩ { HT1.out.fit with made := wrap_w64 _ } ?_; intro y2 hr; have HT2 : Hid (SK 26 (FRd gi (.slice ba E bc) V) w y2 q r gi (⟨wrap64 (((numS V (some 0) 8).2 : Nat) : Int), wrap64 (((numS V (q1 V) 8).2 : Nat) : Int), (numS V (q2 V) 4).2, (numS V (q3 V) 4).2, (numS V (q4 V) 4).2, (numS V (q5 V) 4).2, (((numS V (q6 V) 4).2 : Nat) : Int), (((numS V (q7 V) 1).2 : Nat) : Int), (((numS V (q8 V) 1).2 : Nat) : Int), (adS V (q10 V) (nA V)).2, (takeS V (q12 V) (nM V)).2, [], 0, 0⟩ : Co) { so0 with aA := ad, aN := n, aC := cap, mA := ma, mN := mn, mC := mc } (q13 V)) := hr; clear hr)
              | (have q_ := HT0; clear q_; go_at_call 35; refine (rkText HG.out HBV.out HT0.out HX.out.2).mono ?_; rintro e y1 ⟨ma, mn, mc, rfl, ho1, hr⟩; have HT1 : Hid (SK 26 (FRd gi (.slice ba E bc) V) w y1 q r gi (⟨wrap64 (((numS V (some 0) 8).2 : Nat) : Int), wrap64 (((numS V (q1 V) 8).2 : Nat) : Int), (numS V (q2 V) 4).2, (numS V (q3 V) 4).2, (numS V (q4 V) 4).2, (numS V (q5 V) 4).2, (((numS V (q6 V) 4).2 : Nat) : Int), (((numS V (q7 V) 1).2 : Nat) : Int), (((numS V (q8 V) 1).2 : Nat) : Int), (adS V (q10 V) (nA V)).2, [], [], 0, 0⟩ : Co) { so0 with aA := ad, aN := n, aC := cap } (q13 V)) := hr; clear hr; have HO1 : Hid (OB y1 w.heap.size (.slice ma mn mc) (takeS V (q12 V) (nM V)).2) := ho1; clear ho1))
            refine HK61.go _ _ ?_
            clear HK61
            refine wp_seq_k (fun K62 hK => ?_)
            have HK62 := Stop.mk hK
            clear hK
            go_wp2_with (first
              | (have q_ := HT3; clear q_; refine wl_setK HF.out noT HT3.out rfl oneS 11 rfl (by first | rfl | go_simp) (by first | rfl | go_simp) rfl rfl (by decide) (⟨wrap64 (((numS V (some 0) 8).2 : Nat) : Int), wrap64 (((numS V (q1 V) 8).2 : Nat) : Int), (numS V (q2 V) 4).2, (numS V (q3 V) 4).2, (numS V (q4 V) 4).2, (numS V (q5 V) 4).2, (((numS V (q6 V) 4).2 : Nat) : Int), (((numS V (q7 V) 1).2 : Nat) : Int), (((numS V (q8 V) 1).2 : Nat) : Int), (adS V (q10 V) (nA V)).2, (takeS V (q12 V) (nM V)).2, (takeS V (q14 V) (nP V)).2, 0, 0⟩ : Co) { so0 with aA := ad, aN := n, aC := cap, mA := ma, mN := mn, mC := mc, pA := pa, pN := pn, pC := pc } rfl ⟨HT3.out.own.a, HT3.out.own.m, HO3.out⟩ { HT3.out.fit with made := wrap_w64 _ } ?_; intro y4 hr; have HT4 : Hid (SK 26 (FRd gi (.slice ba E bc) V) w y4 q r gi (⟨wrap64 (((numS V (some 0) 8).2 : Nat) : Int), wrap64 (((numS V (q1 V) 8).2 : Nat) : Int), (numS V (q2 V) 4).2, (numS V (q3 V) 4).2, (numS V (q4 V) 4).2, (numS V (q5 V) 4).2, (((numS V (q6 V) 4).2 : Nat) : Int), (((numS V (q7 V) 1).2 : Nat) : Int), (((numS V (q8 V) 1).2 : Nat) : Int), (adS V (q10 V) (nA V)).2, (takeS V (q12 V) (nM V)).2, (takeS V (q14 V) (nP V)).2, 0, 0⟩ : Co) { so0 with aA := ad, aN := n, aC := cap, mA := ma, mN := mn, mC := mc, pA := pa, pN := pn, pC := pc } (q15 V)) := hr; clear hr)
              | (have q_ := HT2; clear q_; go_at_call 35; refine (rkText HG.out HBV.out HT2.out HX.out.2).mono ?_; rintro e y3 ⟨pa, pn, pc, rfl, ho3, hr⟩; have HT3 : Hid (SK 26 (FRd gi (.slice ba E bc) V) w y3 q r gi (⟨wrap64 (((numS V (some 0) 8).2 : Nat) : Int), wrap64 (((numS V (q1 V) 8).2 : Nat) : Int), (numS V (q2 V) 4).2, (numS V (q3 V) 4).2, (numS V (q4 V) 4).2, (numS V (q5 V) 4).2, (((numS V (q6 V) 4).2 : Nat) : Int), (((numS V (q7 V) 1).2 : Nat) : Int), (((numS V (q8 V) 1).2 : Nat) : Int), (adS V (q10 V) (nA V)).2, (takeS V (q12 V) (nM V)).2, [], 0, 0⟩ : Co) { so0 with aA := ad, aN := n, aC := cap, mA := ma, mN := mn, mC := mc } (q15 V)) := hr; clear hr; have HO3 : Hid (OB y3 w.heap.size (.slice pa pn pc) (takeS V (q14 V) (nP V)).2) := ho3; clear ho3))
            refine HK62.go _ _ ?_
            clear HK62
            refine wp_seq_k (fun K63 hK => ?_)
            have HK63 := Stop.mk hK
            clear hK
            go_wp2_with (first
              | (have q_ := HT5; clear q_; refine wl_setK HF.out noT HT5.out rfl one22 12 rfl (by first | rfl | go_simp) (by first | rfl | go_simp) rfl rfl (by decide) (⟨wrap64 (((numS V (some 0) 8).2 : Nat) : Int), wrap64 (((numS V (q1 V) 8).2 : Nat) : Int), (numS V (q2 V) 4).2, (numS V (q3 V) 4).2, (numS V (q4 V) 4).2, (numS V (q5 V) 4).2, (((numS V (q6 V) 4).2 : Nat) : Int), (((numS V (q7 V) 1).2 : Nat) : Int), (((numS V (q8 V) 1).2 : Nat) : Int), (adS V (q10 V) (nA V)).2, (takeS V (q12 V) (nM V)).2, (takeS V (q14 V) (nP V)).2, (numS V (q15 V) 4).2, 0⟩ : Co) { so0 with aA := ad, aN := n, aC := cap, mA := ma, mN := mn, mC := mc, pA := pa, pN := pn, pC := pc } rfl ⟨HT5.out.own.a, HT5.out.own.m, HT5.out.own.p⟩ { HT5.out.fit with tm := numS_u32 HX.out.1 _ } ?_; intro y6 hr; have HT6 : Hid (SK 26 (FRd gi (.slice ba E bc) V) w y6 q r gi (⟨wrap64 (((numS V (some 0) 8).2 : Nat) : Int), wrap64 (((numS V (q1 V) 8).2 : Nat) : Int), (numS V (q2 V) 4).2, (numS V (q3 V) 4).2, (numS V (q4 V) 4).2, (numS V (q5 V) 4).2, (((numS V (q6 V) 4).2 : Nat) : Int), (((numS V (q7 V) 1).2 : Nat) : Int), (((numS V (q8 V) 1).2 : Nat) : Int), (adS V (q10 V) (nA V)).2, (takeS V (q12 V) (nM V)).2, (takeS V (q14 V) (nP V)).2, (numS V (q15 V) 4).2, 0⟩ : Co) { so0 with aA := ad, aN := n, aC := cap, mA := ma, mN := mn, mC := mc, pA := pa, pN := pn, pC := pc } (q16 V)) := hr; clear hr)
              | (have q_ := HT4; clear q_; go_at_call 34; refine (rkNum HG.out HBV.out HT4.out HX.out.2 4).mono ?_; rintro e y5 ⟨rfl, hr⟩; have HT5 : Hid (SK 26 (FRd gi (.slice ba E bc) V) w y5 q r gi (⟨wrap64 (((numS V (some 0) 8).2 : Nat) : Int), wrap64 (((numS V (q1 V) 8).2 : Nat) : Int), (numS V (q2 V) 4).2, (numS V (q3 V) 4).2, (numS V (q4 V) 4).2, (numS V (q5 V) 4).2, (((numS V (q6 V) 4).2 : Nat) : Int), (((numS V (q7 V) 1).2 : Nat) : Int), (((numS V (q8 V) 1).2 : Nat) : Int), (adS V (q10 V) (nA V)).2, (takeS V (q12 V) (nM V)).2, (takeS V (q14 V) (nP V)).2, 0, 0⟩ : Co) { so0 with aA := ad, aN := n, aC := cap, mA := ma, mN := mn, mC := mc, pA := pa, pN := pn, pC := pc } (q16 V)) := hr; clear hr))
            refine HK63.go _ _ ?_
            clear HK63
            refine wp_seq_k (fun K64 hK => ?_)
            have HK64 := Stop.mk hK
            clear hK
            go_wp2_with (first
              | (have q_ := HT7; clear q_; refine wl_setK HF.out noT HT7.out rfl one22 13 rfl (by first | rfl | go_simp) (by first | rfl | go_simp) rfl rfl (by decide) (⟨wrap64 (((numS V (some 0) 8).2 : Nat) : Int), wrap64 (((numS V (q1 V) 8).2 : Nat) : Int), (numS V (q2 V) 4).2, (numS V (q3 V) 4).2, (numS V (q4 V) 4).2, (numS V (q5 V) 4).2, (((numS V (q6 V) 4).2 : Nat) : Int), (((numS V (q7 V) 1).2 : Nat) : Int), (((numS V (q8 V) 1).2 : Nat) : Int), (adS V (q10 V) (nA V)).2, (takeS V (q12 V) (nM V)).2, (takeS V (q14 V) (nP V)).2, (numS V (q15 V) 4).2, (numS V (q16 V) 4).2⟩ : Co) { so0 with aA := ad, aN := n, aC := cap, mA := ma, mN := mn, mC := mc, pA := pa, pN := pn, pC := pc } rfl ⟨HT7.out.own.a, HT7.out.own.m, HT7.out.own.p⟩ { HT7.out.fit with tp := numS_u32 HX.out.1 _ } ?_; intro y8 hr; have HT8 : Hid (SK 26 (FRd gi (.slice ba E bc) V) w y8 q r gi (⟨wrap64 (((numS V (some 0) 8).2 : Nat) : Int), wrap64 (((numS V (q1 V) 8).2 : Nat) : Int), (numS V (q2 V) 4).2, (numS V (q3 V) 4).2, (numS V (q4 V) 4).2, (numS V (q5 V) 4).2, (((numS V (q6 V) 4).2 : Nat) : Int), (((numS V (q7 V) 1).2 : Nat) : Int), (((numS V (q8 V) 1).2 : Nat) : Int), (adS V (q10 V) (nA V)).2, (takeS V (q12 V) (nM V)).2, (takeS V (q14 V) (nP V)).2, (numS V (q15 V) 4).2, (numS V (q16 V) 4).2⟩ : Co) { so0 with aA := ad, aN := n, aC := cap, mA := ma, mN := mn, mC := mc, pA := pa, pN := pn, pC := pc } (q17 V)) := hr; clear hr)
              | (have q_ := HT6; clear q_; go_at_call 34; refine (rkNum HG.out HBV.out HT6.out HX.out.2 4).mono ?_; rintro e y7 ⟨rfl, hr⟩; have HT7 : Hid (SK 26 (FRd gi (.slice ba E bc) V) w y7 q r gi (⟨wrap64 (((numS V (some 0) 8).2 : Nat) : Int), wrap64 (((numS V (q1 V) 8).2 : Nat) : Int), (numS V (q2 V) 4).2, (numS V (q3 V) 4).2, (numS V (q4 V) 4).2, (numS V (q5 V) 4).2, (((numS V (q6 V) 4).2 : Nat) : Int), (((numS V (q7 V) 1).2 : Nat) : Int), (((numS V (q8 V) 1).2 : Nat) : Int), (adS V (q10 V) (nA V)).2, (takeS V (q12 V) (nM V)).2, (takeS V (q14 V) (nP V)).2, (numS V (q15 V) 4).2, 0⟩ : Co) { so0 with aA := ad, aN := n, aC := cap, mA := ma, mN := mn, mC := mc, pA := pa, pN := pn, pC := pc } (q17 V)) := hr; clear hr))
            refine HK64.go _ _ ?_
            clear HK64
            obtain ⟨s9, hs9⟩ : ∃ s : So, s = { so0 with aA := ad, aN := n, aC := cap, mA := ma, mN := mn, mC := mc, pA := pa, pN := pn, pC := pc } := ⟨_, rfl⟩
            have HS9 : Hid (SK 26 (FRd gi (.slice ba E bc) V) w y8 q r gi (readK V) s9 (q17 V)) := by rw [hs9]; exact HT8.out
            clear hs9 HT0 HT1 HT2 HT3 HT4 HT5 HT6 HT7 HT8 HO1 HO3
            obtain ⟨ra, rb, hrb, hra, hrst⟩ := HS9.out.hi
            have HRV : Hid (RefV (.agg #[.slice ba E bc, .int .i64 (ra : Int), .bool rb]) (.slice ba E bc) V (q17 V)) := ⟨ra, rb, rfl, hra, hrst⟩
            have HBg : Hid (Blk y8 gi #[.slice ba E bc, .int .i64 (ra : Int), .bool rb] 78) := hrb
            clear hra hrst hrb
            have HQB : Hid (BytesAt y8 (.slice ba E bc) V) := HBV.out.ext HS9.out.ext
            have HLE : Hid (w.heap.size ≤ r) := by rw [HRQ.out]; exact Nat.le_refl _
            cases hen : endK V with
            | false =>
              have HOE : Hid (openE K B now = 2) := show _ = _ by rw [HO.out, if_pos hen]
              go_wp2_with (first
                | (go_at_call 36; refine (refEnd_any HRV.out HQB.out HX.out.2).mono ?_; rintro e w20 ⟨rfl, he20⟩; rw [show endS V (q17 V) = endK V from rfl, hen])
                | (have q_ := he20; clear q_; refine wl_store (D := KV co0 so0) rfl rowC2 rfl rfl rfl (HS9.out.res.ext he20) rfl rfl (KV.one _ _) ?_; intro w22 hb22 hk22 hx22; clear hx22)
                | (refine wl_buildC rfl rfl (vals := []) rfl builtZ2 ?_)
                | (refine wl_load rfl rowI rfl rfl HBg.out rfl ?_))
              refine bodyPost_ret (res_two9 (fn := Tryd.f18) (p := 6) (u := 7) rfl _ _ rfl rfl hb22 Tryd.underlying26 (by kernel_rfl)) rfl ?_
              exact OpenRIs.err ((HS9.out.ext.trans he20).of_but hk22 (fun k e => by subst e; exact HLE.out)) HOE.out (by decide)
            | true =>
              cases hgd : goodK (readK V) with
              | false =>
                have HOE : Hid (openE K B now = 2) := show _ = _ by rw [HO.out, if_neg (by rw [hen]; decide), if_pos hgd]
                go_wp2_with (first
                  | (have q_ := he20; clear q_; go_at_call 11; refine (refGood_any (HS9.out.own.at.ext he20)).mono ?_; rintro e w21 ⟨rfl, he21⟩; rw [hgd]; clear c0 c1 c2 c3 c4 c5 c6 c7 c8 c9 c10 c11 c12 c13)
                  | (go_at_call 36; refine (refEnd_any HRV.out HQB.out HX.out.2).mono ?_; rintro e w20 ⟨rfl, he20⟩; rw [show endS V (q17 V) = endK V from rfl, hen]; have c0 := kv0 (HS9.out.hb.ext he20); have c1 := kv1 (HS9.out.hb.ext he20); have c2 := kv2 (HS9.out.hb.ext he20); have c3 := kv3 (HS9.out.hb.ext he20); have c4 := kv4 (HS9.out.hb.ext he20); have c5 := kv5 (HS9.out.hb.ext he20); have c6 := kv6 (HS9.out.hb.ext he20); have c7 := kv7 (HS9.out.hb.ext he20); have c8 := kv8 (HS9.out.hb.ext he20); have c9 := kv9 (HS9.out.hb.ext he20); have c10 := kv10 (HS9.out.hb.ext he20); have c11 := kv11 (HS9.out.hb.ext he20); have c12 := kv12 (HS9.out.hb.ext he20); have c13 := kv13 (HS9.out.hb.ext he20))
                  | (have q_ := he21; clear q_; refine wl_store (D := KV co0 so0) rfl rowC2 rfl rfl rfl (HS9.out.res.ext (he20.trans he21)) rfl rfl (KV.one _ _) ?_; intro w22 hb22 hk22 hx22; clear hx22)
                  | (refine wl_buildC rfl rfl (vals := []) rfl builtZ2 ?_)
                  | (refine wl_load rfl rowI rfl rfl HBg.out rfl ?_))
                refine bodyPost_ret (res_two9 (fn := Tryd.f18) (p := 6) (u := 7) rfl _ _ rfl rfl hb22 Tryd.underlying26 (by kernel_rfl)) rfl ?_
                exact OpenRIs.err ((HS9.out.ext.trans (he20.trans he21)).of_but hk22 (fun k e => by subst e; exact HLE.out)) HOE.out (by decide)
              | true =>
                have hlf := late_facts hgd
                have hlp := late_pos (now := now) hgd
                obtain ⟨M, hM⟩ : ∃ M, M = (readK V).made := ⟨_, rfl⟩
                obtain ⟨L, hL⟩ : ∃ L, L = (readK V).life := ⟨_, rfl⟩
                rw [← hM, ← hL] at hlf hlp
                have CM : ∀ {wx : World}, Blk wx q (KV (readK V) s9) 26 → wx.cell? ⟨q, 0, none⟩ = some (.int .i64 M) ∧ wx.cell? ⟨q, 1, none⟩ = some (.int .i64 L) := fun h => by rw [hM, hL]; exact ⟨kv0 h, kv1 h⟩
                obtain ⟨S, hS⟩ : ∃ S, S = M + L := ⟨_, rfl⟩
                rw [← hS] at hlf hlp
                have hMS : M + L = S := hS.symm
                have hw1 : IntKind.i64.wrap (M + L) = S := by rw [hMS]; exact hlf.1
                have hw1b := hlf.2.1
                have hw1c := hlf.2.2
                have HLP : Hid (0 < lateK (readK V) now ↔ S < now) := hlp
                clear hM hL hS hlf hlp
                by_cases hlt : S < now
                · have hd : decide (now > S) = true := decide_eq_true hlt
                  have hd2 : decide (S < now) = true := decide_eq_true hlt
                  have HOE : Hid (openE K B now = 8) := show _ = _ by rw [HO.out, if_neg (by rw [hen]; decide), if_neg (by rw [hgd]; decide), if_pos (HLP.out.2 hlt)]
                  go_wp2_with (first
                    | (have q_ := he20; clear q_; go_at_call 11; refine (refGood_any (HS9.out.own.at.ext he20)).mono ?_; rintro e w21 ⟨rfl, he21⟩; rw [hgd]; clear c0 c1 c2 c3 c4 c5 c6 c7 c8 c9 c10 c11 c12 c13; have x0 := (CM ((HS9.out.hb.ext he20).ext he21)).1; have x1 := (CM ((HS9.out.hb.ext he20).ext he21)).2)
                    | (go_at_call 36; refine (refEnd_any HRV.out HQB.out HX.out.2).mono ?_; rintro e w20 ⟨rfl, he20⟩; rw [show endS V (q17 V) = endK V from rfl, hen]; have c0 := kv0 (HS9.out.hb.ext he20); have c1 := kv1 (HS9.out.hb.ext he20); have c2 := kv2 (HS9.out.hb.ext he20); have c3 := kv3 (HS9.out.hb.ext he20); have c4 := kv4 (HS9.out.hb.ext he20); have c5 := kv5 (HS9.out.hb.ext he20); have c6 := kv6 (HS9.out.hb.ext he20); have c7 := kv7 (HS9.out.hb.ext he20); have c8 := kv8 (HS9.out.hb.ext he20); have c9 := kv9 (HS9.out.hb.ext he20); have c10 := kv10 (HS9.out.hb.ext he20); have c11 := kv11 (HS9.out.hb.ext he20); have c12 := kv12 (HS9.out.hb.ext he20); have c13 := kv13 (HS9.out.hb.ext he20))
                    | (have q_ := he21; clear q_; refine wl_store (D := KV co0 so0) rfl rowC2 rfl rfl rfl (HS9.out.res.ext (he20.trans he21)) rfl rfl (KV.one _ _) ?_; intro w22 hb22 hk22 hx22; clear hx22)
                    | (refine wl_buildC rfl rfl (vals := []) rfl builtZ2 ?_)
                    | (refine wl_load rfl rowI rfl rfl HBg.out rfl ?_))
                  refine bodyPost_ret (res_two9 (fn := Tryd.f18) (p := 6) (u := 7) rfl _ _ rfl rfl hb22 Tryd.underlying26 (by kernel_rfl)) rfl ?_
                  exact OpenRIs.err ((HS9.out.ext.trans (he20.trans he21)).of_but hk22 (fun k e => by subst e; exact HLE.out)) HOE.out (by decide)
                · have hd : decide (now > S) = false := decide_eq_false hlt
                  have hd2 : decide (S < now) = false := decide_eq_false hlt
                  have HOE : Hid (openE K B now = 0) := show _ = _ by rw [HO.out, if_neg (by rw [hen]; decide), if_neg (by rw [hgd]; decide), if_neg (fun h => hlt (HLP.out.1 h))]
                  go_wp2_with (first
                    | (have q_ := he21; clear q_; refine wl_load rfl rowC2 rfl rfl ((HS9.out.hb.ext he20).ext he21) rfl ?_)
                    | (have q_ := he20; clear q_; go_at_call 11; refine (refGood_any (HS9.out.own.at.ext he20)).mono ?_; rintro e w21 ⟨rfl, he21⟩; rw [hgd]; clear c0 c1 c2 c3 c4 c5 c6 c7 c8 c9 c10 c11 c12 c13; have x0 := (CM ((HS9.out.hb.ext he20).ext he21)).1; have x1 := (CM ((HS9.out.hb.ext he20).ext he21)).2)
                    | (go_at_call 36; refine (refEnd_any HRV.out HQB.out HX.out.2).mono ?_; rintro e w20 ⟨rfl, he20⟩; rw [show endS V (q17 V) = endK V from rfl, hen]; have c0 := kv0 (HS9.out.hb.ext he20); have c1 := kv1 (HS9.out.hb.ext he20); have c2 := kv2 (HS9.out.hb.ext he20); have c3 := kv3 (HS9.out.hb.ext he20); have c4 := kv4 (HS9.out.hb.ext he20); have c5 := kv5 (HS9.out.hb.ext he20); have c6 := kv6 (HS9.out.hb.ext he20); have c7 := kv7 (HS9.out.hb.ext he20); have c8 := kv8 (HS9.out.hb.ext he20); have c9 := kv9 (HS9.out.hb.ext he20); have c10 := kv10 (HS9.out.hb.ext he20); have c11 := kv11 (HS9.out.hb.ext he20); have c12 := kv12 (HS9.out.hb.ext he20); have c13 := kv13 (HS9.out.hb.ext he20))
                    | (have q_ := he21; clear q_; refine wl_store (D := KV (readK V) s9) rfl rowC2 rfl rfl rfl (HS9.out.res.ext (he20.trans he21)) rfl rfl (KV.one _ _) ?_; intro w22 hb22 hk22 hx22; clear hx22)
                    | (refine wl_load rfl rowI rfl rfl HBg.out rfl ?_))
                  refine bodyPost_ret (res_two9 (fn := Tryd.f18) (p := 6) (u := 7) rfl _ _ rfl rfl hb22 Tryd.underlying26 (by kernel_rfl)) rfl ?_
                  refine ⟨((HS9.out.ext.trans (he20.trans he21)).of_but hk22 (fun k e => by subst e; exact HLE.out)), s9, ?_, ?_⟩
                  · rw [openC_yes HOE.out, HOE.out, ← HYB.out]; rfl
                  · rw [openC_yes HOE.out, ← HYB.out]
                    exact ((HS9.out.own.ext he20).ext he21).but hk22 (HS9.out.res.ext (he20.trans he21)) noKR9
end Tlv
end Go.Proofs.YtfhoielfekeihaaDoor

/- One byte of the own stored. No condition of its own. -/
namespace Go.Proofs.YtfhoielfekeihaaDoor
namespace Tlv
open Go Go.RowKit
set_option linter.unusedVariables false
set_option linter.unusedSimpArgs false
set_option maxRecDepth 100000
/-- One byte of the own stored. -/
theorem wl_poke {w : World} {ops : Array Oper} {rest : List Oper} {o : Oper} {a : Act} {Q : Exit → Act → World → Prop} (hgd : o.guard = none) {x y : Operand} {base q j n c z : Nat} {m : List Nat} (ho : o.op = .store 5 x y) (hx : a.eval x = .pointer (some ⟨q, j, none⟩)) (hy : a.eval y = .int .u8 (z : Int)) (hz : z < 256) (hm : OB w base (.slice (some ⟨q, 0, none⟩) n c) m) (hj : j < m.length)
    (h : ∀ w', OB w' base (.slice (some ⟨q, 0, none⟩) n c) (m.set j z) → KeepBut (· = q) w w' → wpList Tryd.prog ops Q rest (a.put o.dst undef) w') : wpList Tryd.prog ops Q (o :: rest) a w := by
  obtain ⟨h1, h2⟩ := hm.own.stored j (z : Int)
  rcases hm.own.1.2 with ⟨e1, _⟩ | ⟨g', cap, cur, e1, hb, hg, hnc, hcm, hcs, _⟩
  · cases e1
  · simp only [Value.slice.injEq, Option.some.injEq, Addr.mk.injEq, and_true] at e1
    obtain ⟨rfl, e2, rfl⟩ := e1
    rw [ci_len] at hnc
    refine wpList_of_skip hgd (exec_set one5 ho hx hy rfl rfl (C := cur) (T := 5) hg (by rw [hcs]; omega)) (h _ ⟨?_, ?_⟩ ⟨h2.os, h2.tape, h2.output, h2.size, fun k hk hn => h2.block k hk (by simpa using hn)⟩)
    · have : ci (m.set j z) = (ci m).set j (z : Int) := by simp [ci, List.map_set]
      rw [this]; exact h1
    · intro x hx
      rcases List.mem_or_eq_of_mem_set hx with h' | h'
      · exact hm.all x h'
      · omega
theorem OB.some_of {w : World} {base : Nat} {a : Option Addr} {n c : Nat} {l : List Nat} (h : OB w base (.slice a n c) l) (hn : 0 < n) : ∃ q, a = some ⟨q, 0, none⟩ ∧ n = l.length := by
  obtain ⟨a', c', e⟩ := h.form
  simp only [Value.slice.injEq] at e
  obtain ⟨x, y, e2, h1, h2⟩ := h.own.slice
  simp only [Value.slice.injEq] at e2
  obtain ⟨rfl, e3, rfl⟩ := e2
  cases ha : a with
  | none =>
    have := (h1 ha).1
    rw [e3, this] at hn
    simp at hn
  | some z =>
    obtain ⟨q, rfl, _⟩ := h2 z ha
    exact ⟨q, rfl, e.2.1⟩
theorem OB.cellAt {w : World} {base q n c : Nat} {l : List Nat} (h : OB w base (.slice (some ⟨q, 0, none⟩) n c) l) (j : Nat) (hj : j < l.length) : w.cell? ⟨q, j, none⟩ = some (.int .u8 (l.getD j 0 : Nat)) := by
  obtain ⟨_, _, e, _, hc⟩ := h.bytes.form
  obtain ⟨b, off, e2, hc'⟩ := hc j hj
  simp only [Value.slice.injEq] at e
  rw [← e.1] at e2
  cases e2
  simpa using hc'
theorem plus8 (b : Nat) (h : b < 256) : ∃ z : Nat, z < 256 ∧ IntKind.u8.wrap ((b : Int) + 1) = (z : Int) ∧ ((b : Int) + 1) % 256 = (z : Int) := by
  refine ⟨(b + 1) % 256, by omega, ?_, by omega⟩
  rw [IntKind.wrap_u8]; omega
end Tlv
end Go.Proofs.YtfhoielfekeihaaDoor

/- The law's fixed fact: the chapter's example. Condition: the tables hold what the text lays. -/
namespace Go.Proofs.YtfhoielfekeihaaDoor
namespace Tlv
open Go Go.RowKit
set_option linter.unusedVariables false
set_option linter.unusedSimpArgs false
set_option maxRecDepth 100000


theorem is_anyE (n m : Int) (w : World) : Calls Tryd.prog 14 #[errV n, .int .i64 m] w fun e w' => e = .returned (.bool (n == m)) ∧ Ext w w' := by
  refine (is_any n m w).mono ?_
  rintro e w' ⟨rfl, hw⟩
  exact ⟨rfl, by rw [hw]; exact Ext.refl _⟩
theorem make_good {w : World} {kv : Value} {K : List Nat} {c : Co} {s : So} (hT : Tabs w) (hk : BytesAt w kv K) (hK : K.length ≤ 90000) (ha : CoAt w s c) (hf : FitC c) (hg : goodK c = true) :
    Calls Tryd.prog 10 #[kv, .agg (KV c s)] w fun e w' => Ext w w' ∧ ∃ a n cp, e = .returned (.tuple #[.slice a n cp, .nilIface]) ∧ n = (makeK K c).length ∧ OB w' w.heap.size (.slice a n cp) (makeK K c) := by
  refine (make_any hT hk hK ha hf).mono ?_
  rintro e w' ⟨he, ⟨h, _⟩ | ⟨_, h⟩⟩
  · rw [hg] at h; cases h
  · exact ⟨he, h⟩
theorem make_bad {w : World} {kv : Value} {K : List Nat} {c : Co} {s : So} (hT : Tabs w) (hk : BytesAt w kv K) (hK : K.length ≤ 90000) (ha : CoAt w s c) (hf : FitC c) (hg : goodK c = false) :
    Calls Tryd.prog 10 #[kv, .agg (KV c s)] w fun e w' => e = .returned (.tuple #[.slice none 0 0, errF]) ∧ Ext w w' := by
  refine (make_any hT hk hK ha hf).mono ?_
  rintro e w' ⟨he, ⟨_, h⟩ | ⟨h, _⟩⟩
  · exact ⟨h, he⟩
  · rw [hg] at h; cases h
theorem body_make (K : List Nat) (c : Co) : bodyB (makeK K c) = laidK c ∧ sealB (makeK K c) = Mac.tag K (laidK c) := by
  unfold bodyB sealB
  rw [makeK_len, Nat.add_sub_cancel]
  exact ⟨List.take_left' rfl, List.drop_left' rfl⟩
/-- What was made is opened. -/
theorem open_made {K : List Nat} {c : Co} {now : Int} (hg : goodK c = true) (hf : FitC c) : openE K (makeK K c) now = (if 0 < lateK c now then 8 else 0) ∧ readK (bodyB (makeK K c)) = c := by
  have h1 := body_make K c
  have h2 := read_laid hg hf
  have h3 : ¬ (makeK K c).length < 32 := by rw [makeK_len]; omega
  rw [openE_in h3 (by rw [h1.1, h1.2]), h1.1, h2.1, h2.2, hg]
  exact ⟨rfl, rfl⟩
def coA : Co := ⟨5, 10, 1, 2, 0, 0, 0, 1, 1, [3], [1], [2], 0, 0⟩
theorem goodA : goodK coA = true := by decide
theorem fitA : FitC coA := ⟨by decide, by decide, by decide, by decide, by decide, by decide, by decide, by decide, by decide, by decide, by decide, by decide⟩
theorem builtA (a b c : Nat) : Tryd.prog.built 29 [(0, .int .i64 5), (1, .int .i64 10), (2, .int .u32 1), (3, .int .u32 2), (7, .int .i64 1), (8, .int .i64 1), (9, .slice (some ⟨a, 0, none⟩) 1 1), (10, .slice (some ⟨b, 0, none⟩) 1 1), (11, .slice (some ⟨c, 0, none⟩) 1 1)] = some (KV coA ⟨some ⟨a, 0, none⟩, 1, 1, some ⟨b, 0, none⟩, 1, 1, some ⟨c, 0, none⟩, 1, 1⟩) := by kernel_rfl
set_option maxHeartbeats 8000000 in
theorem alive_any (w : World) (hT : Tabs w) : Calls Tryd.prog 7 #[] w fun e w' => e = .returned (.bool true) ∧ Ext w w' := by
  have HT : Hid (Tabs w) := hT
  clear hT
  obtain ⟨B, hB⟩ : ∃ B, B = makeK [115] coA := ⟨_, rfl⟩
  have HB : Hid (B = makeK [115] coA ∧ B.length ≤ 300 ∧ openE [115] B 15 = 0 ∧ openE [115] B 16 = 8) := ⟨hB, by rw [hB, makeK_len]; have := laidK_le goodA; omega, by rw [hB, (open_made goodA fitA).1]; decide, by rw [hB, (open_made goodA fitA).1]; decide⟩
  clear hB
  go_enter Tryd.func7, Tryd.ntmps7
  refine wp_seq_k (fun K0 hK => ?_)
  have HK0 := Stop.mk hK
  clear hK
  go_wp2
  refine HK0.go _ _ ?_
  clear HK0
  refine wp_seq_k (fun K1 hK => ?_)
  have HK1 := Stop.mk hK
  clear hK
  go_wp2_with (first
    | (refine stop_at 3 rfl ?_)
    | fail)
  refine ⟨?_⟩
  obtain ⟨sA, hsA⟩ : ∃ s : So, s = ⟨some ⟨w.heap.size, 0, none⟩, 1, 1, some ⟨w.heap.size + 1, 0, none⟩, 1, 1, some ⟨w.heap.size + 1 + 1, 0, none⟩, 1, 1⟩ := ⟨_, rfl⟩
  obtain ⟨w1, hw1⟩ : ∃ x, x = ((w.alloc (.cells #[.int .i64 3] 54)).alloc (.cells #[.int .u8 1] 5)).alloc (.cells #[.int .u8 2] 5) := ⟨_, rfl⟩
  have HA1 : Hid (CoAt w1 sA coA ∧ Ext w w1) := by
    subst hsA hw1
    refine ⟨⟨?_, ?_, ?_⟩, ((Ext.alloc _ _).trans (Ext.alloc _ _)).trans (Ext.alloc _ _)⟩
    · exact (NumsAt.one w 3 54 _ rfl).ext ((Ext.alloc _ _).trans (Ext.alloc _ _))
    · exact BytesAt.ext (bytes_of_nums (l := [1]) (NumsAt.one (w.alloc (.cells #[.int .i64 3] 54)) 1 5 _ (by simp)) (fun x hx => by simp at hx; omega)) (Ext.alloc _ _)
    · exact bytes_of_nums (l := [2]) (NumsAt.one ((w.alloc (.cells #[.int .i64 3] 54)).alloc (.cells #[.int .u8 1] 5)) 2 5 _ (by simp)) (fun x hx => by simp at hx; omega)
  rw [← hw1]
  clear hw1
  refine wl_buildC rfl rfl ?hv (builtA w.heap.size (w.heap.size + 1) (w.heap.size + 1 + 1)) ?hk
  case hv => first | kernel_rfl | (simp only [List.map_toArray, List.map_cons, List.map_nil]; rfl)
  rw [← hsA]
  clear hsA
  simp only [Act.put, List.setIfInBounds_toArray, List.set_cons_succ, List.set_cons_zero]
  go_wp2_with (first
    | (have q := hb2; clear q; refine wl_store (D := KV coA sA) rfl rowC rfl rfl rfl hb2 rfl rfl (KV.one _ _) ?_; intro w3 hb3 hk3 hx; clear hx)
    | (refine wl_alloc rfl rfl zeroC ?_; intro w2 hb2 he2 hx; clear hx))
  refine HK1.go _ _ ?_
  clear HK1
  have he3 := he2.of_but hk3 (fun k e => by subst e; exact Nat.le_refl _)
  have HA3 : Hid (CoAt w3 sA coA ∧ Ext w w3) := ⟨HA1.out.1.ext he3, HA1.out.2.trans he3⟩
  have HB3 : Hid (Blk w3 w1.heap.size (KV coA sA) 29) := hb3
  clear hb2 hk3 he2 he3 HA1 hb3
  obtain ⟨q, hq⟩ : ∃ q, q = w1.heap.size := ⟨_, rfl⟩
  rw [← hq] at HB3
  rw [← hq]
  clear hq
  refine wp_seq_k (fun K2 hK => ?_)
  have HK2 := Stop.mk hK
  clear hK
  go_wp2_with (first
    | (go_at_call 10; refine (make_good (HT.out.ext (HA3.out.2.trans hec)) hvc (by simp) (HA3.out.1.ext hec) fitA goodA).mono ?_; rintro e w4 ⟨he4', a4, n4, c4, rfl, hn4, ho4⟩; clear hn4; have he4 := hec.trans he4'; clear he4' hvc hec; rw [← HB.out.1] at ho4)
    | (refine wl_load rfl rowC rfl rfl (HB3.out.ext hec) rfl ?_)
    | (refine wl_conv [115] rfl rfl rfl (by simp) rfl rfl rfl (by intro x hx; simp at hx; omega) (by simp) ?_; intro wc3 hvc hec hx; clear hx))
  refine HK2.go _ _ ?_
  clear HK2
  have HO4 : Hid (BytesAt w4 (.slice a4 n4 c4) B ∧ Ext w w4 ∧ Ext w3 w4) := ⟨ho4.bytes, HA3.out.2.trans he4, he4⟩
  clear ho4 he4
  refine wp_seq_k (fun K3 hK => ?_)
  have HK3 := Stop.mk hK
  clear hK
  go_wp2_with (first
    | (have q := he5; clear q; refine wl_alloc rfl rfl zeroC ?_; intro w6a hb6a he6a hx; clear hx; refine wl_store (D := KV (openC [115] B 15) s5) rfl rowC rfl rfl rfl hb6a rfl rfl (KV.one _ _) ?_; intro w6b hb6b hk6b hx; clear hx; have he6b := he6a.of_but hk6b (fun k e => by subst e; exact Nat.le_refl _); clear hb6a he6a hk6b)
    | (go_at_call 17; refine (open_any (HT.out.ext (HO4.out.2.1.trans hec)) hvc (HO4.out.1.ext hec) (by simp) (by have := HB.out.2.1; omega) (by decide)).mono ?_; rintro e w5 ⟨he5', s5, rfl, ho5⟩; rw [HB.out.2.2.1, show errV 0 = .nilIface from rfl]; have he5 := hec.trans he5'; clear he5' ho5 hvc hec)
    | (refine wl_conv [115] rfl rfl rfl (by simp) rfl rfl rfl (by intro x hx; simp at hx; omega) (by simp) ?_; intro wc4 hvc hec hx; clear hx))
  refine HK3.go _ _ ?_
  clear HK3
  have HO6 : Hid (BytesAt w6b (.slice a4 n4 c4) B ∧ Ext w w6b ∧ Ext w3 w6b) := ⟨(HO4.out.1.ext he5).ext he6b, (HO4.out.2.1.trans he5).trans he6b, (HO4.out.2.2.trans he5).trans he6b⟩
  clear hb6b he6b he5 HO4
  refine wp_seq_k (fun K4 hK => ?_)
  have HK4 := Stop.mk hK
  clear hK
  go_wp2_with (first
    | (have q := he7; clear q; refine wl_alloc rfl rfl zeroC ?_; intro w8a hb8a he8a hx; clear hx; refine wl_store (D := KV (openC [115] B 16) s7) rfl rowC rfl rfl rfl hb8a rfl rfl (KV.one _ _) ?_; intro w8b hb8b hk8b hx; clear hx; have he8b := he8a.of_but hk8b (fun k e => by subst e; exact Nat.le_refl _); clear hb8a he8a hk8b)
    | (go_at_call 17; refine (open_any (HT.out.ext (HO6.out.2.1.trans hec)) hvc (HO6.out.1.ext hec) (by simp) (by have := HB.out.2.1; omega) (by decide)).mono ?_; rintro e w7 ⟨he7', s7, rfl, ho7⟩; rw [HB.out.2.2.2]; have he7 := hec.trans he7'; clear he7' ho7 hvc hec)
    | (refine wl_conv [115] rfl rfl rfl (by simp) rfl rfl rfl (by intro x hx; simp at hx; omega) (by simp) ?_; intro wc6 hvc hec hx; clear hx))
  refine HK4.go _ _ ?_
  clear HK4
  have HE9 : Hid (Ext w3 w8b) := (HO6.out.2.2.trans he7).trans he8b
  have HA9 : Hid (CoAt w8b sA coA) := HA3.out.1.ext HE9.out
  have HB9 : Hid (Blk w8b q (KV coA sA) 29) := HB3.out.ext HE9.out
  have HW9 : Hid (Ext w w8b) := HA3.out.2.trans HE9.out
  clear hb8b he8b he7 HO6
  refine wp_seq_k (fun K9 hK9 => ?_)
  refine wp_line (fun t => bif Nat.ble 33 t && Nat.ble t 47 then some (t - 33) else bif Nat.beq t 0 then some 15 else none) 48 Ext
    [Is (.nilIface),
     Is (.bool true),
     Is (.bool true),
     Under ((true)) (.nilIface),
     Under ((true)) (.bool true),
     Is (.bool (true && (true))),
     Is (.bool (true && (true))),
     Under (((true && (true)))) (errV 8),
     Under (((true && (true)))) (.bool ((8 : Int) == 8)),
     Is (.bool ((true && (true)) && (((8 : Int) == 8)))),
     Is (.bool ((true && (true)) && (((8 : Int) == 8)))),
     Under ((((true && (true)) && (((8 : Int) == 8))))) (.agg (KV coA sA)),
     Under ((((true && (true)) && (((8 : Int) == 8))))) (.int .i64 (lateK coA 16)),
     Under ((((true && (true)) && (((8 : Int) == 8))))) (.bool (((lateK coA 16) : Int) == (1 : Int))),
     Is (.bool (((true && (true)) && (((8 : Int) == 8))) && ((((lateK coA 16) : Int) == (1 : Int))))),
     Is (.bool (((true && (true)) && (((8 : Int) == 8))) && ((((lateK coA 16) : Int) == (1 : Int)))))]
    rfl (by kernel_rfl) rfl Ext.refl (fun _ _ _ => Ext.trans) (KeepAll.is (KeepAll.is (KeepAll.is (KeepAll.under (KeepAll.under (KeepAll.is (KeepAll.is (KeepAll.under (KeepAll.under (KeepAll.is (KeepAll.is (KeepAll.under (KeepAll.under (KeepAll.under (KeepAll.is (KeepAll.is (KeepAll.nil))))))))))))))))) ?_ ?_
  · refine GoodAll.cons ?_ ?_
    · intro r wx hR hx
      obtain ⟨h1, _⟩ := hx
      replace h1 : r (.tmp 3) = .nilIface := h1
      exact give_move (.inl rfl) ⟨Ext.refl _, h1⟩
    refine GoodAll.cons ?_ ?_
    · intro r wx hR hx
      obtain ⟨h1, h2, _⟩ := hx
      replace h1 : r (.tmp 33) = .nilIface := h1
      replace h2 : r (.const (.nilIface)) = .nilIface := h2
      exact give_of (exec_eql0 rfl h1 h2) ⟨Ext.refl _, rfl⟩
    refine GoodAll.cons ?_ ?_
    · intro r wx hR hx
      obtain ⟨h1, _⟩ := hx
      replace h1 : r (.tmp 34) = .bool true := h1
      exact give_move (.inl rfl) ⟨Ext.refl _, h1⟩
    refine GoodAll.cons ?_ ?_
    · intro r wx hR hx
      obtain ⟨h1, _⟩ := hx
      replace h1 : r (.tmp 5) = .nilIface := h1
      intro gb hgb
      refine guard_u (C := (true)) (b := true) (want := true) hgb (want_t _) (fun hc => ?_) (fun hc => under_no hc)
      exact give_move (.inl rfl) ⟨Ext.refl _, (h1.trans (under_yes hc))⟩
    refine GoodAll.cons ?_ ?_
    · intro r wx hR hx
      obtain ⟨h1, h2, _⟩ := hx
      replace h1 : Under ((true)) (.nilIface) wx (r (.tmp 36)) := h1
      replace h2 : r (.const (.nilIface)) = .nilIface := h2
      intro gb hgb
      refine guard_u (C := (true)) (b := true) (want := true) hgb (want_t _) (fun hc => ?_) (fun hc => under_no hc)
      replace h1 := h1.get hc
      exact give_of (exec_eql0 rfl h1 h2) ⟨Ext.refl _, under_yes hc⟩
    refine GoodAll.cons ?_ ?_
    · intro r wx hR hx
      obtain ⟨h1, h2, h3, _⟩ := hx
      replace h1 : r (.tmp 35) = .bool true := h1
      replace h2 : Under ((true)) (.bool true) wx (r (.tmp 37)) := h2
      replace h3 : r (.const (.bool false)) = .bool false := h3
      exact give_and rfl h3 h1 (fun hb => h2.get (by first | exact hb | (rw [hc, hb]; rfl) | (rw [hb]; rfl))) ⟨Ext.refl _, rfl⟩
    refine GoodAll.cons ?_ ?_
    · intro r wx hR hx
      obtain ⟨h1, _⟩ := hx
      replace h1 : r (.tmp 38) = .bool (true && (true)) := h1
      exact give_move (.inl rfl) ⟨Ext.refl _, h1⟩
    refine GoodAll.cons ?_ ?_
    · intro r wx hR hx
      obtain ⟨h1, _⟩ := hx
      replace h1 : r (.tmp 7) = errV 8 := h1
      intro gb hgb
      refine guard_u (C := ((true && (true)))) (b := (true && (true))) (want := true) hgb (want_t _) (fun hc => ?_) (fun hc => under_no hc)
      exact give_move (.inl rfl) ⟨Ext.refl _, (h1.trans (under_yes hc))⟩
    refine GoodAll.cons ?_ ?_
    · intro r wx hR hx
      obtain ⟨h1, h2, h3, _⟩ := hx
      replace h1 : r (.func 14) = .func (.func 14) #[] #[] := h1
      replace h2 : Under (((true && (true)))) (errV 8) wx (r (.tmp 40)) := h2
      replace h3 : r (.const (.int .i64 8)) = .int .i64 8 := h3
      intro gb hgb
      refine guard_u (C := ((true && (true)))) (b := (true && (true))) (want := true) hgb (want_t _) (fun hc => ?_) (fun hc => under_no hc)
      replace h2 := h2.get hc
      refine give_func #[errV 8, .int .i64 8] rfl h1 Tryd.call14 (by simp [h2, h3]) ?_
      refine (is_anyE _ _ _).mono ?_
      rintro e wz ⟨rfl, hez⟩
      exact ⟨_, rfl, hez, under_yes hc⟩
    refine GoodAll.cons ?_ ?_
    · intro r wx hR hx
      obtain ⟨h1, h2, h3, _⟩ := hx
      replace h1 : r (.tmp 39) = .bool (true && (true)) := h1
      replace h2 : Under (((true && (true)))) (.bool ((8 : Int) == 8)) wx (r (.tmp 41)) := h2
      replace h3 : r (.const (.bool false)) = .bool false := h3
      exact give_and rfl h3 h1 (fun hb => h2.get (by first | exact hb | (rw [hc, hb]; rfl) | (rw [hb]; rfl))) ⟨Ext.refl _, rfl⟩
    refine GoodAll.cons ?_ ?_
    · intro r wx hR hx
      obtain ⟨h1, _⟩ := hx
      replace h1 : r (.tmp 42) = .bool ((true && (true)) && (((8 : Int) == 8))) := h1
      exact give_move (.inl rfl) ⟨Ext.refl _, h1⟩
    refine GoodAll.cons ?_ ?_
    · intro r wx hR hx
      obtain ⟨h1, _⟩ := hx
      replace h1 : r (.tmp 1) = .pointer (some ⟨q, 0, none⟩) := h1
      intro gb hgb
      refine guard_u (C := (((true && (true)) && (((8 : Int) == 8))))) (b := ((true && (true)) && (((8 : Int) == 8)))) (want := true) hgb (want_t _) (fun hc => ?_) (fun hc => under_no hc)
      exact give_of (exec_loadW rowC rfl h1 (HB9.out.ext hR) rfl) ⟨Ext.refl _, under_yes hc⟩
    refine GoodAll.cons ?_ ?_
    · intro r wx hR hx
      obtain ⟨h1, h2, h3, _⟩ := hx
      replace h1 : r (.func 15) = .func (.func 15) #[] #[] := h1
      replace h2 : Under ((((true && (true)) && (((8 : Int) == 8))))) (.agg (KV coA sA)) wx (r (.tmp 44)) := h2
      replace h3 : r (.const (.int .i64 16)) = .int .i64 16 := h3
      intro gb hgb
      refine guard_u (C := (((true && (true)) && (((8 : Int) == 8))))) (b := ((true && (true)) && (((8 : Int) == 8)))) (want := true) hgb (want_t _) (fun hc => ?_) (fun hc => under_no hc)
      replace h2 := h2.get hc
      refine give_func #[.agg (KV coA sA), .int .i64 16] rfl h1 Tryd.call15 (by simp [h2, h3]) ?_
      refine (late_any (HA9.out.ext hR) 16 (by decide)).mono ?_
      rintro e wz ⟨rfl, hez⟩
      exact ⟨_, rfl, hez, under_yes hc⟩
    refine GoodAll.cons ?_ ?_
    · intro r wx hR hx
      obtain ⟨h1, h2, _⟩ := hx
      replace h1 : Under ((((true && (true)) && (((8 : Int) == 8))))) (.int .i64 (lateK coA 16)) wx (r (.tmp 45)) := h1
      replace h2 : r (.const (.int .i64 1)) = .int .i64 1 := h2
      intro gb hgb
      refine guard_u (C := (((true && (true)) && (((8 : Int) == 8))))) (b := ((true && (true)) && (((8 : Int) == 8)))) (want := true) hgb (want_t _) (fun hc => ?_) (fun hc => under_no hc)
      replace h1 := h1.get hc
      exact give_of (by simp [execOp, h1, h2, go_sem]) ⟨Ext.refl _, under_yes hc⟩
    refine GoodAll.cons ?_ ?_
    · intro r wx hR hx
      obtain ⟨h1, h2, h3, _⟩ := hx
      replace h1 : r (.tmp 43) = .bool ((true && (true)) && (((8 : Int) == 8))) := h1
      replace h2 : Under ((((true && (true)) && (((8 : Int) == 8))))) (.bool (((lateK coA 16) : Int) == (1 : Int))) wx (r (.tmp 46)) := h2
      replace h3 : r (.const (.bool false)) = .bool false := h3
      exact give_and rfl h3 h1 (fun hb => h2.get (by first | exact hb | (rw [hc, hb]; rfl) | (rw [hb]; rfl))) ⟨Ext.refl _, rfl⟩
    refine GoodAll.cons ?_ ?_
    · intro r wx hR hx
      obtain ⟨h1, _⟩ := hx
      replace h1 : r (.tmp 47) = .bool (((true && (true)) && (((8 : Int) == 8))) && ((((lateK coA 16) : Int) == (1 : Int)))) := h1
      exact give_move (.inr rfl) ⟨Ext.refl _, h1⟩
    exact GoodAll.nil
  · intro vs wE aE hR hold haE
    have hv : vs 15 = .bool (((true && (true)) && (((8 : Int) == 8))) && ((((lateK coA 16) : Int) == (1 : Int)))) := hold.at 15
    refine ‹∀ (a : Act) (w : World), Code.wp Tryd.prog Code.ret _ a w → _› _ _ ?_
    refine wp_ret ?_
    have hs : aE.tmps[0]? = some (.bool (((true && (true)) && (((8 : Int) == 8))) && ((((lateK coA 16) : Int) == (1 : Int))))) := by rw [haE, ← hv]; kernel_rfl
    have hdf : aE.defers = [] := by rw [haE]; exact putAll_defers _ _ _ _
    clear haE
    refine bodyPost_ret (v := .bool (((true && (true)) && (((8 : Int) == 8))) && ((((lateK coA 16) : Int) == (1 : Int))))) ?_ hdf ⟨congrArg (fun b : Bool => Ending.returned (.bool b)) (by decide), HW9.out.trans hR⟩
    simp [results, Tryd.results7, go_sem, hs]
end Tlv
end Go.Proofs.YtfhoielfekeihaaDoor

/- The law CookieOpens walked: it answers true. Condition: the tables hold what the text lays. -/
namespace Go.Proofs.YtfhoielfekeihaaDoor
namespace Tlv
open Go Go.RowKit
set_option linter.unusedVariables false
set_option linter.unusedSimpArgs false
set_option maxRecDepth 100000


theorem num_anyE (n : Int) (w : World) : Calls Tryd.prog 19 #[errV n] w fun e w' => e = .returned (.int .i64 n) ∧ Ext w w' := by
  refine (num_any n w).mono ?_
  rintro e w' ⟨rfl, hw⟩
  exact ⟨rfl, by rw [hw]; exact Ext.refl _⟩
/-- What lies above is kept. -/
theorem OwnK.over {S : Nat → Prop} {w w' : World} {base : Nat} {s : So} {c : Co} (h : OwnK w base s c) (hk : KeepBut S w w') (hS : ∀ k, S k → k < base) : OwnK w' base s c :=
  ⟨h.a.mono_via hk (fun k e hs => by have := (h.a.lt e).1; have := hS k hs; omega), h.m.but hk (fun k e hs => by have := (h.m.lt e).1; have := hS k hs; omega), h.p.but hk (fun k e hs => by have := (h.p.lt e).1; have := hS k hs; omega)⟩
set_option maxHeartbeats 16000000 in
theorem opens_walk {w : World} {kv bv : Value} {K B : List Nat} {now : Int} (hT : Tabs w) (hC : Cube w) (hk : BytesAt w kv K) (hb : BytesAt w bv B) (hnow : W64 now) :
    Calls Tryd.prog 4 #[kv, bv, .int .i64 now] w fun e w' => e = .returned (.bool true) ∧ Ext w w' := by
  have HT : Hid (Tabs w ∧ Cube w ∧ BytesAt w kv K ∧ BytesAt w bv B ∧ W64 now) := ⟨hT, hC, hk, hb, hnow⟩
  obtain ⟨ka, kc, rfl, _, _⟩ := hk.form
  obtain ⟨ba, bc, rfl, _, _⟩ := hb.form
  rename_i z1 z2 z3 z4
  clear z1 z2 z3 z4 hT hC hk hb hnow
  by_cases hK : K.length > 300
  · have hd : decide ((K.length : Int) > 300) = true := decide_eq_true (by omega)
    have hd2 : decide ((300 : Int) < (K.length : Int)) = true := decide_eq_true (by omega)
    have hd3 : 300 < K.length := hK
    go_enter Tryd.func4, Tryd.ntmps4
    go_wp2_with (first
      | (go_at_call 7; refine (alive_any _ HT.out.1).mono ?_; rintro e w1 ⟨rfl, he1⟩))
    go_ret
    exact ⟨rfl, he1⟩
  have hd : decide ((K.length : Int) > 300) = false := decide_eq_false (by omega)
  have hd2 : decide ((300 : Int) < (K.length : Int)) = false := decide_eq_false (by omega)
  have hd3 : ¬ 300 < K.length := hK
  by_cases hB : B.length > 1000
  · have hd4 : decide ((B.length : Int) > 1000) = true := decide_eq_true (by omega)
    have hd5 : decide ((1000 : Int) < (B.length : Int)) = true := decide_eq_true (by omega)
    have hd6 : 1000 < B.length := hB
    go_enter Tryd.func4, Tryd.ntmps4
    go_wp2_with (first
      | (go_at_call 7; refine (alive_any _ HT.out.1).mono ?_; rintro e w1 ⟨rfl, he1⟩))
    go_ret
    exact ⟨rfl, he1⟩
  have hd4 : decide ((B.length : Int) > 1000) = false := decide_eq_false (by omega)
  have hd5 : decide ((1000 : Int) < (B.length : Int)) = false := decide_eq_false (by omega)
  have hd6 : ¬ 1000 < B.length := hB
  have HL : Hid (K.length ≤ 300 ∧ B.length ≤ 1000) := ⟨by omega, by omega⟩
  obtain ⟨E1, hE1⟩ : ∃ x, x = openE K B now := ⟨_, rfl⟩
  obtain ⟨cc, hcc⟩ : ∃ x, x = openC K B now := ⟨_, rfl⟩
  have HE1 : Hid (E1 = openE K B now ∧ cc = openC K B now) := ⟨hE1, hcc⟩
  clear hE1 hcc
  go_enter Tryd.func4, Tryd.ntmps4
  refine wp_seq_k (fun Ka hK => ?_)
  have HKa := Stop.mk hK
  clear hK
  go_wp2
  refine HKa.go _ _ ?_
  clear HKa
  refine wp_seq_k (fun Kb hK => ?_)
  have HKb := Stop.mk hK
  clear hK
  go_wp2_with (first
    | (go_at_call 7; refine (alive_any _ HT.out.1).mono ?_; rintro e w1 ⟨rfl, he1⟩))
  refine HKb.go _ _ ?_
  clear HKb
  refine wp_seq_k (fun Kc hK => ?_)
  have HKc := Stop.mk hK
  clear hK
  go_wp2
  refine HKc.go _ _ ?_
  clear HKc
  refine wp_seq_k (fun Kd hK => ?_)
  have HKd := Stop.mk hK
  clear hK
  go_wp2_with (first
    | (at_builtin; refine wl_appE numT8 (by decide) rfl rfl rfl rfl (base := w1.heap.size) (Nat.le_refl _) (Blk.new w1 #[] 5) (nums_of_bytes ((HT.out.2.2.2.1.ext he1).ext (Ext.alloc _ _))) (by have := HL.out; rw [ci_len]; omega) ?_; intro oa on oc w1b hn1 ho1 he1b; have HON : Hid (on = B.length) := hn1.out.trans (ci_len B); clear hn1; have HEO : Hid (Ext w w1b) := (he1.trans (Ext.alloc _ _)).trans he1b))
  refine HKd.go _ _ ?_
  clear HKd
  refine wp_seq_k (fun Ke hK => ?_)
  have HKe := Stop.mk hK
  clear hK
  go_wp2_with (first
    | (have q_ := he2; clear q_; refine wl_alloc rfl rfl zeroC ?_; intro w3a hb3a he3a hx; clear hx; refine wl_store (D := KV cc s8) rfl rowC rfl rfl rfl hb3a rfl rfl (KV.one _ _) ?_; intro w3 hb3 hk3 hx; clear hx; have he3 := he3a.of_but hk3 (fun k e => by subst e; exact Nat.le_refl _); have HE3 : Hid (Ext w w3) := (HEO.out.trans he2).trans he3; clear hb3a he3a hk3)
    | (have q_ := ho1; clear q_; go_at_call 17; refine (open_any (HT.out.1.ext HEO.out) (HT.out.2.2.1.ext HEO.out) (obN ho1 HT.out.2.2.2.1.1).bytes (by have := HL.out; omega) (by have := HL.out; omega) HT.out.2.2.2.2).mono ?_; rintro e w2 ⟨he2, s8, rfl, ho2⟩; rw [← HE1.out.1, ← HE1.out.2]; rw [← HE1.out.2] at ho2))
  refine HKe.go _ _ ?_
  clear HKe
  refine wp_seq_k (fun Kf hK => ?_)
  have HKf := Stop.mk hK
  clear hK
  go_wp2_with (first
    | (have q_ := he4; clear q_; refine wl_alloc rfl rfl zeroC2 ?_; intro w5a hb5a he5a hx; clear hx; refine wl_store (D := KV cc s10) rfl rowC2 rfl rfl rfl hb5a rfl rfl (KV.one _ _) ?_; intro w5 hb5 hk5 hx; clear hx; have he5 := he5a.of_but hk5 (fun k e => by subst e; exact Nat.le_refl _); clear hb5a he5a hk5)
    | (have q_ := hb3; clear q_; go_at_call 18; refine (refOpen_any (HT.out.2.1.ext HE3.out) (HT.out.2.2.1.ext HE3.out) (HT.out.2.2.2.1.ext HE3.out) (by have := HL.out; omega) (by have := HL.out; omega) HT.out.2.2.2.2).mono ?_; rintro e w4 ⟨he4, s10, rfl, ho4⟩; rw [← HE1.out.1, ← HE1.out.2]; rw [← HE1.out.2] at ho4))
  refine HKf.go _ _ ?_
  clear HKf
  have HOW : Hid (OB w5 w1.heap.size (.slice oa on oc) B) := (((obN ho1 HT.out.2.2.2.1.1).ext he2).ext ((he3.trans he4).trans he5))
  have HSB : Hid (∀ k, (Value.slice oa on oc).ownBlock = some k → k < w1b.heap.size) := fun k e => (ho1.lt e).2
  have HSW : Hid (w.heap.size ≤ w1.heap.size ∧ w1b.heap.size ≤ w2.heap.size ∧ w2.heap.size ≤ w3.heap.size ∧ w3.heap.size ≤ w4.heap.size) := ⟨he1.size, he2.size, he3.size, he4.size⟩
  have HK8 : Hid (OwnK w5 w1b.heap.size s8 cc) := ho2.ext ((he3.trans he4).trans he5)
  have HK10 : Hid (OwnK w5 w3.heap.size s10 cc) := ho4.ext he5
  have HB8' : Hid (Blk w5 w2.heap.size (KV cc s8) 29) := hb3.ext (he4.trans he5)
  have HB10' : Hid (Blk w5 w4.heap.size (KV cc s10) 26) := hb5
  have HE5 : Hid (Ext w w5) := (HE3.out.trans he4).trans he5
  have hon : on ≤ 1000 := by rw [HON.out]; exact HL.out.2
  clear ho1 ho2 ho4 hb3 hb5 he1 he2 he3 he4 he5 he1b hd hd2 hd3 hd4 hd5 hd6 hK hB
  obtain ⟨q8, hq8⟩ : ∃ q, q = w2.heap.size := ⟨_, rfl⟩
  obtain ⟨q10, hq10⟩ : ∃ q, q = w4.heap.size := ⟨_, rfl⟩
  have HQ : Hid (w1b.heap.size ≤ q8 ∧ w1b.heap.size ≤ q10) := ⟨by rw [hq8]; exact HSW.out.2.1, by rw [hq10]; have := HSW.out; omega⟩
  rw [← hq8] at HB8' ⊢
  rw [← hq10] at HB10' ⊢
  clear hq8 hq10
  refine wp_seq_k (fun K8 hK => ?_)
  have HKx := Stop.mk hK
  clear hK
  go_wp2
  go_loopg [42] on (fun gm t wr => ∃ (k : Nat) (m1 : List Nat), k ≤ on ∧ gm = on - k ∧ t = .int .i64 (k : Int) ∧ Hid (m1.length = on ∧ OB wr w1.heap.size (.slice oa on oc) m1 ∧ KeepBut (fun q => (Value.slice oa on oc).ownBlock = some q) w5 wr))
  case atStart => exact ⟨0, B, Nat.zero_le _, rfl, rfl, HON.out.symm, HOW.out, KeepBut.refl _ _⟩
  case round =>
    obtain ⟨k, m1, hk, rfl, rfl, HR⟩ := hrel
    by_cases hlt : k < on
    · have hd2 : decide ((k : Int) < (on : Int)) = true := decide_eq_true (by omega)
      have hkn : (k : Int) < (on : Int) := by omega
      obtain ⟨q, rfl, hzz⟩ := OB.some_of HR.out.2.1 (by omega)
      clear hzz
      have hcq := HR.out.2.1.cellAt k (by rw [HR.out.1]; exact hlt)
      obtain ⟨z, hz, hw1, hw2⟩ := plus8 _ (HR.out.2.1.all.getD k)
      generalize m1.getD k 0 = y at *
      go_wp2_with (first
        | (refine wl_poke (z := z) (m := m1) (q := q) (j := k) rfl rfl (by first | rfl | go_simp) (by first | rfl | go_simp | simp [go_sem, hw1, hw2]) hz HR.out.2.1 (by rw [HR.out.1]; exact hlt) ?_; intro w8 ho8 hk8))
      go_roundg (on - (k + 1))
      case measure => omega
      case rel => exact ⟨k + 1, _, by omega, rfl, by simp, by rw [List.length_set]; exact HR.out.1, ho8, HR.out.2.2.trans ⟨hk8.os, hk8.tape, hk8.output, hk8.size, fun i hi hn => hk8.block i hi (fun e => hn (by subst e; rfl))⟩⟩
    · have hd2 : decide ((k : Int) < (on : Int)) = false := decide_eq_false (by omega)
      have HKB := HR.out.2.2
      have HA8 : Hid (CoAt wr s8 cc) := (HK8.out.over HKB HSB.out).at
      have HA10 : Hid (CoAt wr s10 cc) := (HK10.out.over HKB (fun k e => by have := HSB.out k e; have := HSW.out; omega)).at
      have HB8 : Hid (Blk wr q8 (KV cc s8) 29) := HB8'.out.but HKB (fun e => by have := HSB.out _ e; have := HQ.out; omega)
      have HB10 : Hid (Blk wr q10 (KV cc s10) 26) := HB10'.out.but HKB (fun e => by have := HSB.out _ e; have := HQ.out; omega)
      have HWR : Hid (Ext w wr) := HE5.out.of_but HKB (fun k e => Nat.le_trans HSW.out.1 (HOW.out.lt e).1)
      clear HKB HR HK8 HK10 HB8' HB10' HOW HSB HSW HQ HE5
      go_wp2
      refine HKx.go _ _ ?_
      clear HKx
      refine wp_seq_k (fun K9 hK9 => ?_)
      refine wp_line (fun t => bif Nat.ble 52 t && Nat.ble t 65 then some (t - 52) else bif Nat.beq t 6 then some 14 else none) 66 Ext
        [Is (errV E1),
         Is (.int .i64 E1),
         Is (.int .i64 E1),
         Is (.bool ((E1 : Int) == (E1 : Int))),
         Is (.bool ((E1 : Int) == (E1 : Int))),
         Under ((((E1 : Int) == (E1 : Int)))) (.agg (KV cc s8)),
         Under ((((E1 : Int) == (E1 : Int)))) (.agg (KV cc s10)),
         Under ((((E1 : Int) == (E1 : Int)))) (.bool (sameD cc cc)),
         Is (.bool (((E1 : Int) == (E1 : Int)) && ((sameD cc cc)))),
         Is (.bool (((E1 : Int) == (E1 : Int)) && ((sameD cc cc)))),
         Under (((((E1 : Int) == (E1 : Int)) && ((sameD cc cc))))) (.agg (KV cc s8)),
         Under (((((E1 : Int) == (E1 : Int)) && ((sameD cc cc))))) (.agg (KV cc s10)),
         Under (((((E1 : Int) == (E1 : Int)) && ((sameD cc cc))))) (.bool (sameK cc cc)),
         Is (.bool ((((E1 : Int) == (E1 : Int)) && ((sameD cc cc))) && ((sameK cc cc)))),
         Is (.bool ((((E1 : Int) == (E1 : Int)) && ((sameD cc cc))) && ((sameK cc cc))))]
        rfl (by kernel_rfl) rfl Ext.refl (fun _ _ _ => Ext.trans) (KeepAll.is (KeepAll.is (KeepAll.is (KeepAll.is (KeepAll.is (KeepAll.under (KeepAll.under (KeepAll.under (KeepAll.is (KeepAll.is (KeepAll.under (KeepAll.under (KeepAll.under (KeepAll.is (KeepAll.is (KeepAll.nil)))))))))))))))) ?_ ?_
      · refine GoodAll.cons ?_ ?_
        · intro r wx hR hx
          obtain ⟨h1, _⟩ := hx
          replace h1 : r (.tmp 9) = errV E1 := h1
          exact give_move (.inl rfl) ⟨Ext.refl _, h1⟩
        refine GoodAll.cons ?_ ?_
        · intro r wx hR hx
          obtain ⟨h1, h2, _⟩ := hx
          replace h1 : r (.func 19) = .func (.func 19) #[] #[] := h1
          replace h2 : r (.tmp 52) = errV E1 := h2
          refine give_func #[errV E1] rfl h1 Tryd.call19 (by simp [h2]) ?_
          refine (num_anyE _ _).mono ?_
          rintro e wz ⟨rfl, hez⟩
          exact ⟨_, rfl, hez, rfl⟩
        refine GoodAll.cons ?_ ?_
        · intro r wx hR hx
          obtain ⟨h1, _⟩ := hx
          replace h1 : r (.tmp 11) = .int .i64 E1 := h1
          exact give_move (.inl rfl) ⟨Ext.refl _, h1⟩
        refine GoodAll.cons ?_ ?_
        · intro r wx hR hx
          obtain ⟨h1, h2, _⟩ := hx
          replace h1 : r (.tmp 53) = .int .i64 E1 := h1
          replace h2 : r (.tmp 54) = .int .i64 E1 := h2
          exact give_of (by simp [execOp, h1, h2, go_sem]) ⟨Ext.refl _, rfl⟩
        refine GoodAll.cons ?_ ?_
        · intro r wx hR hx
          obtain ⟨h1, _⟩ := hx
          replace h1 : r (.tmp 55) = .bool ((E1 : Int) == (E1 : Int)) := h1
          exact give_move (.inl rfl) ⟨Ext.refl _, h1⟩
        refine GoodAll.cons ?_ ?_
        · intro r wx hR hx
          obtain ⟨h1, _⟩ := hx
          replace h1 : r (.tmp 8) = .pointer (some ⟨q8, 0, none⟩) := h1
          intro gb hgb
          refine guard_u (C := (((E1 : Int) == (E1 : Int)))) (b := ((E1 : Int) == (E1 : Int))) (want := true) hgb (want_t _) (fun hc => ?_) (fun hc => under_no hc)
          exact give_of (exec_loadW rowC rfl h1 (HB8.out.ext hR) rfl) ⟨Ext.refl _, under_yes hc⟩
        refine GoodAll.cons ?_ ?_
        · intro r wx hR hx
          obtain ⟨h1, _⟩ := hx
          replace h1 : r (.tmp 10) = .pointer (some ⟨q10, 0, none⟩) := h1
          intro gb hgb
          refine guard_u (C := (((E1 : Int) == (E1 : Int)))) (b := ((E1 : Int) == (E1 : Int))) (want := true) hgb (want_t _) (fun hc => ?_) (fun hc => under_no hc)
          exact give_of (exec_loadW rowC2 rfl h1 (HB10.out.ext hR) rfl) ⟨Ext.refl _, under_yes hc⟩
        refine GoodAll.cons ?_ ?_
        · intro r wx hR hx
          obtain ⟨h1, h2, h3, _⟩ := hx
          replace h1 : r (.func 13) = .func (.func 13) #[] #[] := h1
          replace h2 : Under ((((E1 : Int) == (E1 : Int)))) (.agg (KV cc s8)) wx (r (.tmp 57)) := h2
          replace h3 : Under ((((E1 : Int) == (E1 : Int)))) (.agg (KV cc s10)) wx (r (.tmp 58)) := h3
          intro gb hgb
          refine guard_u (C := (((E1 : Int) == (E1 : Int)))) (b := ((E1 : Int) == (E1 : Int))) (want := true) hgb (want_t _) (fun hc => ?_) (fun hc => under_no hc)
          replace h2 := h2.get hc
          replace h3 := h3.get hc
          refine give_func #[.agg (KV cc s8), .agg (KV cc s10)] rfl h1 Tryd.call13 (by simp [h2, h3]) ?_
          refine (refSame_any (HA8.out.ext hR) (HA10.out.ext hR)).mono ?_
          rintro e wz ⟨rfl, hez⟩
          exact ⟨_, rfl, hez, under_yes hc⟩
        refine GoodAll.cons ?_ ?_
        · intro r wx hR hx
          obtain ⟨h1, h2, h3, _⟩ := hx
          replace h1 : r (.tmp 56) = .bool ((E1 : Int) == (E1 : Int)) := h1
          replace h2 : Under ((((E1 : Int) == (E1 : Int)))) (.bool (sameD cc cc)) wx (r (.tmp 59)) := h2
          replace h3 : r (.const (.bool false)) = .bool false := h3
          exact give_and rfl h3 h1 (fun hb => h2.get (by first | exact hb | (rw [hc, hb]; rfl) | (rw [hb]; rfl))) ⟨Ext.refl _, rfl⟩
        refine GoodAll.cons ?_ ?_
        · intro r wx hR hx
          obtain ⟨h1, _⟩ := hx
          replace h1 : r (.tmp 60) = .bool (((E1 : Int) == (E1 : Int)) && ((sameD cc cc))) := h1
          exact give_move (.inl rfl) ⟨Ext.refl _, h1⟩
        refine GoodAll.cons ?_ ?_
        · intro r wx hR hx
          obtain ⟨h1, _⟩ := hx
          replace h1 : r (.tmp 8) = .pointer (some ⟨q8, 0, none⟩) := h1
          intro gb hgb
          refine guard_u (C := ((((E1 : Int) == (E1 : Int)) && ((sameD cc cc))))) (b := (((E1 : Int) == (E1 : Int)) && ((sameD cc cc)))) (want := true) hgb (want_t _) (fun hc => ?_) (fun hc => under_no hc)
          exact give_of (exec_loadW rowC rfl h1 (HB8.out.ext hR) rfl) ⟨Ext.refl _, under_yes hc⟩
        refine GoodAll.cons ?_ ?_
        · intro r wx hR hx
          obtain ⟨h1, _⟩ := hx
          replace h1 : r (.tmp 10) = .pointer (some ⟨q10, 0, none⟩) := h1
          intro gb hgb
          refine guard_u (C := ((((E1 : Int) == (E1 : Int)) && ((sameD cc cc))))) (b := (((E1 : Int) == (E1 : Int)) && ((sameD cc cc)))) (want := true) hgb (want_t _) (fun hc => ?_) (fun hc => under_no hc)
          exact give_of (exec_loadW rowC2 rfl h1 (HB10.out.ext hR) rfl) ⟨Ext.refl _, under_yes hc⟩
        refine GoodAll.cons ?_ ?_
        · intro r wx hR hx
          obtain ⟨h1, h2, h3, _⟩ := hx
          replace h1 : r (.func 20) = .func (.func 20) #[] #[] := h1
          replace h2 : Under (((((E1 : Int) == (E1 : Int)) && ((sameD cc cc))))) (.agg (KV cc s8)) wx (r (.tmp 62)) := h2
          replace h3 : Under (((((E1 : Int) == (E1 : Int)) && ((sameD cc cc))))) (.agg (KV cc s10)) wx (r (.tmp 63)) := h3
          intro gb hgb
          refine guard_u (C := ((((E1 : Int) == (E1 : Int)) && ((sameD cc cc))))) (b := (((E1 : Int) == (E1 : Int)) && ((sameD cc cc)))) (want := true) hgb (want_t _) (fun hc => ?_) (fun hc => under_no hc)
          replace h2 := h2.get hc
          replace h3 := h3.get hc
          refine give_func #[.agg (KV cc s8), .agg (KV cc s10)] rfl h1 Tryd.call20 (by simp [h2, h3]) ?_
          refine (sameK_any (HA8.out.ext hR) (HA10.out.ext hR)).mono ?_
          rintro e wz ⟨rfl, hez⟩
          exact ⟨_, rfl, hez, under_yes hc⟩
        refine GoodAll.cons ?_ ?_
        · intro r wx hR hx
          obtain ⟨h1, h2, h3, _⟩ := hx
          replace h1 : r (.tmp 61) = .bool (((E1 : Int) == (E1 : Int)) && ((sameD cc cc))) := h1
          replace h2 : Under (((((E1 : Int) == (E1 : Int)) && ((sameD cc cc))))) (.bool (sameK cc cc)) wx (r (.tmp 64)) := h2
          replace h3 : r (.const (.bool false)) = .bool false := h3
          exact give_and rfl h3 h1 (fun hb => h2.get (by first | exact hb | (rw [hc, hb]; rfl) | (rw [hb]; rfl))) ⟨Ext.refl _, rfl⟩
        refine GoodAll.cons ?_ ?_
        · intro r wx hR hx
          obtain ⟨h1, _⟩ := hx
          replace h1 : r (.tmp 65) = .bool ((((E1 : Int) == (E1 : Int)) && ((sameD cc cc))) && ((sameK cc cc))) := h1
          exact give_move (.inr rfl) ⟨Ext.refl _, h1⟩
        exact GoodAll.nil
      · intro vs wE aE hR hold haE
        have hv : vs 14 = .bool ((((E1 : Int) == (E1 : Int)) && ((sameD cc cc))) && ((sameK cc cc))) := hold.at 14
        refine ‹∀ (a : Act) (w : World), Code.wp Tryd.prog Code.ret _ a w → _› _ _ ?_
        refine wp_ret ?_
        have hs : aE.tmps[6]? = some (.bool ((((E1 : Int) == (E1 : Int)) && ((sameD cc cc))) && ((sameK cc cc)))) := by rw [haE, ← hv]; kernel_rfl
        have hdf : aE.defers = [] := by rw [haE]; exact putAll_defers _ _ _ _
        clear haE
        refine bodyPost_ret (v := .bool ((((E1 : Int) == (E1 : Int)) && ((sameD cc cc))) && ((sameK cc cc)))) ?_ hdf ⟨congrArg (fun b : Bool => Ending.returned (.bool b)) (by rw [sameD_eq, (sameK_iff cc cc).2 rfl]; simp), HWR.out.trans hR⟩
        simp [results, Tryd.results4, go_sem, hs]
end Tlv
end Go.Proofs.YtfhoielfekeihaaDoor
