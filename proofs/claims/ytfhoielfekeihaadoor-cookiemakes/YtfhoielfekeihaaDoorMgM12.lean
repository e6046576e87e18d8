/- Texts of the seat, one behind the other. No condition of its own. -/
import Derived.Test.YtfhoielfekeihaaDoorMgM11
import Derived.ArgAppend
/- The document's tag of a key and a text. Condition: the document's table holds what the text lays. -/
namespace Go.Proofs.YtfhoielfekeihaaDoor
open Go Go.RowKit
set_option linter.unusedVariables false
set_option linter.unusedSimpArgs false
set_option maxRecDepth 100000

theorem OwnB.form1 {w : World} {base : Nat} {e : TypeId} {v : Value} {l : List Nat} (h : OwnB w base e v l) : ∃ g c, v = .slice (some ⟨g, 0, Option.none⟩) l.length c := by
  obtain ⟨_, ⟨g, c, e1, _⟩, _⟩ := h
  exact ⟨g, c, e1⟩
theorem OwnB.low {w : World} {base b2 : Nat} {e : TypeId} {v : Value} {l : List Nat} (h : OwnB w base e v l) (hb : b2 ≤ base) : OwnB w b2 e v l := by
  obtain ⟨h0, ⟨g, c, e1, h1, h2⟩, h3, h4 | ⟨g', c', cur, e2, h5, h6⟩⟩ := h
  · exact ⟨h0, ⟨g, c, e1, Nat.le_trans hb h1, h2⟩, h3, .inl h4⟩
  · exact ⟨h0, ⟨g, c, e1, Nat.le_trans hb h1, h2⟩, h3, .inr ⟨g', c', cur, e2, Nat.le_trans hb h5, h6⟩⟩

set_option maxHeartbeats 4000000 in
theorem refMac_short (kv tv : Value) (K T : List Nat) (w : World) (hC : Cube w) (hk : BytesAt w kv K) (ht : BytesAt w tv T) (hlK : K.length ≤ 20000) (hlT : T.length ≤ 10000) (h64 : K.length ≤ 64) :
    Calls Tryd.prog 29 #[kv, tv] w fun e w' => ∃ v, e = .returned v ∧ OwnB w' w.heap.size 5 v (Mac.tag K T) ∧ Ext w w' := by
  have HA : Hid (Cube w ∧ BytesAt w kv K ∧ BytesAt w tv T ∧ K.length ≤ 20000 ∧ T.length ≤ 10000) := ⟨hC, hk, ht, hlK, hlT⟩
  obtain ⟨F, hF⟩ : ∃ F, F = Mac.full K := ⟨_, rfl⟩
  obtain ⟨I, hI⟩ : ∃ I, I = Mac.inner K T := ⟨_, rfl⟩
  obtain ⟨D, hD⟩ : ∃ D, D = Mac.tag K T := ⟨_, rfl⟩
  obtain ⟨S, hS⟩ : ∃ S, S = Mac.short K := ⟨_, rfl⟩
  have HF : Hid (S ++ List.replicate (64 - S.length) 0 = F ∧ F.length = 64 ∧ S.length ≤ 64 ∧ Sha.AllB F) := ⟨by rw [hF, hS]; rfl, by rw [hF]; exact Mac.full_len K, by rw [hS]; exact Mac.short_len K, by rw [hF]; exact Mac.full_all hk.1⟩
  have HI : Hid (I = Sha.dgst (Mac.chg F 54 ++ T) ∧ I.length = 32 ∧ Sha.AllB I) := ⟨by rw [hI, hF]; rfl, by rw [hI]; exact Mac.inner_len _ _, by rw [hI]; exact Mac.inner_all _ _⟩
  have HD : Hid (D = Sha.dgst (Mac.chg F 92 ++ I) ∧ D.length = 32 ∧ Sha.AllB D) := ⟨by rw [hD, hF, hI]; rfl, by rw [hD]; exact Mac.tag_len _ _, by rw [hD]; exact Mac.tag_all _ _⟩
  rw [← hD]
  obtain ⟨a, cap, rfl, _, _⟩ := hk.form
  obtain ⟨ta, tc, rfl, _, _⟩ := ht.form
  rename_i z1 z2 z3 z4
  clear z1 z2 z3 z4
  obtain rfl : S = K := by rw [hS]; unfold Mac.short; rw [if_neg (by omega)]
  have hd : decide ((S.length : Int) > 64) = false := decide_eq_false (by omega)
  clear hk ht hC hF hI hD hS
  go_enter Tryd.func29, Tryd.ntmps29
  go_wp2_with (first
    | (go_at_call_of 52 (Value.int .u8 92); refine (refPad_any _ S 92 _ (HA.out.2.1.ext (he2.trans he34)) HF.out.2.2.1 (by decide)).mono ?_; rintro e w5 ⟨v5, rfl, ho5, he5⟩; rw [HF.out.1] at ho5; obtain ⟨g5, c5, rfl⟩ := ho5.form1)
    | (go_at_call_of 52 (Value.int .u8 54); refine (refPad_any _ S 54 _ (HA.out.2.1) HF.out.2.2.1 (by decide)).mono ?_; rintro e w1 ⟨v1, rfl, ho1, he1⟩; rw [HF.out.1] at ho1; obtain ⟨g1, c1, rfl⟩ := ho1.form1)
    | (at_builtin; have q := ho5; clear q; refine wl_appendG byteT rfl _ _ rfl w4.heap.size _ _ _ (Mac.chg F 92) I rfl ho5 (ho4.bytes.ext he5) (by rw [Mac.chg_len, HF.out.2.1, HI.out.2.1]; decide) ?_; intro g6 c6 w6 ho6 hk6 hg6; have hy6 := ho6.bytes; rw [List.length_append] at hy6; have he6 : Ext w4 w6 := he5.of_but hk6 (fun k e => by subst e; exact (ho5.cap).2.2.2.1))
    | (at_builtin; refine wl_appendG byteT rfl _ _ rfl w.heap.size _ _ _ (Mac.chg F 54) T rfl ho1 (HA.out.2.2.1.ext ((Ext.refl w).trans he1)) (by rw [Mac.chg_len, HF.out.2.1]; have := HA.out; omega) ?_; intro g2 c2 w2 ho2 hk2 hg2; have hy2 := ho2.bytes; rw [List.length_append] at hy2; have he2 : Ext w w2 := he1.of_but hk2 (fun k e => by subst e; exact (ho1.cap).2.2.2.1))
    | (go_at_call 51; have q := ho6; clear q; refine (refSum_any _ (Mac.chg F 92 ++ I) _ hy6 (by rw [List.length_append, Mac.chg_len, HF.out.2.1, HI.out.2.1]; decide) (HA.out.1.ext ((((Ext.refl w).trans he2).trans he34).trans he6))).mono ?_; rintro e w7 ⟨rfl, he7⟩; rw [← HD.out.1])
    | (go_at_call 51; have q := ho2; clear q; refine (refSum_any _ (Mac.chg F 54 ++ T) _ hy2 (by rw [List.length_append, Mac.chg_len, HF.out.2.1]; have := HA.out; omega) (HA.out.1.ext ((Ext.refl w).trans he2))).mono ?_; rintro e w3 ⟨rfl, he3⟩; rw [← HI.out.1])
    | (go_at_call 50; have q := he7; clear q; refine (refBytes_any D _ HD.out.2.1 HD.out.2.2).mono ?_; rintro e w8 ⟨v8, rfl, ho8, he8⟩)
    | (go_at_call 50; have q := he3; clear q; refine (refBytes_any I _ HI.out.2.1 HI.out.2.2).mono ?_; rintro e w4 ⟨v4, rfl, ho4, he4⟩; have he34 : Ext w2 w4 := he3.trans he4; obtain ⟨g4, c4, rfl⟩ := ho4.form1))
  go_ret
  exact ⟨_, rfl, ho8.low ((he2.trans he34).trans (he6.trans he7)).size, ((he2.trans he34).trans (he6.trans he7)).trans he8⟩

set_option maxHeartbeats 4000000 in
theorem refMac_long (kv tv : Value) (K T : List Nat) (w : World) (hC : Cube w) (hk : BytesAt w kv K) (ht : BytesAt w tv T) (hlK : K.length ≤ 20000) (hlT : T.length ≤ 10000) (h64 : 64 < K.length) :
    Calls Tryd.prog 29 #[kv, tv] w fun e w' => ∃ v, e = .returned v ∧ OwnB w' w.heap.size 5 v (Mac.tag K T) ∧ Ext w w' := by
  have HA : Hid (Cube w ∧ BytesAt w kv K ∧ BytesAt w tv T ∧ K.length ≤ 20000 ∧ T.length ≤ 10000) := ⟨hC, hk, ht, hlK, hlT⟩
  obtain ⟨F, hF⟩ : ∃ F, F = Mac.full K := ⟨_, rfl⟩
  obtain ⟨I, hI⟩ : ∃ I, I = Mac.inner K T := ⟨_, rfl⟩
  obtain ⟨D, hD⟩ : ∃ D, D = Mac.tag K T := ⟨_, rfl⟩
  obtain ⟨S, hS⟩ : ∃ S, S = Mac.short K := ⟨_, rfl⟩
  have HF : Hid (S ++ List.replicate (64 - S.length) 0 = F ∧ F.length = 64 ∧ S.length ≤ 64 ∧ Sha.AllB F) := ⟨by rw [hF, hS]; rfl, by rw [hF]; exact Mac.full_len K, by rw [hS]; exact Mac.short_len K, by rw [hF]; exact Mac.full_all hk.1⟩
  have HI : Hid (I = Sha.dgst (Mac.chg F 54 ++ T) ∧ I.length = 32 ∧ Sha.AllB I) := ⟨by rw [hI, hF]; rfl, by rw [hI]; exact Mac.inner_len _ _, by rw [hI]; exact Mac.inner_all _ _⟩
  have HD : Hid (D = Sha.dgst (Mac.chg F 92 ++ I) ∧ D.length = 32 ∧ Sha.AllB D) := ⟨by rw [hD, hF, hI]; rfl, by rw [hD]; exact Mac.tag_len _ _, by rw [hD]; exact Mac.tag_all _ _⟩
  rw [← hD]
  obtain ⟨a, cap, rfl, _, _⟩ := hk.form
  obtain ⟨ta, tc, rfl, _, _⟩ := ht.form
  rename_i z1 z2 z3 z4
  clear z1 z2 z3 z4
  have HS : Hid (S = Sha.dgst K ∧ S.length = 32 ∧ Sha.AllB S) := ⟨by rw [hS]; unfold Mac.short; rw [if_pos h64], by rw [hS]; unfold Mac.short; rw [if_pos h64]; exact Mac.dlen _, by rw [hS]; exact Mac.short_all hk.1⟩
  have hd : decide ((K.length : Int) > 64) = true := decide_eq_true (by omega)
  clear hk ht hC hF hI hD hS
  go_enter Tryd.func29, Tryd.ntmps29
  go_wp2_with (first
    | (go_at_call_of 52 (Value.int .u8 92); refine (refPad_any _ S 92 _ (oy2.bytes.ext (he2.trans he34)) HF.out.2.2.1 (by decide)).mono ?_; rintro e w5 ⟨v5, rfl, ho5, he5⟩; rw [HF.out.1] at ho5; obtain ⟨g5, c5, rfl⟩ := ho5.form1)
    | (go_at_call_of 52 (Value.int .u8 54); refine (refPad_any _ S 54 _ (oy2.bytes) HF.out.2.2.1 (by decide)).mono ?_; rintro e w1 ⟨v1, rfl, ho1, he1⟩; rw [HF.out.1] at ho1; obtain ⟨g1, c1, rfl⟩ := ho1.form1)
    | (at_builtin; have q := ho5; clear q; refine wl_appendG byteT rfl _ _ rfl w4.heap.size _ _ _ (Mac.chg F 92) I rfl ho5 (ho4.bytes.ext he5) (by rw [Mac.chg_len, HF.out.2.1, HI.out.2.1]; decide) ?_; intro g6 c6 w6 ho6 hk6 hg6; have hy6 := ho6.bytes; rw [List.length_append] at hy6; have he6 : Ext w4 w6 := he5.of_but hk6 (fun k e => by subst e; exact (ho5.cap).2.2.2.1))
    | (at_builtin; refine wl_appendG byteT rfl _ _ rfl x2.heap.size _ _ _ (Mac.chg F 54) T rfl ho1 (HA.out.2.2.1.ext (hx2.trans he1)) (by rw [Mac.chg_len, HF.out.2.1]; have := HA.out; omega) ?_; intro g2 c2 w2 ho2 hk2 hg2; have hy2 := ho2.bytes; rw [List.length_append] at hy2; have he2 : Ext x2 w2 := he1.of_but hk2 (fun k e => by subst e; exact (ho1.cap).2.2.2.1))
    | (go_at_call 51; have q := ho6; clear q; refine (refSum_any _ (Mac.chg F 92 ++ I) _ hy6 (by rw [List.length_append, Mac.chg_len, HF.out.2.1, HI.out.2.1]; decide) (HA.out.1.ext (((hx2.trans he2).trans he34).trans he6))).mono ?_; rintro e w7 ⟨rfl, he7⟩; rw [← HD.out.1])
    | (go_at_call 51; have q := ho2; clear q; refine (refSum_any _ (Mac.chg F 54 ++ T) _ hy2 (by rw [List.length_append, Mac.chg_len, HF.out.2.1]; have := HA.out; omega) (HA.out.1.ext (hx2.trans he2))).mono ?_; rintro e w3 ⟨rfl, he3⟩; rw [← HI.out.1])
    | (go_at_call 50; have q := he7; clear q; refine (refBytes_any D _ HD.out.2.1 HD.out.2.2).mono ?_; rintro e w8 ⟨v8, rfl, ho8, he8⟩)
    | (go_at_call 50; have q := he3; clear q; refine (refBytes_any I _ HI.out.2.1 HI.out.2.2).mono ?_; rintro e w4 ⟨v4, rfl, ho4, he4⟩; have he34 : Ext w2 w4 := he3.trans he4; obtain ⟨g4, c4, rfl⟩ := ho4.form1)
    | (go_at_call 51; refine (refSum_any _ K _ HA.out.2.1 HA.out.2.2.2.1 HA.out.1).mono ?_; rintro e x1 ⟨rfl, hx1⟩; rw [← HS.out.1])
    | (go_at_call 50; refine (refBytes_any S _ HS.out.2.1 HS.out.2.2).mono ?_; rintro e x2 ⟨y2, rfl, oy2, hx2'⟩; have hx2 := hx1.trans hx2'; obtain ⟨gy, cy, rfl⟩ := oy2.form1))
  go_ret
  exact ⟨_, rfl, ho8.low (((hx2.trans he2).trans he34).trans (he6.trans he7)).size, (((hx2.trans he2).trans he34).trans (he6.trans he7)).trans he8⟩

theorem refMac_any (kv tv : Value) (K T : List Nat) (w : World) (hC : Cube w) (hk : BytesAt w kv K) (ht : BytesAt w tv T) (hlK : K.length ≤ 20000) (hlT : T.length ≤ 10000) :
    Calls Tryd.prog 29 #[kv, tv] w fun e w' => ∃ v, e = .returned v ∧ OwnB w' w.heap.size 5 v (Mac.tag K T) ∧ Ext w w' := by
  by_cases h : K.length ≤ 64
  · exact refMac_short kv tv K T w hC hk ht hlK hlT h
  · exact refMac_long kv tv K T w hC hk ht hlK hlT (by omega)
end Go.Proofs.YtfhoielfekeihaaDoor

/- The document's reader of a cookie. No condition of its own. -/
namespace Go.Proofs.YtfhoielfekeihaaDoor
namespace Tlv
open Go Go.RowKit
set_option linter.unusedVariables false
set_option linter.unusedSimpArgs false
set_option maxRecDepth 100000


def FRd (gi : Nat) (bv : Value) (B : List Nat) (w : World) (st : Option Nat) : Prop := ∃ (a : Nat) (b : Bool), Blk w gi #[bv, .int .i64 (a : Int), .bool b] 78 ∧ a ≤ B.length ∧ st = (if b = true then none else some a)
theorem noKRd : NoK 78 := ⟨by decide, by decide⟩
theorem frd_rd {w0 : World} {gi : Nat} {bv : Value} {B : List Nat} (hg : w0.heap.size ≤ gi) : RdF (FRd gi bv B) w0 gi :=
  ⟨fun h he => by obtain ⟨a, b, hb, h2⟩ := h; exact ⟨a, b, hb.ext he, h2⟩, fun {S w w' st} h hk hS => by obtain ⟨a, b, hb, h2⟩ := h; exact ⟨a, b, hb.but hk (fun e => (hS gi e).2.1 rfl), h2⟩, hg, fun h => by obtain ⟨a, b, hb, h2⟩ := h; exact ⟨_, _, hb, noKRd⟩⟩
theorem rowRd : RowT Tryd.prog 78 3 := ⟨⟨_, Tryd.underlying78, rfl⟩, by kernel_rfl⟩
set_option maxHeartbeats 4000000 in
theorem rkNum {w0 w : World} {q r gi : Nat} {bv : Value} {B : List Nat} {c : Co} {s : So} {st : Option Nat} (hg : w0.heap.size ≤ gi) (hbv : BytesAt w0 bv B) (h : SK 26 (FRd gi bv B) w0 w q r gi c s st) (hB : B.length ≤ 1000000) (n : Int) :
    Calls Tryd.prog 34 #[ptr gi, .int .i64 n] w (StepK 26 (FRd gi bv B) w0 q r gi c s (numS B st n).1 (.int .u64 ((numS B st n).2 : Nat))) := by
  have HB : Hid (BytesAt w0 bv B ∧ B.length ≤ 1000000 ∧ w0.heap.size ≤ gi) := ⟨hbv, hB, hg⟩
  have HS : Hid (SK 26 (FRd gi bv B) w0 w q r gi c s st) := h
  obtain ⟨a, b, hb, ha, hst⟩ := h.hi
  obtain ⟨ba, bc, rfl, _, _⟩ := hbv.form
  rename_i z1 z2
  have HR : Hid (RefV (.agg #[.slice ba B.length bc, .int .i64 (a : Int), .bool b]) (.slice ba B.length bc) B st) := ⟨a, b, rfl, ha, hst⟩
  have HBL : Hid (Blk w gi #[.slice ba B.length bc, .int .i64 (a : Int), .bool b] 78) := hb
  clear z1 z2 hst ha hb h hbv hB hg
  obtain ⟨N, hN⟩ : ∃ N, N = (numS B st n).2 := ⟨_, rfl⟩
  have HN : Hid (N = (numS B st n).2) := hN
  rw [← hN]
  clear hN
  go_enter Tryd.func34, Tryd.ntmps34
  go_wp2_with (first
    | (have q_ := hb5; clear q_; refine wl_store (D := #[.slice ba B.length bc, .int .i64 (a2 : Int), .bool b2]) rfl rowI rfl rfl rfl HBg.out rfl rfl (one_in _ _ _ rfl) ?_; intro w6 hb6 hk6 hx; clear hx)
    | (have q_ := hb5; clear q_; refine wl_load rfl rowI rfl rfl hb5 rfl ?_)
    | (have q_ := he3; clear q_; refine wl_alloc rfl rfl zeroI ?_; intro w4 hb4 he4 hx; clear hx; refine wl_store (D := #[.slice ba B.length bc, .int .i64 (a2 : Int), .bool b2]) rfl rowI rfl rfl rfl hb4 rfl rfl (one_in _ _ _ rfl) ?_; intro w5 hb5 hk5 hx; clear hx; have he5 := he4.of_but hk5 (fun k e => by subst e; exact Nat.le_refl _); have HBg : Hid (Blk w5 gi #[.slice ba B.length bc, .int .i64 (a : Int), .bool b] 78) := (HBL.out.ext he3).ext he5; clear hb4 he4 hk5)
    | (refine wl_load rfl rowI rfl rfl HBL.out rfl ?_)
    | (go_at_call 56; refine (refReadNum_any HR.out (HB.out.1.ext HS.out.ext) HB.out.2.1 n).mono ?_; rintro e w3 ⟨v2, rfl, hv2, he3⟩; rw [← HN.out]; obtain ⟨a2, b2, rfl, ha2, hst2⟩ := hv2; have HV2 : Hid (a2 ≤ B.length ∧ (numS B st n).1 = (if b2 = true then none else some a2)) := ⟨ha2, hst2⟩; clear ha2 hst2))
  go_ret
  have hS5 := (HS.out.grow (frd_rd HB.out.2.2) he3).grow (frd_rd HB.out.2.2) he5
  exact ⟨rfl, hS5.step (frd_rd HB.out.2.2) hk6 ⟨a2, b2, hb6, HV2.out.1, HV2.out.2⟩⟩
set_option maxHeartbeats 4000000 in
theorem rkText {w0 w : World} {q r gi : Nat} {bv : Value} {B : List Nat} {c : Co} {s : So} {st : Option Nat} (hg : w0.heap.size ≤ gi) (hbv : BytesAt w0 bv B) (h : SK 26 (FRd gi bv B) w0 w q r gi c s st) (hB : B.length ≤ 1000000) :
    Calls Tryd.prog 35 #[ptr gi] w (TookK 26 (FRd gi bv B) w0 q r gi c s (takeS B (numS B st 1).1 ((numS B st 1).2 : Nat)).1 (takeS B (numS B st 1).1 ((numS B st 1).2 : Nat)).2) := by
  have HB : Hid (BytesAt w0 bv B ∧ B.length ≤ 1000000 ∧ w0.heap.size ≤ gi) := ⟨hbv, hB, hg⟩
  have HS : Hid (SK 26 (FRd gi bv B) w0 w q r gi c s st) := h
  obtain ⟨ba, bc, rfl, _, _⟩ := hbv.form
  rename_i z1 z2
  have hn8 := numS_u8 hbv.1 st
  obtain ⟨N, hN⟩ : ∃ N, N = (numS B st 1).2 := ⟨_, rfl⟩
  obtain ⟨st1, hst1⟩ : ∃ N, N = (numS B st 1).1 := ⟨_, rfl⟩
  have HN : Hid (N = (numS B st 1).2 ∧ st1 = (numS B st 1).1) := ⟨hN, hst1⟩
  rw [← hN, ← hst1]
  have hw : IntKind.i64.wrap (N : Int) = (N : Int) := by rw [IntKind.wrap_i64, hN]; omega
  clear z1 z2 h hbv hB hg hN hst1 hn8
  go_enter Tryd.func35, Tryd.ntmps35
  refine wp_seq_k (fun K0 hK => ?_)
  have HK0 := Stop.mk hK
  clear hK
  go_wp2
  refine HK0.go _ _ ?_
  clear HK0
  refine wp_seq_k (fun K1 hK => ?_)
  have HK1 := Stop.mk hK
  clear hK
  go_wp2_with (first
    | (go_at_call 34; refine (rkNum HB.out.2.2 HB.out.1 HS.out HB.out.2.1 1).mono ?_; rintro e w1 ⟨rfl, hs1⟩; rw [← HN.out.1]; rw [← HN.out.2] at hs1))
  refine HK1.go _ _ ?_
  clear HK1
  have HS1 : Hid (SK 26 (FRd gi (.slice ba B.length bc) B) w0 w1 q r gi c s st1) := hs1
  obtain ⟨a, b, hb, ha, hst⟩ := hs1.hi
  have HR : Hid (RefV (.agg #[.slice ba B.length bc, .int .i64 (a : Int), .bool b]) (.slice ba B.length bc) B st1) := ⟨a, b, rfl, ha, hst⟩
  have HBL : Hid (Blk w1 gi #[.slice ba B.length bc, .int .i64 (a : Int), .bool b] 78) := hb
  clear hst ha hb hs1 HS
  go_wp2_with (first
    | (have q_ := hb5; clear q_; refine wl_store (D := #[.slice ba B.length bc, .int .i64 (a2 : Int), .bool b2]) rfl rowI rfl rfl rfl HBg.out rfl rfl (one_in _ _ _ rfl) ?_; intro w6 hb6 hk6 hx; clear hx)
    | (have q_ := hb5; clear q_; refine wl_load rfl rowI rfl rfl hb5 rfl ?_)
    | (have q_ := he3; clear q_; refine wl_alloc rfl rfl zeroI ?_; intro w4 hb4 he4 hx; clear hx; refine wl_store (D := #[.slice ba B.length bc, .int .i64 (a2 : Int), .bool b2]) rfl rowI rfl rfl rfl hb4 rfl rfl (one_in _ _ _ rfl) ?_; intro w5 hb5 hk5 hx; clear hx; have he5 := he4.of_but hk5 (fun k e => by subst e; exact Nat.le_refl _); have HBg : Hid (Blk w5 gi #[.slice ba B.length bc, .int .i64 (a : Int), .bool b] 78) := (HBL.out.ext he3).ext he5; clear hb4 he4 hk5)
    | (refine wl_load rfl rowI rfl rfl HBL.out rfl ?_)
    | (go_at_call 57; refine (refTake_any HR.out (HB.out.1.ext HS1.out.ext) HB.out.2.1 _).mono ?_; rintro e w3 ⟨v2, ta, tn, tc, rfl, hv2, htn, hto, he3⟩; obtain ⟨a2, b2, rfl, ha2, hst2⟩ := hv2; have HV2 : Hid (a2 ≤ B.length ∧ (takeS B st1 (N : Nat)).1 = (if b2 = true then none else some a2)) := ⟨ha2, hst2⟩; have HTO : Hid (OB w3 w0.heap.size (.slice ta tn tc) (takeS B st1 (N : Nat)).2) := hto.base HS1.out.ext.size; clear ha2 hst2 htn hto))
  go_ret
  have hS5 := (HS1.out.grow (frd_rd HB.out.2.2) he3).grow (frd_rd HB.out.2.2) he5
  have hO6 := (HTO.out.ext he5).but hk6 (HTO.out.ext he5 |>.ne HBg.out (by decide))
  exact ⟨ta, tn, tc, rfl, hO6, hS5.step (frd_rd HB.out.2.2) hk6 ⟨a2, b2, hb6, HV2.out.1, HV2.out.2⟩⟩
end Tlv
end Go.Proofs.YtfhoielfekeihaaDoor

/- A relation under which an own block of bytes may get more behind, step by step. No condition of its own. -/
namespace Go.Proofs.YtfhoielfekeihaaDoor
namespace Tlv
open Go Go.RowKit
set_option linter.unusedVariables false
set_option linter.unusedSimpArgs false
set_option maxRecDepth 100000


theorem ci_cells (l : List Nat) : (ci l).map (Value.int .u8) = cellsB l := by simp [ci, cellsB]
theorem take_pre {l F : List Nat} {C : Array Value} (hp : l <+: F) (h : C.toList.take F.length = cellsB F) : C.toList.take l.length = cellsB l := by
  obtain ⟨r, rfl⟩ := hp
  have h1 := congrArg (List.take l.length) h
  rw [List.take_take, Nat.min_eq_left (by simp)] at h1
  rw [h1]
  unfold cellsB
  rw [List.map_append, List.take_left' (by simp)]
theorem cellsB_inj {l m : List Nat} (h : cellsB l = cellsB m) : l = m := by
  have : Function.Injective (fun x : Nat => Value.int .u8 (x : Nat)) := fun a b h => by simp at h; omega
  exact (List.map_inj_right (fun a b h => this h)).1 h
/-- Memory grows; a block of bytes of the own that begins with K may get more of F behind it. -/
structure Gr (B : Nat) (K F : List Nat) (a b : World) : Prop where
  os : b.os = a.os
  tape : b.tape = a.tape
  output : b.output = a.output
  size : a.heap.size ≤ b.heap.size
  block : ∀ g, g < a.heap.size → b.heap[g]? = a.heap[g]? ∨ (B ≤ g ∧ ∃ C C' : Array Value, a.heap[g]? = some (.cells C 5 (0, 0)) ∧ b.heap[g]? = some (.cells C' 5 (0, 0)) ∧ C'.size = C.size ∧ C.toList.take K.length = cellsB K ∧ ∀ l, l <+: F → C.toList.take l.length = cellsB l → C'.toList.take l.length = cellsB l)
theorem Gr.refl {B : Nat} {K F : List Nat} (w : World) : Gr B K F w w := ⟨rfl, rfl, rfl, Nat.le_refl _, fun _ _ => .inl rfl⟩
theorem Gr.trans {B : Nat} {K F : List Nat} {a b c : World} (h : Gr B K F a b) (k : Gr B K F b c) : Gr B K F a c := by
  refine ⟨k.os.trans h.os, k.tape.trans h.tape, k.output.trans h.output, Nat.le_trans h.size k.size, fun g hg => ?_⟩
  rcases h.block g hg with e1 | ⟨hB, C, C', a1, a2, a3, a4, a5⟩
  · rcases k.block g (Nat.lt_of_lt_of_le hg h.size) with e2 | ⟨hB, D, D', b1, b2, b3, b4, b5⟩
    · exact .inl (e2.trans e1)
    · exact .inr ⟨hB, D, D', by rw [← e1]; exact b1, b2, b3, b4, b5⟩
  · rcases k.block g (Nat.lt_of_lt_of_le hg h.size) with e2 | ⟨_, D, D', b1, b2, b3, b4, b5⟩
    · exact .inr ⟨hB, C, C', a1, e2.trans a2, a3, a4, a5⟩
    · rw [a2] at b1
      simp only [Option.some.injEq, Obj.cells.injEq, and_true] at b1
      subst b1
      exact .inr ⟨hB, C, D', a1, b2, b3.trans a3, a4, fun l hl ht => b5 l hl (a5 l hl ht)⟩
theorem Gr.of_ext {B : Nat} {K F : List Nat} {a b : World} (h : Ext a b) : Gr B K F a b := ⟨h.os, h.tape, h.output, h.size, fun g hg => .inl (h.block g hg)⟩
theorem Gr.extO {B : Nat} {K F : List Nat} {w a b : World} (h : Gr B K F a b) (he : Ext w a) (hB : w.heap.size ≤ B) : Ext w b :=
  ⟨h.os.trans he.os, h.tape.trans he.tape, h.output.trans he.output, Nat.le_trans he.size h.size, fun g hg => by
    rcases h.block g (Nat.lt_of_lt_of_le hg he.size) with e | ⟨hb, _⟩
    · exact e.trans (he.block g hg)
    · omega⟩
theorem Gr.blk {B : Nat} {K F : List Nat} {a b : World} (h : Gr B K F a b) {g t : Nat} {C : Array Value} (hb : Blk a g C t) (ht : t ≠ 5) : Blk b g C t := by
  rcases h.block g hb.lt with e | ⟨_, D, D', a1, _⟩
  · exact e.trans hb
  · have : some (Obj.cells C t (0, 0)) = some (.cells D 5 (0, 0)) := hb.symm.trans a1
    simp only [Option.some.injEq, Obj.cells.injEq] at this
    exact absurd this.2.1 ht
theorem Gr.ob {B : Nat} {K F : List Nat} {a b : World} (ht : Gr B K F a b) {v : Value} {l : List Nat} (h : OB a B v l) (hp : l <+: F) : OB b B v l := by
  refine ⟨⟨⟨h.own.1.1, ?_⟩, h.own.2⟩, h.all⟩
  rcases h.own.1.2 with h0 | ⟨g, cap, cur, rfl, hb, hg, hnc, hcm, hcs, htk⟩
  · exact .inl h0
  · rcases ht.block g (Array.getElem?_eq_some_iff.1 hg).1 with e | ⟨_, C, C', a1, a2, a3, a4, a5⟩
    · exact .inr ⟨g, cap, cur, rfl, hb, e.trans hg, hnc, hcm, hcs, htk⟩
    · rw [hg] at a1
      simp only [Option.some.injEq, Obj.cells.injEq, and_true] at a1
      subst a1
      refine .inr ⟨g, cap, C', rfl, hb, a2, hnc, hcm, a3.trans hcs, ?_⟩
      rw [Nat.mul_one, ci_len, ci_cells] at htk ⊢
      exact a5 l hp htk
theorem Gr.obK {B : Nat} {K F : List Nat} {a b : World} (ht : Gr B K F a b) (hKF : K <+: F) {v : Value} {l : List Nat} (h : OB a B v l) (hl : l.length ≤ K.length) : OB b B v l := by
  refine ⟨⟨⟨h.own.1.1, ?_⟩, h.own.2⟩, h.all⟩
  rcases h.own.1.2 with h0 | ⟨g, cap, cur, rfl, hb, hg, hnc, hcm, hcs, htk⟩
  · exact .inl h0
  · rcases ht.block g (Array.getElem?_eq_some_iff.1 hg).1 with e | ⟨_, C, C', a1, a2, a3, a4, a5⟩
    · exact .inr ⟨g, cap, cur, rfl, hb, e.trans hg, hnc, hcm, hcs, htk⟩
    · rw [hg] at a1
      simp only [Option.some.injEq, Obj.cells.injEq, and_true] at a1
      subst a1
      refine .inr ⟨g, cap, C', rfl, hb, a2, hnc, hcm, a3.trans hcs, ?_⟩
      rw [Nat.mul_one, ci_len, ci_cells] at htk ⊢
      have hpre : l <+: K := by
        have h1 := congrArg (List.take l.length) a4
        rw [List.take_take, Nat.min_eq_left hl, htk] at h1
        have h2 : cellsB l = cellsB (K.take l.length) := by rw [h1]; simp [cellsB]
        rw [cellsB_inj h2]
        exact List.take_prefix _ _
      exact a5 l (hpre.trans hKF) htk
theorem cells_app (l m : List Nat) : cellsB l ++ cellsB m = cellsB (l ++ m) := by simp [cellsB]
theorem cells_len (l : List Nat) : (cellsB l).length = l.length := by simp [cellsB]
/-- append, to the block: one step. -/
theorem run_appG (w : World) (base ty : Nat) (v x : Value) (l z K F : List Nat) (hv : OB w base v l) (hx : BytesAt w x z) (hlen : l.length + z.length ≤ 1000000) (hbase : base ≤ w.heap.size) (hK : K <+: l) (hF : l ++ z <+: F) :
    ∃ ad cap w', (Builtin.append_ #[22, 22] ty #[v, x]).run Tryd.prog w = .ok (.slice ad (l ++ z).length cap) w' ∧ OB w' base (.slice ad (l ++ z).length cap) (l ++ z) ∧ Gr base K F w w' := by
  rcases hv.own.1.2 with ⟨rfl, h0⟩ | ⟨g, cap, cur, rfl, hb, hg, hnc, hcm, hcs, htk⟩
  · obtain ⟨ad, cap, w', hr, h1, h2, _⟩ := run_appB w base ty _ x l z hv hx hlen hbase
    exact ⟨ad, cap, w', hr, h1, Gr.of_ext (keep_none h2)⟩
  · obtain ⟨i, hi, hz, hs, hby⟩ := numT8.ex
    have hall := hv.all.app hx.1
    obtain ⟨hx1, hx2, ⟨rfl, rfl⟩ | ⟨ad, c, rfl, _, _, hc⟩⟩ := hx
    · have hr := run_append_owned_none (P := Tryd.prog) w base 22 ty 5 i 1 numT8.ut hi _ _ _ hv.own.1
      rw [List.append_nil]
      rw [ci_len] at hr hv ⊢
      exact ⟨_, _, w, hr, hv, Gr.refl _⟩
    · have hnews : ∀ j u, (cellsB z)[j]? = some u → w.cell? (ad.add j) = some u := fun j u hu => by
        obtain ⟨hj, rfl⟩ := cellsB_get hu
        exact hc j hj
      have e1 : (ci l).length = l.length := ci_len l
      have e2 : (ci l).map (Value.int .u8) = cellsB l := ci_cells l
      have hown := hv.own.1
      rw [e1] at hown hnc htk ⊢
      rw [e2] at hown htk
      rw [Nat.mul_one] at htk hcs
      have eL : (l ++ z).length = l.length + z.length := List.length_append
      by_cases hf : l.length + z.length ≤ cap
      · have hfit : l.length * i.size + (cellsB z).length ≤ cur.size := by rw [hs, Nat.mul_one, cells_len, hcs]; exact hf
        have hr := run_append_room (P := Tryd.prog) w 22 ty 5 i numT8.ut hi g l.length cap cur hg ad z.length c (cellsB z) (by rw [hs, Nat.mul_one, cells_len]) hnews (by simp [cellsB, Value.oneCell']) hf hfit
        rw [hs, Nat.mul_one, cells_len] at hr
        obtain ⟨cs, hcsE⟩ : ∃ cs, cs = (cur.toList.take l.length ++ cellsB z ++ cur.toList.drop (l.length + z.length)).toArray := ⟨_, rfl⟩
        rw [← hcsE] at hr
        have hcl : cs.toList = cellsB (l ++ z) ++ cur.toList.drop (l.length + z.length) := by rw [hcsE, htk, cells_app]
        have hsz : cs.size = cur.size := by
          have h1 := congrArg List.length hcl
          simp only [List.length_append, cells_len, List.length_drop, Array.length_toList] at h1
          omega
        have hnew := setRow_heap w g cur cs 5 _ hg
        have ht0 : cs.toList.take (l ++ z).length = cellsB (l ++ z) := by rw [hcl]; exact List.take_left' (cells_len _)
        refine ⟨_, _, w.setRow g cs, by rw [eL]; exact hr, ⟨⟨⟨?_, .inr ⟨g, cap, cs, by rw [ci_len], hb, hnew, ?_, hcm, ?_, ?_⟩⟩, ?_⟩, hall⟩, ⟨rfl, rfl, rfl, by simp, fun k hk => ?_⟩⟩
        · rw [ci_len, List.length_map, ci_len, Nat.mul_one]
        · rw [ci_len, eL]; exact hf
        · rw [hsz, hcs, Nat.mul_one]
        · rw [ci_len, ci_cells, Nat.mul_one]; exact ht0
        · rw [ci_len]; unfold maxLen; omega
        · by_cases hkg : k = g
          · subst hkg
            refine .inr ⟨hb, cur, cs, hg, hnew, hsz, take_pre hK htk, fun p hp htp => ?_⟩
            by_cases hle : p.length ≤ (l ++ z).length
            · exact take_pre (List.prefix_of_prefix_length_le hp hF hle) ht0
            · have hpre : l ++ z <+: p := List.prefix_of_prefix_length_le hF hp (by omega)
              obtain ⟨q, rfl⟩ := hpre
              rw [hcl]
              have hd : (cur.toList.drop (l.length + z.length)).take q.length = cellsB q := by
                have h1 := congrArg (List.drop (l.length + z.length)) htp
                rw [List.drop_take, ← cells_app, List.drop_left' (by rw [cells_len, eL])] at h1
                rw [← h1]
                congr 1
                rw [List.length_append, eL]; omega
              rw [List.length_append, ← cells_app (l ++ z) q, List.take_append, cells_len, List.take_of_length_le (by rw [cells_len]; omega)]
              congr 1
              rw [show (l ++ z).length + q.length - (l ++ z).length = q.length by omega]
              exact hd
          · exact .inl (setRow_other w g k cs hkg)
      · obtain ⟨v', w', hr, h1, h2⟩ := run_append_arg_grows (P := Tryd.prog) w 22 ty 5 i (.int .u8 0) 1 1 numT8.ut hi hz hs hby rfl (by omega) ⟨g, 0, none⟩ l.length cap (cellsB l) (by simp [cellsB]) (fun j u hu => by
          rw [add_plain, Nat.zero_add, hown.cellAt j (by have := (List.getElem?_eq_some_iff.1 hu).1; simpa [cellsB] using this)]; exact hu) ad z.length c (cellsB z) (by simp [cellsB]) hnews (by omega) (by unfold maxLen; omega) (by omega)
        rw [cells_app] at h1
        have hO : OB w' base v' (l ++ z) := OB.base ⟨⟨by rw [ci_len, ci_cells, eL]; exact h1, by rw [ci_len]; unfold maxLen; omega⟩, hall⟩ hbase
        obtain ⟨a', c', rfl⟩ := hO.form
        exact ⟨a', c', w', hr, hO, Gr.of_ext (Ext.of_grown h2)⟩
/-- A slice of the own that reads as these bytes. -/
def NumV (N0 : Nat) (l : List Nat) : World → Value → Prop := fun w v => ∃ a c, v = .slice a l.length c ∧ OB w N0 v l
theorem NumV.turn {N0 : Nat} {l K F : List Nat} {a b : World} {v : Value} (h : NumV N0 l a v) (hR : Gr N0 K F a b) (hp : l <+: F) : NumV N0 l b v := by
  obtain ⟨x, c, e, ho⟩ := h
  exact ⟨x, c, e, hR.ob ho hp⟩
theorem NumV.turnK {N0 : Nat} {l K F : List Nat} {a b : World} {v : Value} (h : NumV N0 l a v) (hR : Gr N0 K F a b) (hKF : K <+: F) (hp : l.length ≤ K.length) : NumV N0 l b v := by
  obtain ⟨x, c, e, ho⟩ := h
  exact ⟨x, c, e, hR.obK hKF ho hp⟩
theorem OB.lit (w : World) (base : Nat) (l : List Nat) (hl : AllB l) (h1 : l.length ≤ 1000) (hb : base ≤ w.heap.size) : OB (w.alloc (.cells (cellsB l).toArray 5)) base (.slice (some ⟨w.heap.size, 0, none⟩) l.length l.length) l := by
  have := World.ownsRow_lit (base := base) (e := 5) (size := 1) w (cellsB l).toArray l.length hb (by unfold maxLen; omega) (by simp [cellsB])
  refine ⟨⟨?_, by rw [ci_len]; unfold maxLen; omega⟩, hl⟩
  rw [ci_len, ci_cells]
  exact this
theorem be_one {n : Nat} (h : n < 256) : be n 1 = [n] := by
  simp only [be, Nat.pow_zero, Nat.div_one]
  rw [Nat.mod_eq_of_lt h]
theorem exec_runG {r : Operand → Value} {o : Oper} {s x : Operand} (ho : o.op = .call { callee := .builtin .append, args := #[s, x], argTypes := #[22, 22] }) {w w' : World} {v u z : Value} (hs : r s = v) (hx : r x = u) (hr : (Builtin.append_ #[22, 22] o.type #[v, u]).run Tryd.prog w = .ok z w') : (execOp r o).run Tryd.prog w = .ok (.value z) w' := by
  simp only [execOp, ho, resolve, invoke, builtin, Sem.run_bind, Sem.run_pure, Result.andThen_ok, List.map_toArray, List.map_cons, List.map_nil, hs, hx, hr]
end Tlv
end Go.Proofs.YtfhoielfekeihaaDoor

/- A law on regions that draw their order, under a relation, and whose last operation lays a slot that the others read. No condition of its own. -/
namespace Go.Proofs.YtfhoielfekeihaaDoor
open Go
set_option linter.unusedVariables false

section
variable {P : Program} {mk : Tmp → Option Nat} {init : List Oper} {ol : Oper} {a0 : Act} {R : World → World → Prop} {V : Nat → World → Value → Prop} {w0 : World} {Q : Exit → Act → World → Prop} {n : Nat}

theorem factsL_any (hsh : shapeB mk init n = true) (hn : a0.tmps.size = n) (hV : ∀ i w w' v, R w w' → V i w v → V i w' v) (hT : ∀ a b c, R a b → R b c → R a c)
    (hgu : ∀ (i : Nat) o, init[i]? = some o → o.guard = none) (x : Operand) (hol : ol.op = .assign x) (hgl : ol.guard = none)
    (hla : ∀ i, i < init.length → afterB ol i = true ∨ ∃ (j : Nat) (oj : Oper), (init ++ [ol])[j]? = some oj ∧ afterB ol j = true ∧ afterB oj i = true)
    (hlb : ∀ e ∈ ol.after, Region.binds .any e = true → e.on < init.length)
    (hG : ∀ i o, init[i]? = some o → Good P mk a0 R V w0 i o)
    (hQ : ∀ a w (listed : Array Bool), (∀ i, i < init.length → listed.getD i false = true) → Inv init a0 R V w0 listed a w → Q .normal (a.put ol.dst (a.eval x)) w) :
    ∀ (fuel : Nat) (listed : Array Bool) (a : Act) (w : World), listed.size = init.length + 1 → listed.countP (· == false) ≤ fuel → listed.getD init.length true = false →
      (∀ (j : Nat) oj, (init ++ [ol])[j]? = some oj → listed.getD j false = true → ∀ e ∈ oj.after, Region.binds .any e = true → listed.getD e.on false = true) → Inv init a0 R V w0 listed a w → wpAny P .any (init ++ [ol]).toArray Q fuel listed a w := by
  have lt_of : ∀ {listed : Array Bool} {i : Nat}, listed.getD i true = false → i < listed.size := fun {listed i} h => by
    rcases Nat.lt_or_ge i listed.size with h' | h'
    · exact h'
    · simp [Array.getElem?_eq_none h'] at h
  have some_ready : ∀ (listed : Array Bool), listed.size = init.length + 1 → listed.getD init.length true = false → Region.ready .any (init ++ [ol]).toArray listed ≠ [] := by
    intro listed hs hl hr
    have key : ∀ i, i < init.length → listed.getD i false = true := by
      intro i
      induction i using Nat.strongRecOn with
      | _ i ih =>
        intro hi
        cases hb : listed.getD i false with
        | true => rfl
        | false =>
          exfalso
          have ho : init[i]? = some init[i] := by simp [hi]
          have : i ∈ Region.ready .any (init ++ [ol]).toArray listed := by
            rw [mem_ready]
            refine ⟨by simpa [hs, show i < init.length + 1 by omega] using hb, init[i], by simp [List.getElem?_append_left hi, hi], fun e he hbi => ?_⟩
            have hsp := shape_spec hsh ho
            simp only [shapeOneB, Bool.and_eq_true] at hsp
            have h5 := Array.all_eq_true_iff_forall_mem.1 hsp.2 e he
            simp [hbi] at h5
            exact ih e.on h5 (by omega)
          rw [hr] at this
          cases this
    have : init.length ∈ Region.ready .any (init ++ [ol]).toArray listed := by
      rw [mem_ready]
      exact ⟨hl, ol, by simp, fun e he hb => key _ (hlb e he hb)⟩
    rw [hr] at this
    cases this
  intro fuel
  induction fuel with
  | zero =>
    intro listed a w hs hc hl hcl hI
    exfalso
    have hlt := lt_of hl
    have h1 : listed.countP (· == false) = 0 := by omega
    rw [Array.countP_eq_zero] at h1
    have h2 : listed[init.length] = false := by simpa [hlt] using hl
    have := h1 listed[init.length] (Array.getElem_mem hlt)
    simp [h2] at this
  | succ fuel ih =>
    intro listed a w hs hc hl hcl hI
    refine ⟨fun hr => absurd hr (some_ready listed hs hl), fun i hi => ?_⟩
    obtain ⟨hli, o, ho', hall⟩ := mem_ready.1 hi
    have hoA : (init ++ [ol])[i]? = some o := by simpa using ho'
    unfold wpOp
    simp only [ho']
    by_cases hil : i = init.length
    · subst hil
      have : o = ol := by simpa using hoA.symm
      subst this
      have hothers : ∀ j, j < init.length → listed.getD j false = true := fun j hj => by
        rcases hla j hj with h1 | ⟨j2, oj, hoj, h1, h2⟩
        · obtain ⟨e, he, hb, rfl⟩ := after_spec h1
          exact hall e he hb
        · obtain ⟨e, he, hb, rfl⟩ := after_spec h1
          obtain ⟨e2, he2, hb2, rfl⟩ := after_spec h2
          exact hcl e.on oj hoj (hall e he hb) e2 he2 hb2
      simp only [Region.wanted, hgl, if_true]
      refine .inl (give_wp (K := fun v w' => v = a.eval x ∧ w' = w) (give_move (.inr hol) ⟨rfl, rfl⟩) fun v w' ⟨hv, hw⟩ => ?_)
      subst hv hw
      have hq : Q .normal (a.put o.dst (a.eval x)) w' := hQ a w' listed hothers hI
      have hnil : Region.ready .any (init ++ [o]).toArray (listed.setIfInBounds init.length true) = [] := by
        cases hr : Region.ready .any (init ++ [o]).toArray (listed.setIfInBounds init.length true) with
        | nil => rfl
        | cons j js =>
          exfalso
          have hj : j ∈ Region.ready .any (init ++ [o]).toArray (listed.setIfInBounds init.length true) := by rw [hr]; simp
          have h0 := (mem_ready.1 hj).1
          have hlt := lt_of h0
          simp [hs] at hlt
          by_cases e : j = init.length
          · subst e; simp [hs] at h0
          · have := hothers j (by omega)
            rw [getD_set_ne true (Ne.symm e)] at h0
            simp [hs, hlt] at this h0
            rw [this] at h0; cases h0
      cases fuel with
      | zero => exact ⟨hnil, hq⟩
      | succ f => exact ⟨fun _ => hq, fun j hj => by rw [hnil] at hj; cases hj⟩
    · have hil' : i < init.length := by
        rcases Nat.lt_or_ge i (init.length + 1) with h | h
        · omega
        · rw [List.getElem?_eq_none (by simp; omega)] at hoA; cases hoA
      have ho : init[i]? = some o := by rwa [List.getElem?_append_left hil'] at hoA
      have hg := hG i o ho a.eval w hI.rel (factsOf_mk (hI.facts hsh ho hall))
      have hgd := hgu i o ho
      have next : ∀ v w', R w w' ∧ V i w' v → wpAny P .any (init ++ [ol]).toArray Q fuel (listed.setIfInBounds i true) (a.put o.dst v) w' := fun v w' ⟨h1, h2⟩ => by
        refine ih _ _ _ (by simp [hs]) (count_set hli hc) (by rw [getD_set_ne true hil]; exact hl) ?_ (hI.put hsh hn hV hT ho hli h1 h2)
        intro j oj hoj hlj e he hb
        have keep : ∀ x, listed.getD x false = true → (listed.setIfInBounds i true).getD x false = true := fun x hx => by
          by_cases e' : i = x
          · subst e'; exact absurd (getD_false2 hli) (by rw [hx]; simp)
          · rw [getD_set_ne false e']; exact hx
        by_cases e' : i = j
        · subst e'
          rw [hoA] at hoj; cases hoj
          exact keep _ (hall e he hb)
        · rw [getD_set_ne false e'] at hlj
          exact keep _ (hcl j oj hoj hlj e he hb)
      simp only [hgd] at hg
      simp only [Region.wanted, hgd, if_true]
      exact .inl (give_wp hg next)
end

/-- THE LAW. -/
theorem wp_region_factsL {P : Program} {ops : List Oper} {a0 : Act} {Q : Exit → Act → World → Prop} {id : Nat} {w : World} (mk : Tmp → Option Nat) (n : Nat) (R : World → World → Prop) (Vs : List Fact) (hne : ops ≠ []) (t : Tmp) (jx d : Nat) (hx : (ops.getLast hne).op = .assign (.tmp t)) (hd : (ops.getLast hne).dst = some d) (hj : (ops.dropLast[jx]?).map (·.dst) = some (some t))
    (hlen : Vs.length = ops.dropLast.length) (hm : P.follows .mixedOrders = true) (hsh : shapeB mk ops.dropLast n = true) (hn : a0.tmps.size = n) (hL : stageLB ops = true)
    (hRf : ∀ w, R w w) (hT : ∀ a b c, R a b → R b c → R a c) (hK : KeepAll R Vs) (hG : GoodAll P mk a0 R (at_ Vs) w.drew 0 ops.dropLast)
    (hQ : ∀ (vs : Nat → Value) (w' : World) (a' : Act), R w.drew w' → HoldAll w' vs 0 Vs → a' = (putAll vs ops.dropLast 0 a0).put (some d) (vs jx) → Q .normal a' w') :
    (Code.region id ops.toArray true).wp P Q a0 w := by
  have e : ops.dropLast ++ [ops.getLast hne] = ops := List.dropLast_concat_getLast hne
  generalize ops.getLast hne = ol at *
  generalize ops.dropLast = init at *
  subst e
  refine wp_region_any hm ?_
  unfold stageLB at hL
  rw [show (init ++ [ol]).length - 1 = init.length by simp, show (init ++ [ol])[init.length]? = some ol by simp] at hL
  simp only [Bool.and_eq_true, List.all_eq_true, List.mem_range, Option.isNone_iff_eq_none, decide_eq_true_eq, List.dropLast_concat] at hL
  obtain ⟨⟨⟨⟨_, h2⟩, h3⟩, h4⟩, h5⟩ := hL
  have h := factsL_any (P := P) (init := init) (ol := ol) (a0 := a0) (R := R) (V := at_ Vs) (w0 := w.drew) (Q := Q) (n := n) hsh hn hK.at hT
    (fun i o hi => h3 o (List.mem_of_getElem? hi)) (.tmp t) hx h2
    (fun i hi => by
      have := h5 i hi
      rw [Bool.or_eq_true] at this
      rcases this with h | h
      · exact .inl h
      · obtain ⟨j, hj, h2⟩ := List.any_eq_true.1 h
        cases hoj : (init ++ [ol])[j]? with
        | none => rw [hoj] at h2; cases h2
        | some oj =>
          rw [hoj] at h2
          simp only [Bool.and_eq_true] at h2
          exact .inr ⟨j, oj, hoj, h2.1, h2.2⟩)
    (fun e he hb => by
      have := Array.all_eq_true_iff_forall_mem.1 h4 e he
      simpa [hb] using this)
    (fun i o hi => by
      have := hG.at i o hi
      rwa [Nat.zero_add] at this)
    (fun a w' listed hlist hB => by
      have hB' : Inv init a0 (fun _ _ => True) (at_ Vs) w.drew (Array.replicate init.length true) a w' := by
        refine ⟨trivial, hB.defers, hB.size, fun t ht => ?_, fun i o hi _ => ?_⟩
        · refine hB.rest t fun i o hi hd => ?_
          have := ht i o hi hd
          have hlt : i < init.length := by
            rcases Nat.lt_or_ge i init.length with h' | h'
            · exact h'
            · simp [List.getElem?_eq_none h'] at hi
          simp [hlt] at this
        · have hlt : i < init.length := by
            rcases Nat.lt_or_ge i init.length with h' | h'
            · exact h'
            · simp [List.getElem?_eq_none h'] at hi
          exact hB.done i o hi (hlist i hlt)
      obtain ⟨vs, rfl, hv⟩ := hB'.whole hsh hn
      obtain ⟨oj, hoj, hdj⟩ := Option.map_eq_some_iff.1 hj
      have hs := shape_spec hsh hoj
      simp only [shapeOneB, hdj, Bool.and_eq_true, decide_eq_true_eq] at hs
      have he : (putAll vs init 0 a0).eval (.tmp t) = vs jx := by
        have := putAll_at vs t init 0 a0 jx oj hoj hdj (by rw [hn]; exact hs.1.2.2) (fun k' o' hk' hd' => shape_dst hsh hk' hoj hd' hdj)
        rw [Nat.zero_add] at this
        simp [Act.eval, this]
      rw [hd, he]
      exact hQ vs w' _ hB.rel (HoldAll.mk fun i hi => by rw [Nat.zero_add]; exact hv i (by omega)) rfl)
    (init ++ [ol]).length (Array.replicate (init ++ [ol]).length false) a0 w.drew (by simp) (by
      have := Array.countP_le_size (p := (· == false)) (xs := Array.replicate (init ++ [ol]).length false)
      simpa using this) (by simp) (fun j oj hoj hl => by
        exfalso
        by_cases h : j < (init ++ [ol]).length
        · rw [Array.getD_eq_getD_getElem?, Array.getElem?_replicate, if_pos h] at hl; cases hl
        · rw [Array.getD_eq_getD_getElem?, Array.getElem?_replicate, if_neg h] at hl; cases hl)
    ⟨hRf _, rfl, rfl, fun _ _ => rfl, fun i o hi hl => by
        exfalso
        by_cases h : i < (init ++ [ol]).length
        · rw [Array.getD_eq_getD_getElem?, Array.getElem?_replicate, if_pos h] at hl; cases hl
        · rw [Array.getD_eq_getD_getElem?, Array.getElem?_replicate, if_neg h] at hl; cases hl⟩
  simpa using h
end Go.Proofs.YtfhoielfekeihaaDoor

/- A good cookie's bytes, by the document. No condition of its own. -/
namespace Go.Proofs.YtfhoielfekeihaaDoor
namespace Tlv
open Go Go.RowKit
set_option linter.unusedVariables false
set_option linter.unusedSimpArgs false
set_option maxRecDepth 100000


theorem give_three {w : World} {r : Operand → Value} {o : Oper} {K : Value → World → Prop} {x y z : Operand} {a b c : Nat} (ho : o.op = .buildSlice 22 3 #[(0, x), (1, y), (2, z)]) (hx : r x = .int .u8 (a : Int)) (hy : r y = .int .u8 (b : Int)) (hz : r z = .int .u8 (c : Int))
    (h : K (.slice (some ⟨w.heap.size, 0, none⟩) 3 3) (w.alloc (.cells (cellsB [a, b, c]).toArray 5))) : give Tryd.prog K ((execOp r o).run Tryd.prog w) := by
  obtain ⟨i, hi, hz', hs, hby⟩ := numT8.ex
  refine give_of (v := .slice (some ⟨w.heap.size, 0, none⟩) 3 3) (w' := w.alloc (.cells (cellsB [a, b, c]).toArray 5)) ?_ h
  simp [execOp, ho, hx, hy, hz, go_sem, run_underlying numT8.ut, hi, hz', hs, hby, sizeOf, typeInfo, zeroValue, cellsB]
theorem headV_3 (M L a b d e W O I NA : Nat) (hO : O < 256) (hI : I < 256) (hN : NA < 256) : (((((be M 8 ++ be L 8 ++ be a 4) ++ be b 4) ++ be d 4) ++ be e 4) ++ be W 4) ++ [O, I, NA] = be M 8 ++ (be L 8 ++ (be a 4 ++ (be b 4 ++ (be d 4 ++ (be e 4 ++ (be W 4 ++ (be O 1 ++ (be I 1 ++ be NA 1)))))))) := by
  rw [be_one hO, be_one hI, be_one hN]
  simp only [List.append_assoc, List.cons_append, List.nil_append]
set_option maxHeartbeats 32000000 in
theorem laid_ref {w : World} {c : Co} {s : So} (hc : CoAt w s c) (hf : FitC c) (hg : goodK c = true) :
    Calls Tryd.prog 28 #[.agg (KV c s)] w fun e w' => ∃ a n cp, e = .returned (.slice a n cp) ∧ n = (laidK c).length ∧ OB w' w.heap.size (.slice a n cp) (laidK c) ∧ Ext w w' := by
  have hn := goodK_nums hg
  obtain ⟨M, hM⟩ : ∃ W : Nat, c.made = (W : Int) := ⟨c.made.toNat, by omega⟩
  obtain ⟨L, hL⟩ : ∃ W : Nat, c.life = (W : Int) := ⟨c.life.toNat, by omega⟩
  obtain ⟨W, hW⟩ : ∃ W : Nat, c.win = (W : Int) := ⟨c.win.toNat, by omega⟩
  obtain ⟨O, hO⟩ : ∃ W : Nat, c.out = (W : Int) := ⟨c.out.toNat, by omega⟩
  obtain ⟨I, hI⟩ : ∃ W : Nat, c.inn = (W : Int) := ⟨c.inn.toNat, by omega⟩
  obtain ⟨NA, hNA⟩ : ∃ n, n = c.addrs.length := ⟨_, rfl⟩
  obtain ⟨NM, hNM⟩ : ∃ n, n = c.mr.length := ⟨_, rfl⟩
  obtain ⟨NP, hNP⟩ : ∃ n, n = c.pr.length := ⟨_, rfl⟩
  have HX : Hid (CoAt w s c ∧ FitC c ∧ (NA ≤ 4 ∧ NM ≤ 64 ∧ NP ≤ 64 ∧ O ≤ 8 ∧ I ≤ 8) ∧ (∀ x ∈ c.addrs, 1 ≤ x ∧ x ≤ 2147483647) ∧ NA = c.addrs.length ∧ NM = c.mr.length ∧ NP = c.pr.length) := ⟨hc, hf, by omega, hn.2.2.2.2.2.2.2.2.1, hNA, hNM, hNP⟩
  have HLK : Hid (laidK c = ((((((((((be M 8 ++ be L 8 ++ be c.mine 4) ++ be c.peers 4) ++ be c.mtsn 4) ++ be c.ptsn 4) ++ be W 4) ++ [O, I, NA]) ++ adsV c.addrs) ++ [NM]) ++ c.mr) ++ [NP] ++ c.pr ++ be c.tm 4) ++ be c.tp 4) := show _ = _ by
    unfold laidK headV tailV
    rw [hM, hL, hW, hO, hI, ← hNA, ← hNM, ← hNP, headV_3 _ _ _ _ _ _ _ _ _ _ (by omega) (by omega) (by omega), be_one (n := NM) (by omega), be_one (n := NP) (by omega)]
    simp only [List.append_assoc, Int.toNat_natCast]
  have wM : IntKind.u64.wrap (M : Int) = (M : Int) := by rw [IntKind.wrap_u64]; omega
  have vM : (M : Int) % 18446744073709551616 = (M : Int) := by omega
  have wL : IntKind.u64.wrap (L : Int) = (L : Int) := by rw [IntKind.wrap_u64]; omega
  have vL : (L : Int) % 18446744073709551616 = (L : Int) := by omega
  have wW : IntKind.u64.wrap (W : Int) = (W : Int) := by rw [IntKind.wrap_u64]; omega
  have vW : (W : Int) % 18446744073709551616 = (W : Int) := by omega
  have w_mine : IntKind.u64.wrap (c.mine : Int) = (c.mine : Int) := by rw [IntKind.wrap_u64]; have := hf.mine; omega
  have v_mine : (c.mine : Int) % 18446744073709551616 = (c.mine : Int) := by have := hf.mine; omega
  have w_peers : IntKind.u64.wrap (c.peers : Int) = (c.peers : Int) := by rw [IntKind.wrap_u64]; have := hf.peers; omega
  have v_peers : (c.peers : Int) % 18446744073709551616 = (c.peers : Int) := by have := hf.peers; omega
  have w_mtsn : IntKind.u64.wrap (c.mtsn : Int) = (c.mtsn : Int) := by rw [IntKind.wrap_u64]; have := hf.mtsn; omega
  have v_mtsn : (c.mtsn : Int) % 18446744073709551616 = (c.mtsn : Int) := by have := hf.mtsn; omega
  have w_ptsn : IntKind.u64.wrap (c.ptsn : Int) = (c.ptsn : Int) := by rw [IntKind.wrap_u64]; have := hf.ptsn; omega
  have v_ptsn : (c.ptsn : Int) % 18446744073709551616 = (c.ptsn : Int) := by have := hf.ptsn; omega
  have w_tm : IntKind.u64.wrap (c.tm : Int) = (c.tm : Int) := by rw [IntKind.wrap_u64]; have := hf.tm; omega
  have v_tm : (c.tm : Int) % 18446744073709551616 = (c.tm : Int) := by have := hf.tm; omega
  have w_tp : IntKind.u64.wrap (c.tp : Int) = (c.tp : Int) := by rw [IntKind.wrap_u64]; have := hf.tp; omega
  have v_tp : (c.tp : Int) % 18446744073709551616 = (c.tp : Int) := by have := hf.tp; omega
  have w8O : IntKind.u8.wrap (O : Int) = (O : Int) := by rw [IntKind.wrap_u8]; omega
  have v8O : (O : Int) % 256 = (O : Int) := by omega
  have w8I : IntKind.u8.wrap (I : Int) = (I : Int) := by rw [IntKind.wrap_u8]; omega
  have v8I : (I : Int) % 256 = (I : Int) := by omega
  have w8NA : IntKind.u8.wrap (NA : Int) = (NA : Int) := by rw [IntKind.wrap_u8]; omega
  have v8NA : (NA : Int) % 256 = (NA : Int) := by omega
  have w8NM : IntKind.u8.wrap (NM : Int) = (NM : Int) := by rw [IntKind.wrap_u8]; omega
  have v8NM : (NM : Int) % 256 = (NM : Int) := by omega
  have w8NP : IntKind.u8.wrap (NP : Int) = (NP : Int) := by rw [IntKind.wrap_u8]; omega
  have v8NP : (NP : Int) % 256 = (NP : Int) := by omega
  have CM0 : ∀ {wx : World}, Blk wx w.heap.size (KV c s) 26 → wx.cell? ⟨w.heap.size, 0, none⟩ = some (.int .i64 (M : Int)) := fun h => by rw [← hM]; exact kv0 h
  have CM1 : ∀ {wx : World}, Blk wx w.heap.size (KV c s) 26 → wx.cell? ⟨w.heap.size, 1, none⟩ = some (.int .i64 (L : Int)) := fun h => by rw [← hL]; exact kv1 h
  have CM6 : ∀ {wx : World}, Blk wx w.heap.size (KV c s) 26 → wx.cell? ⟨w.heap.size, 6, none⟩ = some (.int .i64 (W : Int)) := fun h => by rw [← hW]; exact kv6 h
  have CM7 : ∀ {wx : World}, Blk wx w.heap.size (KV c s) 26 → wx.cell? ⟨w.heap.size, 7, none⟩ = some (.int .i64 (O : Int)) := fun h => by rw [← hO]; exact kv7 h
  have CM8 : ∀ {wx : World}, Blk wx w.heap.size (KV c s) 26 → wx.cell? ⟨w.heap.size, 8, none⟩ = some (.int .i64 (I : Int)) := fun h => by rw [← hI]; exact kv8 h
  obtain ⟨aA, haA⟩ : ∃ x, x = s.aA := ⟨_, rfl⟩
  have CM9 : ∀ {wx : World}, Blk wx w.heap.size (KV c s) 26 → wx.cell? ⟨w.heap.size, 9, none⟩ = some (.slice aA NA s.aC) := fun h => by rw [haA, hNA, ← (nums_len hc.a).1]; exact kv9 h
  have CM10 : ∀ {wx : World}, Blk wx w.heap.size (KV c s) 26 → wx.cell? ⟨w.heap.size, 10, none⟩ = some (.slice s.mA NM s.mC) := fun h => by rw [hNM, ← (bytes_len hc.m).1]; exact kv10 h
  have CM11 : ∀ {wx : World}, Blk wx w.heap.size (KV c s) 26 → wx.cell? ⟨w.heap.size, 11, none⟩ = some (.slice s.pA NP s.pC) := fun h => by rw [hNP, ← (bytes_len hc.p).1]; exact kv11 h
  have HAt : Hid (NumsAt .i64 w (.slice aA NA s.aC) c.addrs) := show NumsAt .i64 w _ _ by rw [haA, hNA, ← (nums_len hc.a).1]; exact hc.a
  have HMt : Hid (BytesAt w (.slice s.mA NM s.mC) c.mr) := show BytesAt w _ _ by rw [hNM, ← (bytes_len hc.m).1]; exact hc.m
  have HPt : Hid (BytesAt w (.slice s.pA NP s.pC) c.pr) := show BytesAt w _ _ by rw [hNP, ← (bytes_len hc.p).1]; exact hc.p
  clear hc hf hg hn hM hL hW hO hI hNA hNM hNP haA
  go_enter Tryd.func28, Tryd.ntmps28
  refine wp_seq_k (fun K0 hK => ?_)
  have HK0 := Stop.mk hK
  clear hK
  go_wp2_with (first
    | (refine wl_box (C := KV c s) rfl rfl rfl ?_; intro w1 hb1 he1 hx; clear hx))
  refine HK0.go _ _ ?_
  clear HK0
  have HS1 : Hid (Blk w1 w.heap.size (KV c s) 26 ∧ Ext w w1 ∧ True) := ⟨hb1, he1, trivial⟩
  clear hb1 he1
  obtain ⟨F1, hF⟩ : ∃ F, F = be M 8 ++ be L 8 := ⟨_, rfl⟩
  have HPF : Hid (be M 8 <+: F1 ∧ F1 = be M 8 ++ be L 8 ∧ (be M 8).length + (be L 8).length ≤ 1000000 ∧ (be L 8).length ≤ (be M 8).length) := ⟨by rw [hF]; exact List.prefix_append _ _, hF, by rw [be_len, be_len]; decide, by rw [be_len, be_len]; exact Nat.le_refl _⟩
  have HL1 : Hid (F1 = be M 8 ++ be L 8 ∧ F1.length = 16) := ⟨hF, by rw [hF, List.length_append, be_len, be_len]⟩
  clear hF
  refine wp_seq_k (fun K1 hK => ?_)
  have HK1 := Stop.mk hK
  clear hK
  have HBx : ∀ {wx : World}, (Gr w.heap.size (be M 8) F1) w1.drew wx → Blk wx w.heap.size (KV c s) 26 := fun h => h.blk (HS1.out.1.ext (Ext.drew _)) (by decide)
  have HEx : ∀ {wx : World}, (Gr w.heap.size (be M 8) F1) w1.drew wx → Ext w wx := fun h => h.extO (HS1.out.2.1.trans (Ext.drew _)) (Nat.le_refl _)
  have HZx : ∀ {wx : World}, (Gr w.heap.size (be M 8) F1) w1.drew wx → w.heap.size ≤ wx.heap.size := fun h => (HEx h).size
  refine wp_region_facts (fun t => bif Nat.ble 5 t && Nat.ble t 13 then some (t - 5) else bif Nat.beq t 3 then some 9 else none) 101 (Gr w.heap.size (be M 8) F1)
    [Is (.pointer (some ⟨w.heap.size, 0, none⟩)),
     Is (.int .i64 (M : Int)),
     Is (.int .u64 (M : Int)),
     (NumV w.heap.size (be M 8)),
     Is (.pointer (some ⟨w.heap.size, 1, none⟩)),
     Is (.int .i64 (L : Int)),
     Is (.int .u64 (L : Int)),
     (NumV w.heap.size (be L 8)),
     (NumV w.heap.size F1),
     (NumV w.heap.size F1)]
    rfl (by kernel_rfl) (by kernel_rfl) rfl Gr.refl (fun _ _ _ => Gr.trans) ?_ ?_ ?_
  · exact KeepAll.is (KeepAll.is (KeepAll.is (KeepAll.cons (fun _ _ _ hR h => h.turn hR HPF.out.1) (KeepAll.is (KeepAll.is (KeepAll.is (KeepAll.cons (fun _ _ _ hR h => h.turnK hR HPF.out.1 HPF.out.2.2.2) (KeepAll.cons (fun _ _ _ hR h => h.turn hR (List.prefix_refl _)) (KeepAll.cons (fun _ _ _ hR h => h.turn hR (List.prefix_refl _)) (KeepAll.nil))))))))))
  · refine GoodAll.cons ?_ ?_
    · intro r wx hR hx
      obtain ⟨h1, _⟩ := hx
      replace h1 : r (.tmp 1) = (.pointer (some ⟨w.heap.size, 0, none⟩)) := h1
      exact give_of (by simp [execOp, h1, go_sem]) ⟨Gr.refl _, rfl⟩
    refine GoodAll.cons ?_ ?_
    · intro r wx hR hx
      obtain ⟨h1, _⟩ := hx
      replace h1 : r (.tmp 5) = (.pointer (some ⟨w.heap.size, 0, none⟩)) := h1
      exact give_of (exec_get one3 rfl h1 (CM0 (HBx hR))) ⟨Gr.refl _, rfl⟩
    refine GoodAll.cons ?_ ?_
    · intro r wx hR hx
      obtain ⟨h1, _⟩ := hx
      replace h1 : r (.tmp 6) = (.int .i64 (M : Int)) := h1
      exact give_of (by simp [execOp, h1, wM, vM, go_sem]) ⟨Gr.refl _, rfl⟩
    refine GoodAll.cons ?_ ?_
    · intro r wx hR hx
      obtain ⟨h1, h2, h3, _⟩ := hx
      replace h1 : r (.func 49) = .func (.func 49) #[] #[] := h1
      replace h2 : r (.tmp 7) = (.int .u64 (M : Int)) := h2
      replace h3 : r (.const (.int .i64 8)) = .int .i64 8 := h3
      refine give_func #[.int .u64 (M : Int), .int .i64 8] rfl h1 Tryd.call49 (by simp [h2, h3]) ?_
      refine (refNum_any M 8 _).mono ?_
      rintro e w1 ⟨qa, qm, qc, rfl, hqm, hqo, hqe⟩
      rw [numB8] at hqm hqo
      subst hqm
      exact ⟨_, rfl, Gr.of_ext hqe, _, _, rfl, hqo.base (HZx hR)⟩
    refine GoodAll.cons ?_ ?_
    · intro r wx hR hx
      obtain ⟨h1, _⟩ := hx
      replace h1 : r (.tmp 1) = (.pointer (some ⟨w.heap.size, 0, none⟩)) := h1
      exact give_of (by simp [execOp, h1, go_sem]) ⟨Gr.refl _, rfl⟩
    refine GoodAll.cons ?_ ?_
    · intro r wx hR hx
      obtain ⟨h1, _⟩ := hx
      replace h1 : r (.tmp 9) = (.pointer (some ⟨w.heap.size, 1, none⟩)) := h1
      exact give_of (exec_get one3 rfl h1 (CM1 (HBx hR))) ⟨Gr.refl _, rfl⟩
    refine GoodAll.cons ?_ ?_
    · intro r wx hR hx
      obtain ⟨h1, _⟩ := hx
      replace h1 : r (.tmp 10) = (.int .i64 (L : Int)) := h1
      exact give_of (by simp [execOp, h1, wL, vL, go_sem]) ⟨Gr.refl _, rfl⟩
    refine GoodAll.cons ?_ ?_
    · intro r wx hR hx
      obtain ⟨h1, h2, h3, _⟩ := hx
      replace h1 : r (.func 49) = .func (.func 49) #[] #[] := h1
      replace h2 : r (.tmp 11) = (.int .u64 (L : Int)) := h2
      replace h3 : r (.const (.int .i64 8)) = .int .i64 8 := h3
      refine give_func #[.int .u64 (L : Int), .int .i64 8] rfl h1 Tryd.call49 (by simp [h2, h3]) ?_
      refine (refNum_any L 8 _).mono ?_
      rintro e w1 ⟨qa, qm, qc, rfl, hqm, hqo, hqe⟩
      rw [numB8] at hqm hqo
      subst hqm
      exact ⟨_, rfl, Gr.of_ext hqe, _, _, rfl, hqo.base (HZx hR)⟩
    refine GoodAll.cons ?_ ?_
    · intro r wx hR hx
      obtain ⟨h1, h2, _⟩ := hx
      replace h1 : ((NumV w.heap.size (be M 8)) : Fact) wx (r (.tmp 8)) := h1
      replace h2 : ((NumV w.heap.size (be L 8)) : Fact) wx (r (.tmp 12)) := h2
      obtain ⟨xa, xc, xe, xo⟩ := h1
      obtain ⟨ya, yc, ye, yo⟩ := h2
      obtain ⟨ad, cap, w2, hr, ho2, ht⟩ := run_appG wx w.heap.size 22 _ _ (be M 8) (be L 8) (be M 8) F1 xo yo.bytes HPF.out.2.2.1 (HZx hR) (List.prefix_refl _) (by rw [← HPF.out.2.1]; exact List.prefix_refl _)
      exact give_of (exec_runG rfl rfl rfl hr) ⟨ht, by rw [HPF.out.2.1]; exact ⟨_, _, rfl, ho2⟩⟩
    refine GoodAll.cons ?_ ?_
    · intro r wx hR hx
      obtain ⟨h1, _⟩ := hx
      replace h1 : ((NumV w.heap.size F1) : Fact) wx (r (.tmp 13)) := h1
      exact give_move (.inr rfl) ⟨Gr.refl _, h1⟩
    exact GoodAll.nil
  · intro vs w2 aY hR hold ha
    have hv0 : vs 0 = (.pointer (some ⟨w.heap.size, 0, none⟩)) := hold.at 0
    have hv1 : vs 1 = (.int .i64 (M : Int)) := hold.at 1
    have hv2 : vs 2 = (.int .u64 (M : Int)) := hold.at 2
    have hv4 : vs 4 = (.pointer (some ⟨w.heap.size, 1, none⟩)) := hold.at 4
    have hv5 : vs 5 = (.int .i64 (L : Int)) := hold.at 5
    have hv6 : vs 6 = (.int .u64 (L : Int)) := hold.at 6
    obtain ⟨a2, c2, e9, ho9⟩ := hold.at 9
    simp only [List.dropLast_cons_cons, List.dropLast_singleton, putAll, Act.put, hv0, hv1, hv2, hv4, hv5, hv6, e9, List.setIfInBounds_toArray, List.set_cons_succ, List.set_cons_zero] at ha
    subst ha
    have HS2 : Hid (Blk w2 w.heap.size (KV c s) 26 ∧ Ext w w2 ∧ OB w2 w.heap.size (.slice a2 F1.length c2) F1) := ⟨HBx hR, HEx hR, by rw [← e9]; exact ho9⟩
    clear hold hR HBx HEx HZx hv0 hv1 hv2 hv4 hv5 hv6
    clear e9 ho9
    refine HK1.go _ _ ?_
    clear HK1
    clear HPF
    obtain ⟨F2, hF⟩ : ∃ F, F = (F1 ++ (be c.mine 4)) ++ (be c.peers 4) := ⟨_, rfl⟩
    have HPF : Hid (F1 <+: F2 ∧ F1 ++ (be c.mine 4) <+: F2 ∧ F2 = (F1 ++ (be c.mine 4)) ++ (be c.peers 4) ∧ F1.length + (be c.mine 4).length ≤ 1000000 ∧ (F1 ++ (be c.mine 4)).length + (be c.peers 4).length ≤ 1000000 ∧ (be c.mine 4).length ≤ F1.length ∧ (be c.peers 4).length ≤ F1.length) := ⟨by rw [hF, List.append_assoc]; exact List.prefix_append _ _, by rw [hF]; exact List.prefix_append _ _, hF, by (try rw [List.length_append]); (try rw [be_len]); (try rw [be_len]); have := HL1.out.2; omega, by (try rw [List.length_append]); (try rw [be_len]); (try rw [be_len]); have := HL1.out.2; omega, by (try rw [List.length_append]); (try rw [be_len]); (try rw [be_len]); have := HL1.out.2; omega, by (try rw [List.length_append]); (try rw [be_len]); (try rw [be_len]); have := HL1.out.2; omega⟩
    have HL2 : Hid (F2 = (F1 ++ (be c.mine 4)) ++ (be c.peers 4) ∧ F2.length = 24) := ⟨hF, by rw [hF, List.length_append, List.length_append, be_len, be_len]; have := HL1.out.2; omega⟩
    clear hF
    refine wp_seq_k (fun K2 hK => ?_)
    have HK2 := Stop.mk hK
    clear hK
    have HBx : ∀ {wx : World}, (Gr w.heap.size F1 F2) w2.drew wx → Blk wx w.heap.size (KV c s) 26 := fun h => h.blk (HS2.out.1.ext (Ext.drew _)) (by decide)
    have HEx : ∀ {wx : World}, (Gr w.heap.size F1 F2) w2.drew wx → Ext w wx := fun h => h.extO (HS2.out.2.1.trans (Ext.drew _)) (Nat.le_refl _)
    have HZx : ∀ {wx : World}, (Gr w.heap.size F1 F2) w2.drew wx → w.heap.size ≤ wx.heap.size := fun h => (HEx h).size
    have HPx : ∀ {wx : World}, (Gr w.heap.size F1 F2) w2.drew wx → OB wx w.heap.size (.slice a2 F1.length c2) F1 := fun h => h.ob (HS2.out.2.2.ext (Ext.drew _)) HPF.out.1
    refine wp_region_factsL (fun t => bif Nat.ble 14 t && Nat.ble t 24 then some (t - 14) else none) 101 (Gr w.heap.size F1 F2)
      [Is (.slice a2 F1.length c2),
       Is (.pointer (some ⟨w.heap.size, 2, none⟩)),
       Is (.int .u32 (c.mine : Int)),
       Is (.int .u64 (c.mine : Int)),
       (NumV w.heap.size (be c.mine 4)),
       (NumV w.heap.size (F1 ++ (be c.mine 4))),
       Is (.pointer (some ⟨w.heap.size, 3, none⟩)),
       Is (.int .u32 (c.peers : Int)),
       Is (.int .u64 (c.peers : Int)),
       (NumV w.heap.size (be c.peers 4)),
       (NumV w.heap.size F2)]
      (by intro h; cases h) 24 10 3 rfl rfl rfl rfl (by kernel_rfl) (by kernel_rfl) rfl (by kernel_rfl) Gr.refl (fun _ _ _ => Gr.trans) ?_ ?_ ?_
    · exact KeepAll.is (KeepAll.is (KeepAll.is (KeepAll.is (KeepAll.cons (fun _ _ _ hR h => h.turnK hR HPF.out.1 HPF.out.2.2.2.2.2.1) (KeepAll.cons (fun _ _ _ hR h => h.turn hR HPF.out.2.1) (KeepAll.is (KeepAll.is (KeepAll.is (KeepAll.cons (fun _ _ _ hR h => h.turnK hR HPF.out.1 HPF.out.2.2.2.2.2.2) (KeepAll.cons (fun _ _ _ hR h => h.turn hR (List.prefix_refl _)) (KeepAll.nil)))))))))))
    · refine GoodAll.cons ?_ ?_
      · intro r wx hR hx
        obtain ⟨h1, _⟩ := hx
        replace h1 : r (.tmp 3) = (.slice a2 F1.length c2) := h1
        exact give_move (.inl rfl) ⟨Gr.refl _, h1⟩
      refine GoodAll.cons ?_ ?_
      · intro r wx hR hx
        obtain ⟨h1, _⟩ := hx
        replace h1 : r (.tmp 1) = (.pointer (some ⟨w.heap.size, 0, none⟩)) := h1
        exact give_of (by simp [execOp, h1, go_sem]) ⟨Gr.refl _, rfl⟩
      refine GoodAll.cons ?_ ?_
      · intro r wx hR hx
        obtain ⟨h1, _⟩ := hx
        replace h1 : r (.tmp 15) = (.pointer (some ⟨w.heap.size, 2, none⟩)) := h1
        exact give_of (exec_get one22 rfl h1 (kv2 (HBx hR))) ⟨Gr.refl _, rfl⟩
      refine GoodAll.cons ?_ ?_
      · intro r wx hR hx
        obtain ⟨h1, _⟩ := hx
        replace h1 : r (.tmp 16) = (.int .u32 (c.mine : Int)) := h1
        exact give_of (by simp [execOp, h1, w_mine, v_mine, go_sem]) ⟨Gr.refl _, rfl⟩
      refine GoodAll.cons ?_ ?_
      · intro r wx hR hx
        obtain ⟨h1, h2, h3, _⟩ := hx
        replace h1 : r (.func 49) = .func (.func 49) #[] #[] := h1
        replace h2 : r (.tmp 17) = (.int .u64 (c.mine : Int)) := h2
        replace h3 : r (.const (.int .i64 4)) = .int .i64 4 := h3
        refine give_func #[.int .u64 (c.mine : Int), .int .i64 4] rfl h1 Tryd.call49 (by simp [h2, h3]) ?_
        refine (refNum_any c.mine 4 _).mono ?_
        rintro e w1 ⟨qa, qm, qc, rfl, hqm, hqo, hqe⟩
        rw [numB4] at hqm hqo
        subst hqm
        exact ⟨_, rfl, Gr.of_ext hqe, _, _, rfl, hqo.base (HZx hR)⟩
      refine GoodAll.cons ?_ ?_
      · intro r wx hR hx
        obtain ⟨h1, h2, _⟩ := hx
        replace h1 : r (.tmp 14) = (.slice a2 F1.length c2) := h1
        replace h2 : ((NumV w.heap.size (be c.mine 4)) : Fact) wx (r (.tmp 18)) := h2
        obtain ⟨ya, yc, ye, yo⟩ := h2
        obtain ⟨ad, cap, w2, hr, ho2, ht⟩ := run_appG wx w.heap.size 22 (.slice a2 F1.length c2) _ F1 (be c.mine 4) F1 F2 (HPx hR) yo.bytes HPF.out.2.2.2.1 (HZx hR) (List.prefix_refl _) HPF.out.2.1
        exact give_of (exec_runG rfl h1 rfl hr) ⟨ht, _, _, rfl, ho2⟩
      refine GoodAll.cons ?_ ?_
      · intro r wx hR hx
        obtain ⟨h1, _⟩ := hx
        replace h1 : r (.tmp 1) = (.pointer (some ⟨w.heap.size, 0, none⟩)) := h1
        exact give_of (by simp [execOp, h1, go_sem]) ⟨Gr.refl _, rfl⟩
      refine GoodAll.cons ?_ ?_
      · intro r wx hR hx
        obtain ⟨h1, _⟩ := hx
        replace h1 : r (.tmp 20) = (.pointer (some ⟨w.heap.size, 3, none⟩)) := h1
        exact give_of (exec_get one22 rfl h1 (kv3 (HBx hR))) ⟨Gr.refl _, rfl⟩
      refine GoodAll.cons ?_ ?_
      · intro r wx hR hx
        obtain ⟨h1, _⟩ := hx
        replace h1 : r (.tmp 21) = (.int .u32 (c.peers : Int)) := h1
        exact give_of (by simp [execOp, h1, w_peers, v_peers, go_sem]) ⟨Gr.refl _, rfl⟩
      refine GoodAll.cons ?_ ?_
      · intro r wx hR hx
        obtain ⟨h1, h2, h3, _⟩ := hx
        replace h1 : r (.func 49) = .func (.func 49) #[] #[] := h1
        replace h2 : r (.tmp 22) = (.int .u64 (c.peers : Int)) := h2
        replace h3 : r (.const (.int .i64 4)) = .int .i64 4 := h3
        refine give_func #[.int .u64 (c.peers : Int), .int .i64 4] rfl h1 Tryd.call49 (by simp [h2, h3]) ?_
        refine (refNum_any c.peers 4 _).mono ?_
        rintro e w1 ⟨qa, qm, qc, rfl, hqm, hqo, hqe⟩
        rw [numB4] at hqm hqo
        subst hqm
        exact ⟨_, rfl, Gr.of_ext hqe, _, _, rfl, hqo.base (HZx hR)⟩
      refine GoodAll.cons ?_ ?_
      · intro r wx hR hx
        obtain ⟨h1, h2, _⟩ := hx
        replace h1 : ((NumV w.heap.size (F1 ++ (be c.mine 4))) : Fact) wx (r (.tmp 19)) := h1
        replace h2 : ((NumV w.heap.size (be c.peers 4)) : Fact) wx (r (.tmp 23)) := h2
        obtain ⟨xa, xc, xe, xo⟩ := h1
        obtain ⟨ya, yc, ye, yo⟩ := h2
        obtain ⟨ad, cap, w2, hr, ho2, ht⟩ := run_appG wx w.heap.size 22 _ _ (F1 ++ (be c.mine 4)) (be c.peers 4) F1 F2 xo yo.bytes HPF.out.2.2.2.2.1 (HZx hR) (List.prefix_append _ _) (by rw [← HPF.out.2.2.1]; exact List.prefix_refl _)
        exact give_of (exec_runG rfl rfl rfl hr) ⟨ht, by rw [HPF.out.2.2.1]; exact ⟨_, _, rfl, ho2⟩⟩
      exact GoodAll.nil
    · intro vs w3 aY hR hold ha
      have hv0 : vs 0 = (.slice a2 F1.length c2) := hold.at 0
      have hv1 : vs 1 = (.pointer (some ⟨w.heap.size, 2, none⟩)) := hold.at 1
      have hv2 : vs 2 = (.int .u32 (c.mine : Int)) := hold.at 2
      have hv3 : vs 3 = (.int .u64 (c.mine : Int)) := hold.at 3
      have hv6 : vs 6 = (.pointer (some ⟨w.heap.size, 3, none⟩)) := hold.at 6
      have hv7 : vs 7 = (.int .u32 (c.peers : Int)) := hold.at 7
      have hv8 : vs 8 = (.int .u64 (c.peers : Int)) := hold.at 8
      obtain ⟨a3, c3, e9, ho9⟩ := hold.at 10
      simp only [List.dropLast_cons_cons, List.dropLast_singleton, putAll, Act.put, hv0, hv1, hv2, hv3, hv6, hv7, hv8, e9, List.setIfInBounds_toArray, List.set_cons_succ, List.set_cons_zero] at ha
      subst ha
      have HS3 : Hid (Blk w3 w.heap.size (KV c s) 26 ∧ Ext w w3 ∧ OB w3 w.heap.size (.slice a3 F2.length c3) F2) := ⟨HBx hR, HEx hR, by rw [← e9]; exact ho9⟩
      clear hold hR HBx HEx HZx HPx hv0 hv1 hv2 hv3 hv6 hv7 hv8
      clear e9 ho9
      refine HK2.go _ _ ?_
      clear HK2
      clear HPF
      obtain ⟨F3, hF⟩ : ∃ F, F = (F2 ++ (be c.mtsn 4)) ++ (be c.ptsn 4) := ⟨_, rfl⟩
      have HPF : Hid (F2 <+: F3 ∧ F2 ++ (be c.mtsn 4) <+: F3 ∧ F3 = (F2 ++ (be c.mtsn 4)) ++ (be c.ptsn 4) ∧ F2.length + (be c.mtsn 4).length ≤ 1000000 ∧ (F2 ++ (be c.mtsn 4)).length + (be c.ptsn 4).length ≤ 1000000 ∧ (be c.mtsn 4).length ≤ F2.length ∧ (be c.ptsn 4).length ≤ F2.length) := ⟨by rw [hF, List.append_assoc]; exact List.prefix_append _ _, by rw [hF]; exact List.prefix_append _ _, hF, by (try rw [List.length_append]); (try rw [be_len]); (try rw [be_len]); have := HL2.out.2; omega, by (try rw [List.length_append]); (try rw [be_len]); (try rw [be_len]); have := HL2.out.2; omega, by (try rw [List.length_append]); (try rw [be_len]); (try rw [be_len]); have := HL2.out.2; omega, by (try rw [List.length_append]); (try rw [be_len]); (try rw [be_len]); have := HL2.out.2; omega⟩
      have HL3 : Hid (F3 = (F2 ++ (be c.mtsn 4)) ++ (be c.ptsn 4) ∧ F3.length = 32) := ⟨hF, by rw [hF, List.length_append, List.length_append, be_len, be_len]; have := HL2.out.2; omega⟩
      clear hF
      refine wp_seq_k (fun K3 hK => ?_)
      have HK3 := Stop.mk hK
      clear hK
      have HBx : ∀ {wx : World}, (Gr w.heap.size F2 F3) w3.drew wx → Blk wx w.heap.size (KV c s) 26 := fun h => h.blk (HS3.out.1.ext (Ext.drew _)) (by decide)
      have HEx : ∀ {wx : World}, (Gr w.heap.size F2 F3) w3.drew wx → Ext w wx := fun h => h.extO (HS3.out.2.1.trans (Ext.drew _)) (Nat.le_refl _)
      have HZx : ∀ {wx : World}, (Gr w.heap.size F2 F3) w3.drew wx → w.heap.size ≤ wx.heap.size := fun h => (HEx h).size
      have HPx : ∀ {wx : World}, (Gr w.heap.size F2 F3) w3.drew wx → OB wx w.heap.size (.slice a3 F2.length c3) F2 := fun h => h.ob (HS3.out.2.2.ext (Ext.drew _)) HPF.out.1
      refine wp_region_factsL (fun t => bif Nat.ble 25 t && Nat.ble t 35 then some (t - 25) else none) 101 (Gr w.heap.size F2 F3)
        [Is (.slice a3 F2.length c3),
         Is (.pointer (some ⟨w.heap.size, 4, none⟩)),
         Is (.int .u32 (c.mtsn : Int)),
         Is (.int .u64 (c.mtsn : Int)),
         (NumV w.heap.size (be c.mtsn 4)),
         (NumV w.heap.size (F2 ++ (be c.mtsn 4))),
         Is (.pointer (some ⟨w.heap.size, 5, none⟩)),
         Is (.int .u32 (c.ptsn : Int)),
         Is (.int .u64 (c.ptsn : Int)),
         (NumV w.heap.size (be c.ptsn 4)),
         (NumV w.heap.size F3)]
        (by intro h; cases h) 35 10 3 rfl rfl rfl rfl (by kernel_rfl) (by kernel_rfl) rfl (by kernel_rfl) Gr.refl (fun _ _ _ => Gr.trans) ?_ ?_ ?_
      · exact KeepAll.is (KeepAll.is (KeepAll.is (KeepAll.is (KeepAll.cons (fun _ _ _ hR h => h.turnK hR HPF.out.1 HPF.out.2.2.2.2.2.1) (KeepAll.cons (fun _ _ _ hR h => h.turn hR HPF.out.2.1) (KeepAll.is (KeepAll.is (KeepAll.is (KeepAll.cons (fun _ _ _ hR h => h.turnK hR HPF.out.1 HPF.out.2.2.2.2.2.2) (KeepAll.cons (fun _ _ _ hR h => h.turn hR (List.prefix_refl _)) (KeepAll.nil)))))))))))
      · refine GoodAll.cons ?_ ?_
        · intro r wx hR hx
          obtain ⟨h1, _⟩ := hx
          replace h1 : r (.tmp 3) = (.slice a3 F2.length c3) := h1
          exact give_move (.inl rfl) ⟨Gr.refl _, h1⟩
        refine GoodAll.cons ?_ ?_
        · intro r wx hR hx
          obtain ⟨h1, _⟩ := hx
          replace h1 : r (.tmp 1) = (.pointer (some ⟨w.heap.size, 0, none⟩)) := h1
          exact give_of (by simp [execOp, h1, go_sem]) ⟨Gr.refl _, rfl⟩
        refine GoodAll.cons ?_ ?_
        · intro r wx hR hx
          obtain ⟨h1, _⟩ := hx
          replace h1 : r (.tmp 26) = (.pointer (some ⟨w.heap.size, 4, none⟩)) := h1
          exact give_of (exec_get one22 rfl h1 (kv4 (HBx hR))) ⟨Gr.refl _, rfl⟩
        refine GoodAll.cons ?_ ?_
        · intro r wx hR hx
          obtain ⟨h1, _⟩ := hx
          replace h1 : r (.tmp 27) = (.int .u32 (c.mtsn : Int)) := h1
          exact give_of (by simp [execOp, h1, w_mtsn, v_mtsn, go_sem]) ⟨Gr.refl _, rfl⟩
        refine GoodAll.cons ?_ ?_
        · intro r wx hR hx
          obtain ⟨h1, h2, h3, _⟩ := hx
          replace h1 : r (.func 49) = .func (.func 49) #[] #[] := h1
          replace h2 : r (.tmp 28) = (.int .u64 (c.mtsn : Int)) := h2
          replace h3 : r (.const (.int .i64 4)) = .int .i64 4 := h3
          refine give_func #[.int .u64 (c.mtsn : Int), .int .i64 4] rfl h1 Tryd.call49 (by simp [h2, h3]) ?_
          refine (refNum_any c.mtsn 4 _).mono ?_
          rintro e w1 ⟨qa, qm, qc, rfl, hqm, hqo, hqe⟩
          rw [numB4] at hqm hqo
          subst hqm
          exact ⟨_, rfl, Gr.of_ext hqe, _, _, rfl, hqo.base (HZx hR)⟩
        refine GoodAll.cons ?_ ?_
        · intro r wx hR hx
          obtain ⟨h1, h2, _⟩ := hx
          replace h1 : r (.tmp 25) = (.slice a3 F2.length c3) := h1
          replace h2 : ((NumV w.heap.size (be c.mtsn 4)) : Fact) wx (r (.tmp 29)) := h2
          obtain ⟨ya, yc, ye, yo⟩ := h2
          obtain ⟨ad, cap, w2, hr, ho2, ht⟩ := run_appG wx w.heap.size 22 (.slice a3 F2.length c3) _ F2 (be c.mtsn 4) F2 F3 (HPx hR) yo.bytes HPF.out.2.2.2.1 (HZx hR) (List.prefix_refl _) HPF.out.2.1
          exact give_of (exec_runG rfl h1 rfl hr) ⟨ht, _, _, rfl, ho2⟩
        refine GoodAll.cons ?_ ?_
        · intro r wx hR hx
          obtain ⟨h1, _⟩ := hx
          replace h1 : r (.tmp 1) = (.pointer (some ⟨w.heap.size, 0, none⟩)) := h1
          exact give_of (by simp [execOp, h1, go_sem]) ⟨Gr.refl _, rfl⟩
        refine GoodAll.cons ?_ ?_
        · intro r wx hR hx
          obtain ⟨h1, _⟩ := hx
          replace h1 : r (.tmp 31) = (.pointer (some ⟨w.heap.size, 5, none⟩)) := h1
          exact give_of (exec_get one22 rfl h1 (kv5 (HBx hR))) ⟨Gr.refl _, rfl⟩
        refine GoodAll.cons ?_ ?_
        · intro r wx hR hx
          obtain ⟨h1, _⟩ := hx
          replace h1 : r (.tmp 32) = (.int .u32 (c.ptsn : Int)) := h1
          exact give_of (by simp [execOp, h1, w_ptsn, v_ptsn, go_sem]) ⟨Gr.refl _, rfl⟩
        refine GoodAll.cons ?_ ?_
        · intro r wx hR hx
          obtain ⟨h1, h2, h3, _⟩ := hx
          replace h1 : r (.func 49) = .func (.func 49) #[] #[] := h1
          replace h2 : r (.tmp 33) = (.int .u64 (c.ptsn : Int)) := h2
          replace h3 : r (.const (.int .i64 4)) = .int .i64 4 := h3
          refine give_func #[.int .u64 (c.ptsn : Int), .int .i64 4] rfl h1 Tryd.call49 (by simp [h2, h3]) ?_
          refine (refNum_any c.ptsn 4 _).mono ?_
          rintro e w1 ⟨qa, qm, qc, rfl, hqm, hqo, hqe⟩
          rw [numB4] at hqm hqo
          subst hqm
          exact ⟨_, rfl, Gr.of_ext hqe, _, _, rfl, hqo.base (HZx hR)⟩
        refine GoodAll.cons ?_ ?_
        · intro r wx hR hx
          obtain ⟨h1, h2, _⟩ := hx
          replace h1 : ((NumV w.heap.size (F2 ++ (be c.mtsn 4))) : Fact) wx (r (.tmp 30)) := h1
          replace h2 : ((NumV w.heap.size (be c.ptsn 4)) : Fact) wx (r (.tmp 34)) := h2
          obtain ⟨xa, xc, xe, xo⟩ := h1
          obtain ⟨ya, yc, ye, yo⟩ := h2
          obtain ⟨ad, cap, w2, hr, ho2, ht⟩ := run_appG wx w.heap.size 22 _ _ (F2 ++ (be c.mtsn 4)) (be c.ptsn 4) F2 F3 xo yo.bytes HPF.out.2.2.2.2.1 (HZx hR) (List.prefix_append _ _) (by rw [← HPF.out.2.2.1]; exact List.prefix_refl _)
          exact give_of (exec_runG rfl rfl rfl hr) ⟨ht, by rw [HPF.out.2.2.1]; exact ⟨_, _, rfl, ho2⟩⟩
        exact GoodAll.nil
      · intro vs w4 aY hR hold ha
        have hv0 : vs 0 = (.slice a3 F2.length c3) := hold.at 0
        have hv1 : vs 1 = (.pointer (some ⟨w.heap.size, 4, none⟩)) := hold.at 1
        have hv2 : vs 2 = (.int .u32 (c.mtsn : Int)) := hold.at 2
        have hv3 : vs 3 = (.int .u64 (c.mtsn : Int)) := hold.at 3
        have hv6 : vs 6 = (.pointer (some ⟨w.heap.size, 5, none⟩)) := hold.at 6
        have hv7 : vs 7 = (.int .u32 (c.ptsn : Int)) := hold.at 7
        have hv8 : vs 8 = (.int .u64 (c.ptsn : Int)) := hold.at 8
        obtain ⟨a4, c4, e9, ho9⟩ := hold.at 10
        simp only [List.dropLast_cons_cons, List.dropLast_singleton, putAll, Act.put, hv0, hv1, hv2, hv3, hv6, hv7, hv8, e9, List.setIfInBounds_toArray, List.set_cons_succ, List.set_cons_zero] at ha
        subst ha
        have HS4 : Hid (Blk w4 w.heap.size (KV c s) 26 ∧ Ext w w4 ∧ OB w4 w.heap.size (.slice a4 F3.length c4) F3) := ⟨HBx hR, HEx hR, by rw [← e9]; exact ho9⟩
        clear hold hR HBx HEx HZx HPx hv0 hv1 hv2 hv3 hv6 hv7 hv8
        clear e9 ho9
        refine HK3.go _ _ ?_
        clear HK3
        clear HPF
        obtain ⟨F4, hF⟩ : ∃ F, F = (F3 ++ (be W 4)) ++ [O, I, NA] := ⟨_, rfl⟩
        have HPF : Hid (F3 <+: F4 ∧ F3 ++ (be W 4) <+: F4 ∧ F4 = (F3 ++ (be W 4)) ++ [O, I, NA] ∧ F3.length + (be W 4).length ≤ 1000000 ∧ (F3 ++ (be W 4)).length + [O, I, NA].length ≤ 1000000 ∧ (be W 4).length ≤ F3.length ∧ [O, I, NA].length ≤ F3.length) := ⟨by rw [hF, List.append_assoc]; exact List.prefix_append _ _, by rw [hF]; exact List.prefix_append _ _, hF, by (try rw [List.length_append]); (try rw [be_len]); (try simp only [List.length_cons, List.length_nil]); have := HL3.out.2; omega, by (try rw [List.length_append]); (try rw [be_len]); (try simp only [List.length_cons, List.length_nil]); have := HL3.out.2; omega, by (try rw [List.length_append]); (try rw [be_len]); (try simp only [List.length_cons, List.length_nil]); have := HL3.out.2; omega, by (try rw [List.length_append]); (try rw [be_len]); (try simp only [List.length_cons, List.length_nil]); have := HL3.out.2; omega⟩
        have HL4 : Hid (F4 = (F3 ++ be W 4) ++ [O, I, NA] ∧ F4.length = 39) := ⟨hF, by rw [hF, List.length_append, List.length_append, be_len]; have := HL3.out.2; simp only [List.length_cons, List.length_nil]; omega⟩
        clear hF
        refine wp_seq_k (fun K4 hK => ?_)
        have HK4 := Stop.mk hK
        clear hK
        have HBx : ∀ {wx : World}, (Gr w.heap.size F3 F4) w4.drew wx → Blk wx w.heap.size (KV c s) 26 := fun h => h.blk (HS4.out.1.ext (Ext.drew _)) (by decide)
        have HEx : ∀ {wx : World}, (Gr w.heap.size F3 F4) w4.drew wx → Ext w wx := fun h => h.extO (HS4.out.2.1.trans (Ext.drew _)) (Nat.le_refl _)
        have HZx : ∀ {wx : World}, (Gr w.heap.size F3 F4) w4.drew wx → w.heap.size ≤ wx.heap.size := fun h => (HEx h).size
        have HPx : ∀ {wx : World}, (Gr w.heap.size F3 F4) w4.drew wx → OB wx w.heap.size (.slice a4 F3.length c4) F3 := fun h => h.ob (HS4.out.2.2.ext (Ext.drew _)) HPF.out.1
        refine wp_region_factsL (fun t => bif Nat.ble 36 t && Nat.ble t 53 then some (t - 36) else none) 101 (Gr w.heap.size F3 F4)
          [Is (.slice a4 F3.length c4),
           Is (.pointer (some ⟨w.heap.size, 6, none⟩)),
           Is (.int .i64 (W : Int)),
           Is (.int .u64 (W : Int)),
           (NumV w.heap.size (be W 4)),
           (NumV w.heap.size (F3 ++ be W 4)),
           Is (.pointer (some ⟨w.heap.size, 7, none⟩)),
           Is (.int .i64 (O : Int)),
           Is (.int .u8 (O : Int)),
           Is (.pointer (some ⟨w.heap.size, 8, none⟩)),
           Is (.int .i64 (I : Int)),
           Is (.int .u8 (I : Int)),
           Is (.pointer (some ⟨w.heap.size, 9, none⟩)),
           Is (.slice aA NA s.aC),
           Is (.int .i64 (NA : Int)),
           Is (.int .u8 (NA : Int)),
           (NumV w.heap.size [O, I, NA]),
           (NumV w.heap.size F4)]
          (by intro h; cases h) 53 17 3 rfl rfl rfl rfl (by kernel_rfl) (by kernel_rfl) rfl (by kernel_rfl) Gr.refl (fun _ _ _ => Gr.trans) ?_ ?_ ?_
        · exact KeepAll.is (KeepAll.is (KeepAll.is (KeepAll.is (KeepAll.cons (fun _ _ _ hR h => h.turnK hR HPF.out.1 HPF.out.2.2.2.2.2.1) (KeepAll.cons (fun _ _ _ hR h => h.turn hR HPF.out.2.1) (KeepAll.is (KeepAll.is (KeepAll.is (KeepAll.is (KeepAll.is (KeepAll.is (KeepAll.is (KeepAll.is (KeepAll.is (KeepAll.is (KeepAll.cons (fun _ _ _ hR h => h.turnK hR HPF.out.1 HPF.out.2.2.2.2.2.2) (KeepAll.cons (fun _ _ _ hR h => h.turn hR (List.prefix_refl _)) (KeepAll.nil))))))))))))))))))
        · refine GoodAll.cons ?_ ?_
          · intro r wx hR hx
            obtain ⟨h1, _⟩ := hx
            replace h1 : r (.tmp 3) = (.slice a4 F3.length c4) := h1
            exact give_move (.inl rfl) ⟨Gr.refl _, h1⟩
          refine GoodAll.cons ?_ ?_
          · intro r wx hR hx
            obtain ⟨h1, _⟩ := hx
            replace h1 : r (.tmp 1) = (.pointer (some ⟨w.heap.size, 0, none⟩)) := h1
            exact give_of (by simp [execOp, h1, go_sem]) ⟨Gr.refl _, rfl⟩
          refine GoodAll.cons ?_ ?_
          · intro r wx hR hx
            obtain ⟨h1, _⟩ := hx
            replace h1 : r (.tmp 37) = (.pointer (some ⟨w.heap.size, 6, none⟩)) := h1
            exact give_of (exec_get one3 rfl h1 (CM6 (HBx hR))) ⟨Gr.refl _, rfl⟩
          refine GoodAll.cons ?_ ?_
          · intro r wx hR hx
            obtain ⟨h1, _⟩ := hx
            replace h1 : r (.tmp 38) = (.int .i64 (W : Int)) := h1
            exact give_of (by simp [execOp, h1, wW, vW, go_sem]) ⟨Gr.refl _, rfl⟩
          refine GoodAll.cons ?_ ?_
          · intro r wx hR hx
            obtain ⟨h1, h2, h3, _⟩ := hx
            replace h1 : r (.func 49) = .func (.func 49) #[] #[] := h1
            replace h2 : r (.tmp 39) = (.int .u64 (W : Int)) := h2
            replace h3 : r (.const (.int .i64 4)) = .int .i64 4 := h3
            refine give_func #[.int .u64 (W : Int), .int .i64 4] rfl h1 Tryd.call49 (by simp [h2, h3]) ?_
            refine (refNum_any W 4 _).mono ?_
            rintro e w1 ⟨qa, qm, qc, rfl, hqm, hqo, hqe⟩
            rw [numB4] at hqm hqo
            subst hqm
            exact ⟨_, rfl, Gr.of_ext hqe, _, _, rfl, hqo.base (HZx hR)⟩
          refine GoodAll.cons ?_ ?_
          · intro r wx hR hx
            obtain ⟨h1, h2, _⟩ := hx
            replace h1 : r (.tmp 36) = (.slice a4 F3.length c4) := h1
            replace h2 : ((NumV w.heap.size (be W 4)) : Fact) wx (r (.tmp 40)) := h2
            obtain ⟨ya, yc, ye, yo⟩ := h2
            obtain ⟨ad, cap, w2, hr, ho2, ht⟩ := run_appG wx w.heap.size 22 (.slice a4 F3.length c4) _ F3 (be W 4) F3 F4 (HPx hR) yo.bytes HPF.out.2.2.2.1 (HZx hR) (List.prefix_refl _) HPF.out.2.1
            exact give_of (exec_runG rfl h1 rfl hr) ⟨ht, _, _, rfl, ho2⟩
          refine GoodAll.cons ?_ ?_
          · intro r wx hR hx
            obtain ⟨h1, _⟩ := hx
            replace h1 : r (.tmp 1) = (.pointer (some ⟨w.heap.size, 0, none⟩)) := h1
            exact give_of (by simp [execOp, h1, go_sem]) ⟨Gr.refl _, rfl⟩
          refine GoodAll.cons ?_ ?_
          · intro r wx hR hx
            obtain ⟨h1, _⟩ := hx
            replace h1 : r (.tmp 42) = (.pointer (some ⟨w.heap.size, 7, none⟩)) := h1
            exact give_of (exec_get one3 rfl h1 (CM7 (HBx hR))) ⟨Gr.refl _, rfl⟩
          refine GoodAll.cons ?_ ?_
          · intro r wx hR hx
            obtain ⟨h1, _⟩ := hx
            replace h1 : r (.tmp 43) = (.int .i64 (O : Int)) := h1
            exact give_of (by simp [execOp, h1, w8O, v8O, go_sem]) ⟨Gr.refl _, rfl⟩
          refine GoodAll.cons ?_ ?_
          · intro r wx hR hx
            obtain ⟨h1, _⟩ := hx
            replace h1 : r (.tmp 1) = (.pointer (some ⟨w.heap.size, 0, none⟩)) := h1
            exact give_of (by simp [execOp, h1, go_sem]) ⟨Gr.refl _, rfl⟩
          refine GoodAll.cons ?_ ?_
          · intro r wx hR hx
            obtain ⟨h1, _⟩ := hx
            replace h1 : r (.tmp 45) = (.pointer (some ⟨w.heap.size, 8, none⟩)) := h1
            exact give_of (exec_get one3 rfl h1 (CM8 (HBx hR))) ⟨Gr.refl _, rfl⟩
          refine GoodAll.cons ?_ ?_
          · intro r wx hR hx
            obtain ⟨h1, _⟩ := hx
            replace h1 : r (.tmp 46) = (.int .i64 (I : Int)) := h1
            exact give_of (by simp [execOp, h1, w8I, v8I, go_sem]) ⟨Gr.refl _, rfl⟩
          refine GoodAll.cons ?_ ?_
          · intro r wx hR hx
            obtain ⟨h1, _⟩ := hx
            replace h1 : r (.tmp 1) = (.pointer (some ⟨w.heap.size, 0, none⟩)) := h1
            exact give_of (by simp [execOp, h1, go_sem]) ⟨Gr.refl _, rfl⟩
          refine GoodAll.cons ?_ ?_
          · intro r wx hR hx
            obtain ⟨h1, _⟩ := hx
            replace h1 : r (.tmp 48) = (.pointer (some ⟨w.heap.size, 9, none⟩)) := h1
            exact give_of (exec_get oneSA rfl h1 (CM9 (HBx hR))) ⟨Gr.refl _, rfl⟩
          refine GoodAll.cons ?_ ?_
          · intro r wx hR hx
            obtain ⟨h1, _⟩ := hx
            replace h1 : r (.tmp 49) = (.slice aA NA s.aC) := h1
            exact give_of (by simp [execOp, h1, go_sem]) ⟨Gr.refl _, rfl⟩
          refine GoodAll.cons ?_ ?_
          · intro r wx hR hx
            obtain ⟨h1, _⟩ := hx
            replace h1 : r (.tmp 50) = (.int .i64 (NA : Int)) := h1
            exact give_of (by simp [execOp, h1, w8NA, v8NA, go_sem]) ⟨Gr.refl _, rfl⟩
          refine GoodAll.cons ?_ ?_
          · intro r wx hR hx
            obtain ⟨h1, h2, h3, _⟩ := hx
            replace h1 : r (.tmp 44) = (.int .u8 (O : Int)) := h1
            replace h2 : r (.tmp 47) = (.int .u8 (I : Int)) := h2
            replace h3 : r (.tmp 51) = (.int .u8 (NA : Int)) := h3
            exact give_three rfl h1 h2 h3 ⟨Gr.of_ext (Ext.alloc _ _), _, _, rfl, OB.lit _ _ [O, I, NA] (by intro x hx; have := HX.out.2.2.1; simp only [List.mem_cons, List.not_mem_nil, or_false] at hx; rcases hx with rfl | rfl | rfl <;> omega) (by simp only [List.length_cons, List.length_nil]; omega) (HZx hR)⟩
          refine GoodAll.cons ?_ ?_
          · intro r wx hR hx
            obtain ⟨h1, h2, _⟩ := hx
            replace h1 : ((NumV w.heap.size (F3 ++ be W 4)) : Fact) wx (r (.tmp 41)) := h1
            replace h2 : ((NumV w.heap.size [O, I, NA]) : Fact) wx (r (.tmp 52)) := h2
            obtain ⟨xa, xc, xe, xo⟩ := h1
            obtain ⟨ya, yc, ye, yo⟩ := h2
            obtain ⟨ad, cap, w2, hr, ho2, ht⟩ := run_appG wx w.heap.size 22 _ _ (F3 ++ (be W 4)) [O, I, NA] F3 F4 xo yo.bytes HPF.out.2.2.2.2.1 (HZx hR) (List.prefix_append _ _) (by rw [← HPF.out.2.2.1]; exact List.prefix_refl _)
            exact give_of (exec_runG rfl rfl rfl hr) ⟨ht, by rw [HPF.out.2.2.1]; exact ⟨_, _, rfl, ho2⟩⟩
          exact GoodAll.nil
        · intro vs w5 aY hR hold ha
          have hv0 : vs 0 = (.slice a4 F3.length c4) := hold.at 0
          have hv1 : vs 1 = (.pointer (some ⟨w.heap.size, 6, none⟩)) := hold.at 1
          have hv2 : vs 2 = (.int .i64 (W : Int)) := hold.at 2
          have hv3 : vs 3 = (.int .u64 (W : Int)) := hold.at 3
          have hv6 : vs 6 = (.pointer (some ⟨w.heap.size, 7, none⟩)) := hold.at 6
          have hv7 : vs 7 = (.int .i64 (O : Int)) := hold.at 7
          have hv8 : vs 8 = (.int .u8 (O : Int)) := hold.at 8
          have hv9 : vs 9 = (.pointer (some ⟨w.heap.size, 8, none⟩)) := hold.at 9
          have hv10 : vs 10 = (.int .i64 (I : Int)) := hold.at 10
          have hv11 : vs 11 = (.int .u8 (I : Int)) := hold.at 11
          have hv12 : vs 12 = (.pointer (some ⟨w.heap.size, 9, none⟩)) := hold.at 12
          have hv13 : vs 13 = (.slice aA NA s.aC) := hold.at 13
          have hv14 : vs 14 = (.int .i64 (NA : Int)) := hold.at 14
          have hv15 : vs 15 = (.int .u8 (NA : Int)) := hold.at 15
          obtain ⟨a5, c5, e9, ho9⟩ := hold.at 17
          simp only [List.dropLast_cons_cons, List.dropLast_singleton, putAll, Act.put, hv0, hv1, hv2, hv3, hv6, hv7, hv8, hv9, hv10, hv11, hv12, hv13, hv14, hv15, e9, List.setIfInBounds_toArray, List.set_cons_succ, List.set_cons_zero] at ha
          subst ha
          have HS5 : Hid (Blk w5 w.heap.size (KV c s) 26 ∧ Ext w w5 ∧ OB w5 w.heap.size (.slice a5 F4.length c5) F4) := ⟨HBx hR, HEx hR, by rw [← e9]; exact ho9⟩
          clear hold hR HBx HEx HZx HPx hv0 hv1 hv2 hv3 hv6 hv7 hv8 hv9 hv10 hv11 hv12 hv13 hv14 hv15
          clear e9 ho9
          refine HK4.go _ _ ?_
          clear HK4
          clear HPF
          have HF4 : Hid (laidK c = (((((F4 ++ adsV c.addrs) ++ [NM]) ++ c.mr) ++ [NP] ++ c.pr) ++ be c.tm 4) ++ be c.tp 4) := show _ = _ by rw [HLK.out, HL4.out.1, HL3.out.1, HL2.out.1, HL1.out.1]; (try simp only [List.append_assoc])
          have HF4n : Hid (F4.length = 39) := HL4.out.2
          clear HL1 HL2 HL3 HL4 HLK wM vM wL vL wW vW w_mine v_mine w_peers v_peers w_mtsn v_mtsn w_ptsn v_ptsn w8O v8O w8I v8I w8NA v8NA CM0 CM1 CM6 CM7 CM8 HS1 HS2 HS3 HS4
          have hn4 : NA ≤ 4 := HX.out.2.2.1.1
          go_wp2
          go_loopg [3, 4] NA (fun gm x t wr => ∃ (k : Nat) (oa : Option Addr) (on oc : Nat), k ≤ NA ∧ gm = NA - k ∧ x = .slice oa on oc ∧ t = .int .i64 (k : Int) ∧ Hid (Blk wr w.heap.size (KV c s) 26 ∧ Ext w wr ∧ OB wr w.heap.size (.slice oa on oc) (F4 ++ adsV (c.addrs.take k)) ∧ on = (F4 ++ adsV (c.addrs.take k)).length))
          case atStart => exact ⟨0, a5, _, c5, Nat.zero_le _, rfl, rfl, rfl, HS5.out.1, HS5.out.2.1, by rw [show F4 ++ adsV (c.addrs.take 0) = F4 by simp [adsV]]; exact HS5.out.2.2, by simp [adsV]⟩
          case round =>
            obtain ⟨k, oa, on, oc, hk, rfl, rfl, rfl, HR⟩ := hrel
            by_cases hlt : k < NA
            · have hd : decide ((k : Int) < (NA : Int)) = true := decide_eq_true (by omega)
              have hkL : k < c.addrs.length := by rw [← HX.out.2.2.2.2.1]; exact hlt
              have hkn : (k : Int) < (NA : Int) := by omega
              have hd2 : decide (k < NA) = true := decide_eq_true hlt
              obtain ⟨b, off, rfl, hc0⟩ := HAt.out.cellAt k hkL
              have hab := mem_getD HX.out.2.2.2.1 0 hkL
              obtain ⟨A, hA⟩ : ∃ A : Nat, c.addrs.getD k 0 = (A : Int) := ⟨(c.addrs.getD k 0).toNat, by omega⟩
              have wA : IntKind.u64.wrap (A : Int) = (A : Int) := by rw [IntKind.wrap_u64]; omega
              have vA : (A : Int) % 18446744073709551616 = (A : Int) := by omega
              clear hab
              replace hc0 := HR.out.2.1.cell hc0
              rw [hA] at hc0
              have HA : Hid (adsV (c.addrs.take (k + 1)) = adsV (c.addrs.take k) ++ be A 4) := show _ = _ by rw [adsV_snoc hkL, hA]; rfl
              have d9 := CM9 HR.out.1
              clear hA hkL
              have HLk : Hid ((F4 ++ adsV (c.addrs.take k)).length ≤ 100) := show _ ≤ _ by have h1 := adsV_take c.addrs k; have h2 := HF4n.out; have h3 := HX.out.2.2.2.2.1; rw [List.length_append]; omega
              go_wp2_with (first
                | (have q := he8; clear q; at_builtin; refine wl_app (l := F4 ++ adsV (c.addrs.take k)) (m := be A 4) (base := w.heap.size) rfl rfl rfl rfl (HR.out.2.2.1.ext he8) ho8.bytes (by have := HLk.out; rw [be_len]; omega) (Nat.le_trans HR.out.2.1.size he8.size) ?_; intro ad9 n9 cap9 w9 hn9 ho9 hk9 hg9)
                | (go_at_call 49; refine (refNum_any A 4 _).mono ?_; rintro e w8 ⟨na8, nn8, nc8, rfl, hnn8, ho8, he8⟩; rw [numB4] at hnn8 ho8; have HN8 : Hid (nn8 = (be A 4).length) := hnn8; clear hnn8))
              go_roundg (NA - (k + 1))
              case measure => omega
              case rel =>
                have hnb : ∀ q, (Value.slice oa on oc).ownBlock = some q → w.heap.size ≤ q := fun q e => (HR.out.2.2.1.lt e).1
                refine ⟨k + 1, _, _, _, by omega, rfl, rfl, by simp, (HR.out.1.ext he8).but hk9 (fun e => ?_), (HR.out.2.1.trans he8).of_but hk9 hnb, by rw [HA.out, ← List.append_assoc]; exact ho9, by rw [HA.out, ← List.append_assoc]; exact hn9.out⟩
                exact HR.out.2.2.1.ne HR.out.1 (by decide) _ e rfl
            · have hd : decide ((k : Int) < (NA : Int)) = false := decide_eq_false (by omega)
              have hd2 : decide (k < NA) = false := decide_eq_false hlt
              have HT : Hid (c.addrs.take k = c.addrs) := List.take_of_length_le (by rw [← HX.out.2.2.2.2.1]; omega)
              rw [HT.out] at HR
              obtain ⟨F8, hF8⟩ : ∃ F, F = F4 ++ adsV c.addrs := ⟨_, rfl⟩
              rw [← hF8] at HR
              have HL8 : Hid (F8 = F4 ++ adsV c.addrs ∧ 39 ≤ F8.length ∧ F8.length ≤ 60) := ⟨hF8, by rw [hF8, List.length_append]; have := HF4n.out; omega, by rw [hF8, List.length_append, adsV_len]; have h2 := HF4n.out; have h3 := HX.out.2.2.2.2.1; omega⟩
              clear hF8
              have hon := HR.out.2.2.2
              subst hon
              obtain ⟨w9, hw9⟩ : ∃ x, x = wr := ⟨_, rfl⟩
              obtain ⟨a9, ha9⟩ : ∃ x, x = oa := ⟨_, rfl⟩
              obtain ⟨c9, hc9⟩ : ∃ x, x = oc := ⟨_, rfl⟩
              subst hw9 ha9 hc9
              have HS9 : Hid (Blk w9 w.heap.size (KV c s) 26 ∧ Ext w w9 ∧ OB w9 w.heap.size (.slice a9 F8.length c9) F8) := ⟨HR.out.1, HR.out.2.1, HR.out.2.2.1⟩
              have d9 := CM9 HS9.out.1
              clear HR hlt
              go_wp2
              clear hd hd2 d9
              obtain ⟨F9, hF⟩ : ∃ F, F = (F8 ++ [NM]) ++ c.mr := ⟨_, rfl⟩
              have HPF : Hid (F8 <+: F9 ∧ F8 ++ [NM] <+: F9 ∧ F9 = (F8 ++ [NM]) ++ c.mr ∧ F8.length + [NM].length ≤ 1000000 ∧ (F8 ++ [NM]).length + c.mr.length ≤ 1000000 ∧ [NM].length ≤ F8.length ∧ True) := ⟨by rw [hF, List.append_assoc]; exact List.prefix_append _ _, by rw [hF]; exact List.prefix_append _ _, hF, by (try rw [List.length_append]); (try simp only [List.length_cons, List.length_nil]); have h1 := HL8.out.2; have h2 := HX.out.2.2; omega, by (try rw [List.length_append]); (try simp only [List.length_cons, List.length_nil]); have h1 := HL8.out.2; have h2 := HX.out.2.2; omega, by (try rw [List.length_append]); (try simp only [List.length_cons, List.length_nil]); have h1 := HL8.out.2; have h2 := HX.out.2.2; omega, trivial⟩
              have HL9 : Hid (F9 = (F8 ++ [NM]) ++ c.mr ∧ 39 ≤ F9.length ∧ F9.length ≤ 130) := ⟨hF, by rw [hF, List.length_append, List.length_append]; have := HL8.out.2; omega, by rw [hF, List.length_append, List.length_append]; have h1 := HL8.out.2; have h2 := HX.out.2.2; simp only [List.length_cons, List.length_nil]; omega⟩
              clear hF
              have HBx : ∀ {wx : World}, (Gr w.heap.size F8 F9) w9.drew wx → Blk wx w.heap.size (KV c s) 26 := fun h => h.blk (HS9.out.1.ext (Ext.drew _)) (by decide)
              have HEx : ∀ {wx : World}, (Gr w.heap.size F8 F9) w9.drew wx → Ext w wx := fun h => h.extO (HS9.out.2.1.trans (Ext.drew _)) (Nat.le_refl _)
              have HZx : ∀ {wx : World}, (Gr w.heap.size F8 F9) w9.drew wx → w.heap.size ≤ wx.heap.size := fun h => (HEx h).size
              have HPx : ∀ {wx : World}, (Gr w.heap.size F8 F9) w9.drew wx → OB wx w.heap.size (.slice a9 F8.length c9) F8 := fun h => h.ob (HS9.out.2.2.ext (Ext.drew _)) HPF.out.1
              refine wp_region_factsL (fun t => bif Nat.ble 70 t && Nat.ble t 79 then some (t - 70) else none) 101 (Gr w.heap.size F8 F9)
                [Is (.slice a9 F8.length c9),
                 Is (.pointer (some ⟨w.heap.size, 10, none⟩)),
                 Is (.slice s.mA NM s.mC),
                 Is (.int .i64 (NM : Int)),
                 Is (.int .u8 (NM : Int)),
                 (NumV w.heap.size [NM]),
                 (NumV w.heap.size (F8 ++ [NM])),
                 Is (.pointer (some ⟨w.heap.size, 10, none⟩)),
                 Is (.slice s.mA NM s.mC),
                 (NumV w.heap.size F9)]
                (by intro h; cases h) 79 9 3 rfl rfl rfl rfl (by kernel_rfl) (by kernel_rfl) rfl (by kernel_rfl) Gr.refl (fun _ _ _ => Gr.trans) ?_ ?_ ?_
              · exact KeepAll.is (KeepAll.is (KeepAll.is (KeepAll.is (KeepAll.is (KeepAll.cons (fun _ _ _ hR h => h.turnK hR HPF.out.1 HPF.out.2.2.2.2.2.1) (KeepAll.cons (fun _ _ _ hR h => h.turn hR HPF.out.2.1) (KeepAll.is (KeepAll.is (KeepAll.cons (fun _ _ _ hR h => h.turn hR (List.prefix_refl _)) (KeepAll.nil))))))))))
              · refine GoodAll.cons ?_ ?_
                · intro r wx hR hx
                  obtain ⟨h1, _⟩ := hx
                  replace h1 : r (.tmp 3) = (.slice a9 F8.length c9) := h1
                  exact give_move (.inl rfl) ⟨Gr.refl _, h1⟩
                refine GoodAll.cons ?_ ?_
                · intro r wx hR hx
                  obtain ⟨h1, _⟩ := hx
                  replace h1 : r (.tmp 1) = (.pointer (some ⟨w.heap.size, 0, none⟩)) := h1
                  exact give_of (by simp [execOp, h1, go_sem]) ⟨Gr.refl _, rfl⟩
                refine GoodAll.cons ?_ ?_
                · intro r wx hR hx
                  obtain ⟨h1, _⟩ := hx
                  replace h1 : r (.tmp 71) = (.pointer (some ⟨w.heap.size, 10, none⟩)) := h1
                  exact give_of (exec_get oneS rfl h1 (CM10 (HBx hR))) ⟨Gr.refl _, rfl⟩
                refine GoodAll.cons ?_ ?_
                · intro r wx hR hx
                  obtain ⟨h1, _⟩ := hx
                  replace h1 : r (.tmp 72) = (.slice s.mA NM s.mC) := h1
                  exact give_of (by simp [execOp, h1, go_sem]) ⟨Gr.refl _, rfl⟩
                refine GoodAll.cons ?_ ?_
                · intro r wx hR hx
                  obtain ⟨h1, _⟩ := hx
                  replace h1 : r (.tmp 73) = (.int .i64 (NM : Int)) := h1
                  exact give_of (by simp [execOp, h1, w8NM, v8NM, go_sem]) ⟨Gr.refl _, rfl⟩
                refine GoodAll.cons ?_ ?_
                · intro r wx hR hx
                  obtain ⟨h1, _⟩ := hx
                  replace h1 : r (.tmp 74) = (.int .u8 (NM : Int)) := h1
                  exact give_one_num rfl numT8 h1 ⟨Gr.of_ext (Ext.alloc _ _), _, _, rfl, OB.lit _ _ [NM] (by intro x hx; have := HX.out.2.2.1; simp only [List.mem_cons, List.not_mem_nil, or_false] at hx; subst hx; omega) (by simp only [List.length_cons, List.length_nil]; omega) (HZx hR)⟩
                refine GoodAll.cons ?_ ?_
                · intro r wx hR hx
                  obtain ⟨h1, h2, _⟩ := hx
                  replace h1 : r (.tmp 70) = (.slice a9 F8.length c9) := h1
                  replace h2 : ((NumV w.heap.size [NM]) : Fact) wx (r (.tmp 75)) := h2
                  obtain ⟨ya, yc, ye, yo⟩ := h2
                  obtain ⟨ad, cap, w2, hr, ho2, ht⟩ := run_appG wx w.heap.size 22 (.slice a9 F8.length c9) _ F8 [NM] F8 F9 (HPx hR) yo.bytes HPF.out.2.2.2.1 (HZx hR) (List.prefix_refl _) HPF.out.2.1
                  exact give_of (exec_runG rfl h1 rfl hr) ⟨ht, _, _, rfl, ho2⟩
                refine GoodAll.cons ?_ ?_
                · intro r wx hR hx
                  obtain ⟨h1, _⟩ := hx
                  replace h1 : r (.tmp 1) = (.pointer (some ⟨w.heap.size, 0, none⟩)) := h1
                  exact give_of (by simp [execOp, h1, go_sem]) ⟨Gr.refl _, rfl⟩
                refine GoodAll.cons ?_ ?_
                · intro r wx hR hx
                  obtain ⟨h1, _⟩ := hx
                  replace h1 : r (.tmp 77) = (.pointer (some ⟨w.heap.size, 10, none⟩)) := h1
                  exact give_of (exec_get oneS rfl h1 (CM10 (HBx hR))) ⟨Gr.refl _, rfl⟩
                refine GoodAll.cons ?_ ?_
                · intro r wx hR hx
                  obtain ⟨h1, h2, _⟩ := hx
                  replace h1 : ((NumV w.heap.size (F8 ++ [NM])) : Fact) wx (r (.tmp 76)) := h1
                  replace h2 : r (.tmp 78) = (.slice s.mA NM s.mC) := h2
                  obtain ⟨xa, xc, xe, xo⟩ := h1
                  obtain ⟨ad, cap, w2, hr, ho2, ht⟩ := run_appG wx w.heap.size 22 _ (.slice s.mA NM s.mC) (F8 ++ [NM]) c.mr F8 F9 xo (HMt.out.ext (HEx hR)) HPF.out.2.2.2.2.1 (HZx hR) (List.prefix_append _ _) (by rw [← HPF.out.2.2.1]; exact List.prefix_refl _)
                  exact give_of (exec_runG rfl rfl h2 hr) ⟨ht, by rw [HPF.out.2.2.1]; exact ⟨_, _, rfl, ho2⟩⟩
                exact GoodAll.nil
              · intro vs w10 aY hR hold ha
                have hv0 : vs 0 = (.slice a9 F8.length c9) := hold.at 0
                have hv1 : vs 1 = (.pointer (some ⟨w.heap.size, 10, none⟩)) := hold.at 1
                have hv2 : vs 2 = (.slice s.mA NM s.mC) := hold.at 2
                have hv3 : vs 3 = (.int .i64 (NM : Int)) := hold.at 3
                have hv4 : vs 4 = (.int .u8 (NM : Int)) := hold.at 4
                have hv7 : vs 7 = (.pointer (some ⟨w.heap.size, 10, none⟩)) := hold.at 7
                have hv8 : vs 8 = (.slice s.mA NM s.mC) := hold.at 8
                obtain ⟨a10, c10, e9, ho9⟩ := hold.at 9
                simp only [List.dropLast_cons_cons, List.dropLast_singleton, putAll, Act.put, hv0, hv1, hv2, hv3, hv4, hv7, hv8, e9, List.setIfInBounds_toArray, List.set_cons_succ, List.set_cons_zero] at ha
                subst ha
                have HS10 : Hid (Blk w10 w.heap.size (KV c s) 26 ∧ Ext w w10 ∧ OB w10 w.heap.size (.slice a10 F9.length c10) F9) := ⟨HBx hR, HEx hR, by rw [← e9]; exact ho9⟩
                clear hold hR HBx HEx HZx HPx hv0 hv1 hv2 hv3 hv4 hv7 hv8
                clear e9 ho9
                refine ‹∀ (a : Act) (w : World), Code.wp Tryd.prog _ _ a w → _› _ _ ?_
                clear HPF
                obtain ⟨F10, hF⟩ : ∃ F, F = (F9 ++ [NP]) ++ c.pr := ⟨_, rfl⟩
                have HPF : Hid (F9 <+: F10 ∧ F9 ++ [NP] <+: F10 ∧ F10 = (F9 ++ [NP]) ++ c.pr ∧ F9.length + [NP].length ≤ 1000000 ∧ (F9 ++ [NP]).length + c.pr.length ≤ 1000000 ∧ [NP].length ≤ F9.length ∧ True) := ⟨by rw [hF, List.append_assoc]; exact List.prefix_append _ _, by rw [hF]; exact List.prefix_append _ _, hF, by (try rw [List.length_append]); (try simp only [List.length_cons, List.length_nil]); have h1 := HL9.out.2; have h2 := HX.out.2.2; omega, by (try rw [List.length_append]); (try simp only [List.length_cons, List.length_nil]); have h1 := HL9.out.2; have h2 := HX.out.2.2; omega, by (try rw [List.length_append]); (try simp only [List.length_cons, List.length_nil]); have h1 := HL9.out.2; have h2 := HX.out.2.2; omega, trivial⟩
                have HL10 : Hid (F10 = (F9 ++ [NP]) ++ c.pr ∧ 39 ≤ F10.length ∧ F10.length ≤ 200) := ⟨hF, by rw [hF, List.length_append, List.length_append]; have := HL9.out.2; omega, by rw [hF, List.length_append, List.length_append]; have h1 := HL9.out.2; have h2 := HX.out.2.2; simp only [List.length_cons, List.length_nil]; omega⟩
                clear hF
                refine wp_seq_k (fun K10 hK => ?_)
                have HK10 := Stop.mk hK
                clear hK
                have HBx : ∀ {wx : World}, (Gr w.heap.size F9 F10) w10.drew wx → Blk wx w.heap.size (KV c s) 26 := fun h => h.blk (HS10.out.1.ext (Ext.drew _)) (by decide)
                have HEx : ∀ {wx : World}, (Gr w.heap.size F9 F10) w10.drew wx → Ext w wx := fun h => h.extO (HS10.out.2.1.trans (Ext.drew _)) (Nat.le_refl _)
                have HZx : ∀ {wx : World}, (Gr w.heap.size F9 F10) w10.drew wx → w.heap.size ≤ wx.heap.size := fun h => (HEx h).size
                have HPx : ∀ {wx : World}, (Gr w.heap.size F9 F10) w10.drew wx → OB wx w.heap.size (.slice a10 F9.length c10) F9 := fun h => h.ob (HS10.out.2.2.ext (Ext.drew _)) HPF.out.1
                refine wp_region_factsL (fun t => bif Nat.ble 80 t && Nat.ble t 89 then some (t - 80) else none) 101 (Gr w.heap.size F9 F10)
                  [Is (.slice a10 F9.length c10),
                   Is (.pointer (some ⟨w.heap.size, 11, none⟩)),
                   Is (.slice s.pA NP s.pC),
                   Is (.int .i64 (NP : Int)),
                   Is (.int .u8 (NP : Int)),
                   (NumV w.heap.size [NP]),
                   (NumV w.heap.size (F9 ++ [NP])),
                   Is (.pointer (some ⟨w.heap.size, 11, none⟩)),
                   Is (.slice s.pA NP s.pC),
                   (NumV w.heap.size F10)]
                  (by intro h; cases h) 89 9 3 rfl rfl rfl rfl (by kernel_rfl) (by kernel_rfl) rfl (by kernel_rfl) Gr.refl (fun _ _ _ => Gr.trans) ?_ ?_ ?_
                · exact KeepAll.is (KeepAll.is (KeepAll.is (KeepAll.is (KeepAll.is (KeepAll.cons (fun _ _ _ hR h => h.turnK hR HPF.out.1 HPF.out.2.2.2.2.2.1) (KeepAll.cons (fun _ _ _ hR h => h.turn hR HPF.out.2.1) (KeepAll.is (KeepAll.is (KeepAll.cons (fun _ _ _ hR h => h.turn hR (List.prefix_refl _)) (KeepAll.nil))))))))))
                · refine GoodAll.cons ?_ ?_
                  · intro r wx hR hx
                    obtain ⟨h1, _⟩ := hx
                    replace h1 : r (.tmp 3) = (.slice a10 F9.length c10) := h1
                    exact give_move (.inl rfl) ⟨Gr.refl _, h1⟩
                  refine GoodAll.cons ?_ ?_
                  · intro r wx hR hx
                    obtain ⟨h1, _⟩ := hx
                    replace h1 : r (.tmp 1) = (.pointer (some ⟨w.heap.size, 0, none⟩)) := h1
                    exact give_of (by simp [execOp, h1, go_sem]) ⟨Gr.refl _, rfl⟩
                  refine GoodAll.cons ?_ ?_
                  · intro r wx hR hx
                    obtain ⟨h1, _⟩ := hx
                    replace h1 : r (.tmp 81) = (.pointer (some ⟨w.heap.size, 11, none⟩)) := h1
                    exact give_of (exec_get oneS rfl h1 (CM11 (HBx hR))) ⟨Gr.refl _, rfl⟩
                  refine GoodAll.cons ?_ ?_
                  · intro r wx hR hx
                    obtain ⟨h1, _⟩ := hx
                    replace h1 : r (.tmp 82) = (.slice s.pA NP s.pC) := h1
                    exact give_of (by simp [execOp, h1, go_sem]) ⟨Gr.refl _, rfl⟩
                  refine GoodAll.cons ?_ ?_
                  · intro r wx hR hx
                    obtain ⟨h1, _⟩ := hx
                    replace h1 : r (.tmp 83) = (.int .i64 (NP : Int)) := h1
                    exact give_of (by simp [execOp, h1, w8NP, v8NP, go_sem]) ⟨Gr.refl _, rfl⟩
                  refine GoodAll.cons ?_ ?_
                  · intro r wx hR hx
                    obtain ⟨h1, _⟩ := hx
                    replace h1 : r (.tmp 84) = (.int .u8 (NP : Int)) := h1
                    exact give_one_num rfl numT8 h1 ⟨Gr.of_ext (Ext.alloc _ _), _, _, rfl, OB.lit _ _ [NP] (by intro x hx; have := HX.out.2.2.1; simp only [List.mem_cons, List.not_mem_nil, or_false] at hx; subst hx; omega) (by simp only [List.length_cons, List.length_nil]; omega) (HZx hR)⟩
                  refine GoodAll.cons ?_ ?_
                  · intro r wx hR hx
                    obtain ⟨h1, h2, _⟩ := hx
                    replace h1 : r (.tmp 80) = (.slice a10 F9.length c10) := h1
                    replace h2 : ((NumV w.heap.size [NP]) : Fact) wx (r (.tmp 85)) := h2
                    obtain ⟨ya, yc, ye, yo⟩ := h2
                    obtain ⟨ad, cap, w2, hr, ho2, ht⟩ := run_appG wx w.heap.size 22 (.slice a10 F9.length c10) _ F9 [NP] F9 F10 (HPx hR) yo.bytes HPF.out.2.2.2.1 (HZx hR) (List.prefix_refl _) HPF.out.2.1
                    exact give_of (exec_runG rfl h1 rfl hr) ⟨ht, _, _, rfl, ho2⟩
                  refine GoodAll.cons ?_ ?_
                  · intro r wx hR hx
                    obtain ⟨h1, _⟩ := hx
                    replace h1 : r (.tmp 1) = (.pointer (some ⟨w.heap.size, 0, none⟩)) := h1
                    exact give_of (by simp [execOp, h1, go_sem]) ⟨Gr.refl _, rfl⟩
                  refine GoodAll.cons ?_ ?_
                  · intro r wx hR hx
                    obtain ⟨h1, _⟩ := hx
                    replace h1 : r (.tmp 87) = (.pointer (some ⟨w.heap.size, 11, none⟩)) := h1
                    exact give_of (exec_get oneS rfl h1 (CM11 (HBx hR))) ⟨Gr.refl _, rfl⟩
                  refine GoodAll.cons ?_ ?_
                  · intro r wx hR hx
                    obtain ⟨h1, h2, _⟩ := hx
                    replace h1 : ((NumV w.heap.size (F9 ++ [NP])) : Fact) wx (r (.tmp 86)) := h1
                    replace h2 : r (.tmp 88) = (.slice s.pA NP s.pC) := h2
                    obtain ⟨xa, xc, xe, xo⟩ := h1
                    obtain ⟨ad, cap, w2, hr, ho2, ht⟩ := run_appG wx w.heap.size 22 _ (.slice s.pA NP s.pC) (F9 ++ [NP]) c.pr F9 F10 xo (HPt.out.ext (HEx hR)) HPF.out.2.2.2.2.1 (HZx hR) (List.prefix_append _ _) (by rw [← HPF.out.2.2.1]; exact List.prefix_refl _)
                    exact give_of (exec_runG rfl rfl h2 hr) ⟨ht, by rw [HPF.out.2.2.1]; exact ⟨_, _, rfl, ho2⟩⟩
                  exact GoodAll.nil
                · intro vs w11 aY hR hold ha
                  have hv0 : vs 0 = (.slice a10 F9.length c10) := hold.at 0
                  have hv1 : vs 1 = (.pointer (some ⟨w.heap.size, 11, none⟩)) := hold.at 1
                  have hv2 : vs 2 = (.slice s.pA NP s.pC) := hold.at 2
                  have hv3 : vs 3 = (.int .i64 (NP : Int)) := hold.at 3
                  have hv4 : vs 4 = (.int .u8 (NP : Int)) := hold.at 4
                  have hv7 : vs 7 = (.pointer (some ⟨w.heap.size, 11, none⟩)) := hold.at 7
                  have hv8 : vs 8 = (.slice s.pA NP s.pC) := hold.at 8
                  obtain ⟨a11, c11, e9, ho9⟩ := hold.at 9
                  simp only [List.dropLast_cons_cons, List.dropLast_singleton, putAll, Act.put, hv0, hv1, hv2, hv3, hv4, hv7, hv8, e9, List.setIfInBounds_toArray, List.set_cons_succ, List.set_cons_zero] at ha
                  subst ha
                  have HS11 : Hid (Blk w11 w.heap.size (KV c s) 26 ∧ Ext w w11 ∧ OB w11 w.heap.size (.slice a11 F10.length c11) F10) := ⟨HBx hR, HEx hR, by rw [← e9]; exact ho9⟩
                  clear hold hR HBx HEx HZx HPx hv0 hv1 hv2 hv3 hv4 hv7 hv8
                  clear e9 ho9
                  refine HK10.go _ _ ?_
                  clear HK10
                  clear HPF
                  obtain ⟨F11, hF⟩ : ∃ F, F = (F10 ++ (be c.tm 4)) ++ (be c.tp 4) := ⟨_, rfl⟩
                  have HPF : Hid (F10 <+: F11 ∧ F10 ++ (be c.tm 4) <+: F11 ∧ F11 = (F10 ++ (be c.tm 4)) ++ (be c.tp 4) ∧ F10.length + (be c.tm 4).length ≤ 1000000 ∧ (F10 ++ (be c.tm 4)).length + (be c.tp 4).length ≤ 1000000 ∧ (be c.tm 4).length ≤ F10.length ∧ (be c.tp 4).length ≤ F10.length) := ⟨by rw [hF, List.append_assoc]; exact List.prefix_append _ _, by rw [hF]; exact List.prefix_append _ _, hF, by (try rw [List.length_append]); (try rw [be_len]); (try rw [be_len]); have := HL10.out.2; omega, by (try rw [List.length_append]); (try rw [be_len]); (try rw [be_len]); have := HL10.out.2; omega, by (try rw [List.length_append]); (try rw [be_len]); (try rw [be_len]); have := HL10.out.2; omega, by (try rw [List.length_append]); (try rw [be_len]); (try rw [be_len]); have := HL10.out.2; omega⟩
                  have HL11 : Hid (F11 = laidK c) := show _ = _ by rw [hF, HF4.out, HL10.out.1, HL9.out.1, HL8.out.1]
                  clear hF
                  refine wp_seq_k (fun K11 hK => ?_)
                  have HK11 := Stop.mk hK
                  clear hK
                  have HBx : ∀ {wx : World}, (Gr w.heap.size F10 F11) w11.drew wx → Blk wx w.heap.size (KV c s) 26 := fun h => h.blk (HS11.out.1.ext (Ext.drew _)) (by decide)
                  have HEx : ∀ {wx : World}, (Gr w.heap.size F10 F11) w11.drew wx → Ext w wx := fun h => h.extO (HS11.out.2.1.trans (Ext.drew _)) (Nat.le_refl _)
                  have HZx : ∀ {wx : World}, (Gr w.heap.size F10 F11) w11.drew wx → w.heap.size ≤ wx.heap.size := fun h => (HEx h).size
                  have HPx : ∀ {wx : World}, (Gr w.heap.size F10 F11) w11.drew wx → OB wx w.heap.size (.slice a11 F10.length c11) F10 := fun h => h.ob (HS11.out.2.2.ext (Ext.drew _)) HPF.out.1
                  refine wp_region_facts (fun t => bif Nat.ble 90 t && Nat.ble t 100 then some (t - 90) else bif Nat.beq t 2 then some 11 else none) 101 (Gr w.heap.size F10 F11)
                    [Is (.slice a11 F10.length c11),
                     Is (.pointer (some ⟨w.heap.size, 12, none⟩)),
                     Is (.int .u32 (c.tm : Int)),
                     Is (.int .u64 (c.tm : Int)),
                     (NumV w.heap.size (be c.tm 4)),
                     (NumV w.heap.size (F10 ++ (be c.tm 4))),
                     Is (.pointer (some ⟨w.heap.size, 13, none⟩)),
                     Is (.int .u32 (c.tp : Int)),
                     Is (.int .u64 (c.tp : Int)),
                     (NumV w.heap.size (be c.tp 4)),
                     (NumV w.heap.size F11),
                     (NumV w.heap.size F11)]
                    rfl (by kernel_rfl) (by kernel_rfl) rfl Gr.refl (fun _ _ _ => Gr.trans) ?_ ?_ ?_
                  · exact KeepAll.is (KeepAll.is (KeepAll.is (KeepAll.is (KeepAll.cons (fun _ _ _ hR h => h.turnK hR HPF.out.1 HPF.out.2.2.2.2.2.1) (KeepAll.cons (fun _ _ _ hR h => h.turn hR HPF.out.2.1) (KeepAll.is (KeepAll.is (KeepAll.is (KeepAll.cons (fun _ _ _ hR h => h.turnK hR HPF.out.1 HPF.out.2.2.2.2.2.2) (KeepAll.cons (fun _ _ _ hR h => h.turn hR (List.prefix_refl _)) (KeepAll.cons (fun _ _ _ hR h => h.turn hR (List.prefix_refl _)) (KeepAll.nil))))))))))))
                  · refine GoodAll.cons ?_ ?_
                    · intro r wx hR hx
                      obtain ⟨h1, _⟩ := hx
                      replace h1 : r (.tmp 3) = (.slice a11 F10.length c11) := h1
                      exact give_move (.inl rfl) ⟨Gr.refl _, h1⟩
                    refine GoodAll.cons ?_ ?_
                    · intro r wx hR hx
                      obtain ⟨h1, _⟩ := hx
                      replace h1 : r (.tmp 1) = (.pointer (some ⟨w.heap.size, 0, none⟩)) := h1
                      exact give_of (by simp [execOp, h1, go_sem]) ⟨Gr.refl _, rfl⟩
                    refine GoodAll.cons ?_ ?_
                    · intro r wx hR hx
                      obtain ⟨h1, _⟩ := hx
                      replace h1 : r (.tmp 91) = (.pointer (some ⟨w.heap.size, 12, none⟩)) := h1
                      exact give_of (exec_get one22 rfl h1 (kv12 (HBx hR))) ⟨Gr.refl _, rfl⟩
                    refine GoodAll.cons ?_ ?_
                    · intro r wx hR hx
                      obtain ⟨h1, _⟩ := hx
                      replace h1 : r (.tmp 92) = (.int .u32 (c.tm : Int)) := h1
                      exact give_of (by simp [execOp, h1, w_tm, v_tm, go_sem]) ⟨Gr.refl _, rfl⟩
                    refine GoodAll.cons ?_ ?_
                    · intro r wx hR hx
                      obtain ⟨h1, h2, h3, _⟩ := hx
                      replace h1 : r (.func 49) = .func (.func 49) #[] #[] := h1
                      replace h2 : r (.tmp 93) = (.int .u64 (c.tm : Int)) := h2
                      replace h3 : r (.const (.int .i64 4)) = .int .i64 4 := h3
                      refine give_func #[.int .u64 (c.tm : Int), .int .i64 4] rfl h1 Tryd.call49 (by simp [h2, h3]) ?_
                      refine (refNum_any c.tm 4 _).mono ?_
                      rintro e w1 ⟨qa, qm, qc, rfl, hqm, hqo, hqe⟩
                      rw [numB4] at hqm hqo
                      subst hqm
                      exact ⟨_, rfl, Gr.of_ext hqe, _, _, rfl, hqo.base (HZx hR)⟩
                    refine GoodAll.cons ?_ ?_
                    · intro r wx hR hx
                      obtain ⟨h1, h2, _⟩ := hx
                      replace h1 : r (.tmp 90) = (.slice a11 F10.length c11) := h1
                      replace h2 : ((NumV w.heap.size (be c.tm 4)) : Fact) wx (r (.tmp 94)) := h2
                      obtain ⟨ya, yc, ye, yo⟩ := h2
                      obtain ⟨ad, cap, w2, hr, ho2, ht⟩ := run_appG wx w.heap.size 22 (.slice a11 F10.length c11) _ F10 (be c.tm 4) F10 F11 (HPx hR) yo.bytes HPF.out.2.2.2.1 (HZx hR) (List.prefix_refl _) HPF.out.2.1
                      exact give_of (exec_runG rfl h1 rfl hr) ⟨ht, _, _, rfl, ho2⟩
                    refine GoodAll.cons ?_ ?_
                    · intro r wx hR hx
                      obtain ⟨h1, _⟩ := hx
                      replace h1 : r (.tmp 1) = (.pointer (some ⟨w.heap.size, 0, none⟩)) := h1
                      exact give_of (by simp [execOp, h1, go_sem]) ⟨Gr.refl _, rfl⟩
                    refine GoodAll.cons ?_ ?_
                    · intro r wx hR hx
                      obtain ⟨h1, _⟩ := hx
                      replace h1 : r (.tmp 96) = (.pointer (some ⟨w.heap.size, 13, none⟩)) := h1
                      exact give_of (exec_get one22 rfl h1 (kv13 (HBx hR))) ⟨Gr.refl _, rfl⟩
                    refine GoodAll.cons ?_ ?_
                    · intro r wx hR hx
                      obtain ⟨h1, _⟩ := hx
                      replace h1 : r (.tmp 97) = (.int .u32 (c.tp : Int)) := h1
                      exact give_of (by simp [execOp, h1, w_tp, v_tp, go_sem]) ⟨Gr.refl _, rfl⟩
                    refine GoodAll.cons ?_ ?_
                    · intro r wx hR hx
                      obtain ⟨h1, h2, h3, _⟩ := hx
                      replace h1 : r (.func 49) = .func (.func 49) #[] #[] := h1
                      replace h2 : r (.tmp 98) = (.int .u64 (c.tp : Int)) := h2
                      replace h3 : r (.const (.int .i64 4)) = .int .i64 4 := h3
                      refine give_func #[.int .u64 (c.tp : Int), .int .i64 4] rfl h1 Tryd.call49 (by simp [h2, h3]) ?_
                      refine (refNum_any c.tp 4 _).mono ?_
                      rintro e w1 ⟨qa, qm, qc, rfl, hqm, hqo, hqe⟩
                      rw [numB4] at hqm hqo
                      subst hqm
                      exact ⟨_, rfl, Gr.of_ext hqe, _, _, rfl, hqo.base (HZx hR)⟩
                    refine GoodAll.cons ?_ ?_
                    · intro r wx hR hx
                      obtain ⟨h1, h2, _⟩ := hx
                      replace h1 : ((NumV w.heap.size (F10 ++ (be c.tm 4))) : Fact) wx (r (.tmp 95)) := h1
                      replace h2 : ((NumV w.heap.size (be c.tp 4)) : Fact) wx (r (.tmp 99)) := h2
                      obtain ⟨xa, xc, xe, xo⟩ := h1
                      obtain ⟨ya, yc, ye, yo⟩ := h2
                      obtain ⟨ad, cap, w2, hr, ho2, ht⟩ := run_appG wx w.heap.size 22 _ _ (F10 ++ (be c.tm 4)) (be c.tp 4) F10 F11 xo yo.bytes HPF.out.2.2.2.2.1 (HZx hR) (List.prefix_append _ _) (by rw [← HPF.out.2.2.1]; exact List.prefix_refl _)
                      exact give_of (exec_runG rfl rfl rfl hr) ⟨ht, by rw [HPF.out.2.2.1]; exact ⟨_, _, rfl, ho2⟩⟩
                    refine GoodAll.cons ?_ ?_
                    · intro r wx hR hx
                      obtain ⟨h1, _⟩ := hx
                      replace h1 : ((NumV w.heap.size F11) : Fact) wx (r (.tmp 100)) := h1
                      exact give_move (.inr rfl) ⟨Gr.refl _, h1⟩
                    exact GoodAll.nil
                  · intro vs w12 aY hR hold ha
                    have hv0 : vs 0 = (.slice a11 F10.length c11) := hold.at 0
                    have hv1 : vs 1 = (.pointer (some ⟨w.heap.size, 12, none⟩)) := hold.at 1
                    have hv2 : vs 2 = (.int .u32 (c.tm : Int)) := hold.at 2
                    have hv3 : vs 3 = (.int .u64 (c.tm : Int)) := hold.at 3
                    have hv6 : vs 6 = (.pointer (some ⟨w.heap.size, 13, none⟩)) := hold.at 6
                    have hv7 : vs 7 = (.int .u32 (c.tp : Int)) := hold.at 7
                    have hv8 : vs 8 = (.int .u64 (c.tp : Int)) := hold.at 8
                    obtain ⟨a12, c12, e9, ho9⟩ := hold.at 11
                    simp only [List.dropLast_cons_cons, List.dropLast_singleton, putAll, Act.put, hv0, hv1, hv2, hv3, hv6, hv7, hv8, e9, List.setIfInBounds_toArray, List.set_cons_succ, List.set_cons_zero] at ha
                    subst ha
                    have HS12 : Hid (Blk w12 w.heap.size (KV c s) 26 ∧ Ext w w12 ∧ OB w12 w.heap.size (.slice a12 F11.length c12) F11) := ⟨HBx hR, HEx hR, by rw [← e9]; exact ho9⟩
                    clear hold hR HBx HEx HZx HPx hv0 hv1 hv2 hv3 hv6 hv7 hv8
                    clear e9 ho9
                    refine HK11.go _ _ ?_
                    clear HK11
                    go_wp2
                    go_ret
                    exact ⟨a12, _, c12, rfl, by rw [← HL11.out], by rw [← HL11.out]; exact HS12.out.2.2, HS12.out.2.1⟩
end Tlv
end Go.Proofs.YtfhoielfekeihaaDoor

/- A cookie made, by the document. Condition: the tables hold what the text lays. -/
namespace Go.Proofs.YtfhoielfekeihaaDoor
namespace Tlv
open Go Go.RowKit
set_option linter.unusedVariables false
set_option linter.unusedSimpArgs false
set_option maxRecDepth 100000


set_option maxHeartbeats 4000000 in
theorem refMake_any {w : World} {kv : Value} {K : List Nat} {c : Co} {s : So} (hC : Cube w) (hk : BytesAt w kv K) (hK : K.length ≤ 20000) (hc : CoAt w s c) (hf : FitC c) (hg : goodK c = true) :
    Calls Tryd.prog 16 #[kv, .agg (KV c s)] w fun e w' => ∃ a n cp, e = .returned (.slice a n cp) ∧ n = (makeK K c).length ∧ OB w' w.heap.size (.slice a n cp) (makeK K c) ∧ Ext w w' := by
  have HA : Hid (Cube w ∧ BytesAt w kv K ∧ K.length ≤ 20000 ∧ CoAt w s c ∧ FitC c ∧ goodK c = true) := ⟨hC, hk, hK, hc, hf, hg⟩
  obtain ⟨V, hV⟩ : ∃ V, V = laidK c := ⟨_, rfl⟩
  have HV : Hid (V = laidK c ∧ V.length ≤ 200 ∧ makeK K c = V ++ Mac.tag K V) := ⟨hV, by rw [hV]; exact laidK_le hg, by rw [hV]; rfl⟩
  clear hC hk hK hc hf hg hV
  go_enter Tryd.func16, Tryd.ntmps16
  go_wp2_with (first
    | (have q_ := he3; clear q_; at_builtin; refine wl_app (l := V) (m := Mac.tag K V) (base := w.heap.size) rfl rfl rfl rfl (ho2.ext he3) ho3.bytes (by have := HV.out.2.1; rw [Mac.tag_len]; omega) (Nat.le_trans HE2.out.size he3.size) ?_; intro ad4 n4 cap4 w4 hn4 ho4 hk4 hg4)
    | (have q_ := ho2; clear q_; go_at_call 29; refine (refMac_any _ _ K V _ (HA.out.1.ext HE2.out) (HA.out.2.1.ext HE2.out) ho2.bytes HA.out.2.2.1 (by have := HV.out.2.1; omega)).mono ?_; rintro e w3 ⟨v3, rfl, ho3, he3⟩)
    | (have q_ := hb1; clear q_; go_at_call 28; refine (laid_ref (HA.out.2.2.2.1.ext he1) HA.out.2.2.2.2.1 HA.out.2.2.2.2.2).mono ?_; rintro e w2 ⟨la, ln, lc, rfl, hln, ho2', he2⟩; rw [← HV.out.1] at hln ho2'; have ho2 := ho2'.base he1.size; have HE2 : Hid (Ext w w2) := he1.trans he2; have HLN : Hid (ln = V.length) := hln; clear hln ho2' he2)
    | (refine wl_load rfl rowC2 rfl rfl hb1 rfl ?_)
    | (refine wl_box (C := KV c s) rfl rfl rfl ?_; intro w1 hb1 he1 hx; clear hx))
  go_ret
  exact ⟨ad4, n4, cap4, rfl, by rw [HV.out.2.2]; exact hn4.out, by rw [HV.out.2.2]; exact ho4, (HE2.out.trans he3).of_but hk4 (fun q e => ((ho2.ext he3).lt e).1)⟩
end Tlv
end Go.Proofs.YtfhoielfekeihaaDoor
