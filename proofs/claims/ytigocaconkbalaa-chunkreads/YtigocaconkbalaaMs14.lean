/- Texts of the seat, one behind the other. No condition of its own. -/
import Derived.Test.YtigocaconkbalaaMs13
import Derived.BigQuiet
import Derived.Deep.QuietTactic
set_option linter.unusedVariables false
set_option linter.unusedSimpArgs false
set_option maxHeartbeats 32000000
set_option maxRecDepth 100000
namespace Go.Proofs.Ytigocaconkbalaa
namespace Tlv
open Go Go.RowKit
theorem gapsS_step (V : List Nat) (st : Option Nat) (k : Nat) : gapsS V st (k + 1) = ((numS V (numS V (gapsS V st k).1 2).1 2).1, (gapsS V st k).2 ++ [((((numS V (gapsS V st k).1 2).2 : Nat) : Int), (((numS V (numS V (gapsS V st k).1 2).1 2).2 : Nat) : Int))]) := rfl
theorem dupsS_step (V : List Nat) (st : Option Nat) (k : Nat) : dupsS V st (k + 1) = ((numS V (dupsS V st k).1 4).1, (dupsS V st k).2 ++ [(numS V (dupsS V st k).1 4).2]) := rfl
theorem sr_3 : SrP 3 := by
 intro wz w0 wj q q2 qr F bv V HT hF
 intros
 obtain ⟨HR0, HV, HW, HFF⟩ := SrP.open HT hF
 clear HT hF
 have w1 : IntKind.u32.wrap (((numS V (some 0) 4).2 : Nat) : Int) = (((numS V (some 0) 4).2 : Nat) : Int) := by have := numS_u32 HV.out.1 (some 0); rw [IntKind.wrap_u32]; omega
 refine wp_seq_k (fun Ksw hK => ?_)
 have HKsw := Stop.mk hK
 clear hK
 by_cases hg : 16 < (numS V ((numS V ((numS V (some 0) 4).1) 4).1) 2).2
 ·
  have c1 : decide ((((numS V ((numS V ((numS V (some 0) 4).1) 4).1) 2).2 : Nat) : Int) > 16) = true := decide_eq_true (by omega)
  have H4 : Hid (16 < nG V ∨ 16 < nD V) := .inl hg
  clear hg
  go_wp2_with (first
   | (refine wl_store (D := CV (ck0 0) sv0) rfl rowC2 rfl rfl rfl (HW.out.2.2.1.ext HR6.out.ext) rfl rfl (CV.one _ _) ?_; intro w9 hb9 hk9 hx; clear hx)
   | (go_at_call 44; refine (docWord_any HR5.out.rd (HR5.out.bv.ext HR5.out.ext) HV.out.2 2 (by decide)).mono ?_; rintro e y6 ⟨rfl, hr, hk⟩; have HR6 : Hid (DR w0 y6 q qr bv V ((numS V ((numS V ((numS V ((numS V (some 0) 4).1) 4).1) 2).1) 2).1) ({ ck0 3 with tsn := (numS V (some 0) 4).2, win := (((numS V ((numS V (some 0) 4).1) 4).2 : Nat) : Int) }) (sv0)) := HR5.out.word hr hk; clear hr hk HR5)
   | (go_at_call 44; refine (docWord_any HR4.out.rd (HR4.out.bv.ext HR4.out.ext) HV.out.2 2 (by decide)).mono ?_; rintro e y5 ⟨rfl, hr, hk⟩; have HR5 : Hid (DR w0 y5 q qr bv V ((numS V ((numS V ((numS V (some 0) 4).1) 4).1) 2).1) ({ ck0 3 with tsn := (numS V (some 0) 4).2, win := (((numS V ((numS V (some 0) 4).1) 4).2 : Nat) : Int) }) (sv0)) := HR4.out.word hr hk; clear hr hk HR4)
   | (refine wl_setDR HR3.out rfl one3 9 rfl (by first | rfl | go_simp) (by first | rfl | go_simp) (by rfl) (by rfl) (by decide) ({ ck0 3 with tsn := (numS V (some 0) 4).2, win := (((numS V ((numS V (some 0) 4).1) 4).2 : Nat) : Int) }) (sv0) (by exact ⟨HR3.out.ls.t, HR3.out.ls.r, HR3.out.ls.a, HR3.out.ls.i, HR3.out.ls.g, HR3.out.ls.d, HR3.out.ls.o⟩) (by exact HR3.out.na) (by rfl) ?_; intro y4 hr; have HR4 : Hid (DR w0 y4 q qr bv V ((numS V ((numS V (some 0) 4).1) 4).1) ({ ck0 3 with tsn := (numS V (some 0) 4).2, win := (((numS V ((numS V (some 0) 4).1) 4).2 : Nat) : Int) }) (sv0)) := hr; clear hr HR3)
   | (go_at_call 44; refine (docWord_any HR2.out.rd (HR2.out.bv.ext HR2.out.ext) HV.out.2 4 (by decide)).mono ?_; rintro e y3 ⟨rfl, hr, hk⟩; have HR3 : Hid (DR w0 y3 q qr bv V ((numS V ((numS V (some 0) 4).1) 4).1) ({ ck0 3 with tsn := (numS V (some 0) 4).2 }) (sv0)) := HR2.out.word hr hk; clear hr hk HR2)
   | (refine wl_setDR HR1.out rfl one22 12 rfl (by first | rfl | go_simp) (by first | rfl | go_simp) (by rfl) (by rfl) (by decide) ({ ck0 3 with tsn := (numS V (some 0) 4).2 }) (sv0) (by exact ⟨HR1.out.ls.t, HR1.out.ls.r, HR1.out.ls.a, HR1.out.ls.i, HR1.out.ls.g, HR1.out.ls.d, HR1.out.ls.o⟩) (by exact HR1.out.na) (by rfl) ?_; intro y2 hr; have HR2 : Hid (DR w0 y2 q qr bv V ((numS V (some 0) 4).1) ({ ck0 3 with tsn := (numS V (some 0) 4).2 }) (sv0)) := hr; clear hr HR1)
   | (go_at_call 44; refine (docWord_any HR0.out.rd (HR0.out.bv.ext HR0.out.ext) HV.out.2 4 (by decide)).mono ?_; rintro e y1 ⟨rfl, hr, hk⟩; have HR1 : Hid (DR w0 y1 q qr bv V ((numS V (some 0) 4).1) (ck0 3) (sv0)) := HR0.out.word hr hk; clear hr hk HR0))
  refine bodyPost_ret (res_two (fn := Try.f18) (p := 2) (u := 3) rfl _ _ rfl rfl hb9 Try.underlying32 (by kernel_rfl)) rfl ?_
  refine show RdOut wz (docRd 3 F V) _ w9 from ⟨(HW.out.1.trans HR6.out.ext).of_but hk9 (fun k e => by subst e; exact HW.out.2.1), _, _, _, rfl, (lq0 0 _ _).at, .inr ⟨rfl, rfl, rfl, fun d2 h2 => ?_⟩⟩
  rw [show docRd 3 F V = none from by unfold docRd; rw [if_neg (by decide), if_neg (by decide), if_pos (by decide)]; exact if_pos H4.out] at h2
  cases h2
 have c1 : decide ((((numS V ((numS V ((numS V (some 0) 4).1) 4).1) 2).2 : Nat) : Int) > 16) = false := decide_eq_false (by omega)
 by_cases hd : 16 < (numS V ((numS V ((numS V ((numS V (some 0) 4).1) 4).1) 2).1) 2).2
 ·
  have c2 : decide ((((numS V ((numS V ((numS V ((numS V (some 0) 4).1) 4).1) 2).1) 2).2 : Nat) : Int) > 16) = true := decide_eq_true (by omega)
  have H4 : Hid (16 < nG V ∨ 16 < nD V) := .inr hd
  clear hd hg
  go_wp2_with (first
   | (refine wl_store (D := CV (ck0 0) sv0) rfl rowC2 rfl rfl rfl (HW.out.2.2.1.ext HR6.out.ext) rfl rfl (CV.one _ _) ?_; intro w9 hb9 hk9 hx; clear hx)
   | (go_at_call 44; refine (docWord_any HR5.out.rd (HR5.out.bv.ext HR5.out.ext) HV.out.2 2 (by decide)).mono ?_; rintro e y6 ⟨rfl, hr, hk⟩; have HR6 : Hid (DR w0 y6 q qr bv V ((numS V ((numS V ((numS V ((numS V (some 0) 4).1) 4).1) 2).1) 2).1) ({ ck0 3 with tsn := (numS V (some 0) 4).2, win := (((numS V ((numS V (some 0) 4).1) 4).2 : Nat) : Int) }) (sv0)) := HR5.out.word hr hk; clear hr hk HR5)
   | (go_at_call 44; refine (docWord_any HR4.out.rd (HR4.out.bv.ext HR4.out.ext) HV.out.2 2 (by decide)).mono ?_; rintro e y5 ⟨rfl, hr, hk⟩; have HR5 : Hid (DR w0 y5 q qr bv V ((numS V ((numS V ((numS V (some 0) 4).1) 4).1) 2).1) ({ ck0 3 with tsn := (numS V (some 0) 4).2, win := (((numS V ((numS V (some 0) 4).1) 4).2 : Nat) : Int) }) (sv0)) := HR4.out.word hr hk; clear hr hk HR4)
   | (refine wl_setDR HR3.out rfl one3 9 rfl (by first | rfl | go_simp) (by first | rfl | go_simp) (by rfl) (by rfl) (by decide) ({ ck0 3 with tsn := (numS V (some 0) 4).2, win := (((numS V ((numS V (some 0) 4).1) 4).2 : Nat) : Int) }) (sv0) (by exact ⟨HR3.out.ls.t, HR3.out.ls.r, HR3.out.ls.a, HR3.out.ls.i, HR3.out.ls.g, HR3.out.ls.d, HR3.out.ls.o⟩) (by exact HR3.out.na) (by rfl) ?_; intro y4 hr; have HR4 : Hid (DR w0 y4 q qr bv V ((numS V ((numS V (some 0) 4).1) 4).1) ({ ck0 3 with tsn := (numS V (some 0) 4).2, win := (((numS V ((numS V (some 0) 4).1) 4).2 : Nat) : Int) }) (sv0)) := hr; clear hr HR3)
   | (go_at_call 44; refine (docWord_any HR2.out.rd (HR2.out.bv.ext HR2.out.ext) HV.out.2 4 (by decide)).mono ?_; rintro e y3 ⟨rfl, hr, hk⟩; have HR3 : Hid (DR w0 y3 q qr bv V ((numS V ((numS V (some 0) 4).1) 4).1) ({ ck0 3 with tsn := (numS V (some 0) 4).2 }) (sv0)) := HR2.out.word hr hk; clear hr hk HR2)
   | (refine wl_setDR HR1.out rfl one22 12 rfl (by first | rfl | go_simp) (by first | rfl | go_simp) (by rfl) (by rfl) (by decide) ({ ck0 3 with tsn := (numS V (some 0) 4).2 }) (sv0) (by exact ⟨HR1.out.ls.t, HR1.out.ls.r, HR1.out.ls.a, HR1.out.ls.i, HR1.out.ls.g, HR1.out.ls.d, HR1.out.ls.o⟩) (by exact HR1.out.na) (by rfl) ?_; intro y2 hr; have HR2 : Hid (DR w0 y2 q qr bv V ((numS V (some 0) 4).1) ({ ck0 3 with tsn := (numS V (some 0) 4).2 }) (sv0)) := hr; clear hr HR1)
   | (go_at_call 44; refine (docWord_any HR0.out.rd (HR0.out.bv.ext HR0.out.ext) HV.out.2 4 (by decide)).mono ?_; rintro e y1 ⟨rfl, hr, hk⟩; have HR1 : Hid (DR w0 y1 q qr bv V ((numS V (some 0) 4).1) (ck0 3) (sv0)) := HR0.out.word hr hk; clear hr hk HR0))
  refine bodyPost_ret (res_two (fn := Try.f18) (p := 2) (u := 3) rfl _ _ rfl rfl hb9 Try.underlying32 (by kernel_rfl)) rfl ?_
  refine show RdOut wz (docRd 3 F V) _ w9 from ⟨(HW.out.1.trans HR6.out.ext).of_but hk9 (fun k e => by subst e; exact HW.out.2.1), _, _, _, rfl, (lq0 0 _ _).at, .inr ⟨rfl, rfl, rfl, fun d2 h2 => ?_⟩⟩
  rw [show docRd 3 F V = none from by unfold docRd; rw [if_neg (by decide), if_neg (by decide), if_pos (by decide)]; exact if_pos H4.out] at h2
  cases h2
 have c2 : decide ((((numS V ((numS V ((numS V ((numS V (some 0) 4).1) 4).1) 2).1) 2).2 : Nat) : Int) > 16) = false := decide_eq_false (by omega)
 have H4 : Hid (¬ (16 < nG V ∨ 16 < nD V)) := fun e => e.elim hg hd
 obtain ⟨N, hN⟩ : ∃ N, N = (numS V ((numS V ((numS V (some 0) 4).1) 4).1) 2).2 := ⟨_, rfl⟩
 obtain ⟨M, hM⟩ : ∃ M, M = (numS V ((numS V ((numS V ((numS V (some 0) 4).1) 4).1) 2).1) 2).2 := ⟨_, rfl⟩
 have HNM : Hid (N = nG V ∧ M = nD V ∧ N ≤ 16 ∧ M ≤ 16) := ⟨hN, hM, by omega, by omega⟩
 have hNi : (((numS V ((numS V ((numS V (some 0) 4).1) 4).1) 2).2 : Nat) : Int) = (N : Int) := by rw [hN]
 have hMi : (((numS V ((numS V ((numS V ((numS V (some 0) 4).1) 4).1) 2).1) 2).2 : Nat) : Int) = (M : Int) := by rw [hM]
 rw [hNi] at c1
 rw [hMi] at c2
 clear hg hd hN hM
 go_wp2_with (first
  | (go_at_call 44; refine (docWord_any HR5.out.rd (HR5.out.bv.ext HR5.out.ext) HV.out.2 2 (by decide)).mono ?_; rintro e y6 ⟨rfl, hr, hk⟩; rw [hMi]; have HR6 : Hid (DR w0 y6 q qr bv V ((numS V ((numS V ((numS V ((numS V (some 0) 4).1) 4).1) 2).1) 2).1) ({ ck0 3 with tsn := (numS V (some 0) 4).2, win := (((numS V ((numS V (some 0) 4).1) 4).2 : Nat) : Int) }) (sv0)) := HR5.out.word hr hk; clear hr hk HR5)
  | (go_at_call 44; refine (docWord_any HR4.out.rd (HR4.out.bv.ext HR4.out.ext) HV.out.2 2 (by decide)).mono ?_; rintro e y5 ⟨rfl, hr, hk⟩; rw [hNi]; have HR5 : Hid (DR w0 y5 q qr bv V ((numS V ((numS V ((numS V (some 0) 4).1) 4).1) 2).1) ({ ck0 3 with tsn := (numS V (some 0) 4).2, win := (((numS V ((numS V (some 0) 4).1) 4).2 : Nat) : Int) }) (sv0)) := HR4.out.word hr hk; clear hr hk HR4)
  | (refine wl_setDR HR3.out rfl one3 9 rfl (by first | rfl | go_simp) (by first | rfl | go_simp) (by rfl) (by rfl) (by decide) ({ ck0 3 with tsn := (numS V (some 0) 4).2, win := (((numS V ((numS V (some 0) 4).1) 4).2 : Nat) : Int) }) (sv0) (by exact ⟨HR3.out.ls.t, HR3.out.ls.r, HR3.out.ls.a, HR3.out.ls.i, HR3.out.ls.g, HR3.out.ls.d, HR3.out.ls.o⟩) (by exact HR3.out.na) (by rfl) ?_; intro y4 hr; have HR4 : Hid (DR w0 y4 q qr bv V ((numS V ((numS V (some 0) 4).1) 4).1) ({ ck0 3 with tsn := (numS V (some 0) 4).2, win := (((numS V ((numS V (some 0) 4).1) 4).2 : Nat) : Int) }) (sv0)) := hr; clear hr HR3)
  | (go_at_call 44; refine (docWord_any HR2.out.rd (HR2.out.bv.ext HR2.out.ext) HV.out.2 4 (by decide)).mono ?_; rintro e y3 ⟨rfl, hr, hk⟩; have HR3 : Hid (DR w0 y3 q qr bv V ((numS V ((numS V (some 0) 4).1) 4).1) ({ ck0 3 with tsn := (numS V (some 0) 4).2 }) (sv0)) := HR2.out.word hr hk; clear hr hk HR2)
  | (refine wl_setDR HR1.out rfl one22 12 rfl (by first | rfl | go_simp) (by first | rfl | go_simp) (by rfl) (by rfl) (by decide) ({ ck0 3 with tsn := (numS V (some 0) 4).2 }) (sv0) (by exact ⟨HR1.out.ls.t, HR1.out.ls.r, HR1.out.ls.a, HR1.out.ls.i, HR1.out.ls.g, HR1.out.ls.d, HR1.out.ls.o⟩) (by exact HR1.out.na) (by rfl) ?_; intro y2 hr; have HR2 : Hid (DR w0 y2 q qr bv V ((numS V (some 0) 4).1) ({ ck0 3 with tsn := (numS V (some 0) 4).2 }) (sv0)) := hr; clear hr HR1)
  | (go_at_call 44; refine (docWord_any HR0.out.rd (HR0.out.bv.ext HR0.out.ext) HV.out.2 4 (by decide)).mono ?_; rintro e y1 ⟨rfl, hr, hk⟩; have HR1 : Hid (DR w0 y1 q qr bv V ((numS V (some 0) 4).1) (ck0 3) (sv0)) := HR0.out.word hr hk; clear hr hk HR0))
 have HL0 : Hid (DR w0 y6 q qr bv V (gapsS V (st4 V) 0).1 ({ hdSack V with gaps := (gapsS V (st4 V) 0).2 }) sv0) := HR6
 clear HR6 c1 c2 hNi hMi w1
 go_loopg [12] N (fun gm t wr => ∃ (k r : Nat) (s : Sv), k + r = N ∧ r = gm ∧ t = .int .i64 (r : Int) ∧ Hid (DR w0 wr q qr bv V (gapsS V (st4 V) k).1 ({ hdSack V with gaps := (gapsS V (st4 V) k).2 }) s))
 case atStart => exact ⟨0, N, sv0, Nat.zero_add _, rfl, rfl, HL0⟩
 case round =>
  obtain ⟨k, r, s, hk, rfl, rfl, HR0⟩ := hrel
  clear HL0
  by_cases hlt : 0 < r
  ·
   have hd : decide ((r : Int) > 0) = true := decide_eq_true (by omega)
   have hd2 : decide (0 < r) = true := decide_eq_true hlt
   obtain ⟨r', hr'⟩ : ∃ r', r' = r - 1 := ⟨_, rfl⟩
   have hs1 : IntKind.i64.wrap ((r : Int) - 1) = (r' : Int) := by rw [IntKind.wrap_i64]; have := HNM.out; omega
   have HK : Hid (k + 1 + r' = N ∧ r' < r ∧ k < N) := show _ ∧ _ ∧ _ by omega
   obtain ⟨g, hgg⟩ : ∃ g, g = (gapsS V (st4 V) k).1 := ⟨_, rfl⟩
   obtain ⟨C, hCC⟩ : ∃ C, C = ({ hdSack V with gaps := (gapsS V (st4 V) k).2 } : Ck) := ⟨_, rfl⟩
   have HLC : Hid (C.gaps.length ≤ 100000) := show _ ≤ _ by rw [hCC]; show (gapsS V (st4 V) k).2.length ≤ _; rw [gapsS_len]; have := HNM.out; omega
   have HST : Hid ((gapsS V (st4 V) (k + 1)).1 = (numS V (numS V g 2).1 2).1 ∧ ({ hdSack V with gaps := (gapsS V (st4 V) (k + 1)).2 } : Ck) = { C with gaps := C.gaps ++ [((((numS V g 2).2 : Nat) : Int), (((numS V (numS V g 2).1 2).2 : Nat) : Int))] }) := by rw [gapsS_step, hCC, hgg]; exact ⟨rfl, rfl⟩
   rw [← hgg, ← hCC] at HR0
   clear hgg hCC hk hr'
   go_wp2_with (first
    | (refine wl_storeHR HF.out rfl oneSG2 16 rfl (by first | rfl | go_simp) (by first | rfl | go_simp) (by rfl) (by rfl) (by decide) (by rfl) ?_; intro y9 hr9; have HR9 : Hid (DR w0 y9 q qr bv V (numS V (numS V g 2).1 2).1 ({ C with gaps := C.gaps ++ [((((numS V g 2).2 : Nat) : Int), (((numS V (numS V g 2).1 2).2 : Nat) : Int))] }) { s with gA := ad, gN := nn, gC := cap }) := hr9; clear hr9 HF)
    | (at_builtin; refine wl_appR_g (p := ((((numS V g 2).2 : Nat) : Int), (((numS V (numS V g 2).1 2).2 : Nat) : Int))) HB4.out.dr HLC.out rfl rfl rfl (by first | rfl | go_simp) (by first | rfl | go_simp) rfl ?_; intro ad nn cap y8 hf; have HF : Hid (HalfR w0 y8 q qr bv V (numS V (numS V g 2).1 2).1 C ({ C with gaps := C.gaps ++ [((((numS V g 2).2 : Nat) : Int), (((numS V (numS V g 2).1 2).2 : Nat) : Int))] }) s { s with gA := ad, gN := nn, gC := cap }) := hf; clear hf HB4)
    | (refine wl_load rfl rowG2 (by rfl) (by first | rfl | go_simp) HB4.out.bx (by rfl) ?_)
    | (refine wpList_of_run (v := .slice s.gA s.gN s.gC) rfl (exg oneSG2 (by rfl) (by first | rfl | go_simp) (cv16 HB4.out.dr.hb)) ?_)
    | (refine wl_set (v := .int .i64 (((numS V (numS V g 2).1 2).2 : Nat) : Int)) rfl one3 (by rfl) (by first | rfl | go_simp) (by first | rfl | go_simp) (by rfl) (by rfl) HB3.out.bx (by exact Nat.lt_succ_self 1) ?_; intro y5 hb5 hk5 hx5; clear hx5; have HB4 : Hid (DRb w0 y5 q qr y1.heap.size bv V (numS V (numS V g 2).1 2).1 C s (((numS V g 2).2 : Nat) : Int) (((numS V (numS V g 2).1 2).2 : Nat) : Int)) := HB3.out.set hb5 hk5; clear hb5 hk5 HB3)
    | (go_at_call 44; refine (docWord_any HB2.out.dr.rd (HB2.out.dr.bv.ext HB2.out.dr.ext) HV.out.2 2 (by decide)).mono ?_; rintro e y4 ⟨rfl, hr, hk⟩; have HB3 : Hid (DRb w0 y4 q qr y1.heap.size bv V (numS V (numS V g 2).1 2).1 C s (((numS V g 2).2 : Nat) : Int) 0) := HB2.out.word hr hk; clear hr hk HB2)
    | (refine wl_store (D := #[.int .i64 (((numS V g 2).2 : Nat) : Int), .int .i64 0]) rfl rowG2 (by rfl) (by first | rfl | go_simp) (by first | rfl | go_simp) HB1.out.bx (by rfl) (by rfl) (two_one _ _) ?_; intro y3 hb3 hk3 hx3; clear hx3; have HB2 : Hid (DRb w0 y3 q qr y1.heap.size bv V (numS V g 2).1 C s (((numS V g 2).2 : Nat) : Int) 0) := HB1.out.set hb3 hk3; clear hb3 hk3 HB1)
    | (have q_ := HR1; clear q_; refine wl_alloc rfl (by rfl) zeroG2 ?_; intro y2 hb2 he2 hx2; clear hx2; have HB1 : Hid (DRb w0 y2 q qr y1.heap.size bv V (numS V g 2).1 C s 0 0) := HR1.out.box he2 hb2; clear hb2 he2 HR1)
    | (go_at_call 44; refine (docWord_any HR0.out.rd (HR0.out.bv.ext HR0.out.ext) HV.out.2 2 (by decide)).mono ?_; rintro e y1 ⟨rfl, hr, hk⟩; have HR1 : Hid (DR w0 y1 q qr bv V (numS V g 2).1 C s) := HR0.out.word hr hk; clear hr hk HR0))
   rw [← HST.out.1, ← HST.out.2] at HR9
   go_roundg r'
   case measure => have := HK.out; omega
   case rel => exact ⟨k + 1, r', _, HK.out.1, rfl, rfl, HR9⟩
  ·
   have hd : decide ((r : Int) > 0) = false := decide_eq_false (by omega)
   have hd2 : decide (0 < r) = false := decide_eq_false hlt
   obtain ⟨C, hCC⟩ : ∃ C, C = ({ hdSack V with gaps := (gapsS V (st4 V) (nG V)).2 } : Ck) := ⟨_, rfl⟩
   have HC : Hid (C = { hdSack V with gaps := (gapsS V (st4 V) (nG V)).2 }) := hCC
   have HL1 : Hid (DR w0 wr q qr bv V (dupsS V (gS V) 0).1 ({ C with dups := (dupsS V (gS V) 0).2 }) s) := by
    have e : k = nG V := by have := HNM.out; omega
    rw [e] at HR0
    rw [hCC]
    exact HR0
   clear HR0 hk hCC
   go_wp2
   go_loopg [13] M (fun gm t wr => ∃ (k r : Nat) (s : Sv), k + r = M ∧ r = gm ∧ t = .int .i64 (r : Int) ∧ Hid (DR w0 wr q qr bv V (dupsS V (gS V) k).1 ({ C with dups := (dupsS V (gS V) k).2 }) s))
   case atStart => exact ⟨0, M, s, Nat.zero_add _, rfl, rfl, HL1⟩
   case round =>
    obtain ⟨k, r, s, hk, rfl, rfl, HQ0⟩ := hrel
    clear HL1
    by_cases hlt : 0 < r
    ·
     have hd : decide ((r : Int) > 0) = true := decide_eq_true (by omega)
     have hd2 : decide (0 < r) = true := decide_eq_true hlt
     obtain ⟨r', hr'⟩ : ∃ r', r' = r - 1 := ⟨_, rfl⟩
     have hs1 : IntKind.i64.wrap ((r : Int) - 1) = (r' : Int) := by rw [IntKind.wrap_i64]; have := HNM.out; omega
     have HK : Hid (k + 1 + r' = M ∧ r' < r ∧ k < M) := show _ ∧ _ ∧ _ by omega
     obtain ⟨st, hst⟩ : ∃ st, st = (dupsS V (gS V) k).1 := ⟨_, rfl⟩
     obtain ⟨c, hcc⟩ : ∃ c, c = ({ C with dups := (dupsS V (gS V) k).2 } : Ck) := ⟨_, rfl⟩
     have HLn : Hid (c.dups.length ≤ 100000) := show _ ≤ _ by rw [hcc]; show (dupsS V (gS V) k).2.length ≤ _; rw [dupsS_len]; have := HNM.out; omega
     have HST : Hid ((dupsS V (gS V) (k + 1)).1 = (numS V st 4).1 ∧ ({ C with dups := (dupsS V (gS V) (k + 1)).2 } : Ck) = { c with dups := c.dups ++ [(numS V st 4).2] }) := by rw [dupsS_step, hcc, hst]; exact ⟨rfl, rfl⟩
     rw [← hst, ← hcc] at HQ0
     have HQ : Hid (DR w0 wr q qr bv V st c s) := HQ0
     have hw1 : IntKind.u32.wrap (((numS V st 4).2 : Nat) : Int) = (((numS V st 4).2 : Nat) : Int) := by have := numS_u32 HV.out.1 st; rw [IntKind.wrap_u32]; omega
     have hw2 : (((numS V st 4).2 : Nat) : Int) % 4294967296 = (((numS V st 4).2 : Nat) : Int) := by have := numS_u32 HV.out.1 st; omega
     clear hst hcc hk hr' HQ0
     go_wp2_with fail
     refine wp_region_W (DupQ w0 q qr bv V st c s) (fun t => bif Nat.ble 161 t && Nat.ble t 168 then some (t - 161) else none) 244 rfl (by kernel_rfl) rfl (fun vs => ⟨fun _ => HQ.out.grow (Ext.drew _), fun h => by simp at h, fun h => by simp at h, fun h => by simp at h, fun h => by simp at h, fun h => by simp at h, fun h => by simp at h, fun h => by simp at h, fun h => by simp at h, fun h => by simp at h, fun h => by simp at h, fun h => by simp at h, fun h => by simp at h, fun h => by simp at h, fun h => by simp at h, fun h => by simp at h⟩) ?_ ?_
     ·
      refine Ow ⟨rfl, ?_⟩ (Ow ⟨rfl, ?_⟩ (Ow ⟨rfl, ?_⟩ (Ow ⟨rfl, ?_⟩ (Ow ⟨rfl, ?_⟩ (Ow ⟨rfl, ?_⟩ (Ow ⟨rfl, ?_⟩ (Ow ⟨rfl, ?_⟩ (Ow ⟨rfl, ?_⟩ OwedVs.nil))))))))
      ·
       rintro L vs wx r H hl hL ⟨h1, _⟩
       replace h1 : r (.tmp 8) = ptr q := h1
       exact gvo (by simp [execOp, h1, ptr, go_sem]; done) { H with k0 := fun _ => rfl }
      ·
       rintro L vs wx r H hl hL ⟨h1, _⟩
       replace h1 : r (.tmp 161) = .pointer (some ⟨q, 17, none⟩) := Eq.trans h1 (H.k0 (hL 0 (by kernel_rfl)))
       have h6 : L 6 = false := met_no H.d6_1 hl
       have hbq : Blk wx q (CV c s) 32 := by
        cases h3 : L 3 with
        | false => exact (H.A0 h3).hb
        | true => exact (H.A1 h3 h6).hb
       exact gvo (exg oneSD rfl h1 (cv17 hbq)) { H with k1 := fun _ => rfl, d6_1 := fun _ => rfl }
      ·
       rintro L vs wx r H hl hL ⟨h1, _⟩
       replace h1 : r (.tmp 10) = ptr qr := h1
       exact give_move (.inl rfl) (by rw [h1]; exact { H with k2 := fun _ => rfl })
      ·
       rintro L vs wx r H hl hL ⟨h1, h2, h3, _⟩
       replace h1 : r (.func 44) = .func (.func 44) #[] #[] := h1
       replace h2 : r (.tmp 163) = ptr qr := Eq.trans h2 (H.k2 (hL 2 (by kernel_rfl)))
       replace h3 : r (.const (.int .i64 4)) = .int .i64 4 := h3
       have h4 : L 4 = false := met_no H.d4_3 hl
       have h5 : L 5 = false := met_no H.d5_4 h4
       have h6 : L 6 = false := met_no H.d6_5 h5
       have h8 : L 8 = false := met_no H.d8_6 h6
       refine give_func #[ptr qr, .int .i64 4] rfl h1 Try.call44 (by simp [h2, h3]) ?_
       refine (docWord_any (H.A0 hl).rd ((H.A0 hl).bv.ext (H.A0 hl).ext) HV.out.2 4 (by decide)).mono ?_
       rintro e w' ⟨rfl, hr, hk⟩
       exact ⟨_, rfl, { H with A0 := fun h => absurd h (by simp [met1]), A1 := fun _ _ => (H.A0 hl).word hr hk, B := fun h => absurd (h.symm.trans h6) (by decide), C := fun h => absurd (h.symm.trans h8) (by decide), S := fun h => absurd (h.symm.trans h5) (by decide), k3 := fun _ => rfl, d4_3 := fun _ => rfl }⟩
      ·
       rintro L vs wx r H hl hL ⟨h1, _⟩
       replace h1 : r (.tmp 164) = .int .i64 (((numS V st 4).2) : Nat) := Eq.trans h1 (H.k3 (hL 3 (by kernel_rfl)))
       exact gvo (by simp [execOp, h1, go_sem, hw1, hw2]; done) { H with k4 := fun _ => rfl, d5_4 := fun _ => rfl, d4_3 := fun _ => hL 3 (by kernel_rfl) }
      ·
       rintro L vs wx r H hl hL ⟨h1, _⟩
       replace h1 : r (.tmp 165) = .int .u32 ((((numS V st 4).2) : Nat) : Int) := Eq.trans h1 (H.k4 (hL 4 (by kernel_rfl)))
       have h3 : L 3 = true := H.d4_3 (hL 4 (by kernel_rfl))
       have h6 : L 6 = false := met_no H.d6_5 hl
       have h8 : L 8 = false := met_no H.d8_6 h6
       exact give_one_num rfl numTD h1 { H with A0 := fun h => absurd (h.symm.trans h3) (by decide), A1 := fun h h' => (H.A1 h h').grow (Ext.alloc _ _), B := fun h => absurd (h.symm.trans h6) (by decide), C := fun h => absurd (h.symm.trans h8) (by decide), S := fun _ _ => NumsAt.one wx _ _ _ rfl, d6_5 := fun _ => rfl, d5_4 := fun _ => hL 4 (by kernel_rfl) }
      ·
       rintro L vs wx r H hl hL ⟨h1, h2, _⟩
       have h8 : L 8 = false := met_no H.d8_6 hl
       have h3 : L 3 = true := H.d4_3 (H.d5_4 (hL 5 (by kernel_rfl)))
       replace h1 : r (.tmp 162) = .slice s.dA s.dN s.dC := Eq.trans h1 (H.k1 (hL 1 (by kernel_rfl)))
       replace h2 : r (.tmp 166) = vs 5 := h2
       exact give_appR_d (H.A1 h3 hl) (H.S (hL 5 (by kernel_rfl)) hl) HLn.out rfl h1 h2 (fun ad n cap w' hf => ⟨fun h => absurd (h.symm.trans h3) (by decide), fun _ h => absurd h (by simp [met1]), fun _ _ => ⟨ad, n, cap, rfl, hf⟩, fun h => absurd (h.symm.trans h8) (by decide), fun _ h => absurd h (by simp [met1]), H.k0, H.k1, H.k2, H.k3, H.k4, H.k7, fun _ => hL 1 (by kernel_rfl), fun _ => hL 5 (by kernel_rfl), fun _ => rfl, H.d5_4, H.d4_3⟩)
      ·
       rintro L vs wx r H hl hL ⟨h1, _⟩
       replace h1 : r (.tmp 8) = ptr q := h1
       exact gvo (by simp [execOp, h1, ptr, go_sem]; done) { H with k7 := fun _ => rfl }
      ·
       rintro L vs wx r H hl hL ⟨h1, h2, _⟩
       replace h1 : r (.tmp 168) = .pointer (some ⟨q, 17, none⟩) := Eq.trans h1 (H.k7 (hL 7 (by kernel_rfl)))
       obtain ⟨ad, n, cap, e, hf⟩ := H.B (hL 6 (by kernel_rfl)) hl
       replace h2 : r (.tmp 167) = .slice ad n cap := Eq.trans h2 e
       have h5 : L 5 = true := H.d6_5 (hL 6 (by kernel_rfl))
       have h3 : L 3 = true := H.d4_3 (H.d5_4 h5)
       exact give_skip (exec_set oneSD rfl h1 h2 rfl rfl hf.hb (show 17 < (CV c s).size from (by decide : 17 < 22))) { H with A0 := fun h => absurd (h.symm.trans h3) (by decide), A1 := fun _ h => absurd (h.symm.trans (hL 6 (by kernel_rfl))) (by decide), B := fun _ h => absurd h (by simp [met1]), C := fun _ => ⟨_, hf.store rfl⟩, S := fun _ h => absurd (h.symm.trans (hL 6 (by kernel_rfl))) (by decide), d8_6 := fun _ => hL 6 (by kernel_rfl) }
     ·
      intro vs2 a2 w8 H ha2
      obtain ⟨s2, hr2⟩ := H.C rfl
      have HR9 : Hid (DR w0 w8 q qr bv V (numS V st 4).1 ({ c with dups := c.dups ++ [(numS V st 4).2] }) s2) := hr2
      clear hr2 H
      simp only [putAll, Act.put, Nat.zero_add, Nat.reduceAdd, List.setIfInBounds_toArray, List.set_cons_succ, List.set_cons_zero] at ha2
      subst ha2
      go_wp2
      rw [← HST.out.1, ← HST.out.2] at HR9
      go_roundg r'
      case measure => have := HK.out; omega
      case rel => exact ⟨k + 1, r', s2, HK.out.1, rfl, rfl, HR9⟩
    ·
     have hd : decide ((r : Int) > 0) = false := decide_eq_false (by omega)
     have hd2 : decide (0 < r) = false := decide_eq_false hlt
     have HZ : Hid (DR w0 wr q qr bv V (dS V) (docSack V) s) := by
      have e : k = nD V := by have := HNM.out; omega
      rw [e, HC.out] at HQ0
      exact HQ0
     clear HQ0 hk
     go_wp2
     refine HKsw.go _ _ ?_
     clear HKsw
     rw [show docRd 3 F V = finS (docSack V) F V (dS V) from by unfold docRd; rw [if_neg (by decide), if_neg (by decide), if_pos (by decide)]; exact if_neg H4.out]
     exact tailR ⟨HZ.out, HW.out⟩
theorem sr_6 : SrP 6 := by
 intro wz w0 wj q q2 qr F bv V HT hF
 intros
 obtain ⟨HR0, HV, HW, HFF⟩ := SrP.open HT hF
 clear HT hF
 refine wp_seq_k (fun Ksw hK => ?_)
 have HKsw := Stop.mk hK
 clear hK
 by_cases h4 : (numS V ((numS V (some 0) 2).1) 2).2 = 4
 ·
  have hc : ((((numS V ((numS V (some 0) 2).1) 2).2 : Nat) : Int) != 4) = false := by rw [h4]; rfl
  have H4 : Hid ((numS V ((numS V (some 0) 2).1) 2).2 = 4) := h4
  clear h4
  go_wp2_with (first
   | (go_at_call 44; refine (docWord_any HR2.out.rd (HR2.out.bv.ext HR2.out.ext) HV.out.2 2 (by decide)).mono ?_; rintro e y3 ⟨rfl, hr, hk⟩; have HR3 : Hid (DR w0 y3 q qr bv V ((numS V ((numS V (some 0) 2).1) 2).1) ({ ck0 6 with cause := (((numS V (some 0) 2).2 : Nat) : Int) }) (sv0)) := HR2.out.word hr hk; clear hr hk HR2)
   | (refine wl_setDR HR1.out rfl one3 18 rfl (by first | rfl | go_simp) (by first | rfl | go_simp) (by rfl) (by rfl) (by decide) ({ ck0 6 with cause := (((numS V (some 0) 2).2 : Nat) : Int) }) (sv0) (by exact ⟨HR1.out.ls.t, HR1.out.ls.r, HR1.out.ls.a, HR1.out.ls.i, HR1.out.ls.g, HR1.out.ls.d, HR1.out.ls.o⟩) (by exact HR1.out.na) (by rfl) ?_; intro y2 hr; have HR2 : Hid (DR w0 y2 q qr bv V ((numS V (some 0) 2).1) ({ ck0 6 with cause := (((numS V (some 0) 2).2 : Nat) : Int) }) (sv0)) := hr; clear hr HR1)
   | (go_at_call 44; refine (docWord_any HR0.out.rd (HR0.out.bv.ext HR0.out.ext) HV.out.2 2 (by decide)).mono ?_; rintro e y1 ⟨rfl, hr, hk⟩; have HR1 : Hid (DR w0 y1 q qr bv V ((numS V (some 0) 2).1) (ck0 6) (sv0)) := HR0.out.word hr hk; clear hr hk HR0))
  refine HKsw.go _ _ ?_
  clear HKsw
  rw [show docRd 6 F V = finS ({ ck0 6 with cause := (((numS V (some 0) 2).2 : Nat) : Int) }) (F) V ((numS V ((numS V (some 0) 2).1) 2).1) from by unfold docRd; rw [if_neg (by decide), if_neg (by decide), if_neg (by decide), if_pos (by decide)]; rw [if_neg (show ¬ (numS V (ca1 V) 2).2 ≠ 4 from fun h => h H4.out)] <;> rfl]
  exact tailR ⟨HR3.out, HW.out⟩
 ·
  have hc : ((((numS V ((numS V (some 0) 2).1) 2).2 : Nat) : Int) != 4) = true := bne_iff_ne.2 (by omega)
  have H4 : Hid ((numS V ((numS V (some 0) 2).1) 2).2 ≠ 4) := h4
  clear h4
  go_wp2_with (first
   | (refine wl_store (D := CV (ck0 0) sv0) rfl rowC2 rfl rfl rfl (HW.out.2.2.1.ext HR3.out.ext) rfl rfl (CV.one _ _) ?_; intro w9 hb9 hk9 hx; clear hx)
   | (go_at_call 44; refine (docWord_any HR2.out.rd (HR2.out.bv.ext HR2.out.ext) HV.out.2 2 (by decide)).mono ?_; rintro e y3 ⟨rfl, hr, hk⟩; have HR3 : Hid (DR w0 y3 q qr bv V ((numS V ((numS V (some 0) 2).1) 2).1) ({ ck0 6 with cause := (((numS V (some 0) 2).2 : Nat) : Int) }) (sv0)) := HR2.out.word hr hk; clear hr hk HR2)
   | (refine wl_setDR HR1.out rfl one3 18 rfl (by first | rfl | go_simp) (by first | rfl | go_simp) (by rfl) (by rfl) (by decide) ({ ck0 6 with cause := (((numS V (some 0) 2).2 : Nat) : Int) }) (sv0) (by exact ⟨HR1.out.ls.t, HR1.out.ls.r, HR1.out.ls.a, HR1.out.ls.i, HR1.out.ls.g, HR1.out.ls.d, HR1.out.ls.o⟩) (by exact HR1.out.na) (by rfl) ?_; intro y2 hr; have HR2 : Hid (DR w0 y2 q qr bv V ((numS V (some 0) 2).1) ({ ck0 6 with cause := (((numS V (some 0) 2).2 : Nat) : Int) }) (sv0)) := hr; clear hr HR1)
   | (go_at_call 44; refine (docWord_any HR0.out.rd (HR0.out.bv.ext HR0.out.ext) HV.out.2 2 (by decide)).mono ?_; rintro e y1 ⟨rfl, hr, hk⟩; have HR1 : Hid (DR w0 y1 q qr bv V ((numS V (some 0) 2).1) (ck0 6) (sv0)) := HR0.out.word hr hk; clear hr hk HR0))
  refine bodyPost_ret (res_two (fn := Try.f18) (p := 2) (u := 3) rfl _ _ rfl rfl hb9 Try.underlying32 (by kernel_rfl)) rfl ?_
  refine show RdOut wz (docRd 6 F V) _ w9 from ⟨(HW.out.1.trans HR3.out.ext).of_but hk9 (fun k e => by subst e; exact HW.out.2.1), _, _, _, rfl, (lq0 0 _ _).at, .inr ⟨rfl, rfl, rfl, fun d2 h2 => ?_⟩⟩
  rw [show docRd 6 F V = none from by unfold docRd; rw [if_neg (by decide), if_neg (by decide), if_neg (by decide), if_pos (by decide)]; exact if_pos H4.out] at h2
  cases h2
theorem sr_9 : SrP 9 := by
 intro wz w0 wj q q2 qr F bv V HT hF
 intros
 obtain ⟨HR0, HV, HW, HFF⟩ := SrP.open HT hF
 clear HT hF
 refine wp_seq_k (fun Ksw hK => ?_)
 have HKsw := Stop.mk hK
 clear hK
 by_cases h4 : (numS V ((numS V (some 0) 2).1) 2).2 = 4
 ·
  have hc : ((((numS V ((numS V (some 0) 2).1) 2).2 : Nat) : Int) != 4) = false := by rw [h4]; rfl
  have H4 : Hid ((numS V ((numS V (some 0) 2).1) 2).2 = 4) := h4
  clear h4
  go_wp2_with (first
   | (go_at_call 44; refine (docWord_any HR2.out.rd (HR2.out.bv.ext HR2.out.ext) HV.out.2 2 (by decide)).mono ?_; rintro e y3 ⟨rfl, hr, hk⟩; have HR3 : Hid (DR w0 y3 q qr bv V ((numS V ((numS V (some 0) 2).1) 2).1) ({ ck0 9 with cause := (((numS V (some 0) 2).2 : Nat) : Int) }) (sv0)) := HR2.out.word hr hk; clear hr hk HR2)
   | (refine wl_setDR HR1.out rfl one3 18 rfl (by first | rfl | go_simp) (by first | rfl | go_simp) (by rfl) (by rfl) (by decide) ({ ck0 9 with cause := (((numS V (some 0) 2).2 : Nat) : Int) }) (sv0) (by exact ⟨HR1.out.ls.t, HR1.out.ls.r, HR1.out.ls.a, HR1.out.ls.i, HR1.out.ls.g, HR1.out.ls.d, HR1.out.ls.o⟩) (by exact HR1.out.na) (by rfl) ?_; intro y2 hr; have HR2 : Hid (DR w0 y2 q qr bv V ((numS V (some 0) 2).1) ({ ck0 9 with cause := (((numS V (some 0) 2).2 : Nat) : Int) }) (sv0)) := hr; clear hr HR1)
   | (go_at_call 44; refine (docWord_any HR0.out.rd (HR0.out.bv.ext HR0.out.ext) HV.out.2 2 (by decide)).mono ?_; rintro e y1 ⟨rfl, hr, hk⟩; have HR1 : Hid (DR w0 y1 q qr bv V ((numS V (some 0) 2).1) (ck0 9) (sv0)) := HR0.out.word hr hk; clear hr hk HR0))
  refine HKsw.go _ _ ?_
  clear HKsw
  rw [show docRd 9 F V = finS ({ ck0 9 with cause := (((numS V (some 0) 2).2 : Nat) : Int) }) (F) V ((numS V ((numS V (some 0) 2).1) 2).1) from by unfold docRd; rw [if_neg (by decide), if_neg (by decide), if_neg (by decide), if_pos (by decide)]; rw [if_neg (show ¬ (numS V (ca1 V) 2).2 ≠ 4 from fun h => h H4.out)] <;> rfl]
  exact tailR ⟨HR3.out, HW.out⟩
 ·
  have hc : ((((numS V ((numS V (some 0) 2).1) 2).2 : Nat) : Int) != 4) = true := bne_iff_ne.2 (by omega)
  have H4 : Hid ((numS V ((numS V (some 0) 2).1) 2).2 ≠ 4) := h4
  clear h4
  go_wp2_with (first
   | (refine wl_store (D := CV (ck0 0) sv0) rfl rowC2 rfl rfl rfl (HW.out.2.2.1.ext HR3.out.ext) rfl rfl (CV.one _ _) ?_; intro w9 hb9 hk9 hx; clear hx)
   | (go_at_call 44; refine (docWord_any HR2.out.rd (HR2.out.bv.ext HR2.out.ext) HV.out.2 2 (by decide)).mono ?_; rintro e y3 ⟨rfl, hr, hk⟩; have HR3 : Hid (DR w0 y3 q qr bv V ((numS V ((numS V (some 0) 2).1) 2).1) ({ ck0 9 with cause := (((numS V (some 0) 2).2 : Nat) : Int) }) (sv0)) := HR2.out.word hr hk; clear hr hk HR2)
   | (refine wl_setDR HR1.out rfl one3 18 rfl (by first | rfl | go_simp) (by first | rfl | go_simp) (by rfl) (by rfl) (by decide) ({ ck0 9 with cause := (((numS V (some 0) 2).2 : Nat) : Int) }) (sv0) (by exact ⟨HR1.out.ls.t, HR1.out.ls.r, HR1.out.ls.a, HR1.out.ls.i, HR1.out.ls.g, HR1.out.ls.d, HR1.out.ls.o⟩) (by exact HR1.out.na) (by rfl) ?_; intro y2 hr; have HR2 : Hid (DR w0 y2 q qr bv V ((numS V (some 0) 2).1) ({ ck0 9 with cause := (((numS V (some 0) 2).2 : Nat) : Int) }) (sv0)) := hr; clear hr HR1)
   | (go_at_call 44; refine (docWord_any HR0.out.rd (HR0.out.bv.ext HR0.out.ext) HV.out.2 2 (by decide)).mono ?_; rintro e y1 ⟨rfl, hr, hk⟩; have HR1 : Hid (DR w0 y1 q qr bv V ((numS V (some 0) 2).1) (ck0 9) (sv0)) := HR0.out.word hr hk; clear hr hk HR0))
  refine bodyPost_ret (res_two (fn := Try.f18) (p := 2) (u := 3) rfl _ _ rfl rfl hb9 Try.underlying32 (by kernel_rfl)) rfl ?_
  refine show RdOut wz (docRd 9 F V) _ w9 from ⟨(HW.out.1.trans HR3.out.ext).of_but hk9 (fun k e => by subst e; exact HW.out.2.1), _, _, _, rfl, (lq0 0 _ _).at, .inr ⟨rfl, rfl, rfl, fun d2 h2 => ?_⟩⟩
  rw [show docRd 9 F V = none from by unfold docRd; rw [if_neg (by decide), if_neg (by decide), if_neg (by decide), if_pos (by decide)]; exact if_pos H4.out] at h2
  cases h2
theorem sr_128 : SrP 128 := by
 intro wz w0 wj q q2 qr F bv V HT hF
 intros
 obtain ⟨HR0, HV, HW, HFF⟩ := SrP.open HT hF
 clear HT hF
 have w1 : IntKind.u32.wrap (((numS V (some 0) 4).2 : Nat) : Int) = (((numS V (some 0) 4).2 : Nat) : Int) := by have := numS_u32 HV.out.1 (some 0); rw [IntKind.wrap_u32]; omega
 refine wp_seq_k (fun Ksw hK => ?_)
 have HKsw := Stop.mk hK
 clear hK
 by_cases h4 : 1 < (numS V ((numS V (some 0) 4).1) 4).2
 ·
  have hc : decide ((((numS V ((numS V (some 0) 4).1) 4).2 : Nat) : Int) > 1) = true := decide_eq_true (by omega)
  have hc2 : decide (1 < (numS V ((numS V (some 0) 4).1) 4).2) = true := decide_eq_true h4
  have H4 : Hid (1 < (numS V ((numS V (some 0) 4).1) 4).2) := h4
  clear h4
  go_wp2_with (first
   | (refine wl_store (D := CV (ck0 0) sv0) rfl rowC2 rfl rfl rfl (HW.out.2.2.1.ext HR3.out.ext) rfl rfl (CV.one _ _) ?_; intro w9 hb9 hk9 hx; clear hx)
   | (go_at_call 44; refine (docWord_any HR2.out.rd (HR2.out.bv.ext HR2.out.ext) HV.out.2 4 (by decide)).mono ?_; rintro e y3 ⟨rfl, hr, hk⟩; have HR3 : Hid (DR w0 y3 q qr bv V ((numS V ((numS V (some 0) 4).1) 4).1) ({ ck0 128 with serial := (numS V (some 0) 4).2 }) (sv0)) := HR2.out.word hr hk; clear hr hk HR2)
   | (refine wl_setDR HR1.out rfl one22 19 rfl (by first | rfl | go_simp) (by first | rfl | go_simp) (by rfl) (by rfl) (by decide) ({ ck0 128 with serial := (numS V (some 0) 4).2 }) (sv0) (by exact ⟨HR1.out.ls.t, HR1.out.ls.r, HR1.out.ls.a, HR1.out.ls.i, HR1.out.ls.g, HR1.out.ls.d, HR1.out.ls.o⟩) (by exact HR1.out.na) (by rfl) ?_; intro y2 hr; have HR2 : Hid (DR w0 y2 q qr bv V ((numS V (some 0) 4).1) ({ ck0 128 with serial := (numS V (some 0) 4).2 }) (sv0)) := hr; clear hr HR1)
   | (go_at_call 44; refine (docWord_any HR0.out.rd (HR0.out.bv.ext HR0.out.ext) HV.out.2 4 (by decide)).mono ?_; rintro e y1 ⟨rfl, hr, hk⟩; have HR1 : Hid (DR w0 y1 q qr bv V ((numS V (some 0) 4).1) (ck0 128) (sv0)) := HR0.out.word hr hk; clear hr hk HR0))
  refine bodyPost_ret (res_two (fn := Try.f18) (p := 2) (u := 3) rfl _ _ rfl rfl hb9 Try.underlying32 (by kernel_rfl)) rfl ?_
  refine show RdOut wz (docRd 128 F V) _ w9 from ⟨(HW.out.1.trans HR3.out.ext).of_but hk9 (fun k e => by subst e; exact HW.out.2.1), _, _, _, rfl, (lq0 0 _ _).at, .inr ⟨rfl, rfl, rfl, fun d2 h2 => ?_⟩⟩
  rw [show docRd 128 F V = none from by unfold docRd; rw [if_neg (by decide), if_neg (by decide), if_neg (by decide), if_neg (by decide), if_neg (by decide), if_neg (by decide), if_neg (by decide), if_pos (by decide)]; exact if_pos H4.out] at h2
  cases h2
 ·
  have hc : decide ((((numS V ((numS V (some 0) 4).1) 4).2 : Nat) : Int) > 1) = false := decide_eq_false (by omega)
  have hc2 : decide (1 < (numS V ((numS V (some 0) 4).1) 4).2) = false := decide_eq_false h4
  have hok : ((((numS V ((numS V (some 0) 4).1) 4).2 : Nat) : Int) == 1) = decide ((numS V ((numS V (some 0) 4).1) 4).2 = 1) := by rcases (show (numS V ((numS V (some 0) 4).1) 4).2 = 0 ∨ (numS V ((numS V (some 0) 4).1) 4).2 = 1 by omega) with e | e <;> rw [e] <;> rfl
  have H4 : Hid (¬ 1 < (numS V ((numS V (some 0) 4).1) 4).2) := h4
  clear h4
  go_wp2_with (first
   | (refine wl_setDR HR3.out rfl one4 21 rfl (by first | rfl | go_simp) (by first | rfl | go_simp) (by rfl) (by rfl) (by decide) ({ ck0 128 with serial := (numS V (some 0) 4).2, ok := decide ((numS V ((numS V (some 0) 4).1) 4).2 = 1) }) (sv0) (by exact ⟨HR3.out.ls.t, HR3.out.ls.r, HR3.out.ls.a, HR3.out.ls.i, HR3.out.ls.g, HR3.out.ls.d, HR3.out.ls.o⟩) (by exact HR3.out.na) (by rfl) ?_; intro y4 hr; have HR4 : Hid (DR w0 y4 q qr bv V ((numS V ((numS V (some 0) 4).1) 4).1) ({ ck0 128 with serial := (numS V (some 0) 4).2, ok := decide ((numS V ((numS V (some 0) 4).1) 4).2 = 1) }) (sv0)) := hr; clear hr HR3)
   | (go_at_call 44; refine (docWord_any HR2.out.rd (HR2.out.bv.ext HR2.out.ext) HV.out.2 4 (by decide)).mono ?_; rintro e y3 ⟨rfl, hr, hk⟩; have HR3 : Hid (DR w0 y3 q qr bv V ((numS V ((numS V (some 0) 4).1) 4).1) ({ ck0 128 with serial := (numS V (some 0) 4).2 }) (sv0)) := HR2.out.word hr hk; clear hr hk HR2)
   | (refine wl_setDR HR1.out rfl one22 19 rfl (by first | rfl | go_simp) (by first | rfl | go_simp) (by rfl) (by rfl) (by decide) ({ ck0 128 with serial := (numS V (some 0) 4).2 }) (sv0) (by exact ⟨HR1.out.ls.t, HR1.out.ls.r, HR1.out.ls.a, HR1.out.ls.i, HR1.out.ls.g, HR1.out.ls.d, HR1.out.ls.o⟩) (by exact HR1.out.na) (by rfl) ?_; intro y2 hr; have HR2 : Hid (DR w0 y2 q qr bv V ((numS V (some 0) 4).1) ({ ck0 128 with serial := (numS V (some 0) 4).2 }) (sv0)) := hr; clear hr HR1)
   | (go_at_call 44; refine (docWord_any HR0.out.rd (HR0.out.bv.ext HR0.out.ext) HV.out.2 4 (by decide)).mono ?_; rintro e y1 ⟨rfl, hr, hk⟩; have HR1 : Hid (DR w0 y1 q qr bv V ((numS V (some 0) 4).1) (ck0 128) (sv0)) := HR0.out.word hr hk; clear hr hk HR0))
  refine HKsw.go _ _ ?_
  clear HKsw
  rw [show docRd 128 F V = finS ({ ck0 128 with serial := (numS V (some 0) 4).2, ok := decide ((numS V ((numS V (some 0) 4).1) 4).2 = 1) }) (F) V ((numS V ((numS V (some 0) 4).1) 4).1) from by unfold docRd; rw [if_neg (by decide), if_neg (by decide), if_neg (by decide), if_neg (by decide), if_neg (by decide), if_neg (by decide), if_neg (by decide), if_pos (by decide)]; rw [if_neg (show ¬ 1 < (numS V (st1 V) 4).2 from H4.out)] <;> rfl]
  exact tailR ⟨HR4.out, HW.out⟩
theorem sr_1 : SrP 1 := by
 intro wz w0 wj q q2 qr F bv V HT hF
 intros
 obtain ⟨HR0, HV, HW, HFF⟩ := SrP.open HT hF
 clear HT hF
 have w1 : IntKind.u32.wrap (((numS V (some 0) 4).2 : Nat) : Int) = (((numS V (some 0) 4).2 : Nat) : Int) := by have := numS_u32 HV.out.1 (some 0); rw [IntKind.wrap_u32]; omega
 have w2 : IntKind.u32.wrap (((numS V ((numS V ((numS V ((numS V ((numS V (some 0) 4).1) 4).1) 2).1) 2).1) 4).2 : Nat) : Int) = (((numS V ((numS V ((numS V ((numS V ((numS V (some 0) 4).1) 4).1) 2).1) 2).1) 4).2 : Nat) : Int) := by have := numS_u32 HV.out.1 ((numS V ((numS V ((numS V ((numS V (some 0) 4).1) 4).1) 2).1) 2).1); rw [IntKind.wrap_u32]; omega
 refine wp_seq_k (fun Ksw hK => ?_)
 have HKsw := Stop.mk hK
 clear hK
 go_wp2_with (first
  | (refine wl_setDR HR9.out rfl one22 12 rfl (by first | rfl | go_simp) (by first | rfl | go_simp) (by rfl) (by rfl) (by decide) ({ ck0 1 with tag := (numS V (some 0) 4).2, win := (((numS V ((numS V (some 0) 4).1) 4).2 : Nat) : Int), out := (((numS V ((numS V ((numS V (some 0) 4).1) 4).1) 2).2 : Nat) : Int), inn := (((numS V ((numS V ((numS V ((numS V (some 0) 4).1) 4).1) 2).1) 2).2 : Nat) : Int), tsn := (numS V ((numS V ((numS V ((numS V ((numS V (some 0) 4).1) 4).1) 2).1) 2).1) 4).2 }) (sv0) (by exact ⟨HR9.out.ls.t, HR9.out.ls.r, HR9.out.ls.a, HR9.out.ls.i, HR9.out.ls.g, HR9.out.ls.d, HR9.out.ls.o⟩) (by exact HR9.out.na) (by rfl) ?_; intro y10 hr; have HR10 : Hid (DR w0 y10 q qr bv V ((numS V ((numS V ((numS V ((numS V ((numS V (some 0) 4).1) 4).1) 2).1) 2).1) 4).1) ({ ck0 1 with tag := (numS V (some 0) 4).2, win := (((numS V ((numS V (some 0) 4).1) 4).2 : Nat) : Int), out := (((numS V ((numS V ((numS V (some 0) 4).1) 4).1) 2).2 : Nat) : Int), inn := (((numS V ((numS V ((numS V ((numS V (some 0) 4).1) 4).1) 2).1) 2).2 : Nat) : Int), tsn := (numS V ((numS V ((numS V ((numS V ((numS V (some 0) 4).1) 4).1) 2).1) 2).1) 4).2 }) (sv0)) := hr; clear hr HR9)
  | (go_at_call 44; refine (docWord_any HR8.out.rd (HR8.out.bv.ext HR8.out.ext) HV.out.2 4 (by decide)).mono ?_; rintro e y9 ⟨rfl, hr, hk⟩; have HR9 : Hid (DR w0 y9 q qr bv V ((numS V ((numS V ((numS V ((numS V ((numS V (some 0) 4).1) 4).1) 2).1) 2).1) 4).1) ({ ck0 1 with tag := (numS V (some 0) 4).2, win := (((numS V ((numS V (some 0) 4).1) 4).2 : Nat) : Int), out := (((numS V ((numS V ((numS V (some 0) 4).1) 4).1) 2).2 : Nat) : Int), inn := (((numS V ((numS V ((numS V ((numS V (some 0) 4).1) 4).1) 2).1) 2).2 : Nat) : Int) }) (sv0)) := HR8.out.word hr hk; clear hr hk HR8)
  | (refine wl_setDR HR7.out rfl one3 11 rfl (by first | rfl | go_simp) (by first | rfl | go_simp) (by rfl) (by rfl) (by decide) ({ ck0 1 with tag := (numS V (some 0) 4).2, win := (((numS V ((numS V (some 0) 4).1) 4).2 : Nat) : Int), out := (((numS V ((numS V ((numS V (some 0) 4).1) 4).1) 2).2 : Nat) : Int), inn := (((numS V ((numS V ((numS V ((numS V (some 0) 4).1) 4).1) 2).1) 2).2 : Nat) : Int) }) (sv0) (by exact ⟨HR7.out.ls.t, HR7.out.ls.r, HR7.out.ls.a, HR7.out.ls.i, HR7.out.ls.g, HR7.out.ls.d, HR7.out.ls.o⟩) (by exact HR7.out.na) (by rfl) ?_; intro y8 hr; have HR8 : Hid (DR w0 y8 q qr bv V ((numS V ((numS V ((numS V ((numS V (some 0) 4).1) 4).1) 2).1) 2).1) ({ ck0 1 with tag := (numS V (some 0) 4).2, win := (((numS V ((numS V (some 0) 4).1) 4).2 : Nat) : Int), out := (((numS V ((numS V ((numS V (some 0) 4).1) 4).1) 2).2 : Nat) : Int), inn := (((numS V ((numS V ((numS V ((numS V (some 0) 4).1) 4).1) 2).1) 2).2 : Nat) : Int) }) (sv0)) := hr; clear hr HR7)
  | (go_at_call 44; refine (docWord_any HR6.out.rd (HR6.out.bv.ext HR6.out.ext) HV.out.2 2 (by decide)).mono ?_; rintro e y7 ⟨rfl, hr, hk⟩; have HR7 : Hid (DR w0 y7 q qr bv V ((numS V ((numS V ((numS V ((numS V (some 0) 4).1) 4).1) 2).1) 2).1) ({ ck0 1 with tag := (numS V (some 0) 4).2, win := (((numS V ((numS V (some 0) 4).1) 4).2 : Nat) : Int), out := (((numS V ((numS V ((numS V (some 0) 4).1) 4).1) 2).2 : Nat) : Int) }) (sv0)) := HR6.out.word hr hk; clear hr hk HR6)
  | (refine wl_setDR HR5.out rfl one3 10 rfl (by first | rfl | go_simp) (by first | rfl | go_simp) (by rfl) (by rfl) (by decide) ({ ck0 1 with tag := (numS V (some 0) 4).2, win := (((numS V ((numS V (some 0) 4).1) 4).2 : Nat) : Int), out := (((numS V ((numS V ((numS V (some 0) 4).1) 4).1) 2).2 : Nat) : Int) }) (sv0) (by exact ⟨HR5.out.ls.t, HR5.out.ls.r, HR5.out.ls.a, HR5.out.ls.i, HR5.out.ls.g, HR5.out.ls.d, HR5.out.ls.o⟩) (by exact HR5.out.na) (by rfl) ?_; intro y6 hr; have HR6 : Hid (DR w0 y6 q qr bv V ((numS V ((numS V ((numS V (some 0) 4).1) 4).1) 2).1) ({ ck0 1 with tag := (numS V (some 0) 4).2, win := (((numS V ((numS V (some 0) 4).1) 4).2 : Nat) : Int), out := (((numS V ((numS V ((numS V (some 0) 4).1) 4).1) 2).2 : Nat) : Int) }) (sv0)) := hr; clear hr HR5)
  | (go_at_call 44; refine (docWord_any HR4.out.rd (HR4.out.bv.ext HR4.out.ext) HV.out.2 2 (by decide)).mono ?_; rintro e y5 ⟨rfl, hr, hk⟩; have HR5 : Hid (DR w0 y5 q qr bv V ((numS V ((numS V ((numS V (some 0) 4).1) 4).1) 2).1) ({ ck0 1 with tag := (numS V (some 0) 4).2, win := (((numS V ((numS V (some 0) 4).1) 4).2 : Nat) : Int) }) (sv0)) := HR4.out.word hr hk; clear hr hk HR4)
  | (refine wl_setDR HR3.out rfl one3 9 rfl (by first | rfl | go_simp) (by first | rfl | go_simp) (by rfl) (by rfl) (by decide) ({ ck0 1 with tag := (numS V (some 0) 4).2, win := (((numS V ((numS V (some 0) 4).1) 4).2 : Nat) : Int) }) (sv0) (by exact ⟨HR3.out.ls.t, HR3.out.ls.r, HR3.out.ls.a, HR3.out.ls.i, HR3.out.ls.g, HR3.out.ls.d, HR3.out.ls.o⟩) (by exact HR3.out.na) (by rfl) ?_; intro y4 hr; have HR4 : Hid (DR w0 y4 q qr bv V ((numS V ((numS V (some 0) 4).1) 4).1) ({ ck0 1 with tag := (numS V (some 0) 4).2, win := (((numS V ((numS V (some 0) 4).1) 4).2 : Nat) : Int) }) (sv0)) := hr; clear hr HR3)
  | (go_at_call 44; refine (docWord_any HR2.out.rd (HR2.out.bv.ext HR2.out.ext) HV.out.2 4 (by decide)).mono ?_; rintro e y3 ⟨rfl, hr, hk⟩; have HR3 : Hid (DR w0 y3 q qr bv V ((numS V ((numS V (some 0) 4).1) 4).1) ({ ck0 1 with tag := (numS V (some 0) 4).2 }) (sv0)) := HR2.out.word hr hk; clear hr hk HR2)
  | (refine wl_setDR HR1.out rfl one22 8 rfl (by first | rfl | go_simp) (by first | rfl | go_simp) (by rfl) (by rfl) (by decide) ({ ck0 1 with tag := (numS V (some 0) 4).2 }) (sv0) (by exact ⟨HR1.out.ls.t, HR1.out.ls.r, HR1.out.ls.a, HR1.out.ls.i, HR1.out.ls.g, HR1.out.ls.d, HR1.out.ls.o⟩) (by exact HR1.out.na) (by rfl) ?_; intro y2 hr; have HR2 : Hid (DR w0 y2 q qr bv V ((numS V (some 0) 4).1) ({ ck0 1 with tag := (numS V (some 0) 4).2 }) (sv0)) := hr; clear hr HR1)
  | (go_at_call 44; refine (docWord_any HR0.out.rd (HR0.out.bv.ext HR0.out.ext) HV.out.2 4 (by decide)).mono ?_; rintro e y1 ⟨rfl, hr, hk⟩; have HR1 : Hid (DR w0 y1 q qr bv V ((numS V (some 0) 4).1) (ck0 1) (sv0)) := HR0.out.word hr hk; clear hr hk HR0))
 refine HKsw.go _ _ ?_
 clear HKsw
 rw [show docRd 1 F V = finS ({ ck0 1 with tag := (numS V (some 0) 4).2, win := (((numS V ((numS V (some 0) 4).1) 4).2 : Nat) : Int), out := (((numS V ((numS V ((numS V (some 0) 4).1) 4).1) 2).2 : Nat) : Int), inn := (((numS V ((numS V ((numS V ((numS V (some 0) 4).1) 4).1) 2).1) 2).2 : Nat) : Int), tsn := (numS V ((numS V ((numS V ((numS V ((numS V (some 0) 4).1) 4).1) 2).1) 2).1) 4).2 }) (F) V ((numS V ((numS V ((numS V ((numS V ((numS V (some 0) 4).1) 4).1) 2).1) 2).1) 4).1) from by unfold docRd; rw [if_neg (by decide), if_pos (by decide)] <;> rfl]
 exact tailR ⟨HR10.out, HW.out⟩
theorem sr_2 : SrP 2 := by
 intro wz w0 wj q q2 qr F bv V HT hF
 intros
 obtain ⟨HR0, HV, HW, HFF⟩ := SrP.open HT hF
 clear HT hF
 have w1 : IntKind.u32.wrap (((numS V (some 0) 4).2 : Nat) : Int) = (((numS V (some 0) 4).2 : Nat) : Int) := by have := numS_u32 HV.out.1 (some 0); rw [IntKind.wrap_u32]; omega
 have w2 : IntKind.u32.wrap (((numS V ((numS V ((numS V ((numS V ((numS V (some 0) 4).1) 4).1) 2).1) 2).1) 4).2 : Nat) : Int) = (((numS V ((numS V ((numS V ((numS V ((numS V (some 0) 4).1) 4).1) 2).1) 2).1) 4).2 : Nat) : Int) := by have := numS_u32 HV.out.1 ((numS V ((numS V ((numS V ((numS V (some 0) 4).1) 4).1) 2).1) 2).1); rw [IntKind.wrap_u32]; omega
 refine wp_seq_k (fun Ksw hK => ?_)
 have HKsw := Stop.mk hK
 clear hK
 go_wp2_with (first
  | (refine wl_setDR HR9.out rfl one22 12 rfl (by first | rfl | go_simp) (by first | rfl | go_simp) (by rfl) (by rfl) (by decide) ({ ck0 2 with tag := (numS V (some 0) 4).2, win := (((numS V ((numS V (some 0) 4).1) 4).2 : Nat) : Int), out := (((numS V ((numS V ((numS V (some 0) 4).1) 4).1) 2).2 : Nat) : Int), inn := (((numS V ((numS V ((numS V ((numS V (some 0) 4).1) 4).1) 2).1) 2).2 : Nat) : Int), tsn := (numS V ((numS V ((numS V ((numS V ((numS V (some 0) 4).1) 4).1) 2).1) 2).1) 4).2 }) (sv0) (by exact ⟨HR9.out.ls.t, HR9.out.ls.r, HR9.out.ls.a, HR9.out.ls.i, HR9.out.ls.g, HR9.out.ls.d, HR9.out.ls.o⟩) (by exact HR9.out.na) (by rfl) ?_; intro y10 hr; have HR10 : Hid (DR w0 y10 q qr bv V ((numS V ((numS V ((numS V ((numS V ((numS V (some 0) 4).1) 4).1) 2).1) 2).1) 4).1) ({ ck0 2 with tag := (numS V (some 0) 4).2, win := (((numS V ((numS V (some 0) 4).1) 4).2 : Nat) : Int), out := (((numS V ((numS V ((numS V (some 0) 4).1) 4).1) 2).2 : Nat) : Int), inn := (((numS V ((numS V ((numS V ((numS V (some 0) 4).1) 4).1) 2).1) 2).2 : Nat) : Int), tsn := (numS V ((numS V ((numS V ((numS V ((numS V (some 0) 4).1) 4).1) 2).1) 2).1) 4).2 }) (sv0)) := hr; clear hr HR9)
  | (go_at_call 44; refine (docWord_any HR8.out.rd (HR8.out.bv.ext HR8.out.ext) HV.out.2 4 (by decide)).mono ?_; rintro e y9 ⟨rfl, hr, hk⟩; have HR9 : Hid (DR w0 y9 q qr bv V ((numS V ((numS V ((numS V ((numS V ((numS V (some 0) 4).1) 4).1) 2).1) 2).1) 4).1) ({ ck0 2 with tag := (numS V (some 0) 4).2, win := (((numS V ((numS V (some 0) 4).1) 4).2 : Nat) : Int), out := (((numS V ((numS V ((numS V (some 0) 4).1) 4).1) 2).2 : Nat) : Int), inn := (((numS V ((numS V ((numS V ((numS V (some 0) 4).1) 4).1) 2).1) 2).2 : Nat) : Int) }) (sv0)) := HR8.out.word hr hk; clear hr hk HR8)
  | (refine wl_setDR HR7.out rfl one3 11 rfl (by first | rfl | go_simp) (by first | rfl | go_simp) (by rfl) (by rfl) (by decide) ({ ck0 2 with tag := (numS V (some 0) 4).2, win := (((numS V ((numS V (some 0) 4).1) 4).2 : Nat) : Int), out := (((numS V ((numS V ((numS V (some 0) 4).1) 4).1) 2).2 : Nat) : Int), inn := (((numS V ((numS V ((numS V ((numS V (some 0) 4).1) 4).1) 2).1) 2).2 : Nat) : Int) }) (sv0) (by exact ⟨HR7.out.ls.t, HR7.out.ls.r, HR7.out.ls.a, HR7.out.ls.i, HR7.out.ls.g, HR7.out.ls.d, HR7.out.ls.o⟩) (by exact HR7.out.na) (by rfl) ?_; intro y8 hr; have HR8 : Hid (DR w0 y8 q qr bv V ((numS V ((numS V ((numS V ((numS V (some 0) 4).1) 4).1) 2).1) 2).1) ({ ck0 2 with tag := (numS V (some 0) 4).2, win := (((numS V ((numS V (some 0) 4).1) 4).2 : Nat) : Int), out := (((numS V ((numS V ((numS V (some 0) 4).1) 4).1) 2).2 : Nat) : Int), inn := (((numS V ((numS V ((numS V ((numS V (some 0) 4).1) 4).1) 2).1) 2).2 : Nat) : Int) }) (sv0)) := hr; clear hr HR7)
  | (go_at_call 44; refine (docWord_any HR6.out.rd (HR6.out.bv.ext HR6.out.ext) HV.out.2 2 (by decide)).mono ?_; rintro e y7 ⟨rfl, hr, hk⟩; have HR7 : Hid (DR w0 y7 q qr bv V ((numS V ((numS V ((numS V ((numS V (some 0) 4).1) 4).1) 2).1) 2).1) ({ ck0 2 with tag := (numS V (some 0) 4).2, win := (((numS V ((numS V (some 0) 4).1) 4).2 : Nat) : Int), out := (((numS V ((numS V ((numS V (some 0) 4).1) 4).1) 2).2 : Nat) : Int) }) (sv0)) := HR6.out.word hr hk; clear hr hk HR6)
  | (refine wl_setDR HR5.out rfl one3 10 rfl (by first | rfl | go_simp) (by first | rfl | go_simp) (by rfl) (by rfl) (by decide) ({ ck0 2 with tag := (numS V (some 0) 4).2, win := (((numS V ((numS V (some 0) 4).1) 4).2 : Nat) : Int), out := (((numS V ((numS V ((numS V (some 0) 4).1) 4).1) 2).2 : Nat) : Int) }) (sv0) (by exact ⟨HR5.out.ls.t, HR5.out.ls.r, HR5.out.ls.a, HR5.out.ls.i, HR5.out.ls.g, HR5.out.ls.d, HR5.out.ls.o⟩) (by exact HR5.out.na) (by rfl) ?_; intro y6 hr; have HR6 : Hid (DR w0 y6 q qr bv V ((numS V ((numS V ((numS V (some 0) 4).1) 4).1) 2).1) ({ ck0 2 with tag := (numS V (some 0) 4).2, win := (((numS V ((numS V (some 0) 4).1) 4).2 : Nat) : Int), out := (((numS V ((numS V ((numS V (some 0) 4).1) 4).1) 2).2 : Nat) : Int) }) (sv0)) := hr; clear hr HR5)
  | (go_at_call 44; refine (docWord_any HR4.out.rd (HR4.out.bv.ext HR4.out.ext) HV.out.2 2 (by decide)).mono ?_; rintro e y5 ⟨rfl, hr, hk⟩; have HR5 : Hid (DR w0 y5 q qr bv V ((numS V ((numS V ((numS V (some 0) 4).1) 4).1) 2).1) ({ ck0 2 with tag := (numS V (some 0) 4).2, win := (((numS V ((numS V (some 0) 4).1) 4).2 : Nat) : Int) }) (sv0)) := HR4.out.word hr hk; clear hr hk HR4)
  | (refine wl_setDR HR3.out rfl one3 9 rfl (by first | rfl | go_simp) (by first | rfl | go_simp) (by rfl) (by rfl) (by decide) ({ ck0 2 with tag := (numS V (some 0) 4).2, win := (((numS V ((numS V (some 0) 4).1) 4).2 : Nat) : Int) }) (sv0) (by exact ⟨HR3.out.ls.t, HR3.out.ls.r, HR3.out.ls.a, HR3.out.ls.i, HR3.out.ls.g, HR3.out.ls.d, HR3.out.ls.o⟩) (by exact HR3.out.na) (by rfl) ?_; intro y4 hr; have HR4 : Hid (DR w0 y4 q qr bv V ((numS V ((numS V (some 0) 4).1) 4).1) ({ ck0 2 with tag := (numS V (some 0) 4).2, win := (((numS V ((numS V (some 0) 4).1) 4).2 : Nat) : Int) }) (sv0)) := hr; clear hr HR3)
  | (go_at_call 44; refine (docWord_any HR2.out.rd (HR2.out.bv.ext HR2.out.ext) HV.out.2 4 (by decide)).mono ?_; rintro e y3 ⟨rfl, hr, hk⟩; have HR3 : Hid (DR w0 y3 q qr bv V ((numS V ((numS V (some 0) 4).1) 4).1) ({ ck0 2 with tag := (numS V (some 0) 4).2 }) (sv0)) := HR2.out.word hr hk; clear hr hk HR2)
  | (refine wl_setDR HR1.out rfl one22 8 rfl (by first | rfl | go_simp) (by first | rfl | go_simp) (by rfl) (by rfl) (by decide) ({ ck0 2 with tag := (numS V (some 0) 4).2 }) (sv0) (by exact ⟨HR1.out.ls.t, HR1.out.ls.r, HR1.out.ls.a, HR1.out.ls.i, HR1.out.ls.g, HR1.out.ls.d, HR1.out.ls.o⟩) (by exact HR1.out.na) (by rfl) ?_; intro y2 hr; have HR2 : Hid (DR w0 y2 q qr bv V ((numS V (some 0) 4).1) ({ ck0 2 with tag := (numS V (some 0) 4).2 }) (sv0)) := hr; clear hr HR1)
  | (go_at_call 44; refine (docWord_any HR0.out.rd (HR0.out.bv.ext HR0.out.ext) HV.out.2 4 (by decide)).mono ?_; rintro e y1 ⟨rfl, hr, hk⟩; have HR1 : Hid (DR w0 y1 q qr bv V ((numS V (some 0) 4).1) (ck0 2) (sv0)) := HR0.out.word hr hk; clear hr hk HR0))
 refine HKsw.go _ _ ?_
 clear HKsw
 rw [show docRd 2 F V = finS ({ ck0 2 with tag := (numS V (some 0) 4).2, win := (((numS V ((numS V (some 0) 4).1) 4).2 : Nat) : Int), out := (((numS V ((numS V ((numS V (some 0) 4).1) 4).1) 2).2 : Nat) : Int), inn := (((numS V ((numS V ((numS V ((numS V (some 0) 4).1) 4).1) 2).1) 2).2 : Nat) : Int), tsn := (numS V ((numS V ((numS V ((numS V ((numS V (some 0) 4).1) 4).1) 2).1) 2).1) 4).2 }) (F) V ((numS V ((numS V ((numS V ((numS V ((numS V (some 0) 4).1) 4).1) 2).1) 2).1) 4).1) from by unfold docRd; rw [if_neg (by decide), if_pos (by decide)] <;> rfl]
 exact tailR ⟨HR10.out, HW.out⟩
theorem wrap64_small {n : Nat} (h : n < 256) : wrap64 (n : Int) = (n : Int) := by unfold wrap64; omega
theorem sr_0 : SrP 0 := by
 intro wz w0 wj q q2 qr F bv V HT hF
 intros
 obtain ⟨HR0, HV, HW, HFF⟩ := SrP.open HT hF
 clear HT hF
 have w1 : IntKind.u32.wrap (((numS V (some 0) 4).2 : Nat) : Int) = (((numS V (some 0) 4).2 : Nat) : Int) := by have := numS_u32 HV.out.1 (some 0); rw [IntKind.wrap_u32]; omega
 have w2 : IntKind.u16.wrap (((numS V ((numS V (some 0) 4).1) 2).2 : Nat) : Int) = (((numS V ((numS V (some 0) 4).1) 2).2 : Nat) : Int) := by have := numS2_lt HV.out.1 ((numS V (some 0) 4).1); rw [IntKind.wrap_u16]; omega
 have vw2 : (((numS V ((numS V (some 0) 4).1) 2).2 : Nat) : Int) % 65536 = (((numS V ((numS V (some 0) 4).1) 2).2 : Nat) : Int) := by have := numS2_lt HV.out.1 ((numS V (some 0) 4).1); omega
 have w3 : IntKind.u16.wrap (((numS V ((numS V ((numS V (some 0) 4).1) 2).1) 2).2 : Nat) : Int) = (((numS V ((numS V ((numS V (some 0) 4).1) 2).1) 2).2 : Nat) : Int) := by have := numS2_lt HV.out.1 ((numS V ((numS V (some 0) 4).1) 2).1); rw [IntKind.wrap_u16]; omega
 have vw3 : (((numS V ((numS V ((numS V (some 0) 4).1) 2).1) 2).2 : Nat) : Int) % 65536 = (((numS V ((numS V ((numS V (some 0) 4).1) 2).1) 2).2 : Nat) : Int) := by have := numS2_lt HV.out.1 ((numS V ((numS V (some 0) 4).1) 2).1); omega
 obtain ⟨m1, hm1⟩ : ∃ x, x = F % 2 := ⟨_, rfl⟩
 have f1 : (F : Int) % 2 = (m1 : Int) := by omega
 have g1 : ((m1 : Int) == 1) = decide (F % 2 = 1) := by rw [← hm1]; rcases (show m1 = 0 ∨ m1 = 1 by omega) with e | e <;> rw [e] <;> rfl
 obtain ⟨d2, hd2⟩ : ∃ x, x = F / 2 := ⟨_, rfl⟩
 have e2 : (F : Int) / 2 = (d2 : Int) := by omega
 obtain ⟨m2, hm2⟩ : ∃ x, x = d2 % 2 := ⟨_, rfl⟩
 have f2 : (d2 : Int) % 2 = (m2 : Int) := by omega
 have g2 : ((m2 : Int) == 1) = decide (F / 2 % 2 = 1) := by rw [← hd2, ← hm2]; rcases (show m2 = 0 ∨ m2 = 1 by omega) with e | e <;> rw [e] <;> rfl
 obtain ⟨d4, hd4⟩ : ∃ x, x = F / 4 := ⟨_, rfl⟩
 have e4 : (F : Int) / 4 = (d4 : Int) := by omega
 obtain ⟨m4, hm4⟩ : ∃ x, x = d4 % 2 := ⟨_, rfl⟩
 have f4 : (d4 : Int) % 2 = (m4 : Int) := by omega
 have g4 : ((m4 : Int) == 1) = decide (F / 4 % 2 = 1) := by rw [← hd4, ← hm4]; rcases (show m4 = 0 ∨ m4 = 1 by omega) with e | e <;> rw [e] <;> rfl
 obtain ⟨d8, hd8⟩ : ∃ x, x = F / 8 := ⟨_, rfl⟩
 have e8 : (F : Int) / 8 = (d8 : Int) := by omega
 have HD8 : Hid (F / 8 = d8) := hd8.symm
 have x2 : wrap64 (d2 : Int) = (d2 : Int) := wrap64_small (by have := HFF.out; omega)
 have x4 : wrap64 (d4 : Int) = (d4 : Int) := wrap64_small (by have := HFF.out; omega)
 have x8 : wrap64 (d8 : Int) = (d8 : Int) := wrap64_small (by have := HFF.out; omega)
 have HFl1 : Hid ((F : Int) % 2 = (m1 : Int) ∧ ((m1 : Int) == 1) = decide (F % 2 = 1)) := ⟨f1, g1⟩
 have HFl2 : Hid ((F : Int) / 2 = (d2 : Int) ∧ wrap64 (d2 : Int) = (d2 : Int) ∧ (d2 : Int) % 2 = (m2 : Int) ∧ ((m2 : Int) == 1) = decide (F / 2 % 2 = 1)) := ⟨e2, x2, f2, g2⟩
 have HFl4 : Hid ((F : Int) / 4 = (d4 : Int) ∧ wrap64 (d4 : Int) = (d4 : Int) ∧ (d4 : Int) % 2 = (m4 : Int) ∧ ((m4 : Int) == 1) = decide (F / 4 % 2 = 1)) := ⟨e4, x4, f4, g4⟩
 have HFl8 : Hid ((F : Int) / 8 = (d8 : Int) ∧ wrap64 (d8 : Int) = (d8 : Int)) := ⟨e8, x8⟩
 clear hd8 hm1 hm2 hm4 hd2 hd4 f1 g1 e2 x2 f2 g2 e4 x4 f4 g4 e8 x8
 refine wp_seq_k (fun Ksw hK => ?_)
 have HKsw := Stop.mk hK
 clear hK
 go_wp2_with (first
  | (refine wl_setDR HR10.out rfl oneS 7 rfl (by first | rfl | go_simp) (by first | rfl | go_simp) (by rfl) (by rfl) (by decide) ({ ck0 0 with ptsn := (numS V (some 0) 4).2, pstr := (numS V ((numS V (some 0) 4).1) 2).2, pseq := (numS V ((numS V ((numS V (some 0) 4).1) 2).1) 2).2, pe := decide (F % 2 = 1), pb := decide (F / 2 % 2 = 1), pu := decide (F / 4 % 2 = 1), text := (rdRest V ((numS V ((numS V ((numS V (some 0) 4).1) 2).1) 2).1)) }) ({ sv0 with tA := ra, tN := (rdRest V ((numS V ((numS V ((numS V (some 0) 4).1) 2).1) 2).1)).length, tC := rc }) (by exact ⟨HO.out, HR10.out.ls.r, HR10.out.ls.a, HR10.out.ls.i, HR10.out.ls.g, HR10.out.ls.d, HR10.out.ls.o⟩) (by exact HR10.out.na) (by rfl) ?_; intro y11 hr; have HR11 : Hid (DR w0 y11 q qr bv V (rdRestS V ((numS V ((numS V ((numS V (some 0) 4).1) 2).1) 2).1)) ({ ck0 0 with ptsn := (numS V (some 0) 4).2, pstr := (numS V ((numS V (some 0) 4).1) 2).2, pseq := (numS V ((numS V ((numS V (some 0) 4).1) 2).1) 2).2, pe := decide (F % 2 = 1), pb := decide (F / 2 % 2 = 1), pu := decide (F / 4 % 2 = 1), text := (rdRest V ((numS V ((numS V ((numS V (some 0) 4).1) 2).1) 2).1)) }) ({ sv0 with tA := ra, tN := (rdRest V ((numS V ((numS V ((numS V (some 0) 4).1) 2).1) 2).1)).length, tC := rc })) := hr; clear hr HR10)
  | (go_at_call 45; refine (docRest_any HR9.out.rd (HR9.out.bv.ext HR9.out.ext) HV.out.2).mono ?_; rintro e y10 ⟨ra, rc, rfl, ho, hr, hk⟩; have HO : Hid (OB y10 w0.heap.size (.slice ra (rdRest V ((numS V ((numS V ((numS V (some 0) 4).1) 2).1) 2).1)).length rc) (rdRest V ((numS V ((numS V ((numS V (some 0) 4).1) 2).1) 2).1))) := ho.base HR9.out.ext.size; have HR10 : Hid (DR w0 y10 q qr bv V (rdRestS V ((numS V ((numS V ((numS V (some 0) 4).1) 2).1) 2).1)) ({ ck0 0 with ptsn := (numS V (some 0) 4).2, pstr := (numS V ((numS V (some 0) 4).1) 2).2, pseq := (numS V ((numS V ((numS V (some 0) 4).1) 2).1) 2).2, pe := decide (F % 2 = 1), pb := decide (F / 2 % 2 = 1), pu := decide (F / 4 % 2 = 1) }) (sv0)) := HR9.out.word hr hk; clear hr hk ho)
  | (refine wl_setDR HR8.out rfl one4 6 rfl (by first | rfl | go_simp) (by first | rfl | go_simp) (by rfl) (by rfl) (by decide) ({ ck0 0 with ptsn := (numS V (some 0) 4).2, pstr := (numS V ((numS V (some 0) 4).1) 2).2, pseq := (numS V ((numS V ((numS V (some 0) 4).1) 2).1) 2).2, pe := decide (F % 2 = 1), pb := decide (F / 2 % 2 = 1), pu := decide (F / 4 % 2 = 1) }) (sv0) (by exact ⟨HR8.out.ls.t, HR8.out.ls.r, HR8.out.ls.a, HR8.out.ls.i, HR8.out.ls.g, HR8.out.ls.d, HR8.out.ls.o⟩) (by exact HR8.out.na) (by rfl) ?_; intro y9 hr; have HR9 : Hid (DR w0 y9 q qr bv V ((numS V ((numS V ((numS V (some 0) 4).1) 2).1) 2).1) ({ ck0 0 with ptsn := (numS V (some 0) 4).2, pstr := (numS V ((numS V (some 0) 4).1) 2).2, pseq := (numS V ((numS V ((numS V (some 0) 4).1) 2).1) 2).2, pe := decide (F % 2 = 1), pb := decide (F / 2 % 2 = 1), pu := decide (F / 4 % 2 = 1) }) (sv0)) := hr; clear hr HR8; clear e4 x4 f4 g4; have e8 := HFl8.out.1; have x8 := HFl8.out.2)
  | (refine wl_setDR HR7.out rfl one4 4 rfl (by first | rfl | go_simp) (by first | rfl | go_simp) (by rfl) (by rfl) (by decide) ({ ck0 0 with ptsn := (numS V (some 0) 4).2, pstr := (numS V ((numS V (some 0) 4).1) 2).2, pseq := (numS V ((numS V ((numS V (some 0) 4).1) 2).1) 2).2, pe := decide (F % 2 = 1), pb := decide (F / 2 % 2 = 1) }) (sv0) (by exact ⟨HR7.out.ls.t, HR7.out.ls.r, HR7.out.ls.a, HR7.out.ls.i, HR7.out.ls.g, HR7.out.ls.d, HR7.out.ls.o⟩) (by exact HR7.out.na) (by rfl) ?_; intro y8 hr; have HR8 : Hid (DR w0 y8 q qr bv V ((numS V ((numS V ((numS V (some 0) 4).1) 2).1) 2).1) ({ ck0 0 with ptsn := (numS V (some 0) 4).2, pstr := (numS V ((numS V (some 0) 4).1) 2).2, pseq := (numS V ((numS V ((numS V (some 0) 4).1) 2).1) 2).2, pe := decide (F % 2 = 1), pb := decide (F / 2 % 2 = 1) }) (sv0)) := hr; clear hr HR7; clear e2 x2 f2 g2; have e4 := HFl4.out.1; have x4 := HFl4.out.2.1; have f4 := HFl4.out.2.2.1; have g4 := HFl4.out.2.2.2)
  | (refine wl_setDR HR6.out rfl one4 5 rfl (by first | rfl | go_simp) (by first | rfl | go_simp) (by rfl) (by rfl) (by decide) ({ ck0 0 with ptsn := (numS V (some 0) 4).2, pstr := (numS V ((numS V (some 0) 4).1) 2).2, pseq := (numS V ((numS V ((numS V (some 0) 4).1) 2).1) 2).2, pe := decide (F % 2 = 1) }) (sv0) (by exact ⟨HR6.out.ls.t, HR6.out.ls.r, HR6.out.ls.a, HR6.out.ls.i, HR6.out.ls.g, HR6.out.ls.d, HR6.out.ls.o⟩) (by exact HR6.out.na) (by rfl) ?_; intro y7 hr; have HR7 : Hid (DR w0 y7 q qr bv V ((numS V ((numS V ((numS V (some 0) 4).1) 2).1) 2).1) ({ ck0 0 with ptsn := (numS V (some 0) 4).2, pstr := (numS V ((numS V (some 0) 4).1) 2).2, pseq := (numS V ((numS V ((numS V (some 0) 4).1) 2).1) 2).2, pe := decide (F % 2 = 1) }) (sv0)) := hr; clear hr HR6; clear f1 g1; have e2 := HFl2.out.1; have x2 := HFl2.out.2.1; have f2 := HFl2.out.2.2.1; have g2 := HFl2.out.2.2.2)
  | (refine wl_setDR HR5.out rfl one23 3 rfl (by first | rfl | go_simp) (by first | rfl | go_simp) (by rfl) (by rfl) (by decide) ({ ck0 0 with ptsn := (numS V (some 0) 4).2, pstr := (numS V ((numS V (some 0) 4).1) 2).2, pseq := (numS V ((numS V ((numS V (some 0) 4).1) 2).1) 2).2 }) (sv0) (by exact ⟨HR5.out.ls.t, HR5.out.ls.r, HR5.out.ls.a, HR5.out.ls.i, HR5.out.ls.g, HR5.out.ls.d, HR5.out.ls.o⟩) (by exact HR5.out.na) (by rfl) ?_; intro y6 hr; have HR6 : Hid (DR w0 y6 q qr bv V ((numS V ((numS V ((numS V (some 0) 4).1) 2).1) 2).1) ({ ck0 0 with ptsn := (numS V (some 0) 4).2, pstr := (numS V ((numS V (some 0) 4).1) 2).2, pseq := (numS V ((numS V ((numS V (some 0) 4).1) 2).1) 2).2 }) (sv0)) := hr; clear hr HR5; clear w1 w2 w3 vw2 vw3; have f1 := HFl1.out.1; have g1 := HFl1.out.2)
  | (go_at_call 44; refine (docWord_any HR4.out.rd (HR4.out.bv.ext HR4.out.ext) HV.out.2 2 (by decide)).mono ?_; rintro e y5 ⟨rfl, hr, hk⟩; have HR5 : Hid (DR w0 y5 q qr bv V ((numS V ((numS V ((numS V (some 0) 4).1) 2).1) 2).1) ({ ck0 0 with ptsn := (numS V (some 0) 4).2, pstr := (numS V ((numS V (some 0) 4).1) 2).2 }) (sv0)) := HR4.out.word hr hk; clear hr hk HR4)
  | (refine wl_setDR HR3.out rfl one23 2 rfl (by first | rfl | go_simp) (by first | rfl | go_simp) (by rfl) (by rfl) (by decide) ({ ck0 0 with ptsn := (numS V (some 0) 4).2, pstr := (numS V ((numS V (some 0) 4).1) 2).2 }) (sv0) (by exact ⟨HR3.out.ls.t, HR3.out.ls.r, HR3.out.ls.a, HR3.out.ls.i, HR3.out.ls.g, HR3.out.ls.d, HR3.out.ls.o⟩) (by exact HR3.out.na) (by rfl) ?_; intro y4 hr; have HR4 : Hid (DR w0 y4 q qr bv V ((numS V ((numS V (some 0) 4).1) 2).1) ({ ck0 0 with ptsn := (numS V (some 0) 4).2, pstr := (numS V ((numS V (some 0) 4).1) 2).2 }) (sv0)) := hr; clear hr HR3)
  | (go_at_call 44; refine (docWord_any HR2.out.rd (HR2.out.bv.ext HR2.out.ext) HV.out.2 2 (by decide)).mono ?_; rintro e y3 ⟨rfl, hr, hk⟩; have HR3 : Hid (DR w0 y3 q qr bv V ((numS V ((numS V (some 0) 4).1) 2).1) ({ ck0 0 with ptsn := (numS V (some 0) 4).2 }) (sv0)) := HR2.out.word hr hk; clear hr hk HR2)
  | (refine wl_setDR HR1.out rfl one22 1 rfl (by first | rfl | go_simp) (by first | rfl | go_simp) (by rfl) (by rfl) (by decide) ({ ck0 0 with ptsn := (numS V (some 0) 4).2 }) (sv0) (by exact ⟨HR1.out.ls.t, HR1.out.ls.r, HR1.out.ls.a, HR1.out.ls.i, HR1.out.ls.g, HR1.out.ls.d, HR1.out.ls.o⟩) (by exact HR1.out.na) (by rfl) ?_; intro y2 hr; have HR2 : Hid (DR w0 y2 q qr bv V ((numS V (some 0) 4).1) ({ ck0 0 with ptsn := (numS V (some 0) 4).2 }) (sv0)) := hr; clear hr HR1)
  | (go_at_call 44; refine (docWord_any HR0.out.rd (HR0.out.bv.ext HR0.out.ext) HV.out.2 4 (by decide)).mono ?_; rintro e y1 ⟨rfl, hr, hk⟩; have HR1 : Hid (DR w0 y1 q qr bv V ((numS V (some 0) 4).1) (ck0 0) (sv0)) := HR0.out.word hr hk; clear hr hk HR0))
 refine HKsw.go _ _ ?_
 clear HKsw
 rw [show docRd 0 F V = finS ({ ck0 0 with ptsn := (numS V (some 0) 4).2, pstr := (numS V ((numS V (some 0) 4).1) 2).2, pseq := (numS V ((numS V ((numS V (some 0) 4).1) 2).1) 2).2, pe := decide (F % 2 = 1), pb := decide (F / 2 % 2 = 1), pu := decide (F / 4 % 2 = 1), text := (rdRest V ((numS V ((numS V ((numS V (some 0) 4).1) 2).1) 2).1)) }) (d8) V (rdRestS V ((numS V ((numS V ((numS V (some 0) 4).1) 2).1) 2).1)) from by unfold docRd; rw [if_pos (by decide)] <;> (rw [HD8.out] <;> rfl)]
 exact tailR ⟨HR11.out, HW.out⟩
def RSplitIs (w : World) (B : List Nat) (e : Ending) (w' : World) : Prop :=
 Ext w w' ∧ ((B = [] ∧ e = .returned (.tuple #[.int .i64 0, .slice none 0 0, .slice none 0 0, .int .i64 4])) ∨
  (B ≠ [] ∧ okC B = false ∧ e = .returned (.tuple #[.int .i64 0, .slice none 0 0, .slice none 0 0, .int .i64 2])) ∨
  (okC B = true ∧ ∃ a n c a2 n2 c2, e = .returned (.tuple #[.int .i64 (B.getD 0 0 : Nat), .slice a n c, .slice a2 n2 c2, .int .i64 0]) ∧ BytesAt w' (.slice a n c) (B.take (allP B)) ∧ BytesAt w' (.slice a2 n2 c2) (B.drop (allP B))))
theorem okC_no {b : List Nat} (h : ¬ (4 ≤ b.length ∧ 4 ≤ lenP b ∧ allP b ≤ b.length ∧ allZ ((b.take (allP b)).drop (lenP b)) = true)) : okC b = false := by
 rw [Bool.eq_false_iff]; intro h2; exact h ((okC_iff b).1 h2)
theorem refSplit_any {w : World} {v : Value} {B : List Nat} (hv : BytesAt w v B) (hB : B.length ≤ 1000000) :
  Calls Try.prog 20 #[v] w (RSplitIs w B) := by
 have HA : Hid (AllB B) := hv.1
 obtain ⟨a0, c0, rfl, _, _⟩ := hv.form
 rename_i z1 z2
 clear z1 z2
 obtain ⟨n, hn⟩ : ∃ n, n = B.length := ⟨_, rfl⟩
 rw [← hn] at hv hB ⊢
 have HV : Hid (BytesAt w (.slice a0 n c0) B ∧ n = B.length ∧ n ≤ c0) := ⟨hv, hn, (bytes_cap hv).2⟩
 clear hv hn
 by_cases h0 : n = 0
 ·
  have hz : ((n : Int) == 0) = true := by simp [h0]
  have HE : Hid (B = []) := List.eq_nil_of_length_eq_zero (by rw [← HV.out.2.1]; exact h0)
  subst h0
  go_enter Try.func20, Try.ntmps20
  go_wp2
  refine bodyPost_ret (v := .tuple #[.int .i64 0, .slice none 0 0, .slice none 0 0, .int .i64 4]) (by simp [results, Try.results20, go_sem]) rfl ?_
  exact ⟨Ext.refl _, .inl ⟨HE.out, rfl⟩⟩
 have hz : ((n : Int) == 0) = false := by simp [h0]
 have HN : Hid (B ≠ []) := fun e => h0 (by rw [HV.out.2.1, e]; rfl)
 by_cases h4 : n < 4
 ·
  have hd4 : decide ((n : Int) < 4) = true := decide_eq_true (by omega)
  have HF : Hid (okC B = false) := okC_no (fun h => by have h1 := h.1; have h2 := HV.out.2.1; omega)
  clear h0 h4
  go_enter Try.func20, Try.ntmps20
  go_wp2
  refine bodyPost_ret (v := .tuple #[.int .i64 0, .slice none 0 0, .slice none 0 0, .int .i64 2]) (by simp [results, Try.results20, go_sem]) rfl ?_
  exact ⟨Ext.refl _, .inr (.inl ⟨HN.out, HF.out, rfl⟩)⟩
 have hd4 : decide ((n : Int) < 4) = false := decide_eq_false (by omega)
 obtain ⟨b, off, rfl⟩ := bytes_some HV.out.1 (by rw [← HV.out.2.1]; omega)
 have HC : Hid (∀ j, j < n → w.cell? ⟨b, off + j, none⟩ = some (.int .u8 (B.getD j 0 : Nat))) := fun j hj => bytes_cell HV.out.1 j (by rw [← HV.out.2.1]; exact hj)
 have hc2 := HC.out 2 (by omega)
 have hc3 := HC.out 3 (by omega)
 have hx2 := HA.out.getD 2
 have hx3 := HA.out.getD 3
 obtain ⟨N, hN⟩ : ∃ N, N = lenP B := ⟨_, rfl⟩
 obtain ⟨AL, hAL⟩ : ∃ A, A = allP B := ⟨_, rfl⟩
 have hN0 : N = B.getD 2 0 * 256 + B.getD 3 0 := by rw [hN]; rfl
 have HM : Hid (N = lenP B ∧ AL = allP B) := ⟨hN, hAL⟩
 have hAN : AL = (N + 3) / 4 * 4 := by rw [hAL, hN]; rfl
 clear hN hAL
 generalize B.getD 2 0 = x2 at *
 generalize B.getD 3 0 = x3 at *
 obtain ⟨y2, hy2⟩ : ∃ y, y = x2 * 256 := ⟨_, rfl⟩
 have m1 : (x2 : Int) * 256 = (y2 : Int) := by omega
 have m2 : (y2 : Int) + (x3 : Int) = (N : Int) := by omega
 have hN6 : N < 65536 := by omega
 have hNA : N ≤ AL := by omega
 have hAL6 : AL ≤ N + 3 := by omega
 have hA4 : Hid (AL % 4 = 0) := show _ = _ by omega
 have hAN4 : Hid (∀ k, N ≤ k → k < AL → k % 4 ≠ 0) := fun k h1 h2 => by omega
 clear hN0 hAN hy2
 have hL2 : (2 : Int) < (n : Int) := by omega
 have hL3 : (3 : Int) < (n : Int) := by omega
 go_enter Try.func20, Try.ntmps20
 go_wp2_with fail
 go_quiet (fail)
 have HW : Hid (Ext w (w.drewN nq)) := Ext.drewN _ _
 clear hc2 hc3 m1 m2 hL2 hL3
 generalize w.drewN nq = w1 at *
 go_wp2_with fail
 go_loopg [7] (AL - N) (fun gm t wi => ∃ k : Nat, N ≤ k ∧ k ≤ AL ∧ gm = AL - k ∧ t = .int .i64 (k : Int) ∧ wi = w1)
 case atStart => exact ⟨N, Nat.le_refl _, hNA, rfl, rfl, rfl⟩
 case round =>
  obtain ⟨k, hk1, hk2, rfl, rfl, hw⟩ := hrel
  subst wr
  have htm : (k : Int) % 4 = ((k % 4 : Nat) : Int) := by omega
  have htm2 : (k : Int).tmod 4 = ((k % 4 : Nat) : Int) := rfl
  by_cases hlt : k < AL
  ·
   have hm : (((k % 4 : Nat) : Int) != 0) = true := by have := hAN4.out k hk1 hlt; simp; omega
   have hm2 : ¬ (((k % 4 : Nat) : Int) = 0) := by have := hAN4.out k hk1 hlt; omega
   have hm3 : (((k % 4 : Nat) : Int) == 0) = false := beq_false_of_ne hm2
   obtain ⟨r4, hr4⟩ : ∃ r, r = k % 4 := ⟨_, rfl⟩
   rw [← hr4] at htm htm2 hm hm2 hm3
   clear hr4
   go_wp2
   go_roundg (AL - (k + 1))
   case measure => omega
   case rel => exact ⟨k + 1, by omega, by omega, rfl, by simp, rfl⟩
  ·
   have hka : k = AL := by omega
   subst hka
   have hm : k % 4 = 0 := hA4.out
   rw [hm] at htm htm2
   by_cases hN4 : N < 4
   ·
    have e1 : decide ((N : Int) < 4) = true := decide_eq_true (by omega)
    have HF : Hid (okC B = false) := okC_no (fun h => by have h1 := h.2.1; have h2 := HM.out.1; omega)
    go_wp2
    refine bodyPost_ret (v := .tuple #[.int .i64 0, .slice none 0 0, .slice none 0 0, .int .i64 2]) (by simp [results, Try.results20, go_sem]) rfl ?_
    exact ⟨HW.out, .inr (.inl ⟨HN.out, HF.out, rfl⟩)⟩
   have e1 : decide ((N : Int) < 4) = false := decide_eq_false (by omega)
   by_cases hAn : n < k
   ·
    have e3 : decide ((k : Int) > (n : Int)) = true := decide_eq_true (by omega)
    have e4 : decide (n < k) = true := decide_eq_true (by omega)
    have HF : Hid (okC B = false) := okC_no (fun h => by have h1 := h.2.2.1; have h2 := HM.out.2; have h3 := HV.out.2.1; omega)
    go_wp2
    refine bodyPost_ret (v := .tuple #[.int .i64 0, .slice none 0 0, .slice none 0 0, .int .i64 2]) (by simp [results, Try.results20, go_sem]) rfl ?_
    exact ⟨HW.out, .inr (.inl ⟨HN.out, HF.out, rfl⟩)⟩
   have e3 : decide ((k : Int) > (n : Int)) = false := decide_eq_false (by omega)
   have e4 : decide (n < k) = false := decide_eq_false (by omega)
   have hkn : k ≤ n := by omega
   go_wp2_with fail
   clear htm htm2 hm e1 e3 e4 hAn hlt hk2 hk1
   go_loopg [8] (k - N) (fun gm t wi => ∃ j : Nat, N ≤ j ∧ j ≤ k ∧ gm = k - j ∧ t = .int .i64 (j : Int) ∧ wi = w1 ∧ Hid (∀ i, N ≤ i → i < j → B.getD i 0 = 0))
   case atStart => exact ⟨N, Nat.le_refl _, hNA, rfl, rfl, rfl, fun i h1 h2 => by omega⟩
   case round =>
    obtain ⟨j, hj1, hj2, rfl, rfl, hw2, HZ⟩ := hrel
    subst wr
    by_cases hlt : j < k
    ·
     have hdk : decide ((j : Int) < (k : Int)) = true := decide_eq_true (by omega)
     have hdk2 : decide (j < k) = true := decide_eq_true (by omega)
     have hck := HW.out.cell (HC.out j (by omega))
     have hjn : (j : Int) < (n : Int) := by omega
     obtain ⟨xk, hxk⟩ : ∃ x, x = B.getD j 0 := ⟨_, rfl⟩
     rw [← hxk] at hck
     have HXK : Hid (xk = B.getD j 0) := hxk
     clear hxk
     by_cases hx0 : xk = 0
     ·
      subst hx0
      go_wp2
      go_roundg (k - (j + 1))
      case measure => omega
      case rel =>
       refine ⟨j + 1, by omega, by omega, rfl, by simp, rfl, fun i h1 h2 => ?_⟩
       by_cases hij : i = j
       ·
        subst hij; exact HXK.out.symm
       ·
        exact HZ.out i h1 (by omega)
     ·
      have hxn : ((xk : Int) != 0) = true := by simp; omega
      have hxd : decide ((xk : Int) = 0) = false := decide_eq_false (by omega)
      have hxe : ((xk : Int) == 0) = false := beq_false_of_ne (by omega)
      have hxg : decide (xk = 0) = false := decide_eq_false hx0
      have HF : Hid (okC B = false) := okC_no (fun h => by
       have h1 := allZ_false (b := B) hj1 hlt (by rw [← HXK.out]; exact hx0)
       rw [HM.out.1, HM.out.2, h.2.2.2] at h1
       cases h1)
      go_wp2
      refine bodyPost_ret (v := .tuple #[.int .i64 0, .slice none 0 0, .slice none 0 0, .int .i64 2]) (by simp [results, Try.results20, go_sem]) rfl ?_
      exact ⟨HW.out, .inr (.inl ⟨HN.out, HF.out, rfl⟩)⟩
    ·
     have hdk : decide ((j : Int) < (k : Int)) = false := decide_eq_false (by omega)
     have hdk2 : decide (j < k) = false := decide_eq_false (by omega)
     have HOK : Hid (okC B = true) := (okC_iff B).2 ⟨by have := HV.out.2.1; omega, by have := HM.out.1; omega, by have := HM.out.2; have := HV.out.2.1; omega, by
      rw [← HM.out.1, ← HM.out.2]; exact allZ_true (fun i h1 h2 => HZ.out i h1 (by omega))⟩
     have hc0' := HW.out.cell (HC.out 0 (by omega))
     rw [Nat.add_zero] at hc0'
     have hx0 := HA.out.getD 0
     have HX0 : Hid (∀ y, y = B.getD 0 0 → y < 256) := fun y h => by rw [h]; exact HA.out.getD 0
     obtain ⟨x0, hx0e⟩ : ∃ x, x = B.getD 0 0 := ⟨_, rfl⟩
     rw [← hx0e] at hc0' hx0
     have HX : Hid (x0 = B.getD 0 0) := hx0e
     clear hx0e
     have hL0 : (0 : Int) < (n : Int) := by omega
     obtain ⟨sa2, hsl2, _⟩ := sliced_form (some ⟨b, off, none⟩) k n c0
     obtain ⟨sn2, hsn2⟩ : ∃ s, s = n - k := ⟨_, rfl⟩
     obtain ⟨sc2, hsc2⟩ : ∃ s, s = c0 - k := ⟨_, rfl⟩
     rw [← hsn2, ← hsc2] at hsl2
     have hkc : k ≤ c0 := by have := HV.out.2.2; omega
     have HSL : Hid (sliced (some ⟨b, off, none⟩) k n c0 1 = .slice sa2 sn2 sc2) := hsl2
     have HS1 : Hid (BytesAt w (.slice (some ⟨b, off, none⟩) k c0) (B.take (allP B))) := by
      have h1 := HV.out.1.sliced 0 k (Nat.zero_le _) (by rw [← HV.out.2.1]; exact hkn)
      rw [sliced_zero, List.drop_zero, HM.out.2] at h1
      rw [HM.out.2]; exact h1
     have HS2 : Hid (BytesAt w (.slice sa2 sn2 sc2) (B.drop (allP B))) := by
      have h1 := HV.out.1.sliced k n hkn (by rw [HV.out.2.1]; exact Nat.le_refl _)
      rwa [hsl2, HM.out.2, List.take_of_length_le (by rw [HV.out.2.1]; exact Nat.le_refl _)] at h1
     have cv0 : IntKind.i64.wrap (x0 : Int) = (x0 : Int) := by rw [IntKind.wrap_i64]; omega
     clear hsl2 hsn2 hsc2
     go_wp2_with fail
     refine wp_region_facts (fun t => bif Nat.ble 50 t && Nat.ble t 59 then some (t - 50) else bif Nat.ble 2 t && Nat.ble t 5 then some (t + 8) else none) 60 Ext
      [Is (.slice (some ⟨b, off, none⟩) n c0),
       Is (.pointer (some ⟨b, off, none⟩)),
       Is (.int .u8 (x0 : Int)),
       Is (.int .i64 (x0 : Int)),
       Is (.slice (some ⟨b, off, none⟩) n c0),
       Is (.int .i64 (k : Int)),
       Is (.slice (some ⟨b, off, none⟩) k c0),
       Is (.slice (some ⟨b, off, none⟩) n c0),
       Is (.int .i64 (k : Int)),
       Is (.slice sa2 sn2 sc2),
       Is (.int .i64 (x0 : Int)),
       Is (.slice (some ⟨b, off, none⟩) k c0),
       Is (.slice sa2 sn2 sc2),
       Is (.int .i64 0)]
      rfl (by kernel_rfl) (by kernel_rfl) rfl Ext.refl (fun _ _ _ => Ext.trans) (Ks (Ks (Ks (Ks (Ks (Ks (Ks (Ks (Ks (Ks (Ks (Ks (Ks (Ks (KeepAll.nil))))))))))))))) ?_ ?_
     ·
      refine Gc (lmv rfl (.inl rfl) rfl rfl iB) ?_
      refine Gc (ln2 (gd0 rfl) rfl (ouI rfl) iA iA (fun r wx hR h1 h2 => by simp [execOp, h1, h2, go_sem, hL0, h0])) ?_
      refine Gc ?_ ?_
      ·
       rintro r wx hR ⟨h1, _⟩
       replace h1 : r (.tmp 51) = .pointer (some ⟨b, off, none⟩) := h1
       exact gvo (exg one5 rfl h1 (hR.cell ((Ext.drew w1).cell hc0'))) ⟨Ext.refl _, rfl⟩
      refine Gc (ln1 (gd0 rfl) rfl (ouI rfl) iA (fun r wx hR h1 => by simp [execOp, h1, cv0, go_sem])) ?_
      refine Gc (lmv rfl (.inl rfl) rfl rfl iB) ?_
      refine Gc (lmv rfl (.inl rfl) rfl rfl iB) ?_
      refine Gc (ln2 (gd0 rfl) rfl (ouI rfl) iA iA (fun r wx hR h1 h2 => by rw [← sliced_zero]; exact exec_slice_h byteT rfl _ _ n c0 k .i64 h1 h2 hkc)) ?_
      refine Gc (lmv rfl (.inl rfl) rfl rfl iB) ?_
      refine Gc (lmv rfl (.inl rfl) rfl rfl iB) ?_
      refine Gc (ln2 (gd0 rfl) rfl (ouI rfl) iA iA (fun r wx hR h1 h2 => by rw [← HSL.out]; exact exec_slice_l byteT rfl _ _ n c0 k .i64 h1 h2 hkn)) ?_
      refine Gc (lmv rfl (.inr rfl) rfl rfl iB) ?_
      refine Gc (lmv rfl (.inr rfl) rfl rfl iB) ?_
      refine Gc (lmv rfl (.inr rfl) rfl rfl iB) ?_
      refine Gc (lmv rfl (.inr rfl) rfl rfl iB) ?_
      exact GoodAll.nil
     intro vs wE a7 hR hold ha7
     refine ‹∀ (a : Act) (w : World), Code.wp Try.prog Code.ret _ a w → _› _ _ ?_
     refine wp_ret ?_
     have hdf : a7.defers = [] := by rw [ha7]; exact putAll_defers _ _ _ _
     have q0 : a7.tmps[2]? = some (.int .i64 (x0 : Int)) := by rw [ha7, ← (hold.at 10 : vs 10 = .int .i64 (x0 : Int))]; kernel_rfl
     have q1 : a7.tmps[3]? = some (.slice (some ⟨b, off, none⟩) k c0) := by rw [ha7, ← (hold.at 11 : vs 11 = .slice (some ⟨b, off, none⟩) k c0)]; kernel_rfl
     have q2 : a7.tmps[4]? = some (.slice sa2 sn2 sc2) := by rw [ha7, ← (hold.at 12 : vs 12 = .slice sa2 sn2 sc2)]; kernel_rfl
     have q3 : a7.tmps[5]? = some (.int .i64 0) := by rw [ha7, ← (hold.at 13 : vs 13 = .int .i64 0)]; kernel_rfl
     clear ha7
     refine bodyPost_ret (v := .tuple #[.int .i64 (x0 : Int), .slice (some ⟨b, off, none⟩) k c0, .slice sa2 sn2 sc2, .int .i64 0]) (by simp [results, Try.results20, go_sem, q0, q1, q2, q3]) hdf ?_
     have HE2 := HW.out.trans ((Ext.drew _).trans hR)
     exact ⟨HE2, .inr (.inr ⟨HOK.out, _, _, _, _, _, _, by rw [HX.out], HS1.out.ext HE2, HS2.out.ext HE2⟩)⟩
def docReadV (B : List Nat) : Option Ck := if okC B = true ∧ B.length ≤ allP B ∧ knB ((B.getD 0 0 : Nat) : Int) = true then docRd ((B.getD 0 0 : Nat) : Int) (B.getD 1 0) ((B.take (lenP B)).drop 4) else none
theorem refSplit_no {w : World} {v : Value} {B : List Nat} (hv : BytesAt w v B) (hB : B.length ≤ 1000000) (hk : okC B = false) :
  Calls Try.prog 20 #[v] w fun e w' => Ext w w' ∧ ∃ b : Int, (b != 0) = true ∧ e = .returned (.tuple #[.int .i64 0, .slice none 0 0, .slice none 0 0, .int .i64 b]) := by
 refine (refSplit_any hv hB).mono fun e w' h => ?_
 obtain ⟨he, ⟨_, h⟩ | ⟨_, _, h⟩ | ⟨h, _⟩⟩ := h
 ·
  exact ⟨he, 4, rfl, h⟩
 ·
  exact ⟨he, 2, rfl, h⟩
 ·
  rw [hk] at h; cases h
theorem refSplit_yes {w : World} {v : Value} {B : List Nat} (hv : BytesAt w v B) (hB : B.length ≤ 1000000) (hk : okC B = true) :
  Calls Try.prog 20 #[v] w fun e w' => Ext w w' ∧ ∃ a c a2 c2, e = .returned (.tuple #[.int .i64 (B.getD 0 0 : Nat), .slice a (B.take (allP B)).length c, .slice a2 (B.drop (allP B)).length c2, .int .i64 0]) ∧ BytesAt w' (.slice a (B.take (allP B)).length c) (B.take (allP B)) := by
 refine (refSplit_any hv hB).mono fun e w' h => ?_
 obtain ⟨he, ⟨h, _⟩ | ⟨_, h, _⟩ | ⟨_, a, n, c, a2, n2, c2, h, h1, h2⟩⟩ := h
 ·
  subst h; cases hk
 ·
  rw [hk] at h; cases h
 ·
  have e1 := (bytes_cap h1).1
  have e2 := (bytes_cap h2).1
  subst e1 e2
  exact ⟨he, a, c, a2, c2, h, h1⟩
theorem readV_no {B : List Nat} (h : ¬ (okC B = true ∧ B.length ≤ allP B ∧ knB ((B.getD 0 0 : Nat) : Int) = true)) : docReadV B = none := if_neg h
theorem docRead_any {w : World} {v : Value} {B : List Nat} (hv : BytesAt w v B) (hB : B.length ≤ 100000) :
  Calls Try.prog 18 #[v] w (RdOut w (docReadV B)) := by
 obtain ⟨a0, c0, rfl, _, _⟩ := hv.form
 rename_i z1 z2
 clear z1 z2
 have HV : Hid (BytesAt w (.slice a0 B.length c0) B ∧ B.length ≤ 100000) := ⟨hv, hB⟩
 clear hv hB
 cases hok : okC B with
 | false =>
  have HN : Hid (docReadV B = none) := readV_no (fun h => by rw [hok] at h; cases h.1)
  go_enter Try.func18, Try.ntmps18
  go_wp2_with (first
   | (have q_ := he2; clear q_; refine wl_store (D := CV (ck0 0) sv0) rfl rowC2 (by rfl) (by first | rfl | go_simp) (by first | rfl | go_simp) (hb1.ext he2) (by rfl) (by rfl) (CV.one _ _) ?_; intro w9 hb9 hk9 hx9; clear hx9)
   | (have q_ := he1; clear q_; go_at_call 20; refine (refSplit_no (HV.out.1.ext he1) (by have := HV.out.2; omega) hok).mono ?_; rintro e w2 ⟨he2, b, hb, rfl⟩)
   | (refine wl_alloc rfl (by rfl) zeroCd ?_; intro w1 hb1 he1 hx1; clear hx1))
  refine bodyPost_ret (res_two (fn := Try.f18) (p := 2) (u := 3) rfl _ _ rfl rfl hb9 Try.underlying32 (by kernel_rfl)) rfl ?_
  refine show RdOut w (docReadV B) _ w9 from ⟨(he1.trans he2).of_but hk9 (fun k e => by subst e; exact Nat.le_refl _), _, _, _, rfl, (lq0 0 _ _).at, .inr ⟨rfl, rfl, rfl, fun d2 h2 => ?_⟩⟩
  rw [HN.out] at h2
  cases h2
 | true =>
 have HOK := (okC_iff B).1 hok
 obtain ⟨n2, hn2⟩ : ∃ n, n = (B.drop (allP B)).length := ⟨_, rfl⟩
 obtain ⟨x, hx⟩ : ∃ x : Int, x = ((B.getD 0 0 : Nat) : Int) := ⟨_, rfl⟩
 have HSP : Hid (∀ wz, BytesAt wz (.slice a0 B.length c0) B → Calls Try.prog 20 #[.slice a0 B.length c0] wz fun e w' => Ext wz w' ∧ ∃ a c a2 c2, e = .returned (.tuple #[.int .i64 x, .slice a (B.take (allP B)).length c, .slice a2 n2 c2, .int .i64 0]) ∧ BytesAt w' (.slice a (B.take (allP B)).length c) (B.take (allP B))) := fun wz h => by rw [hx, hn2]; exact refSplit_yes h (by have := HV.out.2; omega) hok
 by_cases hl : allP B < B.length
 ·
  have d1 : decide ((n2 : Int) > 0) = true := decide_eq_true (by rw [hn2, List.length_drop]; omega)
  have d2 : 0 < n2 := by rw [hn2, List.length_drop]; omega
  have HN : Hid (docReadV B = none) := readV_no (fun h => by omega)
  clear HOK hl hn2 hx hok
  go_enter Try.func18, Try.ntmps18
  go_wp2_with (first
   | (have q_ := he2; clear q_; refine wl_store (D := CV (ck0 0) sv0) rfl rowC2 (by rfl) (by first | rfl | go_simp) (by first | rfl | go_simp) (hb1.ext he2) (by rfl) (by rfl) (CV.one _ _) ?_; intro w9 hb9 hk9 hx9; clear hx9)
   | (have q_ := he1; clear q_; go_at_call 20; refine (HSP.out _ (HV.out.1.ext he1)).mono ?_; rintro e w2 ⟨he2, a, c, a2, c2, rfl, ho⟩; clear ho)
   | (refine wl_alloc rfl (by rfl) zeroCd ?_; intro w1 hb1 he1 hx1; clear hx1))
  refine bodyPost_ret (res_two (fn := Try.f18) (p := 2) (u := 3) rfl _ _ rfl rfl hb9 Try.underlying32 (by kernel_rfl)) rfl ?_
  refine show RdOut w (docReadV B) _ w9 from ⟨(he1.trans he2).of_but hk9 (fun k e => by subst e; exact Nat.le_refl _), _, _, _, rfl, (lq0 0 _ _).at, .inr ⟨rfl, rfl, rfl, fun d2 h2 => ?_⟩⟩
  rw [HN.out] at h2
  cases h2
 have d1 : decide ((n2 : Int) > 0) = false := decide_eq_false (by rw [hn2, List.length_drop]; omega)
 have d2 : n2 = 0 := by rw [hn2, List.length_drop]; omega
 cases hkn : knB x with
 | false =>
  have HN : Hid (docReadV B = none) := readV_no (fun h => by rw [← hx, hkn] at h; cases h.2.2)
  clear HOK hl hn2 hx hok
  go_enter Try.func18, Try.ntmps18
  go_wp2_with (first
   | (have q_ := he2; clear q_; refine wl_store (D := CV (ck0 0) sv0) rfl rowC2 (by rfl) (by first | rfl | go_simp) (by first | rfl | go_simp) (hb1.ext he2) (by rfl) (by rfl) (CV.one _ _) ?_; intro w9 hb9 hk9 hx9; clear hx9)
   | (have q_ := he2; clear q_; go_at_call 23; refine (refKnown_any _ _).mono ?_; rintro e w3 ⟨rfl, he3⟩; rw [hkn]; replace he2 := he2.trans he3; clear he3)
   | (have q_ := he1; clear q_; go_at_call 20; refine (HSP.out _ (HV.out.1.ext he1)).mono ?_; rintro e w2 ⟨he2, a, c, a2, c2, rfl, ho⟩; clear ho)
   | (refine wl_alloc rfl (by rfl) zeroCd ?_; intro w1 hb1 he1 hx1; clear hx1))
  refine bodyPost_ret (res_two (fn := Try.f18) (p := 2) (u := 3) rfl _ _ rfl rfl hb9 Try.underlying32 (by kernel_rfl)) rfl ?_
  refine show RdOut w (docReadV B) _ w9 from ⟨(he1.trans he2).of_but hk9 (fun k e => by subst e; exact Nat.le_refl _), _, _, _, rfl, (lq0 0 _ _).at, .inr ⟨rfl, rfl, rfl, fun d2 h2 => ?_⟩⟩
  rw [HN.out] at h2
  cases h2
 | true =>
 obtain ⟨N, hN⟩ : ∃ N, N = lenP B := ⟨_, rfl⟩
 obtain ⟨F, hF⟩ : ∃ F, F = B.getD 1 0 := ⟨_, rfl⟩
 obtain ⟨V, hVV⟩ : ∃ V, V = (B.take (lenP B)).drop 4 := ⟨_, rfl⟩
 have HD : Hid (docReadV B = docRd x F V) := show _ = _ by rw [hx, hF, hVV]; exact if_pos ⟨hok, by omega, by rw [← hx]; exact hkn⟩
 have HAll : B.take (allP B) = B := List.take_of_length_le (by omega)
 have hAB : AllB B := HV.out.1.1
 have hx2 := hAB.getD 2
 have hx3 := hAB.getD 3
 have HF : Hid (F < 256) := show _ < _ by rw [hF]; exact hAB.getD 1
 have hN0 : N = B.getD 2 0 * 256 + B.getD 3 0 := by rw [hN]; rfl
 have HNN : Hid (4 ≤ N ∧ N ≤ B.length ∧ 4 ≤ B.length ∧ V = (B.take N).drop 4) := ⟨by rw [hN]; exact HOK.2.1, by rw [hN]; have h1 := HOK.2.2.1; have : lenP B ≤ allP B := (by unfold allP; omega); omega, HOK.1, by rw [hN]; exact hVV⟩
 rw [HAll] at HSP
 obtain ⟨L, hL⟩ : ∃ L, L = B.length := ⟨_, rfl⟩
 have HL : Hid (L = B.length) := hL
 rw [← hL] at HSP HV HNN ⊢
 have HC : Hid (∀ j, j < L → ∀ (wz : World) (b off c : Nat), BytesAt wz (.slice (some ⟨b, off, none⟩) L c) B → wz.cell? ⟨b, off + j, none⟩ = some (.int .u8 (B.getD j 0 : Nat))) := fun j hj wz b off c h => bytes_cell h j (by rw [← HL.out]; exact hj)
 obtain ⟨f1, hf1⟩ : ∃ f, f = B.getD 1 0 := ⟨_, rfl⟩
 obtain ⟨x2, hxx2⟩ : ∃ f, f = B.getD 2 0 := ⟨_, rfl⟩
 obtain ⟨x3, hxx3⟩ : ∃ f, f = B.getD 3 0 := ⟨_, rfl⟩
 have HC' : Hid (∀ (wz : World) (b off c : Nat), BytesAt wz (.slice (some ⟨b, off, none⟩) L c) B → wz.cell? ⟨b, off + 1, none⟩ = some (.int .u8 (F : Int)) ∧ wz.cell? ⟨b, off + 2, none⟩ = some (.int .u8 (x2 : Int)) ∧ wz.cell? ⟨b, off + 3, none⟩ = some (.int .u8 (x3 : Int))) := fun wz b off c h => by
  rw [hF, hxx2, hxx3]
  have := HNN.out.2.2.1
  exact ⟨HC.out 1 (by omega) wz b off c h, HC.out 2 (by omega) wz b off c h, HC.out 3 (by omega) wz b off c h⟩
 rw [← hxx2, ← hxx3] at hN0
 rw [← hxx2] at hx2
 rw [← hxx3] at hx3
 obtain ⟨y2, hy2⟩ : ∃ y, y = x2 * 256 := ⟨_, rfl⟩
 have m1 : (x2 : Int) * 256 = (y2 : Int) := by omega
 have m2 : (y2 : Int) + (x3 : Int) = (N : Int) := by omega
 have HN6 : Hid (N < 65536) := show _ < _ by omega
 have v2 : IntKind.i64.wrap (x2 : Int) = (x2 : Int) := by rw [IntKind.wrap_i64]; omega
 have v3 : IntKind.i64.wrap (x3 : Int) = (x3 : Int) := by rw [IntKind.wrap_i64]; omega
 have v4 : IntKind.i64.wrap (y2 : Int) = (y2 : Int) := by rw [IntKind.wrap_i64]; omega
 have v5 : IntKind.i64.wrap (N : Int) = (N : Int) := by rw [IntKind.wrap_i64]; omega
 have v6 : IntKind.i64.wrap (F : Int) = (F : Int) := by rw [IntKind.wrap_i64]; have := HF.out; omega
 have hL1 : (1 : Int) < (L : Int) := by have := HNN.out.2.2.1; omega
 have hL2 : (2 : Int) < (L : Int) := by have := HNN.out.2.2.1; omega
 have hL3 : (3 : Int) < (L : Int) := by have := HNN.out.2.2.1; omega
 have f5 : (F : Int) % 256 = (F : Int) := by have := HF.out; omega
 clear HOK hl hn2 hok hx hF hVV hN hN0 hAB hL hf1 hxx2 hxx3 hx2 hx3 hy2 HC HAll
 go_enter Try.func18, Try.ntmps18
 have HKN : Hid (knB x = true) := hkn
 refine wp_seq_k (fun K0 hK => ?_)
 have HK0 := Stop.mk hK
 clear hK
 go_wp2_with (first
  | (refine wl_alloc rfl (by rfl) zeroCd ?_; intro w1 hb1 he1 hx1; clear hx1))
 refine HK0.go _ _ ?_
 clear HK0
 refine wp_seq_k (fun K1 hK => ?_)
 have HK1 := Stop.mk hK
 clear hK
 go_wp2_with (first
  | (go_at_call 20; refine (HSP.out _ (HV.out.1.ext he1)).mono ?_; rintro e w2 ⟨he2, a, c, a2, c2, rfl, ho⟩; have HO : Hid (BytesAt w2 (.slice a L c) B) := by first | exact ho | (rw [HL.out]; exact ho); clear ho))
 refine HK1.go _ _ ?_
 clear HK1
 refine wp_seq_k (fun K2 hK => ?_)
 have HK2 := Stop.mk hK
 clear hK
 go_wp2_with (first
  | (go_at_call 23; refine (refKnown_any _ _).mono ?_; rintro e w3 ⟨rfl, he3⟩; rw [hkn]))
 refine HK2.go _ _ ?_
 clear HK2
 have HB : Hid (Ext w w3 ∧ w.heap.size < w3.heap.size ∧ Blk w3 w.heap.size (CV (ck0 0) sv0) 32 ∧ BytesAt w3 (.slice a L c) B) := ⟨(he1.trans he2).trans he3, Nat.lt_of_lt_of_le hb1.lt ((he2.trans he3).size), hb1.ext (he2.trans he3), HO.out.ext he3⟩
 clear HO hb1 he1 he2 he3 hkn d1
 refine wp_seq_k (fun K3 hK => ?_)
 have HK3 := Stop.mk hK
 clear hK
 go_wp2_with (first
  | (refine wl_store (D := CV (ck0 x) sv0) rfl rowC2 (by rfl) (by first | rfl | go_simp) (by first | rfl | go_simp) hb4 (by rfl) (by rfl) (CV.one _ _) ?_; intro w5 hb5 hk5 hx5; clear hx5)
  | (refine wl_alloc rfl (by rfl) zeroCd ?_; intro w4 hb4 he4 hx4; clear hx4))
 refine HK3.go _ _ ?_
 clear HK3
 have HE5 : Hid (Ext w3 w5 ∧ Blk w5 w3.heap.size (CV (ck0 x) sv0) 32) := ⟨he4.of_but hk5 (fun k e => by subst e; exact Nat.le_refl _), hb5⟩
 clear hb4 hk5 he4 hb5
 obtain ⟨b, off, rfl⟩ := bytes_some HB.out.2.2.2 (by have := HNN.out.2.2.1; have := HL.out; omega)
 have hc2 := (HC'.out w5 b off c (HB.out.2.2.2.ext HE5.out.1)).2.1
 have hc3 := (HC'.out w5 b off c (HB.out.2.2.2.ext HE5.out.1)).2.2
 refine wp_seq_k (fun K4 hK => ?_)
 have HK4 := Stop.mk hK
 clear hK
 go_wp2_with fail
 go_quiet (fail)
 go_wp2_with fail
 refine HK4.go _ _ ?_
 clear HK4
 clear hc2 hc3 m1 m2 hL2 hL3 v2 v3 v4 v5
 have HE6 : Hid (Ext w3 (w5.drewN nq) ∧ Blk (w5.drewN nq) w3.heap.size (CV (ck0 x) sv0) 32) := ⟨HE5.out.1.trans (Ext.drewN _ _), HE5.out.2.ext (Ext.drewN _ _)⟩
 clear HE5
 generalize w5.drewN nq = w6 at *
 obtain ⟨xa, hX, _⟩ := sliced_form (some ⟨b, off, none⟩) 4 N c
 obtain ⟨n4, hn4⟩ : ∃ n4, N - 4 = n4 := ⟨_, rfl⟩
 obtain ⟨c4, hc4⟩ : ∃ c4, c - 4 = c4 := ⟨_, rfl⟩
 rw [hn4, hc4] at hX
 clear hn4 hc4
 have HX : Hid (sliced (some ⟨b, off, none⟩) 4 N c 1 = .slice xa n4 c4 ∧ BytesAt w3 (.slice xa n4 c4) V) := ⟨hX, by rw [← hX, HNN.out.2.2.2]; exact HB.out.2.2.2.sliced 4 N HNN.out.1 (by have := HNN.out.2.1; have := HL.out; omega)⟩
 have HCc : Hid (N ≤ c) := show _ ≤ _ by have := (bytes_cap HB.out.2.2.2).2; have := HNN.out.2.1; omega
 clear hX
 refine wp_seq_k (fun K5 hK => ?_)
 have HK5 := Stop.mk hK
 clear hK
 go_wp2_with (first
  | (refine wl_box (C := #[.slice xa n4 c4, .int .i64 0, .bool false]) rfl (by rfl) (by first | rfl | go_simp) ?_; intro w7 hb7 he7 hx7; clear hx7)
  | (refine wpList_of_run (v := .slice xa n4 c4) rfl (by rw [← HX.out.1]; exact exec_slice_lh byteT (by rfl) _ _ _ _ 4 N .i64 .i64 (by first | rfl | go_simp) (by first | rfl | go_simp) (by first | rfl | go_simp) HNN.out.1 HCc.out) ?_))
 refine HK5.go _ _ ?_
 clear HK5
 have HR : Hid (DR w3 w7 w3.heap.size w6.heap.size (.slice xa n4 c4) V (some 0) (ck0 x) sv0) := ⟨HE6.out.1.trans he7, Nat.le_refl _, HE6.out.1.size, (Nat.ne_of_lt HE6.out.2.lt).symm, HE6.out.2.ext he7, ⟨0, false, hb7, Nat.zero_le _, rfl⟩, HX.out.2, lq0 _ _ _, ⟨⟨rfl, rfl, rfl, rfl⟩, rfl, rfl, rfl, rfl⟩⟩
 have HV2 : Hid (V.length ≤ 100000) := show _ ≤ _ by rw [HNN.out.2.2.2, List.length_drop, List.length_take]; have := HL.out; have := HV.out.2; omega
 have hc1 := (HC'.out w7 b off c (HB.out.2.2.2.ext (HE6.out.1.trans he7))).1
 clear hb7 he7
 refine wp_seq_k (fun K6 hK => ?_)
 have HK6 := Stop.mk hK
 clear hK
 go_wp2
 refine HK6.go _ _ ?_
 clear HK6
 have HT : Hid (DR w3 w7 w3.heap.size w6.heap.size (.slice xa n4 c4) V (some 0) (ck0 x) sv0 ∧ Ext w w3 ∧ w.heap.size ≤ w.heap.size ∧ Blk w3 w.heap.size (CV (ck0 0) sv0) 32 ∧ V.length ≤ 100000) := ⟨HR.out, HB.out.1, Nat.le_refl _, HB.out.2.2.1, HV2.out⟩
 rw [HD.out]
 have hkx : knB x = true := HKN.out
 clear hc1 HR HV2 HD HX HCc HNN HN6 HC' f5 v6 hL1 HB HE6 HV HSP HL
 rcases knB_cases hkx with rfl | rfl | rfl | rfl | rfl | rfl | rfl | rfl | rfl | rfl | rfl | rfl | rfl | rfl | rfl | rfl
 ·
  exact sr_0 _ _ _ _ _ _ _ _ _ HT HF.out
 ·
  exact sr_1 _ _ _ _ _ _ _ _ _ HT HF.out
 ·
  exact sr_2 _ _ _ _ _ _ _ _ _ HT HF.out
 ·
  exact sr_3 _ _ _ _ _ _ _ _ _ HT HF.out
 ·
  exact sr_4 _ _ _ _ _ _ _ _ _ HT HF.out
 ·
  exact sr_5 _ _ _ _ _ _ _ _ _ HT HF.out
 ·
  exact sr_6 _ _ _ _ _ _ _ _ _ HT HF.out
 ·
  exact sr_7 _ _ _ _ _ _ _ _ _ HT HF.out
 ·
  exact sr_8 _ _ _ _ _ _ _ _ _ HT HF.out
 ·
  exact sr_9 _ _ _ _ _ _ _ _ _ HT HF.out
 ·
  exact sr_10 _ _ _ _ _ _ _ _ _ HT HF.out
 ·
  exact sr_11 _ _ _ _ _ _ _ _ _ HT HF.out
 ·
  exact sr_14 _ _ _ _ _ _ _ _ _ HT HF.out
 ·
  exact sr_15 _ _ _ _ _ _ _ _ _ HT HF.out
 ·
  exact sr_128 _ _ _ _ _ _ _ _ _ HT HF.out
 ·
  exact sr_193 _ _ _ _ _ _ _ _ _ HT HF.out
theorem valueR_0 {w0 w : World} {q : Nat} {V : List Nat} {F : Nat} (hF : F < 256) (h : RS w0 w q (ck0 0) sv0 V (some 0)) (hA : AllB V) (hV : V.length ≤ 100000) :
  Calls Try.prog 42 #[ptr q, .int .u64 (F : Int)] w (TookIs w0 q (rdPiece F V) V) := by
 obtain ⟨gi, bv, hg⟩ := h.g
 have c0 : w.cell? ⟨q, 0, none⟩ = some (.int .i64 0) := rv0 hg.hb
 have HX : Hid (AllB V ∧ V.length ≤ 1000000) := ⟨hA, by omega⟩
 have HB : Hid (V.length ≤ 100000) := hV
 have HR0 : Hid (RS w0 w q (ck0 0) sv0 V (some 0)) := h
 clear h hA hV hg
 go_enter Try.func42, Try.ntmps42
 go_wp2_with (first
  | (go_at_call 78; refine (piece_any hF HR0.out HX.out.1 HX.out.2).mono ?_; rintro e yz ⟨⟨zz, rfl⟩, hz⟩; have HZ : Hid (∃ s2 st2, RS w0 yz q (rdPiece F V) s2 V st2) := hz; clear hz))
 go_end0
 exact ⟨⟨_, rfl⟩, HZ.out⟩
theorem valueR_3 {w0 w : World} {q : Nat} {V : List Nat} {F : Nat} (hF : F < 256) (h : RS w0 w q (ck0 3) sv0 V (some 0)) (hA : AllB V) (hV : V.length ≤ 100000) :
  Calls Try.prog 42 #[ptr q, .int .u64 (F : Int)] w (TookIs w0 q (rdSack V) V) := by
 obtain ⟨gi, bv, hg⟩ := h.g
 have c0 : w.cell? ⟨q, 0, none⟩ = some (.int .i64 3) := rv0 hg.hb
 have HX : Hid (AllB V ∧ V.length ≤ 1000000) := ⟨hA, by omega⟩
 have HB : Hid (V.length ≤ 100000) := hV
 have HR0 : Hid (RS w0 w q (ck0 3) sv0 V (some 0)) := h
 clear h hA hV hg
 go_enter Try.func42, Try.ntmps42
 go_wp2_with (first
  | (go_at_call 82; refine (sack_any HR0.out HX.out.1 HX.out.2).mono ?_; rintro e yz ⟨⟨zz, rfl⟩, hz⟩; have HZ : Hid (∃ s2 st2, RS w0 yz q (rdSack V) s2 V st2) := hz; clear hz))
 go_end0
 exact ⟨⟨_, rfl⟩, HZ.out⟩
theorem valueR_4 {w0 w : World} {q : Nat} {V : List Nat} {F : Nat} (hF : F < 256) (h : RS w0 w q (ck0 4) sv0 V (some 0)) (hA : AllB V) (hV : V.length ≤ 100000) :
  Calls Try.prog 42 #[ptr q, .int .u64 (F : Int)] w (TookIs w0 q (rdPars (ck0 4) (rdRest V (some 0))) V) := by
 obtain ⟨gi, bv, hg⟩ := h.g
 have c0 : w.cell? ⟨q, 0, none⟩ = some (.int .i64 4) := rv0 hg.hb
 have HX : Hid (AllB V ∧ V.length ≤ 1000000) := ⟨hA, by omega⟩
 have HB : Hid (V.length ≤ 100000) := hV
 have HR0 : Hid (RS w0 w q (ck0 4) sv0 V (some 0)) := h
 clear h hA hV hg
 go_enter Try.func42, Try.ntmps42
 go_wp2_with (first
  | (go_at_call 81; refine (paramsR_any HR0.out HB.out ⟨rfl, rfl⟩).mono ?_; rintro e yz ⟨⟨zz, rfl⟩, hz⟩; have HZ : Hid (∃ s2 st2, RS w0 yz q (rdPars (ck0 4) (rdRest V (some 0))) s2 V st2) := hz; clear hz))
 go_end0
 exact ⟨⟨_, rfl⟩, HZ.out⟩
theorem valueR_5 {w0 w : World} {q : Nat} {V : List Nat} {F : Nat} (hF : F < 256) (h : RS w0 w q (ck0 5) sv0 V (some 0)) (hA : AllB V) (hV : V.length ≤ 100000) :
  Calls Try.prog 42 #[ptr q, .int .u64 (F : Int)] w (TookIs w0 q (rdPars (ck0 5) (rdRest V (some 0))) V) := by
 obtain ⟨gi, bv, hg⟩ := h.g
 have c0 : w.cell? ⟨q, 0, none⟩ = some (.int .i64 5) := rv0 hg.hb
 have HX : Hid (AllB V ∧ V.length ≤ 1000000) := ⟨hA, by omega⟩
 have HB : Hid (V.length ≤ 100000) := hV
 have HR0 : Hid (RS w0 w q (ck0 5) sv0 V (some 0)) := h
 clear h hA hV hg
 go_enter Try.func42, Try.ntmps42
 go_wp2_with (first
  | (go_at_call 81; refine (paramsR_any HR0.out HB.out ⟨rfl, rfl⟩).mono ?_; rintro e yz ⟨⟨zz, rfl⟩, hz⟩; have HZ : Hid (∃ s2 st2, RS w0 yz q (rdPars (ck0 5) (rdRest V (some 0))) s2 V st2) := hz; clear hz))
 go_end0
 exact ⟨⟨_, rfl⟩, HZ.out⟩
theorem valueR_193 {w0 w : World} {q : Nat} {V : List Nat} {F : Nat} (hF : F < 256) (h : RS w0 w q (ck0 193) sv0 V (some 0)) (hA : AllB V) (hV : V.length ≤ 100000) :
  Calls Try.prog 42 #[ptr q, .int .u64 (F : Int)] w (TookIs w0 q (rdPars { ck0 193 with serial := (numS V (some 0) 4).2 } (rdRest V (st1 V))) V) := by
 obtain ⟨gi, bv, hg⟩ := h.g
 have c0 : w.cell? ⟨q, 0, none⟩ = some (.int .i64 193) := rv0 hg.hb
 have HX : Hid (AllB V ∧ V.length ≤ 1000000) := ⟨hA, by omega⟩
 have HB : Hid (V.length ≤ 100000) := hV
 have HR0 : Hid (RS w0 w q (ck0 193) sv0 V (some 0)) := h
 clear h hA hV hg
 go_enter Try.func42, Try.ntmps42
 go_wp2_with (first
  | (go_at_call 81; refine (paramsR_any HR2.out HB.out ⟨rfl, rfl⟩).mono ?_; rintro e yz ⟨⟨zz, rfl⟩, hz⟩; have HZ : Hid (∃ s2 st2, RS w0 yz q (rdPars { ck0 193 with serial := (numS V (some 0) 4).2 } (rdRest V (st1 V))) s2 V st2) := hz; clear hz)
  | (refine wl_setR HR1.out rfl one22 19 rfl (by first | rfl | go_simp) (by first | rfl | go_simp) rfl rfl (by decide) ({ ck0 193 with serial := (numS V (some 0) 4).2 }) (sv0) (fun z => rfl) ⟨HR1.out.own.t, HR1.out.own.r, HR1.out.own.a, HR1.out.own.i, HR1.out.own.g, HR1.out.own.d, HR1.out.own.o⟩ { HR1.out.fit with serial := numS_u32 HX.out.1 _ } ?_; intro y2 hr; have HR2 : Hid (RS w0 y2 q ({ ck0 193 with serial := (numS V (some 0) 4).2 }) (sv0) V (st1 V)) := hr; clear hr)
  | (go_at_call 79; refine (word_any HR0.out HX.out.1 HX.out.2).mono ?_; rintro e y1 ⟨rfl, hr⟩; have HR1 : Hid (RS w0 y1 q (ck0 193) (sv0) V (st1 V)) := hr; clear hr))
 go_end0
 exact ⟨⟨_, rfl⟩, HZ.out⟩
theorem valueR_1 {w0 w : World} {q : Nat} {V : List Nat} {F : Nat} (hF : F < 256) (h : RS w0 w q (ck0 1) sv0 V (some 0)) (hA : AllB V) (hV : V.length ≤ 100000) :
  Calls Try.prog 42 #[ptr q, .int .u64 (F : Int)] w (TookIs w0 q (rdPars (hdStart 1 V) (rdRest V (st5 V))) V) := by
 obtain ⟨gi, bv, hg⟩ := h.g
 have c0 : w.cell? ⟨q, 0, none⟩ = some (.int .i64 1) := rv0 hg.hb
 have HX : Hid (AllB V ∧ V.length ≤ 1000000) := ⟨hA, by omega⟩
 have HB : Hid (V.length ≤ 100000) := hV
 have HR0 : Hid (RS w0 w q (ck0 1) sv0 V (some 0)) := h
 clear h hA hV hg
 go_enter Try.func42, Try.ntmps42
 go_wp2_with (first
  | (go_at_call 81; refine (paramsR_any HR10.out HB.out ⟨rfl, rfl⟩).mono ?_; rintro e yz ⟨⟨zz, rfl⟩, hz⟩; have HZ : Hid (∃ s2 st2, RS w0 yz q (rdPars (hdStart 1 V) (rdRest V (st5 V))) s2 V st2) := hz; clear hz)
  | (refine wl_setR HR9.out rfl one22 12 rfl (by first | rfl | go_simp) (by first | rfl | go_simp) rfl rfl (by decide) ({ ck0 1 with tag := (numS V (some 0) 4).2, win := ((numS V (st1 V) 4).2 : Nat), out := ((numS V (st2 V) 2).2 : Nat), inn := ((numS V (st3 V) 2).2 : Nat), tsn := (numS V (st4 V) 4).2 }) (sv0) (fun z => rfl) ⟨HR9.out.own.t, HR9.out.own.r, HR9.out.own.a, HR9.out.own.i, HR9.out.own.g, HR9.out.own.d, HR9.out.own.o⟩ { HR9.out.fit with tsn := numS_u32 HX.out.1 _ } ?_; intro y10 hr; have HR10 : Hid (RS w0 y10 q ({ ck0 1 with tag := (numS V (some 0) 4).2, win := ((numS V (st1 V) 4).2 : Nat), out := ((numS V (st2 V) 2).2 : Nat), inn := ((numS V (st3 V) 2).2 : Nat), tsn := (numS V (st4 V) 4).2 }) (sv0) V (st5 V)) := hr; clear hr)
  | (go_at_call 79; refine (word_any HR8.out HX.out.1 HX.out.2).mono ?_; rintro e y9 ⟨rfl, hr⟩; have HR9 : Hid (RS w0 y9 q ({ ck0 1 with tag := (numS V (some 0) 4).2, win := ((numS V (st1 V) 4).2 : Nat), out := ((numS V (st2 V) 2).2 : Nat), inn := ((numS V (st3 V) 2).2 : Nat) }) (sv0) V (st5 V)) := hr; clear hr)
  | (refine wl_setR HR7.out rfl one3 11 rfl (by first | rfl | go_simp) (by first | rfl | go_simp) rfl rfl (by decide) ({ ck0 1 with tag := (numS V (some 0) 4).2, win := ((numS V (st1 V) 4).2 : Nat), out := ((numS V (st2 V) 2).2 : Nat), inn := ((numS V (st3 V) 2).2 : Nat) }) (sv0) (fun z => rfl) ⟨HR7.out.own.t, HR7.out.own.r, HR7.out.own.a, HR7.out.own.i, HR7.out.own.g, HR7.out.own.d, HR7.out.own.o⟩ { HR7.out.fit with inn := w64_num HX.out.1 _ _ (by decide) } ?_; intro y8 hr; have HR8 : Hid (RS w0 y8 q ({ ck0 1 with tag := (numS V (some 0) 4).2, win := ((numS V (st1 V) 4).2 : Nat), out := ((numS V (st2 V) 2).2 : Nat), inn := ((numS V (st3 V) 2).2 : Nat) }) (sv0) V (st4 V)) := hr; clear hr)
  | (refine wl_setR HR6.out rfl one3 10 rfl (by first | rfl | go_simp) (by first | rfl | go_simp) rfl rfl (by decide) ({ ck0 1 with tag := (numS V (some 0) 4).2, win := ((numS V (st1 V) 4).2 : Nat), out := ((numS V (st2 V) 2).2 : Nat) }) (sv0) (fun z => rfl) ⟨HR6.out.own.t, HR6.out.own.r, HR6.out.own.a, HR6.out.own.i, HR6.out.own.g, HR6.out.own.d, HR6.out.own.o⟩ { HR6.out.fit with out := w64_num HX.out.1 _ _ (by decide) } ?_; intro y7 hr; have HR7 : Hid (RS w0 y7 q ({ ck0 1 with tag := (numS V (some 0) 4).2, win := ((numS V (st1 V) 4).2 : Nat), out := ((numS V (st2 V) 2).2 : Nat) }) (sv0) V (st4 V)) := hr; clear hr)
  | (go_at_call 80; refine (number_any HR5.out HX.out.1 HX.out.2 2 (by decide)).mono ?_; rintro e y6 ⟨rfl, hr⟩; have HR6 : Hid (RS w0 y6 q ({ ck0 1 with tag := (numS V (some 0) 4).2, win := ((numS V (st1 V) 4).2 : Nat) }) (sv0) V (st4 V)) := hr; clear hr)
  | (go_at_call 80; refine (number_any HR4.out HX.out.1 HX.out.2 2 (by decide)).mono ?_; rintro e y5 ⟨rfl, hr⟩; have HR5 : Hid (RS w0 y5 q ({ ck0 1 with tag := (numS V (some 0) 4).2, win := ((numS V (st1 V) 4).2 : Nat) }) (sv0) V (st3 V)) := hr; clear hr)
  | (refine wl_setR HR3.out rfl one3 9 rfl (by first | rfl | go_simp) (by first | rfl | go_simp) rfl rfl (by decide) ({ ck0 1 with tag := (numS V (some 0) 4).2, win := ((numS V (st1 V) 4).2 : Nat) }) (sv0) (fun z => rfl) ⟨HR3.out.own.t, HR3.out.own.r, HR3.out.own.a, HR3.out.own.i, HR3.out.own.g, HR3.out.own.d, HR3.out.own.o⟩ { HR3.out.fit with win := w64_num HX.out.1 _ _ (by decide) } ?_; intro y4 hr; have HR4 : Hid (RS w0 y4 q ({ ck0 1 with tag := (numS V (some 0) 4).2, win := ((numS V (st1 V) 4).2 : Nat) }) (sv0) V (st2 V)) := hr; clear hr)
  | (refine wl_setR HR2.out rfl one22 8 rfl (by first | rfl | go_simp) (by first | rfl | go_simp) rfl rfl (by decide) ({ ck0 1 with tag := (numS V (some 0) 4).2 }) (sv0) (fun z => rfl) ⟨HR2.out.own.t, HR2.out.own.r, HR2.out.own.a, HR2.out.own.i, HR2.out.own.g, HR2.out.own.d, HR2.out.own.o⟩ { HR2.out.fit with tag := numS_u32 HX.out.1 _ } ?_; intro y3 hr; have HR3 : Hid (RS w0 y3 q ({ ck0 1 with tag := (numS V (some 0) 4).2 }) (sv0) V (st2 V)) := hr; clear hr)
  | (go_at_call 80; refine (number_any HR1.out HX.out.1 HX.out.2 4 (by decide)).mono ?_; rintro e y2 ⟨rfl, hr⟩; have HR2 : Hid (RS w0 y2 q (ck0 1) (sv0) V (st2 V)) := hr; clear hr)
  | (go_at_call 79; refine (word_any HR0.out HX.out.1 HX.out.2).mono ?_; rintro e y1 ⟨rfl, hr⟩; have HR1 : Hid (RS w0 y1 q (ck0 1) (sv0) V (st1 V)) := hr; clear hr))
 go_end0
 exact ⟨⟨_, rfl⟩, HZ.out⟩
theorem valueR_2 {w0 w : World} {q : Nat} {V : List Nat} {F : Nat} (hF : F < 256) (h : RS w0 w q (ck0 2) sv0 V (some 0)) (hA : AllB V) (hV : V.length ≤ 100000) :
  Calls Try.prog 42 #[ptr q, .int .u64 (F : Int)] w (TookIs w0 q (rdPars (hdStart 2 V) (rdRest V (st5 V))) V) := by
 obtain ⟨gi, bv, hg⟩ := h.g
 have c0 : w.cell? ⟨q, 0, none⟩ = some (.int .i64 2) := rv0 hg.hb
 have HX : Hid (AllB V ∧ V.length ≤ 1000000) := ⟨hA, by omega⟩
 have HB : Hid (V.length ≤ 100000) := hV
 have HR0 : Hid (RS w0 w q (ck0 2) sv0 V (some 0)) := h
 clear h hA hV hg
 go_enter Try.func42, Try.ntmps42
 go_wp2_with (first
  | (go_at_call 81; refine (paramsR_any HR10.out HB.out ⟨rfl, rfl⟩).mono ?_; rintro e yz ⟨⟨zz, rfl⟩, hz⟩; have HZ : Hid (∃ s2 st2, RS w0 yz q (rdPars (hdStart 2 V) (rdRest V (st5 V))) s2 V st2) := hz; clear hz)
  | (refine wl_setR HR9.out rfl one22 12 rfl (by first | rfl | go_simp) (by first | rfl | go_simp) rfl rfl (by decide) ({ ck0 2 with tag := (numS V (some 0) 4).2, win := ((numS V (st1 V) 4).2 : Nat), out := ((numS V (st2 V) 2).2 : Nat), inn := ((numS V (st3 V) 2).2 : Nat), tsn := (numS V (st4 V) 4).2 }) (sv0) (fun z => rfl) ⟨HR9.out.own.t, HR9.out.own.r, HR9.out.own.a, HR9.out.own.i, HR9.out.own.g, HR9.out.own.d, HR9.out.own.o⟩ { HR9.out.fit with tsn := numS_u32 HX.out.1 _ } ?_; intro y10 hr; have HR10 : Hid (RS w0 y10 q ({ ck0 2 with tag := (numS V (some 0) 4).2, win := ((numS V (st1 V) 4).2 : Nat), out := ((numS V (st2 V) 2).2 : Nat), inn := ((numS V (st3 V) 2).2 : Nat), tsn := (numS V (st4 V) 4).2 }) (sv0) V (st5 V)) := hr; clear hr)
  | (go_at_call 79; refine (word_any HR8.out HX.out.1 HX.out.2).mono ?_; rintro e y9 ⟨rfl, hr⟩; have HR9 : Hid (RS w0 y9 q ({ ck0 2 with tag := (numS V (some 0) 4).2, win := ((numS V (st1 V) 4).2 : Nat), out := ((numS V (st2 V) 2).2 : Nat), inn := ((numS V (st3 V) 2).2 : Nat) }) (sv0) V (st5 V)) := hr; clear hr)
  | (refine wl_setR HR7.out rfl one3 11 rfl (by first | rfl | go_simp) (by first | rfl | go_simp) rfl rfl (by decide) ({ ck0 2 with tag := (numS V (some 0) 4).2, win := ((numS V (st1 V) 4).2 : Nat), out := ((numS V (st2 V) 2).2 : Nat), inn := ((numS V (st3 V) 2).2 : Nat) }) (sv0) (fun z => rfl) ⟨HR7.out.own.t, HR7.out.own.r, HR7.out.own.a, HR7.out.own.i, HR7.out.own.g, HR7.out.own.d, HR7.out.own.o⟩ { HR7.out.fit with inn := w64_num HX.out.1 _ _ (by decide) } ?_; intro y8 hr; have HR8 : Hid (RS w0 y8 q ({ ck0 2 with tag := (numS V (some 0) 4).2, win := ((numS V (st1 V) 4).2 : Nat), out := ((numS V (st2 V) 2).2 : Nat), inn := ((numS V (st3 V) 2).2 : Nat) }) (sv0) V (st4 V)) := hr; clear hr)
  | (refine wl_setR HR6.out rfl one3 10 rfl (by first | rfl | go_simp) (by first | rfl | go_simp) rfl rfl (by decide) ({ ck0 2 with tag := (numS V (some 0) 4).2, win := ((numS V (st1 V) 4).2 : Nat), out := ((numS V (st2 V) 2).2 : Nat) }) (sv0) (fun z => rfl) ⟨HR6.out.own.t, HR6.out.own.r, HR6.out.own.a, HR6.out.own.i, HR6.out.own.g, HR6.out.own.d, HR6.out.own.o⟩ { HR6.out.fit with out := w64_num HX.out.1 _ _ (by decide) } ?_; intro y7 hr; have HR7 : Hid (RS w0 y7 q ({ ck0 2 with tag := (numS V (some 0) 4).2, win := ((numS V (st1 V) 4).2 : Nat), out := ((numS V (st2 V) 2).2 : Nat) }) (sv0) V (st4 V)) := hr; clear hr)
  | (go_at_call 80; refine (number_any HR5.out HX.out.1 HX.out.2 2 (by decide)).mono ?_; rintro e y6 ⟨rfl, hr⟩; have HR6 : Hid (RS w0 y6 q ({ ck0 2 with tag := (numS V (some 0) 4).2, win := ((numS V (st1 V) 4).2 : Nat) }) (sv0) V (st4 V)) := hr; clear hr)
  | (go_at_call 80; refine (number_any HR4.out HX.out.1 HX.out.2 2 (by decide)).mono ?_; rintro e y5 ⟨rfl, hr⟩; have HR5 : Hid (RS w0 y5 q ({ ck0 2 with tag := (numS V (some 0) 4).2, win := ((numS V (st1 V) 4).2 : Nat) }) (sv0) V (st3 V)) := hr; clear hr)
  | (refine wl_setR HR3.out rfl one3 9 rfl (by first | rfl | go_simp) (by first | rfl | go_simp) rfl rfl (by decide) ({ ck0 2 with tag := (numS V (some 0) 4).2, win := ((numS V (st1 V) 4).2 : Nat) }) (sv0) (fun z => rfl) ⟨HR3.out.own.t, HR3.out.own.r, HR3.out.own.a, HR3.out.own.i, HR3.out.own.g, HR3.out.own.d, HR3.out.own.o⟩ { HR3.out.fit with win := w64_num HX.out.1 _ _ (by decide) } ?_; intro y4 hr; have HR4 : Hid (RS w0 y4 q ({ ck0 2 with tag := (numS V (some 0) 4).2, win := ((numS V (st1 V) 4).2 : Nat) }) (sv0) V (st2 V)) := hr; clear hr)
  | (refine wl_setR HR2.out rfl one22 8 rfl (by first | rfl | go_simp) (by first | rfl | go_simp) rfl rfl (by decide) ({ ck0 2 with tag := (numS V (some 0) 4).2 }) (sv0) (fun z => rfl) ⟨HR2.out.own.t, HR2.out.own.r, HR2.out.own.a, HR2.out.own.i, HR2.out.own.g, HR2.out.own.d, HR2.out.own.o⟩ { HR2.out.fit with tag := numS_u32 HX.out.1 _ } ?_; intro y3 hr; have HR3 : Hid (RS w0 y3 q ({ ck0 2 with tag := (numS V (some 0) 4).2 }) (sv0) V (st2 V)) := hr; clear hr)
  | (go_at_call 80; refine (number_any HR1.out HX.out.1 HX.out.2 4 (by decide)).mono ?_; rintro e y2 ⟨rfl, hr⟩; have HR2 : Hid (RS w0 y2 q (ck0 2) (sv0) V (st2 V)) := hr; clear hr)
  | (go_at_call 79; refine (word_any HR0.out HX.out.1 HX.out.2).mono ?_; rintro e y1 ⟨rfl, hr⟩; have HR1 : Hid (RS w0 y1 q (ck0 2) (sv0) V (st1 V)) := hr; clear hr))
 go_end0
 exact ⟨⟨_, rfl⟩, HZ.out⟩
theorem value_anyR {w0 w : World} {q : Nat} {V : List Nat} {F k : Nat} (hF : F < 256) (h : RS w0 w q (ck0 (k : Int)) sv0 V (some 0)) (hA : AllB V) (hV : V.length ≤ 100000) :
  Calls Try.prog 42 #[ptr q, .int .u64 (F : Int)] w (TookIs w0 q (rdC (k : Int) F V) V) := by
 have hV1 : V.length ≤ 1000000 := by omega
 by_cases k0 : k = 0
 ·
  subst k0
  rw [show ((0 : Nat) : Int) = 0 from rfl] at h ⊢
  rw [rdC, if_pos (by decide)]
  exact valueR_0 hF h hA hV
 by_cases k1 : k = 1
 ·
  subst k1
  rw [show ((1 : Nat) : Int) = 1 from rfl] at h ⊢
  rw [rdC, if_neg (by decide), if_pos (by decide)]
  exact valueR_1 hF h hA hV
 by_cases k2 : k = 2
 ·
  subst k2
  rw [show ((2 : Nat) : Int) = 2 from rfl] at h ⊢
  rw [rdC, if_neg (by decide), if_pos (by decide)]
  exact valueR_2 hF h hA hV
 by_cases k3 : k = 3
 ·
  subst k3
  rw [show ((3 : Nat) : Int) = 3 from rfl] at h ⊢
  rw [rdC, if_neg (by decide), if_neg (by decide), if_pos (by decide)]
  exact valueR_3 hF h hA hV
 by_cases k4 : k = 4
 ·
  subst k4
  rw [show ((4 : Nat) : Int) = 4 from rfl] at h ⊢
  rw [rdC, if_neg (by decide), if_neg (by decide), if_neg (by decide), if_pos (by decide)]
  exact valueR_4 hF h hA hV
 by_cases k5 : k = 5
 ·
  subst k5
  rw [show ((5 : Nat) : Int) = 5 from rfl] at h ⊢
  rw [rdC, if_neg (by decide), if_neg (by decide), if_neg (by decide), if_pos (by decide)]
  exact valueR_5 hF h hA hV
 by_cases k6 : k = 6
 ·
  subst k6
  rw [show ((6 : Nat) : Int) = 6 from rfl] at h ⊢
  rw [rdC, if_neg (by decide), if_neg (by decide), if_neg (by decide), if_neg (by decide), if_pos (by decide)]
  exact valueR_6 h hA hV1
 by_cases k7 : k = 7
 ·
  subst k7
  rw [show ((7 : Nat) : Int) = 7 from rfl] at h ⊢
  rw [rdC, if_neg (by decide), if_neg (by decide), if_neg (by decide), if_neg (by decide), if_neg (by decide), if_pos (by decide)]
  exact valueR_7 h hA hV1
 by_cases k9 : k = 9
 ·
  subst k9
  rw [show ((9 : Nat) : Int) = 9 from rfl] at h ⊢
  rw [rdC, if_neg (by decide), if_neg (by decide), if_neg (by decide), if_neg (by decide), if_pos (by decide)]
  exact valueR_9 h hA hV1
 by_cases k10 : k = 10
 ·
  subst k10
  rw [show ((10 : Nat) : Int) = 10 from rfl] at h ⊢
  rw [rdC, if_neg (by decide), if_neg (by decide), if_neg (by decide), if_neg (by decide), if_neg (by decide), if_neg (by decide), if_pos (by decide)]
  exact valueR_10 h hA hV1
 by_cases k15 : k = 15
 ·
  subst k15
  rw [show ((15 : Nat) : Int) = 15 from rfl] at h ⊢
  rw [rdC, if_neg (by decide), if_neg (by decide), if_neg (by decide), if_neg (by decide), if_neg (by decide), if_neg (by decide), if_pos (by decide)]
  exact valueR_15 h hA hV1
 by_cases k128 : k = 128
 ·
  subst k128
  rw [show ((128 : Nat) : Int) = 128 from rfl] at h ⊢
  rw [rdC, if_neg (by decide), if_neg (by decide), if_neg (by decide), if_neg (by decide), if_neg (by decide), if_neg (by decide), if_neg (by decide), if_neg (by decide), if_pos (by decide)]
  exact valueR_128 h hA hV1
 by_cases k193 : k = 193
 ·
  subst k193
  rw [show ((193 : Nat) : Int) = 193 from rfl] at h ⊢
  rw [rdC, if_neg (by decide), if_neg (by decide), if_neg (by decide), if_neg (by decide), if_neg (by decide), if_neg (by decide), if_neg (by decide), if_pos (by decide)]
  exact valueR_193 hF h hA hV
 have e : rdC (k : Int) F V = ck0 (k : Int) := by
  rw [rdC, if_neg (by omega), if_neg (by omega), if_neg (by omega), if_neg (by omega), if_neg (by omega), if_neg (by omega), if_neg (by omega), if_neg (by omega), if_neg (by omega)]
 rw [e]
 exact valueR_no h (show (k : Int) ≠ 0 by omega) (show (k : Int) ≠ 1 by omega) (show (k : Int) ≠ 2 by omega) (show (k : Int) ≠ 3 by omega) (show (k : Int) ≠ 4 by omega) (show (k : Int) ≠ 5 by omega) (show (k : Int) ≠ 10 by omega) (show (k : Int) ≠ 15 by omega) (show (k : Int) ≠ 6 by omega) (show (k : Int) ≠ 9 by omega) (show (k : Int) ≠ 7 by omega) (show (k : Int) ≠ 193 by omega) (show (k : Int) ≠ 128 by omega)
theorem hdV_len {B : List Nat} (h : AllB B) : (hdV B).length ≤ 65535 := by
 unfold hdV
 have hL : hdL B < 65536 := numS2_lt h _
 unfold takeS
 cases hdS3 B with
 | none => simp
 | some a =>
  simp only
  split
  ·
   rw [List.length_take]; omega
  ·
   simp
theorem readC_any {w : World} {v : Value} {B : List Nat} (hv : BytesAt w v B) (hB : B.length ≤ 1000000) :
  Calls Try.prog 17 #[v] w (ReadIs w B (rdC (hdK B : Int) (hdF B) (hdV B))) :=
 readC_of hv hB _ fun w0 w' q h => value_anyR (numS_u8 hv.1 _) h (takeS_all hv.1 _ _) (Nat.le_trans (hdV_len hv.1) (by decide))
end Tlv
end Go.Proofs.Ytigocaconkbalaa
