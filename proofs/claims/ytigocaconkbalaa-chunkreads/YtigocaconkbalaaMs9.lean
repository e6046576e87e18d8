/- Texts of the seat, one behind the other. No condition of its own. -/
import Derived.Test.YtigocaconkbalaaMs8
set_option linter.unusedVariables false
set_option linter.unusedSimpArgs false
set_option maxHeartbeats 32000000
set_option maxRecDepth 100000
namespace Go.Proofs.Ytigocaconkbalaa
namespace Tlv
open Go Go.RowKit
theorem w64_num {B : List Nat} (h : AllB B) (s : Option Nat) (n : Int) (hn : n = 1 ∨ n = 2 ∨ n = 4) : W64 (((numS B s n).2 : Nat) : Int) := by
 have := numS_le h s n hn
 unfold W64; constructor <;> omega
theorem fl_1 : ∀ F : Fin 256, (bits .and .u64 ((F.val : Nat) : Int) 1 != 0) = decide (F.val % 2 = 1) := by decide +kernel
theorem fl_2 : ∀ F : Fin 256, (bits .and .u64 ((F.val : Nat) : Int) 2 != 0) = decide (F.val / 2 % 2 = 1) := by decide +kernel
theorem fl_4 : ∀ F : Fin 256, (bits .and .u64 ((F.val : Nat) : Int) 4 != 0) = decide (F.val / 4 % 2 = 1) := by decide +kernel
theorem num2_u16 {B : List Nat} (h : AllB B) (s : Option Nat) : IntKind.u16.wrap (((numS B s 2).2 : Nat) : Int) = (((numS B s 2).2 : Nat) : Int) := by
 have := numS2_lt h s
 rw [IntKind.wrap_u16]; omega
def TookIs (w0 : World) (q : Nat) (d : Ck) (V : List Nat) (e : Ending) (w' : World) : Prop := (∃ y, e = .returned y) ∧ ∃ s' st', RS w0 w' q d s' V st'
theorem piece_any {w0 w : World} {q : Nat} {V : List Nat} {F : Nat} (hF : F < 256) (h : RS w0 w q (ck0 0) sv0 V (some 0)) (hA : AllB V) (hV : V.length ≤ 1000000) :
  Calls Try.prog 78 #[ptr q, .int .u64 (F : Int)] w (TookIs w0 q (rdPiece F V) V) := by
 have HX : Hid (AllB V ∧ V.length ≤ 1000000) := ⟨hA, hV⟩
 have HR0 : Hid (RS w0 w q (ck0 0) sv0 V (some 0)) := h
 have b1 : (bits .and .u64 (F : Int) 1 != 0) = decide (F % 2 = 1) := fl_1 ⟨F, hF⟩
 have b2 : (bits .and .u64 (F : Int) 2 != 0) = decide (F / 2 % 2 = 1) := fl_2 ⟨F, hF⟩
 have b4 : (bits .and .u64 (F : Int) 4 != 0) = decide (F / 4 % 2 = 1) := fl_4 ⟨F, hF⟩
 have u1 := num2_u16 hA (numS V (some 0) 4).1
 have u2 := num2_u16 hA (numS V (numS V (some 0) 4).1 2).1
 clear h hA hV hF
 go_enter Try.func78, Try.ntmps78
 refine wp_seq_k (fun K0 hK => ?_)
 have HK0 := Stop.mk hK
 clear hK
 go_wp2_with (first
  | (refine wl_setR HR0.out rfl one4 5 rfl (by first | rfl | go_simp) (by first | rfl | go_simp) rfl rfl (by decide) ({ ck0 0 with pe := decide (F % 2 = 1) }) (sv0) (fun z => rfl) ⟨HR0.out.own.t, HR0.out.own.r, HR0.out.own.a, HR0.out.own.i, HR0.out.own.g, HR0.out.own.d, HR0.out.own.o⟩ { HR0.out.fit with } ?_; intro y1 hr; have HR1 : Hid (RS w0 y1 q ({ ck0 0 with pe := decide (F % 2 = 1) }) (sv0) V (some 0)) := hr; clear hr))
 refine HK0.go _ _ ?_
 clear HK0
 refine wp_seq_k (fun K1 hK => ?_)
 have HK1 := Stop.mk hK
 clear hK
 go_wp2_with (first
  | (refine wl_setR HR1.out rfl one4 4 rfl (by first | rfl | go_simp) (by first | rfl | go_simp) rfl rfl (by decide) ({ ck0 0 with pe := decide (F % 2 = 1), pb := decide (F / 2 % 2 = 1) }) (sv0) (fun z => rfl) ⟨HR1.out.own.t, HR1.out.own.r, HR1.out.own.a, HR1.out.own.i, HR1.out.own.g, HR1.out.own.d, HR1.out.own.o⟩ { HR1.out.fit with } ?_; intro y2 hr; have HR2 : Hid (RS w0 y2 q ({ ck0 0 with pe := decide (F % 2 = 1), pb := decide (F / 2 % 2 = 1) }) (sv0) V (some 0)) := hr; clear hr))
 refine HK1.go _ _ ?_
 clear HK1
 refine wp_seq_k (fun K2 hK => ?_)
 have HK2 := Stop.mk hK
 clear hK
 go_wp2_with (first
  | (refine wl_setR HR2.out rfl one4 6 rfl (by first | rfl | go_simp) (by first | rfl | go_simp) rfl rfl (by decide) ({ ck0 0 with pe := decide (F % 2 = 1), pb := decide (F / 2 % 2 = 1), pu := decide (F / 4 % 2 = 1) }) (sv0) (fun z => rfl) ⟨HR2.out.own.t, HR2.out.own.r, HR2.out.own.a, HR2.out.own.i, HR2.out.own.g, HR2.out.own.d, HR2.out.own.o⟩ { HR2.out.fit with } ?_; intro y3 hr; have HR3 : Hid (RS w0 y3 q ({ ck0 0 with pe := decide (F % 2 = 1), pb := decide (F / 2 % 2 = 1), pu := decide (F / 4 % 2 = 1) }) (sv0) V (some 0)) := hr; clear hr))
 refine HK2.go _ _ ?_
 clear HK2
 refine wp_seq_k (fun K3 hK => ?_)
 have HK3 := Stop.mk hK
 clear hK
 go_wp2_with (first
  | (refine wl_setR HR4.out rfl one22 1 rfl (by first | rfl | go_simp) (by first | rfl | go_simp) rfl rfl (by decide) ({ ck0 0 with pe := decide (F % 2 = 1), pb := decide (F / 2 % 2 = 1), pu := decide (F / 4 % 2 = 1), ptsn := (numS V (some 0) 4).2 }) (sv0) (fun z => rfl) ⟨HR4.out.own.t, HR4.out.own.r, HR4.out.own.a, HR4.out.own.i, HR4.out.own.g, HR4.out.own.d, HR4.out.own.o⟩ { HR4.out.fit with ptsn := numS_u32 HX.out.1 _ } ?_; intro y5 hr; have HR5 : Hid (RS w0 y5 q ({ ck0 0 with pe := decide (F % 2 = 1), pb := decide (F / 2 % 2 = 1), pu := decide (F / 4 % 2 = 1), ptsn := (numS V (some 0) 4).2 }) (sv0) V ((numS V (some 0) 4).1)) := hr; clear hr)
  | (go_at_call 79; refine (word_any HR3.out HX.out.1 HX.out.2).mono ?_; rintro e y4 ⟨rfl, hr⟩; have HR4 : Hid (RS w0 y4 q ({ ck0 0 with pe := decide (F % 2 = 1), pb := decide (F / 2 % 2 = 1), pu := decide (F / 4 % 2 = 1) }) (sv0) V ((numS V (some 0) 4).1)) := hr; clear hr))
 refine HK3.go _ _ ?_
 clear HK3
 refine wp_seq_k (fun K4 hK => ?_)
 have HK4 := Stop.mk hK
 clear hK
 go_wp2_with (first
  | (refine wl_setR HR8.out rfl one23 3 rfl (by first | rfl | go_simp) (by first | rfl | go_simp) rfl rfl (by decide) ({ ck0 0 with pe := decide (F % 2 = 1), pb := decide (F / 2 % 2 = 1), pu := decide (F / 4 % 2 = 1), ptsn := (numS V (some 0) 4).2, pstr := (numS V (numS V (some 0) 4).1 2).2, pseq := (numS V (numS V (numS V (some 0) 4).1 2).1 2).2 }) (sv0) (fun z => rfl) ⟨HR8.out.own.t, HR8.out.own.r, HR8.out.own.a, HR8.out.own.i, HR8.out.own.g, HR8.out.own.d, HR8.out.own.o⟩ { HR8.out.fit with pseq := numS2_lt HX.out.1 _ } ?_; intro y9 hr; have HR9 : Hid (RS w0 y9 q ({ ck0 0 with pe := decide (F % 2 = 1), pb := decide (F / 2 % 2 = 1), pu := decide (F / 4 % 2 = 1), ptsn := (numS V (some 0) 4).2, pstr := (numS V (numS V (some 0) 4).1 2).2, pseq := (numS V (numS V (numS V (some 0) 4).1 2).1 2).2 }) (sv0) V ((numS V (numS V (numS V (some 0) 4).1 2).1 2).1)) := hr; clear hr)
  | (refine wl_setR HR7.out rfl one23 2 rfl (by first | rfl | go_simp) (by first | rfl | go_simp) rfl rfl (by decide) ({ ck0 0 with pe := decide (F % 2 = 1), pb := decide (F / 2 % 2 = 1), pu := decide (F / 4 % 2 = 1), ptsn := (numS V (some 0) 4).2, pstr := (numS V (numS V (some 0) 4).1 2).2 }) (sv0) (fun z => rfl) ⟨HR7.out.own.t, HR7.out.own.r, HR7.out.own.a, HR7.out.own.i, HR7.out.own.g, HR7.out.own.d, HR7.out.own.o⟩ { HR7.out.fit with pstr := numS2_lt HX.out.1 _ } ?_; intro y8 hr; have HR8 : Hid (RS w0 y8 q ({ ck0 0 with pe := decide (F % 2 = 1), pb := decide (F / 2 % 2 = 1), pu := decide (F / 4 % 2 = 1), ptsn := (numS V (some 0) 4).2, pstr := (numS V (numS V (some 0) 4).1 2).2 }) (sv0) V ((numS V (numS V (numS V (some 0) 4).1 2).1 2).1)) := hr; clear hr)
  | (go_at_call 80; refine (number_any HR6.out HX.out.1 HX.out.2 2 (by decide)).mono ?_; rintro e y7 ⟨rfl, hr⟩; have HR7 : Hid (RS w0 y7 q ({ ck0 0 with pe := decide (F % 2 = 1), pb := decide (F / 2 % 2 = 1), pu := decide (F / 4 % 2 = 1), ptsn := (numS V (some 0) 4).2 }) (sv0) V ((numS V (numS V (numS V (some 0) 4).1 2).1 2).1)) := hr; clear hr)
  | (go_at_call 80; refine (number_any HR5.out HX.out.1 HX.out.2 2 (by decide)).mono ?_; rintro e y6 ⟨rfl, hr⟩; have HR6 : Hid (RS w0 y6 q ({ ck0 0 with pe := decide (F % 2 = 1), pb := decide (F / 2 % 2 = 1), pu := decide (F / 4 % 2 = 1), ptsn := (numS V (some 0) 4).2 }) (sv0) V ((numS V (numS V (some 0) 4).1 2).1)) := hr; clear hr))
 refine HK4.go _ _ ?_
 clear HK4
 go_wp2_with (first
  | (refine wl_setR HR10.out rfl oneS 7 rfl (by first | rfl | go_simp) (by first | rfl | go_simp) rfl rfl (by decide) ({ ck0 0 with pe := decide (F % 2 = 1), pb := decide (F / 2 % 2 = 1), pu := decide (F / 4 % 2 = 1), ptsn := (numS V (some 0) 4).2, pstr := (numS V (numS V (some 0) 4).1 2).2, pseq := (numS V (numS V (numS V (some 0) 4).1 2).1 2).2, text := rdRest V ((numS V (numS V (numS V (some 0) 4).1 2).1 2).1) }) ({ sv0 with tA := ra, tN := (rdRest V ((numS V (numS V (numS V (some 0) 4).1 2).1 2).1)).length, tC := rc }) (fun z => rfl) ⟨HO10.out, HR10.out.own.r, HR10.out.own.a, HR10.out.own.i, HR10.out.own.g, HR10.out.own.d, HR10.out.own.o⟩ { HR10.out.fit with } ?_; intro y11 hr; have HR11 : Hid (RS w0 y11 q ({ ck0 0 with pe := decide (F % 2 = 1), pb := decide (F / 2 % 2 = 1), pu := decide (F / 4 % 2 = 1), ptsn := (numS V (some 0) 4).2, pstr := (numS V (numS V (some 0) 4).1 2).2, pseq := (numS V (numS V (numS V (some 0) 4).1 2).1 2).2, text := rdRest V ((numS V (numS V (numS V (some 0) 4).1 2).1 2).1) }) ({ sv0 with tA := ra, tN := (rdRest V ((numS V (numS V (numS V (some 0) 4).1 2).1 2).1)).length, tC := rc }) V (rdRestS V ((numS V (numS V (numS V (some 0) 4).1 2).1 2).1))) := hr; clear hr)
  | (go_at_call 83; refine (rest_any HR9.out HX.out.2).mono ?_; rintro e y10 ⟨ra, rc, rfl, ho, hr⟩; have HO10 : Hid (OB y10 w0.heap.size (.slice ra (rdRest V ((numS V (numS V (numS V (some 0) 4).1 2).1 2).1)).length rc) (rdRest V ((numS V (numS V (numS V (some 0) 4).1 2).1 2).1))) := ho; have HR10 : Hid (RS w0 y10 q ({ ck0 0 with pe := decide (F % 2 = 1), pb := decide (F / 2 % 2 = 1), pu := decide (F / 4 % 2 = 1), ptsn := (numS V (some 0) 4).2, pstr := (numS V (numS V (some 0) 4).1 2).2, pseq := (numS V (numS V (numS V (some 0) 4).1 2).1 2).2 }) (sv0) V (rdRestS V ((numS V (numS V (numS V (some 0) 4).1 2).1 2).1))) := hr; clear hr ho))
 go_end0
 exact ⟨⟨_, rfl⟩, _, _, HR11.out⟩
theorem valueR_6 {w0 w : World} {q : Nat} {V : List Nat} {F : Int} (h : RS w0 w q (ck0 6) sv0 V (some 0)) (hA : AllB V) (hV : V.length ≤ 1000000) :
  Calls Try.prog 42 #[ptr q, .int .u64 F] w (TookIs w0 q ({ ck0 6 with cause := ((numS V (some 0) 2).2 : Nat) }) V) := by
 obtain ⟨gi, bv, hg⟩ := h.g
 have c0 : w.cell? ⟨q, 0, none⟩ = some (.int .i64 6) := rv0 hg.hb
 have HX : Hid (AllB V ∧ V.length ≤ 1000000) := ⟨hA, hV⟩
 have HR0 : Hid (RS w0 w q (ck0 6) sv0 V (some 0)) := h
 clear h hA hV hg
 go_enter Try.func42, Try.ntmps42
 go_wp2_with (first
  | (refine wl_setR HR1.out rfl one3 18 rfl (by first | rfl | go_simp) (by first | rfl | go_simp) rfl rfl (by decide) ({ ck0 6 with cause := ((numS V (some 0) 2).2 : Nat) }) (sv0) (fun z => rfl) ⟨HR1.out.own.t, HR1.out.own.r, HR1.out.own.a, HR1.out.own.i, HR1.out.own.g, HR1.out.own.d, HR1.out.own.o⟩ { HR1.out.fit with cause := w64_num HX.out.1 _ _ (by decide) } ?_; intro y2 hr; have HR2 : Hid (RS w0 y2 q ({ ck0 6 with cause := ((numS V (some 0) 2).2 : Nat) }) (sv0) V ((numS V (some 0) 2).1)) := hr; clear hr)
  | (go_at_call 80; refine (number_any HR0.out HX.out.1 HX.out.2 2 (by decide)).mono ?_; rintro e y1 ⟨rfl, hr⟩; have HR1 : Hid (RS w0 y1 q (ck0 6) (sv0) V ((numS V (some 0) 2).1)) := hr; clear hr))
 go_end0
 exact ⟨⟨_, rfl⟩, _, _, HR2.out⟩
theorem valueR_9 {w0 w : World} {q : Nat} {V : List Nat} {F : Int} (h : RS w0 w q (ck0 9) sv0 V (some 0)) (hA : AllB V) (hV : V.length ≤ 1000000) :
  Calls Try.prog 42 #[ptr q, .int .u64 F] w (TookIs w0 q ({ ck0 9 with cause := ((numS V (some 0) 2).2 : Nat) }) V) := by
 obtain ⟨gi, bv, hg⟩ := h.g
 have c0 : w.cell? ⟨q, 0, none⟩ = some (.int .i64 9) := rv0 hg.hb
 have HX : Hid (AllB V ∧ V.length ≤ 1000000) := ⟨hA, hV⟩
 have HR0 : Hid (RS w0 w q (ck0 9) sv0 V (some 0)) := h
 clear h hA hV hg
 go_enter Try.func42, Try.ntmps42
 go_wp2_with (first
  | (refine wl_setR HR1.out rfl one3 18 rfl (by first | rfl | go_simp) (by first | rfl | go_simp) rfl rfl (by decide) ({ ck0 9 with cause := ((numS V (some 0) 2).2 : Nat) }) (sv0) (fun z => rfl) ⟨HR1.out.own.t, HR1.out.own.r, HR1.out.own.a, HR1.out.own.i, HR1.out.own.g, HR1.out.own.d, HR1.out.own.o⟩ { HR1.out.fit with cause := w64_num HX.out.1 _ _ (by decide) } ?_; intro y2 hr; have HR2 : Hid (RS w0 y2 q ({ ck0 9 with cause := ((numS V (some 0) 2).2 : Nat) }) (sv0) V ((numS V (some 0) 2).1)) := hr; clear hr)
  | (go_at_call 80; refine (number_any HR0.out HX.out.1 HX.out.2 2 (by decide)).mono ?_; rintro e y1 ⟨rfl, hr⟩; have HR1 : Hid (RS w0 y1 q (ck0 9) (sv0) V ((numS V (some 0) 2).1)) := hr; clear hr))
 go_end0
 exact ⟨⟨_, rfl⟩, _, _, HR2.out⟩
theorem valueR_7 {w0 w : World} {q : Nat} {V : List Nat} {F : Int} (h : RS w0 w q (ck0 7) sv0 V (some 0)) (hA : AllB V) (hV : V.length ≤ 1000000) :
  Calls Try.prog 42 #[ptr q, .int .u64 F] w (TookIs w0 q ({ ck0 7 with tsn := (numS V (some 0) 4).2 }) V) := by
 obtain ⟨gi, bv, hg⟩ := h.g
 have c0 : w.cell? ⟨q, 0, none⟩ = some (.int .i64 7) := rv0 hg.hb
 have HX : Hid (AllB V ∧ V.length ≤ 1000000) := ⟨hA, hV⟩
 have HR0 : Hid (RS w0 w q (ck0 7) sv0 V (some 0)) := h
 clear h hA hV hg
 go_enter Try.func42, Try.ntmps42
 go_wp2_with (first
  | (refine wl_setR HR1.out rfl one22 12 rfl (by first | rfl | go_simp) (by first | rfl | go_simp) rfl rfl (by decide) ({ ck0 7 with tsn := (numS V (some 0) 4).2 }) (sv0) (fun z => rfl) ⟨HR1.out.own.t, HR1.out.own.r, HR1.out.own.a, HR1.out.own.i, HR1.out.own.g, HR1.out.own.d, HR1.out.own.o⟩ { HR1.out.fit with tsn := numS_u32 HX.out.1 _ } ?_; intro y2 hr; have HR2 : Hid (RS w0 y2 q ({ ck0 7 with tsn := (numS V (some 0) 4).2 }) (sv0) V ((numS V (some 0) 4).1)) := hr; clear hr)
  | (go_at_call 79; refine (word_any HR0.out HX.out.1 HX.out.2).mono ?_; rintro e y1 ⟨rfl, hr⟩; have HR1 : Hid (RS w0 y1 q (ck0 7) (sv0) V ((numS V (some 0) 4).1)) := hr; clear hr))
 go_end0
 exact ⟨⟨_, rfl⟩, _, _, HR2.out⟩
theorem valueR_10 {w0 w : World} {q : Nat} {V : List Nat} {F : Int} (h : RS w0 w q (ck0 10) sv0 V (some 0)) (hA : AllB V) (hV : V.length ≤ 1000000) :
  Calls Try.prog 42 #[ptr q, .int .u64 F] w (TookIs w0 q ({ ck0 10 with info := rdRest V (some 0) }) V) := by
 obtain ⟨gi, bv, hg⟩ := h.g
 have c0 : w.cell? ⟨q, 0, none⟩ = some (.int .i64 10) := rv0 hg.hb
 have HX : Hid (AllB V ∧ V.length ≤ 1000000) := ⟨hA, hV⟩
 have HR0 : Hid (RS w0 w q (ck0 10) sv0 V (some 0)) := h
 clear h hA hV hg
 go_enter Try.func42, Try.ntmps42
 go_wp2_with (first
  | (refine wl_setR HR1.out rfl oneS 15 rfl (by first | rfl | go_simp) (by first | rfl | go_simp) rfl rfl (by decide) ({ ck0 10 with info := rdRest V (some 0) }) ({ sv0 with iA := ra, iN := (rdRest V (some 0)).length, iC := rc }) (fun z => rfl) ⟨HR1.out.own.t, HR1.out.own.r, HR1.out.own.a, HO1.out, HR1.out.own.g, HR1.out.own.d, HR1.out.own.o⟩ { HR1.out.fit with } ?_; intro y2 hr; have HR2 : Hid (RS w0 y2 q ({ ck0 10 with info := rdRest V (some 0) }) ({ sv0 with iA := ra, iN := (rdRest V (some 0)).length, iC := rc }) V (rdRestS V (some 0))) := hr; clear hr)
  | (go_at_call 83; refine (rest_any HR0.out HX.out.2).mono ?_; rintro e y1 ⟨ra, rc, rfl, ho, hr⟩; have HO1 : Hid (OB y1 w0.heap.size (.slice ra (rdRest V (some 0)).length rc) (rdRest V (some 0))) := ho; have HR1 : Hid (RS w0 y1 q (ck0 10) (sv0) V (rdRestS V (some 0))) := hr; clear hr ho))
 go_end0
 exact ⟨⟨_, rfl⟩, _, _, HR2.out⟩
theorem valueR_15 {w0 w : World} {q : Nat} {V : List Nat} {F : Int} (h : RS w0 w q (ck0 15) sv0 V (some 0)) (hA : AllB V) (hV : V.length ≤ 1000000) :
  Calls Try.prog 42 #[ptr q, .int .u64 F] w (TookIs w0 q ({ ck0 15 with info := rdRest V (some 0) }) V) := by
 obtain ⟨gi, bv, hg⟩ := h.g
 have c0 : w.cell? ⟨q, 0, none⟩ = some (.int .i64 15) := rv0 hg.hb
 have HX : Hid (AllB V ∧ V.length ≤ 1000000) := ⟨hA, hV⟩
 have HR0 : Hid (RS w0 w q (ck0 15) sv0 V (some 0)) := h
 clear h hA hV hg
 go_enter Try.func42, Try.ntmps42
 go_wp2_with (first
  | (refine wl_setR HR1.out rfl oneS 15 rfl (by first | rfl | go_simp) (by first | rfl | go_simp) rfl rfl (by decide) ({ ck0 15 with info := rdRest V (some 0) }) ({ sv0 with iA := ra, iN := (rdRest V (some 0)).length, iC := rc }) (fun z => rfl) ⟨HR1.out.own.t, HR1.out.own.r, HR1.out.own.a, HO1.out, HR1.out.own.g, HR1.out.own.d, HR1.out.own.o⟩ { HR1.out.fit with } ?_; intro y2 hr; have HR2 : Hid (RS w0 y2 q ({ ck0 15 with info := rdRest V (some 0) }) ({ sv0 with iA := ra, iN := (rdRest V (some 0)).length, iC := rc }) V (rdRestS V (some 0))) := hr; clear hr)
  | (go_at_call 83; refine (rest_any HR0.out HX.out.2).mono ?_; rintro e y1 ⟨ra, rc, rfl, ho, hr⟩; have HO1 : Hid (OB y1 w0.heap.size (.slice ra (rdRest V (some 0)).length rc) (rdRest V (some 0))) := ho; have HR1 : Hid (RS w0 y1 q (ck0 15) (sv0) V (rdRestS V (some 0))) := hr; clear hr ho))
 go_end0
 exact ⟨⟨_, rfl⟩, _, _, HR2.out⟩
theorem valueR_128 {w0 w : World} {q : Nat} {V : List Nat} {F : Int} (h : RS w0 w q (ck0 128) sv0 V (some 0)) (hA : AllB V) (hV : V.length ≤ 1000000) :
  Calls Try.prog 42 #[ptr q, .int .u64 F] w (TookIs w0 q ({ ck0 128 with serial := (numS V (some 0) 4).2, ok := decide ((numS V (st1 V) 4).2 = 1) }) V) := by
 obtain ⟨gi, bv, hg⟩ := h.g
 have c0 : w.cell? ⟨q, 0, none⟩ = some (.int .i64 128) := rv0 hg.hb
 have HX : Hid (AllB V ∧ V.length ≤ 1000000) := ⟨hA, hV⟩
 have HR0 : Hid (RS w0 w q (ck0 128) sv0 V (some 0)) := h
 have q1 : ((((numS V (st1 V) 4).2 : Nat) : Int) == 1) = decide ((numS V (st1 V) 4).2 = 1) := by rw [Bool.eq_iff_iff]; simp; omega
 clear h hA hV hg
 go_enter Try.func42, Try.ntmps42
 go_wp2_with (first
  | (refine wl_setR HR3.out rfl one4 21 rfl (by first | rfl | go_simp) (by first | rfl | go_simp) rfl rfl (by decide) ({ ck0 128 with serial := (numS V (some 0) 4).2, ok := decide ((numS V (st1 V) 4).2 = 1) }) (sv0) (fun z => rfl) ⟨HR3.out.own.t, HR3.out.own.r, HR3.out.own.a, HR3.out.own.i, HR3.out.own.g, HR3.out.own.d, HR3.out.own.o⟩ { HR3.out.fit with } ?_; intro y4 hr; have HR4 : Hid (RS w0 y4 q ({ ck0 128 with serial := (numS V (some 0) 4).2, ok := decide ((numS V (st1 V) 4).2 = 1) }) (sv0) V (st2 V)) := hr; clear hr)
  | (refine wl_setR HR2.out rfl one22 19 rfl (by first | rfl | go_simp) (by first | rfl | go_simp) rfl rfl (by decide) ({ ck0 128 with serial := (numS V (some 0) 4).2 }) (sv0) (fun z => rfl) ⟨HR2.out.own.t, HR2.out.own.r, HR2.out.own.a, HR2.out.own.i, HR2.out.own.g, HR2.out.own.d, HR2.out.own.o⟩ { HR2.out.fit with serial := numS_u32 HX.out.1 _ } ?_; intro y3 hr; have HR3 : Hid (RS w0 y3 q ({ ck0 128 with serial := (numS V (some 0) 4).2 }) (sv0) V (st2 V)) := hr; clear hr)
  | (go_at_call 80; refine (number_any HR1.out HX.out.1 HX.out.2 4 (by decide)).mono ?_; rintro e y2 ⟨rfl, hr⟩; have HR2 : Hid (RS w0 y2 q (ck0 128) (sv0) V (st2 V)) := hr; clear hr)
  | (go_at_call 79; refine (word_any HR0.out HX.out.1 HX.out.2).mono ?_; rintro e y1 ⟨rfl, hr⟩; have HR1 : Hid (RS w0 y1 q (ck0 128) (sv0) V (st1 V)) := hr; clear hr))
 go_end0
 exact ⟨⟨_, rfl⟩, _, _, HR4.out⟩
abbrev nb_0 (c d : Ck) : Bool := ((c.kind != d.kind) || ((c.tag : Int) != (d.tag : Int)))
abbrev nb_1 (c d : Ck) : Bool := ((nb_0 c d) || (c.win != d.win))
abbrev nb_2 (c d : Ck) : Bool := ((nb_1 c d) || (c.out != d.out))
abbrev nb_3 (c d : Ck) : Bool := ((nb_2 c d) || (c.inn != d.inn))
abbrev nb_4 (c d : Ck) : Bool := ((nb_3 c d) || ((c.tsn : Int) != (d.tsn : Int)))
abbrev nb_5 (c d : Ck) : Bool := ((nb_4 c d) || (c.cause != d.cause))
abbrev nb_6 (c d : Ck) : Bool := ((nb_5 c d) || ((c.serial : Int) != (d.serial : Int)))
abbrev nb_7 (c d : Ck) : Bool := ((nb_6 c d) || ((c.ok) != (d.ok)))
abbrev pb_0 (c d : Ck) : Bool := (((c.ptsn : Int) != (d.ptsn : Int)) || ((c.pstr : Int) != (d.pstr : Int)))
abbrev pb_1 (c d : Ck) : Bool := ((pb_0 c d) || ((c.pseq : Int) != (d.pseq : Int)))
abbrev pb_2 (c d : Ck) : Bool := ((pb_1 c d) || ((c.pb) != (d.pb)))
abbrev pb_3 (c d : Ck) : Bool := ((pb_2 c d) || ((c.pe) != (d.pe)))
abbrev pb_4 (c d : Ck) : Bool := ((pb_3 c d) || ((c.pu) != (d.pu)))
abbrev pb_5 (c d : Ck) : Bool := ((pb_4 c d) || (!decide (c.text = d.text)))
abbrev lb_0 (c d : Ck) (s u : Sv) : Bool := ((!decide (c.rand = d.rand)) || (!decide (c.info = d.info)))
abbrev lb_1 (c d : Ck) (s u : Sv) : Bool := ((lb_0 c d s u) || ((s.aN : Int) != (u.aN : Int)))
abbrev lb_2 (c d : Ck) (s u : Sv) : Bool := ((lb_1 c d s u) || ((s.gN : Int) != (u.gN : Int)))
abbrev lb_3 (c d : Ck) (s u : Sv) : Bool := ((lb_2 c d s u) || ((s.dN : Int) != (u.dN : Int)))
abbrev lb_4 (c d : Ck) (s u : Sv) : Bool := ((lb_3 c d s u) || ((s.oN : Int) != (u.oN : Int)))
def diffNB (c d : Ck) : Bool := (((((((((c.kind != d.kind) || ((c.tag : Int) != (d.tag : Int))) || (c.win != d.win)) || (c.out != d.out)) || (c.inn != d.inn)) || ((c.tsn : Int) != (d.tsn : Int))) || (c.cause != d.cause)) || ((c.serial : Int) != (d.serial : Int))) || ((c.ok) != (d.ok)))
def diffPB (c d : Ck) : Bool := ((((((((c.ptsn : Int) != (d.ptsn : Int)) || ((c.pstr : Int) != (d.pstr : Int))) || ((c.pseq : Int) != (d.pseq : Int))) || ((c.pb) != (d.pb))) || ((c.pe) != (d.pe))) || ((c.pu) != (d.pu))) || (!decide (c.text = d.text)))
def diffLB (c d : Ck) (s u : Sv) : Bool := ((((((!decide (c.rand = d.rand)) || (!decide (c.info = d.info))) || ((s.aN : Int) != (u.aN : Int))) || ((s.gN : Int) != (u.gN : Int))) || ((s.dN : Int) != (u.dN : Int))) || ((s.oN : Int) != (u.oN : Int)))
def refSameB (c d : Ck) : Bool := !diffNB c d && (!diffPB c d && (decide (c.rand = d.rand) && (decide (c.info = d.info) && (decide (c.addrs = d.addrs) && (decide (c.gaps = d.gaps) && (decide (c.dups = d.dups) && decide (c.ops = d.ops)))))))
def RefSameIs (w : World) (c d : Ck) (e : Ending) (w' : World) : Prop := e = .returned (.bool (refSameB c d)) ∧ Ext w w'
theorem refSameB_n {c d : Ck} (h : diffNB c d = true) : refSameB c d = false := by simp [refSameB, h]
theorem refSameB_p {c d : Ck} (h : diffPB c d = true) : refSameB c d = false := by simp [refSameB, h]
theorem refSameB_l {c d : Ck} {s u : Sv} (h : diffLB c d s u = true) (h1 : s.aN = c.addrs.length) (h2 : u.aN = d.addrs.length) (h3 : s.gN = c.gaps.length) (h4 : u.gN = d.gaps.length) (h5 : s.dN = c.dups.length) (h6 : u.dN = d.dups.length) (h7 : s.oN = c.ops.length) (h8 : u.oN = d.ops.length) : refSameB c d = false := by
 cases hb : refSameB c d with
 | false => rfl
 | true =>
  exfalso
  simp [refSameB] at hb
  obtain ⟨_, _, e1, e2, e3, e4, e5, e6⟩ := hb
  rw [← e3] at h2
  rw [← e4] at h4
  rw [← e5] at h6
  rw [← e6] at h8
  simp [diffLB, e1, e2, h1, h2, h3, h4, h5, h6, h7, h8] at h
theorem diffLB_f {c d : Ck} {s u : Sv} (h : diffLB c d s u = false) : c.rand = d.rand ∧ c.info = d.info ∧ s.aN = u.aN ∧ s.gN = u.gN ∧ s.dN = u.dN ∧ s.oN = u.oN := by
 simp [diffLB] at h
 obtain ⟨⟨⟨⟨⟨h1, h2⟩, h3⟩, h4⟩, h5⟩, h6⟩ := h
 exact ⟨h1, h2, by omega, by omega, by omega, by omega⟩
theorem refSameB_a {c d : Ck} (h : c.addrs ≠ d.addrs) : refSameB c d = false := by simp [refSameB, h]
theorem refSameB_g {c d : Ck} (h : c.gaps ≠ d.gaps) : refSameB c d = false := by simp [refSameB, h]
theorem refSameB_d {c d : Ck} (h : c.dups ≠ d.dups) : refSameB c d = false := by simp [refSameB, h]
theorem refSameB_o {c d : Ck} (h : c.ops ≠ d.ops) : refSameB c d = false := by simp [refSameB, h]
theorem zeroPc : (Try.prog.info? 26).bind (·.zero) = some (.agg (PV (ck0 0) sv0)) := by kernel_rfl
theorem give_skip {P : Program} {K : Value → World → Prop} {r : Operand → Value} {o : Oper} {w w' : World} (h : (execOp r o).run P w = .ok .skip w') (hk : K undef w') : give P K ((execOp r o).run P w) := by rw [h]; exact hk
structure TwoP (w0 : World) (p0 p2 : Value) (c d : Ck) (s u : Sv) (L : Nat → Bool) (vs : Nat → Value) (wx : World) : Prop where
 ext : Ext w0 wx
 k0 : L 0 = true → vs 0 = p0
 k1 : L 1 = true → vs 1 = .agg (PV c s)
 k2 : L 2 = true → vs 2 = p2
 k3 : L 3 = true → vs 3 = .agg (PV d u)
 k4 : L 4 = true → ∃ g C, vs 4 = .pointer (some ⟨g, 0, none⟩) ∧ w0.heap.size ≤ g ∧ Blk wx g C 26 ∧ C.size = 7 ∧ (L 6 = true → C = PV c s)
 k5 : L 5 = true → ∃ g C, vs 5 = .pointer (some ⟨g, 0, none⟩) ∧ w0.heap.size ≤ g ∧ Blk wx g C 26 ∧ C.size = 7 ∧ (L 7 = true → C = PV d u)
 ne : L 4 = true → L 5 = true → vs 4 ≠ vs 5
 i6 : L 6 = true → L 4 = true
 i7 : L 7 = true → L 5 = true
theorem TwoP.start (w0 : World) (p0 p2 : Value) (c d : Ck) (s u : Sv) (vs : Nat → Value) : TwoP w0 p0 p2 c d s u (fun i => decide (8 ≤ i)) vs w0 :=
 ⟨Ext.refl _, fun h => by simp at h, fun h => by simp at h, fun h => by simp at h, fun h => by simp at h, fun h => by simp at h, fun h => by simp at h, fun h => by simp at h, fun h => by simp at h, fun h => by simp at h⟩
section
variable {w0 wx : World} {p0 p2 : Value} {c d : Ck} {s u : Sv} {L : Nat → Bool} {vs : Nat → Value}
theorem TwoP.alloc4 (H : TwoP w0 p0 p2 c d s u L vs wx) (hl : L 4 = false) : TwoP w0 p0 p2 c d s u (met1 L 4) (updV vs 4 (.pointer (some ⟨wx.heap.size, 0, none⟩))) (wx.alloc (.cells (PV (ck0 0) sv0) 26)) := by
 have he : Ext wx (wx.alloc (.cells (PV (ck0 0) sv0) 26)) := Ext.alloc _ _
 refine ⟨H.ext.trans he, H.k0, H.k1, H.k2, H.k3, fun _ => ⟨wx.heap.size, _, rfl, H.ext.size, Blk.new _ _ _, rfl, fun h => ?_⟩, fun h => ?_, fun _ h => ?_, fun h => rfl, H.i7⟩
 ·
  have := H.i6 h; rw [hl] at this; cases this
 ·
  obtain ⟨g, C, e, hg, hB, hC, hc⟩ := H.k5 h
  exact ⟨g, C, e, hg, hB.ext he, hC, hc⟩
 ·
  obtain ⟨g, C, e, hg, hB, _⟩ := H.k5 h
  show _ ≠ vs 5
  rw [e]
  intro e2
  simp [updV] at e2
  have := hB.lt
  omega
theorem TwoP.alloc5 (H : TwoP w0 p0 p2 c d s u L vs wx) (hl : L 5 = false) : TwoP w0 p0 p2 c d s u (met1 L 5) (updV vs 5 (.pointer (some ⟨wx.heap.size, 0, none⟩))) (wx.alloc (.cells (PV (ck0 0) sv0) 26)) := by
 have he : Ext wx (wx.alloc (.cells (PV (ck0 0) sv0) 26)) := Ext.alloc _ _
 refine ⟨H.ext.trans he, H.k0, H.k1, H.k2, H.k3, fun h => ?_, fun _ => ⟨wx.heap.size, _, rfl, H.ext.size, Blk.new _ _ _, rfl, fun h => ?_⟩, fun h _ => ?_, H.i6, fun h => rfl⟩
 ·
  obtain ⟨g, C, e, hg, hB, hC, hc⟩ := H.k4 h
  exact ⟨g, C, e, hg, hB.ext he, hC, hc⟩
 ·
  have := H.i7 h; rw [hl] at this; cases this
 ·
  obtain ⟨g, C, e, hg, hB, _⟩ := H.k4 h
  show vs 4 ≠ _
  rw [e]
  intro e2
  simp [updV] at e2
  have := hB.lt
  omega
theorem TwoP.store6 (H : TwoP w0 p0 p2 c d s u L vs wx) (h4 : L 4 = true) {g : Nat} {C : Array Value} (e : vs 4 = .pointer (some ⟨g, 0, none⟩)) (hB : Blk wx g C 26) (hC : C.size = 7) : TwoP w0 p0 p2 c d s u (met1 L 6) (updV vs 6 undef) (wx.setRow g (putIn C 0 (PV c s).toList)) := by
 rw [putIn_all C (PV c s) hC]
 obtain ⟨g', C', e', hg, _⟩ := H.k4 h4
 rw [e] at e'
 simp at e'
 subst e'
 have hk : KeepBut (· = g) wx (wx.setRow g (PV c s)) := KeepBut.row _ _ _
 refine ⟨H.ext.of_but hk (fun k e => by subst e; exact hg), H.k0, H.k1, H.k2, H.k3, fun _ => ⟨g, _, e, hg, hB.row _, rfl, fun _ => rfl⟩, fun h => ?_, H.ne, fun _ => h4, H.i7⟩
 obtain ⟨g2, C2, e2, hg2, hB2, hC2, hc2⟩ := H.k5 h
 refine ⟨g2, C2, e2, hg2, hB2.rowO (fun q => ?_) _, hC2, hc2⟩
 subst q
 exact H.ne h4 h (e.trans e2.symm)
theorem TwoP.store7 (H : TwoP w0 p0 p2 c d s u L vs wx) (h5 : L 5 = true) {g : Nat} {C : Array Value} (e : vs 5 = .pointer (some ⟨g, 0, none⟩)) (hB : Blk wx g C 26) (hC : C.size = 7) : TwoP w0 p0 p2 c d s u (met1 L 7) (updV vs 7 undef) (wx.setRow g (putIn C 0 (PV d u).toList)) := by
 rw [putIn_all C (PV d u) hC]
 obtain ⟨g', C', e', hg, _⟩ := H.k5 h5
 rw [e] at e'
 simp at e'
 subst e'
 have hk : KeepBut (· = g) wx (wx.setRow g (PV d u)) := KeepBut.row _ _ _
 refine ⟨H.ext.of_but hk (fun k e => by subst e; exact hg), H.k0, H.k1, H.k2, H.k3, fun h => ?_, fun _ => ⟨g, _, e, hg, hB.row _, rfl, fun _ => rfl⟩, H.ne, H.i6, fun _ => h5⟩
 obtain ⟨g2, C2, e2, hg2, hB2, hC2, hc2⟩ := H.k4 h
 refine ⟨g2, C2, e2, hg2, hB2.rowO (fun q => ?_) _, hC2, hc2⟩
 subst q
 exact H.ne h h5 (e2.trans e.symm)
end
theorem refSame_any {w : World} {c d : Ck} {s u : Sv} (ha : CkAt w s c) (hb : CkAt w u d) :
  Calls Try.prog 13 #[.agg (CV c s), .agg (CV d u)] w (RefSameIs w c d) := by
 go_enter Try.func13, Try.ntmps13
 refine wp_seq_k (fun K hK => ?_)
 have HK := Stop.mk hK
 clear hK
 go_wp2_with (first
  | (have q := he1; clear q; refine wl_box (C := CV d u) rfl rfl rfl ?_; intro w2 hb2 he2 hx; clear hx; have hb1' := hb1.ext he2)
  | (refine wl_box (C := CV c s) rfl rfl rfl ?_; intro w1 hb1 he1 hx; clear hx))
 refine HK.go _ _ ?_
 refine wp_seq_k (fun K2 hK2 => ?_)
 have HK2 := Stop.mk hK2
 clear hK2
 refine wp_seq_k (fun K3 hK3 => ?_)
 have HK3 := Stop.mk hK3
 clear hK3
 refine wp_line (fun t => bif Nat.ble 11 t && Nat.ble t 71 then some (t - 11) else none) 249 Ext
  [Is (.pointer (some ⟨w.heap.size, 0, none⟩)),
   Is (.int .i64 c.kind),
   Is (.pointer (some ⟨w1.heap.size, 0, none⟩)),
   Is (.int .i64 d.kind),
   Is (.bool (c.kind != d.kind)),
   Is (.bool (c.kind != d.kind)),
   Under (!(c.kind != d.kind)) (.pointer (some ⟨w.heap.size, 8, none⟩)),
   Under (!(c.kind != d.kind)) (.int .u32 (c.tag : Int)),
   Under (!(c.kind != d.kind)) (.pointer (some ⟨w1.heap.size, 8, none⟩)),
   Under (!(c.kind != d.kind)) (.int .u32 (d.tag : Int)),
   Under (!(c.kind != d.kind)) (.bool ((c.tag : Int) != (d.tag : Int))),
   Is (.bool (nb_0 c d)),
   Is (.bool (nb_0 c d)),
   Under (!(nb_0 c d)) (.pointer (some ⟨w.heap.size, 9, none⟩)),
   Under (!(nb_0 c d)) (.int .i64 c.win),
   Under (!(nb_0 c d)) (.pointer (some ⟨w1.heap.size, 9, none⟩)),
   Under (!(nb_0 c d)) (.int .i64 d.win),
   Under (!(nb_0 c d)) (.bool (c.win != d.win)),
   Is (.bool (nb_1 c d)),
   Is (.bool (nb_1 c d)),
   Under (!(nb_1 c d)) (.pointer (some ⟨w.heap.size, 10, none⟩)),
   Under (!(nb_1 c d)) (.int .i64 c.out),
   Under (!(nb_1 c d)) (.pointer (some ⟨w1.heap.size, 10, none⟩)),
   Under (!(nb_1 c d)) (.int .i64 d.out),
   Under (!(nb_1 c d)) (.bool (c.out != d.out)),
   Is (.bool (nb_2 c d)),
   Is (.bool (nb_2 c d)),
   Under (!(nb_2 c d)) (.pointer (some ⟨w.heap.size, 11, none⟩)),
   Under (!(nb_2 c d)) (.int .i64 c.inn),
   Under (!(nb_2 c d)) (.pointer (some ⟨w1.heap.size, 11, none⟩)),
   Under (!(nb_2 c d)) (.int .i64 d.inn),
   Under (!(nb_2 c d)) (.bool (c.inn != d.inn)),
   Is (.bool (nb_3 c d)),
   Is (.bool (nb_3 c d)),
   Under (!(nb_3 c d)) (.pointer (some ⟨w.heap.size, 12, none⟩)),
   Under (!(nb_3 c d)) (.int .u32 (c.tsn : Int)),
   Under (!(nb_3 c d)) (.pointer (some ⟨w1.heap.size, 12, none⟩)),
   Under (!(nb_3 c d)) (.int .u32 (d.tsn : Int)),
   Under (!(nb_3 c d)) (.bool ((c.tsn : Int) != (d.tsn : Int))),
   Is (.bool (nb_4 c d)),
   Is (.bool (nb_4 c d)),
   Under (!(nb_4 c d)) (.pointer (some ⟨w.heap.size, 18, none⟩)),
   Under (!(nb_4 c d)) (.int .i64 c.cause),
   Under (!(nb_4 c d)) (.pointer (some ⟨w1.heap.size, 18, none⟩)),
   Under (!(nb_4 c d)) (.int .i64 d.cause),
   Under (!(nb_4 c d)) (.bool (c.cause != d.cause)),
   Is (.bool (nb_5 c d)),
   Is (.bool (nb_5 c d)),
   Under (!(nb_5 c d)) (.pointer (some ⟨w.heap.size, 19, none⟩)),
   Under (!(nb_5 c d)) (.int .u32 (c.serial : Int)),
   Under (!(nb_5 c d)) (.pointer (some ⟨w1.heap.size, 19, none⟩)),
   Under (!(nb_5 c d)) (.int .u32 (d.serial : Int)),
   Under (!(nb_5 c d)) (.bool ((c.serial : Int) != (d.serial : Int))),
   Is (.bool (nb_6 c d)),
   Is (.bool (nb_6 c d)),
   Under (!(nb_6 c d)) (.pointer (some ⟨w.heap.size, 21, none⟩)),
   Under (!(nb_6 c d)) (.bool c.ok),
   Under (!(nb_6 c d)) (.pointer (some ⟨w1.heap.size, 21, none⟩)),
   Under (!(nb_6 c d)) (.bool d.ok),
   Under (!(nb_6 c d)) (.bool ((c.ok) != (d.ok))),
   Is (.bool (nb_7 c d))]
  rfl (by kernel_rfl) rfl Ext.refl (fun _ _ _ => Ext.trans) (Ks (Ks (Ks (Ks (Ks (Ks (Ku (Ku (Ku (Ku (Ku (Ks (Ks (Ku (Ku (Ku (Ku (Ku (Ks (Ks (Ku (Ku (Ku (Ku (Ku (Ks (Ks (Ku (Ku (Ku (Ku (Ku (Ks (Ks (Ku (Ku (Ku (Ku (Ku (Ks (Ks (Ku (Ku (Ku (Ku (Ku (Ks (Ks (Ku (Ku (Ku (Ku (Ku (Ks (Ks (Ku (Ku (Ku (Ku (Ku (Ks (KeepAll.nil)))))))))))))))))))))))))))))))))))))))))))))))))))))))))))))) ?_ ?_
 ·
  refine Gc (ln1 (gd0 rfl) rfl (ouI rfl) iA (fun r wx hR h1 => by simp [execOp, h1, go_sem])) ?_
  refine Gc (ln1 (gd0 rfl) rfl (ouI rfl) iA (fun r wx hR h1 => exg one3 rfl h1 (cv0 (hb1'.ext hR)))) ?_
  refine Gc (ln1 (gd0 rfl) rfl (ouI rfl) iA (fun r wx hR h1 => by simp [execOp, h1, go_sem])) ?_
  refine Gc (ln1 (gd0 rfl) rfl (ouI rfl) iA (fun r wx hR h1 => exg one3 rfl h1 (cv0 (hb2.ext hR)))) ?_
  refine Gc (ln2 (gd0 rfl) rfl (ouI rfl) iA iA (fun r wx hR h1 h2 => by simp [execOp, h1, h2, go_sem])) ?_
  refine Gc (lmv rfl (.inl rfl) rfl rfl iB) ?_
  refine Gc (ln1 (gF rfl iB) rfl (ouU rfl) iA (fun r wx hR h1 => by simp [execOp, h1, go_sem])) ?_
  refine Gc (ln1 (gF rfl iB) rfl (ouU rfl) iC (fun r wx hR h1 => exg one22 rfl h1 (cv8 (hb1'.ext hR)))) ?_
  refine Gc (ln1 (gF rfl iB) rfl (ouU rfl) iA (fun r wx hR h1 => by simp [execOp, h1, go_sem])) ?_
  refine Gc (ln1 (gF rfl iB) rfl (ouU rfl) iC (fun r wx hR h1 => exg one22 rfl h1 (cv8 (hb2.ext hR)))) ?_
  refine Gc (ln2 (gF rfl iB) rfl (ouU rfl) iC iC (fun r wx hR h1 h2 => by simp [execOp, h1, h2, go_sem])) ?_
  refine Gc (lnO (gd0 rfl) rfl (ouI rfl) iA iE) ?_
  refine Gc (lmv rfl (.inl rfl) rfl rfl iB) ?_
  refine Gc (ln1 (gF rfl iB) rfl (ouU rfl) iA (fun r wx hR h1 => by simp [execOp, h1, go_sem])) ?_
  refine Gc (ln1 (gF rfl iB) rfl (ouU rfl) iC (fun r wx hR h1 => exg one3 rfl h1 (cv9 (hb1'.ext hR)))) ?_
  refine Gc (ln1 (gF rfl iB) rfl (ouU rfl) iA (fun r wx hR h1 => by simp [execOp, h1, go_sem])) ?_
  refine Gc (ln1 (gF rfl iB) rfl (ouU rfl) iC (fun r wx hR h1 => exg one3 rfl h1 (cv9 (hb2.ext hR)))) ?_
  refine Gc (ln2 (gF rfl iB) rfl (ouU rfl) iC iC (fun r wx hR h1 h2 => by simp [execOp, h1, h2, go_sem])) ?_
  refine Gc (lnO (gd0 rfl) rfl (ouI rfl) iA iE) ?_
  refine Gc (lmv rfl (.inl rfl) rfl rfl iB) ?_
  refine Gc (ln1 (gF rfl iB) rfl (ouU rfl) iA (fun r wx hR h1 => by simp [execOp, h1, go_sem])) ?_
  refine Gc (ln1 (gF rfl iB) rfl (ouU rfl) iC (fun r wx hR h1 => exg one3 rfl h1 (cv10 (hb1'.ext hR)))) ?_
  refine Gc (ln1 (gF rfl iB) rfl (ouU rfl) iA (fun r wx hR h1 => by simp [execOp, h1, go_sem])) ?_
  refine Gc (ln1 (gF rfl iB) rfl (ouU rfl) iC (fun r wx hR h1 => exg one3 rfl h1 (cv10 (hb2.ext hR)))) ?_
  refine Gc (ln2 (gF rfl iB) rfl (ouU rfl) iC iC (fun r wx hR h1 h2 => by simp [execOp, h1, h2, go_sem])) ?_
  refine Gc (lnO (gd0 rfl) rfl (ouI rfl) iA iE) ?_
  refine Gc (lmv rfl (.inl rfl) rfl rfl iB) ?_
  refine Gc (ln1 (gF rfl iB) rfl (ouU rfl) iA (fun r wx hR h1 => by simp [execOp, h1, go_sem])) ?_
  refine Gc (ln1 (gF rfl iB) rfl (ouU rfl) iC (fun r wx hR h1 => exg one3 rfl h1 (cv11 (hb1'.ext hR)))) ?_
  refine Gc (ln1 (gF rfl iB) rfl (ouU rfl) iA (fun r wx hR h1 => by simp [execOp, h1, go_sem])) ?_
  refine Gc (ln1 (gF rfl iB) rfl (ouU rfl) iC (fun r wx hR h1 => exg one3 rfl h1 (cv11 (hb2.ext hR)))) ?_
  refine Gc (ln2 (gF rfl iB) rfl (ouU rfl) iC iC (fun r wx hR h1 h2 => by simp [execOp, h1, h2, go_sem])) ?_
  refine Gc (lnO (gd0 rfl) rfl (ouI rfl) iA iE) ?_
  refine Gc (lmv rfl (.inl rfl) rfl rfl iB) ?_
  refine Gc (ln1 (gF rfl iB) rfl (ouU rfl) iA (fun r wx hR h1 => by simp [execOp, h1, go_sem])) ?_
  refine Gc (ln1 (gF rfl iB) rfl (ouU rfl) iC (fun r wx hR h1 => exg one22 rfl h1 (cv12 (hb1'.ext hR)))) ?_
  refine Gc (ln1 (gF rfl iB) rfl (ouU rfl) iA (fun r wx hR h1 => by simp [execOp, h1, go_sem])) ?_
  refine Gc (ln1 (gF rfl iB) rfl (ouU rfl) iC (fun r wx hR h1 => exg one22 rfl h1 (cv12 (hb2.ext hR)))) ?_
  refine Gc (ln2 (gF rfl iB) rfl (ouU rfl) iC iC (fun r wx hR h1 h2 => by simp [execOp, h1, h2, go_sem])) ?_
  refine Gc (lnO (gd0 rfl) rfl (ouI rfl) iA iE) ?_
  refine Gc (lmv rfl (.inl rfl) rfl rfl iB) ?_
  refine Gc (ln1 (gF rfl iB) rfl (ouU rfl) iA (fun r wx hR h1 => by simp [execOp, h1, go_sem])) ?_
  refine Gc (ln1 (gF rfl iB) rfl (ouU rfl) iC (fun r wx hR h1 => exg one3 rfl h1 (cv18 (hb1'.ext hR)))) ?_
  refine Gc (ln1 (gF rfl iB) rfl (ouU rfl) iA (fun r wx hR h1 => by simp [execOp, h1, go_sem])) ?_
  refine Gc (ln1 (gF rfl iB) rfl (ouU rfl) iC (fun r wx hR h1 => exg one3 rfl h1 (cv18 (hb2.ext hR)))) ?_
  refine Gc (ln2 (gF rfl iB) rfl (ouU rfl) iC iC (fun r wx hR h1 h2 => by simp [execOp, h1, h2, go_sem])) ?_
  refine Gc (lnO (gd0 rfl) rfl (ouI rfl) iA iE) ?_
  refine Gc (lmv rfl (.inl rfl) rfl rfl iB) ?_
  refine Gc (ln1 (gF rfl iB) rfl (ouU rfl) iA (fun r wx hR h1 => by simp [execOp, h1, go_sem])) ?_
  refine Gc (ln1 (gF rfl iB) rfl (ouU rfl) iC (fun r wx hR h1 => exg one22 rfl h1 (cv19 (hb1'.ext hR)))) ?_
  refine Gc (ln1 (gF rfl iB) rfl (ouU rfl) iA (fun r wx hR h1 => by simp [execOp, h1, go_sem])) ?_
  refine Gc (ln1 (gF rfl iB) rfl (ouU rfl) iC (fun r wx hR h1 => exg one22 rfl h1 (cv19 (hb2.ext hR)))) ?_
  refine Gc (ln2 (gF rfl iB) rfl (ouU rfl) iC iC (fun r wx hR h1 h2 => by simp [execOp, h1, h2, go_sem])) ?_
  refine Gc (lnO (gd0 rfl) rfl (ouI rfl) iA iE) ?_
  refine Gc (lmv rfl (.inl rfl) rfl rfl iB) ?_
  refine Gc (ln1 (gF rfl iB) rfl (ouU rfl) iA (fun r wx hR h1 => by simp [execOp, h1, go_sem])) ?_
  refine Gc (ln1 (gF rfl iB) rfl (ouU rfl) iC (fun r wx hR h1 => exg one4 rfl h1 (cv21 (hb1'.ext hR)))) ?_
  refine Gc (ln1 (gF rfl iB) rfl (ouU rfl) iA (fun r wx hR h1 => by simp [execOp, h1, go_sem])) ?_
  refine Gc (ln1 (gF rfl iB) rfl (ouU rfl) iC (fun r wx hR h1 => exg one4 rfl h1 (cv21 (hb2.ext hR)))) ?_
  refine Gc (ln2 (gF rfl iB) rfl (ouU rfl) iC iC (fun r wx hR h1 h2 => by simp [execOp, h1, h2, go_sem] <;> (cases (c.ok) <;> cases (d.ok) <;> rfl))) ?_
  refine Gc (lnO (gd0 rfl) rfl (ouI rfl) iA iE) ?_
  exact GoodAll.nil
 ·
  intro vs w3 a3 hR hold ha3
  have hv : vs 60 = .bool (diffNB c d) := hold.at 60
  clear hold
  simp only [putAll, Act.put, hv, List.setIfInBounds_toArray, List.set_cons_succ, List.set_cons_zero] at ha3
  subst ha3
  refine HK3.go _ _ ?_
  have HE : Hid (Ext w w3) := (he1.trans he2).trans hR
  cases hdn : diffNB c d with
  | true =>
   go_wp2
   go_ret
   exact ⟨by rw [refSameB_n hdn]; rfl, HE.out⟩
  | false =>
   go_wp2_with fail
   refine HK2.go _ _ ?_
   clear HK HK2 HK3
   refine wp_seq_k (fun K4 hK4 => ?_)
   have HK4 := Stop.mk hK4
   clear hK4
   have hbC : Blk w3.drew w.heap.size (CV c s) 32 := hb1'.ext (hR.trans (Ext.drew _))
   have hbD : Blk w3.drew w1.heap.size (CV d u) 32 := hb2.ext (hR.trans (Ext.drew _))
   refine wp_region_W (TwoP w3.drew (.pointer (some ⟨w.heap.size, 1, none⟩)) (.pointer (some ⟨w1.heap.size, 1, none⟩)) c d s u) (fun t => bif Nat.ble 72 t && Nat.ble t 75 then some (t - 72) else bif Nat.beq t 5 then some 4 else bif Nat.beq t 6 then some 5 else none) 249 rfl (by kernel_rfl) rfl (fun vs => TwoP.start _ _ _ _ _ _ _ _) ?_ ?_
   ·
    refine Ow ⟨rfl, ?_⟩ (Ow ⟨rfl, ?_⟩ (Ow ⟨rfl, ?_⟩ (Ow ⟨rfl, ?_⟩ (Ow ⟨rfl, ?_⟩ (Ow ⟨rfl, ?_⟩ (Ow ⟨rfl, ?_⟩ (Ow ⟨rfl, ?_⟩ OwedVs.nil)))))))
    ·
     rintro L vs wx r H hl hL ⟨h1, _⟩
     replace h1 : r (.tmp 2) = .pointer (some ⟨w.heap.size, 0, none⟩) := h1
     exact gvo (by simp [execOp, h1, go_sem]) { H with k0 := fun _ => rfl }
    ·
     rintro L vs wx r H hl hL ⟨h1, _⟩
     replace h1 : r (.tmp 72) = .pointer (some ⟨w.heap.size, 1, none⟩) := Eq.trans h1 (H.k0 (hL 0 (by kernel_rfl)))
     exact gvo (exec_load rowPc rfl h1 (hbC.ext H.ext) (PV c s).toList (CV.piece c s) rfl) { H with k1 := fun _ => rfl }
    ·
     rintro L vs wx r H hl hL ⟨h1, _⟩
     replace h1 : r (.tmp 3) = .pointer (some ⟨w1.heap.size, 0, none⟩) := h1
     exact gvo (by simp [execOp, h1, go_sem]) { H with k2 := fun _ => rfl }
    ·
     rintro L vs wx r H hl hL ⟨h1, _⟩
     replace h1 : r (.tmp 74) = .pointer (some ⟨w1.heap.size, 1, none⟩) := Eq.trans h1 (H.k2 (hL 2 (by kernel_rfl)))
     exact gvo (exec_load rowPc rfl h1 (hbD.ext H.ext) (PV d u).toList (CV.piece d u) rfl) { H with k3 := fun _ => rfl }
    ·
     intro L vs wx r H hl hL hx
     exact gvo (exec_alloc wx rfl zeroPc) (H.alloc4 hl)
    ·
     intro L vs wx r H hl hL hx
     exact gvo (exec_alloc wx rfl zeroPc) (H.alloc5 hl)
    ·
     rintro L vs wx r H hl hL ⟨h1, h2, _⟩
     replace h1 : r (.tmp 5) = vs 4 := h1
     replace h2 : r (.tmp 73) = .agg (PV c s) := Eq.trans h2 (H.k1 (hL 1 (by kernel_rfl)))
     obtain ⟨g, C, e, hg, hB, hC, _⟩ := H.k4 (hL 4 (by kernel_rfl))
     exact give_skip (exec_store rowPc rfl (h1.trans e) h2 hB rfl (by rw [hC]; decide) (PV.one _ _)) (H.store6 (hL 4 (by kernel_rfl)) e hB hC)
    ·
     rintro L vs wx r H hl hL ⟨h1, h2, _⟩
     replace h1 : r (.tmp 6) = vs 5 := h1
     replace h2 : r (.tmp 75) = .agg (PV d u) := Eq.trans h2 (H.k3 (hL 3 (by kernel_rfl)))
     obtain ⟨g, C, e, hg, hB, hC, _⟩ := H.k5 (hL 5 (by kernel_rfl))
     exact give_skip (exec_store rowPc rfl (h1.trans e) h2 hB rfl (by rw [hC]; decide) (PV.one _ _)) (H.store7 (hL 5 (by kernel_rfl)) e hB hC)
   ·
    intro vs2 a4 w4 H ha4
    obtain ⟨g5, C5, e5, hg5, hB5, _, hC5⟩ := H.k4 rfl
    obtain ⟨g6, C6, e6, hg6, hB6, _, hC6⟩ := H.k5 rfl
    rw [hC5 rfl] at hB5
    rw [hC6 rfl] at hB6
    have hv0 := H.k0 rfl
    have hv1 := H.k1 rfl
    have hv2 := H.k2 rfl
    have hv3 := H.k3 rfl
    simp only [putAll, Act.put, Nat.zero_add, Nat.reduceAdd, hv0, hv1, hv2, hv3, e5, e6, List.setIfInBounds_toArray, List.set_cons_succ, List.set_cons_zero] at ha4
    subst ha4
    have HE4 : Hid (Ext w w4) := (HE.out.trans (Ext.drew _)).trans H.ext
    refine HK4.go _ _ ?_
    have HA : CkAt w4 s c := ha.ext HE4.out
    have HB : CkAt w4 u d := hb.ext HE4.out
    refine wp_seq_k (fun K5 hK5 => ?_)
    have HK5 := Stop.mk hK5
    clear hK5
    refine wp_seq_k (fun K6 hK6 => ?_)
    have HK6 := Stop.mk hK6
    clear hK6
    refine wp_line (fun t => bif Nat.ble 76 t && Nat.ble t 124 then some (t - 76) else none) 249 Ext
     [Is (.pointer (some ⟨g5, 0, none⟩)),
      Is (.int .u32 (c.ptsn : Int)),
      Is (.pointer (some ⟨g6, 0, none⟩)),
      Is (.int .u32 (d.ptsn : Int)),
      Is (.bool ((c.ptsn : Int) != (d.ptsn : Int))),
      Is (.bool ((c.ptsn : Int) != (d.ptsn : Int))),
      Under (!((c.ptsn : Int) != (d.ptsn : Int))) (.pointer (some ⟨g5, 1, none⟩)),
      Under (!((c.ptsn : Int) != (d.ptsn : Int))) (.int .u16 (c.pstr : Int)),
      Under (!((c.ptsn : Int) != (d.ptsn : Int))) (.pointer (some ⟨g6, 1, none⟩)),
      Under (!((c.ptsn : Int) != (d.ptsn : Int))) (.int .u16 (d.pstr : Int)),
      Under (!((c.ptsn : Int) != (d.ptsn : Int))) (.bool ((c.pstr : Int) != (d.pstr : Int))),
      Is (.bool (pb_0 c d)),
      Is (.bool (pb_0 c d)),
      Under (!(pb_0 c d)) (.pointer (some ⟨g5, 2, none⟩)),
      Under (!(pb_0 c d)) (.int .u16 (c.pseq : Int)),
      Under (!(pb_0 c d)) (.pointer (some ⟨g6, 2, none⟩)),
      Under (!(pb_0 c d)) (.int .u16 (d.pseq : Int)),
      Under (!(pb_0 c d)) (.bool ((c.pseq : Int) != (d.pseq : Int))),
      Is (.bool (pb_1 c d)),
      Is (.bool (pb_1 c d)),
      Under (!(pb_1 c d)) (.pointer (some ⟨g5, 3, none⟩)),
      Under (!(pb_1 c d)) (.bool c.pb),
      Under (!(pb_1 c d)) (.pointer (some ⟨g6, 3, none⟩)),
      Under (!(pb_1 c d)) (.bool d.pb),
      Under (!(pb_1 c d)) (.bool ((c.pb) != (d.pb))),
      Is (.bool (pb_2 c d)),
      Is (.bool (pb_2 c d)),
      Under (!(pb_2 c d)) (.pointer (some ⟨g5, 4, none⟩)),
      Under (!(pb_2 c d)) (.bool c.pe),
      Under (!(pb_2 c d)) (.pointer (some ⟨g6, 4, none⟩)),
      Under (!(pb_2 c d)) (.bool d.pe),
      Under (!(pb_2 c d)) (.bool ((c.pe) != (d.pe))),
      Is (.bool (pb_3 c d)),
      Is (.bool (pb_3 c d)),
      Under (!(pb_3 c d)) (.pointer (some ⟨g5, 5, none⟩)),
      Under (!(pb_3 c d)) (.bool c.pu),
      Under (!(pb_3 c d)) (.pointer (some ⟨g6, 5, none⟩)),
      Under (!(pb_3 c d)) (.bool d.pu),
      Under (!(pb_3 c d)) (.bool ((c.pu) != (d.pu))),
      Is (.bool (pb_4 c d)),
      Is (.bool (pb_4 c d)),
      Under (!(pb_4 c d)) (.pointer (some ⟨g5, 6, none⟩)),
      Under (!(pb_4 c d)) (.slice s.tA s.tN s.tC),
      Under (!(pb_4 c d)) (.string (strOf c.text)),
      Under (!(pb_4 c d)) (.pointer (some ⟨g6, 6, none⟩)),
      Under (!(pb_4 c d)) (.slice u.tA u.tN u.tC),
      Under (!(pb_4 c d)) (.string (strOf d.text)),
      Under (!(pb_4 c d)) (.bool (!decide (c.text = d.text))),
      Is (.bool (pb_5 c d))]
     rfl (by kernel_rfl) rfl Ext.refl (fun _ _ _ => Ext.trans) (Ks (Ks (Ks (Ks (Ks (Ks (Ku (Ku (Ku (Ku (Ku (Ks (Ks (Ku (Ku (Ku (Ku (Ku (Ks (Ks (Ku (Ku (Ku (Ku (Ku (Ks (Ks (Ku (Ku (Ku (Ku (Ku (Ks (Ks (Ku (Ku (Ku (Ku (Ku (Ks (Ks (Ku (Ku (Ku (Ku (Ku (Ku (Ku (Ks (KeepAll.nil)))))))))))))))))))))))))))))))))))))))))))))))))) ?_ ?_
    ·
     refine Gc (ln1 (gd0 rfl) rfl (ouI rfl) iA (fun r wx hR h1 => by simp [execOp, h1, go_sem])) ?_
     refine Gc (ln1 (gd0 rfl) rfl (ouI rfl) iA (fun r wx hR h1 => exg one22 rfl h1 (pv0 (hB5.ext hR)))) ?_
     refine Gc (ln1 (gd0 rfl) rfl (ouI rfl) iA (fun r wx hR h1 => by simp [execOp, h1, go_sem])) ?_
     refine Gc (ln1 (gd0 rfl) rfl (ouI rfl) iA (fun r wx hR h1 => exg one22 rfl h1 (pv0 (hB6.ext hR)))) ?_
     refine Gc (ln2 (gd0 rfl) rfl (ouI rfl) iA iA (fun r wx hR h1 h2 => by simp [execOp, h1, h2, go_sem])) ?_
     refine Gc (lmv rfl (.inl rfl) rfl rfl iB) ?_
     refine Gc (ln1 (gF rfl iB) rfl (ouU rfl) iA (fun r wx hR h1 => by simp [execOp, h1, go_sem])) ?_
     refine Gc (ln1 (gF rfl iB) rfl (ouU rfl) iC (fun r wx hR h1 => exg one23 rfl h1 (pv1 (hB5.ext hR)))) ?_
     refine Gc (ln1 (gF rfl iB) rfl (ouU rfl) iA (fun r wx hR h1 => by simp [execOp, h1, go_sem])) ?_
     refine Gc (ln1 (gF rfl iB) rfl (ouU rfl) iC (fun r wx hR h1 => exg one23 rfl h1 (pv1 (hB6.ext hR)))) ?_
     refine Gc (ln2 (gF rfl iB) rfl (ouU rfl) iC iC (fun r wx hR h1 h2 => by simp [execOp, h1, h2, go_sem])) ?_
     refine Gc (lnO (gd0 rfl) rfl (ouI rfl) iA iE) ?_
     refine Gc (lmv rfl (.inl rfl) rfl rfl iB) ?_
     refine Gc (ln1 (gF rfl iB) rfl (ouU rfl) iA (fun r wx hR h1 => by simp [execOp, h1, go_sem])) ?_
     refine Gc (ln1 (gF rfl iB) rfl (ouU rfl) iC (fun r wx hR h1 => exg one23 rfl h1 (pv2 (hB5.ext hR)))) ?_
     refine Gc (ln1 (gF rfl iB) rfl (ouU rfl) iA (fun r wx hR h1 => by simp [execOp, h1, go_sem])) ?_
     refine Gc (ln1 (gF rfl iB) rfl (ouU rfl) iC (fun r wx hR h1 => exg one23 rfl h1 (pv2 (hB6.ext hR)))) ?_
     refine Gc (ln2 (gF rfl iB) rfl (ouU rfl) iC iC (fun r wx hR h1 h2 => by simp [execOp, h1, h2, go_sem])) ?_
     refine Gc (lnO (gd0 rfl) rfl (ouI rfl) iA iE) ?_
     refine Gc (lmv rfl (.inl rfl) rfl rfl iB) ?_
     refine Gc (ln1 (gF rfl iB) rfl (ouU rfl) iA (fun r wx hR h1 => by simp [execOp, h1, go_sem])) ?_
     refine Gc (ln1 (gF rfl iB) rfl (ouU rfl) iC (fun r wx hR h1 => exg one4 rfl h1 (pv3 (hB5.ext hR)))) ?_
     refine Gc (ln1 (gF rfl iB) rfl (ouU rfl) iA (fun r wx hR h1 => by simp [execOp, h1, go_sem])) ?_
     refine Gc (ln1 (gF rfl iB) rfl (ouU rfl) iC (fun r wx hR h1 => exg one4 rfl h1 (pv3 (hB6.ext hR)))) ?_
     refine Gc (ln2 (gF rfl iB) rfl (ouU rfl) iC iC (fun r wx hR h1 h2 => by simp [execOp, h1, h2, go_sem] <;> (cases (c.pb) <;> cases (d.pb) <;> rfl))) ?_
     refine Gc (lnO (gd0 rfl) rfl (ouI rfl) iA iE) ?_
     refine Gc (lmv rfl (.inl rfl) rfl rfl iB) ?_
     refine Gc (ln1 (gF rfl iB) rfl (ouU rfl) iA (fun r wx hR h1 => by simp [execOp, h1, go_sem])) ?_
     refine Gc (ln1 (gF rfl iB) rfl (ouU rfl) iC (fun r wx hR h1 => exg one4 rfl h1 (pv4 (hB5.ext hR)))) ?_
     refine Gc (ln1 (gF rfl iB) rfl (ouU rfl) iA (fun r wx hR h1 => by simp [execOp, h1, go_sem])) ?_
     refine Gc (ln1 (gF rfl iB) rfl (ouU rfl) iC (fun r wx hR h1 => exg one4 rfl h1 (pv4 (hB6.ext hR)))) ?_
     refine Gc (ln2 (gF rfl iB) rfl (ouU rfl) iC iC (fun r wx hR h1 h2 => by simp [execOp, h1, h2, go_sem] <;> (cases (c.pe) <;> cases (d.pe) <;> rfl))) ?_
     refine Gc (lnO (gd0 rfl) rfl (ouI rfl) iA iE) ?_
     refine Gc (lmv rfl (.inl rfl) rfl rfl iB) ?_
     refine Gc (ln1 (gF rfl iB) rfl (ouU rfl) iA (fun r wx hR h1 => by simp [execOp, h1, go_sem])) ?_
     refine Gc (ln1 (gF rfl iB) rfl (ouU rfl) iC (fun r wx hR h1 => exg one4 rfl h1 (pv5 (hB5.ext hR)))) ?_
     refine Gc (ln1 (gF rfl iB) rfl (ouU rfl) iA (fun r wx hR h1 => by simp [execOp, h1, go_sem])) ?_
     refine Gc (ln1 (gF rfl iB) rfl (ouU rfl) iC (fun r wx hR h1 => exg one4 rfl h1 (pv5 (hB6.ext hR)))) ?_
     refine Gc (ln2 (gF rfl iB) rfl (ouU rfl) iC iC (fun r wx hR h1 h2 => by simp [execOp, h1, h2, go_sem] <;> (cases (c.pu) <;> cases (d.pu) <;> rfl))) ?_
     refine Gc (lnO (gd0 rfl) rfl (ouI rfl) iA iE) ?_
     refine Gc (lmv rfl (.inl rfl) rfl rfl iB) ?_
     refine Gc (ln1 (gF rfl iB) rfl (ouU rfl) iA (fun r wx hR h1 => by simp [execOp, h1, go_sem])) ?_
     refine Gc (ln1 (gF rfl iB) rfl (ouU rfl) iC (fun r wx hR h1 => exg oneS rfl h1 (pv6 (hB5.ext hR)))) ?_
     refine Gc (ln1 (gF rfl iB) rfl (ouU rfl) iC (fun r wx hR h1 => exec_string byteT strT rfl _ c.text (by rw [h1]; exact HA.t.ext hR))) ?_
     refine Gc (ln1 (gF rfl iB) rfl (ouU rfl) iA (fun r wx hR h1 => by simp [execOp, h1, go_sem])) ?_
     refine Gc (ln1 (gF rfl iB) rfl (ouU rfl) iC (fun r wx hR h1 => exg oneS rfl h1 (pv6 (hB6.ext hR)))) ?_
     refine Gc (ln1 (gF rfl iB) rfl (ouU rfl) iC (fun r wx hR h1 => exec_string byteT strT rfl _ d.text (by rw [h1]; exact HB.t.ext hR))) ?_
     refine Gc (ln2 (gF rfl iB) rfl (ouU rfl) iC iC (fun r wx hR h1 h2 => by simp [execOp, h1, h2, go_sem, strOf_beq c.text d.text HA.t.1 HB.t.1])) ?_
     refine Gc (lnO (gd0 rfl) rfl (ouI rfl) iA iE) ?_
     exact GoodAll.nil
    ·
     intro vs3 w5 a5 hR5 hold ha5
     have hv : vs3 48 = .bool (diffPB c d) := hold.at 48
     clear hold
     simp only [putAll, Act.put, hv, List.setIfInBounds_toArray, List.set_cons_succ, List.set_cons_zero] at ha5
     subst ha5
     refine HK6.go _ _ ?_
     have HE5 : Hid (Ext w w5) := HE4.out.trans hR5
     cases hdp : diffPB c d with
     | true =>
      go_wp2
      go_ret
      exact ⟨by rw [refSameB_p hdp]; rfl, HE5.out⟩
     | false =>
      go_wp2_with fail
      refine HK5.go _ _ ?_
      clear HK4 HK5 HK6
      replace HA : CkAt w5 s c := ha.ext HE5.out
      replace HB : CkAt w5 u d := hb.ext HE5.out
      have hbC5 := hbC.ext (H.ext.trans hR5)
      have hbD5 := hbD.ext (H.ext.trans hR5)
      refine wp_seq_k (fun K7 hK7 => ?_)
      have HK7 := Stop.mk hK7
      clear hK7
      refine wp_seq_k (fun K8 hK8 => ?_)
      have HK8 := Stop.mk hK8
      clear hK8
      refine wp_line (fun t => bif Nat.ble 125 t && Nat.ble t 176 then some (t - 125) else none) 249 Ext
       [Is (.pointer (some ⟨w.heap.size, 13, none⟩)),
        Is (.slice s.rA s.rN s.rC),
        Is (.string (strOf c.rand)),
        Is (.pointer (some ⟨w1.heap.size, 13, none⟩)),
        Is (.slice u.rA u.rN u.rC),
        Is (.string (strOf d.rand)),
        Is (.bool (!decide (c.rand = d.rand))),
        Is (.bool (!decide (c.rand = d.rand))),
        Under (!(!decide (c.rand = d.rand))) (.pointer (some ⟨w.heap.size, 15, none⟩)),
        Under (!(!decide (c.rand = d.rand))) (.slice s.iA s.iN s.iC),
        Under (!(!decide (c.rand = d.rand))) (.string (strOf c.info)),
        Under (!(!decide (c.rand = d.rand))) (.pointer (some ⟨w1.heap.size, 15, none⟩)),
        Under (!(!decide (c.rand = d.rand))) (.slice u.iA u.iN u.iC),
        Under (!(!decide (c.rand = d.rand))) (.string (strOf d.info)),
        Under (!(!decide (c.rand = d.rand))) (.bool (!decide (c.info = d.info))),
        Is (.bool (lb_0 c d s u)),
        Is (.bool (lb_0 c d s u)),
        Under (!(lb_0 c d s u)) (.pointer (some ⟨w.heap.size, 14, none⟩)),
        Under (!(lb_0 c d s u)) (.slice s.aA s.aN s.aC),
        Under (!(lb_0 c d s u)) (.int .i64 (s.aN : Int)),
        Under (!(lb_0 c d s u)) (.pointer (some ⟨w1.heap.size, 14, none⟩)),
        Under (!(lb_0 c d s u)) (.slice u.aA u.aN u.aC),
        Under (!(lb_0 c d s u)) (.int .i64 (u.aN : Int)),
        Under (!(lb_0 c d s u)) (.bool ((s.aN : Int) != (u.aN : Int))),
        Is (.bool (lb_1 c d s u)),
        Is (.bool (lb_1 c d s u)),
        Under (!(lb_1 c d s u)) (.pointer (some ⟨w.heap.size, 16, none⟩)),
        Under (!(lb_1 c d s u)) (.slice s.gA s.gN s.gC),
        Under (!(lb_1 c d s u)) (.int .i64 (s.gN : Int)),
        Under (!(lb_1 c d s u)) (.pointer (some ⟨w1.heap.size, 16, none⟩)),
        Under (!(lb_1 c d s u)) (.slice u.gA u.gN u.gC),
        Under (!(lb_1 c d s u)) (.int .i64 (u.gN : Int)),
        Under (!(lb_1 c d s u)) (.bool ((s.gN : Int) != (u.gN : Int))),
        Is (.bool (lb_2 c d s u)),
        Is (.bool (lb_2 c d s u)),
        Under (!(lb_2 c d s u)) (.pointer (some ⟨w.heap.size, 17, none⟩)),
        Under (!(lb_2 c d s u)) (.slice s.dA s.dN s.dC),
        Under (!(lb_2 c d s u)) (.int .i64 (s.dN : Int)),
        Under (!(lb_2 c d s u)) (.pointer (some ⟨w1.heap.size, 17, none⟩)),
        Under (!(lb_2 c d s u)) (.slice u.dA u.dN u.dC),
        Under (!(lb_2 c d s u)) (.int .i64 (u.dN : Int)),
        Under (!(lb_2 c d s u)) (.bool ((s.dN : Int) != (u.dN : Int))),
        Is (.bool (lb_3 c d s u)),
        Is (.bool (lb_3 c d s u)),
        Under (!(lb_3 c d s u)) (.pointer (some ⟨w.heap.size, 20, none⟩)),
        Under (!(lb_3 c d s u)) (.slice s.oA s.oN s.oC),
        Under (!(lb_3 c d s u)) (.int .i64 (s.oN : Int)),
        Under (!(lb_3 c d s u)) (.pointer (some ⟨w1.heap.size, 20, none⟩)),
        Under (!(lb_3 c d s u)) (.slice u.oA u.oN u.oC),
        Under (!(lb_3 c d s u)) (.int .i64 (u.oN : Int)),
        Under (!(lb_3 c d s u)) (.bool ((s.oN : Int) != (u.oN : Int))),
        Is (.bool (lb_4 c d s u))]
       rfl (by kernel_rfl) rfl Ext.refl (fun _ _ _ => Ext.trans) (Ks (Ks (Ks (Ks (Ks (Ks (Ks (Ks (Ku (Ku (Ku (Ku (Ku (Ku (Ku (Ks (Ks (Ku (Ku (Ku (Ku (Ku (Ku (Ku (Ks (Ks (Ku (Ku (Ku (Ku (Ku (Ku (Ku (Ks (Ks (Ku (Ku (Ku (Ku (Ku (Ku (Ku (Ks (Ks (Ku (Ku (Ku (Ku (Ku (Ku (Ku (Ks (KeepAll.nil))))))))))))))))))))))))))))))))))))))))))))))))))))) ?_ ?_
      ·
       refine Gc (ln1 (gd0 rfl) rfl (ouI rfl) iA (fun r wx hR h1 => by simp [execOp, h1, go_sem])) ?_
       refine Gc (ln1 (gd0 rfl) rfl (ouI rfl) iA (fun r wx hR h1 => exg oneS rfl h1 (cv13 (hbC5.ext hR)))) ?_
       refine Gc (ln1 (gd0 rfl) rfl (ouI rfl) iA (fun r wx hR h1 => exec_string byteT strT rfl _ c.rand (by rw [h1]; exact HA.r.ext hR))) ?_
       refine Gc (ln1 (gd0 rfl) rfl (ouI rfl) iA (fun r wx hR h1 => by simp [execOp, h1, go_sem])) ?_
       refine Gc (ln1 (gd0 rfl) rfl (ouI rfl) iA (fun r wx hR h1 => exg oneS rfl h1 (cv13 (hbD5.ext hR)))) ?_
       refine Gc (ln1 (gd0 rfl) rfl (ouI rfl) iA (fun r wx hR h1 => exec_string byteT strT rfl _ d.rand (by rw [h1]; exact HB.r.ext hR))) ?_
       refine Gc (ln2 (gd0 rfl) rfl (ouI rfl) iA iA (fun r wx hR h1 h2 => by simp [execOp, h1, h2, go_sem, strOf_beq c.rand d.rand HA.r.1 HB.r.1])) ?_
       refine Gc (lmv rfl (.inl rfl) rfl rfl iB) ?_
       refine Gc (ln1 (gF rfl iB) rfl (ouU rfl) iA (fun r wx hR h1 => by simp [execOp, h1, go_sem])) ?_
       refine Gc (ln1 (gF rfl iB) rfl (ouU rfl) iC (fun r wx hR h1 => exg oneS rfl h1 (cv15 (hbC5.ext hR)))) ?_
       refine Gc (ln1 (gF rfl iB) rfl (ouU rfl) iC (fun r wx hR h1 => exec_string byteT strT rfl _ c.info (by rw [h1]; exact HA.i.ext hR))) ?_
       refine Gc (ln1 (gF rfl iB) rfl (ouU rfl) iA (fun r wx hR h1 => by simp [execOp, h1, go_sem])) ?_
       refine Gc (ln1 (gF rfl iB) rfl (ouU rfl) iC (fun r wx hR h1 => exg oneS rfl h1 (cv15 (hbD5.ext hR)))) ?_
       refine Gc (ln1 (gF rfl iB) rfl (ouU rfl) iC (fun r wx hR h1 => exec_string byteT strT rfl _ d.info (by rw [h1]; exact HB.i.ext hR))) ?_
       refine Gc (ln2 (gF rfl iB) rfl (ouU rfl) iC iC (fun r wx hR h1 h2 => by simp [execOp, h1, h2, go_sem, strOf_beq c.info d.info HA.i.1 HB.i.1])) ?_
       refine Gc (lnO (gd0 rfl) rfl (ouI rfl) iA iE) ?_
       refine Gc (lmv rfl (.inl rfl) rfl rfl iB) ?_
       refine Gc (ln1 (gF rfl iB) rfl (ouU rfl) iA (fun r wx hR h1 => by simp [execOp, h1, go_sem])) ?_
       refine Gc (ln1 (gF rfl iB) rfl (ouU rfl) iC (fun r wx hR h1 => exg oneSA rfl h1 (cv14 (hbC5.ext hR)))) ?_
       refine Gc (ln1 (gF rfl iB) rfl (ouU rfl) iC (fun r wx hR h1 => by replace h1 : r (.tmp 143) = _ := h1; simp [execOp, h1, go_sem])) ?_
       refine Gc (ln1 (gF rfl iB) rfl (ouU rfl) iA (fun r wx hR h1 => by simp [execOp, h1, go_sem])) ?_
       refine Gc (ln1 (gF rfl iB) rfl (ouU rfl) iC (fun r wx hR h1 => exg oneSA rfl h1 (cv14 (hbD5.ext hR)))) ?_
       refine Gc (ln1 (gF rfl iB) rfl (ouU rfl) iC (fun r wx hR h1 => by replace h1 : r (.tmp 146) = _ := h1; simp [execOp, h1, go_sem])) ?_
       refine Gc (ln2 (gF rfl iB) rfl (ouU rfl) iC iC (fun r wx hR h1 h2 => by simp [execOp, h1, h2, go_sem])) ?_
       refine Gc (lnO (gd0 rfl) rfl (ouI rfl) iA iE) ?_
       refine Gc (lmv rfl (.inl rfl) rfl rfl iB) ?_
       refine Gc (ln1 (gF rfl iB) rfl (ouU rfl) iA (fun r wx hR h1 => by simp [execOp, h1, go_sem])) ?_
       refine Gc (ln1 (gF rfl iB) rfl (ouU rfl) iC (fun r wx hR h1 => exg oneSG2 rfl h1 (cv16 (hbC5.ext hR)))) ?_
       refine Gc (ln1 (gF rfl iB) rfl (ouU rfl) iC (fun r wx hR h1 => by replace h1 : r (.tmp 152) = _ := h1; simp [execOp, h1, go_sem])) ?_
       refine Gc (ln1 (gF rfl iB) rfl (ouU rfl) iA (fun r wx hR h1 => by simp [execOp, h1, go_sem])) ?_
       refine Gc (ln1 (gF rfl iB) rfl (ouU rfl) iC (fun r wx hR h1 => exg oneSG2 rfl h1 (cv16 (hbD5.ext hR)))) ?_
       refine Gc (ln1 (gF rfl iB) rfl (ouU rfl) iC (fun r wx hR h1 => by replace h1 : r (.tmp 155) = _ := h1; simp [execOp, h1, go_sem])) ?_
       refine Gc (ln2 (gF rfl iB) rfl (ouU rfl) iC iC (fun r wx hR h1 h2 => by simp [execOp, h1, h2, go_sem])) ?_
       refine Gc (lnO (gd0 rfl) rfl (ouI rfl) iA iE) ?_
       refine Gc (lmv rfl (.inl rfl) rfl rfl iB) ?_
       refine Gc (ln1 (gF rfl iB) rfl (ouU rfl) iA (fun r wx hR h1 => by simp [execOp, h1, go_sem])) ?_
       refine Gc (ln1 (gF rfl iB) rfl (ouU rfl) iC (fun r wx hR h1 => exg oneSD rfl h1 (cv17 (hbC5.ext hR)))) ?_
       refine Gc (ln1 (gF rfl iB) rfl (ouU rfl) iC (fun r wx hR h1 => by replace h1 : r (.tmp 161) = _ := h1; simp [execOp, h1, go_sem])) ?_
       refine Gc (ln1 (gF rfl iB) rfl (ouU rfl) iA (fun r wx hR h1 => by simp [execOp, h1, go_sem])) ?_
       refine Gc (ln1 (gF rfl iB) rfl (ouU rfl) iC (fun r wx hR h1 => exg oneSD rfl h1 (cv17 (hbD5.ext hR)))) ?_
       refine Gc (ln1 (gF rfl iB) rfl (ouU rfl) iC (fun r wx hR h1 => by replace h1 : r (.tmp 164) = _ := h1; simp [execOp, h1, go_sem])) ?_
       refine Gc (ln2 (gF rfl iB) rfl (ouU rfl) iC iC (fun r wx hR h1 h2 => by simp [execOp, h1, h2, go_sem])) ?_
       refine Gc (lnO (gd0 rfl) rfl (ouI rfl) iA iE) ?_
       refine Gc (lmv rfl (.inl rfl) rfl rfl iB) ?_
       refine Gc (ln1 (gF rfl iB) rfl (ouU rfl) iA (fun r wx hR h1 => by simp [execOp, h1, go_sem])) ?_
       refine Gc (ln1 (gF rfl iB) rfl (ouU rfl) iC (fun r wx hR h1 => exg oneSO2 rfl h1 (cv20 (hbC5.ext hR)))) ?_
       refine Gc (ln1 (gF rfl iB) rfl (ouU rfl) iC (fun r wx hR h1 => by replace h1 : r (.tmp 170) = _ := h1; simp [execOp, h1, go_sem])) ?_
       refine Gc (ln1 (gF rfl iB) rfl (ouU rfl) iA (fun r wx hR h1 => by simp [execOp, h1, go_sem])) ?_
       refine Gc (ln1 (gF rfl iB) rfl (ouU rfl) iC (fun r wx hR h1 => exg oneSO2 rfl h1 (cv20 (hbD5.ext hR)))) ?_
       refine Gc (ln1 (gF rfl iB) rfl (ouU rfl) iC (fun r wx hR h1 => by replace h1 : r (.tmp 173) = _ := h1; simp [execOp, h1, go_sem])) ?_
       refine Gc (ln2 (gF rfl iB) rfl (ouU rfl) iC iC (fun r wx hR h1 h2 => by simp [execOp, h1, h2, go_sem])) ?_
       refine Gc (lnO (gd0 rfl) rfl (ouI rfl) iA iE) ?_
       exact GoodAll.nil
      ·
       intro vs4 w6 a6 hR6 hold ha6
       have hv : vs4 51 = .bool (diffLB c d s u) := hold.at 51
       clear hold
       simp only [putAll, Act.put, hv, List.setIfInBounds_toArray, List.set_cons_succ, List.set_cons_zero] at ha6
       subst ha6
       refine HK8.go _ _ ?_
       have HE6 : Hid (Ext w w6) := HE5.out.trans hR6
       cases hdl : diffLB c d s u with
       | true =>
        go_wp2
        go_ret
        exact ⟨by rw [refSameB_l hdl (nums_len ha.a).1 (nums_len hb.a).1 (PairsAt.len ha.g).1 (PairsAt.len hb.g).1 (by rw [(nums_len ha.d).1, ci_len]) (by rw [(nums_len hb.d).1, ci_len]) (PairsAt.len ha.o).1 (PairsAt.len hb.o).1]; rfl, HE6.out⟩
       | false =>
        go_wp2_with fail
        refine HK7.go _ _ ?_
        clear HK7 HK8 hb1 hb1' hb2 hB5 hB6 H hv0 hv1 hv2 hv3 e5 e6 hC5 hC6 HE HE4
        obtain ⟨q1, q2, q3, q4, q5, q6⟩ := diffLB_f hdl
        have HF : Hid (diffNB c d = false ∧ diffPB c d = false ∧ c.rand = d.rand ∧ c.info = d.info) := ⟨hdn, hdp, q1, q2⟩
        have hbC6 := hbC5.ext hR6
        have hbD6 := hbD5.ext hR6
        replace HA : CkAt w6 s c := ha.ext HE6.out
        replace HB : CkAt w6 u d := hb.ext HE6.out
        obtain ⟨N1, hN1⟩ : ∃ N, N = s.aN := ⟨_, rfl⟩
        have HN1 : Hid (s.aN = N1 ∧ u.aN = N1 ∧ N1 = c.addrs.length ∧ N1 = d.addrs.length) := ⟨hN1.symm, by rw [hN1]; exact q3.symm, by rw [hN1]; exact (nums_len HA.a).1, by rw [hN1, q3]; exact (nums_len HB.a).1⟩
        have HM1 : Hid (N1 ≤ 9223372036854775807) := by have := (nums_len HA.a).2; rw [← hN1] at this; exact this
        have hm1 : N1 ≤ 9223372036854775807 := HM1.out
        clear hN1 q1 q2 q3 hdn hdp hdl hR hR5 hR6 HE5 hbC hbD hbC5 hbD5
        go_wp2
        go_loopg [7] N1 (fun gm t wr => ∃ k : Nat, k ≤ N1 ∧ gm = N1 - k ∧ t = .int .i64 (k : Int) ∧ Hid (Ext w6 wr ∧ ∀ j, j < k → c.addrs.getD j 0 = d.addrs.getD j 0))
        case atStart => exact ⟨0, Nat.zero_le _, rfl, rfl, Ext.refl _, fun j hj => absurd hj (by omega)⟩
        case round =>
         obtain ⟨k, hk, rfl, rfl, HR⟩ := hrel
         have c14 := cv14 (hbC6.ext HR.out.1)
         have d14 := cv14 (hbD6.ext HR.out.1)
         rw [HN1.out.1] at c14
         rw [HN1.out.2.1] at d14
         by_cases hlt : k < N1
         ·
          have hd : decide ((k : Int) < (N1 : Int)) = true := decide_eq_true (by omega)
          have hkn : (k : Int) < (N1 : Int) := by omega
          obtain ⟨b, off, ea, hc0⟩ := NumsAt.cellAt (HA.a.ext HR.out.1) k (by rw [← HN1.out.2.2.1]; exact hlt)
          obtain ⟨b2, off2, eb, hd0⟩ := NumsAt.cellAt (HB.a.ext HR.out.1) k (by rw [← HN1.out.2.2.2]; exact hlt)
          rw [ea] at c14
          rw [eb] at d14
          clear ea eb
          obtain ⟨x, hx⟩ : ∃ x, x = c.addrs.getD k 0 := ⟨_, rfl⟩
          obtain ⟨y, hy⟩ : ∃ y, y = d.addrs.getD k 0 := ⟨_, rfl⟩
          rw [← hx] at hc0
          rw [← hy] at hd0
          have HX : Hid (x = c.addrs.getD k 0 ∧ y = d.addrs.getD k 0) := ⟨hx, hy⟩
          clear hx hy
          by_cases hxy : x = y
          ·
           subst hxy
           have HX2 : Hid (c.addrs.getD k 0 = d.addrs.getD k 0) := HX.out.1.symm.trans HX.out.2
           clear HX
           go_wp2_with fail
           go_quiet (fail)
           go_wp2
           go_roundg (N1 - (k + 1))
           case measure => omega
           case rel =>
            refine ⟨k + 1, by omega, rfl, by simp, HR.out.1.trans (Ext.drewN _ _), fun j hj => ?_⟩
            by_cases hjk : j = k
            ·
             subst hjk; exact HX2.out
            ·
             exact HR.out.2 j (by omega)
          ·
           have hd2 : (x != y) = true := by simpa using hxy
           have hd3 : (x == y) = false := by simpa using hxy
           have hd4 : decide (x = y) = false := by simpa using hxy
           have HG : Hid (c.addrs ≠ d.addrs) := fun e => hxy (by rw [HX.out.1, HX.out.2, e])
           clear HX
           go_wp2_with fail
           go_quiet (fail)
           go_wp2
           go_ret
           exact ⟨by rw [refSameB_a HG.out]; rfl, (HE6.out.trans HR.out.1).trans (Ext.drewN _ _)⟩
         ·
          have hd : decide ((k : Int) < (N1 : Int)) = false := decide_eq_false (by omega)
          have HGa : Hid (c.addrs = d.addrs) := list_same 0 (by rw [← HN1.out.2.2.1, ← HN1.out.2.2.2]) (fun j hj => HR.out.2 j (by have := HN1.out.2.2.1; omega))
          go_wp2
          clear hlt hd
          have HL : Hid (Ext w6 wr) := HR.out.1
          clear HR c14 d14 hk hm1
          obtain ⟨N2, hN2⟩ : ∃ N, N = s.gN := ⟨_, rfl⟩
          have HN2 : Hid (s.gN = N2 ∧ u.gN = N2 ∧ N2 = c.gaps.length ∧ N2 = d.gaps.length) := ⟨hN2.symm, by rw [hN2]; exact q4.symm, by rw [hN2]; exact (PairsAt.len HA.g).1, by rw [hN2, q4]; exact (PairsAt.len HB.g).1⟩
          have hmN2 : N2 ≤ 9223372036854775807 := by have := (PairsAt.len HA.g).2.1; rw [← hN2] at this; exact this
          clear hN2
          go_loopg [8] N2 (fun gm t wr => ∃ k : Nat, k ≤ N2 ∧ gm = N2 - k ∧ t = .int .i64 (k : Int) ∧ Hid (Ext w6 wr ∧ ∀ j, j < k → c.gaps.getD j (0, 0) = d.gaps.getD j (0, 0)))
          case atStart => exact ⟨0, Nat.zero_le _, rfl, rfl, HL.out, fun j hj => absurd hj (by omega)⟩
          case round =>
           obtain ⟨k, hk, rfl, rfl, HR⟩ := hrel
           have c16 := cv16 (hbC6.ext HR.out.1)
           have d16 := cv16 (hbD6.ext HR.out.1)
           rw [HN2.out.1] at c16
           rw [HN2.out.2.1] at d16
           by_cases hlt : k < N2
           ·
            have hd : decide ((k : Int) < (N2 : Int)) = true := decide_eq_true (by omega)
            have hkn : (k : Int) < (N2 : Int) := by omega
            obtain ⟨b, off, ea, hc0, hc1⟩ := PairsAt.cellAt (HA.g.ext HR.out.1) k (by rw [← HN2.out.2.2.1]; exact hlt)
            obtain ⟨b2, off2, eb, hd0, hd1⟩ := PairsAt.cellAt (HB.g.ext HR.out.1) k (by rw [← HN2.out.2.2.2]; exact hlt)
            rw [ea] at c16
            rw [eb] at d16
            clear ea eb
            obtain ⟨p, hp⟩ : ∃ p, p = c.gaps.getD k (0, 0) := ⟨_, rfl⟩
            obtain ⟨q, hq⟩ : ∃ q, q = d.gaps.getD k (0, 0) := ⟨_, rfl⟩
            rw [← hp] at hc0 hc1
            rw [← hq] at hd0 hd1
            obtain ⟨x, x2⟩ := p
            obtain ⟨y, y2⟩ := q
            have HX : Hid ((x, x2) = c.gaps.getD k (0, 0) ∧ (y, y2) = d.gaps.getD k (0, 0)) := ⟨hp, hq⟩
            clear hp hq
            dsimp only at hc0 hc1 hd0 hd1
            have HBq : Hid ((!(x == y && x2 == y2)) = !(decide ((x, x2) = (y, y2)))) := show _ = _ by
             congr 1
             rw [Bool.eq_iff_iff]; simp
            go_wp2_with fail
            replace hc0 := (Ext.drew wr).cell hc0
            replace hc1 := (Ext.drew wr).cell hc1
            replace hd0 := (Ext.drew wr).cell hd0
            replace hd1 := (Ext.drew wr).cell hd1
            replace c16 := (Ext.drew wr).cell c16
            replace d16 := (Ext.drew wr).cell d16
            refine wp_region_facts (fun t => bif Nat.ble 202 t && Nat.ble t 212 then some (t - 202) else none) 249 Ext
             [Is (.pointer (some ⟨w.heap.size, 16, none⟩)),
              Is (.slice (some ⟨b, off, none⟩) N2 s.gC),
              Is (.int .i64 (k : Int)),
              Is (.pointer (some ⟨b, off + k * 2, none⟩)),
              Is (.agg #[.int .i64 x, .int .i64 x2]),
              Is (.pointer (some ⟨w1.heap.size, 16, none⟩)),
              Is (.slice (some ⟨b2, off2, none⟩) N2 u.gC),
              Is (.int .i64 (k : Int)),
              Is (.pointer (some ⟨b2, off2 + k * 2, none⟩)),
              Is (.agg #[.int .i64 y, .int .i64 y2]),
              Is (.bool (!(x == y && x2 == y2)))]
             rfl (by kernel_rfl) (by kernel_rfl) rfl Ext.refl (fun _ _ _ => Ext.trans) (Ks (Ks (Ks (Ks (Ks (Ks (Ks (Ks (Ks (Ks (Ks (KeepAll.nil)))))))))))) ?_ ?_
            ·
             refine Gc (ln1 (gd0 rfl) rfl (ouI rfl) iA (fun r wx hR h1 => by simp [execOp, h1, go_sem])) ?_
             refine Gc (ln1 (gd0 rfl) rfl (ouI rfl) iA (fun r wx hR h1 => exg oneSG2 rfl h1 (hR.cell c16))) ?_
             refine Gc (lmv rfl (.inl rfl) rfl rfl iB) ?_
             refine Gc (ln2 (gd0 rfl) rfl (ouI rfl) iA iA (fun r wx hR h1 h2 => by simp [execOp, h1, h2, go_sem, hkn])) ?_
             refine Gc ?_ ?_
             ·
              rintro r wx hR ⟨h1, _⟩
              replace h1 : r (.tmp 205) = .pointer (some ⟨b, off + k * 2, none⟩) := h1
              exact gvo (exec_loadC rowGp2 rfl h1 [.int .i64 x, .int .i64 x2] (two_cells (hR.cell hc0) (hR.cell hc1)) rfl) ⟨Ext.refl _, rfl⟩
             refine Gc (ln1 (gd0 rfl) rfl (ouI rfl) iA (fun r wx hR h1 => by simp [execOp, h1, go_sem])) ?_
             refine Gc (ln1 (gd0 rfl) rfl (ouI rfl) iA (fun r wx hR h1 => exg oneSG2 rfl h1 (hR.cell d16))) ?_
             refine Gc (lmv rfl (.inl rfl) rfl rfl iB) ?_
             refine Gc (ln2 (gd0 rfl) rfl (ouI rfl) iA iA (fun r wx hR h1 h2 => by simp [execOp, h1, h2, go_sem, hkn])) ?_
             refine Gc (ln1 (gd0 rfl) rfl (ouI rfl) iA (fun r wx hR h1 => exec_loadC rowGp2 rfl h1 [.int .i64 y, .int .i64 y2] (two_cells (hR.cell hd0) (hR.cell hd1)) rfl)) ?_
             refine Gc (ln2 (gd0 rfl) rfl (ouI rfl) iA iA (fun r wx hR h1 h2 => exec_neqP pqG2 rfl h1 h2)) ?_
             exact GoodAll.nil
            ·
             intro vs7 w7 a7 hR hold ha7
             have hv : vs7 10 = (.bool (!(x == y && x2 == y2))) := hold.at 10
             simp only [putAll, Act.put, Nat.zero_add, Nat.reduceAdd, hv, List.setIfInBounds_toArray, List.set_cons_succ, List.set_cons_zero] at ha7
             subst ha7
             clear hold hv
             rw [HBq.out]
             by_cases hxy : (x, x2) = (y, y2)
             ·
              have HX2 : Hid (c.gaps.getD k (0, 0) = d.gaps.getD k (0, 0)) := HX.out.1.symm.trans (hxy.trans HX.out.2)
              rw [decide_eq_true hxy]
              clear HX HBq hxy hc0 hc1 hd0 hd1 c16 d16
              go_wp2
              go_roundg (N2 - (k + 1))
              case measure => omega
              case rel =>
               refine ⟨k + 1, by omega, rfl, by simp, HR.out.1.trans ((Ext.drew _).trans hR), fun j hj => ?_⟩
               by_cases hjk : j = k
               ·
                subst hjk; exact HX2.out
               ·
                exact HR.out.2 j (by omega)
             ·
              have HG : Hid (c.gaps ≠ d.gaps) := fun e => hxy (by rw [HX.out.1, HX.out.2, e])
              rw [decide_eq_false hxy]
              clear HX HBq hxy hc0 hc1 hd0 hd1 c16 d16
              go_wp2
              go_ret
              exact ⟨by rw [refSameB_g HG.out]; rfl, HE6.out.trans (HR.out.1.trans ((Ext.drew _).trans hR))⟩
           ·
            have hd : decide ((k : Int) < (N2 : Int)) = false := decide_eq_false (by omega)
            have HGg : Hid (c.gaps = d.gaps) := list_same (0, 0) (by rw [← HN2.out.2.2.1, ← HN2.out.2.2.2]) (fun j hj => HR.out.2 j (by have := HN2.out.2.2.1; omega))
            go_wp2
            clear hlt hd c16 d16
            have HL : Hid (Ext w6 wr) := HR.out.1
            clear HR hk hmN2
            obtain ⟨N3, hN3⟩ : ∃ N, N = s.dN := ⟨_, rfl⟩
            have HN3 : Hid (s.dN = N3 ∧ u.dN = N3 ∧ N3 = (ci c.dups).length ∧ N3 = (ci d.dups).length) := ⟨hN3.symm, by rw [hN3]; exact q5.symm, by rw [hN3]; exact (nums_len HA.d).1, by rw [hN3, q5]; exact (nums_len HB.d).1⟩
            have hm3 : N3 ≤ 9223372036854775807 := by have := (nums_len HA.d).2; rw [← hN3] at this; exact this
            clear hN3
            go_loopg [9] N3 (fun gm t wr => ∃ k : Nat, k ≤ N3 ∧ gm = N3 - k ∧ t = .int .i64 (k : Int) ∧ Hid (Ext w6 wr ∧ ∀ j, j < k → (ci c.dups).getD j 0 = (ci d.dups).getD j 0))
            case atStart => exact ⟨0, Nat.zero_le _, rfl, rfl, HL.out, fun j hj => absurd hj (by omega)⟩
            case round =>
             obtain ⟨k, hk, rfl, rfl, HR⟩ := hrel
             have c17 := cv17 (hbC6.ext HR.out.1)
             have d17 := cv17 (hbD6.ext HR.out.1)
             rw [HN3.out.1] at c17
             rw [HN3.out.2.1] at d17
             by_cases hlt : k < N3
             ·
              have hd : decide ((k : Int) < (N3 : Int)) = true := decide_eq_true (by omega)
              have hkn : (k : Int) < (N3 : Int) := by omega
              obtain ⟨b, off, ea, hc0⟩ := NumsAt.cellAt (HA.d.ext HR.out.1) k (by rw [← HN3.out.2.2.1]; exact hlt)
              obtain ⟨b2, off2, eb, hd0⟩ := NumsAt.cellAt (HB.d.ext HR.out.1) k (by rw [← HN3.out.2.2.2]; exact hlt)
              rw [ea] at c17
              rw [eb] at d17
              clear ea eb
              obtain ⟨x, hx⟩ : ∃ x, x = (ci c.dups).getD k 0 := ⟨_, rfl⟩
              obtain ⟨y, hy⟩ : ∃ y, y = (ci d.dups).getD k 0 := ⟨_, rfl⟩
              rw [← hx] at hc0
              rw [← hy] at hd0
              have HX : Hid (x = (ci c.dups).getD k 0 ∧ y = (ci d.dups).getD k 0) := ⟨hx, hy⟩
              clear hx hy
              by_cases hxy : x = y
              ·
               subst hxy
               have HX2 : Hid ((ci c.dups).getD k 0 = (ci d.dups).getD k 0) := HX.out.1.symm.trans HX.out.2
               clear HX
               go_wp2_with fail
               go_quiet (fail)
               go_wp2
               go_roundg (N3 - (k + 1))
               case measure => omega
               case rel =>
                refine ⟨k + 1, by omega, rfl, by simp, HR.out.1.trans (Ext.drewN _ _), fun j hj => ?_⟩
                by_cases hjk : j = k
                ·
                 subst hjk; exact HX2.out
                ·
                 exact HR.out.2 j (by omega)
              ·
               have hd2 : (x != y) = true := by simpa using hxy
               have hd3 : (x == y) = false := by simpa using hxy
               have hd4 : decide (x = y) = false := by simpa using hxy
               have HG : Hid (c.dups ≠ d.dups) := fun e => hxy (by rw [HX.out.1, HX.out.2, e])
               clear HX
               go_wp2_with fail
               go_quiet (fail)
               go_wp2
               go_ret
               exact ⟨by rw [refSameB_d HG.out]; rfl, (HE6.out.trans HR.out.1).trans (Ext.drewN _ _)⟩
             ·
              have hd : decide ((k : Int) < (N3 : Int)) = false := decide_eq_false (by omega)
              have HGd : Hid (c.dups = d.dups) := show _ = _ by
               have e : ci c.dups = ci d.dups := list_same 0 (by rw [← HN3.out.2.2.1, ← HN3.out.2.2.2]) (fun j hj => HR.out.2 j (by have := HN3.out.2.2.1; omega))
               have h := congrArg (List.map Int.toNat) e
               simpa [ci, Function.comp_def] using h
              go_wp2
              clear hlt hd c17 d17
              have HL : Hid (Ext w6 wr) := HR.out.1
              clear HR hk hm3
              obtain ⟨N4, hN4⟩ : ∃ N, N = s.oN := ⟨_, rfl⟩
              have HN4 : Hid (s.oN = N4 ∧ u.oN = N4 ∧ N4 = c.ops.length ∧ N4 = d.ops.length) := ⟨hN4.symm, by rw [hN4]; exact q6.symm, by rw [hN4]; exact (PairsAt.len HA.o).1, by rw [hN4, q6]; exact (PairsAt.len HB.o).1⟩
              have hmN4 : N4 ≤ 9223372036854775807 := by have := (PairsAt.len HA.o).2.1; rw [← hN4] at this; exact this
              clear hN4
              go_loopg [10] N4 (fun gm t wr => ∃ k : Nat, k ≤ N4 ∧ gm = N4 - k ∧ t = .int .i64 (k : Int) ∧ Hid (Ext w6 wr ∧ ∀ j, j < k → c.ops.getD j (0, 0) = d.ops.getD j (0, 0)))
              case atStart => exact ⟨0, Nat.zero_le _, rfl, rfl, HL.out, fun j hj => absurd hj (by omega)⟩
              case round =>
               obtain ⟨k, hk, rfl, rfl, HR⟩ := hrel
               have c16 := cv20 (hbC6.ext HR.out.1)
               have d16 := cv20 (hbD6.ext HR.out.1)
               rw [HN4.out.1] at c16
               rw [HN4.out.2.1] at d16
               by_cases hlt : k < N4
               ·
                have hd : decide ((k : Int) < (N4 : Int)) = true := decide_eq_true (by omega)
                have hkn : (k : Int) < (N4 : Int) := by omega
                obtain ⟨b, off, ea, hc0, hc1⟩ := PairsAt.cellAt (HA.o.ext HR.out.1) k (by rw [← HN4.out.2.2.1]; exact hlt)
                obtain ⟨b2, off2, eb, hd0, hd1⟩ := PairsAt.cellAt (HB.o.ext HR.out.1) k (by rw [← HN4.out.2.2.2]; exact hlt)
                rw [ea] at c16
                rw [eb] at d16
                clear ea eb
                obtain ⟨p, hp⟩ : ∃ p, p = c.ops.getD k (0, 0) := ⟨_, rfl⟩
                obtain ⟨q, hq⟩ : ∃ q, q = d.ops.getD k (0, 0) := ⟨_, rfl⟩
                rw [← hp] at hc0 hc1
                rw [← hq] at hd0 hd1
                obtain ⟨x, x2⟩ := p
                obtain ⟨y, y2⟩ := q
                have HX : Hid ((x, x2) = c.ops.getD k (0, 0) ∧ (y, y2) = d.ops.getD k (0, 0)) := ⟨hp, hq⟩
                clear hp hq
                dsimp only at hc0 hc1 hd0 hd1
                have HBq : Hid ((!(x == y && x2 == y2)) = !(decide ((x, x2) = (y, y2)))) := show _ = _ by
                 congr 1
                 rw [Bool.eq_iff_iff]; simp
                go_wp2_with fail
                replace hc0 := (Ext.drew wr).cell hc0
                replace hc1 := (Ext.drew wr).cell hc1
                replace hd0 := (Ext.drew wr).cell hd0
                replace hd1 := (Ext.drew wr).cell hd1
                replace c16 := (Ext.drew wr).cell c16
                replace d16 := (Ext.drew wr).cell d16
                refine wp_region_facts (fun t => bif Nat.ble 238 t && Nat.ble t 248 then some (t - 238) else none) 249 Ext
                 [Is (.pointer (some ⟨w.heap.size, 20, none⟩)),
                  Is (.slice (some ⟨b, off, none⟩) N4 s.oC),
                  Is (.int .i64 (k : Int)),
                  Is (.pointer (some ⟨b, off + k * 2, none⟩)),
                  Is (.agg #[.int .i64 x, .int .i64 x2]),
                  Is (.pointer (some ⟨w1.heap.size, 20, none⟩)),
                  Is (.slice (some ⟨b2, off2, none⟩) N4 u.oC),
                  Is (.int .i64 (k : Int)),
                  Is (.pointer (some ⟨b2, off2 + k * 2, none⟩)),
                  Is (.agg #[.int .i64 y, .int .i64 y2]),
                  Is (.bool (!(x == y && x2 == y2)))]
                 rfl (by kernel_rfl) (by kernel_rfl) rfl Ext.refl (fun _ _ _ => Ext.trans) (Ks (Ks (Ks (Ks (Ks (Ks (Ks (Ks (Ks (Ks (Ks (KeepAll.nil)))))))))))) ?_ ?_
                ·
                 refine Gc (ln1 (gd0 rfl) rfl (ouI rfl) iA (fun r wx hR h1 => by simp [execOp, h1, go_sem])) ?_
                 refine Gc (ln1 (gd0 rfl) rfl (ouI rfl) iA (fun r wx hR h1 => exg oneSO2 rfl h1 (hR.cell c16))) ?_
                 refine Gc (lmv rfl (.inl rfl) rfl rfl iB) ?_
                 refine Gc (ln2 (gd0 rfl) rfl (ouI rfl) iA iA (fun r wx hR h1 h2 => by simp [execOp, h1, h2, go_sem, hkn])) ?_
                 refine Gc ?_ ?_
                 ·
                  rintro r wx hR ⟨h1, _⟩
                  replace h1 : r (.tmp 241) = .pointer (some ⟨b, off + k * 2, none⟩) := h1
                  exact gvo (exec_loadC rowOp2 rfl h1 [.int .i64 x, .int .i64 x2] (two_cells (hR.cell hc0) (hR.cell hc1)) rfl) ⟨Ext.refl _, rfl⟩
                 refine Gc (ln1 (gd0 rfl) rfl (ouI rfl) iA (fun r wx hR h1 => by simp [execOp, h1, go_sem])) ?_
                 refine Gc (ln1 (gd0 rfl) rfl (ouI rfl) iA (fun r wx hR h1 => exg oneSO2 rfl h1 (hR.cell d16))) ?_
                 refine Gc (lmv rfl (.inl rfl) rfl rfl iB) ?_
                 refine Gc (ln2 (gd0 rfl) rfl (ouI rfl) iA iA (fun r wx hR h1 h2 => by simp [execOp, h1, h2, go_sem, hkn])) ?_
                 refine Gc (ln1 (gd0 rfl) rfl (ouI rfl) iA (fun r wx hR h1 => exec_loadC rowOp2 rfl h1 [.int .i64 y, .int .i64 y2] (two_cells (hR.cell hd0) (hR.cell hd1)) rfl)) ?_
                 refine Gc (ln2 (gd0 rfl) rfl (ouI rfl) iA iA (fun r wx hR h1 h2 => exec_neqP pqO2 rfl h1 h2)) ?_
                 exact GoodAll.nil
                ·
                 intro vs7 w7 a7 hR hold ha7
                 have hv : vs7 10 = (.bool (!(x == y && x2 == y2))) := hold.at 10
                 simp only [putAll, Act.put, Nat.zero_add, Nat.reduceAdd, hv, List.setIfInBounds_toArray, List.set_cons_succ, List.set_cons_zero] at ha7
                 subst ha7
                 clear hold hv
                 rw [HBq.out]
                 by_cases hxy : (x, x2) = (y, y2)
                 ·
                  have HX2 : Hid (c.ops.getD k (0, 0) = d.ops.getD k (0, 0)) := HX.out.1.symm.trans (hxy.trans HX.out.2)
                  rw [decide_eq_true hxy]
                  clear HX HBq hxy hc0 hc1 hd0 hd1 c16 d16
                  go_wp2
                  go_roundg (N4 - (k + 1))
                  case measure => omega
                  case rel =>
                   refine ⟨k + 1, by omega, rfl, by simp, HR.out.1.trans ((Ext.drew _).trans hR), fun j hj => ?_⟩
                   by_cases hjk : j = k
                   ·
                    subst hjk; exact HX2.out
                   ·
                    exact HR.out.2 j (by omega)
                 ·
                  have HG : Hid (c.ops ≠ d.ops) := fun e => hxy (by rw [HX.out.1, HX.out.2, e])
                  rw [decide_eq_false hxy]
                  clear HX HBq hxy hc0 hc1 hd0 hd1 c16 d16
                  go_wp2
                  go_ret
                  exact ⟨by rw [refSameB_o HG.out]; rfl, HE6.out.trans (HR.out.1.trans ((Ext.drew _).trans hR))⟩
               ·
                have hd : decide ((k : Int) < (N4 : Int)) = false := decide_eq_false (by omega)
                have HGo : Hid (c.ops = d.ops) := list_same (0, 0) (by rw [← HN4.out.2.2.1, ← HN4.out.2.2.2]) (fun j hj => HR.out.2 j (by have := HN4.out.2.2.1; omega))
                go_wp2
                clear hlt hd c16 d16
                go_ret
                exact ⟨by rw [show refSameB c d = true by simp [refSameB, HF.out.1, HF.out.2.1, HF.out.2.2.1, HF.out.2.2.2, HGa.out, HGg.out, HGd.out, HGo.out]]; rfl, HE6.out.trans HR.out.1⟩
theorem refSameB_eq (c d : Ck) : refSameB c d = sameB c d := by
 rw [Bool.eq_iff_iff]
 simp only [refSameB, diffNB, diffPB, sameB, samePB, Bool.and_eq_true, Bool.not_eq_true', Bool.or_eq_false_iff, decide_eq_true_eq, beq_iff_eq, bne_eq_false_iff_eq, Bool.not_eq_false', Int.ofNat_inj, Int.natCast_inj]
 constructor
 ·
  intro h; simp_all
 ·
  intro h
  have hd : c.dups = d.dups := ci_inj h.1.1.1.1.2
  simp_all
structure TwoA (w0 ws : World) (G T : Nat) (C0 : Array Value) (j1 j2 : Nat) (k1 k2 : IntKind) (e1 e2 : TypeId) (L1 L2 : List Int) (p1 s1 p2 s2 q1 q2 : Value) (L : Nat → Bool) (vs : Nat → Value) (wx : World) : Prop where
 ext : Ext w0 wx
 keep : KeepBut (· = G) ws wx
 blk : ∃ C, Blk wx G C T ∧ C.size = C0.size ∧ (∀ j, j ≠ j1 → j ≠ j2 → C[j]? = C0[j]?) ∧ (L 9 = true → C[j1]? = some (vs 3)) ∧ (L 11 = true → C[j2]? = some (vs 7))
 a0 : L 0 = true → ∃ g, vs 0 = .slice (some ⟨g, 0, none⟩) 0 0 ∧ w0.heap.size ≤ g ∧ Blk wx g #[] e1
 a1 : L 1 = true → vs 1 = p1
 a2 : L 2 = true → vs 2 = s1
 a3 : L 3 = true → (∃ ad cap, vs 3 = .slice ad L1.length cap) ∧ OwnN k1 wx w0.heap.size e1 (vs 3) L1
 a4 : L 4 = true → ∃ g, vs 4 = .slice (some ⟨g, 0, none⟩) 0 0 ∧ w0.heap.size ≤ g ∧ Blk wx g #[] e2
 a5 : L 5 = true → vs 5 = p2
 a6 : L 6 = true → vs 6 = s2
 a7 : L 7 = true → (∃ ad cap, vs 7 = .slice ad L2.length cap) ∧ OwnN k2 wx w0.heap.size e2 (vs 7) L2
 a8 : L 8 = true → vs 8 = q1
 aA : L 10 = true → vs 10 = q2
 i9 : L 9 = true → L 3 = true
 iB : L 11 = true → L 7 = true
section
variable {w0 ws wx : World} {G T j1 j2 : Nat} {C0 : Array Value} {k1 k2 : IntKind} {e1 e2 : TypeId} {L1 L2 : List Int} {p1 s1 p2 s2 q1 q2 : Value} {L : Nat → Bool} {vs : Nat → Value}
theorem TwoA.start (he : Ext w0 wx) (hb : Blk wx G C0 T) : TwoA w0 wx G T C0 j1 j2 k1 k2 e1 e2 L1 L2 p1 s1 p2 s2 q1 q2 (fun i => decide (12 ≤ i)) vs wx :=
 ⟨he, KeepBut.refl _ _, ⟨C0, hb, rfl, fun _ _ _ => rfl, fun h => by simp at h, fun h => by simp at h⟩, fun h => by simp at h, fun h => by simp at h, fun h => by simp at h, fun h => by simp at h, fun h => by simp at h, fun h => by simp at h, fun h => by simp at h, fun h => by simp at h, fun h => by simp at h, fun h => by simp at h, fun h => by simp at h, fun h => by simp at h⟩
theorem TwoA.grow (H : TwoA w0 ws G T C0 j1 j2 k1 k2 e1 e2 L1 L2 p1 s1 p2 s2 q1 q2 L vs wx) {w' : World} (he : Ext wx w') : TwoA w0 ws G T C0 j1 j2 k1 k2 e1 e2 L1 L2 p1 s1 p2 s2 q1 q2 L vs w' := by
 obtain ⟨C, hb, h2⟩ := H.blk
 exact ⟨H.ext.trans he, H.keep.trans (KeepBut.ext he), ⟨C, hb.ext he, h2⟩, fun h => by obtain ⟨g, a, b, c⟩ := H.a0 h; exact ⟨g, a, b, c.ext he⟩, H.a1, H.a2, fun h => ⟨(H.a3 h).1, (H.a3 h).2.ext he⟩, fun h => by obtain ⟨g, a, b, c⟩ := H.a4 h; exact ⟨g, a, b, c.ext he⟩, H.a5, H.a6, fun h => ⟨(H.a7 h).1, (H.a7 h).2.ext he⟩, H.a8, H.aA, H.i9, H.iB⟩
theorem TwoA.op1 (H : TwoA w0 ws G T C0 j1 j2 k1 k2 e1 e2 L1 L2 p1 s1 p2 s2 q1 q2 L vs wx) : TwoA w0 ws G T C0 j1 j2 k1 k2 e1 e2 L1 L2 p1 s1 p2 s2 q1 q2 (met1 L 1) (updV vs 1 p1) wx := { H with a1 := fun _ => rfl }
theorem TwoA.op2 (H : TwoA w0 ws G T C0 j1 j2 k1 k2 e1 e2 L1 L2 p1 s1 p2 s2 q1 q2 L vs wx) : TwoA w0 ws G T C0 j1 j2 k1 k2 e1 e2 L1 L2 p1 s1 p2 s2 q1 q2 (met1 L 2) (updV vs 2 s1) wx := { H with a2 := fun _ => rfl }
theorem TwoA.op5 (H : TwoA w0 ws G T C0 j1 j2 k1 k2 e1 e2 L1 L2 p1 s1 p2 s2 q1 q2 L vs wx) : TwoA w0 ws G T C0 j1 j2 k1 k2 e1 e2 L1 L2 p1 s1 p2 s2 q1 q2 (met1 L 5) (updV vs 5 p2) wx := { H with a5 := fun _ => rfl }
theorem TwoA.op6 (H : TwoA w0 ws G T C0 j1 j2 k1 k2 e1 e2 L1 L2 p1 s1 p2 s2 q1 q2 L vs wx) : TwoA w0 ws G T C0 j1 j2 k1 k2 e1 e2 L1 L2 p1 s1 p2 s2 q1 q2 (met1 L 6) (updV vs 6 s2) wx := { H with a6 := fun _ => rfl }
theorem TwoA.op8 (H : TwoA w0 ws G T C0 j1 j2 k1 k2 e1 e2 L1 L2 p1 s1 p2 s2 q1 q2 L vs wx) : TwoA w0 ws G T C0 j1 j2 k1 k2 e1 e2 L1 L2 p1 s1 p2 s2 q1 q2 (met1 L 8) (updV vs 8 q1) wx := { H with a8 := fun _ => rfl }
theorem TwoA.op10 (H : TwoA w0 ws G T C0 j1 j2 k1 k2 e1 e2 L1 L2 p1 s1 p2 s2 q1 q2 L vs wx) : TwoA w0 ws G T C0 j1 j2 k1 k2 e1 e2 L1 L2 p1 s1 p2 s2 q1 q2 (met1 L 10) (updV vs 10 q2) wx := { H with aA := fun _ => rfl }
theorem TwoA.op0 (H0 : TwoA w0 ws G T C0 j1 j2 k1 k2 e1 e2 L1 L2 p1 s1 p2 s2 q1 q2 L vs wx) : TwoA w0 ws G T C0 j1 j2 k1 k2 e1 e2 L1 L2 p1 s1 p2 s2 q1 q2 (met1 L 0) (updV vs 0 (.slice (some ⟨wx.heap.size, 0, none⟩) 0 0)) (wx.alloc (.cells #[] e1)) := by
 have H := H0.grow (Ext.alloc wx (.cells #[] e1))
 exact { H with a0 := fun _ => ⟨wx.heap.size, rfl, H0.ext.size, Blk.new _ _ _⟩ }
theorem TwoA.op4 (H0 : TwoA w0 ws G T C0 j1 j2 k1 k2 e1 e2 L1 L2 p1 s1 p2 s2 q1 q2 L vs wx) : TwoA w0 ws G T C0 j1 j2 k1 k2 e1 e2 L1 L2 p1 s1 p2 s2 q1 q2 (met1 L 4) (updV vs 4 (.slice (some ⟨wx.heap.size, 0, none⟩) 0 0)) (wx.alloc (.cells #[] e2)) := by
 have H := H0.grow (Ext.alloc wx (.cells #[] e2))
 exact { H with a4 := fun _ => ⟨wx.heap.size, rfl, H0.ext.size, Blk.new _ _ _⟩ }
theorem TwoA.op3 (H0 : TwoA w0 ws G T C0 j1 j2 k1 k2 e1 e2 L1 L2 p1 s1 p2 s2 q1 q2 L vs wx) (hl : L 3 = false) {w' : World} {ad : Option Addr} {cap : Nat} (ho : OwnN k1 w' w0.heap.size e1 (.slice ad L1.length cap) L1) (he : Ext wx w') : TwoA w0 ws G T C0 j1 j2 k1 k2 e1 e2 L1 L2 p1 s1 p2 s2 q1 q2 (met1 L 3) (updV vs 3 (.slice ad L1.length cap)) w' := by
 have H := H0.grow he
 have hb' : ∃ C, Blk w' G C T ∧ C.size = C0.size ∧ (∀ j, j ≠ j1 → j ≠ j2 → C[j]? = C0[j]?) ∧ (met1 L 3 9 = true → C[j1]? = some (updV vs 3 (.slice ad L1.length cap) 3)) ∧ (met1 L 3 11 = true → C[j2]? = some (updV vs 3 (.slice ad L1.length cap) 7)) := by
  obtain ⟨C, hb, h2, h3, h4, h5⟩ := H.blk
  refine ⟨C, hb, h2, h3, fun h => ?_, fun h => ?_⟩
  ·
   have := H.i9 h; rw [hl] at this; cases this
  ·
   exact h5 h
 exact { H with blk := hb', a3 := fun _ => ⟨⟨ad, cap, rfl⟩, ho⟩, i9 := fun _ => rfl }
theorem TwoA.op7 (H0 : TwoA w0 ws G T C0 j1 j2 k1 k2 e1 e2 L1 L2 p1 s1 p2 s2 q1 q2 L vs wx) (hl : L 7 = false) {w' : World} {ad : Option Addr} {cap : Nat} (ho : OwnN k2 w' w0.heap.size e2 (.slice ad L2.length cap) L2) (he : Ext wx w') : TwoA w0 ws G T C0 j1 j2 k1 k2 e1 e2 L1 L2 p1 s1 p2 s2 q1 q2 (met1 L 7) (updV vs 7 (.slice ad L2.length cap)) w' := by
 have H := H0.grow he
 have hb' : ∃ C, Blk w' G C T ∧ C.size = C0.size ∧ (∀ j, j ≠ j1 → j ≠ j2 → C[j]? = C0[j]?) ∧ (met1 L 7 9 = true → C[j1]? = some (updV vs 7 (.slice ad L2.length cap) 3)) ∧ (met1 L 7 11 = true → C[j2]? = some (updV vs 7 (.slice ad L2.length cap) 7)) := by
  obtain ⟨C, hb, h2, h3, h4, h5⟩ := H.blk
  refine ⟨C, hb, h2, h3, fun h => ?_, fun h => ?_⟩
  ·
   exact h4 h
  ·
   have := H.iB h; rw [hl] at this; cases this
 exact { H with blk := hb', a7 := fun _ => ⟨⟨ad, cap, rfl⟩, ho⟩, iB := fun _ => rfl }
theorem TwoA.op9 (H : TwoA w0 ws G T C0 j1 j2 k1 k2 e1 e2 L1 L2 p1 s1 p2 s2 q1 q2 L vs wx) (h3 : L 3 = true) (hG : w0.heap.size ≤ G) (hj : j1 ≠ j2) (hjs : j1 < C0.size) (ht1 : T ≠ e1) (ht2 : T ≠ e2) {v : Value} (hv : v = vs 3) : TwoA w0 ws G T C0 j1 j2 k1 k2 e1 e2 L1 L2 p1 s1 p2 s2 q1 q2 (met1 L 9) (updV vs 9 undef) (wx.setCell ⟨G, j1, none⟩ v) := by
 obtain ⟨C, hb, h2, hc, hd, hd2⟩ := H.blk
 have hk : KeepBut (· = G) wx (wx.setCell ⟨G, j1, none⟩ v) := ⟨rfl, rfl, rfl, by simp, fun k _ hk => block_other hk j1 v⟩
 have hE : ∀ {g : Nat} {e : TypeId}, T ≠ e → Blk wx g #[] e → Blk (wx.setCell ⟨G, j1, none⟩ v) g #[] e := fun {g e} hte hg => hg.but hk (show ¬ g = G from fun e' => by
  subst e'
  have : some (Obj.cells C T (0, 0)) = some (.cells #[] e (0, 0)) := hb.symm.trans hg
  simp only [Option.some.injEq, Obj.cells.injEq] at this
  exact hte this.2.1)
 have hb' : ∃ C, Blk (wx.setCell ⟨G, j1, none⟩ v) G C T ∧ C.size = C0.size ∧ (∀ j, j ≠ j1 → j ≠ j2 → C[j]? = C0[j]?) ∧ (met1 L 9 9 = true → C[j1]? = some (updV vs 9 undef 3)) ∧ (met1 L 9 11 = true → C[j2]? = some (updV vs 9 undef 7)) := by
  refine ⟨_, hb.set j1 v, by simpa using h2, fun j n1 n2 => ?_, fun h => ?_, fun h => ?_⟩
  ·
   rw [Array.getElem?_setIfInBounds_ne (by first | exact fun e => n1 e.symm | exact fun e => n2 e.symm)]; exact hc j n1 n2
  ·
   rw [Array.getElem?_setIfInBounds_self_of_lt (by omega), hv]; rfl
  ·
   rw [Array.getElem?_setIfInBounds_ne hj]; exact hd2 h
 exact ⟨H.ext.of_but hk (fun k e => by subst e; exact hG), H.keep.trans hk, hb', fun h => by obtain ⟨g, a, b, c⟩ := H.a0 h; exact ⟨g, a, b, hE ht1 c⟩, H.a1, H.a2, fun h => ⟨(H.a3 h).1, (H.a3 h).2.mono_via hk (ownsRow_ne (H.a3 h).2.1 hb ht1)⟩, fun h => by obtain ⟨g, a, b, c⟩ := H.a4 h; exact ⟨g, a, b, hE ht2 c⟩, H.a5, H.a6, fun h => ⟨(H.a7 h).1, (H.a7 h).2.mono_via hk (ownsRow_ne (H.a7 h).2.1 hb ht2)⟩, H.a8, H.aA, fun _ => h3, H.iB⟩
theorem TwoA.op11 (H : TwoA w0 ws G T C0 j1 j2 k1 k2 e1 e2 L1 L2 p1 s1 p2 s2 q1 q2 L vs wx) (h3 : L 7 = true) (hG : w0.heap.size ≤ G) (hj : j1 ≠ j2) (hjs : j2 < C0.size) (ht1 : T ≠ e1) (ht2 : T ≠ e2) {v : Value} (hv : v = vs 7) : TwoA w0 ws G T C0 j1 j2 k1 k2 e1 e2 L1 L2 p1 s1 p2 s2 q1 q2 (met1 L 11) (updV vs 11 undef) (wx.setCell ⟨G, j2, none⟩ v) := by
 obtain ⟨C, hb, h2, hc, hd, hd2⟩ := H.blk
 have hk : KeepBut (· = G) wx (wx.setCell ⟨G, j2, none⟩ v) := ⟨rfl, rfl, rfl, by simp, fun k _ hk => block_other hk j2 v⟩
 have hE : ∀ {g : Nat} {e : TypeId}, T ≠ e → Blk wx g #[] e → Blk (wx.setCell ⟨G, j2, none⟩ v) g #[] e := fun {g e} hte hg => hg.but hk (show ¬ g = G from fun e' => by
  subst e'
  have : some (Obj.cells C T (0, 0)) = some (.cells #[] e (0, 0)) := hb.symm.trans hg
  simp only [Option.some.injEq, Obj.cells.injEq] at this
  exact hte this.2.1)
 have hb' : ∃ C, Blk (wx.setCell ⟨G, j2, none⟩ v) G C T ∧ C.size = C0.size ∧ (∀ j, j ≠ j1 → j ≠ j2 → C[j]? = C0[j]?) ∧ (met1 L 11 9 = true → C[j1]? = some (updV vs 11 undef 3)) ∧ (met1 L 11 11 = true → C[j2]? = some (updV vs 11 undef 7)) := by
  refine ⟨_, hb.set j2 v, by simpa using h2, fun j n1 n2 => ?_, fun h => ?_, fun h => ?_⟩
  ·
   rw [Array.getElem?_setIfInBounds_ne (by first | exact fun e => n1 e.symm | exact fun e => n2 e.symm)]; exact hc j n1 n2
  ·
   rw [Array.getElem?_setIfInBounds_ne (fun e => hj e.symm)]; exact hd h
  ·
   rw [Array.getElem?_setIfInBounds_self_of_lt (by omega), hv]; rfl
 exact ⟨H.ext.of_but hk (fun k e => by subst e; exact hG), H.keep.trans hk, hb', fun h => by obtain ⟨g, a, b, c⟩ := H.a0 h; exact ⟨g, a, b, hE ht1 c⟩, H.a1, H.a2, fun h => ⟨(H.a3 h).1, (H.a3 h).2.mono_via hk (ownsRow_ne (H.a3 h).2.1 hb ht1)⟩, fun h => by obtain ⟨g, a, b, c⟩ := H.a4 h; exact ⟨g, a, b, hE ht2 c⟩, H.a5, H.a6, fun h => ⟨(H.a7 h).1, (H.a7 h).2.mono_via hk (ownsRow_ne (H.a7 h).2.1 hb ht2)⟩, H.a8, H.aA, H.i9, fun _ => h3⟩
theorem TwoA.done (H : TwoA w0 ws G T C0 j1 j2 k1 k2 e1 e2 L1 L2 p1 s1 p2 s2 q1 q2 (fun _ => true) vs wx) (hj : j1 ≠ j2) (h1 : j1 < C0.size) (h2 : j2 < C0.size) : ∃ ad1 c1 ad2 c2, vs 3 = .slice ad1 L1.length c1 ∧ vs 7 = .slice ad2 L2.length c2 ∧ Blk wx G ((C0.setIfInBounds j1 (.slice ad1 L1.length c1)).setIfInBounds j2 (.slice ad2 L2.length c2)) T ∧ OwnN k1 wx w0.heap.size e1 (.slice ad1 L1.length c1) L1 ∧ OwnN k2 wx w0.heap.size e2 (.slice ad2 L2.length c2) L2 := by
 obtain ⟨⟨ad1, c1, v3⟩, o3⟩ := H.a3 rfl
 obtain ⟨⟨ad2, c2, v7⟩, o7⟩ := H.a7 rfl
 obtain ⟨C, hb, hs, hc, hd1, hd2⟩ := H.blk
 rw [v3] at o3
 rw [v7] at o7
 refine ⟨ad1, c1, ad2, c2, v3, v7, ?_, o3, o7⟩
 have e : C = (C0.setIfInBounds j1 (.slice ad1 L1.length c1)).setIfInBounds j2 (.slice ad2 L2.length c2) := by
  apply Array.ext_getElem?
  intro j
  by_cases hj2 : j2 = j
  ·
   subst hj2
   rw [hd2 rfl, v7, Array.getElem?_setIfInBounds_self_of_lt (by simpa using h2)]
  ·
   rw [Array.getElem?_setIfInBounds_ne hj2]
   by_cases hj1 : j1 = j
   ·
    subst hj1
    rw [hd1 rfl, v3, Array.getElem?_setIfInBounds_self_of_lt h1]
   ·
    rw [Array.getElem?_setIfInBounds_ne hj1]
    exact hc j (fun e => hj1 e.symm) (fun e => hj2 e.symm)
 rw [← e]; exact hb
end
structure Half (w0 w : World) (q : Nat) (c c' : Ck) (s s' : Sv) (B : List Nat) (st : Option Nat) (gi : Nat) (bv : Value) : Prop where
 ext : Ext w0 w
 lo : w0.heap.size ≤ q
 own : OwnC w w0.heap.size s' c'
 fit : Fit c'
 hb : Blk w q (RV c s (ptr gi)) 91
 ne : gi ≠ q
 lg : w0.heap.size ≤ gi
 hi : InAt w w0.heap.size gi bv B st
theorem Half.store {w0 w : World} {q j : Nat} {c c' : Ck} {s s' : Sv} {B : List Nat} {st : Option Nat} {gi : Nat} {bv v : Value} (h : Half w0 w q c c' s s' B st gi bv) (hset : ∀ z, (RV c s z).setIfInBounds j v = RV c' s' z) : RS w0 (w.setCell ⟨q, j, none⟩ v) q c' s' B st := by
 have hk : KeepBut (· = q) w (w.setCell ⟨q, j, none⟩ v) := ⟨rfl, rfl, rfl, by simp, fun k _ hk => block_other hk j v⟩
 have hb' : Blk (w.setCell ⟨q, j, none⟩ v) q (RV c' s' (ptr gi)) 91 := by rw [← hset]; exact h.hb.set j v
 exact ⟨h.ext.of_but hk (fun k e => by subst e; exact h.lo), h.lo, h.own.but hk h.hb noRd, h.fit, gi, bv, hb', h.ne, h.lg, h.hi.but hk h.ne (h.hi.own.ne h.hb (by decide))⟩
theorem in_but {w w' : World} {base base' g e n size : Nat} {bv v : Value} {B : List Nat} {st : Option Nat} {xs : List Value} (h : InAt w base g bv B st) (ho : w.ownsRow base' e size v n xs) (h5 : 5 ≠ e) (hI : 126 ≠ e) (hk : KeepBut (fun k => v.ownBlock = some k) w w') : InAt w' base g bv B st := by
 obtain ⟨own, a, b, hb, h2⟩ := h
 exact ⟨own.but hk (own_apart own.own.1 ho h5), a, b, hb.but hk (fun e => ownsRow_ne ho hb hI _ e rfl), h2⟩
theorem RSg.app_g {w0 w : World} {q : Nat} {c : Ck} {s : Sv} {B : List Nat} {st : Option Nat} {gi : Nat} {bv u : Value} {p : (Int × Int)} (h : RSg w0 w q c s B st gi bv) (hx : PairsAt w u [p]) (hl : c.gaps.length ≤ 100000) (hp : W64 p.1 ∧ W64 p.2) (ty : Nat) :
  ∃ ad n cap w', (Builtin.append_ #[35, 35] ty #[.slice s.gA s.gN s.gC, u]).run Try.prog w = .ok (.slice ad n cap) w' ∧ Half w0 w' q c { c with gaps := c.gaps ++ [p] } s { s with gA := ad, gN := n, gC := cap } B st gi bv ∧ KeepBut (fun k => (Value.slice s.gA s.gN s.gC).ownBlock = some k) w w' := by
 obtain ⟨ad, cap, w', hr, ho, hk, hgg⟩ := run_appP prG w w0.heap.size ty _ u c.gaps [p] h.rs.own.g hx (by simp; omega) h.rs.ext.size
 refine ⟨ad, _, cap, w', hr, ⟨h.rs.ext.of_but hk (fun k e => (OwnP.lt h.rs.own.g e).1), h.rs.lo, ⟨h.rs.own.t.but hk (own_apart h.rs.own.t.own.1 h.rs.own.g.1 (by decide)), h.rs.own.r.but hk (own_apart h.rs.own.r.own.1 h.rs.own.g.1 (by decide)), h.rs.own.a.mono_via hk (own_apart h.rs.own.a.1 h.rs.own.g.1 (by decide)), h.rs.own.i.but hk (own_apart h.rs.own.i.own.1 h.rs.own.g.1 (by decide)), ho, h.rs.own.d.mono_via hk (own_apart h.rs.own.d.1 h.rs.own.g.1 (by decide)), h.rs.own.o.but hk (own_apart h.rs.own.o.1 h.rs.own.g.1 (by decide))⟩, { h.rs.fit with gaps := fun y hy => ?_ }, h.hb.but hk (fun e => ownsRow_ne h.rs.own.g.1 h.hb (by decide) _ e rfl), h.ne, h.lo, in_but h.hi h.rs.own.g.1 (by decide) (by decide) hk⟩, hk⟩
 rcases List.mem_append.1 hy with hy | hy
 ·
  exact h.rs.fit.gaps y hy
 ·
  rw [List.mem_singleton.1 hy]; exact hp
theorem give_app_g {w0 w : World} {q : Nat} {c : Ck} {s : Sv} {B : List Nat} {st : Option Nat} {u : Value} {p : (Int × Int)} (h : RS w0 w q c s B st) (hx : PairsAt w u [p]) (hl : c.gaps.length ≤ 100000) (hp : W64 p.1 ∧ W64 p.2) {r : Operand → Value} {o : Oper} {K : Value → World → Prop} {x y : Operand} (ho : o.op = .call { callee := .builtin .append, args := #[x, y], argTypes := #[35, 35] }) (hs : r x = .slice s.gA s.gN s.gC) (hy : r y = u)
  (hk : ∀ ad n cap w' gi bv, Half w0 w' q c { c with gaps := c.gaps ++ [p] } s { s with gA := ad, gN := n, gC := cap } B st gi bv → KeepBut (fun k => (Value.slice s.gA s.gN s.gC).ownBlock = some k) w w' → K (.slice ad n cap) w') : give Try.prog K ((execOp r o).run Try.prog w) := by
 obtain ⟨gi, bv, hg⟩ := h.g
 obtain ⟨ad, n, cap, w', hr, h1, h2⟩ := hg.app_g hx hl hp o.type
 refine gvo (v := .slice ad n cap) (w' := w') ?_ (hk ad n cap w' gi bv h1 h2)
 simp only [execOp, ho, resolve, invoke, builtin, Sem.run_bind, Sem.run_pure, Result.andThen_ok, List.map_toArray, List.map_cons, List.map_nil, hs, hy, hr]
theorem RSg.app_o {w0 w : World} {q : Nat} {c : Ck} {s : Sv} {B : List Nat} {st : Option Nat} {gi : Nat} {bv u : Value} {p : (Int × Int)} (h : RSg w0 w q c s B st gi bv) (hx : PairsAt w u [p]) (hl : c.ops.length ≤ 100000) (hp : W64 p.1 ∧ W64 p.2) (ty : Nat) :
  ∃ ad n cap w', (Builtin.append_ #[36, 36] ty #[.slice s.oA s.oN s.oC, u]).run Try.prog w = .ok (.slice ad n cap) w' ∧ Half w0 w' q c { c with ops := c.ops ++ [p] } s { s with oA := ad, oN := n, oC := cap } B st gi bv ∧ KeepBut (fun k => (Value.slice s.oA s.oN s.oC).ownBlock = some k) w w' := by
 obtain ⟨ad, cap, w', hr, ho, hk, hgg⟩ := run_appP prO w w0.heap.size ty _ u c.ops [p] h.rs.own.o hx (by simp; omega) h.rs.ext.size
 refine ⟨ad, _, cap, w', hr, ⟨h.rs.ext.of_but hk (fun k e => (OwnP.lt h.rs.own.o e).1), h.rs.lo, ⟨h.rs.own.t.but hk (own_apart h.rs.own.t.own.1 h.rs.own.o.1 (by decide)), h.rs.own.r.but hk (own_apart h.rs.own.r.own.1 h.rs.own.o.1 (by decide)), h.rs.own.a.mono_via hk (own_apart h.rs.own.a.1 h.rs.own.o.1 (by decide)), h.rs.own.i.but hk (own_apart h.rs.own.i.own.1 h.rs.own.o.1 (by decide)), h.rs.own.g.but hk (own_apart h.rs.own.g.1 h.rs.own.o.1 (by decide)), h.rs.own.d.mono_via hk (own_apart h.rs.own.d.1 h.rs.own.o.1 (by decide)), ho⟩, { h.rs.fit with ops := fun y hy => ?_ }, h.hb.but hk (fun e => ownsRow_ne h.rs.own.o.1 h.hb (by decide) _ e rfl), h.ne, h.lo, in_but h.hi h.rs.own.o.1 (by decide) (by decide) hk⟩, hk⟩
 rcases List.mem_append.1 hy with hy | hy
 ·
  exact h.rs.fit.ops y hy
 ·
  rw [List.mem_singleton.1 hy]; exact hp
theorem give_app_o {w0 w : World} {q : Nat} {c : Ck} {s : Sv} {B : List Nat} {st : Option Nat} {u : Value} {p : (Int × Int)} (h : RS w0 w q c s B st) (hx : PairsAt w u [p]) (hl : c.ops.length ≤ 100000) (hp : W64 p.1 ∧ W64 p.2) {r : Operand → Value} {o : Oper} {K : Value → World → Prop} {x y : Operand} (ho : o.op = .call { callee := .builtin .append, args := #[x, y], argTypes := #[36, 36] }) (hs : r x = .slice s.oA s.oN s.oC) (hy : r y = u)
  (hk : ∀ ad n cap w' gi bv, Half w0 w' q c { c with ops := c.ops ++ [p] } s { s with oA := ad, oN := n, oC := cap } B st gi bv → KeepBut (fun k => (Value.slice s.oA s.oN s.oC).ownBlock = some k) w w' → K (.slice ad n cap) w') : give Try.prog K ((execOp r o).run Try.prog w) := by
 obtain ⟨gi, bv, hg⟩ := h.g
 obtain ⟨ad, n, cap, w', hr, h1, h2⟩ := hg.app_o hx hl hp o.type
 refine gvo (v := .slice ad n cap) (w' := w') ?_ (hk ad n cap w' gi bv h1 h2)
 simp only [execOp, ho, resolve, invoke, builtin, Sem.run_bind, Sem.run_pure, Result.andThen_ok, List.map_toArray, List.map_cons, List.map_nil, hs, hy, hr]
theorem RSg.app_a {w0 w : World} {q : Nat} {c : Ck} {s : Sv} {B : List Nat} {st : Option Nat} {gi : Nat} {bv u : Value} {p : Int} (h : RSg w0 w q c s B st gi bv) (hx : NumsAt .i64 w u [p]) (hl : c.addrs.length ≤ 100000) (hp : W64 p) (ty : Nat) :
  ∃ ad n cap w', (Builtin.append_ #[27, 27] ty #[.slice s.aA s.aN s.aC, u]).run Try.prog w = .ok (.slice ad n cap) w' ∧ Half w0 w' q c { c with addrs := c.addrs ++ [p] } s { s with aA := ad, aN := n, aC := cap } B st gi bv ∧ KeepBut (fun k => (Value.slice s.aA s.aN s.aC).ownBlock = some k) w w' := by
 obtain ⟨v', w', hr, ho, hg2, hgg⟩ := run_append_nums numTA w w0.heap.size ty _ u _ [(p : Int)] h.rs.own.a hx (by simp only [List.length_cons, List.length_nil]; omega) (by simp; omega) h.rs.ext.size
 have hk : KeepBut (fun k => (Value.slice s.aA s.aN s.aC).ownBlock = some k) w w' := KeepBut.grown hg2 (fun r e => e)
 obtain ⟨ad, cap, rfl, _⟩ := ho.slice
 refine ⟨ad, _, cap, w', hr, ⟨h.rs.ext.of_but hk (fun k e => (h.rs.own.a.lt e).1), h.rs.lo, ⟨h.rs.own.t.but hk (own_apart h.rs.own.t.own.1 h.rs.own.a.1 (by decide)), h.rs.own.r.but hk (own_apart h.rs.own.r.own.1 h.rs.own.a.1 (by decide)), ho, h.rs.own.i.but hk (own_apart h.rs.own.i.own.1 h.rs.own.a.1 (by decide)), h.rs.own.g.but hk (own_apart h.rs.own.g.1 h.rs.own.a.1 (by decide)), h.rs.own.d.mono_via hk (own_apart h.rs.own.d.1 h.rs.own.a.1 (by decide)), h.rs.own.o.but hk (own_apart h.rs.own.o.1 h.rs.own.a.1 (by decide))⟩, { h.rs.fit with addrs := fun y hy => ?_ }, h.hb.but hk (fun e => ownsRow_ne h.rs.own.a.1 h.hb (by decide) _ e rfl), h.ne, h.lo, in_but h.hi h.rs.own.a.1 (by decide) (by decide) hk⟩, hk⟩
 rcases List.mem_append.1 hy with hy | hy
 ·
  exact h.rs.fit.addrs y hy
 ·
  rw [List.mem_singleton.1 hy]; exact hp
theorem give_app_a {w0 w : World} {q : Nat} {c : Ck} {s : Sv} {B : List Nat} {st : Option Nat} {u : Value} {p : Int} (h : RS w0 w q c s B st) (hx : NumsAt .i64 w u [p]) (hl : c.addrs.length ≤ 100000) (hp : W64 p) {r : Operand → Value} {o : Oper} {K : Value → World → Prop} {x y : Operand} (ho : o.op = .call { callee := .builtin .append, args := #[x, y], argTypes := #[27, 27] }) (hs : r x = .slice s.aA s.aN s.aC) (hy : r y = u)
  (hk : ∀ ad n cap w' gi bv, Half w0 w' q c { c with addrs := c.addrs ++ [p] } s { s with aA := ad, aN := n, aC := cap } B st gi bv → KeepBut (fun k => (Value.slice s.aA s.aN s.aC).ownBlock = some k) w w' → K (.slice ad n cap) w') : give Try.prog K ((execOp r o).run Try.prog w) := by
 obtain ⟨gi, bv, hg⟩ := h.g
 obtain ⟨ad, n, cap, w', hr, h1, h2⟩ := hg.app_a hx hl hp o.type
 refine gvo (v := .slice ad n cap) (w' := w') ?_ (hk ad n cap w' gi bv h1 h2)
 simp only [execOp, ho, resolve, invoke, builtin, Sem.run_bind, Sem.run_pure, Result.andThen_ok, List.map_toArray, List.map_cons, List.map_nil, hs, hy, hr]
theorem RSg.app_d {w0 w : World} {q : Nat} {c : Ck} {s : Sv} {B : List Nat} {st : Option Nat} {gi : Nat} {bv u : Value} {p : Nat} (h : RSg w0 w q c s B st gi bv) (hx : NumsAt .u32 w u [(p : Int)]) (hl : c.dups.length ≤ 100000) (hp : p < 4294967296) (ty : Nat) :
  ∃ ad n cap w', (Builtin.append_ #[29, 29] ty #[.slice s.dA s.dN s.dC, u]).run Try.prog w = .ok (.slice ad n cap) w' ∧ Half w0 w' q c { c with dups := c.dups ++ [p] } s { s with dA := ad, dN := n, dC := cap } B st gi bv ∧ KeepBut (fun k => (Value.slice s.dA s.dN s.dC).ownBlock = some k) w w' := by
 obtain ⟨v', w', hr, ho, hg2, hgg⟩ := run_append_nums numTD w w0.heap.size ty _ u _ [(p : Int)] h.rs.own.d hx (by rw [ci_len]; simp only [List.length_cons, List.length_nil]; omega) (by rw [ci_len]; simp; omega) h.rs.ext.size
 have hk : KeepBut (fun k => (Value.slice s.dA s.dN s.dC).ownBlock = some k) w w' := KeepBut.grown hg2 (fun r e => e)
 obtain ⟨ad, cap, rfl, _⟩ := ho.slice
 refine ⟨ad, _, cap, w', hr, ⟨h.rs.ext.of_but hk (fun k e => (h.rs.own.d.lt e).1), h.rs.lo, ⟨h.rs.own.t.but hk (own_apart h.rs.own.t.own.1 h.rs.own.d.1 (by decide)), h.rs.own.r.but hk (own_apart h.rs.own.r.own.1 h.rs.own.d.1 (by decide)), h.rs.own.a.mono_via hk (own_apart h.rs.own.a.1 h.rs.own.d.1 (by decide)), h.rs.own.i.but hk (own_apart h.rs.own.i.own.1 h.rs.own.d.1 (by decide)), h.rs.own.g.but hk (own_apart h.rs.own.g.1 h.rs.own.d.1 (by decide)), by rw [ci_app]; exact ho, h.rs.own.o.but hk (own_apart h.rs.own.o.1 h.rs.own.d.1 (by decide))⟩, { h.rs.fit with dups := fun y hy => ?_ }, h.hb.but hk (fun e => ownsRow_ne h.rs.own.d.1 h.hb (by decide) _ e rfl), h.ne, h.lo, in_but h.hi h.rs.own.d.1 (by decide) (by decide) hk⟩, hk⟩
 rcases List.mem_append.1 hy with hy | hy
 ·
  exact h.rs.fit.dups y hy
 ·
  rw [List.mem_singleton.1 hy]; exact hp
theorem give_app_d {w0 w : World} {q : Nat} {c : Ck} {s : Sv} {B : List Nat} {st : Option Nat} {u : Value} {p : Nat} (h : RS w0 w q c s B st) (hx : NumsAt .u32 w u [(p : Int)]) (hl : c.dups.length ≤ 100000) (hp : p < 4294967296) {r : Operand → Value} {o : Oper} {K : Value → World → Prop} {x y : Operand} (ho : o.op = .call { callee := .builtin .append, args := #[x, y], argTypes := #[29, 29] }) (hs : r x = .slice s.dA s.dN s.dC) (hy : r y = u)
  (hk : ∀ ad n cap w' gi bv, Half w0 w' q c { c with dups := c.dups ++ [p] } s { s with dA := ad, dN := n, dC := cap } B st gi bv → KeepBut (fun k => (Value.slice s.dA s.dN s.dC).ownBlock = some k) w w' → K (.slice ad n cap) w') : give Try.prog K ((execOp r o).run Try.prog w) := by
 obtain ⟨gi, bv, hg⟩ := h.g
 obtain ⟨ad, n, cap, w', hr, h1, h2⟩ := hg.app_d hx hl hp o.type
 refine gvo (v := .slice ad n cap) (w' := w') ?_ (hk ad n cap w' gi bv h1 h2)
 simp only [execOp, ho, resolve, invoke, builtin, Sem.run_bind, Sem.run_pure, Result.andThen_ok, List.map_toArray, List.map_cons, List.map_nil, hs, hy, hr]
end Tlv
end Go.Proofs.Ytigocaconkbalaa
