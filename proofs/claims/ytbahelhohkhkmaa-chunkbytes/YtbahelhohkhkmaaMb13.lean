/- Texts of the seat, one behind the other. No condition of its own. -/
import Derived.Test.YtbahelhohkhkmaaMb12
set_option linter.unusedVariables false
set_option linter.unusedSimpArgs false
/- What a reader takes of a value, by its kind; parameters and Sacks apart. No condition of its own. -/
namespace Go.Proofs.Ytbahelhohkhkmaa
namespace Tlv
open Go Go.RowKit
set_option maxRecDepth 100000
theorem w64_num {B : List Nat} (h : AllB B) (s : Option Nat) (n : Int) (hn : n = 1 ∨ n = 2 ∨ n = 4) : W64 (((numS B s n).2 : Nat) : Int) := by
 have := numS_le h s n hn
 unfold W64; constructor <;> omega
theorem fl_1 : ∀ F : Fin 256, (bits .and .u64 ((F.val : Nat) : Int) 1 != 0) = decide (F.val % 2 = 1) := by decide +kernel
theorem fl_2 : ∀ F : Fin 256, (bits .and .u64 ((F.val : Nat) : Int) 2 != 0) = decide (F.val / 2 % 2 = 1) := by decide +kernel
theorem fl_4 : ∀ F : Fin 256, (bits .and .u64 ((F.val : Nat) : Int) 4 != 0) = decide (F.val / 4 % 2 = 1) := by decide +kernel
theorem num2_u16 {B : List Nat} (h : AllB B) (s : Option Nat) : IntKind.u16.wrap (((numS B s 2).2 : Nat) : Int) = (((numS B s 2).2 : Nat) : Int) := by
 have := numS2_lt h s
 rw [IntKind.wrap_u16]; omega
/-- What is left of a reader's state behind its value. -/
def TookIs (w0 : World) (q : Nat) (d : Ck) (V : List Nat) (e : Ending) (w' : World) : Prop := (∃ y, e = .returned y) ∧ ∃ s' st', RS w0 w' q d s' V st'
set_option maxHeartbeats 8000000 in
theorem piece_any {w0 w : World} {q : Nat} {V : List Nat} {F : Nat} (hF : F < 256) (h : RS w0 w q (ck0 0) sv0 V (some 0)) (hA : AllB V) (hV : V.length ≤ 1000000) :
  Calls Try.prog 78 #[ptr q, .int .u64 (F : Int)] w (TookIs w0 q (rdPiece F V) V) := by
 have HX : Hid (AllB V ∧ V.length ≤ 1000000) := ⟨hA, hV⟩
 have HR0 : Hid (RS w0 w q (ck0 0) sv0 V (some 0)) := h
 have b1 : (bits .and .u64 (F : Int) 1 != 0) = decide (F % 2 = 1) := fl_1 ⟨F, hF⟩
 have b2 : (bits .and .u64 (F : Int) 2 != 0) = decide (F / 2 % 2 = 1) := fl_2 ⟨F, hF⟩
 have b4 : (bits .and .u64 (F : Int) 4 != 0) = decide (F / 4 % 2 = 1) := fl_4 ⟨F, hF⟩
 have u1 := num2_u16 hA (numS V (some 0) 4).1
 have u2 := num2_u16 hA (numS V (numS V (some 0) 4).1 2).1
 clear h hA hV hF
 go_enter Try.func78, Try.ntmps78
 refine wp_seq_k (fun K0 hK => ?_)
 have HK0 := Stop.mk hK
 clear hK
 go_wp2_with (first
  | (have q_ := HR0; clear q_; refine wl_setR HR0.out rfl one4 5 rfl (by first | rfl | go_simp) (by first | rfl | go_simp) rfl rfl (by decide) ({ ck0 0 with pe := decide (F % 2 = 1) }) (sv0) (fun z => rfl) ⟨HR0.out.own.t, HR0.out.own.r, HR0.out.own.a, HR0.out.own.i, HR0.out.own.g, HR0.out.own.d, HR0.out.own.o⟩ { HR0.out.fit with } ?_; intro y1 hr; have HR1 : Hid (RS w0 y1 q ({ ck0 0 with pe := decide (F % 2 = 1) }) (sv0) V (some 0)) := hr; clear hr))
 refine HK0.go _ _ ?_
 clear HK0
 refine wp_seq_k (fun K1 hK => ?_)
 have HK1 := Stop.mk hK
 clear hK
 go_wp2_with (first
  | (have q_ := HR1; clear q_; refine wl_setR HR1.out rfl one4 4 rfl (by first | rfl | go_simp) (by first | rfl | go_simp) rfl rfl (by decide) ({ ck0 0 with pe := decide (F % 2 = 1), pb := decide (F / 2 % 2 = 1) }) (sv0) (fun z => rfl) ⟨HR1.out.own.t, HR1.out.own.r, HR1.out.own.a, HR1.out.own.i, HR1.out.own.g, HR1.out.own.d, HR1.out.own.o⟩ { HR1.out.fit with } ?_; intro y2 hr; have HR2 : Hid (RS w0 y2 q ({ ck0 0 with pe := decide (F % 2 = 1), pb := decide (F / 2 % 2 = 1) }) (sv0) V (some 0)) := hr; clear hr))
 refine HK1.go _ _ ?_
 clear HK1
 refine wp_seq_k (fun K2 hK => ?_)
 have HK2 := Stop.mk hK
 clear hK
 go_wp2_with (first
  | (have q_ := HR2; clear q_; refine wl_setR HR2.out rfl one4 6 rfl (by first | rfl | go_simp) (by first | rfl | go_simp) rfl rfl (by decide) ({ ck0 0 with pe := decide (F % 2 = 1), pb := decide (F / 2 % 2 = 1), pu := decide (F / 4 % 2 = 1) }) (sv0) (fun z => rfl) ⟨HR2.out.own.t, HR2.out.own.r, HR2.out.own.a, HR2.out.own.i, HR2.out.own.g, HR2.out.own.d, HR2.out.own.o⟩ { HR2.out.fit with } ?_; intro y3 hr; have HR3 : Hid (RS w0 y3 q ({ ck0 0 with pe := decide (F % 2 = 1), pb := decide (F / 2 % 2 = 1), pu := decide (F / 4 % 2 = 1) }) (sv0) V (some 0)) := hr; clear hr))
 refine HK2.go _ _ ?_
 clear HK2
 refine wp_seq_k (fun K3 hK => ?_)
 have HK3 := Stop.mk hK
 clear hK
 go_wp2_with (first
  | (have q_ := HR4; clear q_; refine wl_setR HR4.out rfl one22 1 rfl (by first | rfl | go_simp) (by first | rfl | go_simp) rfl rfl (by decide) ({ ck0 0 with pe := decide (F % 2 = 1), pb := decide (F / 2 % 2 = 1), pu := decide (F / 4 % 2 = 1), ptsn := (numS V (some 0) 4).2 }) (sv0) (fun z => rfl) ⟨HR4.out.own.t, HR4.out.own.r, HR4.out.own.a, HR4.out.own.i, HR4.out.own.g, HR4.out.own.d, HR4.out.own.o⟩ { HR4.out.fit with ptsn := numS_u32 HX.out.1 _ } ?_; intro y5 hr; have HR5 : Hid (RS w0 y5 q ({ ck0 0 with pe := decide (F % 2 = 1), pb := decide (F / 2 % 2 = 1), pu := decide (F / 4 % 2 = 1), ptsn := (numS V (some 0) 4).2 }) (sv0) V ((numS V (some 0) 4).1)) := hr; clear hr)
  | (have q_ := HR3; clear q_; go_at_call 79; refine (word_any HR3.out HX.out.1 HX.out.2).mono ?_; rintro e y4 ⟨rfl, hr⟩; have HR4 : Hid (RS w0 y4 q ({ ck0 0 with pe := decide (F % 2 = 1), pb := decide (F / 2 % 2 = 1), pu := decide (F / 4 % 2 = 1) }) (sv0) V ((numS V (some 0) 4).1)) := hr; clear hr))
 refine HK3.go _ _ ?_
 clear HK3
 refine wp_seq_k (fun K4 hK => ?_)
 have HK4 := Stop.mk hK
 clear hK
 go_wp2_with (first
  | (have q_ := HR8; clear q_; refine wl_setR HR8.out rfl one23 3 rfl (by first | rfl | go_simp) (by first | rfl | go_simp) rfl rfl (by decide) ({ ck0 0 with pe := decide (F % 2 = 1), pb := decide (F / 2 % 2 = 1), pu := decide (F / 4 % 2 = 1), ptsn := (numS V (some 0) 4).2, pstr := (numS V (numS V (some 0) 4).1 2).2, pseq := (numS V (numS V (numS V (some 0) 4).1 2).1 2).2 }) (sv0) (fun z => rfl) ⟨HR8.out.own.t, HR8.out.own.r, HR8.out.own.a, HR8.out.own.i, HR8.out.own.g, HR8.out.own.d, HR8.out.own.o⟩ { HR8.out.fit with pseq := numS2_lt HX.out.1 _ } ?_; intro y9 hr; have HR9 : Hid (RS w0 y9 q ({ ck0 0 with pe := decide (F % 2 = 1), pb := decide (F / 2 % 2 = 1), pu := decide (F / 4 % 2 = 1), ptsn := (numS V (some 0) 4).2, pstr := (numS V (numS V (some 0) 4).1 2).2, pseq := (numS V (numS V (numS V (some 0) 4).1 2).1 2).2 }) (sv0) V ((numS V (numS V (numS V (some 0) 4).1 2).1 2).1)) := hr; clear hr)
  | (have q_ := HR7; clear q_; refine wl_setR HR7.out rfl one23 2 rfl (by first | rfl | go_simp) (by first | rfl | go_simp) rfl rfl (by decide) ({ ck0 0 with pe := decide (F % 2 = 1), pb := decide (F / 2 % 2 = 1), pu := decide (F / 4 % 2 = 1), ptsn := (numS V (some 0) 4).2, pstr := (numS V (numS V (some 0) 4).1 2).2 }) (sv0) (fun z => rfl) ⟨HR7.out.own.t, HR7.out.own.r, HR7.out.own.a, HR7.out.own.i, HR7.out.own.g, HR7.out.own.d, HR7.out.own.o⟩ { HR7.out.fit with pstr := numS2_lt HX.out.1 _ } ?_; intro y8 hr; have HR8 : Hid (RS w0 y8 q ({ ck0 0 with pe := decide (F % 2 = 1), pb := decide (F / 2 % 2 = 1), pu := decide (F / 4 % 2 = 1), ptsn := (numS V (some 0) 4).2, pstr := (numS V (numS V (some 0) 4).1 2).2 }) (sv0) V ((numS V (numS V (numS V (some 0) 4).1 2).1 2).1)) := hr; clear hr)
  | (have q_ := HR6; clear q_; go_at_call 80; refine (number_any HR6.out HX.out.1 HX.out.2 2 (by decide)).mono ?_; rintro e y7 ⟨rfl, hr⟩; have HR7 : Hid (RS w0 y7 q ({ ck0 0 with pe := decide (F % 2 = 1), pb := decide (F / 2 % 2 = 1), pu := decide (F / 4 % 2 = 1), ptsn := (numS V (some 0) 4).2 }) (sv0) V ((numS V (numS V (numS V (some 0) 4).1 2).1 2).1)) := hr; clear hr)
  | (have q_ := HR5; clear q_; go_at_call 80; refine (number_any HR5.out HX.out.1 HX.out.2 2 (by decide)).mono ?_; rintro e y6 ⟨rfl, hr⟩; have HR6 : Hid (RS w0 y6 q ({ ck0 0 with pe := decide (F % 2 = 1), pb := decide (F / 2 % 2 = 1), pu := decide (F / 4 % 2 = 1), ptsn := (numS V (some 0) 4).2 }) (sv0) V ((numS V (numS V (some 0) 4).1 2).1)) := hr; clear hr))
 refine HK4.go _ _ ?_
 clear HK4
 go_wp2_with (first
  | (have q_ := HR10; clear q_; refine wl_setR HR10.out rfl oneS 7 rfl (by first | rfl | go_simp) (by first | rfl | go_simp) rfl rfl (by decide) ({ ck0 0 with pe := decide (F % 2 = 1), pb := decide (F / 2 % 2 = 1), pu := decide (F / 4 % 2 = 1), ptsn := (numS V (some 0) 4).2, pstr := (numS V (numS V (some 0) 4).1 2).2, pseq := (numS V (numS V (numS V (some 0) 4).1 2).1 2).2, text := rdRest V ((numS V (numS V (numS V (some 0) 4).1 2).1 2).1) }) ({ sv0 with tA := ra, tN := (rdRest V ((numS V (numS V (numS V (some 0) 4).1 2).1 2).1)).length, tC := rc }) (fun z => rfl) ⟨HO10.out, HR10.out.own.r, HR10.out.own.a, HR10.out.own.i, HR10.out.own.g, HR10.out.own.d, HR10.out.own.o⟩ { HR10.out.fit with } ?_; intro y11 hr; have HR11 : Hid (RS w0 y11 q ({ ck0 0 with pe := decide (F % 2 = 1), pb := decide (F / 2 % 2 = 1), pu := decide (F / 4 % 2 = 1), ptsn := (numS V (some 0) 4).2, pstr := (numS V (numS V (some 0) 4).1 2).2, pseq := (numS V (numS V (numS V (some 0) 4).1 2).1 2).2, text := rdRest V ((numS V (numS V (numS V (some 0) 4).1 2).1 2).1) }) ({ sv0 with tA := ra, tN := (rdRest V ((numS V (numS V (numS V (some 0) 4).1 2).1 2).1)).length, tC := rc }) V (rdRestS V ((numS V (numS V (numS V (some 0) 4).1 2).1 2).1))) := hr; clear hr)
  | (have q_ := HR9; clear q_; go_at_call 83; refine (rest_any HR9.out HX.out.2).mono ?_; rintro e y10 ⟨ra, rc, rfl, ho, hr⟩; have HO10 : Hid (OB y10 w0.heap.size (.slice ra (rdRest V ((numS V (numS V (numS V (some 0) 4).1 2).1 2).1)).length rc) (rdRest V ((numS V (numS V (numS V (some 0) 4).1 2).1 2).1))) := ho; have HR10 : Hid (RS w0 y10 q ({ ck0 0 with pe := decide (F % 2 = 1), pb := decide (F / 2 % 2 = 1), pu := decide (F / 4 % 2 = 1), ptsn := (numS V (some 0) 4).2, pstr := (numS V (numS V (some 0) 4).1 2).2, pseq := (numS V (numS V (numS V (some 0) 4).1 2).1 2).2 }) (sv0) V (rdRestS V ((numS V (numS V (numS V (some 0) 4).1 2).1 2).1))) := hr; clear hr ho))
 go_end0
 exact ⟨⟨_, rfl⟩, _, _, HR11.out⟩
set_option maxHeartbeats 8000000 in
theorem valueR_6 {w0 w : World} {q : Nat} {V : List Nat} {F : Int} (h : RS w0 w q (ck0 6) sv0 V (some 0)) (hA : AllB V) (hV : V.length ≤ 1000000) :
  Calls Try.prog 42 #[ptr q, .int .u64 F] w (TookIs w0 q ({ ck0 6 with cause := ((numS V (some 0) 2).2 : Nat) }) V) := by
 obtain ⟨gi, bv, hg⟩ := h.g
 have c0 : w.cell? ⟨q, 0, none⟩ = some (.int .i64 6) := rv0 hg.hb
 have HX : Hid (AllB V ∧ V.length ≤ 1000000) := ⟨hA, hV⟩
 have HR0 : Hid (RS w0 w q (ck0 6) sv0 V (some 0)) := h
 clear h hA hV hg
 go_enter Try.func42, Try.ntmps42
 go_wp2_with (first
  | (have q_ := HR1; clear q_; refine wl_setR HR1.out rfl one3 18 rfl (by first | rfl | go_simp) (by first | rfl | go_simp) rfl rfl (by decide) ({ ck0 6 with cause := ((numS V (some 0) 2).2 : Nat) }) (sv0) (fun z => rfl) ⟨HR1.out.own.t, HR1.out.own.r, HR1.out.own.a, HR1.out.own.i, HR1.out.own.g, HR1.out.own.d, HR1.out.own.o⟩ { HR1.out.fit with cause := w64_num HX.out.1 _ _ (by decide) } ?_; intro y2 hr; have HR2 : Hid (RS w0 y2 q ({ ck0 6 with cause := ((numS V (some 0) 2).2 : Nat) }) (sv0) V ((numS V (some 0) 2).1)) := hr; clear hr)
  | (have q_ := HR0; clear q_; go_at_call 80; refine (number_any HR0.out HX.out.1 HX.out.2 2 (by decide)).mono ?_; rintro e y1 ⟨rfl, hr⟩; have HR1 : Hid (RS w0 y1 q (ck0 6) (sv0) V ((numS V (some 0) 2).1)) := hr; clear hr))
 go_end0
 exact ⟨⟨_, rfl⟩, _, _, HR2.out⟩
set_option maxHeartbeats 8000000 in
theorem valueR_9 {w0 w : World} {q : Nat} {V : List Nat} {F : Int} (h : RS w0 w q (ck0 9) sv0 V (some 0)) (hA : AllB V) (hV : V.length ≤ 1000000) :
  Calls Try.prog 42 #[ptr q, .int .u64 F] w (TookIs w0 q ({ ck0 9 with cause := ((numS V (some 0) 2).2 : Nat) }) V) := by
 obtain ⟨gi, bv, hg⟩ := h.g
 have c0 : w.cell? ⟨q, 0, none⟩ = some (.int .i64 9) := rv0 hg.hb
 have HX : Hid (AllB V ∧ V.length ≤ 1000000) := ⟨hA, hV⟩
 have HR0 : Hid (RS w0 w q (ck0 9) sv0 V (some 0)) := h
 clear h hA hV hg
 go_enter Try.func42, Try.ntmps42
 go_wp2_with (first
  | (have q_ := HR1; clear q_; refine wl_setR HR1.out rfl one3 18 rfl (by first | rfl | go_simp) (by first | rfl | go_simp) rfl rfl (by decide) ({ ck0 9 with cause := ((numS V (some 0) 2).2 : Nat) }) (sv0) (fun z => rfl) ⟨HR1.out.own.t, HR1.out.own.r, HR1.out.own.a, HR1.out.own.i, HR1.out.own.g, HR1.out.own.d, HR1.out.own.o⟩ { HR1.out.fit with cause := w64_num HX.out.1 _ _ (by decide) } ?_; intro y2 hr; have HR2 : Hid (RS w0 y2 q ({ ck0 9 with cause := ((numS V (some 0) 2).2 : Nat) }) (sv0) V ((numS V (some 0) 2).1)) := hr; clear hr)
  | (have q_ := HR0; clear q_; go_at_call 80; refine (number_any HR0.out HX.out.1 HX.out.2 2 (by decide)).mono ?_; rintro e y1 ⟨rfl, hr⟩; have HR1 : Hid (RS w0 y1 q (ck0 9) (sv0) V ((numS V (some 0) 2).1)) := hr; clear hr))
 go_end0
 exact ⟨⟨_, rfl⟩, _, _, HR2.out⟩
set_option maxHeartbeats 8000000 in
theorem valueR_7 {w0 w : World} {q : Nat} {V : List Nat} {F : Int} (h : RS w0 w q (ck0 7) sv0 V (some 0)) (hA : AllB V) (hV : V.length ≤ 1000000) :
  Calls Try.prog 42 #[ptr q, .int .u64 F] w (TookIs w0 q ({ ck0 7 with tsn := (numS V (some 0) 4).2 }) V) := by
 obtain ⟨gi, bv, hg⟩ := h.g
 have c0 : w.cell? ⟨q, 0, none⟩ = some (.int .i64 7) := rv0 hg.hb
 have HX : Hid (AllB V ∧ V.length ≤ 1000000) := ⟨hA, hV⟩
 have HR0 : Hid (RS w0 w q (ck0 7) sv0 V (some 0)) := h
 clear h hA hV hg
 go_enter Try.func42, Try.ntmps42
 go_wp2_with (first
  | (have q_ := HR1; clear q_; refine wl_setR HR1.out rfl one22 12 rfl (by first | rfl | go_simp) (by first | rfl | go_simp) rfl rfl (by decide) ({ ck0 7 with tsn := (numS V (some 0) 4).2 }) (sv0) (fun z => rfl) ⟨HR1.out.own.t, HR1.out.own.r, HR1.out.own.a, HR1.out.own.i, HR1.out.own.g, HR1.out.own.d, HR1.out.own.o⟩ { HR1.out.fit with tsn := numS_u32 HX.out.1 _ } ?_; intro y2 hr; have HR2 : Hid (RS w0 y2 q ({ ck0 7 with tsn := (numS V (some 0) 4).2 }) (sv0) V ((numS V (some 0) 4).1)) := hr; clear hr)
  | (have q_ := HR0; clear q_; go_at_call 79; refine (word_any HR0.out HX.out.1 HX.out.2).mono ?_; rintro e y1 ⟨rfl, hr⟩; have HR1 : Hid (RS w0 y1 q (ck0 7) (sv0) V ((numS V (some 0) 4).1)) := hr; clear hr))
 go_end0
 exact ⟨⟨_, rfl⟩, _, _, HR2.out⟩
set_option maxHeartbeats 8000000 in
theorem valueR_10 {w0 w : World} {q : Nat} {V : List Nat} {F : Int} (h : RS w0 w q (ck0 10) sv0 V (some 0)) (hA : AllB V) (hV : V.length ≤ 1000000) :
  Calls Try.prog 42 #[ptr q, .int .u64 F] w (TookIs w0 q ({ ck0 10 with info := rdRest V (some 0) }) V) := by
 obtain ⟨gi, bv, hg⟩ := h.g
 have c0 : w.cell? ⟨q, 0, none⟩ = some (.int .i64 10) := rv0 hg.hb
 have HX : Hid (AllB V ∧ V.length ≤ 1000000) := ⟨hA, hV⟩
 have HR0 : Hid (RS w0 w q (ck0 10) sv0 V (some 0)) := h
 clear h hA hV hg
 go_enter Try.func42, Try.ntmps42
 go_wp2_with (first
  | (have q_ := HR1; clear q_; refine wl_setR HR1.out rfl oneS 15 rfl (by first | rfl | go_simp) (by first | rfl | go_simp) rfl rfl (by decide) ({ ck0 10 with info := rdRest V (some 0) }) ({ sv0 with iA := ra, iN := (rdRest V (some 0)).length, iC := rc }) (fun z => rfl) ⟨HR1.out.own.t, HR1.out.own.r, HR1.out.own.a, HO1.out, HR1.out.own.g, HR1.out.own.d, HR1.out.own.o⟩ { HR1.out.fit with } ?_; intro y2 hr; have HR2 : Hid (RS w0 y2 q ({ ck0 10 with info := rdRest V (some 0) }) ({ sv0 with iA := ra, iN := (rdRest V (some 0)).length, iC := rc }) V (rdRestS V (some 0))) := hr; clear hr)
  | (have q_ := HR0; clear q_; go_at_call 83; refine (rest_any HR0.out HX.out.2).mono ?_; rintro e y1 ⟨ra, rc, rfl, ho, hr⟩; have HO1 : Hid (OB y1 w0.heap.size (.slice ra (rdRest V (some 0)).length rc) (rdRest V (some 0))) := ho; have HR1 : Hid (RS w0 y1 q (ck0 10) (sv0) V (rdRestS V (some 0))) := hr; clear hr ho))
 go_end0
 exact ⟨⟨_, rfl⟩, _, _, HR2.out⟩
set_option maxHeartbeats 8000000 in
theorem valueR_15 {w0 w : World} {q : Nat} {V : List Nat} {F : Int} (h : RS w0 w q (ck0 15) sv0 V (some 0)) (hA : AllB V) (hV : V.length ≤ 1000000) :
  Calls Try.prog 42 #[ptr q, .int .u64 F] w (TookIs w0 q ({ ck0 15 with info := rdRest V (some 0) }) V) := by
 obtain ⟨gi, bv, hg⟩ := h.g
 have c0 : w.cell? ⟨q, 0, none⟩ = some (.int .i64 15) := rv0 hg.hb
 have HX : Hid (AllB V ∧ V.length ≤ 1000000) := ⟨hA, hV⟩
 have HR0 : Hid (RS w0 w q (ck0 15) sv0 V (some 0)) := h
 clear h hA hV hg
 go_enter Try.func42, Try.ntmps42
 go_wp2_with (first
  | (have q_ := HR1; clear q_; refine wl_setR HR1.out rfl oneS 15 rfl (by first | rfl | go_simp) (by first | rfl | go_simp) rfl rfl (by decide) ({ ck0 15 with info := rdRest V (some 0) }) ({ sv0 with iA := ra, iN := (rdRest V (some 0)).length, iC := rc }) (fun z => rfl) ⟨HR1.out.own.t, HR1.out.own.r, HR1.out.own.a, HO1.out, HR1.out.own.g, HR1.out.own.d, HR1.out.own.o⟩ { HR1.out.fit with } ?_; intro y2 hr; have HR2 : Hid (RS w0 y2 q ({ ck0 15 with info := rdRest V (some 0) }) ({ sv0 with iA := ra, iN := (rdRest V (some 0)).length, iC := rc }) V (rdRestS V (some 0))) := hr; clear hr)
  | (have q_ := HR0; clear q_; go_at_call 83; refine (rest_any HR0.out HX.out.2).mono ?_; rintro e y1 ⟨ra, rc, rfl, ho, hr⟩; have HO1 : Hid (OB y1 w0.heap.size (.slice ra (rdRest V (some 0)).length rc) (rdRest V (some 0))) := ho; have HR1 : Hid (RS w0 y1 q (ck0 15) (sv0) V (rdRestS V (some 0))) := hr; clear hr ho))
 go_end0
 exact ⟨⟨_, rfl⟩, _, _, HR2.out⟩
set_option maxHeartbeats 8000000 in
theorem valueR_128 {w0 w : World} {q : Nat} {V : List Nat} {F : Int} (h : RS w0 w q (ck0 128) sv0 V (some 0)) (hA : AllB V) (hV : V.length ≤ 1000000) :
  Calls Try.prog 42 #[ptr q, .int .u64 F] w (TookIs w0 q ({ ck0 128 with serial := (numS V (some 0) 4).2, ok := decide ((numS V (st1 V) 4).2 = 1) }) V) := by
 obtain ⟨gi, bv, hg⟩ := h.g
 have c0 : w.cell? ⟨q, 0, none⟩ = some (.int .i64 128) := rv0 hg.hb
 have HX : Hid (AllB V ∧ V.length ≤ 1000000) := ⟨hA, hV⟩
 have HR0 : Hid (RS w0 w q (ck0 128) sv0 V (some 0)) := h
 have q1 : ((((numS V (st1 V) 4).2 : Nat) : Int) == 1) = decide ((numS V (st1 V) 4).2 = 1) := by rw [Bool.eq_iff_iff]; simp; omega
 clear h hA hV hg
 go_enter Try.func42, Try.ntmps42
 go_wp2_with (first
  | (have q_ := HR3; clear q_; refine wl_setR HR3.out rfl one4 21 rfl (by first | rfl | go_simp) (by first | rfl | go_simp) rfl rfl (by decide) ({ ck0 128 with serial := (numS V (some 0) 4).2, ok := decide ((numS V (st1 V) 4).2 = 1) }) (sv0) (fun z => rfl) ⟨HR3.out.own.t, HR3.out.own.r, HR3.out.own.a, HR3.out.own.i, HR3.out.own.g, HR3.out.own.d, HR3.out.own.o⟩ { HR3.out.fit with } ?_; intro y4 hr; have HR4 : Hid (RS w0 y4 q ({ ck0 128 with serial := (numS V (some 0) 4).2, ok := decide ((numS V (st1 V) 4).2 = 1) }) (sv0) V (st2 V)) := hr; clear hr)
  | (have q_ := HR2; clear q_; refine wl_setR HR2.out rfl one22 19 rfl (by first | rfl | go_simp) (by first | rfl | go_simp) rfl rfl (by decide) ({ ck0 128 with serial := (numS V (some 0) 4).2 }) (sv0) (fun z => rfl) ⟨HR2.out.own.t, HR2.out.own.r, HR2.out.own.a, HR2.out.own.i, HR2.out.own.g, HR2.out.own.d, HR2.out.own.o⟩ { HR2.out.fit with serial := numS_u32 HX.out.1 _ } ?_; intro y3 hr; have HR3 : Hid (RS w0 y3 q ({ ck0 128 with serial := (numS V (some 0) 4).2 }) (sv0) V (st2 V)) := hr; clear hr)
  | (have q_ := HR1; clear q_; go_at_call 80; refine (number_any HR1.out HX.out.1 HX.out.2 4 (by decide)).mono ?_; rintro e y2 ⟨rfl, hr⟩; have HR2 : Hid (RS w0 y2 q (ck0 128) (sv0) V (st2 V)) := hr; clear hr)
  | (have q_ := HR0; clear q_; go_at_call 79; refine (word_any HR0.out HX.out.1 HX.out.2).mono ?_; rintro e y1 ⟨rfl, hr⟩; have HR1 : Hid (RS w0 y1 q (ck0 128) (sv0) V (st1 V)) := hr; clear hr))
 go_end0
 exact ⟨⟨_, rfl⟩, _, _, HR4.out⟩
set_option maxRecDepth 100000
/-- A list was made longer, its field is not stored yet. -/
structure Half (w0 w : World) (q : Nat) (c c' : Ck) (s s' : Sv) (B : List Nat) (st : Option Nat) (gi : Nat) (bv : Value) : Prop where
 ext : Ext w0 w
 lo : w0.heap.size ≤ q
 own : OwnC w w0.heap.size s' c'
 fit : Fit c'
 hb : Blk w q (RV c s (ptr gi)) 91
 ne : gi ≠ q
 lg : w0.heap.size ≤ gi
 hi : InAt w w0.heap.size gi bv B st
theorem Half.store {w0 w : World} {q j : Nat} {c c' : Ck} {s s' : Sv} {B : List Nat} {st : Option Nat} {gi : Nat} {bv v : Value} (h : Half w0 w q c c' s s' B st gi bv) (hset : ∀ z, (RV c s z).setIfInBounds j v = RV c' s' z) : RS w0 (w.setCell ⟨q, j, none⟩ v) q c' s' B st := by
 have hk : KeepBut (· = q) w (w.setCell ⟨q, j, none⟩ v) := ⟨rfl, rfl, rfl, by simp, fun k _ hk => block_other hk j v⟩
 have hb' : Blk (w.setCell ⟨q, j, none⟩ v) q (RV c' s' (ptr gi)) 91 := by rw [← hset]; exact h.hb.set j v
 exact ⟨h.ext.of_but hk (fun k e => by subst e; exact h.lo), h.lo, h.own.but hk h.hb noRd, h.fit, gi, bv, hb', h.ne, h.lg, h.hi.but hk h.ne (h.hi.own.ne h.hb (by decide))⟩
theorem in_but {w w' : World} {base base' g e n size : Nat} {bv v : Value} {B : List Nat} {st : Option Nat} {xs : List Value} (h : InAt w base g bv B st) (ho : w.ownsRow base' e size v n xs) (h5 : 5 ≠ e) (hI : 126 ≠ e) (hk : KeepBut (fun k => v.ownBlock = some k) w w') : InAt w' base g bv B st := by
 obtain ⟨own, a, b, hb, h2⟩ := h
 exact ⟨own.but hk (own_apart own.own.1 ho h5), a, b, hb.but hk (fun e => ownsRow_ne ho hb hI _ e rfl), h2⟩
theorem RSg.app_g {w0 w : World} {q : Nat} {c : Ck} {s : Sv} {B : List Nat} {st : Option Nat} {gi : Nat} {bv u : Value} {p : (Int × Int)} (h : RSg w0 w q c s B st gi bv) (hx : PairsAt w u [p]) (hl : c.gaps.length ≤ 100000) (hp : W64 p.1 ∧ W64 p.2) (ty : Nat) :
  ∃ ad n cap w', (Builtin.append_ #[35, 35] ty #[.slice s.gA s.gN s.gC, u]).run Try.prog w = .ok (.slice ad n cap) w' ∧ Half w0 w' q c { c with gaps := c.gaps ++ [p] } s { s with gA := ad, gN := n, gC := cap } B st gi bv ∧ KeepBut (fun k => (Value.slice s.gA s.gN s.gC).ownBlock = some k) w w' := by
 obtain ⟨ad, cap, w', hr, ho, hk, hgg⟩ := run_appP prG w w0.heap.size ty _ u c.gaps [p] h.rs.own.g hx (by simp; omega) h.rs.ext.size
 refine ⟨ad, _, cap, w', hr, ⟨h.rs.ext.of_but hk (fun k e => (OwnP.lt h.rs.own.g e).1), h.rs.lo, ⟨h.rs.own.t.but hk (own_apart h.rs.own.t.own.1 h.rs.own.g.1 (by decide)), h.rs.own.r.but hk (own_apart h.rs.own.r.own.1 h.rs.own.g.1 (by decide)), h.rs.own.a.mono_via hk (own_apart h.rs.own.a.1 h.rs.own.g.1 (by decide)), h.rs.own.i.but hk (own_apart h.rs.own.i.own.1 h.rs.own.g.1 (by decide)), ho, h.rs.own.d.mono_via hk (own_apart h.rs.own.d.1 h.rs.own.g.1 (by decide)), h.rs.own.o.but hk (own_apart h.rs.own.o.1 h.rs.own.g.1 (by decide))⟩, { h.rs.fit with gaps := fun y hy => ?_ }, h.hb.but hk (fun e => ownsRow_ne h.rs.own.g.1 h.hb (by decide) _ e rfl), h.ne, h.lo, in_but h.hi h.rs.own.g.1 (by decide) (by decide) hk⟩, hk⟩
 rcases List.mem_append.1 hy with hy | hy
 ·
  exact h.rs.fit.gaps y hy
 ·
  rw [List.mem_singleton.1 hy]; exact hp
theorem give_app_g {w0 w : World} {q : Nat} {c : Ck} {s : Sv} {B : List Nat} {st : Option Nat} {u : Value} {p : (Int × Int)} (h : RS w0 w q c s B st) (hx : PairsAt w u [p]) (hl : c.gaps.length ≤ 100000) (hp : W64 p.1 ∧ W64 p.2) {r : Operand → Value} {o : Oper} {K : Value → World → Prop} {x y : Operand} (ho : o.op = .call { callee := .builtin .append, args := #[x, y], argTypes := #[35, 35] }) (hs : r x = .slice s.gA s.gN s.gC) (hy : r y = u)
  (hk : ∀ ad n cap w' gi bv, Half w0 w' q c { c with gaps := c.gaps ++ [p] } s { s with gA := ad, gN := n, gC := cap } B st gi bv → KeepBut (fun k => (Value.slice s.gA s.gN s.gC).ownBlock = some k) w w' → K (.slice ad n cap) w') : give Try.prog K ((execOp r o).run Try.prog w) := by
 obtain ⟨gi, bv, hg⟩ := h.g
 obtain ⟨ad, n, cap, w', hr, h1, h2⟩ := hg.app_g hx hl hp o.type
 refine gvo (v := .slice ad n cap) (w' := w') ?_ (hk ad n cap w' gi bv h1 h2)
 simp only [execOp, ho, resolve, invoke, builtin, Sem.run_bind, Sem.run_pure, Result.andThen_ok, List.map_toArray, List.map_cons, List.map_nil, hs, hy, hr]
theorem RSg.app_o {w0 w : World} {q : Nat} {c : Ck} {s : Sv} {B : List Nat} {st : Option Nat} {gi : Nat} {bv u : Value} {p : (Int × Int)} (h : RSg w0 w q c s B st gi bv) (hx : PairsAt w u [p]) (hl : c.ops.length ≤ 100000) (hp : W64 p.1 ∧ W64 p.2) (ty : Nat) :
  ∃ ad n cap w', (Builtin.append_ #[36, 36] ty #[.slice s.oA s.oN s.oC, u]).run Try.prog w = .ok (.slice ad n cap) w' ∧ Half w0 w' q c { c with ops := c.ops ++ [p] } s { s with oA := ad, oN := n, oC := cap } B st gi bv ∧ KeepBut (fun k => (Value.slice s.oA s.oN s.oC).ownBlock = some k) w w' := by
 obtain ⟨ad, cap, w', hr, ho, hk, hgg⟩ := run_appP prO w w0.heap.size ty _ u c.ops [p] h.rs.own.o hx (by simp; omega) h.rs.ext.size
 refine ⟨ad, _, cap, w', hr, ⟨h.rs.ext.of_but hk (fun k e => (OwnP.lt h.rs.own.o e).1), h.rs.lo, ⟨h.rs.own.t.but hk (own_apart h.rs.own.t.own.1 h.rs.own.o.1 (by decide)), h.rs.own.r.but hk (own_apart h.rs.own.r.own.1 h.rs.own.o.1 (by decide)), h.rs.own.a.mono_via hk (own_apart h.rs.own.a.1 h.rs.own.o.1 (by decide)), h.rs.own.i.but hk (own_apart h.rs.own.i.own.1 h.rs.own.o.1 (by decide)), h.rs.own.g.but hk (own_apart h.rs.own.g.1 h.rs.own.o.1 (by decide)), h.rs.own.d.mono_via hk (own_apart h.rs.own.d.1 h.rs.own.o.1 (by decide)), ho⟩, { h.rs.fit with ops := fun y hy => ?_ }, h.hb.but hk (fun e => ownsRow_ne h.rs.own.o.1 h.hb (by decide) _ e rfl), h.ne, h.lo, in_but h.hi h.rs.own.o.1 (by decide) (by decide) hk⟩, hk⟩
 rcases List.mem_append.1 hy with hy | hy
 ·
  exact h.rs.fit.ops y hy
 ·
  rw [List.mem_singleton.1 hy]; exact hp
theorem give_app_o {w0 w : World} {q : Nat} {c : Ck} {s : Sv} {B : List Nat} {st : Option Nat} {u : Value} {p : (Int × Int)} (h : RS w0 w q c s B st) (hx : PairsAt w u [p]) (hl : c.ops.length ≤ 100000) (hp : W64 p.1 ∧ W64 p.2) {r : Operand → Value} {o : Oper} {K : Value → World → Prop} {x y : Operand} (ho : o.op = .call { callee := .builtin .append, args := #[x, y], argTypes := #[36, 36] }) (hs : r x = .slice s.oA s.oN s.oC) (hy : r y = u)
  (hk : ∀ ad n cap w' gi bv, Half w0 w' q c { c with ops := c.ops ++ [p] } s { s with oA := ad, oN := n, oC := cap } B st gi bv → KeepBut (fun k => (Value.slice s.oA s.oN s.oC).ownBlock = some k) w w' → K (.slice ad n cap) w') : give Try.prog K ((execOp r o).run Try.prog w) := by
 obtain ⟨gi, bv, hg⟩ := h.g
 obtain ⟨ad, n, cap, w', hr, h1, h2⟩ := hg.app_o hx hl hp o.type
 refine gvo (v := .slice ad n cap) (w' := w') ?_ (hk ad n cap w' gi bv h1 h2)
 simp only [execOp, ho, resolve, invoke, builtin, Sem.run_bind, Sem.run_pure, Result.andThen_ok, List.map_toArray, List.map_cons, List.map_nil, hs, hy, hr]
theorem RSg.app_a {w0 w : World} {q : Nat} {c : Ck} {s : Sv} {B : List Nat} {st : Option Nat} {gi : Nat} {bv u : Value} {p : Int} (h : RSg w0 w q c s B st gi bv) (hx : NumsAt .i64 w u [p]) (hl : c.addrs.length ≤ 100000) (hp : W64 p) (ty : Nat) :
  ∃ ad n cap w', (Builtin.append_ #[27, 27] ty #[.slice s.aA s.aN s.aC, u]).run Try.prog w = .ok (.slice ad n cap) w' ∧ Half w0 w' q c { c with addrs := c.addrs ++ [p] } s { s with aA := ad, aN := n, aC := cap } B st gi bv ∧ KeepBut (fun k => (Value.slice s.aA s.aN s.aC).ownBlock = some k) w w' := by
 obtain ⟨v', w', hr, ho, hg2, hgg⟩ := run_append_nums numTA w w0.heap.size ty _ u _ [(p : Int)] h.rs.own.a hx (by simp only [List.length_cons, List.length_nil]; omega) (by simp; omega) h.rs.ext.size
 have hk : KeepBut (fun k => (Value.slice s.aA s.aN s.aC).ownBlock = some k) w w' := KeepBut.grown hg2 (fun r e => e)
 obtain ⟨ad, cap, rfl, _⟩ := ho.slice
 refine ⟨ad, _, cap, w', hr, ⟨h.rs.ext.of_but hk (fun k e => (h.rs.own.a.lt e).1), h.rs.lo, ⟨h.rs.own.t.but hk (own_apart h.rs.own.t.own.1 h.rs.own.a.1 (by decide)), h.rs.own.r.but hk (own_apart h.rs.own.r.own.1 h.rs.own.a.1 (by decide)), ho, h.rs.own.i.but hk (own_apart h.rs.own.i.own.1 h.rs.own.a.1 (by decide)), h.rs.own.g.but hk (own_apart h.rs.own.g.1 h.rs.own.a.1 (by decide)), h.rs.own.d.mono_via hk (own_apart h.rs.own.d.1 h.rs.own.a.1 (by decide)), h.rs.own.o.but hk (own_apart h.rs.own.o.1 h.rs.own.a.1 (by decide))⟩, { h.rs.fit with addrs := fun y hy => ?_ }, h.hb.but hk (fun e => ownsRow_ne h.rs.own.a.1 h.hb (by decide) _ e rfl), h.ne, h.lo, in_but h.hi h.rs.own.a.1 (by decide) (by decide) hk⟩, hk⟩
 rcases List.mem_append.1 hy with hy | hy
 ·
  exact h.rs.fit.addrs y hy
 ·
  rw [List.mem_singleton.1 hy]; exact hp
theorem give_app_a {w0 w : World} {q : Nat} {c : Ck} {s : Sv} {B : List Nat} {st : Option Nat} {u : Value} {p : Int} (h : RS w0 w q c s B st) (hx : NumsAt .i64 w u [p]) (hl : c.addrs.length ≤ 100000) (hp : W64 p) {r : Operand → Value} {o : Oper} {K : Value → World → Prop} {x y : Operand} (ho : o.op = .call { callee := .builtin .append, args := #[x, y], argTypes := #[27, 27] }) (hs : r x = .slice s.aA s.aN s.aC) (hy : r y = u)
  (hk : ∀ ad n cap w' gi bv, Half w0 w' q c { c with addrs := c.addrs ++ [p] } s { s with aA := ad, aN := n, aC := cap } B st gi bv → KeepBut (fun k => (Value.slice s.aA s.aN s.aC).ownBlock = some k) w w' → K (.slice ad n cap) w') : give Try.prog K ((execOp r o).run Try.prog w) := by
 obtain ⟨gi, bv, hg⟩ := h.g
 obtain ⟨ad, n, cap, w', hr, h1, h2⟩ := hg.app_a hx hl hp o.type
 refine gvo (v := .slice ad n cap) (w' := w') ?_ (hk ad n cap w' gi bv h1 h2)
 simp only [execOp, ho, resolve, invoke, builtin, Sem.run_bind, Sem.run_pure, Result.andThen_ok, List.map_toArray, List.map_cons, List.map_nil, hs, hy, hr]
theorem RSg.app_d {w0 w : World} {q : Nat} {c : Ck} {s : Sv} {B : List Nat} {st : Option Nat} {gi : Nat} {bv u : Value} {p : Nat} (h : RSg w0 w q c s B st gi bv) (hx : NumsAt .u32 w u [(p : Int)]) (hl : c.dups.length ≤ 100000) (hp : p < 4294967296) (ty : Nat) :
  ∃ ad n cap w', (Builtin.append_ #[29, 29] ty #[.slice s.dA s.dN s.dC, u]).run Try.prog w = .ok (.slice ad n cap) w' ∧ Half w0 w' q c { c with dups := c.dups ++ [p] } s { s with dA := ad, dN := n, dC := cap } B st gi bv ∧ KeepBut (fun k => (Value.slice s.dA s.dN s.dC).ownBlock = some k) w w' := by
 obtain ⟨v', w', hr, ho, hg2, hgg⟩ := run_append_nums numTD w w0.heap.size ty _ u _ [(p : Int)] h.rs.own.d hx (by rw [ci_len]; simp only [List.length_cons, List.length_nil]; omega) (by rw [ci_len]; simp; omega) h.rs.ext.size
 have hk : KeepBut (fun k => (Value.slice s.dA s.dN s.dC).ownBlock = some k) w w' := KeepBut.grown hg2 (fun r e => e)
 obtain ⟨ad, cap, rfl, _⟩ := ho.slice
 refine ⟨ad, _, cap, w', hr, ⟨h.rs.ext.of_but hk (fun k e => (h.rs.own.d.lt e).1), h.rs.lo, ⟨h.rs.own.t.but hk (own_apart h.rs.own.t.own.1 h.rs.own.d.1 (by decide)), h.rs.own.r.but hk (own_apart h.rs.own.r.own.1 h.rs.own.d.1 (by decide)), h.rs.own.a.mono_via hk (own_apart h.rs.own.a.1 h.rs.own.d.1 (by decide)), h.rs.own.i.but hk (own_apart h.rs.own.i.own.1 h.rs.own.d.1 (by decide)), h.rs.own.g.but hk (own_apart h.rs.own.g.1 h.rs.own.d.1 (by decide)), by rw [ci_app]; exact ho, h.rs.own.o.but hk (own_apart h.rs.own.o.1 h.rs.own.d.1 (by decide))⟩, { h.rs.fit with dups := fun y hy => ?_ }, h.hb.but hk (fun e => ownsRow_ne h.rs.own.d.1 h.hb (by decide) _ e rfl), h.ne, h.lo, in_but h.hi h.rs.own.d.1 (by decide) (by decide) hk⟩, hk⟩
 rcases List.mem_append.1 hy with hy | hy
 ·
  exact h.rs.fit.dups y hy
 ·
  rw [List.mem_singleton.1 hy]; exact hp
theorem give_app_d {w0 w : World} {q : Nat} {c : Ck} {s : Sv} {B : List Nat} {st : Option Nat} {u : Value} {p : Nat} (h : RS w0 w q c s B st) (hx : NumsAt .u32 w u [(p : Int)]) (hl : c.dups.length ≤ 100000) (hp : p < 4294967296) {r : Operand → Value} {o : Oper} {K : Value → World → Prop} {x y : Operand} (ho : o.op = .call { callee := .builtin .append, args := #[x, y], argTypes := #[29, 29] }) (hs : r x = .slice s.dA s.dN s.dC) (hy : r y = u)
  (hk : ∀ ad n cap w' gi bv, Half w0 w' q c { c with dups := c.dups ++ [p] } s { s with dA := ad, dN := n, dC := cap } B st gi bv → KeepBut (fun k => (Value.slice s.dA s.dN s.dC).ownBlock = some k) w w' → K (.slice ad n cap) w') : give Try.prog K ((execOp r o).run Try.prog w) := by
 obtain ⟨gi, bv, hg⟩ := h.g
 obtain ⟨ad, n, cap, w', hr, h1, h2⟩ := hg.app_d hx hl hp o.type
 refine gvo (v := .slice ad n cap) (w' := w') ?_ (hk ad n cap w' gi bv h1 h2)
 simp only [execOp, ho, resolve, invoke, builtin, Sem.run_bind, Sem.run_pure, Result.andThen_ok, List.map_toArray, List.map_cons, List.map_nil, hs, hy, hr]
set_option maxRecDepth 100000
theorem gapsS_len (V : List Nat) (s : Option Nat) : ∀ k, (gapsS V s k).2.length = k
 | 0 => rfl
 | k + 1 => by rw [gapsS, List.length_append, gapsS_len V s k]; rfl
theorem dupsS_len (V : List Nat) (s : Option Nat) : ∀ k, (dupsS V s k).2.length = k
 | 0 => rfl
 | k + 1 => by rw [dupsS, List.length_append, dupsS_len V s k]; rfl
theorem leftS_le (V : List Nat) (s : Option Nat) : leftS V s ≤ V.length := by
 cases s with
 | none => exact Nat.zero_le _
 | some a => exact Nat.sub_le _ _
theorem met_no {L : Nat → Bool} {i j : Nat} (h : L i = true → L j = true) (hj : L j = false) : L i = false := by
 cases hi : L i with
 | false => rfl
 | true => exact absurd ((h hi).symm.trans hj) (by decide)
theorem give_one_pair {t e : TypeId} {w : World} {r : Operand → Value} {o : Oper} {K : Value → World → Prop} {x : Operand} {p : Int × Int} (ho : o.op = .buildSlice t 1 #[(0, x)]) (hT : PrT t e) (hx : r x = .agg #[.int .i64 p.1, .int .i64 p.2])
  (h : K (.slice (some ⟨w.heap.size, 0, none⟩) 1 1) (w.alloc (.cells #[.int .i64 p.1, .int .i64 p.2] e))) : give Try.prog K ((execOp r o).run Try.prog w) := by
 obtain ⟨i, hi, hinf⟩ := Option.map_eq_some_iff.1 hT.info
 simp only [Prod.mk.injEq] at hinf
 refine gvo (v := .slice (some ⟨w.heap.size, 0, none⟩) 1 1) (w' := w.alloc (.cells #[.int .i64 p.1, .int .i64 p.2] e)) ?_ h
 simp [execOp, ho, hx, go_sem, run_underlying hT.ut, hi, hinf.1, hinf.2.1, hinf.2.2, sizeOf, typeInfo, zeroValue]
theorem give_one_num {t e : TypeId} {k : IntKind} {by8 : Nat} {w : World} {r : Operand → Value} {o : Oper} {K : Value → World → Prop} {x : Operand} {z : Int} (ho : o.op = .buildSlice t 1 #[(0, x)]) (hT : NumT Try.prog t e k by8) (hx : r x = .int k z)
  (h : K (.slice (some ⟨w.heap.size, 0, none⟩) 1 1) (w.alloc (.cells #[.int k z] e))) : give Try.prog K ((execOp r o).run Try.prog w) := by
 obtain ⟨i, hi, hz, hs, hby⟩ := hT.ex
 refine gvo (v := .slice (some ⟨w.heap.size, 0, none⟩) 1 1) (w' := w.alloc (.cells #[.int k z] e)) ?_ h
 simp [execOp, ho, hx, go_sem, run_underlying hT.ut, hi, hz, hs, hby, sizeOf, typeInfo, zeroValue]
/-- One more of gaps: what holds while the region goes. -/
structure SackG (w0 : World) (q : Nat) (V : List Nat) (c : Ck) (s : Sv) (st : Option Nat) (L : Nat → Bool) (vs : Nat → Value) (wx : World) : Prop where
 A : L 12 = false → RS w0 wx q c s V (bif L 9 then (numS V (numS V st 2).1 2).1 else bif L 7 then (numS V st 2).1 else st)
 B : L 12 = true → L 16 = false → ∃ ad n cap gi bv, vs 12 = .slice ad n cap ∧ Half w0 wx q c ({ c with gaps := c.gaps ++ [((((numS V st 2).2 : Nat) : Int), (((numS V (numS V st 2).1 2).2 : Nat) : Int))] }) s { s with gA := ad, gN := n, gC := cap } V (numS V (numS V st 2).1 2).1 gi bv
 C : L 16 = true → ∃ s2, RS w0 wx q ({ c with gaps := c.gaps ++ [((((numS V st 2).2 : Nat) : Int), (((numS V (numS V st 2).1 2).2 : Nat) : Int))] }) s2 V (numS V (numS V st 2).1 2).1
 S : L 11 = true → L 12 = false → PairsAt wx (vs 11) [((((numS V st 2).2 : Nat) : Int), (((numS V (numS V st 2).1 2).2 : Nat) : Int))]
 k0 : L 0 = true → vs 0 = ptr q
 k1 : L 1 = true → vs 1 = ptr q
 k2 : L 2 = true → vs 2 = ptr q
 k3 : L 3 = true → vs 3 = ptr q
 k4 : L 4 = true → vs 4 = .pointer (some ⟨q, 16, none⟩)
 k5 : L 5 = true → vs 5 = .slice s.gA s.gN s.gC
 k6 : L 6 = true → vs 6 = ptr q
 k7 : L 7 = true → vs 7 = .int .i64 ((numS V st 2).2 : Nat)
 k8 : L 8 = true → vs 8 = ptr q
 k9 : L 9 = true → vs 9 = .int .i64 ((numS V (numS V st 2).1 2).2 : Nat)
 k10 : L 10 = true → vs 10 = .agg #[.int .i64 ((numS V st 2).2 : Nat), .int .i64 ((numS V (numS V st 2).1 2).2 : Nat)]
 k13 : L 13 = true → vs 13 = ptr q
 k14 : L 14 = true → vs 14 = ptr q
 k15 : L 15 = true → vs 15 = .pointer (some ⟨q, 16, none⟩)
 d11_7 : L 11 = true → L 7 = true
 d9_7 : L 9 = true → L 7 = true
 d11_9 : L 11 = true → L 9 = true
 d10_7 : L 10 = true → L 7 = true
 d10_9 : L 10 = true → L 9 = true
 d12_5 : L 12 = true → L 5 = true
 d12_11 : L 12 = true → L 11 = true
 d16_12 : L 16 = true → L 12 = true
/-- One more of dups: what holds while the region goes. -/
structure SackD (w0 : World) (q : Nat) (V : List Nat) (c : Ck) (s : Sv) (st : Option Nat) (L : Nat → Bool) (vs : Nat → Value) (wx : World) : Prop where
 A : L 9 = false → RS w0 wx q c s V (bif L 7 then (numS V st 4).1 else st)
 B : L 9 = true → L 13 = false → ∃ ad n cap gi bv, vs 9 = .slice ad n cap ∧ Half w0 wx q c ({ c with dups := c.dups ++ [(numS V st 4).2] }) s { s with dA := ad, dN := n, dC := cap } V (numS V st 4).1 gi bv
 C : L 13 = true → ∃ s2, RS w0 wx q ({ c with dups := c.dups ++ [(numS V st 4).2] }) s2 V (numS V st 4).1
 S : L 8 = true → L 9 = false → NumsAt .u32 wx (vs 8) [(((numS V st 4).2 : Nat) : Int)]
 k0 : L 0 = true → vs 0 = ptr q
 k1 : L 1 = true → vs 1 = ptr q
 k2 : L 2 = true → vs 2 = ptr q
 k3 : L 3 = true → vs 3 = ptr q
 k4 : L 4 = true → vs 4 = .pointer (some ⟨q, 17, none⟩)
 k5 : L 5 = true → vs 5 = .slice s.dA s.dN s.dC
 k6 : L 6 = true → vs 6 = ptr q
 k7 : L 7 = true → vs 7 = .int .u32 ((numS V st 4).2 : Nat)
 k10 : L 10 = true → vs 10 = ptr q
 k11 : L 11 = true → vs 11 = ptr q
 k12 : L 12 = true → vs 12 = .pointer (some ⟨q, 17, none⟩)
 d8_7 : L 8 = true → L 7 = true
 d9_5 : L 9 = true → L 5 = true
 d9_8 : L 9 = true → L 8 = true
 d13_9 : L 13 = true → L 9 = true
theorem wl_min {w : World} {ops : Array Oper} {rest : List Oper} {o : Oper} {a : Act} {Q : Exit → Act → World → Prop} (hgd : o.guard = none) {x y : Operand} {m n : Nat} (k : Nat) (hk : k = min m n) (ho : o.op = .call { callee := .builtin .min, args := #[x, y], argTypes := #[3, 3] }) (hx : a.eval x = .int .i64 (m : Int)) (hy : a.eval y = .int .i64 (n : Int))
  (h : wpList Try.prog ops Q rest (a.put o.dst (.int .i64 (k : Int))) w) : wpList Try.prog ops Q (o :: rest) a w := by
 have hr : (Builtin.min_ #[3, 3] o.type #[.int .i64 (m : Int), .int .i64 (n : Int)]).run Try.prog w = .ok (.int .i64 (k : Int)) w := by
  rcases Nat.lt_or_ge n m with hl | hl
  ·
   have e : k = n := by rw [hk]; omega
   subst e
   simp [Builtin.min_, Builtin.min2, go_sem, hl]
  ·
   have e : k = m := by rw [hk]; omega
   subst e
   have : ¬ n < k := by omega
   simp [Builtin.min_, Builtin.min2, go_sem, this]
 refine wpList_of_run hgd (v := .int .i64 (k : Int)) (w' := w) ?_ h
 simp only [execOp, ho, resolve, invoke, builtin, Sem.run_bind, Sem.run_pure, Result.andThen_ok, List.map_toArray, List.map_cons, List.map_nil, hx, hy, hr]
set_option maxHeartbeats 8000000 in
theorem sack_any {w0 w : World} {q : Nat} {V : List Nat} (h : RS w0 w q (ck0 3) sv0 V (some 0)) (hA : AllB V) (hV : V.length ≤ 1000000) :
  Calls Try.prog 82 #[ptr q] w (TookIs w0 q (rdSack V) V) := by
 have HX : Hid (AllB V ∧ V.length ≤ 1000000) := ⟨hA, hV⟩
 have HR0 : Hid (RS w0 w q (ck0 3) sv0 V (some 0)) := h
 obtain ⟨n4, hn4⟩ : ∃ n, n = leftS V (st4 V) / 4 := ⟨_, rfl⟩
 have hl4 : leftS V (st4 V) ≤ 1000000 := Nat.le_trans (leftS_le V _) hV
 have hq : wrap64 (((leftS V (st4 V) : Nat) : Int) / 4) = (n4 : Int) := by unfold wrap64; omega
 obtain ⟨N, hN⟩ : ∃ n, n = nGaps V := ⟨_, rfl⟩
 have HN : Hid (N = min (numS V (st2 V) 2).2 n4) := show _ = _ by rw [hN, hn4]; rfl
 have HNG : Hid (N = nGaps V) := hN
 have hN4 : N ≤ 65535 := by have := HN.out; have := numS2_lt hA (st2 V); omega
 clear h hA hV hN hn4 hl4
 go_enter Try.func82, Try.ntmps82
 refine wp_seq_k (fun K0 hK => ?_)
 have HK0 := Stop.mk hK
 clear hK
 go_wp2_with (first
  | (have q_ := HR3; clear q_; refine wl_setR HR3.out rfl one3 9 rfl (by first | rfl | go_simp) (by first | rfl | go_simp) rfl rfl (by decide) ({ ck0 3 with tsn := (numS V (some 0) 4).2, win := ((numS V (st1 V) 4).2 : Nat) }) (sv0) (fun z => rfl) ⟨HR3.out.own.t, HR3.out.own.r, HR3.out.own.a, HR3.out.own.i, HR3.out.own.g, HR3.out.own.d, HR3.out.own.o⟩ { HR3.out.fit with win := w64_num HX.out.1 _ _ (by decide) } ?_; intro y4 hr; have HR4 : Hid (RS w0 y4 q ({ ck0 3 with tsn := (numS V (some 0) 4).2, win := ((numS V (st1 V) 4).2 : Nat) }) (sv0) V (st2 V)) := hr; clear hr)
  | (have q_ := HR2; clear q_; refine wl_setR HR2.out rfl one22 12 rfl (by first | rfl | go_simp) (by first | rfl | go_simp) rfl rfl (by decide) ({ ck0 3 with tsn := (numS V (some 0) 4).2 }) (sv0) (fun z => rfl) ⟨HR2.out.own.t, HR2.out.own.r, HR2.out.own.a, HR2.out.own.i, HR2.out.own.g, HR2.out.own.d, HR2.out.own.o⟩ { HR2.out.fit with tsn := numS_u32 HX.out.1 _ } ?_; intro y3 hr; have HR3 : Hid (RS w0 y3 q ({ ck0 3 with tsn := (numS V (some 0) 4).2 }) (sv0) V (st2 V)) := hr; clear hr)
  | (have q_ := HR1; clear q_; go_at_call 80; refine (number_any HR1.out HX.out.1 HX.out.2 4 (by decide)).mono ?_; rintro e y2 ⟨rfl, hr⟩; have HR2 : Hid (RS w0 y2 q (ck0 3) (sv0) V (st2 V)) := hr; clear hr)
  | (have q_ := HR0; clear q_; go_at_call 79; refine (word_any HR0.out HX.out.1 HX.out.2).mono ?_; rintro e y1 ⟨rfl, hr⟩; have HR1 : Hid (RS w0 y1 q (ck0 3) (sv0) V (st1 V)) := hr; clear hr))
 refine HK0.go _ _ ?_
 clear HK0
 refine wp_seq_k (fun K1 hK => ?_)
 have HK1 := Stop.mk hK
 clear hK
 go_wp2_with (first
  | (have q_ := HR5; clear q_; go_at_call 80; refine (number_any HR5.out HX.out.1 HX.out.2 2 (by decide)).mono ?_; rintro e y6 ⟨rfl, hr⟩; have HR6 : Hid (RS w0 y6 q ({ ck0 3 with tsn := (numS V (some 0) 4).2, win := ((numS V (st1 V) 4).2 : Nat) }) (sv0) V (st4 V)) := hr; clear hr; obtain ⟨gi6, bv6, hgg6⟩ := HR6.out.g; have hg6 : Hid (RSg w0 y6 q (hdSack V) sv0 V (st4 V) gi6 bv6) := hgg6; clear hgg6; have c22 := rv22 hg6.out.hb)
  | (have q_ := HR4; clear q_; go_at_call 80; refine (number_any HR4.out HX.out.1 HX.out.2 2 (by decide)).mono ?_; rintro e y5 ⟨rfl, hr⟩; have HR5 : Hid (RS w0 y5 q ({ ck0 3 with tsn := (numS V (some 0) 4).2, win := ((numS V (st1 V) 4).2 : Nat) }) (sv0) V (st3 V)) := hr; clear hr))
 refine HK1.go _ _ ?_
 clear HK1
 go_wp2_with (first
  | (have q_ := HR6; clear q_; go_at_call 49; refine (left_any hg6.out.hi HX.out.2).mono ?_; rintro e w6 ⟨rfl, he6⟩)
  | (refine wl_min rfl N HN.out rfl (by first | rfl | go_simp) (by first | rfl | go_simp) ?_))
 go_loopg [28] N (fun gm t wr => ∃ (k : Nat) (s : Sv), k ≤ N ∧ gm = N - k ∧ t = .int .i64 (k : Int) ∧ Hid (RS w0 wr q ({ hdSack V with gaps := (gapsS V (st4 V) k).2 }) s V ((gapsS V (st4 V) k).1)))
 case atStart => exact ⟨0, _, Nat.zero_le _, rfl, rfl, HR6.out.grow he6⟩
 case round =>
  obtain ⟨k, s, hk, rfl, rfl, HR⟩ := hrel
  by_cases hlt : k < N
  ·
   have hd : decide ((k : Int) < (N : Int)) = true := decide_eq_true (by omega)
   have HLn : Hid ((({ hdSack V with gaps := (gapsS V (st4 V) k).2 } : Ck)).gaps.length ≤ 100000) := show (gapsS V (st4 V) k).2.length ≤ 100000 by rw [gapsS_len]; omega
   go_wp2_with fail
   refine wp_region_W (SackG w0 q V ({ hdSack V with gaps := (gapsS V (st4 V) k).2 }) s ((gapsS V (st4 V) k).1)) (fun t => bif Nat.ble 30 t && Nat.ble t 45 then some (t - 30) else none) 71 rfl (by kernel_rfl) rfl (fun vs => ⟨fun _ => HR.out.grow (Ext.drew _), fun h => by simp at h, fun h => by simp at h, fun h => by simp at h, fun h => by simp at h, fun h => by simp at h, fun h => by simp at h, fun h => by simp at h, fun h => by simp at h, fun h => by simp at h, fun h => by simp at h, fun h => by simp at h, fun h => by simp at h, fun h => by simp at h, fun h => by simp at h, fun h => by simp at h, fun h => by simp at h, fun h => by simp at h, fun h => by simp at h, fun h => by simp at h, fun h => by simp at h, fun h => by simp at h, fun h => by simp at h, fun h => by simp at h, fun h => by simp at h, fun h => by simp at h⟩) ?_ ?_
   ·
    refine Ow ⟨rfl, ?_⟩ (Ow ⟨rfl, ?_⟩ (Ow ⟨rfl, ?_⟩ (Ow ⟨rfl, ?_⟩ (Ow ⟨rfl, ?_⟩ (Ow ⟨rfl, ?_⟩ (Ow ⟨rfl, ?_⟩ (Ow ⟨rfl, ?_⟩ (Ow ⟨rfl, ?_⟩ (Ow ⟨rfl, ?_⟩ (Ow ⟨rfl, ?_⟩ (Ow ⟨rfl, ?_⟩ (Ow ⟨rfl, ?_⟩ (Ow ⟨rfl, ?_⟩ (Ow ⟨rfl, ?_⟩ (Ow ⟨rfl, ?_⟩ (Ow ⟨rfl, ?_⟩ OwedVs.nil))))))))))))))))
    ·
     intro L vs wx r H hl hL hx
     obtain ⟨h1, _⟩ := hx
     replace h1 : r (.tmp 0) = ptr q := h1
     exact give_move (.inl rfl) (by rw [h1]; exact ⟨H.A, H.B, H.C, H.S, fun _ => rfl, H.k1, H.k2, H.k3, H.k4, H.k5, H.k6, H.k7, H.k8, H.k9, H.k10, H.k13, H.k14, H.k15, H.d11_7, H.d9_7, H.d11_9, H.d10_7, H.d10_9, H.d12_5, H.d12_11, H.d16_12⟩)
    ·
     intro L vs wx r H hl hL hx
     obtain ⟨h1, _⟩ := hx
     replace h1 : r (.tmp 0) = ptr q := h1
     exact give_move (.inl rfl) (by rw [h1]; exact ⟨H.A, H.B, H.C, H.S, H.k0, fun _ => rfl, H.k2, H.k3, H.k4, H.k5, H.k6, H.k7, H.k8, H.k9, H.k10, H.k13, H.k14, H.k15, H.d11_7, H.d9_7, H.d11_9, H.d10_7, H.d10_9, H.d12_5, H.d12_11, H.d16_12⟩)
    ·
     intro L vs wx r H hl hL hx
     obtain ⟨h1, _⟩ := hx
     replace h1 : r (.tmp 31) = ptr q := Eq.trans h1 (H.k1 (hL 1 (by kernel_rfl)))
     exact gvo (by simp [execOp, h1, ptr, go_sem]; done) ⟨H.A, H.B, H.C, H.S, H.k0, H.k1, fun _ => rfl, H.k3, H.k4, H.k5, H.k6, H.k7, H.k8, H.k9, H.k10, H.k13, H.k14, H.k15, H.d11_7, H.d9_7, H.d11_9, H.d10_7, H.d10_9, H.d12_5, H.d12_11, H.d16_12⟩
    ·
     intro L vs wx r H hl hL hx
     obtain ⟨h1, _⟩ := hx
     replace h1 : r (.tmp 32) = ptr q := Eq.trans h1 (H.k2 (hL 2 (by kernel_rfl)))
     exact gvo (by simp [execOp, h1, ptr, go_sem]; done) ⟨H.A, H.B, H.C, H.S, H.k0, H.k1, H.k2, fun _ => rfl, H.k4, H.k5, H.k6, H.k7, H.k8, H.k9, H.k10, H.k13, H.k14, H.k15, H.d11_7, H.d9_7, H.d11_9, H.d10_7, H.d10_9, H.d12_5, H.d12_11, H.d16_12⟩
    ·
     intro L vs wx r H hl hL hx
     obtain ⟨h1, _⟩ := hx
     replace h1 : r (.tmp 33) = ptr q := Eq.trans h1 (H.k3 (hL 3 (by kernel_rfl)))
     exact gvo (by simp [execOp, h1, ptr, go_sem]; done) ⟨H.A, H.B, H.C, H.S, H.k0, H.k1, H.k2, H.k3, fun _ => rfl, H.k5, H.k6, H.k7, H.k8, H.k9, H.k10, H.k13, H.k14, H.k15, H.d11_7, H.d9_7, H.d11_9, H.d10_7, H.d10_9, H.d12_5, H.d12_11, H.d16_12⟩
    ·
     intro L vs wx r H hl hL hx
     obtain ⟨h1, _⟩ := hx
     replace h1 : r (.tmp 34) = .pointer (some ⟨q, 16, none⟩) := Eq.trans h1 (H.k4 (hL 4 (by kernel_rfl)))
     obtain ⟨gi, bv, hg⟩ := (H.A (met_no H.d12_5 hl)).g
     exact gvo (exg oneSG rfl h1 (rv16 hg.hb)) ⟨H.A, H.B, H.C, H.S, H.k0, H.k1, H.k2, H.k3, H.k4, fun _ => rfl, H.k6, H.k7, H.k8, H.k9, H.k10, H.k13, H.k14, H.k15, H.d11_7, H.d9_7, H.d11_9, H.d10_7, H.d10_9, fun _ => rfl, H.d12_11, H.d16_12⟩
    ·
     intro L vs wx r H hl hL hx
     obtain ⟨h1, _⟩ := hx
     replace h1 : r (.tmp 0) = ptr q := h1
     exact give_move (.inl rfl) (by rw [h1]; exact ⟨H.A, H.B, H.C, H.S, H.k0, H.k1, H.k2, H.k3, H.k4, H.k5, fun _ => rfl, H.k7, H.k8, H.k9, H.k10, H.k13, H.k14, H.k15, H.d11_7, H.d9_7, H.d11_9, H.d10_7, H.d10_9, H.d12_5, H.d12_11, H.d16_12⟩)
    ·
     intro L vs wx r H hl hL hx
     obtain ⟨h1, h2, h3, _⟩ := hx
     replace h1 : r (.func 80) = .func (.func 80) #[] #[] := h1
     replace h2 : r (.tmp 36) = ptr q := Eq.trans h2 (H.k6 (hL 6 (by kernel_rfl)))
     replace h3 : r (.const (.int .i64 2)) = .int .i64 2 := h3
     have h9 : L 9 = false := met_no H.d9_7 hl
     have hBS : L 11 = false := met_no H.d11_9 h9
     have hAP : L 12 = false := met_no H.d12_11 hBS
     have hA : RS w0 wx q ({ hdSack V with gaps := (gapsS V (st4 V) k).2 }) s V ((gapsS V (st4 V) k).1) := by have := H.A hAP; rw [h9, hl] at this; exact this
     have hST : L 16 = false := met_no H.d16_12 hAP
     refine give_func #[ptr q, .int .i64 2] rfl h1 Try.call80 (by simp [h2, h3]) ?_
     refine (number_any hA HX.out.1 HX.out.2 2 (by decide)).mono ?_
     rintro e w' ⟨rfl, hr⟩
     exact ⟨_, rfl, ⟨fun _ => (by show RS w0 _ q ({ hdSack V with gaps := (gapsS V (st4 V) k).2 }) s V (bif L 9 then _ else _); rw [h9]; exact hr), fun h => absurd (h.symm.trans hAP) (by decide), fun h => absurd (h.symm.trans hST) (by decide), fun h => absurd (h.symm.trans hBS) (by decide), H.k0, H.k1, H.k2, H.k3, H.k4, H.k5, H.k6, fun _ => rfl, H.k8, H.k9, H.k10, H.k13, H.k14, H.k15, fun _ => rfl, fun _ => rfl, H.d11_9, fun _ => rfl, H.d10_9, H.d12_5, H.d12_11, H.d16_12⟩⟩
    ·
     intro L vs wx r H hl hL hx
     obtain ⟨h1, _⟩ := hx
     replace h1 : r (.tmp 0) = ptr q := h1
     exact give_move (.inl rfl) (by rw [h1]; exact ⟨H.A, H.B, H.C, H.S, H.k0, H.k1, H.k2, H.k3, H.k4, H.k5, H.k6, H.k7, fun _ => rfl, H.k9, H.k10, H.k13, H.k14, H.k15, H.d11_7, H.d9_7, H.d11_9, H.d10_7, H.d10_9, H.d12_5, H.d12_11, H.d16_12⟩)
    ·
     intro L vs wx r H hl hL hx
     obtain ⟨h1, h2, h3, _⟩ := hx
     replace h1 : r (.func 80) = .func (.func 80) #[] #[] := h1
     replace h2 : r (.tmp 38) = ptr q := Eq.trans h2 (H.k8 (hL 8 (by kernel_rfl)))
     replace h3 : r (.const (.int .i64 2)) = .int .i64 2 := h3
     have h7 : L 7 = true := hL 7 (by kernel_rfl)
     have hBS : L 11 = false := met_no H.d11_9 hl
     have hAP : L 12 = false := met_no H.d12_11 hBS
     have hA : RS w0 wx q ({ hdSack V with gaps := (gapsS V (st4 V) k).2 }) s V (numS V ((gapsS V (st4 V) k).1) 2).1 := by have := H.A hAP; rw [hl, h7] at this; exact this
     have hST : L 16 = false := met_no H.d16_12 hAP
     refine give_func #[ptr q, .int .i64 2] rfl h1 Try.call80 (by simp [h2, h3]) ?_
     refine (number_any hA HX.out.1 HX.out.2 2 (by decide)).mono ?_
     rintro e w' ⟨rfl, hr⟩
     exact ⟨_, rfl, ⟨fun _ => hr, fun h => absurd (h.symm.trans hAP) (by decide), fun h => absurd (h.symm.trans hST) (by decide), fun h => absurd (h.symm.trans hBS) (by decide), H.k0, H.k1, H.k2, H.k3, H.k4, H.k5, H.k6, H.k7, H.k8, fun _ => rfl, H.k10, H.k13, H.k14, H.k15, H.d11_7, fun _ => h7, fun _ => rfl, H.d10_7, fun _ => rfl, H.d12_5, H.d12_11, H.d16_12⟩⟩
    ·
     intro L vs wx r H hl hL hx
     obtain ⟨h1, h2, _⟩ := hx
     replace h1 : r (.tmp 37) = .int .i64 ((numS V ((gapsS V (st4 V) k).1) 2).2 : Nat) := Eq.trans h1 (H.k7 (hL 7 (by kernel_rfl)))
     replace h2 : r (.tmp 39) = .int .i64 ((numS V (numS V ((gapsS V (st4 V) k).1) 2).1 2).2 : Nat) := Eq.trans h2 (H.k9 (hL 9 (by kernel_rfl)))
     refine gvo (v := .agg #[.int .i64 ((numS V ((gapsS V (st4 V) k).1) 2).2 : Nat), .int .i64 ((numS V (numS V ((gapsS V (st4 V) k).1) 2).1 2).2 : Nat)]) (w' := wx) ?_ ⟨H.A, H.B, H.C, H.S, H.k0, H.k1, H.k2, H.k3, H.k4, H.k5, H.k6, H.k7, H.k8, H.k9, fun _ => rfl, H.k13, H.k14, H.k15, H.d11_7, H.d9_7, H.d11_9, fun _ => hL 7 (by kernel_rfl), fun _ => hL 9 (by kernel_rfl), H.d12_5, H.d12_11, H.d16_12⟩
     have hb := run_build (P := Try.prog) wx 67 #[(0, .int .i64 ((numS V ((gapsS V (st4 V) k).1) 2).2 : Nat)), (1, .int .i64 ((numS V (numS V ((gapsS V (st4 V) k).1) 2).1 2).2 : Nat))] #[.int .i64 ((numS V ((gapsS V (st4 V) k).1) 2).2 : Nat), .int .i64 ((numS V (numS V ((gapsS V (st4 V) k).1) 2).1 2).2 : Nat)] (by kernel_rfl)
     simp [execOp, h1, h2, hb]
    ·
     intro L vs wx r H hl hL hx
     obtain ⟨h1, _⟩ := hx
     replace h1 : r (.tmp 40) = .agg #[.int .i64 ((numS V ((gapsS V (st4 V) k).1) 2).2 : Nat), .int .i64 ((numS V (numS V ((gapsS V (st4 V) k).1) 2).1 2).2 : Nat)] := Eq.trans h1 (H.k10 (hL 10 (by kernel_rfl)))
     have hAP : L 12 = false := met_no H.d12_11 hl
     have hST : L 16 = false := met_no H.d16_12 hAP
     exact give_one_pair rfl prG h1 ⟨fun h => (H.A h).grow (Ext.alloc _ _), fun h => absurd (h.symm.trans hAP) (by decide), fun h => absurd (h.symm.trans hST) (by decide), fun _ _ => pairs_one wx (_, _) _, H.k0, H.k1, H.k2, H.k3, H.k4, H.k5, H.k6, H.k7, H.k8, H.k9, H.k10, H.k13, H.k14, H.k15, fun _ => H.d10_7 (hL 10 (by kernel_rfl)), H.d9_7, fun _ => H.d10_9 (hL 10 (by kernel_rfl)), H.d10_7, H.d10_9, H.d12_5, fun _ => rfl, H.d16_12⟩
    ·
     intro L vs wx r H hl hL hx
     obtain ⟨h1, h2, _⟩ := hx
     have hA : RS w0 wx q ({ hdSack V with gaps := (gapsS V (st4 V) k).2 }) s V (numS V (numS V ((gapsS V (st4 V) k).1) 2).1 2).1 := by have := H.A hl; rw [H.d11_9 (hL 11 (by kernel_rfl))] at this; exact this
     have hST : L 16 = false := met_no H.d16_12 hl
     replace h1 : r (.tmp 35) = .slice s.gA s.gN s.gC := Eq.trans h1 (H.k5 (hL 5 (by kernel_rfl)))
     replace h2 : r (.tmp 41) = vs 11 := h2
     exact give_app_g hA (H.S (hL 11 (by kernel_rfl)) hl) HLn.out ⟨w64_num HX.out.1 _ _ (by decide), w64_num HX.out.1 _ _ (by decide)⟩ rfl h1 h2 (fun ad n cap w' gi bv hf _ => ⟨fun h => absurd h (by simp [met1]), fun _ _ => ⟨ad, n, cap, gi, bv, rfl, hf⟩, fun h => absurd (h.symm.trans hST) (by decide), fun _ h => absurd h (by simp [met1]), H.k0, H.k1, H.k2, H.k3, H.k4, H.k5, H.k6, H.k7, H.k8, H.k9, H.k10, H.k13, H.k14, H.k15, H.d11_7, H.d9_7, H.d11_9, H.d10_7, H.d10_9, fun _ => hL 5 (by kernel_rfl), fun _ => hL 11 (by kernel_rfl), fun _ => rfl⟩)
    ·
     intro L vs wx r H hl hL hx
     obtain ⟨h1, _⟩ := hx
     replace h1 : r (.tmp 30) = ptr q := Eq.trans h1 (H.k0 (hL 0 (by kernel_rfl)))
     exact gvo (by simp [execOp, h1, ptr, go_sem]; done) ⟨H.A, H.B, H.C, H.S, H.k0, H.k1, H.k2, H.k3, H.k4, H.k5, H.k6, H.k7, H.k8, H.k9, H.k10, fun _ => rfl, H.k14, H.k15, H.d11_7, H.d9_7, H.d11_9, H.d10_7, H.d10_9, H.d12_5, H.d12_11, H.d16_12⟩
    ·
     intro L vs wx r H hl hL hx
     obtain ⟨h1, _⟩ := hx
     replace h1 : r (.tmp 43) = ptr q := Eq.trans h1 (H.k13 (hL 13 (by kernel_rfl)))
     exact gvo (by simp [execOp, h1, ptr, go_sem]; done) ⟨H.A, H.B, H.C, H.S, H.k0, H.k1, H.k2, H.k3, H.k4, H.k5, H.k6, H.k7, H.k8, H.k9, H.k10, H.k13, fun _ => rfl, H.k15, H.d11_7, H.d9_7, H.d11_9, H.d10_7, H.d10_9, H.d12_5, H.d12_11, H.d16_12⟩
    ·
     intro L vs wx r H hl hL hx
     obtain ⟨h1, _⟩ := hx
     replace h1 : r (.tmp 44) = ptr q := Eq.trans h1 (H.k14 (hL 14 (by kernel_rfl)))
     exact gvo (by simp [execOp, h1, ptr, go_sem]; done) ⟨H.A, H.B, H.C, H.S, H.k0, H.k1, H.k2, H.k3, H.k4, H.k5, H.k6, H.k7, H.k8, H.k9, H.k10, H.k13, H.k14, fun _ => rfl, H.d11_7, H.d9_7, H.d11_9, H.d10_7, H.d10_9, H.d12_5, H.d12_11, H.d16_12⟩
    ·
     intro L vs wx r H hl hL hx
     obtain ⟨h1, h2, _⟩ := hx
     replace h1 : r (.tmp 45) = .pointer (some ⟨q, 16, none⟩) := Eq.trans h1 (H.k15 (hL 15 (by kernel_rfl)))
     obtain ⟨ad, n, cap, gi, bv, e, hf⟩ := H.B (hL 12 (by kernel_rfl)) hl
     replace h2 : r (.tmp 42) = .slice ad n cap := Eq.trans h2 e
     exact give_skip (exec_set oneSG rfl h1 h2 rfl rfl hf.hb (show 16 < (RV ({ hdSack V with gaps := (gapsS V (st4 V) k).2 }) s (ptr gi)).size from (by decide : 16 < 23))) ⟨fun h => absurd (h.symm.trans (hL 12 (by kernel_rfl))) (by decide), fun _ h => absurd h (by simp [met1]), fun _ => ⟨_, hf.store (fun z => rfl)⟩, fun _ h => absurd (h.symm.trans (hL 12 (by kernel_rfl))) (by decide), H.k0, H.k1, H.k2, H.k3, H.k4, H.k5, H.k6, H.k7, H.k8, H.k9, H.k10, H.k13, H.k14, H.k15, H.d11_7, H.d9_7, H.d11_9, H.d10_7, H.d10_9, H.d12_5, H.d12_11, fun _ => hL 12 (by kernel_rfl)⟩
   ·
    intro vs2 a2 w8 H ha2
    obtain ⟨s2, hr2⟩ := H.C rfl
    have HR2 : Hid (RS w0 w8 q ({ hdSack V with gaps := (gapsS V (st4 V) (k + 1)).2 }) s2 V ((gapsS V (st4 V) (k + 1)).1)) := hr2
    clear hr2 H
    simp only [putAll, Act.put, Nat.zero_add, Nat.reduceAdd, List.setIfInBounds_toArray, List.set_cons_succ, List.set_cons_zero] at ha2
    subst ha2
    go_wp2
    go_roundg (N - (k + 1))
    case measure => omega
    case rel => exact ⟨k + 1, s2, by omega, rfl, by simp, HR2.out⟩
  ·
   have hd : decide ((k : Int) < (N : Int)) = false := decide_eq_false (by omega)
   have hkN : k = nGaps V := by have := HNG.out; omega
   rw [hkN] at HR
   have HR7 : Hid (RS w0 wr q ({ hdSack V with gaps := (gapsS V (st4 V) (nGaps V)).2 }) s V (sgS V)) := HR
   have HS2 : Hid ((gapsS V (st4 V) (nGaps V)).2.length ≤ 100000) := show _ ≤ _ by rw [gapsS_len, ← HNG.out]; omega
   obtain ⟨gi7, bv7, hgg7⟩ := HR7.out.g
   have hg7 : Hid (RSg w0 wr q ({ hdSack V with gaps := (gapsS V (st4 V) (nGaps V)).2 }) s V (sgS V) gi7 bv7) := hgg7
   have c22b := rv22 hg7.out.hb
   obtain ⟨n5, hn5⟩ : ∃ n, n = leftS V (sgS V) / 4 := ⟨_, rfl⟩
   have hl5 : leftS V (sgS V) ≤ 1000000 := Nat.le_trans (leftS_le V _) HX.out.2
   have hq5 : wrap64 (((leftS V (sgS V) : Nat) : Int) / 4) = (n5 : Int) := by unfold wrap64; omega
   obtain ⟨M, hM⟩ : ∃ n, n = nDups V := ⟨_, rfl⟩
   have HM : Hid (M = min (numS V (st3 V) 2).2 n5) := show _ = _ by rw [hM, hn5]; rfl
   have HMG : Hid (M = nDups V) := hM
   have hM4 : M ≤ 65535 := by have := HM.out; have := numS2_lt HX.out.1 (st3 V); omega
   clear hgg7 HR hkN hM hn5 hl5 c22 hq
   go_wp2_with (first
    | (refine wl_min rfl M HM.out rfl (by first | rfl | go_simp) (by first | rfl | go_simp) ?_)
    | (have q_ := HR7; clear q_; go_at_call 49; refine (left_any hg7.out.hi HX.out.2).mono ?_; rintro e w7 ⟨rfl, he7⟩))
   clear hd c22b hq5 hlt hk
   go_loopg [55] M (fun gm t wr => ∃ (k : Nat) (s : Sv), k ≤ M ∧ gm = M - k ∧ t = .int .i64 (k : Int) ∧ Hid (RS w0 wr q ({ hdSack V with gaps := (gapsS V (st4 V) (nGaps V)).2, dups := (dupsS V (sgS V) k).2 }) s V ((dupsS V (sgS V) k).1)))
   case atStart => exact ⟨0, _, Nat.zero_le _, rfl, rfl, HR7.out.grow he7⟩
   case round =>
    obtain ⟨k, s, hk, rfl, rfl, HR⟩ := hrel
    by_cases hlt : k < M
    ·
     have hd : decide ((k : Int) < (M : Int)) = true := decide_eq_true (by omega)
     have HLn : Hid ((({ hdSack V with gaps := (gapsS V (st4 V) (nGaps V)).2, dups := (dupsS V (sgS V) k).2 } : Ck)).dups.length ≤ 100000) := show (dupsS V (sgS V) k).2.length ≤ 100000 by rw [dupsS_len]; omega
     go_wp2_with fail
     refine wp_region_W (SackD w0 q V ({ hdSack V with gaps := (gapsS V (st4 V) (nGaps V)).2, dups := (dupsS V (sgS V) k).2 }) s ((dupsS V (sgS V) k).1)) (fun t => bif Nat.ble 57 t && Nat.ble t 69 then some (t - 57) else none) 71 rfl (by kernel_rfl) rfl (fun vs => ⟨fun _ => HR.out.grow (Ext.drew _), fun h => by simp at h, fun h => by simp at h, fun h => by simp at h, fun h => by simp at h, fun h => by simp at h, fun h => by simp at h, fun h => by simp at h, fun h => by simp at h, fun h => by simp at h, fun h => by simp at h, fun h => by simp at h, fun h => by simp at h, fun h => by simp at h, fun h => by simp at h, fun h => by simp at h, fun h => by simp at h, fun h => by simp at h, fun h => by simp at h⟩) ?_ ?_
     ·
      refine Ow ⟨rfl, ?_⟩ (Ow ⟨rfl, ?_⟩ (Ow ⟨rfl, ?_⟩ (Ow ⟨rfl, ?_⟩ (Ow ⟨rfl, ?_⟩ (Ow ⟨rfl, ?_⟩ (Ow ⟨rfl, ?_⟩ (Ow ⟨rfl, ?_⟩ (Ow ⟨rfl, ?_⟩ (Ow ⟨rfl, ?_⟩ (Ow ⟨rfl, ?_⟩ (Ow ⟨rfl, ?_⟩ (Ow ⟨rfl, ?_⟩ (Ow ⟨rfl, ?_⟩ OwedVs.nil)))))))))))))
      ·
       intro L vs wx r H hl hL hx
       obtain ⟨h1, _⟩ := hx
       replace h1 : r (.tmp 0) = ptr q := h1
       exact give_move (.inl rfl) (by rw [h1]; exact ⟨H.A, H.B, H.C, H.S, fun _ => rfl, H.k1, H.k2, H.k3, H.k4, H.k5, H.k6, H.k7, H.k10, H.k11, H.k12, H.d8_7, H.d9_5, H.d9_8, H.d13_9⟩)
      ·
       intro L vs wx r H hl hL hx
       obtain ⟨h1, _⟩ := hx
       replace h1 : r (.tmp 0) = ptr q := h1
       exact give_move (.inl rfl) (by rw [h1]; exact ⟨H.A, H.B, H.C, H.S, H.k0, fun _ => rfl, H.k2, H.k3, H.k4, H.k5, H.k6, H.k7, H.k10, H.k11, H.k12, H.d8_7, H.d9_5, H.d9_8, H.d13_9⟩)
      ·
       intro L vs wx r H hl hL hx
       obtain ⟨h1, _⟩ := hx
       replace h1 : r (.tmp 58) = ptr q := Eq.trans h1 (H.k1 (hL 1 (by kernel_rfl)))
       exact gvo (by simp [execOp, h1, ptr, go_sem]; done) ⟨H.A, H.B, H.C, H.S, H.k0, H.k1, fun _ => rfl, H.k3, H.k4, H.k5, H.k6, H.k7, H.k10, H.k11, H.k12, H.d8_7, H.d9_5, H.d9_8, H.d13_9⟩
      ·
       intro L vs wx r H hl hL hx
       obtain ⟨h1, _⟩ := hx
       replace h1 : r (.tmp 59) = ptr q := Eq.trans h1 (H.k2 (hL 2 (by kernel_rfl)))
       exact gvo (by simp [execOp, h1, ptr, go_sem]; done) ⟨H.A, H.B, H.C, H.S, H.k0, H.k1, H.k2, fun _ => rfl, H.k4, H.k5, H.k6, H.k7, H.k10, H.k11, H.k12, H.d8_7, H.d9_5, H.d9_8, H.d13_9⟩
      ·
       intro L vs wx r H hl hL hx
       obtain ⟨h1, _⟩ := hx
       replace h1 : r (.tmp 60) = ptr q := Eq.trans h1 (H.k3 (hL 3 (by kernel_rfl)))
       exact gvo (by simp [execOp, h1, ptr, go_sem]; done) ⟨H.A, H.B, H.C, H.S, H.k0, H.k1, H.k2, H.k3, fun _ => rfl, H.k5, H.k6, H.k7, H.k10, H.k11, H.k12, H.d8_7, H.d9_5, H.d9_8, H.d13_9⟩
      ·
       intro L vs wx r H hl hL hx
       obtain ⟨h1, _⟩ := hx
       replace h1 : r (.tmp 61) = .pointer (some ⟨q, 17, none⟩) := Eq.trans h1 (H.k4 (hL 4 (by kernel_rfl)))
       obtain ⟨gi, bv, hg⟩ := (H.A (met_no H.d9_5 hl)).g
       exact gvo (exg oneSD rfl h1 (rv17 hg.hb)) ⟨H.A, H.B, H.C, H.S, H.k0, H.k1, H.k2, H.k3, H.k4, fun _ => rfl, H.k6, H.k7, H.k10, H.k11, H.k12, H.d8_7, fun _ => rfl, H.d9_8, H.d13_9⟩
      ·
       intro L vs wx r H hl hL hx
       obtain ⟨h1, _⟩ := hx
       replace h1 : r (.tmp 0) = ptr q := h1
       exact give_move (.inl rfl) (by rw [h1]; exact ⟨H.A, H.B, H.C, H.S, H.k0, H.k1, H.k2, H.k3, H.k4, H.k5, fun _ => rfl, H.k7, H.k10, H.k11, H.k12, H.d8_7, H.d9_5, H.d9_8, H.d13_9⟩)
      ·
       intro L vs wx r H hl hL hx
       obtain ⟨h1, h2, _⟩ := hx
       replace h1 : r (.func 79) = .func (.func 79) #[] #[] := h1
       replace h2 : r (.tmp 63) = ptr q := Eq.trans h2 (H.k6 (hL 6 (by kernel_rfl)))
       have hBS : L 8 = false := met_no H.d8_7 hl
       have hAP : L 9 = false := met_no H.d9_8 hBS
       have hA : RS w0 wx q ({ hdSack V with gaps := (gapsS V (st4 V) (nGaps V)).2, dups := (dupsS V (sgS V) k).2 }) s V ((dupsS V (sgS V) k).1) := by have := H.A hAP; rw [hl] at this; exact this
       have hST : L 13 = false := met_no H.d13_9 hAP
       refine give_func #[ptr q] rfl h1 Try.call79 (by simp [h2]) ?_
       refine (word_any hA HX.out.1 HX.out.2).mono ?_
       rintro e w' ⟨rfl, hr⟩
       exact ⟨_, rfl, ⟨fun _ => hr, fun h => absurd (h.symm.trans hAP) (by decide), fun h => absurd (h.symm.trans hST) (by decide), fun h => absurd (h.symm.trans hBS) (by decide), H.k0, H.k1, H.k2, H.k3, H.k4, H.k5, H.k6, fun _ => rfl, H.k10, H.k11, H.k12, fun _ => rfl, H.d9_5, H.d9_8, H.d13_9⟩⟩
      ·
       intro L vs wx r H hl hL hx
       obtain ⟨h1, _⟩ := hx
       replace h1 : r (.tmp 64) = .int .u32 ((numS V ((dupsS V (sgS V) k).1) 4).2 : Nat) := Eq.trans h1 (H.k7 (hL 7 (by kernel_rfl)))
       have hAP : L 9 = false := met_no H.d9_8 hl
       have hST : L 13 = false := met_no H.d13_9 hAP
       exact give_one_num rfl numTD h1 ⟨fun h => (H.A h).grow (Ext.alloc _ _), fun h => absurd (h.symm.trans hAP) (by decide), fun h => absurd (h.symm.trans hST) (by decide), fun _ _ => NumsAt.one wx _ _ _ rfl, H.k0, H.k1, H.k2, H.k3, H.k4, H.k5, H.k6, H.k7, H.k10, H.k11, H.k12, fun _ => hL 7 (by kernel_rfl), H.d9_5, fun _ => rfl, H.d13_9⟩
      ·
       intro L vs wx r H hl hL hx
       obtain ⟨h1, h2, _⟩ := hx
       have hA : RS w0 wx q ({ hdSack V with gaps := (gapsS V (st4 V) (nGaps V)).2, dups := (dupsS V (sgS V) k).2 }) s V (numS V ((dupsS V (sgS V) k).1) 4).1 := by have := H.A hl; rw [H.d8_7 (hL 8 (by kernel_rfl))] at this; exact this
       have hST : L 13 = false := met_no H.d13_9 hl
       replace h1 : r (.tmp 62) = .slice s.dA s.dN s.dC := Eq.trans h1 (H.k5 (hL 5 (by kernel_rfl)))
       replace h2 : r (.tmp 65) = vs 8 := h2
       exact give_app_d hA (H.S (hL 8 (by kernel_rfl)) hl) HLn.out (numS_u32 HX.out.1 _) rfl h1 h2 (fun ad n cap w' gi bv hf _ => ⟨fun h => absurd h (by simp [met1]), fun _ _ => ⟨ad, n, cap, gi, bv, rfl, hf⟩, fun h => absurd (h.symm.trans hST) (by decide), fun _ h => absurd h (by simp [met1]), H.k0, H.k1, H.k2, H.k3, H.k4, H.k5, H.k6, H.k7, H.k10, H.k11, H.k12, H.d8_7, fun _ => hL 5 (by kernel_rfl), fun _ => hL 8 (by kernel_rfl), fun _ => rfl⟩)
      ·
       intro L vs wx r H hl hL hx
       obtain ⟨h1, _⟩ := hx
       replace h1 : r (.tmp 57) = ptr q := Eq.trans h1 (H.k0 (hL 0 (by kernel_rfl)))
       exact gvo (by simp [execOp, h1, ptr, go_sem]; done) ⟨H.A, H.B, H.C, H.S, H.k0, H.k1, H.k2, H.k3, H.k4, H.k5, H.k6, H.k7, fun _ => rfl, H.k11, H.k12, H.d8_7, H.d9_5, H.d9_8, H.d13_9⟩
      ·
       intro L vs wx r H hl hL hx
       obtain ⟨h1, _⟩ := hx
       replace h1 : r (.tmp 67) = ptr q := Eq.trans h1 (H.k10 (hL 10 (by kernel_rfl)))
       exact gvo (by simp [execOp, h1, ptr, go_sem]; done) ⟨H.A, H.B, H.C, H.S, H.k0, H.k1, H.k2, H.k3, H.k4, H.k5, H.k6, H.k7, H.k10, fun _ => rfl, H.k12, H.d8_7, H.d9_5, H.d9_8, H.d13_9⟩
      ·
       intro L vs wx r H hl hL hx
       obtain ⟨h1, _⟩ := hx
       replace h1 : r (.tmp 68) = ptr q := Eq.trans h1 (H.k11 (hL 11 (by kernel_rfl)))
       exact gvo (by simp [execOp, h1, ptr, go_sem]; done) ⟨H.A, H.B, H.C, H.S, H.k0, H.k1, H.k2, H.k3, H.k4, H.k5, H.k6, H.k7, H.k10, H.k11, fun _ => rfl, H.d8_7, H.d9_5, H.d9_8, H.d13_9⟩
      ·
       intro L vs wx r H hl hL hx
       obtain ⟨h1, h2, _⟩ := hx
       replace h1 : r (.tmp 69) = .pointer (some ⟨q, 17, none⟩) := Eq.trans h1 (H.k12 (hL 12 (by kernel_rfl)))
       obtain ⟨ad, n, cap, gi, bv, e, hf⟩ := H.B (hL 9 (by kernel_rfl)) hl
       replace h2 : r (.tmp 66) = .slice ad n cap := Eq.trans h2 e
       exact give_skip (exec_set oneSD rfl h1 h2 rfl rfl hf.hb (show 17 < (RV ({ hdSack V with gaps := (gapsS V (st4 V) (nGaps V)).2, dups := (dupsS V (sgS V) k).2 }) s (ptr gi)).size from (by decide : 17 < 23))) ⟨fun h => absurd (h.symm.trans (hL 9 (by kernel_rfl))) (by decide), fun _ h => absurd h (by simp [met1]), fun _ => ⟨_, hf.store (fun z => rfl)⟩, fun _ h => absurd (h.symm.trans (hL 9 (by kernel_rfl))) (by decide), H.k0, H.k1, H.k2, H.k3, H.k4, H.k5, H.k6, H.k7, H.k10, H.k11, H.k12, H.d8_7, H.d9_5, H.d9_8, fun _ => hL 9 (by kernel_rfl)⟩
     ·
      intro vs2 a2 w8 H ha2
      obtain ⟨s2, hr2⟩ := H.C rfl
      have HR2 : Hid (RS w0 w8 q ({ hdSack V with gaps := (gapsS V (st4 V) (nGaps V)).2, dups := (dupsS V (sgS V) (k + 1)).2 }) s2 V ((dupsS V (sgS V) (k + 1)).1)) := hr2
      clear hr2 H
      simp only [putAll, Act.put, Nat.zero_add, Nat.reduceAdd, List.setIfInBounds_toArray, List.set_cons_succ, List.set_cons_zero] at ha2
      subst ha2
      go_wp2
      go_roundg (M - (k + 1))
      case measure => omega
      case rel => exact ⟨k + 1, s2, by omega, rfl, by simp, HR2.out⟩
    ·
     have hd : decide ((k : Int) < (M : Int)) = false := decide_eq_false (by omega)
     have hkM : k = nDups V := by have := HMG.out; omega
     rw [hkM] at HR
     go_wp2
     go_end0
     exact ⟨⟨_, rfl⟩, _, _, HR.out⟩
set_option maxRecDepth 100000
set_option maxHeartbeats 2000000 in
theorem addrOf_any {w : World} {k : Int} {u : Value} {m : List Nat} (hu : BytesAt w u m) (hm : m.length ≤ 1000000) :
  Calls Try.prog 96 #[.agg #[.int .i64 k, u]] w fun e w' => e = .returned (.int .i64 (addrV m)) ∧ Ext w w' := by
 obtain ⟨a0, c0, rfl, _, _⟩ := hu.form
 have HM : Hid (m.length ≤ 1000000) := hm
 have HU : Hid (BytesAt w (.slice a0 m.length c0) m) := hu
 have hn := numS_u32 hu.1 (some 0)
 have hw : IntKind.i64.wrap (((numS m (some 0) 4).2 : Nat) : Int) = (((numS m (some 0) 4).2 : Nat) : Int) := by rw [IntKind.wrap_i64]; omega
 obtain ⟨l, hl⟩ : ∃ l, l = m.length := ⟨_, rfl⟩
 rw [← hl] at HU ⊢
 clear hu hm hl
 unfold addrV
 go_enter Try.func96, Try.ntmps96
 go_wp2_with (first
  | (refine wl_box (C := #[.int .i64 k, .slice a0 l c0]) rfl rfl rfl ?_; intro w1 hb1 he1 hx; clear hx; have c1 : w1.cell? ⟨w.heap.size, 1, none⟩ = some (.slice a0 l c0) := hb1.cell 1; clear hb1)
  | (go_at_call 39; refine (read_any (HU.out.ext he1) HM.out).mono ?_; rintro e w2 ⟨g1, bv1, rfl, hlo1, hin1, he2⟩)
  | (go_at_call 40; refine (inNum_any hin1 HM.out 4).mono ?_; rintro e w3 ⟨rfl, hi3, hk3⟩))
 go_ret
 exact ⟨rfl, (he1.trans he2).of_but hk3 (fun k e => by subst e; exact Nat.le_trans he1.size hlo1)⟩
/-- What Params answers, whether they are parameters or not. -/
theorem paramsR {w : World} {v : Value} {B : List Nat} (hv : BytesAt w v B) (hB : B.length ≤ 100000) :
  Calls Try.prog 95 #[v] w fun e w' => Ext w w' ∧ ∃ lv er, e = .returned (.tuple #[lv, er]) ∧ OwnL 138 w' w.heap.size lv ((readAll B).getD []) := by
 cases h : readAll B with
 | none => exact (params_none hv hB h).mono fun e w' hh => ⟨hh.1, _, _, hh.2, OwnL.nil _ _ _⟩
 | some L => exact (params_some hv hB h).mono fun e w' hh => ⟨hh.1, hh.2.elim fun lv h2 => ⟨lv, _, h2⟩⟩
theorem OwnL.at {w : World} {base : Nat} {a : Option Addr} {n c : Nat} {L : List Par} {e : TypeId} (h : OwnL e w base (.slice a n c) L) (k : Nat) (hk : k < L.length) : ∃ b u, a = some ⟨b, 0, none⟩ ∧ w.cell? ⟨b, k * 2, none⟩ = some (.int .i64 (L.getD k (0, [])).1) ∧ w.cell? ⟨b, k * 2 + 1, none⟩ = some u ∧ OB w base u (L.getD k (0, [])).2 := by
 obtain ⟨M, rfl, hr, ho⟩ := h
 rw [List.length_map] at hk
 have hm : M[k]? = some M[k] := by simp [hk]
 have hg : (M.map (·.1)).getD k (0, []) = M[k].1 := by simp [List.getD_eq_getElem?_getD, hk]
 rcases hr.2 with ⟨e1, h0⟩ | ⟨g, cap, cur, e1, hb, hgb, hnc, hcm, hcs, htk⟩
 ·
  have : M.length = 0 := h0
  omega
 ·
  simp only [Value.slice.injEq] at e1
  obtain ⟨h1, h2⟩ := pc_get hm
  have hbk : Blk w g cur e := hgb
  rw [← htk, List.getElem?_take] at h1 h2
  rw [if_pos (by omega)] at h1 h2
  rw [hg]
  refine ⟨g, M[k].2, e1.1, ?_, ?_, ho _ (List.mem_of_getElem? hm)⟩
  ·
   rw [hbk.cell]; simpa using h1
  ·
   rw [hbk.cell]; simpa using h2
theorem OwnL.len {w : World} {base : Nat} {a : Option Addr} {n c : Nat} {L : List Par} {e : TypeId} (h : OwnL e w base (.slice a n c) L) : n = L.length := by
 obtain ⟨a', c', e1⟩ := h.form
 simp only [Value.slice.injEq] at e1
 exact e1.2.1
theorem OwnL.butR {w w' : World} {base e e' g n size base' : Nat} {v u : Value} {L : List Par} {xs : List Value} (h : OwnL e w base v L) (ho : w.ownsRow base' e' size u n xs) (h1 : e ≠ e') (h5 : 5 ≠ e') (hk : KeepBut (fun k => u.ownBlock = some k) w w') : OwnL e w' base v L :=
 h.but hk (fun k C hb _ e2 => hb.elim (fun hb => ownsRow_ne ho hb h1 _ e2 rfl) (fun hb => ownsRow_ne ho hb h5 _ e2 rfl))
theorem OwnL.butB {w w' : World} {base e g t : Nat} {v : Value} {L : List Par} {C : Array Value} (h : OwnL e w base v L) (hb : Blk w g C t) (h1 : t ≠ e) (h5 : t ≠ 5) (hk : KeepBut (· = g) w w') : OwnL e w' base v L :=
 h.but hk (fun k D hd _ e2 => by
  subst e2
  have key : ∀ {E : Nat}, Blk w k D E → t = E := fun hd => by
   have : some (Obj.cells C t (0, 0)) = some (.cells D _ (0, 0)) := hb.symm.trans hd
   simp only [Option.some.injEq, Obj.cells.injEq] at this
   exact this.2.1
  exact hd.elim (fun hd => h1 (key hd)) (fun hd => h5 (key hd)))
/-- One more of addrs: what holds while the region goes. -/
structure ParsA (w0 : World) (q g5 : Nat) (V : List Nat) (c : Ck) (s : Sv) (st : Option Nat) (K : Int) (u : Value) (m : List Nat) (lv : Value) (Lp : List Par) (L : Nat → Bool) (vs : Nat → Value) (wx : World) : Prop where
 A : L 9 = false → RS w0 wx q c s V st ∧ Blk wx g5 #[.int .i64 K, u] 138 ∧ BytesAt wx u m
 P : OwnL 138 wx w0.heap.size lv Lp
 B : L 9 = true → L 13 = false → ∃ ad n cap gi bv, vs 9 = .slice ad n cap ∧ Half w0 wx q c ({ c with addrs := c.addrs ++ [addrV m] }) s { s with aA := ad, aN := n, aC := cap } V st gi bv
 C : L 13 = true → ∃ s2, RS w0 wx q ({ c with addrs := c.addrs ++ [addrV m] }) s2 V st
 S : L 8 = true → L 9 = false → NumsAt .i64 wx (vs 8) [addrV m]
 k0 : L 0 = true → vs 0 = ptr q
 k1 : L 1 = true → vs 1 = ptr q
 k2 : L 2 = true → vs 2 = ptr q
 k3 : L 3 = true → vs 3 = ptr q
 k4 : L 4 = true → vs 4 = .pointer (some ⟨q, 14, none⟩)
 k5 : L 5 = true → vs 5 = .slice s.aA s.aN s.aC
 k6 : L 6 = true → vs 6 = .agg #[.int .i64 K, u]
 k7 : L 7 = true → vs 7 = .int .i64 (addrV m)
 k10 : L 10 = true → vs 10 = ptr q
 k11 : L 11 = true → vs 11 = ptr q
 k12 : L 12 = true → vs 12 = .pointer (some ⟨q, 14, none⟩)
 d7_6 : L 7 = true → L 6 = true
 d9_5 : L 9 = true → L 5 = true
 d9_8 : L 9 = true → L 8 = true
 d13_9 : L 13 = true → L 9 = true
 d8_7 : L 8 = true → L 7 = true
/-- One more of ops: what holds while the region goes. -/
structure ParsO (w0 : World) (q g5 : Nat) (V : List Nat) (c : Ck) (s : Sv) (st : Option Nat) (K : Int) (u : Value) (m : List Nat) (lv : Value) (Lp : List Par) (L : Nat → Bool) (vs : Nat → Value) (wx : World) : Prop where
 A : L 13 = false → RS w0 wx q c s V st ∧ Blk wx g5 #[.int .i64 K, u] 138 ∧ BytesAt wx u m
 P : OwnL 138 wx w0.heap.size lv Lp
 B : L 13 = true → L 17 = false → ∃ ad n cap gi bv, vs 13 = .slice ad n cap ∧ Half w0 wx q c ({ c with ops := c.ops ++ [(K - 49152, addrV m)] }) s { s with oA := ad, oN := n, oC := cap } V st gi bv
 C : L 17 = true → ∃ s2, RS w0 wx q ({ c with ops := c.ops ++ [(K - 49152, addrV m)] }) s2 V st
 S : L 12 = true → L 13 = false → PairsAt wx (vs 12) [(K - 49152, addrV m)]
 k0 : L 0 = true → vs 0 = ptr q
 k1 : L 1 = true → vs 1 = ptr q
 k2 : L 2 = true → vs 2 = ptr q
 k3 : L 3 = true → vs 3 = ptr q
 k4 : L 4 = true → vs 4 = .pointer (some ⟨q, 20, none⟩)
 k5 : L 5 = true → vs 5 = .slice s.oA s.oN s.oC
 k6 : L 6 = true → vs 6 = ptr g5
 k7 : L 7 = true → vs 7 = .int .i64 K
 k8 : L 8 = true → vs 8 = .int .i64 (K - 49152)
 k9 : L 9 = true → vs 9 = .agg #[.int .i64 K, u]
 k10 : L 10 = true → vs 10 = .int .i64 (addrV m)
 k11 : L 11 = true → vs 11 = .agg #[.int .i64 (K - 49152), .int .i64 (addrV m)]
 k14 : L 14 = true → vs 14 = ptr q
 k15 : L 15 = true → vs 15 = ptr q
 k16 : L 16 = true → vs 16 = .pointer (some ⟨q, 20, none⟩)
 d10_9 : L 10 = true → L 9 = true
 d13_5 : L 13 = true → L 5 = true
 d13_12 : L 13 = true → L 12 = true
 d17_13 : L 17 = true → L 13 = true
 d12_11 : L 12 = true → L 11 = true
 d11_10 : L 11 = true → L 10 = true
 d11_8 : L 11 = true → L 8 = true
 d8_7 : L 8 = true → L 7 = true
end Tlv
end Go.Proofs.Ytbahelhohkhkmaa
