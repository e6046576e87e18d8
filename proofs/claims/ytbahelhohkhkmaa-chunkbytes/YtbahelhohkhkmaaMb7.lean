/- Texts of the seat, one behind the other. No condition of its own. -/
import Derived.Test.YtbahelhohkhkmaaMb6
import Derived.Deep.CutRange
set_option linter.unusedVariables false
set_option linter.unusedSimpArgs false
/- The document's bytes of a good chunk: of the kinds that hold nothing or one number. No condition of its own. -/
namespace Go.Proofs.Ytbahelhohkhkmaa
namespace Tlv
open Go Go.RowKit
set_option maxRecDepth 100000
/-- What the document's Bytes answers. -/
def DocBytesIs (w : World) (c : Ck) (e : Ending) (w' : World) : Prop := ∃ a n cp, e = .returned (.slice a n cp) ∧ n = (bytesB c).length ∧ OB w' w.heap.size (.slice a n cp) (bytesB c) ∧ Ext w w'
theorem writeB_nil : writeB [] = [] := rfl
/-- The code behind its first statements. -/
def afterSeq : Nat → Code → Code
 | 0, c => c
 | n + 1, .seq _ b => afterSeq n b
 | _ + 1, c => c
set_option maxHeartbeats 32000000 in
theorem tailB {w wj : World} {c : Ck} {s : Sv} {FL K : Nat} {va la : Option Addr} {vn vc ln lc : Nat} {V : List Nat} {L : List Par} (hFL : FL < 256) (hk : c.kind = (K : Int)) (hK : K < 256) (hV : (valB c).length ≤ 600)
  (HT : Hid (Blk wj w.heap.size (CV c s) 32 ∧ Ext w wj ∧ BytesAt wj (.slice va vn vc) V ∧ ParsAt wj (.slice la ln lc) L ∧ V ++ writeB L = valB c ∧ V.length ≤ 600 ∧ (writeB L).length ≤ 700 ∧ L.length ≤ 20 ∧ (∀ p ∈ L, goodP p = true) ∧ flagN c.pb c.pe c.pu = FL))
  {u0 u2 u6 u7 u8 u9 u10 u11 u12 u13 u14 u15 u16 u17 u18 u19 u20 u21 u22 u23 u24 u25 u26 u27 u28 u29 u30 u31 u32 u33 u34 u35 u36 u37 u38 u39 u40 u41 u42 u43 u44 u45 u46 u47 u48 u49 u50 u51 u52 u53 u54 u55 u56 u57 u58 u59 u60 u61 u62 u63 u64 u65 u66 u67 u68 u69 u70 u71 u72 u73 u74 u75 u76 u77 u78 u79 u80 u81 u82 u83 u84 u85 u86 u87 u88 u89 u90 u91 u92 u93 u94 u95 u96 u97 u98 u99 u100 u101 u102 u103 u104 u105 u106 u107 u108 u109 u110 u111 u112 u113 u114 u115 u116 u117 u118 u119 u120 u121 u122 u123 u124 u125 u126 u127 u128 u129 u130 u131 u132 u133 u134 u135 u136 u137 u138 u139 u140 u141 u142 u143 u144 u145 u146 u147 u148 u149 u150 u151 u152 u153 u154 u155 u156 u157 u158 u159 u160 u161 u162 u163 u164 u165 u166 u167 u168 u169 u170 u171 u172 u173 u174 u175 u176 u177 u178 u179 u180 u181 u182 u183 u184 u185 u186 u187 u188 u189 u190 u191 u192 u193 u194 u195 u196 u197 u198 u199 u200 u201 u202 u203 u204 u205 u206 u207 u208 u209 u210 u211 u212 u213 u214 u215 u216 u217 u218 u219 u220 u221 u222 u223 u224 u225 u226 u227 u228 u229 u230 u231 u232 u233 u234 u235 u236 u237 u238 u239 u240 u241 u242 u243 u244 u245 u246 u247 u248 u249 u250 u251 u252 u253 u254 u255 u256 u257 u258 u259 u260 u261 u262 u263 u264 : Value} :
  Code.wp Try.prog (afterSeq 5 (Try.f16.body.getD .skip)) (bodyPost Try.prog Try.f16 (DocBytesIs w c)) { tmps := #[u0, .pointer (some ⟨w.heap.size, 0, none⟩), u2, .int .i64 (FL : Int), .slice va vn vc, .slice la ln lc, u6, u7, u8, u9, u10, u11, u12, u13, u14, u15, u16, u17, u18, u19, u20, u21, u22, u23, u24, u25, u26, u27, u28, u29, u30, u31, u32, u33, u34, u35, u36, u37, u38, u39, u40, u41, u42, u43, u44, u45, u46, u47, u48, u49, u50, u51, u52, u53, u54, u55, u56, u57, u58, u59, u60, u61, u62, u63, u64, u65, u66, u67, u68, u69, u70, u71, u72, u73, u74, u75, u76, u77, u78, u79, u80, u81, u82, u83, u84, u85, u86, u87, u88, u89, u90, u91, u92, u93, u94, u95, u96, u97, u98, u99, u100, u101, u102, u103, u104, u105, u106, u107, u108, u109, u110, u111, u112, u113, u114, u115, u116, u117, u118, u119, u120, u121, u122, u123, u124, u125, u126, u127, u128, u129, u130, u131, u132, u133, u134, u135, u136, u137, u138, u139, u140, u141, u142, u143, u144, u145, u146, u147, u148, u149, u150, u151, u152, u153, u154, u155, u156, u157, u158, u159, u160, u161, u162, u163, u164, u165, u166, u167, u168, u169, u170, u171, u172, u173, u174, u175, u176, u177, u178, u179, u180, u181, u182, u183, u184, u185, u186, u187, u188, u189, u190, u191, u192, u193, u194, u195, u196, u197, u198, u199, u200, u201, u202, u203, u204, u205, u206, u207, u208, u209, u210, u211, u212, u213, u214, u215, u216, u217, u218, u219, u220, u221, u222, u223, u224, u225, u226, u227, u228, u229, u230, u231, u232, u233, u234, u235, u236, u237, u238, u239, u240, u241, u242, u243, u244, u245, u246, u247, u248, u249, u250, u251, u252, u253, u254, u255, u256, u257, u258, u259, u260, u261, u262, u263, u264], defers := [] } wj := by
 have HK : Hid (c.kind = (K : Int) ∧ K < 256 ∧ (valB c).length ≤ 600) := ⟨hk, hK, hV⟩
 have HFL : Hid (FL < 256) := hFL
 have w8 : IntKind.u8.wrap (FL : Int) = (FL : Int) := by rw [IntKind.wrap_u8]; omega
 have v8 : (FL : Int) % 256 = (FL : Int) := by omega
 clear hk hK hV hFL
 obtain ⟨Y, hY⟩ : ∃ Y, Y = valB c := ⟨_, rfl⟩
 have HY : Hid (V ++ writeB L = Y ∧ Y.length ≤ 600 ∧ V.length ≤ 600 ∧ V.length + (writeB L).length ≤ 1000000) := ⟨by rw [hY]; exact HT.out.2.2.2.2.1, by rw [hY]; exact HK.out.2.2, HT.out.2.2.2.2.2.1, by have h1 := HT.out.2.2.2.2.2.1; have h2 := HT.out.2.2.2.2.2.2.1; omega⟩
 have HFB : Hid (bytesB c = padB (((be K 1 ++ be FL 1) ++ be (Y.length + 4) 2) ++ Y)) := show _ = _ by unfold bytesB; rw [← hY, HK.out.1, HT.out.2.2.2.2.2.2.2.2.2]; rfl
 clear hY
 refine wp_seq_k (fun K58 hK => ?_)
 have HK58 := Stop.mk hK
 clear hK
 go_wp2_with (first
  | (have q_ := ho71; clear q_; at_builtin; refine wl_app (l := V) (m := writeB L) (base := w.heap.size) rfl rfl rfl rfl (ho70.ext he71) ho71.bytes HY.out.2.2.2 (Nat.le_trans HE70.out.1.size he71.size) ?_; intro ad72 n72 cap72 w72 hn72 ho72 hk72 hg72; clear hg72; have HE72 : Hid (Blk w72 w.heap.size (CV c s) 32 ∧ Ext w w72) := ⟨(HE70.out.2.ext he71).but hk72 (fun e => (ho70.ext he71).ne (HE70.out.2.ext he71) (by decide) _ e rfl), (HE70.out.1.trans he71).of_but hk72 (fun q e => ((ho70.ext he71).lt e).1)⟩; clear hk72 ho71 HE70; rw [HY.out.1] at hn72 ho72)
  | (have q_ := ho70; clear q_; go_at_call 37; refine (refWrite_any (HT.out.2.2.2.1.ext HE70w.out) (by have := HT.out.2.2.2.2.2.2.1; omega) (by have := HT.out.2.2.2.2.2.2.2.1; omega) HT.out.2.2.2.2.2.2.2.2.1).mono ?_; rintro e w71 ⟨wa71, wn71, wc71, rfl, ho71, he71⟩; clear HE70w)
  | (at_builtin; refine wl_app (l := []) (m := V) (base := w.heap.size) rfl rfl rfl rfl (OB.lit0 _ _ _ rfl HT.out.2.1.size) (HT.out.2.2.1.ext (Ext.alloc _ _)) (by have h_ := HY.out.2.2.1; rw [List.length_nil]; omega) (Nat.le_trans HT.out.2.1.size (Ext.alloc _ _).size) ?_; intro ad70 n70 cap70 w70 hn70 ho70 hk70 hg70; clear hg70; rw [List.nil_append] at ho70; have HE70w : Hid (Ext wj w70) := (Ext.alloc _ _).of_but hk70 (fun q e => by cases e; exact Nat.le_refl _); have HE70 : Hid (Ext w w70 ∧ Blk w70 w.heap.size (CV c s) 32) := ⟨HT.out.2.1.trans HE70w.out, HT.out.1.ext HE70w.out⟩; clear hk70))
 refine HK58.go _ _ ?_
 clear HK58
 clear ho70 he71 hn70
 have h1 := hn72.out
 subst h1
 obtain ⟨yn, hyn⟩ : ∃ q, q = Y.length := ⟨_, rfl⟩
 rw [← hyn] at ho72 ⊢
 have HYn : Hid (yn = Y.length ∧ yn ≤ 600) := ⟨hyn, by rw [hyn]; exact HY.out.2.1⟩
 clear hyn hn72
 refine wp_seq_k (fun K59 hK => ?_)
 have HK59 := Stop.mk hK
 clear hK
 have c59 := cv0 HE72.out.1
 rw [HK.out.1] at c59
 go_wp2_with (first
  | (have q_ := ho73; clear q_; at_builtin; refine wl_push (l := be K 1) (y := FL) (base := w72.heap.size) rfl rfl (by first | rfl | go_simp | simp) (by have := HFL.out; omega) rfl rfl rfl ho73 (by rw [be_len]; omega) he73.size ?_; intro ad74 n74 cap74 w74 hn74 ho74 hk74; have HE74 : Hid (Ext w72 w74) := he73.of_but hk74 (fun q e => (ho73.lt e).1); clear hk74 ho73)
  | (go_at_call 36; refine (refNumI_any K (by have := HK.out.2.1; omega) 1 _).mono ?_; rintro e w73 ⟨na73, nn73, nc73, rfl, hnn73, ho73, he73⟩; rw [numBi1] at hnn73 ho73; have HN73 : Hid (nn73 = (be K 1).length) := hnn73; clear hnn73))
 refine HK59.go _ _ ?_
 clear HK59
 have HN74 : Hid (n74 = 2) := show _ = _ by rw [hn74.out, be_len]
 clear hn74 c59 he73 HN73
 have ho74' := ho74
 clear ho74
 have h_ := HN74.out
 subst h_
 rw [show be K 1 ++ [FL] = be K 1 ++ be FL 1 from by rw [be_one (n := FL) (by have := HFL.out; omega)]] at ho74'
 obtain ⟨BB, hBB⟩ : ∃ B, B = be K 1 ++ be FL 1 := ⟨_, rfl⟩
 rw [← hBB] at ho74'
 have HBB : Hid (BB = be K 1 ++ be FL 1 ∧ BB.length = 2) := ⟨hBB, by rw [hBB, List.length_append, be_len, be_len]⟩
 clear hBB
 obtain ⟨m4, hm4⟩ : ∃ q, q = yn + 4 := ⟨_, rfl⟩
 have z4 : (yn : Int) + 4 = (m4 : Int) := by omega
 have zw4 : IntKind.i64.wrap (m4 : Int) = (m4 : Int) := by have := HYn.out.2; rw [IntKind.wrap_i64]; omega
 have zv4 : wrap64 (m4 : Int) = (m4 : Int) := by have := HYn.out.2; unfold wrap64; omega
 have HM4 : Hid (m4 = Y.length + 4 ∧ m4 ≤ 604) := ⟨by rw [hm4, HYn.out.1], by have := HYn.out.2; omega⟩
 clear hm4
 clear w8 v8
 refine wp_seq_k (fun K60 hK => ?_)
 have HK60 := Stop.mk hK
 clear hK
 go_wp2_with (first
  | (have q_ := ho76; clear q_; at_builtin; refine wl_app (l := BB ++ be m4 2) (m := Y) (base := w72.heap.size) rfl rfl rfl rfl ho76 HE76.out.2.bytes (by have h1 := HBB.out.2; have h2 := HYn.out; rw [List.length_append, be_len]; omega) HE76.out.1.size ?_; intro ad77 n77 cap77 w77 hn77 ho77 hk77 hg77; clear hg77; have HE77 : Hid (Ext w72 w77) := HE76.out.1.of_but hk77 (fun q e => (ho76.lt e).1); clear hk77 ho76)
  | (have q_ := ho75; clear q_; at_builtin; refine wl_app (l := BB) (m := be m4 2) (base := w72.heap.size) rfl rfl rfl rfl (ho74'.ext he75) ho75.bytes (by have h1 := HBB.out.2; rw [be_len]; omega) (Nat.le_trans HE74.out.size he75.size) ?_; intro ad76 n76 cap76 w76 hn76 ho76 hk76 hg76; clear hg76; have HE76 : Hid (Ext w72 w76 ∧ OB w76 w.heap.size (.slice ad72 yn cap72) Y) := ⟨(HE74.out.trans he75).of_but hk76 (fun q e => ((ho74'.ext he75).lt e).1), (ho72.ext (HE74.out.trans he75)).but hk76 (fun q e e2 => by have h1 := (ho72.lt e).2; have h2 := ((ho74'.ext he75).lt e2).1; omega)⟩; clear hk76 ho75)
  | (go_at_call 36; refine (refNumI_any m4 (by have := HM4.out.2; omega) 2 _).mono ?_; rintro e w75 ⟨na75, nn75, nc75, rfl, hnn75, ho75', he75⟩; rw [numBi2] at hnn75 ho75'; have ho75 := ho75'.base (Nat.le_trans (Nat.le_refl _) HE74.out.size); clear ho75'; have HN75 : Hid (nn75 = (be m4 2).length) := hnn75; clear hnn75))
 refine HK60.go _ _ ?_
 clear HK60
 clear z4 zw4 zv4 hn76 HN75 he75
 obtain ⟨Z, hZ⟩ : ∃ Z, Z = (BB ++ be m4 2) ++ Y := ⟨_, rfl⟩
 rw [← hZ] at ho77 hn77
 have HZ : Hid (bytesB c = padB Z ∧ Z.length ≤ 700) := ⟨by rw [HFB.out, hZ, HBB.out.1, HM4.out.1], by rw [hZ, List.length_append, List.length_append, be_len]; have h1 := HBB.out.2; have h2 := HYn.out; omega⟩
 clear hZ
 go_wp2_with (first
  | (go_at_call 38; refine (refPad_any (by have h_ := ho77.bytes; exact h_) (by have := HZ.out.2; omega)).mono ?_; rintro e w78 ⟨pa78, pn78, pc78, rfl, hpn, ho78, he78⟩; have HPN : Hid (pn78 = (padB Z).length) := hpn; clear hpn))
 go_ret
 exact ⟨pa78, pn78, pc78, rfl, by rw [HZ.out.1]; exact HPN.out, by rw [HZ.out.1]; exact ho78.base (Nat.le_trans HE72.out.2.size HE77.out.size), (HE72.out.2.trans HE77.out).trans he78⟩
set_option maxHeartbeats 32000000 in
theorem docB_7 {w : World} {c : Ck} {s : Sv} (ha : CkAt w s c) (hf : Fit c) (hg : GoodC c) (hk : c.kind = 7) :
  Calls Try.prog 16 #[.agg (CV c s)] w (DocBytesIs w c) := by
 have hbl : flagN c.pb c.pe c.pu = 0 := by have h := ((yes_iff c).2 hg).blank (by rw [hk]; decide); rw [h.2.2.2.1, h.2.2.2.2.1, h.2.2.2.2.2.1]; rfl
 have HFQ : Hid (flagN c.pb c.pe c.pu = 0) := hbl
 clear hbl
 have hvb : valB c = be c.tsn 4 := by unfold valB; rw [hk]; rfl
 have HVB : Hid (valB c = be c.tsn 4) := hvb
 clear hvb
 have HVL0 := valB_len hg
 have b_tsn := hf.tsn
 have w_tsn : IntKind.i64.wrap (c.tsn : Int) = (c.tsn : Int) := by rw [IntKind.wrap_i64]; omega
 have v_tsn : wrap64 (c.tsn : Int) = (c.tsn : Int) := by unfold wrap64; omega
 have CM12 : ∀ {wx : World}, Blk wx w.heap.size (CV c s) 32 → wx.cell? ⟨w.heap.size, 12, none⟩ = some (.int .u32 (c.tsn : Int)) := fun h => cv12 h
 have HA : Hid (CkAt w s c ∧ Fit c ∧ GoodC c ∧ c.kind = 7 ∧ (valB c).length ≤ 600) := ⟨ha, hf, hg, hk, HVL0⟩
 clear ha hf hg hk HVL0
 go_enter Try.func16, Try.ntmps16
 refine wp_seq_k (fun K0 hK => ?_)
 have HK0 := Stop.mk hK
 clear hK
 go_wp2_with (first
  | (refine wl_box (C := CV c s) rfl rfl rfl ?_; intro w1 hb1 he1 hx; clear hx))
 refine HK0.go _ _ ?_
 clear HK0
 have HS1 : Hid (Blk w1 w.heap.size (CV c s) 32 ∧ Ext w w1 ∧ True) := ⟨hb1, he1, trivial⟩
 clear hb1 he1
 refine wp_seq_k (fun K1 hK => ?_)
 have HK1 := Stop.mk hK
 clear hK
 go_wp2
 refine HK1.go _ _ ?_
 clear HK1
 refine wp_seq_k (fun K2 hK => ?_)
 have HK2 := Stop.mk hK
 clear hK
 go_wp2
 refine HK2.go _ _ ?_
 clear HK2
 refine wp_seq_k (fun K3 hK => ?_)
 have HK3 := Stop.mk hK
 clear hK
 go_wp2
 refine HK3.go _ _ ?_
 clear HK3
 refine wp_seq_k (fun Ksw hK => ?_)
 have HKsw := Stop.mk hK
 clear hK
 have c0 := cv0 HS1.out.1
 rw [HA.out.2.2.2.1] at c0
 have c12 := CM12 HS1.out.1
 go_wp2_with (first
  | (go_at_call 36; refine (refNumI_any c.tsn (by omega) 4 _).mono ?_; rintro e w2 ⟨a2, n2, c2, rfl, hn2, ho2, he2⟩; rw [numBi4] at hn2 ho2; have HN2 : Hid (n2 = (be c.tsn 4).length) := hn2; clear hn2))
 have HT : Hid (Blk w2 w.heap.size (CV c s) 32 ∧ Ext w w2 ∧ BytesAt w2 (.slice a2 n2 c2) (be c.tsn 4) ∧ ParsAt w2 (.slice none 0 0) [] ∧ be c.tsn 4 ++ writeB [] = valB c ∧ (be c.tsn 4).length ≤ 600 ∧ (writeB []).length ≤ 700 ∧ ([] : List Par).length ≤ 20 ∧ (∀ p ∈ ([] : List Par), goodP p = true) ∧ flagN c.pb c.pe c.pu = 0) := ⟨HS1.out.1.ext he2, HS1.out.2.1.trans he2, ho2.bytes, (OwnQ.nil 85 w w2).pars (HS1.out.2.1.trans he2), by rw [HVB.out, writeB_nil, List.append_nil], by rw [be_len]; omega, by rw [writeB_nil]; simp, by simp, fun p hp => absurd hp (List.not_mem_nil), HFQ.out⟩
 clear HS1 c0 c12 ho2 he2
 refine HKsw.go _ _ ?_
 clear HKsw
 clear w_tsn v_tsn b_tsn
 exact tailB (FL := 0) (K := 7) (by decide) HA.out.2.2.2.1 (by decide) HA.out.2.2.2.2 HT
set_option maxHeartbeats 32000000 in
theorem docB_8 {w : World} {c : Ck} {s : Sv} (ha : CkAt w s c) (hf : Fit c) (hg : GoodC c) (hk : c.kind = 8) :
  Calls Try.prog 16 #[.agg (CV c s)] w (DocBytesIs w c) := by
 have hbl : flagN c.pb c.pe c.pu = 0 := by have h := ((yes_iff c).2 hg).blank (by rw [hk]; decide); rw [h.2.2.2.1, h.2.2.2.2.1, h.2.2.2.2.2.1]; rfl
 have HFQ : Hid (flagN c.pb c.pe c.pu = 0) := hbl
 clear hbl
 have hvb : valB c = [] := by unfold valB; rw [hk]; rfl
 have HVB : Hid (valB c = []) := hvb
 clear hvb
 have HVL0 := valB_len hg
 have HA : Hid (CkAt w s c ∧ Fit c ∧ GoodC c ∧ c.kind = 8 ∧ (valB c).length ≤ 600) := ⟨ha, hf, hg, hk, HVL0⟩
 clear ha hf hg hk HVL0
 go_enter Try.func16, Try.ntmps16
 refine wp_seq_k (fun K0 hK => ?_)
 have HK0 := Stop.mk hK
 clear hK
 go_wp2_with (first
  | (refine wl_box (C := CV c s) rfl rfl rfl ?_; intro w1 hb1 he1 hx; clear hx))
 refine HK0.go _ _ ?_
 clear HK0
 have HS1 : Hid (Blk w1 w.heap.size (CV c s) 32 ∧ Ext w w1 ∧ True) := ⟨hb1, he1, trivial⟩
 clear hb1 he1
 refine wp_seq_k (fun K1 hK => ?_)
 have HK1 := Stop.mk hK
 clear hK
 go_wp2
 refine HK1.go _ _ ?_
 clear HK1
 refine wp_seq_k (fun K2 hK => ?_)
 have HK2 := Stop.mk hK
 clear hK
 go_wp2
 refine HK2.go _ _ ?_
 clear HK2
 refine wp_seq_k (fun K3 hK => ?_)
 have HK3 := Stop.mk hK
 clear hK
 go_wp2
 refine HK3.go _ _ ?_
 clear HK3
 refine wp_seq_k (fun Ksw hK => ?_)
 have HKsw := Stop.mk hK
 clear hK
 have c0 := cv0 HS1.out.1
 rw [HA.out.2.2.2.1] at c0
 go_wp2
 have HT : Hid (Blk w1 w.heap.size (CV c s) 32 ∧ Ext w w1 ∧ BytesAt w1 (.slice none 0 0) [] ∧ ParsAt w1 (.slice none 0 0) [] ∧ [] ++ writeB [] = valB c ∧ ([] : List Nat).length ≤ 600 ∧ (writeB []).length ≤ 700 ∧ ([] : List Par).length ≤ 20 ∧ (∀ p ∈ ([] : List Par), goodP p = true) ∧ flagN c.pb c.pe c.pu = 0) := ⟨HS1.out.1, HS1.out.2.1, BytesAt.none _, (OwnQ.nil 85 w w1).pars HS1.out.2.1, by rw [HVB.out]; rfl, by simp, by rw [writeB_nil]; simp, by simp, fun p hp => absurd hp (List.not_mem_nil), HFQ.out⟩
 clear HS1 c0
 refine HKsw.go _ _ ?_
 clear HKsw
 exact tailB (FL := 0) (K := 8) (by decide) HA.out.2.2.2.1 (by decide) HA.out.2.2.2.2 HT
set_option maxHeartbeats 32000000 in
theorem docB_11 {w : World} {c : Ck} {s : Sv} (ha : CkAt w s c) (hf : Fit c) (hg : GoodC c) (hk : c.kind = 11) :
  Calls Try.prog 16 #[.agg (CV c s)] w (DocBytesIs w c) := by
 have hbl : flagN c.pb c.pe c.pu = 0 := by have h := ((yes_iff c).2 hg).blank (by rw [hk]; decide); rw [h.2.2.2.1, h.2.2.2.2.1, h.2.2.2.2.2.1]; rfl
 have HFQ : Hid (flagN c.pb c.pe c.pu = 0) := hbl
 clear hbl
 have hvb : valB c = [] := by unfold valB; rw [hk]; rfl
 have HVB : Hid (valB c = []) := hvb
 clear hvb
 have HVL0 := valB_len hg
 have HA : Hid (CkAt w s c ∧ Fit c ∧ GoodC c ∧ c.kind = 11 ∧ (valB c).length ≤ 600) := ⟨ha, hf, hg, hk, HVL0⟩
 clear ha hf hg hk HVL0
 go_enter Try.func16, Try.ntmps16
 refine wp_seq_k (fun K0 hK => ?_)
 have HK0 := Stop.mk hK
 clear hK
 go_wp2_with (first
  | (refine wl_box (C := CV c s) rfl rfl rfl ?_; intro w1 hb1 he1 hx; clear hx))
 refine HK0.go _ _ ?_
 clear HK0
 have HS1 : Hid (Blk w1 w.heap.size (CV c s) 32 ∧ Ext w w1 ∧ True) := ⟨hb1, he1, trivial⟩
 clear hb1 he1
 refine wp_seq_k (fun K1 hK => ?_)
 have HK1 := Stop.mk hK
 clear hK
 go_wp2
 refine HK1.go _ _ ?_
 clear HK1
 refine wp_seq_k (fun K2 hK => ?_)
 have HK2 := Stop.mk hK
 clear hK
 go_wp2
 refine HK2.go _ _ ?_
 clear HK2
 refine wp_seq_k (fun K3 hK => ?_)
 have HK3 := Stop.mk hK
 clear hK
 go_wp2
 refine HK3.go _ _ ?_
 clear HK3
 refine wp_seq_k (fun Ksw hK => ?_)
 have HKsw := Stop.mk hK
 clear hK
 have c0 := cv0 HS1.out.1
 rw [HA.out.2.2.2.1] at c0
 go_wp2
 have HT : Hid (Blk w1 w.heap.size (CV c s) 32 ∧ Ext w w1 ∧ BytesAt w1 (.slice none 0 0) [] ∧ ParsAt w1 (.slice none 0 0) [] ∧ [] ++ writeB [] = valB c ∧ ([] : List Nat).length ≤ 600 ∧ (writeB []).length ≤ 700 ∧ ([] : List Par).length ≤ 20 ∧ (∀ p ∈ ([] : List Par), goodP p = true) ∧ flagN c.pb c.pe c.pu = 0) := ⟨HS1.out.1, HS1.out.2.1, BytesAt.none _, (OwnQ.nil 85 w w1).pars HS1.out.2.1, by rw [HVB.out]; rfl, by simp, by rw [writeB_nil]; simp, by simp, fun p hp => absurd hp (List.not_mem_nil), HFQ.out⟩
 clear HS1 c0
 refine HKsw.go _ _ ?_
 clear HKsw
 exact tailB (FL := 0) (K := 11) (by decide) HA.out.2.2.2.1 (by decide) HA.out.2.2.2.2 HT
set_option maxHeartbeats 32000000 in
theorem docB_14 {w : World} {c : Ck} {s : Sv} (ha : CkAt w s c) (hf : Fit c) (hg : GoodC c) (hk : c.kind = 14) :
  Calls Try.prog 16 #[.agg (CV c s)] w (DocBytesIs w c) := by
 have hbl : flagN c.pb c.pe c.pu = 0 := by have h := ((yes_iff c).2 hg).blank (by rw [hk]; decide); rw [h.2.2.2.1, h.2.2.2.2.1, h.2.2.2.2.2.1]; rfl
 have HFQ : Hid (flagN c.pb c.pe c.pu = 0) := hbl
 clear hbl
 have hvb : valB c = [] := by unfold valB; rw [hk]; rfl
 have HVB : Hid (valB c = []) := hvb
 clear hvb
 have HVL0 := valB_len hg
 have HA : Hid (CkAt w s c ∧ Fit c ∧ GoodC c ∧ c.kind = 14 ∧ (valB c).length ≤ 600) := ⟨ha, hf, hg, hk, HVL0⟩
 clear ha hf hg hk HVL0
 go_enter Try.func16, Try.ntmps16
 refine wp_seq_k (fun K0 hK => ?_)
 have HK0 := Stop.mk hK
 clear hK
 go_wp2_with (first
  | (refine wl_box (C := CV c s) rfl rfl rfl ?_; intro w1 hb1 he1 hx; clear hx))
 refine HK0.go _ _ ?_
 clear HK0
 have HS1 : Hid (Blk w1 w.heap.size (CV c s) 32 ∧ Ext w w1 ∧ True) := ⟨hb1, he1, trivial⟩
 clear hb1 he1
 refine wp_seq_k (fun K1 hK => ?_)
 have HK1 := Stop.mk hK
 clear hK
 go_wp2
 refine HK1.go _ _ ?_
 clear HK1
 refine wp_seq_k (fun K2 hK => ?_)
 have HK2 := Stop.mk hK
 clear hK
 go_wp2
 refine HK2.go _ _ ?_
 clear HK2
 refine wp_seq_k (fun K3 hK => ?_)
 have HK3 := Stop.mk hK
 clear hK
 go_wp2
 refine HK3.go _ _ ?_
 clear HK3
 refine wp_seq_k (fun Ksw hK => ?_)
 have HKsw := Stop.mk hK
 clear hK
 have c0 := cv0 HS1.out.1
 rw [HA.out.2.2.2.1] at c0
 go_wp2
 have HT : Hid (Blk w1 w.heap.size (CV c s) 32 ∧ Ext w w1 ∧ BytesAt w1 (.slice none 0 0) [] ∧ ParsAt w1 (.slice none 0 0) [] ∧ [] ++ writeB [] = valB c ∧ ([] : List Nat).length ≤ 600 ∧ (writeB []).length ≤ 700 ∧ ([] : List Par).length ≤ 20 ∧ (∀ p ∈ ([] : List Par), goodP p = true) ∧ flagN c.pb c.pe c.pu = 0) := ⟨HS1.out.1, HS1.out.2.1, BytesAt.none _, (OwnQ.nil 85 w w1).pars HS1.out.2.1, by rw [HVB.out]; rfl, by simp, by rw [writeB_nil]; simp, by simp, fun p hp => absurd hp (List.not_mem_nil), HFQ.out⟩
 clear HS1 c0
 refine HKsw.go _ _ ?_
 clear HKsw
 exact tailB (FL := 0) (K := 14) (by decide) HA.out.2.2.2.1 (by decide) HA.out.2.2.2.2 HT
set_option maxRecDepth 100000
theorem goodP_one {k : Int} {l : List Nat} (h0 : 0 ≤ k) (h1 : k ≤ 65535) (hl : l.length ≤ 4000) : ∀ p ∈ ([(k, l)] : List Par), goodP p = true := fun p hp => by
 have := List.mem_singleton.1 hp
 subst this
 exact (goodP_iff _).2 ⟨h0, h1, hl⟩
theorem lit_04 (w : World) : BytesAt (w.alloc (.cells #[.int .u8 0, .int .u8 4] 5)) (.slice (some ⟨w.heap.size, 0, none⟩) 2 2) [0, 4] := (OB.lit w w.heap.size [0, 4] (by intro x hx; simp at hx; omega) (by simp) (Nat.le_refl _)).bytes
theorem lit_0000 (w : World) : BytesAt (w.alloc (.cells #[.int .u8 0, .int .u8 0, .int .u8 0, .int .u8 0] 5)) (.slice (some ⟨w.heap.size, 0, none⟩) 4 4) [0, 0, 0, 0] := (OB.lit w w.heap.size [0, 0, 0, 0] (by intro x hx; simp at hx; omega) (by simp) (Nat.le_refl _)).bytes
set_option maxHeartbeats 32000000 in
theorem docB_10 {w : World} {c : Ck} {s : Sv} (ha : CkAt w s c) (hf : Fit c) (hg : GoodC c) (hk : c.kind = 10) :
  Calls Try.prog 16 #[.agg (CV c s)] w (DocBytesIs w c) := by
 have hbl : flagN c.pb c.pe c.pu = 0 := by have h := ((yes_iff c).2 hg).blank (by rw [hk]; decide); rw [h.2.2.2.1, h.2.2.2.2.1, h.2.2.2.2.2.1]; rfl
 have HFQ : Hid (flagN c.pb c.pe c.pu = 0) := hbl
 clear hbl
 have hvb : valB c = c.info := by unfold valB; rw [hk]; rfl
 have HVB : Hid (valB c = c.info) := hvb
 clear hvb
 have HVL0 := valB_len hg
 have HA : Hid (CkAt w s c ∧ Fit c ∧ GoodC c ∧ c.kind = 10 ∧ (valB c).length ≤ 600) := ⟨ha, hf, hg, hk, HVL0⟩
 clear ha hf hg hk HVL0
 go_enter Try.func16, Try.ntmps16
 refine wp_seq_k (fun K0 hK => ?_)
 have HK0 := Stop.mk hK
 clear hK
 go_wp2_with (first
  | (refine wl_box (C := CV c s) rfl rfl rfl ?_; intro w1 hb1 he1 hx; clear hx))
 refine HK0.go _ _ ?_
 clear HK0
 have HS1 : Hid (Blk w1 w.heap.size (CV c s) 32 ∧ Ext w w1 ∧ True) := ⟨hb1, he1, trivial⟩
 clear hb1 he1
 refine wp_seq_k (fun K1 hK => ?_)
 have HK1 := Stop.mk hK
 clear hK
 go_wp2
 refine HK1.go _ _ ?_
 clear HK1
 refine wp_seq_k (fun K2 hK => ?_)
 have HK2 := Stop.mk hK
 clear hK
 go_wp2
 refine HK2.go _ _ ?_
 clear HK2
 refine wp_seq_k (fun K3 hK => ?_)
 have HK3 := Stop.mk hK
 clear hK
 go_wp2
 refine HK3.go _ _ ?_
 clear HK3
 refine wp_seq_k (fun Ksw hK => ?_)
 have HKsw := Stop.mk hK
 clear hK
 have c0 := cv0 HS1.out.1
 rw [HA.out.2.2.2.1] at c0
 have c15 := cv15 HS1.out.1
 go_wp2
 have HT : Hid (Blk w1 w.heap.size (CV c s) 32 ∧ Ext w w1 ∧ BytesAt w1 (.slice s.iA s.iN s.iC) (c.info) ∧ ParsAt w1 (.slice none 0 0) ([]) ∧ c.info ++ writeB ([]) = valB c ∧ (c.info : List Nat).length ≤ 600 ∧ (writeB ([])).length ≤ 700 ∧ ([] : List Par).length ≤ 20 ∧ (∀ p ∈ ([] : List Par), goodP p = true) ∧ flagN c.pb c.pe c.pu = 0) := ⟨by exact HS1.out.1, by exact HS1.out.2.1, by exact HA.out.1.i.ext HS1.out.2.1, by exact (OwnQ.nil 85 w w1).pars (HS1.out.2.1), by rw [HVB.out, writeB_nil, List.append_nil], by rw [← HVB.out]; exact HA.out.2.2.2.2, by rw [writeB_nil]; simp, by simp, by exact fun p hp => absurd hp (List.not_mem_nil), by exact HFQ.out⟩
 clear HS1 c0 c15
 refine HKsw.go _ _ ?_
 clear HKsw
 exact tailB (FL := 0) (K := 10) (by decide) HA.out.2.2.2.1 (by decide) HA.out.2.2.2.2 HT
set_option maxHeartbeats 32000000 in
theorem docB_15 {w : World} {c : Ck} {s : Sv} (ha : CkAt w s c) (hf : Fit c) (hg : GoodC c) (hk : c.kind = 15) :
  Calls Try.prog 16 #[.agg (CV c s)] w (DocBytesIs w c) := by
 have hbl : flagN c.pb c.pe c.pu = 0 := by have h := ((yes_iff c).2 hg).blank (by rw [hk]; decide); rw [h.2.2.2.1, h.2.2.2.2.1, h.2.2.2.2.2.1]; rfl
 have HFQ : Hid (flagN c.pb c.pe c.pu = 0) := hbl
 clear hbl
 have hvb : valB c = c.info := by unfold valB; rw [hk]; rfl
 have HVB : Hid (valB c = c.info) := hvb
 clear hvb
 have HVL0 := valB_len hg
 have HA : Hid (CkAt w s c ∧ Fit c ∧ GoodC c ∧ c.kind = 15 ∧ (valB c).length ≤ 600) := ⟨ha, hf, hg, hk, HVL0⟩
 clear ha hf hg hk HVL0
 go_enter Try.func16, Try.ntmps16
 refine wp_seq_k (fun K0 hK => ?_)
 have HK0 := Stop.mk hK
 clear hK
 go_wp2_with (first
  | (refine wl_box (C := CV c s) rfl rfl rfl ?_; intro w1 hb1 he1 hx; clear hx))
 refine HK0.go _ _ ?_
 clear HK0
 have HS1 : Hid (Blk w1 w.heap.size (CV c s) 32 ∧ Ext w w1 ∧ True) := ⟨hb1, he1, trivial⟩
 clear hb1 he1
 refine wp_seq_k (fun K1 hK => ?_)
 have HK1 := Stop.mk hK
 clear hK
 go_wp2
 refine HK1.go _ _ ?_
 clear HK1
 refine wp_seq_k (fun K2 hK => ?_)
 have HK2 := Stop.mk hK
 clear hK
 go_wp2
 refine HK2.go _ _ ?_
 clear HK2
 refine wp_seq_k (fun K3 hK => ?_)
 have HK3 := Stop.mk hK
 clear hK
 go_wp2
 refine HK3.go _ _ ?_
 clear HK3
 refine wp_seq_k (fun Ksw hK => ?_)
 have HKsw := Stop.mk hK
 clear hK
 have c0 := cv0 HS1.out.1
 rw [HA.out.2.2.2.1] at c0
 have c15 := cv15 HS1.out.1
 go_wp2
 have HT : Hid (Blk w1 w.heap.size (CV c s) 32 ∧ Ext w w1 ∧ BytesAt w1 (.slice s.iA s.iN s.iC) (c.info) ∧ ParsAt w1 (.slice none 0 0) ([]) ∧ c.info ++ writeB ([]) = valB c ∧ (c.info : List Nat).length ≤ 600 ∧ (writeB ([])).length ≤ 700 ∧ ([] : List Par).length ≤ 20 ∧ (∀ p ∈ ([] : List Par), goodP p = true) ∧ flagN c.pb c.pe c.pu = 0) := ⟨by exact HS1.out.1, by exact HS1.out.2.1, by exact HA.out.1.i.ext HS1.out.2.1, by exact (OwnQ.nil 85 w w1).pars (HS1.out.2.1), by rw [HVB.out, writeB_nil, List.append_nil], by rw [← HVB.out]; exact HA.out.2.2.2.2, by rw [writeB_nil]; simp, by simp, by exact fun p hp => absurd hp (List.not_mem_nil), by exact HFQ.out⟩
 clear HS1 c0 c15
 refine HKsw.go _ _ ?_
 clear HKsw
 exact tailB (FL := 0) (K := 15) (by decide) HA.out.2.2.2.1 (by decide) HA.out.2.2.2.2 HT
set_option maxHeartbeats 32000000 in
theorem docB_6 {w : World} {c : Ck} {s : Sv} (ha : CkAt w s c) (hf : Fit c) (hg : GoodC c) (hk : c.kind = 6) :
  Calls Try.prog 16 #[.agg (CV c s)] w (DocBytesIs w c) := by
 have hbl : flagN c.pb c.pe c.pu = 0 := by have h := ((yes_iff c).2 hg).blank (by rw [hk]; decide); rw [h.2.2.2.1, h.2.2.2.2.1, h.2.2.2.2.2.1]; rfl
 have HFQ : Hid (flagN c.pb c.pe c.pu = 0) := hbl
 clear hbl
 have hgc := good_cause hg (.inl hk)
 have HVL0 := valB_len hg
 obtain ⟨U, hU⟩ : ∃ q : Nat, c.cause = (q : Int) := ⟨c.cause.toNat, by omega⟩
 have CM18 : ∀ {wx : World}, Blk wx w.heap.size (CV c s) 32 → wx.cell? ⟨w.heap.size, 18, none⟩ = some (.int .i64 (U : Int)) := fun h => by rw [← hU]; exact cv18 h
 have hvb : valB c = be U 2 ++ [0, 4] := by unfold valB; rw [hk, hU]; rfl
 have HVB : Hid (valB c = be U 2 ++ [0, 4]) := hvb
 have hUb : U < 65536 := by omega
 clear hvb hgc hU
 have HA : Hid (CkAt w s c ∧ Fit c ∧ GoodC c ∧ c.kind = 6 ∧ (valB c).length ≤ 600) := ⟨ha, hf, hg, hk, HVL0⟩
 clear ha hf hg hk HVL0
 go_enter Try.func16, Try.ntmps16
 refine wp_seq_k (fun K0 hK => ?_)
 have HK0 := Stop.mk hK
 clear hK
 go_wp2_with (first
  | (refine wl_box (C := CV c s) rfl rfl rfl ?_; intro w1 hb1 he1 hx; clear hx))
 refine HK0.go _ _ ?_
 clear HK0
 have HS1 : Hid (Blk w1 w.heap.size (CV c s) 32 ∧ Ext w w1 ∧ True) := ⟨hb1, he1, trivial⟩
 clear hb1 he1
 refine wp_seq_k (fun K1 hK => ?_)
 have HK1 := Stop.mk hK
 clear hK
 go_wp2
 refine HK1.go _ _ ?_
 clear HK1
 refine wp_seq_k (fun K2 hK => ?_)
 have HK2 := Stop.mk hK
 clear hK
 go_wp2
 refine HK2.go _ _ ?_
 clear HK2
 refine wp_seq_k (fun K3 hK => ?_)
 have HK3 := Stop.mk hK
 clear hK
 go_wp2
 refine HK3.go _ _ ?_
 clear HK3
 refine wp_seq_k (fun Ksw hK => ?_)
 have HKsw := Stop.mk hK
 clear hK
 have c0 := cv0 HS1.out.1
 rw [HA.out.2.2.2.1] at c0
 have c18 := CM18 HS1.out.1
 go_wp2_with (first
  | (have q_ := ho2; clear q_; at_builtin; have hA2 : Ext w2 (w2.alloc (.cells #[.int .u8 0, .int .u8 4] 5)) := Ext.alloc _ _; have e2 := (ho2.base HS1.out.2.1.size).ext hA2; have eB := (HS1.out.1.ext he2).ext hA2; have eE := (HS1.out.2.1.trans he2).trans hA2; refine wl_app (l := be U 2) (m := [0, 4]) (base := w.heap.size) rfl rfl rfl rfl e2 (lit_04 w2) (by rw [be_len]; simp) eE.size ?_; intro a3 n3 c3 w3 hn3 ho3 hk3 hg3; clear hg3; have HE3 : Hid (Blk w3 w.heap.size (CV c s) 32 ∧ Ext w w3) := ⟨eB.but hk3 (fun e => e2.ne eB (by decide) _ e rfl), eE.of_but hk3 (fun q e => (e2.lt e).1)⟩; clear hk3 ho2 e2 eB eE hA2)
  | (go_at_call 36; refine (refNumI_any U (by omega) 2 _).mono ?_; rintro e w2 ⟨a2, n2, c2, rfl, hn2, ho2, he2⟩; rw [numBi2] at hn2 ho2; have HN2 : Hid (n2 = (be U 2).length) := hn2; clear hn2))
 have HT : Hid (Blk w3 w.heap.size (CV c s) 32 ∧ Ext w w3 ∧ BytesAt w3 (.slice a3 n3 c3) ((be U 2 ++ [0, 4])) ∧ ParsAt w3 (.slice none 0 0) ([]) ∧ (be U 2 ++ [0, 4]) ++ writeB ([]) = valB c ∧ ((be U 2 ++ [0, 4]) : List Nat).length ≤ 600 ∧ (writeB ([])).length ≤ 700 ∧ ([] : List Par).length ≤ 20 ∧ (∀ p ∈ ([] : List Par), goodP p = true) ∧ flagN c.pb c.pe c.pu = 0) := ⟨by exact HE3.out.1, by exact HE3.out.2, by exact ho3.bytes, by exact (OwnQ.nil 85 w w3).pars (HE3.out.2), by rw [HVB.out, writeB_nil, List.append_nil], by rw [List.length_append, be_len]; simp, by rw [writeB_nil]; simp, by simp, by exact fun p hp => absurd hp (List.not_mem_nil), by exact HFQ.out⟩
 clear HS1 c0 c18 HE3 ho3 hn3
 refine HKsw.go _ _ ?_
 clear HKsw
 exact tailB (FL := 0) (K := 6) (by decide) HA.out.2.2.2.1 (by decide) HA.out.2.2.2.2 HT
set_option maxHeartbeats 32000000 in
theorem docB_9 {w : World} {c : Ck} {s : Sv} (ha : CkAt w s c) (hf : Fit c) (hg : GoodC c) (hk : c.kind = 9) :
  Calls Try.prog 16 #[.agg (CV c s)] w (DocBytesIs w c) := by
 have hbl : flagN c.pb c.pe c.pu = 0 := by have h := ((yes_iff c).2 hg).blank (by rw [hk]; decide); rw [h.2.2.2.1, h.2.2.2.2.1, h.2.2.2.2.2.1]; rfl
 have HFQ : Hid (flagN c.pb c.pe c.pu = 0) := hbl
 clear hbl
 have hgc := good_cause hg (.inr hk)
 have HVL0 := valB_len hg
 obtain ⟨U, hU⟩ : ∃ q : Nat, c.cause = (q : Int) := ⟨c.cause.toNat, by omega⟩
 have CM18 : ∀ {wx : World}, Blk wx w.heap.size (CV c s) 32 → wx.cell? ⟨w.heap.size, 18, none⟩ = some (.int .i64 (U : Int)) := fun h => by rw [← hU]; exact cv18 h
 have hvb : valB c = be U 2 ++ [0, 4] := by unfold valB; rw [hk, hU]; rfl
 have HVB : Hid (valB c = be U 2 ++ [0, 4]) := hvb
 have hUb : U < 65536 := by omega
 clear hvb hgc hU
 have HA : Hid (CkAt w s c ∧ Fit c ∧ GoodC c ∧ c.kind = 9 ∧ (valB c).length ≤ 600) := ⟨ha, hf, hg, hk, HVL0⟩
 clear ha hf hg hk HVL0
 go_enter Try.func16, Try.ntmps16
 refine wp_seq_k (fun K0 hK => ?_)
 have HK0 := Stop.mk hK
 clear hK
 go_wp2_with (first
  | (refine wl_box (C := CV c s) rfl rfl rfl ?_; intro w1 hb1 he1 hx; clear hx))
 refine HK0.go _ _ ?_
 clear HK0
 have HS1 : Hid (Blk w1 w.heap.size (CV c s) 32 ∧ Ext w w1 ∧ True) := ⟨hb1, he1, trivial⟩
 clear hb1 he1
 refine wp_seq_k (fun K1 hK => ?_)
 have HK1 := Stop.mk hK
 clear hK
 go_wp2
 refine HK1.go _ _ ?_
 clear HK1
 refine wp_seq_k (fun K2 hK => ?_)
 have HK2 := Stop.mk hK
 clear hK
 go_wp2
 refine HK2.go _ _ ?_
 clear HK2
 refine wp_seq_k (fun K3 hK => ?_)
 have HK3 := Stop.mk hK
 clear hK
 go_wp2
 refine HK3.go _ _ ?_
 clear HK3
 refine wp_seq_k (fun Ksw hK => ?_)
 have HKsw := Stop.mk hK
 clear hK
 have c0 := cv0 HS1.out.1
 rw [HA.out.2.2.2.1] at c0
 have c18 := CM18 HS1.out.1
 go_wp2_with (first
  | (have q_ := ho2; clear q_; at_builtin; have hA2 : Ext w2 (w2.alloc (.cells #[.int .u8 0, .int .u8 4] 5)) := Ext.alloc _ _; have e2 := (ho2.base HS1.out.2.1.size).ext hA2; have eB := (HS1.out.1.ext he2).ext hA2; have eE := (HS1.out.2.1.trans he2).trans hA2; refine wl_app (l := be U 2) (m := [0, 4]) (base := w.heap.size) rfl rfl rfl rfl e2 (lit_04 w2) (by rw [be_len]; simp) eE.size ?_; intro a3 n3 c3 w3 hn3 ho3 hk3 hg3; clear hg3; have HE3 : Hid (Blk w3 w.heap.size (CV c s) 32 ∧ Ext w w3) := ⟨eB.but hk3 (fun e => e2.ne eB (by decide) _ e rfl), eE.of_but hk3 (fun q e => (e2.lt e).1)⟩; clear hk3 ho2 e2 eB eE hA2)
  | (go_at_call 36; refine (refNumI_any U (by omega) 2 _).mono ?_; rintro e w2 ⟨a2, n2, c2, rfl, hn2, ho2, he2⟩; rw [numBi2] at hn2 ho2; have HN2 : Hid (n2 = (be U 2).length) := hn2; clear hn2))
 have HT : Hid (Blk w3 w.heap.size (CV c s) 32 ∧ Ext w w3 ∧ BytesAt w3 (.slice a3 n3 c3) ((be U 2 ++ [0, 4])) ∧ ParsAt w3 (.slice none 0 0) ([]) ∧ (be U 2 ++ [0, 4]) ++ writeB ([]) = valB c ∧ ((be U 2 ++ [0, 4]) : List Nat).length ≤ 600 ∧ (writeB ([])).length ≤ 700 ∧ ([] : List Par).length ≤ 20 ∧ (∀ p ∈ ([] : List Par), goodP p = true) ∧ flagN c.pb c.pe c.pu = 0) := ⟨by exact HE3.out.1, by exact HE3.out.2, by exact ho3.bytes, by exact (OwnQ.nil 85 w w3).pars (HE3.out.2), by rw [HVB.out, writeB_nil, List.append_nil], by rw [List.length_append, be_len]; simp, by rw [writeB_nil]; simp, by simp, by exact fun p hp => absurd hp (List.not_mem_nil), by exact HFQ.out⟩
 clear HS1 c0 c18 HE3 ho3 hn3
 refine HKsw.go _ _ ?_
 clear HKsw
 exact tailB (FL := 0) (K := 9) (by decide) HA.out.2.2.2.1 (by decide) HA.out.2.2.2.2 HT
set_option maxHeartbeats 32000000 in
theorem docB_4 {w : World} {c : Ck} {s : Sv} (ha : CkAt w s c) (hf : Fit c) (hg : GoodC c) (hk : c.kind = 4) :
  Calls Try.prog 16 #[.agg (CV c s)] w (DocBytesIs w c) := by
 have hbl : flagN c.pb c.pe c.pu = 0 := by have h := ((yes_iff c).2 hg).blank (by rw [hk]; decide); rw [h.2.2.2.1, h.2.2.2.2.1, h.2.2.2.2.2.1]; rfl
 have HFQ : Hid (flagN c.pb c.pe c.pu = 0) := hbl
 clear hbl
 have hgi := good_info hg (by omega)
 have hvb : valB c = parB (1, c.info) := by unfold valB; rw [hk]; rfl
 have HVB : Hid (valB c = parB (1, c.info)) := hvb
 clear hvb
 have HVL0 := valB_len hg
 have HA : Hid (CkAt w s c ∧ Fit c ∧ GoodC c ∧ c.kind = 4 ∧ (valB c).length ≤ 600) := ⟨ha, hf, hg, hk, HVL0⟩
 clear ha hf hg hk HVL0
 go_enter Try.func16, Try.ntmps16
 refine wp_seq_k (fun K0 hK => ?_)
 have HK0 := Stop.mk hK
 clear hK
 go_wp2_with (first
  | (refine wl_box (C := CV c s) rfl rfl rfl ?_; intro w1 hb1 he1 hx; clear hx))
 refine HK0.go _ _ ?_
 clear HK0
 have HS1 : Hid (Blk w1 w.heap.size (CV c s) 32 ∧ Ext w w1 ∧ True) := ⟨hb1, he1, trivial⟩
 clear hb1 he1
 refine wp_seq_k (fun K1 hK => ?_)
 have HK1 := Stop.mk hK
 clear hK
 go_wp2
 refine HK1.go _ _ ?_
 clear HK1
 refine wp_seq_k (fun K2 hK => ?_)
 have HK2 := Stop.mk hK
 clear hK
 go_wp2
 refine HK2.go _ _ ?_
 clear HK2
 refine wp_seq_k (fun K3 hK => ?_)
 have HK3 := Stop.mk hK
 clear hK
 go_wp2
 refine HK3.go _ _ ?_
 clear HK3
 refine wp_seq_k (fun Ksw hK => ?_)
 have HKsw := Stop.mk hK
 clear hK
 have c0 := cv0 HS1.out.1
 rw [HA.out.2.2.2.1] at c0
 have HGI : Hid (1 ≤ c.info.length ∧ c.info.length ≤ 300) := hgi
 clear hgi
 have c15 := cv15 HS1.out.1
 have hiN : Hid (s.iN = c.info.length) := (bytes_len HA.out.1.i).1
 go_wp2_with (first
  | (at_builtin; refine wl_pushQ (k := 1) (val := c.info) (w0 := w) (L := []) (b := w1.heap.size) rfl rfl parT2 rfl rfl (OwnQ.nil _ _ _) (cellNew _ _ _ _ _ _ rfl) (cellNew _ _ _ _ _ _ rfl) (.inr HA.out.1.i) (by simp) (HS1.out.2.1.trans (Ext.alloc _ _)) ?_; intro a3 n3 c3 w3 hn3 ho3 hk3 he3; rw [List.nil_append] at ho3; have HE3 : Hid (Blk w3 w.heap.size (CV c s) 32 ∧ Ext w w3) := ⟨(HS1.out.1.ext (Ext.alloc _ _)).but hk3 (fun e => by cases e), he3⟩; clear hk3 he3))
 have HT : Hid (Blk w3 w.heap.size (CV c s) 32 ∧ Ext w w3 ∧ BytesAt w3 (.slice none 0 0) ([]) ∧ ParsAt w3 (.slice a3 n3 c3) ([(1, c.info)]) ∧ [] ++ writeB ([(1, c.info)]) = valB c ∧ ([] : List Nat).length ≤ 600 ∧ (writeB ([(1, c.info)])).length ≤ 700 ∧ ([(1, c.info)] : List Par).length ≤ 20 ∧ (∀ p ∈ ([(1, c.info)] : List Par), goodP p = true) ∧ flagN c.pb c.pe c.pu = 0) := ⟨by exact HE3.out.1, by exact HE3.out.2, by exact BytesAt.none _, by exact ho3.pars HE3.out.2, by rw [HVB.out, writeB_one]; rfl, by simp, by rw [writeB_one, parB_len]; have h1 := HGI.out.2; have h2 := pads_lt c.info.length; dsimp only; omega, by simp, by exact goodP_one (by decide) (by decide) (by have := HGI.out.2; omega), by exact HFQ.out⟩
 clear HS1 c0 c15 HE3 ho3 hn3
 refine HKsw.go _ _ ?_
 clear HKsw
 exact tailB (FL := 0) (K := 4) (by decide) HA.out.2.2.2.1 (by decide) HA.out.2.2.2.2 HT
set_option maxHeartbeats 32000000 in
theorem docB_5 {w : World} {c : Ck} {s : Sv} (ha : CkAt w s c) (hf : Fit c) (hg : GoodC c) (hk : c.kind = 5) :
  Calls Try.prog 16 #[.agg (CV c s)] w (DocBytesIs w c) := by
 have hbl : flagN c.pb c.pe c.pu = 0 := by have h := ((yes_iff c).2 hg).blank (by rw [hk]; decide); rw [h.2.2.2.1, h.2.2.2.2.1, h.2.2.2.2.2.1]; rfl
 have HFQ : Hid (flagN c.pb c.pe c.pu = 0) := hbl
 clear hbl
 have hgi := good_info hg (by omega)
 have hvb : valB c = parB (1, c.info) := by unfold valB; rw [hk]; rfl
 have HVB : Hid (valB c = parB (1, c.info)) := hvb
 clear hvb
 have HVL0 := valB_len hg
 have HA : Hid (CkAt w s c ∧ Fit c ∧ GoodC c ∧ c.kind = 5 ∧ (valB c).length ≤ 600) := ⟨ha, hf, hg, hk, HVL0⟩
 clear ha hf hg hk HVL0
 go_enter Try.func16, Try.ntmps16
 refine wp_seq_k (fun K0 hK => ?_)
 have HK0 := Stop.mk hK
 clear hK
 go_wp2_with (first
  | (refine wl_box (C := CV c s) rfl rfl rfl ?_; intro w1 hb1 he1 hx; clear hx))
 refine HK0.go _ _ ?_
 clear HK0
 have HS1 : Hid (Blk w1 w.heap.size (CV c s) 32 ∧ Ext w w1 ∧ True) := ⟨hb1, he1, trivial⟩
 clear hb1 he1
 refine wp_seq_k (fun K1 hK => ?_)
 have HK1 := Stop.mk hK
 clear hK
 go_wp2
 refine HK1.go _ _ ?_
 clear HK1
 refine wp_seq_k (fun K2 hK => ?_)
 have HK2 := Stop.mk hK
 clear hK
 go_wp2
 refine HK2.go _ _ ?_
 clear HK2
 refine wp_seq_k (fun K3 hK => ?_)
 have HK3 := Stop.mk hK
 clear hK
 go_wp2
 refine HK3.go _ _ ?_
 clear HK3
 refine wp_seq_k (fun Ksw hK => ?_)
 have HKsw := Stop.mk hK
 clear hK
 have c0 := cv0 HS1.out.1
 rw [HA.out.2.2.2.1] at c0
 have HGI : Hid (1 ≤ c.info.length ∧ c.info.length ≤ 300) := hgi
 clear hgi
 have c15 := cv15 HS1.out.1
 have hiN : Hid (s.iN = c.info.length) := (bytes_len HA.out.1.i).1
 go_wp2_with (first
  | (at_builtin; refine wl_pushQ (k := 1) (val := c.info) (w0 := w) (L := []) (b := w1.heap.size) rfl rfl parT2 rfl rfl (OwnQ.nil _ _ _) (cellNew _ _ _ _ _ _ rfl) (cellNew _ _ _ _ _ _ rfl) (.inr HA.out.1.i) (by simp) (HS1.out.2.1.trans (Ext.alloc _ _)) ?_; intro a3 n3 c3 w3 hn3 ho3 hk3 he3; rw [List.nil_append] at ho3; have HE3 : Hid (Blk w3 w.heap.size (CV c s) 32 ∧ Ext w w3) := ⟨(HS1.out.1.ext (Ext.alloc _ _)).but hk3 (fun e => by cases e), he3⟩; clear hk3 he3))
 have HT : Hid (Blk w3 w.heap.size (CV c s) 32 ∧ Ext w w3 ∧ BytesAt w3 (.slice none 0 0) ([]) ∧ ParsAt w3 (.slice a3 n3 c3) ([(1, c.info)]) ∧ [] ++ writeB ([(1, c.info)]) = valB c ∧ ([] : List Nat).length ≤ 600 ∧ (writeB ([(1, c.info)])).length ≤ 700 ∧ ([(1, c.info)] : List Par).length ≤ 20 ∧ (∀ p ∈ ([(1, c.info)] : List Par), goodP p = true) ∧ flagN c.pb c.pe c.pu = 0) := ⟨by exact HE3.out.1, by exact HE3.out.2, by exact BytesAt.none _, by exact ho3.pars HE3.out.2, by rw [HVB.out, writeB_one]; rfl, by simp, by rw [writeB_one, parB_len]; have h1 := HGI.out.2; have h2 := pads_lt c.info.length; dsimp only; omega, by simp, by exact goodP_one (by decide) (by decide) (by have := HGI.out.2; omega), by exact HFQ.out⟩
 clear HS1 c0 c15 HE3 ho3 hn3
 refine HKsw.go _ _ ?_
 clear HKsw
 exact tailB (FL := 0) (K := 5) (by decide) HA.out.2.2.2.1 (by decide) HA.out.2.2.2.2 HT
set_option maxRecDepth 100000
/-- One byte of the own stored. -/
theorem wl_poke {w : World} {ops : Array Oper} {rest : List Oper} {o : Oper} {a : Act} {Q : Exit → Act → World → Prop} (hgd : o.guard = none) {x y : Operand} {base q j n c z : Nat} {m : List Nat} (ho : o.op = .store 5 x y) (hx : a.eval x = .pointer (some ⟨q, j, none⟩)) (hy : a.eval y = .int .u8 (z : Int)) (hz : z < 256) (hm : OB w base (.slice (some ⟨q, 0, none⟩) n c) m) (hj : j < m.length)
  (h : ∀ w', OB w' base (.slice (some ⟨q, 0, none⟩) n c) (m.set j z) → KeepBut (· = q) w w' → wpList Try.prog ops Q rest (a.put o.dst undef) w') : wpList Try.prog ops Q (o :: rest) a w := by
 obtain ⟨h1, h2⟩ := hm.own.stored j (z : Int)
 rcases hm.own.1.2 with ⟨e1, _⟩ | ⟨g', cap, cur, e1, hb, hg, hnc, hcm, hcs, _⟩
 ·
  cases e1
 ·
  simp only [Value.slice.injEq, Option.some.injEq, Addr.mk.injEq, and_true] at e1
  obtain ⟨rfl, e2, rfl⟩ := e1
  rw [ci_len] at hnc
  refine wpList_of_skip hgd (exec_set one5 ho hx hy rfl rfl (C := cur) (T := 5) hg (by rw [hcs]; omega)) (h _ ⟨?_, ?_⟩ ⟨h2.os, h2.tape, h2.output, h2.size, fun k hk hn => h2.block k hk (by simpa using hn)⟩)
  ·
   have : ci (m.set j z) = (ci m).set j (z : Int) := by simp [ci, List.map_set]
   rw [this]; exact h1
  ·
   intro x hx
   rcases List.mem_or_eq_of_mem_set hx with h' | h'
   ·
    exact hm.all x h'
   ·
    omega
theorem OB.some_of {w : World} {base : Nat} {a : Option Addr} {n c : Nat} {l : List Nat} (h : OB w base (.slice a n c) l) (hn : 0 < n) : ∃ q, a = some ⟨q, 0, none⟩ ∧ n = l.length := by
 obtain ⟨a', c', e⟩ := h.form
 simp only [Value.slice.injEq] at e
 obtain ⟨x, y, e2, h1, h2⟩ := h.own.slice
 simp only [Value.slice.injEq] at e2
 obtain ⟨rfl, e3, rfl⟩ := e2
 cases ha : a with
 | none =>
  have := (h1 ha).1
  rw [e3, this] at hn
  simp at hn
 | some z =>
  obtain ⟨q, rfl, _⟩ := h2 z ha
  exact ⟨q, rfl, e.2.1⟩
theorem OB.cellAt {w : World} {base q n c : Nat} {l : List Nat} (h : OB w base (.slice (some ⟨q, 0, none⟩) n c) l) (j : Nat) (hj : j < l.length) : w.cell? ⟨q, j, none⟩ = some (.int .u8 (l.getD j 0 : Nat)) := by
 obtain ⟨_, _, e, _, hc⟩ := h.bytes.form
 obtain ⟨b, off, e2, hc'⟩ := hc j hj
 simp only [Value.slice.injEq] at e
 rw [← e.1] at e2
 cases e2
 simpa using hc'
set_option maxRecDepth 100000
set_option maxHeartbeats 32000000 in
theorem docB_128t {w : World} {c : Ck} {s : Sv} (ha : CkAt w s c) (hf : Fit c) (hg : GoodC c) (hk : c.kind = 128) (hok : c.ok = true) :
  Calls Try.prog 16 #[.agg (CV c s)] w (DocBytesIs w c) := by
 have hbl : flagN c.pb c.pe c.pu = 0 := by have h := ((yes_iff c).2 hg).blank (by rw [hk]; decide); rw [h.2.2.2.1, h.2.2.2.2.1, h.2.2.2.2.2.1]; rfl
 have HFQ : Hid (flagN c.pb c.pe c.pu = 0) := hbl
 clear hbl
 have hvb : valB c = be c.serial 4 ++ [0, 0, 0, 1] := by unfold valB; rw [hk, hok]; rfl
 have HVB : Hid (valB c = be c.serial 4 ++ [0, 0, 0, 1]) := hvb
 have HOK : Hid (c.ok = true) := hok
 clear hvb hok
 have HVL0 := valB_len hg
 have b_serial := hf.serial
 have w_serial : IntKind.i64.wrap (c.serial : Int) = (c.serial : Int) := by rw [IntKind.wrap_i64]; omega
 have v_serial : wrap64 (c.serial : Int) = (c.serial : Int) := by unfold wrap64; omega
 have CM19 : ∀ {wx : World}, Blk wx w.heap.size (CV c s) 32 → wx.cell? ⟨w.heap.size, 19, none⟩ = some (.int .u32 (c.serial : Int)) := fun h => cv19 h
 have HA : Hid (CkAt w s c ∧ Fit c ∧ GoodC c ∧ c.kind = 128 ∧ (valB c).length ≤ 600) := ⟨ha, hf, hg, hk, HVL0⟩
 clear ha hf hg hk HVL0
 go_enter Try.func16, Try.ntmps16
 refine wp_seq_k (fun K0 hK => ?_)
 have HK0 := Stop.mk hK
 clear hK
 go_wp2_with (first
  | (refine wl_box (C := CV c s) rfl rfl rfl ?_; intro w1 hb1 he1 hx; clear hx))
 refine HK0.go _ _ ?_
 clear HK0
 have HS1 : Hid (Blk w1 w.heap.size (CV c s) 32 ∧ Ext w w1 ∧ True) := ⟨hb1, he1, trivial⟩
 clear hb1 he1
 refine wp_seq_k (fun K1 hK => ?_)
 have HK1 := Stop.mk hK
 clear hK
 go_wp2
 refine HK1.go _ _ ?_
 clear HK1
 refine wp_seq_k (fun K2 hK => ?_)
 have HK2 := Stop.mk hK
 clear hK
 go_wp2
 refine HK2.go _ _ ?_
 clear HK2
 refine wp_seq_k (fun K3 hK => ?_)
 have HK3 := Stop.mk hK
 clear hK
 go_wp2
 refine HK3.go _ _ ?_
 clear HK3
 refine wp_seq_k (fun Ksw hK => ?_)
 have HKsw := Stop.mk hK
 clear hK
 have c0 := cv0 HS1.out.1
 rw [HA.out.2.2.2.1] at c0
 have c19 := CM19 HS1.out.1
 go_wp2_with (first
  | (have q_ := ho2; clear q_; at_builtin; have hA2 : Ext w2 (w2.alloc (.cells #[.int .u8 0, .int .u8 0, .int .u8 0, .int .u8 0] 5)) := Ext.alloc _ _; have e2 := (ho2.base HS1.out.2.1.size).ext hA2; have eB := (HS1.out.1.ext he2).ext hA2; have eE := (HS1.out.2.1.trans he2).trans hA2; refine wl_app (l := be c.serial 4) (m := [0, 0, 0, 0]) (base := w.heap.size) rfl rfl rfl rfl e2 (lit_0000 w2) (by rw [be_len]; simp) eE.size ?_; intro a3 n3 c3 w3 hn3 ho3 hk3 hg3; clear hg3; have HE3 : Hid (Blk w3 w.heap.size (CV c s) 32 ∧ Ext w w3) := ⟨eB.but hk3 (fun e => e2.ne eB (by decide) _ e rfl), eE.of_but hk3 (fun q e => (e2.lt e).1)⟩; have h8 : n3 = 8 := by rw [hn3.out, List.length_append, be_len]; rfl
     subst h8
     obtain ⟨q3, rfl, hq3⟩ := ho3.some_of (by decide)
     clear hq3
     clear hk3 ho2 e2 eB eE hA2 hn3
     have HO3 : Hid (OB w3 w.heap.size (.slice (some ⟨q3, 0, none⟩) 8 c3) (be c.serial 4 ++ [0, 0, 0, 0])) := ho3
     clear ho3
     have c21 := cv21 HE3.out.1
     rw [HOK.out] at c21)
  | (go_at_call 36; refine (refNumI_any c.serial (by omega) 4 _).mono ?_; rintro e w2 ⟨a2, n2, c2, rfl, hn2, ho2, he2⟩; rw [numBi4] at hn2 ho2; have HN2 : Hid (n2 = (be c.serial 4).length) := hn2; clear hn2)
  | (have q_ := HO3; clear q_; refine wl_poke (j := 7) (z := 1) rfl rfl rfl rfl (by decide) HO3.out (by rw [List.length_append, be_len]; decide) ?_; intro w5 ho5 hk5; have HE5 : Hid (Blk w5 w.heap.size (CV c s) 32 ∧ Ext w w5) := ⟨HE3.out.1.but hk5 (fun e => HO3.out.ne HE3.out.1 (by decide) _ rfl e.symm), HE3.out.2.of_but hk5 (fun q e => by subst e; exact (HO3.out.lt rfl).1)⟩; clear hk5))
 have hset : (be c.serial 4 ++ [0, 0, 0, 0]).set 7 1 = be c.serial 4 ++ [0, 0, 0, 1] := rfl
 rw [hset] at ho5
 clear hset
 have HT : Hid (Blk w5 w.heap.size (CV c s) 32 ∧ Ext w w5 ∧ BytesAt w5 (.slice (some ⟨q3, 0, none⟩) 8 c3) ((be c.serial 4 ++ [0, 0, 0, 1])) ∧ ParsAt w5 (.slice none 0 0) ([]) ∧ (be c.serial 4 ++ [0, 0, 0, 1]) ++ writeB ([]) = valB c ∧ ((be c.serial 4 ++ [0, 0, 0, 1]) : List Nat).length ≤ 600 ∧ (writeB ([])).length ≤ 700 ∧ ([] : List Par).length ≤ 20 ∧ (∀ p ∈ ([] : List Par), goodP p = true) ∧ flagN c.pb c.pe c.pu = 0) := ⟨by exact HE5.out.1, by exact HE5.out.2, by exact ho5.bytes, by exact (OwnQ.nil 85 w w5).pars (HE5.out.2), by rw [HVB.out, writeB_nil, List.append_nil], by rw [List.length_append, be_len]; simp, by rw [writeB_nil]; simp, by simp, by exact fun p hp => absurd hp (List.not_mem_nil), by exact HFQ.out⟩
 clear HS1 c0 c19 HE3 HO3 c21 HOK ho5 HE5
 refine HKsw.go _ _ ?_
 clear HKsw
 clear w_serial v_serial b_serial
 exact tailB (FL := 0) (K := 128) (by decide) HA.out.2.2.2.1 (by decide) HA.out.2.2.2.2 HT
set_option maxHeartbeats 32000000 in
theorem docB_128f {w : World} {c : Ck} {s : Sv} (ha : CkAt w s c) (hf : Fit c) (hg : GoodC c) (hk : c.kind = 128) (hok : c.ok = false) :
  Calls Try.prog 16 #[.agg (CV c s)] w (DocBytesIs w c) := by
 have hbl : flagN c.pb c.pe c.pu = 0 := by have h := ((yes_iff c).2 hg).blank (by rw [hk]; decide); rw [h.2.2.2.1, h.2.2.2.2.1, h.2.2.2.2.2.1]; rfl
 have HFQ : Hid (flagN c.pb c.pe c.pu = 0) := hbl
 clear hbl
 have hvb : valB c = be c.serial 4 ++ [0, 0, 0, 0] := by unfold valB; rw [hk, hok]; rfl
 have HVB : Hid (valB c = be c.serial 4 ++ [0, 0, 0, 0]) := hvb
 have HOK : Hid (c.ok = false) := hok
 clear hvb hok
 have HVL0 := valB_len hg
 have b_serial := hf.serial
 have w_serial : IntKind.i64.wrap (c.serial : Int) = (c.serial : Int) := by rw [IntKind.wrap_i64]; omega
 have v_serial : wrap64 (c.serial : Int) = (c.serial : Int) := by unfold wrap64; omega
 have CM19 : ∀ {wx : World}, Blk wx w.heap.size (CV c s) 32 → wx.cell? ⟨w.heap.size, 19, none⟩ = some (.int .u32 (c.serial : Int)) := fun h => cv19 h
 have HA : Hid (CkAt w s c ∧ Fit c ∧ GoodC c ∧ c.kind = 128 ∧ (valB c).length ≤ 600) := ⟨ha, hf, hg, hk, HVL0⟩
 clear ha hf hg hk HVL0
 go_enter Try.func16, Try.ntmps16
 refine wp_seq_k (fun K0 hK => ?_)
 have HK0 := Stop.mk hK
 clear hK
 go_wp2_with (first
  | (refine wl_box (C := CV c s) rfl rfl rfl ?_; intro w1 hb1 he1 hx; clear hx))
 refine HK0.go _ _ ?_
 clear HK0
 have HS1 : Hid (Blk w1 w.heap.size (CV c s) 32 ∧ Ext w w1 ∧ True) := ⟨hb1, he1, trivial⟩
 clear hb1 he1
 refine wp_seq_k (fun K1 hK => ?_)
 have HK1 := Stop.mk hK
 clear hK
 go_wp2
 refine HK1.go _ _ ?_
 clear HK1
 refine wp_seq_k (fun K2 hK => ?_)
 have HK2 := Stop.mk hK
 clear hK
 go_wp2
 refine HK2.go _ _ ?_
 clear HK2
 refine wp_seq_k (fun K3 hK => ?_)
 have HK3 := Stop.mk hK
 clear hK
 go_wp2
 refine HK3.go _ _ ?_
 clear HK3
 refine wp_seq_k (fun Ksw hK => ?_)
 have HKsw := Stop.mk hK
 clear hK
 have c0 := cv0 HS1.out.1
 rw [HA.out.2.2.2.1] at c0
 have c19 := CM19 HS1.out.1
 go_wp2_with (first
  | (have q_ := ho2; clear q_; at_builtin; have hA2 : Ext w2 (w2.alloc (.cells #[.int .u8 0, .int .u8 0, .int .u8 0, .int .u8 0] 5)) := Ext.alloc _ _; have e2 := (ho2.base HS1.out.2.1.size).ext hA2; have eB := (HS1.out.1.ext he2).ext hA2; have eE := (HS1.out.2.1.trans he2).trans hA2; refine wl_app (l := be c.serial 4) (m := [0, 0, 0, 0]) (base := w.heap.size) rfl rfl rfl rfl e2 (lit_0000 w2) (by rw [be_len]; simp) eE.size ?_; intro a3 n3 c3 w3 hn3 ho3 hk3 hg3; clear hg3; have HE3 : Hid (Blk w3 w.heap.size (CV c s) 32 ∧ Ext w w3) := ⟨eB.but hk3 (fun e => e2.ne eB (by decide) _ e rfl), eE.of_but hk3 (fun q e => (e2.lt e).1)⟩; have h8 : n3 = 8 := by rw [hn3.out, List.length_append, be_len]; rfl
     subst h8
     obtain ⟨q3, rfl, hq3⟩ := ho3.some_of (by decide)
     clear hq3
     clear hk3 ho2 e2 eB eE hA2 hn3
     have HO3 : Hid (OB w3 w.heap.size (.slice (some ⟨q3, 0, none⟩) 8 c3) (be c.serial 4 ++ [0, 0, 0, 0])) := ho3
     clear ho3
     have c21 := cv21 HE3.out.1
     rw [HOK.out] at c21)
  | (go_at_call 36; refine (refNumI_any c.serial (by omega) 4 _).mono ?_; rintro e w2 ⟨a2, n2, c2, rfl, hn2, ho2, he2⟩; rw [numBi4] at hn2 ho2; have HN2 : Hid (n2 = (be c.serial 4).length) := hn2; clear hn2))
 have HT : Hid (Blk w3 w.heap.size (CV c s) 32 ∧ Ext w w3 ∧ BytesAt w3 (.slice (some ⟨q3, 0, none⟩) 8 c3) ((be c.serial 4 ++ [0, 0, 0, 0])) ∧ ParsAt w3 (.slice none 0 0) ([]) ∧ (be c.serial 4 ++ [0, 0, 0, 0]) ++ writeB ([]) = valB c ∧ ((be c.serial 4 ++ [0, 0, 0, 0]) : List Nat).length ≤ 600 ∧ (writeB ([])).length ≤ 700 ∧ ([] : List Par).length ≤ 20 ∧ (∀ p ∈ ([] : List Par), goodP p = true) ∧ flagN c.pb c.pe c.pu = 0) := ⟨by exact HE3.out.1, by exact HE3.out.2, by exact HO3.out.bytes, by exact (OwnQ.nil 85 w w3).pars (HE3.out.2), by rw [HVB.out, writeB_nil, List.append_nil], by rw [List.length_append, be_len]; simp, by rw [writeB_nil]; simp, by simp, by exact fun p hp => absurd hp (List.not_mem_nil), by exact HFQ.out⟩
 clear HS1 c0 c19 HE3 HO3 c21 HOK
 refine HKsw.go _ _ ?_
 clear HKsw
 clear w_serial v_serial b_serial
 exact tailB (FL := 0) (K := 128) (by decide) HA.out.2.2.2.1 (by decide) HA.out.2.2.2.2 HT
set_option maxRecDepth 100000
set_option maxHeartbeats 32000000 in
theorem docB_0 {w : World} {c : Ck} {s : Sv} (ha : CkAt w s c) (hf : Fit c) (hg : GoodC c) (hk : c.kind = 0) :
  Calls Try.prog 16 #[.agg (CV c s)] w (DocBytesIs w c) := by
 have HTX : Hid (1 ≤ c.text.length ∧ c.text.length ≤ 64) := good_0 hg hk
 have hvb : valB c = ((be c.ptsn 4 ++ be c.pstr 2) ++ be c.pseq 2) ++ c.text := by unfold valB; rw [hk]; rfl
 have HVB : Hid (valB c = ((be c.ptsn 4 ++ be c.pstr 2) ++ be c.pseq 2) ++ c.text) := hvb
 clear hvb
 have HVL0 := valB_len hg
 have b_ptsn := hf.ptsn
 have w_ptsn : IntKind.i64.wrap (c.ptsn : Int) = (c.ptsn : Int) := by rw [IntKind.wrap_i64]; omega
 have v_ptsn : wrap64 (c.ptsn : Int) = (c.ptsn : Int) := by unfold wrap64; omega
 have CM1 : ∀ {wx : World}, Blk wx w.heap.size (CV c s) 32 → wx.cell? ⟨w.heap.size, 1, none⟩ = some (.int .u32 (c.ptsn : Int)) := fun h => cv1 h
 have b_pstr := hf.pstr
 have w_pstr : IntKind.i64.wrap (c.pstr : Int) = (c.pstr : Int) := by rw [IntKind.wrap_i64]; omega
 have v_pstr : wrap64 (c.pstr : Int) = (c.pstr : Int) := by unfold wrap64; omega
 have CM2 : ∀ {wx : World}, Blk wx w.heap.size (CV c s) 32 → wx.cell? ⟨w.heap.size, 2, none⟩ = some (.int .u16 (c.pstr : Int)) := fun h => cv2 h
 have b_pseq := hf.pseq
 have w_pseq : IntKind.i64.wrap (c.pseq : Int) = (c.pseq : Int) := by rw [IntKind.wrap_i64]; omega
 have v_pseq : wrap64 (c.pseq : Int) = (c.pseq : Int) := by unfold wrap64; omega
 have CM3 : ∀ {wx : World}, Blk wx w.heap.size (CV c s) 32 → wx.cell? ⟨w.heap.size, 3, none⟩ = some (.int .u16 (c.pseq : Int)) := fun h => cv3 h
 have HA : Hid (CkAt w s c ∧ Fit c ∧ GoodC c ∧ c.kind = 0 ∧ (valB c).length ≤ 600) := ⟨ha, hf, hg, hk, HVL0⟩
 clear ha hf hg hk HVL0
 go_enter Try.func16, Try.ntmps16
 refine wp_seq_k (fun K0 hK => ?_)
 have HK0 := Stop.mk hK
 clear hK
 go_wp2_with (first
  | (refine wl_box (C := CV c s) rfl rfl rfl ?_; intro w1 hb1 he1 hx; clear hx))
 refine HK0.go _ _ ?_
 clear HK0
 have HS1 : Hid (Blk w1 w.heap.size (CV c s) 32 ∧ Ext w w1 ∧ True) := ⟨hb1, he1, trivial⟩
 clear hb1 he1
 refine wp_seq_k (fun K1 hK => ?_)
 have HK1 := Stop.mk hK
 clear hK
 go_wp2
 refine HK1.go _ _ ?_
 clear HK1
 refine wp_seq_k (fun K2 hK => ?_)
 have HK2 := Stop.mk hK
 clear hK
 go_wp2
 refine HK2.go _ _ ?_
 clear HK2
 refine wp_seq_k (fun K3 hK => ?_)
 have HK3 := Stop.mk hK
 clear hK
 go_wp2
 refine HK3.go _ _ ?_
 clear HK3
 refine wp_seq_k (fun Ksw hK => ?_)
 have HKsw := Stop.mk hK
 clear hK
 have c0 := cv0 HS1.out.1
 rw [HA.out.2.2.2.1] at c0
 have CM7 : ∀ {wx : World}, Blk wx w.heap.size (CV c s) 32 → wx.cell? ⟨w.heap.size, 7, none⟩ = some (.slice s.tA s.tN s.tC) := fun h => cv7 h
 have HTb : Hid (BytesAt w (.slice s.tA s.tN s.tC) c.text) := HA.out.1.t
 have c4 := cv4 HS1.out.1
 have c5 := cv5 HS1.out.1
 have c6 := cv6 HS1.out.1
 go_upto_if 17 with fail
 go_cut [3] from 15 to 19 (fun t3 wx => ∃ N : Nat, t3 = .int .i64 (N : Int) ∧ Hid (N = (if c.pe = true then 1 else 0)) ∧ w1 = wx)
 case first =>
  cases hb_ : c.pe with
  | true =>
   go_wp2_with fail
   go_meet
   case rel => exact ⟨1, rfl, (show (1 : Nat) = _ by rw [hb_]; rfl), rfl⟩
  | false =>
   go_wp2_with fail
   go_meet
   case rel => exact ⟨0, rfl, (show _ = _ by rw [hb_]; rfl), rfl⟩
 case rest =>
  obtain ⟨N1, rfl, HN1, rfl⟩ := hcut
  have HB1 : Hid (N1 ≤ 1) := show N1 ≤ 1 by rw [HN1.out]; cases c.pe <;> decide
  go_upto_if 22 with fail
  go_cut [3] from 20 to 24 (fun t3 wx => ∃ N : Nat, t3 = .int .i64 (N : Int) ∧ Hid (N = N1 + (if c.pb = true then 2 else 0)) ∧ w1 = wx)
  case first =>
   cases hb_ : c.pb with
   | true =>
    obtain ⟨M, hM⟩ : ∃ M, M = N1 + 2 := ⟨_, rfl⟩
    have z_ : (N1 : Int) + 2 = (M : Int) := by omega
    have zw_ : IntKind.i64.wrap (M : Int) = (M : Int) := by have := HB1.out; rw [IntKind.wrap_i64]; omega
    have zv_ : wrap64 (M : Int) = (M : Int) := by have := HB1.out; unfold wrap64; omega
    have HM : Hid (M = N1 + 2) := hM
    clear hM
    go_wp2_with fail
    go_meet
    case rel => exact ⟨M, rfl, (show M = _ by rw [hb_]; exact HM.out), rfl⟩
   | false =>
    go_wp2_with fail
    go_meet
    case rel => exact ⟨N1, rfl, (show _ = _ by rw [hb_]; rfl), rfl⟩
  case rest =>
   obtain ⟨N2, rfl, HN2, rfl⟩ := hcut
   have HB2 : Hid (N2 ≤ 3) := show N2 ≤ 3 by have h1_ := HB1.out; rw [HN2.out]; cases c.pb <;> simp only [Bool.false_eq_true, if_true, if_false, reduceIte] <;> omega
   go_upto_if 27 with fail
   go_cut [3] from 25 to 29 (fun t3 wx => ∃ N : Nat, t3 = .int .i64 (N : Int) ∧ Hid (N = N2 + (if c.pu = true then 4 else 0)) ∧ w1 = wx)
   case first =>
    cases hb_ : c.pu with
    | true =>
     obtain ⟨M, hM⟩ : ∃ M, M = N2 + 4 := ⟨_, rfl⟩
     have z_ : (N2 : Int) + 4 = (M : Int) := by omega
     have zw_ : IntKind.i64.wrap (M : Int) = (M : Int) := by have := HB2.out; rw [IntKind.wrap_i64]; omega
     have zv_ : wrap64 (M : Int) = (M : Int) := by have := HB2.out; unfold wrap64; omega
     have HM : Hid (M = N2 + 4) := hM
     clear hM
     go_wp2_with fail
     go_meet
     case rel => exact ⟨M, rfl, (show M = _ by rw [hb_]; exact HM.out), rfl⟩
    | false =>
     go_wp2_with fail
     go_meet
     case rel => exact ⟨N2, rfl, (show _ = _ by rw [hb_]; rfl), rfl⟩
   case rest =>
    obtain ⟨N3, rfl, HN3, rfl⟩ := hcut
    have HB3 : Hid (N3 ≤ 7) := show N3 ≤ 7 by have h1_ := HB2.out; rw [HN3.out]; cases c.pu <;> simp only [Bool.false_eq_true, if_true, if_false, reduceIte] <;> omega
    have HFQ : Hid (flagN c.pb c.pe c.pu = N3) := show _ = _ by rw [HN3.out, HN2.out, HN1.out]; rfl
    have HFL : Hid (N3 < 256) := show N3 < 256 by have := HB3.out; omega
    clear HN1 HN2 HN3 HB1 HB2 c4 c5 c6
    have w8 : IntKind.u8.wrap (N3 : Int) = (N3 : Int) := by have := HFL.out; rw [IntKind.wrap_u8]; omega
    have v8 : (N3 : Int) % 256 = (N3 : Int) := by have := HFL.out; omega
    obtain ⟨F1, hF⟩ : ∃ F, F = (be c.ptsn 4) ++ (be c.pstr 2) := ⟨_, rfl⟩
    have HPF : Hid ((be c.ptsn 4) <+: F1 ∧ F1 = (be c.ptsn 4) ++ (be c.pstr 2) ∧ (be c.ptsn 4).length + (be c.pstr 2).length ≤ 1000000 ∧ (be c.pstr 2).length ≤ (be c.ptsn 4).length) := ⟨by rw [hF]; exact List.prefix_append _ _, hF, by rw [be_len, be_len]; decide, by rw [be_len, be_len]; decide⟩
    have HLF1 : Hid (F1 = (be c.ptsn 4) ++ (be c.pstr 2) ∧ F1.length = 6) := ⟨hF, by rw [hF, List.length_append, be_len, be_len]⟩
    clear hF
    go_upto_region 12 with fail
    have HBx : ∀ {wx : World}, (Gr w.heap.size (be c.ptsn 4) F1) w1.drew wx → Blk wx w.heap.size (CV c s) 32 := fun h => h.blk (HS1.out.1.ext (Ext.drew _)) (by decide)
    have HEx : ∀ {wx : World}, (Gr w.heap.size (be c.ptsn 4) F1) w1.drew wx → Ext w wx := fun h => h.extO (HS1.out.2.1.trans (Ext.drew _)) (Nat.le_refl _)
    have HZx : ∀ {wx : World}, (Gr w.heap.size (be c.ptsn 4) F1) w1.drew wx → w.heap.size ≤ wx.heap.size := fun h => (HEx h).size
    refine wp_region_facts (fun t => bif Nat.ble 30 t && Nat.ble t 40 then some (t - 30) else bif Nat.beq t 4 then some 11 else none) 265 (Gr w.heap.size (be c.ptsn 4) F1)
     [Is (.pointer (some ⟨w.heap.size, 1, none⟩)),
      Is (.pointer (some ⟨w.heap.size, 1, none⟩)),
      Is (.int .u32 (c.ptsn : Int)),
      Is (.int .i64 (c.ptsn : Int)),
      (NumV w.heap.size (be c.ptsn 4)),
      Is (.pointer (some ⟨w.heap.size, 1, none⟩)),
      Is (.pointer (some ⟨w.heap.size, 2, none⟩)),
      Is (.int .u16 (c.pstr : Int)),
      Is (.int .i64 (c.pstr : Int)),
      (NumV w.heap.size (be c.pstr 2)),
      (NumV w.heap.size F1),
      (NumV w.heap.size F1)]
     rfl (by kernel_rfl) (by kernel_rfl) rfl Gr.refl (fun _ _ _ => Gr.trans) ?_ ?_ ?_
    ·
     exact Ks (Ks (Ks (Ks (KeepAll.cons (fun _ _ _ hR h => h.gr hR HPF.out.1) (Ks (Ks (Ks (Ks (KeepAll.cons (fun _ _ _ hR h => h.grK hR HPF.out.1 HPF.out.2.2.2) (KeepAll.cons (fun _ _ _ hR h => h.gr hR (List.prefix_refl _)) (KeepAll.cons (fun _ _ _ hR h => h.gr hR (List.prefix_refl _)) (KeepAll.nil))))))))))))
    ·
     refine Gc (lr1 Gr.refl rfl rfl rfl (fun _ _ h => h) (fun r wx hR h1 => by simp [execOp, h1, go_sem])) ?_
     refine Gc (lr1 Gr.refl rfl rfl rfl (fun _ _ h => h) (fun r wx hR h1 => by simp [execOp, h1, go_sem])) ?_
     refine Gc (lr1 Gr.refl rfl rfl rfl (fun _ _ h => h) (fun r wx hR h1 => exg one22 rfl h1 (CM1 (HBx hR)))) ?_
     refine Gc (lr1 Gr.refl rfl rfl rfl (fun _ _ h => h) (fun r wx hR h1 => by simp [execOp, h1, w_ptsn, v_ptsn, go_sem])) ?_
     refine Gc ?_ ?_
     ·
      rintro r wx hR ⟨h1, h2, h3, _⟩
      replace h1 : r (.func 36) = .func (.func 36) #[] #[] := h1
      replace h2 : r (.tmp 33) = (.int .i64 (c.ptsn : Int)) := h2
      replace h3 : r (.const (.int .i64 4)) = .int .i64 4 := h3
      refine give_func #[.int .i64 (c.ptsn : Int), .int .i64 4] rfl h1 Try.call36 (by simp [h2, h3]) ?_
      refine (refNumI_any c.ptsn (by omega) 4 _).mono ?_
      rintro e w1 ⟨qa, qm, qc, rfl, hqm, hqo, hqe⟩
      rw [numBi4] at hqm hqo
      subst hqm
      exact ⟨_, rfl, Gr.of_ext hqe, _, _, rfl, hqo.base (HZx hR)⟩
     refine Gc (lr1 Gr.refl rfl rfl rfl (fun _ _ h => h) (fun r wx hR h1 => by simp [execOp, h1, go_sem])) ?_
     refine Gc (lr1 Gr.refl rfl rfl rfl (fun _ _ h => h) (fun r wx hR h1 => by simp [execOp, h1, go_sem])) ?_
     refine Gc (lr1 Gr.refl rfl rfl rfl (fun _ _ h => h) (fun r wx hR h1 => exg one23 rfl h1 (CM2 (HBx hR)))) ?_
     refine Gc (lr1 Gr.refl rfl rfl rfl (fun _ _ h => h) (fun r wx hR h1 => by simp [execOp, h1, w_pstr, v_pstr, go_sem])) ?_
     refine Gc ?_ ?_
     ·
      rintro r wx hR ⟨h1, h2, h3, _⟩
      replace h1 : r (.func 36) = .func (.func 36) #[] #[] := h1
      replace h2 : r (.tmp 38) = (.int .i64 (c.pstr : Int)) := h2
      replace h3 : r (.const (.int .i64 2)) = .int .i64 2 := h3
      refine give_func #[.int .i64 (c.pstr : Int), .int .i64 2] rfl h1 Try.call36 (by simp [h2, h3]) ?_
      refine (refNumI_any c.pstr (by omega) 2 _).mono ?_
      rintro e w1 ⟨qa, qm, qc, rfl, hqm, hqo, hqe⟩
      rw [numBi2] at hqm hqo
      subst hqm
      exact ⟨_, rfl, Gr.of_ext hqe, _, _, rfl, hqo.base (HZx hR)⟩
     refine Gc ?_ ?_
     ·
      rintro r wx hR ⟨h1, h2, _⟩
      replace h1 : ((NumV w.heap.size (be c.ptsn 4)) : Fact) wx (r (.tmp 34)) := h1
      replace h2 : ((NumV w.heap.size (be c.pstr 2)) : Fact) wx (r (.tmp 39)) := h2
      obtain ⟨xa, xc, xe, xo⟩ := h1
      obtain ⟨ya, yc, ye, yo⟩ := h2
      obtain ⟨ad, cap, w2, hr, ho2, ht⟩ := run_appG wx w.heap.size 24 _ _ (be c.ptsn 4) (be c.pstr 2) (be c.ptsn 4) F1 xo yo.bytes HPF.out.2.2.1 (HZx hR) (List.prefix_refl _) (by rw [← HPF.out.2.1]; exact List.prefix_refl _)
      exact gvo (exec_runG rfl rfl rfl hr) ⟨ht, by rw [HPF.out.2.1]; exact ⟨_, _, rfl, ho2⟩⟩
     refine Gc ?_ ?_
     ·
      rintro r wx hR ⟨h1, _⟩
      replace h1 : ((NumV w.heap.size F1) : Fact) wx (r (.tmp 40)) := h1
      exact give_move (.inr rfl) ⟨Gr.refl _, h1⟩
     exact GoodAll.nil
    ·
     intro vs w2 aY hR hold ha
     have hv0 : vs 0 = (.pointer (some ⟨w.heap.size, 1, none⟩)) := hold.at 0
     have hv1 : vs 1 = (.pointer (some ⟨w.heap.size, 1, none⟩)) := hold.at 1
     have hv2 : vs 2 = (.int .u32 (c.ptsn : Int)) := hold.at 2
     have hv3 : vs 3 = (.int .i64 (c.ptsn : Int)) := hold.at 3
     have hv5 : vs 5 = (.pointer (some ⟨w.heap.size, 1, none⟩)) := hold.at 5
     have hv6 : vs 6 = (.pointer (some ⟨w.heap.size, 2, none⟩)) := hold.at 6
     have hv7 : vs 7 = (.int .u16 (c.pstr : Int)) := hold.at 7
     have hv8 : vs 8 = (.int .i64 (c.pstr : Int)) := hold.at 8
     obtain ⟨a2, c2, e9, ho9⟩ := hold.at 11
     simp only [List.dropLast_cons_cons, List.dropLast_singleton, putAll, Act.put, hv0, hv1, hv2, hv3, hv5, hv6, hv7, hv8, e9, List.setIfInBounds_toArray, List.set_cons_succ, List.set_cons_zero] at ha
     subst ha
     have HS2 : Hid (Blk w2 w.heap.size (CV c s) 32 ∧ Ext w w2 ∧ OB w2 w.heap.size (.slice a2 F1.length c2) F1) := ⟨HBx hR, HEx hR, by rw [← e9]; exact ho9⟩
     clear hold hR HBx HEx HZx hv0 hv1 hv2 hv3 hv5 hv6 hv7 hv8
     clear e9 ho9 HPF
     rename_i hK_
     refine hK_ _ _ ?_
     clear hK_
     obtain ⟨F2, hF⟩ : ∃ F, F = (F1 ++ (be c.pseq 2)) ++ c.text := ⟨_, rfl⟩
     have HPF : Hid (F1 <+: F2 ∧ F1 ++ (be c.pseq 2) <+: F2 ∧ F2 = (F1 ++ (be c.pseq 2)) ++ c.text ∧ F1.length + (be c.pseq 2).length ≤ 1000000 ∧ (F1 ++ (be c.pseq 2)).length + c.text.length ≤ 1000000 ∧ (be c.pseq 2).length ≤ F1.length ∧ True) := ⟨by rw [hF, List.append_assoc]; exact List.prefix_append _ _, by rw [hF]; exact List.prefix_append _ _, hF, by (try rw [List.length_append]); (try rw [be_len]); have h1 := HLF1.out.2; have h2 := HTX.out; omega, by (try rw [List.length_append]); (try rw [be_len]); have h1 := HLF1.out.2; have h2 := HTX.out; omega, by (try rw [List.length_append]); (try rw [be_len]); have h1 := HLF1.out.2; have h2 := HTX.out; omega, trivial⟩
     have HLF2 : Hid (F2 = (F1 ++ (be c.pseq 2)) ++ c.text ∧ True) := ⟨hF, trivial⟩
     clear hF
     have HBx : ∀ {wx : World}, (Gr w.heap.size F1 F2) w2.drew wx → Blk wx w.heap.size (CV c s) 32 := fun h => h.blk (HS2.out.1.ext (Ext.drew _)) (by decide)
     have HEx : ∀ {wx : World}, (Gr w.heap.size F1 F2) w2.drew wx → Ext w wx := fun h => h.extO (HS2.out.2.1.trans (Ext.drew _)) (Nat.le_refl _)
     have HZx : ∀ {wx : World}, (Gr w.heap.size F1 F2) w2.drew wx → w.heap.size ≤ wx.heap.size := fun h => (HEx h).size
     have HPx : ∀ {wx : World}, (Gr w.heap.size F1 F2) w2.drew wx → OB wx w.heap.size (.slice a2 F1.length c2) F1 := fun h => h.ob (HS2.out.2.2.ext (Ext.drew _)) HPF.out.1
     refine wp_region_factsL (fun t => bif Nat.ble 41 t && Nat.ble t 51 then some (t - 41) else none) 265 (Gr w.heap.size F1 F2)
      [Is (.slice a2 F1.length c2),
       Is (.pointer (some ⟨w.heap.size, 1, none⟩)),
       Is (.pointer (some ⟨w.heap.size, 3, none⟩)),
       Is (.int .u16 (c.pseq : Int)),
       Is (.int .i64 (c.pseq : Int)),
       (NumV w.heap.size (be c.pseq 2)),
       (NumV w.heap.size (F1 ++ (be c.pseq 2))),
       Is (.pointer (some ⟨w.heap.size, 1, none⟩)),
       Is (.pointer (some ⟨w.heap.size, 7, none⟩)),
       Is (.slice s.tA s.tN s.tC),
       (NumV w.heap.size F2)]
      (by intro h; cases h) 51 10 4 rfl rfl rfl rfl (by kernel_rfl) (by kernel_rfl) rfl (by kernel_rfl) Gr.refl (fun _ _ _ => Gr.trans) ?_ ?_ ?_
     ·
      exact Ks (Ks (Ks (Ks (Ks (KeepAll.cons (fun _ _ _ hR h => h.grK hR HPF.out.1 HPF.out.2.2.2.2.2.1) (KeepAll.cons (fun _ _ _ hR h => h.gr hR HPF.out.2.1) (Ks (Ks (Ks (KeepAll.cons (fun _ _ _ hR h => h.gr hR (List.prefix_refl _)) (KeepAll.nil)))))))))))
     ·
      refine Gc (lr1 Gr.refl rfl rfl rfl (fun _ _ h => h) (fun r wx hR h1 => exec_mv (.inl rfl) h1)) ?_
      refine Gc (lr1 Gr.refl rfl rfl rfl (fun _ _ h => h) (fun r wx hR h1 => by simp [execOp, h1, go_sem])) ?_
      refine Gc (lr1 Gr.refl rfl rfl rfl (fun _ _ h => h) (fun r wx hR h1 => by simp [execOp, h1, go_sem])) ?_
      refine Gc (lr1 Gr.refl rfl rfl rfl (fun _ _ h => h) (fun r wx hR h1 => exg one23 rfl h1 (CM3 (HBx hR)))) ?_
      refine Gc (lr1 Gr.refl rfl rfl rfl (fun _ _ h => h) (fun r wx hR h1 => by simp [execOp, h1, w_pseq, v_pseq, go_sem])) ?_
      refine Gc ?_ ?_
      ·
       rintro r wx hR ⟨h1, h2, h3, _⟩
       replace h1 : r (.func 36) = .func (.func 36) #[] #[] := h1
       replace h2 : r (.tmp 45) = (.int .i64 (c.pseq : Int)) := h2
       replace h3 : r (.const (.int .i64 2)) = .int .i64 2 := h3
       refine give_func #[.int .i64 (c.pseq : Int), .int .i64 2] rfl h1 Try.call36 (by simp [h2, h3]) ?_
       refine (refNumI_any c.pseq (by omega) 2 _).mono ?_
       rintro e w1 ⟨qa, qm, qc, rfl, hqm, hqo, hqe⟩
       rw [numBi2] at hqm hqo
       subst hqm
       exact ⟨_, rfl, Gr.of_ext hqe, _, _, rfl, hqo.base (HZx hR)⟩
      refine Gc ?_ ?_
      ·
       rintro r wx hR ⟨h1, h2, _⟩
       replace h1 : r (.tmp 41) = (.slice a2 F1.length c2) := h1
       replace h2 : ((NumV w.heap.size (be c.pseq 2)) : Fact) wx (r (.tmp 46)) := h2
       obtain ⟨ya, yc, ye, yo⟩ := h2
       obtain ⟨ad, cap, w2, hr, ho2, ht⟩ := run_appG wx w.heap.size 24 (.slice a2 F1.length c2) _ F1 (be c.pseq 2) F1 F2 (HPx hR) yo.bytes HPF.out.2.2.2.1 (HZx hR) (List.prefix_refl _) HPF.out.2.1
       exact gvo (exec_runG rfl h1 rfl hr) ⟨ht, _, _, rfl, ho2⟩
      refine Gc (lr1 Gr.refl rfl rfl rfl (fun _ _ h => h) (fun r wx hR h1 => by simp [execOp, h1, go_sem])) ?_
      refine Gc (lr1 Gr.refl rfl rfl rfl (fun _ _ h => h) (fun r wx hR h1 => by simp [execOp, h1, go_sem])) ?_
      refine Gc (lr1 Gr.refl rfl rfl rfl (fun _ _ h => h) (fun r wx hR h1 => exg oneS rfl h1 (CM7 (HBx hR)))) ?_
      refine Gc ?_ ?_
      ·
       rintro r wx hR ⟨h1, h2, _⟩
       replace h1 : ((NumV w.heap.size (F1 ++ (be c.pseq 2))) : Fact) wx (r (.tmp 47)) := h1
       replace h2 : r (.tmp 50) = (.slice s.tA s.tN s.tC) := h2
       obtain ⟨xa, xc, xe, xo⟩ := h1
       obtain ⟨ad, cap, w2, hr, ho2, ht⟩ := run_appG wx w.heap.size 24 _ (.slice s.tA s.tN s.tC) (F1 ++ (be c.pseq 2)) c.text F1 F2 xo (HTb.out.ext (HEx hR)) HPF.out.2.2.2.2.1 (HZx hR) (List.prefix_append _ _) (by rw [← HPF.out.2.2.1]; exact List.prefix_refl _)
       exact gvo (exec_runG rfl rfl h2 hr) ⟨ht, by rw [HPF.out.2.2.1]; exact ⟨_, _, rfl, ho2⟩⟩
      exact GoodAll.nil
     ·
      intro vs w3 aY hR hold ha
      have hv0 : vs 0 = (.slice a2 F1.length c2) := hold.at 0
      have hv1 : vs 1 = (.pointer (some ⟨w.heap.size, 1, none⟩)) := hold.at 1
      have hv2 : vs 2 = (.pointer (some ⟨w.heap.size, 3, none⟩)) := hold.at 2
      have hv3 : vs 3 = (.int .u16 (c.pseq : Int)) := hold.at 3
      have hv4 : vs 4 = (.int .i64 (c.pseq : Int)) := hold.at 4
      have hv7 : vs 7 = (.pointer (some ⟨w.heap.size, 1, none⟩)) := hold.at 7
      have hv8 : vs 8 = (.pointer (some ⟨w.heap.size, 7, none⟩)) := hold.at 8
      have hv9 : vs 9 = (.slice s.tA s.tN s.tC) := hold.at 9
      obtain ⟨a3, c3, e9, ho9⟩ := hold.at 10
      simp only [List.dropLast_cons_cons, List.dropLast_singleton, putAll, Act.put, hv0, hv1, hv2, hv3, hv4, hv7, hv8, hv9, e9, List.setIfInBounds_toArray, List.set_cons_succ, List.set_cons_zero] at ha
      subst ha
      have HS3 : Hid (Blk w3 w.heap.size (CV c s) 32 ∧ Ext w w3 ∧ OB w3 w.heap.size (.slice a3 F2.length c3) F2) := ⟨HBx hR, HEx hR, by rw [← e9]; exact ho9⟩
      clear hold hR HBx HEx HZx HPx hv0 hv1 hv2 hv3 hv4 hv7 hv8 hv9
      clear e9 ho9 HPF
      have HT : Hid (Blk w3 w.heap.size (CV c s) 32 ∧ Ext w w3 ∧ BytesAt w3 (.slice a3 F2.length c3) (F2) ∧ ParsAt w3 (.slice none 0 0) ([]) ∧ F2 ++ writeB ([]) = valB c ∧ (F2 : List Nat).length ≤ 600 ∧ (writeB ([])).length ≤ 700 ∧ ([] : List Par).length ≤ 20 ∧ (∀ p ∈ ([] : List Par), goodP p = true) ∧ flagN c.pb c.pe c.pu = N3) := ⟨by exact HS3.out.1, by exact HS3.out.2.1, by exact HS3.out.2.2.bytes, by exact (OwnQ.nil 85 w w3).pars (HS3.out.2.1), by rw [HVB.out, writeB_nil, List.append_nil, HLF2.out.1, HLF1.out.1], by rw [HLF2.out.1, List.length_append, List.length_append, be_len]; have h1 := HLF1.out.2; have h2 := HTX.out; omega, by rw [writeB_nil]; simp, by simp, by exact fun p hp => absurd hp (List.not_mem_nil), by exact HFQ.out⟩
      clear HS3 HS2 c0 HLF1 HLF2
      refine HKsw.go _ _ ?_
      clear HKsw
      clear w_ptsn v_ptsn b_ptsn w_pstr v_pstr b_pstr w_pseq v_pseq b_pseq
      exact tailB (FL := N3) (K := 0) (HFL.out) HA.out.2.2.2.1 (by decide) HA.out.2.2.2.2 HT
set_option maxRecDepth 100000
set_option maxHeartbeats 32000000 in
theorem docB_3 {w : World} {c : Ck} {s : Sv} (ha : CkAt w s c) (hf : Fit c) (hg : GoodC c) (hk : c.kind = 3) :
  Calls Try.prog 16 #[.agg (CV c s)] w (DocBytesIs w c) := by
 have hbl : flagN c.pb c.pe c.pu = 0 := by have h := ((yes_iff c).2 hg).blank (by rw [hk]; decide); rw [h.2.2.2.1, h.2.2.2.2.1, h.2.2.2.2.2.1]; rfl
 have HFQ : Hid (flagN c.pb c.pe c.pu = 0) := hbl
 clear hbl
 have h3 := good_3 hg hk
 have h1 := h3.1
 have HVL0 := valB_len hg
 obtain ⟨W, hW⟩ : ∃ q : Nat, c.win = (q : Int) := ⟨c.win.toNat, by omega⟩
 have CM9 : ∀ {wx : World}, Blk wx w.heap.size (CV c s) 32 → wx.cell? ⟨w.heap.size, 9, none⟩ = some (.int .i64 (W : Int)) := fun h => by rw [← hW]; exact cv9 h
 have b_tsn := hf.tsn
 have w_tsn : IntKind.i64.wrap (c.tsn : Int) = (c.tsn : Int) := by rw [IntKind.wrap_i64]; omega
 have v_tsn : wrap64 (c.tsn : Int) = (c.tsn : Int) := by unfold wrap64; omega
 have CM12 : ∀ {wx : World}, Blk wx w.heap.size (CV c s) 32 → wx.cell? ⟨w.heap.size, 12, none⟩ = some (.int .u32 (c.tsn : Int)) := fun h => cv12 h
 obtain ⟨NG, hNG⟩ : ∃ n, n = c.gaps.length := ⟨_, rfl⟩
 obtain ⟨ND, hND⟩ : ∃ n, n = c.dups.length := ⟨_, rfl⟩
 have hvb : valB c = ((((be c.tsn 4 ++ be W 4) ++ be NG 2) ++ be ND 2) ++ gapV c.gaps) ++ dupV c.dups := by
  unfold valB
  rw [if_neg (by omega), if_neg (by omega), if_pos hk]
  unfold sackV
  rw [hW, ← hNG, ← hND]
  simp only [Int.toNat_natCast, List.append_assoc]
 have HVB : Hid (valB c = ((((be c.tsn 4 ++ be W 4) ++ be NG 2) ++ be ND 2) ++ gapV c.gaps) ++ dupV c.dups) := hvb
 clear hvb
 have hWb : W ≤ 2147483647 := by omega
 have hG16 : NG ≤ 16 := by omega
 have hD16 : ND ≤ 16 := by omega
 obtain ⟨gA, hgA⟩ : ∃ x, x = s.gA := ⟨_, rfl⟩
 obtain ⟨dA, hdA⟩ : ∃ x, x = s.dA := ⟨_, rfl⟩
 have CM16 : ∀ {wx : World}, Blk wx w.heap.size (CV c s) 32 → wx.cell? ⟨w.heap.size, 16, none⟩ = some (.slice gA NG s.gC) := fun h => by rw [hgA, hNG, ← ha.g.len.1]; exact cv16 h
 have hdl : s.dN = c.dups.length := by have := (nums_len ha.d).1; rwa [ci_len] at this
 have CM17 : ∀ {wx : World}, Blk wx w.heap.size (CV c s) 32 → wx.cell? ⟨w.heap.size, 17, none⟩ = some (.slice dA ND s.dC) := fun h => by rw [hdA, hND, ← hdl]; exact cv17 h
 have HGt : Hid (PairsAt w (.slice gA NG s.gC) c.gaps ∧ NG = c.gaps.length ∧ gapsB (-1) c.gaps = true) := ⟨by rw [hgA, hNG, ← ha.g.len.1]; exact ha.g, hNG, h3.2.1⟩
 have HDt : Hid (NumsAt .u32 w (.slice dA ND s.dC) (ci c.dups) ∧ ND = c.dups.length ∧ ∀ x ∈ c.dups, x < 4294967296) := ⟨by rw [hdA, hND, ← hdl]; exact ha.d, hND, hf.dups⟩
 clear h1 h3 hW hNG hND hgA hdA hdl
 have HA : Hid (CkAt w s c ∧ Fit c ∧ GoodC c ∧ c.kind = 3 ∧ (valB c).length ≤ 600) := ⟨ha, hf, hg, hk, HVL0⟩
 clear ha hf hg hk HVL0
 go_enter Try.func16, Try.ntmps16
 refine wp_seq_k (fun K0 hK => ?_)
 have HK0 := Stop.mk hK
 clear hK
 go_wp2_with (first
  | (refine wl_box (C := CV c s) rfl rfl rfl ?_; intro w1 hb1 he1 hx; clear hx))
 refine HK0.go _ _ ?_
 clear HK0
 have HS1 : Hid (Blk w1 w.heap.size (CV c s) 32 ∧ Ext w w1 ∧ True) := ⟨hb1, he1, trivial⟩
 clear hb1 he1
 refine wp_seq_k (fun K1 hK => ?_)
 have HK1 := Stop.mk hK
 clear hK
 go_wp2
 refine HK1.go _ _ ?_
 clear HK1
 refine wp_seq_k (fun K2 hK => ?_)
 have HK2 := Stop.mk hK
 clear hK
 go_wp2
 refine HK2.go _ _ ?_
 clear HK2
 refine wp_seq_k (fun K3 hK => ?_)
 have HK3 := Stop.mk hK
 clear hK
 go_wp2
 refine HK3.go _ _ ?_
 clear HK3
 refine wp_seq_k (fun Ksw hK => ?_)
 have HKsw := Stop.mk hK
 clear hK
 have c0 := cv0 HS1.out.1
 rw [HA.out.2.2.2.1] at c0
 obtain ⟨F1, hF⟩ : ∃ F, F = (be c.tsn 4) ++ (be W 4) := ⟨_, rfl⟩
 have HPF : Hid ((be c.tsn 4) <+: F1 ∧ F1 = (be c.tsn 4) ++ (be W 4) ∧ (be c.tsn 4).length + (be W 4).length ≤ 1000000 ∧ (be W 4).length ≤ (be c.tsn 4).length) := ⟨by rw [hF]; exact List.prefix_append _ _, hF, by rw [be_len, be_len]; decide, by rw [be_len, be_len]; decide⟩
 have HLF1 : Hid (F1 = (be c.tsn 4) ++ (be W 4) ∧ F1.length = 8) := ⟨hF, by rw [hF, List.length_append, be_len, be_len]⟩
 clear hF
 go_upto_region 27 with fail
 have HBx : ∀ {wx : World}, (Gr w.heap.size (be c.tsn 4) F1) w1.drew wx → Blk wx w.heap.size (CV c s) 32 := fun h => h.blk (HS1.out.1.ext (Ext.drew _)) (by decide)
 have HEx : ∀ {wx : World}, (Gr w.heap.size (be c.tsn 4) F1) w1.drew wx → Ext w wx := fun h => h.extO (HS1.out.2.1.trans (Ext.drew _)) (Nat.le_refl _)
 have HZx : ∀ {wx : World}, (Gr w.heap.size (be c.tsn 4) F1) w1.drew wx → w.heap.size ≤ wx.heap.size := fun h => (HEx h).size
 refine wp_region_facts (fun t => bif Nat.ble 112 t && Nat.ble t 119 then some (t - 112) else bif Nat.beq t 4 then some 8 else none) 265 (Gr w.heap.size (be c.tsn 4) F1)
  [Is (.pointer (some ⟨w.heap.size, 12, none⟩)),
   Is (.int .u32 (c.tsn : Int)),
   Is (.int .i64 (c.tsn : Int)),
   (NumV w.heap.size (be c.tsn 4)),
   Is (.pointer (some ⟨w.heap.size, 9, none⟩)),
   Is (.int .i64 (W : Int)),
   (NumV w.heap.size (be W 4)),
   (NumV w.heap.size F1),
   (NumV w.heap.size F1)]
  rfl (by kernel_rfl) (by kernel_rfl) rfl Gr.refl (fun _ _ _ => Gr.trans) ?_ ?_ ?_
 ·
  exact Ks (Ks (Ks (KeepAll.cons (fun _ _ _ hR h => h.gr hR HPF.out.1) (Ks (Ks (KeepAll.cons (fun _ _ _ hR h => h.grK hR HPF.out.1 HPF.out.2.2.2) (KeepAll.cons (fun _ _ _ hR h => h.gr hR (List.prefix_refl _)) (KeepAll.cons (fun _ _ _ hR h => h.gr hR (List.prefix_refl _)) (KeepAll.nil)))))))))
 ·
  refine Gc (lr1 Gr.refl rfl rfl rfl (fun _ _ h => h) (fun r wx hR h1 => by simp [execOp, h1, go_sem])) ?_
  refine Gc (lr1 Gr.refl rfl rfl rfl (fun _ _ h => h) (fun r wx hR h1 => exg one22 rfl h1 (CM12 (HBx hR)))) ?_
  refine Gc (lr1 Gr.refl rfl rfl rfl (fun _ _ h => h) (fun r wx hR h1 => by simp [execOp, h1, w_tsn, v_tsn, go_sem])) ?_
  refine Gc ?_ ?_
  ·
   rintro r wx hR ⟨h1, h2, h3, _⟩
   replace h1 : r (.func 36) = .func (.func 36) #[] #[] := h1
   replace h2 : r (.tmp 114) = (.int .i64 (c.tsn : Int)) := h2
   replace h3 : r (.const (.int .i64 4)) = .int .i64 4 := h3
   refine give_func #[.int .i64 (c.tsn : Int), .int .i64 4] rfl h1 Try.call36 (by simp [h2, h3]) ?_
   refine (refNumI_any c.tsn (by omega) 4 _).mono ?_
   rintro e w1 ⟨qa, qm, qc, rfl, hqm, hqo, hqe⟩
   rw [numBi4] at hqm hqo
   subst hqm
   exact ⟨_, rfl, Gr.of_ext hqe, _, _, rfl, hqo.base (HZx hR)⟩
  refine Gc (lr1 Gr.refl rfl rfl rfl (fun _ _ h => h) (fun r wx hR h1 => by simp [execOp, h1, go_sem])) ?_
  refine Gc (lr1 Gr.refl rfl rfl rfl (fun _ _ h => h) (fun r wx hR h1 => exg one3 rfl h1 (CM9 (HBx hR)))) ?_
  refine Gc ?_ ?_
  ·
   rintro r wx hR ⟨h1, h2, h3, _⟩
   replace h1 : r (.func 36) = .func (.func 36) #[] #[] := h1
   replace h2 : r (.tmp 117) = (.int .i64 (W : Int)) := h2
   replace h3 : r (.const (.int .i64 4)) = .int .i64 4 := h3
   refine give_func #[.int .i64 (W : Int), .int .i64 4] rfl h1 Try.call36 (by simp [h2, h3]) ?_
   refine (refNumI_any W (by omega) 4 _).mono ?_
   rintro e w1 ⟨qa, qm, qc, rfl, hqm, hqo, hqe⟩
   rw [numBi4] at hqm hqo
   subst hqm
   exact ⟨_, rfl, Gr.of_ext hqe, _, _, rfl, hqo.base (HZx hR)⟩
  refine Gc ?_ ?_
  ·
   rintro r wx hR ⟨h1, h2, _⟩
   replace h1 : ((NumV w.heap.size (be c.tsn 4)) : Fact) wx (r (.tmp 115)) := h1
   replace h2 : ((NumV w.heap.size (be W 4)) : Fact) wx (r (.tmp 118)) := h2
   obtain ⟨xa, xc, xe, xo⟩ := h1
   obtain ⟨ya, yc, ye, yo⟩ := h2
   obtain ⟨ad, cap, w2, hr, ho2, ht⟩ := run_appG wx w.heap.size 24 _ _ (be c.tsn 4) (be W 4) (be c.tsn 4) F1 xo yo.bytes HPF.out.2.2.1 (HZx hR) (List.prefix_refl _) (by rw [← HPF.out.2.1]; exact List.prefix_refl _)
   exact gvo (exec_runG rfl rfl rfl hr) ⟨ht, by rw [HPF.out.2.1]; exact ⟨_, _, rfl, ho2⟩⟩
  refine Gc ?_ ?_
  ·
   rintro r wx hR ⟨h1, _⟩
   replace h1 : ((NumV w.heap.size F1) : Fact) wx (r (.tmp 119)) := h1
   exact give_move (.inr rfl) ⟨Gr.refl _, h1⟩
  exact GoodAll.nil
 ·
  intro vs w2 aY hR hold ha
  have hv0 : vs 0 = (.pointer (some ⟨w.heap.size, 12, none⟩)) := hold.at 0
  have hv1 : vs 1 = (.int .u32 (c.tsn : Int)) := hold.at 1
  have hv2 : vs 2 = (.int .i64 (c.tsn : Int)) := hold.at 2
  have hv4 : vs 4 = (.pointer (some ⟨w.heap.size, 9, none⟩)) := hold.at 4
  have hv5 : vs 5 = (.int .i64 (W : Int)) := hold.at 5
  obtain ⟨a2, c2, e9, ho9⟩ := hold.at 8
  simp only [List.dropLast_cons_cons, List.dropLast_singleton, putAll, Act.put, hv0, hv1, hv2, hv4, hv5, e9, List.setIfInBounds_toArray, List.set_cons_succ, List.set_cons_zero] at ha
  subst ha
  have HS2 : Hid (Blk w2 w.heap.size (CV c s) 32 ∧ Ext w w2 ∧ OB w2 w.heap.size (.slice a2 F1.length c2) F1) := ⟨HBx hR, HEx hR, by rw [← e9]; exact ho9⟩
  clear hold hR HBx HEx HZx hv0 hv1 hv2 hv4 hv5
  clear e9 ho9 HPF
  rename_i hK_
  refine hK_ _ _ ?_
  clear hK_
  obtain ⟨F2, hF⟩ : ∃ F, F = (F1 ++ (be NG 2)) ++ (be ND 2) := ⟨_, rfl⟩
  have HPF : Hid (F1 <+: F2 ∧ F1 ++ (be NG 2) <+: F2 ∧ F2 = (F1 ++ (be NG 2)) ++ (be ND 2) ∧ F1.length + (be NG 2).length ≤ 1000000 ∧ (F1 ++ (be NG 2)).length + (be ND 2).length ≤ 1000000 ∧ (be NG 2).length ≤ F1.length ∧ (be ND 2).length ≤ F1.length) := ⟨by rw [hF, List.append_assoc]; exact List.prefix_append _ _, by rw [hF]; exact List.prefix_append _ _, hF, by (try rw [List.length_append]); (try rw [be_len]); (try rw [be_len]); have := HLF1.out.2; omega, by (try rw [List.length_append]); (try rw [be_len]); (try rw [be_len]); have := HLF1.out.2; omega, by (try rw [List.length_append]); (try rw [be_len]); (try rw [be_len]); have := HLF1.out.2; omega, by (try rw [List.length_append]); (try rw [be_len]); (try rw [be_len]); have := HLF1.out.2; omega⟩
  have HLF2 : Hid (F2 = (F1 ++ (be NG 2)) ++ (be ND 2) ∧ F2.length = 12) := ⟨hF, by rw [hF, List.length_append, List.length_append, be_len, be_len]; have := HLF1.out.2; omega⟩
  clear hF
  refine wp_seq_k (fun Kr28 hK => ?_)
  have HKr28 := Stop.mk hK
  clear hK
  have HBx : ∀ {wx : World}, (Gr w.heap.size F1 F2) w2.drew wx → Blk wx w.heap.size (CV c s) 32 := fun h => h.blk (HS2.out.1.ext (Ext.drew _)) (by decide)
  have HEx : ∀ {wx : World}, (Gr w.heap.size F1 F2) w2.drew wx → Ext w wx := fun h => h.extO (HS2.out.2.1.trans (Ext.drew _)) (Nat.le_refl _)
  have HZx : ∀ {wx : World}, (Gr w.heap.size F1 F2) w2.drew wx → w.heap.size ≤ wx.heap.size := fun h => (HEx h).size
  have HPx : ∀ {wx : World}, (Gr w.heap.size F1 F2) w2.drew wx → OB wx w.heap.size (.slice a2 F1.length c2) F1 := fun h => h.ob (HS2.out.2.2.ext (Ext.drew _)) HPF.out.1
  refine wp_region_factsL (fun t => bif Nat.ble 120 t && Nat.ble t 130 then some (t - 120) else none) 265 (Gr w.heap.size F1 F2)
   [Is (.slice a2 F1.length c2),
    Is (.pointer (some ⟨w.heap.size, 16, none⟩)),
    Is (.slice gA NG s.gC),
    Is (.int .i64 (NG : Int)),
    (NumV w.heap.size (be NG 2)),
    (NumV w.heap.size (F1 ++ (be NG 2))),
    Is (.pointer (some ⟨w.heap.size, 17, none⟩)),
    Is (.slice dA ND s.dC),
    Is (.int .i64 (ND : Int)),
    (NumV w.heap.size (be ND 2)),
    (NumV w.heap.size F2)]
   (by intro h; cases h) 130 10 4 rfl rfl rfl rfl (by kernel_rfl) (by kernel_rfl) rfl (by kernel_rfl) Gr.refl (fun _ _ _ => Gr.trans) ?_ ?_ ?_
  ·
   exact Ks (Ks (Ks (Ks (KeepAll.cons (fun _ _ _ hR h => h.grK hR HPF.out.1 HPF.out.2.2.2.2.2.1) (KeepAll.cons (fun _ _ _ hR h => h.gr hR HPF.out.2.1) (Ks (Ks (Ks (KeepAll.cons (fun _ _ _ hR h => h.grK hR HPF.out.1 HPF.out.2.2.2.2.2.2) (KeepAll.cons (fun _ _ _ hR h => h.gr hR (List.prefix_refl _)) (KeepAll.nil)))))))))))
  ·
   refine Gc (lr1 Gr.refl rfl rfl rfl (fun _ _ h => h) (fun r wx hR h1 => exec_mv (.inl rfl) h1)) ?_
   refine Gc (lr1 Gr.refl rfl rfl rfl (fun _ _ h => h) (fun r wx hR h1 => by simp [execOp, h1, go_sem])) ?_
   refine Gc (lr1 Gr.refl rfl rfl rfl (fun _ _ h => h) (fun r wx hR h1 => exg oneSG2 rfl h1 (CM16 (HBx hR)))) ?_
   refine Gc (lr1 Gr.refl rfl rfl rfl (fun _ _ h => h) (fun r wx hR h1 => by replace h1 : r (.tmp 122) = _ := h1; simp [execOp, h1, go_sem])) ?_
   refine Gc ?_ ?_
   ·
    rintro r wx hR ⟨h1, h2, h3, _⟩
    replace h1 : r (.func 36) = .func (.func 36) #[] #[] := h1
    replace h2 : r (.tmp 123) = (.int .i64 (NG : Int)) := h2
    replace h3 : r (.const (.int .i64 2)) = .int .i64 2 := h3
    refine give_func #[.int .i64 (NG : Int), .int .i64 2] rfl h1 Try.call36 (by simp [h2, h3]) ?_
    refine (refNumI_any NG (by omega) 2 _).mono ?_
    rintro e w1 ⟨qa, qm, qc, rfl, hqm, hqo, hqe⟩
    rw [numBi2] at hqm hqo
    subst hqm
    exact ⟨_, rfl, Gr.of_ext hqe, _, _, rfl, hqo.base (HZx hR)⟩
   refine Gc ?_ ?_
   ·
    rintro r wx hR ⟨h1, h2, _⟩
    replace h1 : r (.tmp 120) = (.slice a2 F1.length c2) := h1
    replace h2 : ((NumV w.heap.size (be NG 2)) : Fact) wx (r (.tmp 124)) := h2
    obtain ⟨ya, yc, ye, yo⟩ := h2
    obtain ⟨ad, cap, w2, hr, ho2, ht⟩ := run_appG wx w.heap.size 24 (.slice a2 F1.length c2) _ F1 (be NG 2) F1 F2 (HPx hR) yo.bytes HPF.out.2.2.2.1 (HZx hR) (List.prefix_refl _) HPF.out.2.1
    exact gvo (exec_runG rfl h1 rfl hr) ⟨ht, _, _, rfl, ho2⟩
   refine Gc (lr1 Gr.refl rfl rfl rfl (fun _ _ h => h) (fun r wx hR h1 => by simp [execOp, h1, go_sem])) ?_
   refine Gc (lr1 Gr.refl rfl rfl rfl (fun _ _ h => h) (fun r wx hR h1 => exg oneSD rfl h1 (CM17 (HBx hR)))) ?_
   refine Gc (lr1 Gr.refl rfl rfl rfl (fun _ _ h => h) (fun r wx hR h1 => by replace h1 : r (.tmp 127) = _ := h1; simp [execOp, h1, go_sem])) ?_
   refine Gc ?_ ?_
   ·
    rintro r wx hR ⟨h1, h2, h3, _⟩
    replace h1 : r (.func 36) = .func (.func 36) #[] #[] := h1
    replace h2 : r (.tmp 128) = (.int .i64 (ND : Int)) := h2
    replace h3 : r (.const (.int .i64 2)) = .int .i64 2 := h3
    refine give_func #[.int .i64 (ND : Int), .int .i64 2] rfl h1 Try.call36 (by simp [h2, h3]) ?_
    refine (refNumI_any ND (by omega) 2 _).mono ?_
    rintro e w1 ⟨qa, qm, qc, rfl, hqm, hqo, hqe⟩
    rw [numBi2] at hqm hqo
    subst hqm
    exact ⟨_, rfl, Gr.of_ext hqe, _, _, rfl, hqo.base (HZx hR)⟩
   refine Gc ?_ ?_
   ·
    rintro r wx hR ⟨h1, h2, _⟩
    replace h1 : ((NumV w.heap.size (F1 ++ (be NG 2))) : Fact) wx (r (.tmp 125)) := h1
    replace h2 : ((NumV w.heap.size (be ND 2)) : Fact) wx (r (.tmp 129)) := h2
    obtain ⟨xa, xc, xe, xo⟩ := h1
    obtain ⟨ya, yc, ye, yo⟩ := h2
    obtain ⟨ad, cap, w2, hr, ho2, ht⟩ := run_appG wx w.heap.size 24 _ _ (F1 ++ (be NG 2)) (be ND 2) F1 F2 xo yo.bytes HPF.out.2.2.2.2.1 (HZx hR) (List.prefix_append _ _) (by rw [← HPF.out.2.2.1]; exact List.prefix_refl _)
    exact gvo (exec_runG rfl rfl rfl hr) ⟨ht, by rw [HPF.out.2.2.1]; exact ⟨_, _, rfl, ho2⟩⟩
   exact GoodAll.nil
  ·
   intro vs w3 aY hR hold ha
   have hv0 : vs 0 = (.slice a2 F1.length c2) := hold.at 0
   have hv1 : vs 1 = (.pointer (some ⟨w.heap.size, 16, none⟩)) := hold.at 1
   have hv2 : vs 2 = (.slice gA NG s.gC) := hold.at 2
   have hv3 : vs 3 = (.int .i64 (NG : Int)) := hold.at 3
   have hv6 : vs 6 = (.pointer (some ⟨w.heap.size, 17, none⟩)) := hold.at 6
   have hv7 : vs 7 = (.slice dA ND s.dC) := hold.at 7
   have hv8 : vs 8 = (.int .i64 (ND : Int)) := hold.at 8
   obtain ⟨a3, c3, e9, ho9⟩ := hold.at 10
   simp only [List.dropLast_cons_cons, List.dropLast_singleton, putAll, Act.put, hv0, hv1, hv2, hv3, hv6, hv7, hv8, e9, List.setIfInBounds_toArray, List.set_cons_succ, List.set_cons_zero] at ha
   subst ha
   have HS3 : Hid (Blk w3 w.heap.size (CV c s) 32 ∧ Ext w w3 ∧ OB w3 w.heap.size (.slice a3 F2.length c3) F2) := ⟨HBx hR, HEx hR, by rw [← e9]; exact ho9⟩
   clear hold hR HBx HEx HZx HPx hv0 hv1 hv2 hv3 hv6 hv7 hv8
   clear e9 ho9 HPF
   refine HKr28.go _ _ ?_
   clear HKr28
   have HLv : Hid (F2 = (((be c.tsn 4 ++ be W 4) ++ be NG 2) ++ be ND 2) ∧ F2.length = 12) := ⟨by rw [HLF2.out.1, HLF1.out.1], HLF2.out.2⟩
   clear w_tsn v_tsn b_tsn HLF1 HLF2 HS2 c0
   refine wp_seq_k (fun Klp hK => ?_)
   have HKlp := Stop.mk hK
   clear hK
   go_wp2
   go_loopg [4, 7] NG (fun gm x t wr => ∃ (k : Nat) (oa : Option Addr) (on oc : Nat), k ≤ NG ∧ gm = NG - k ∧ x = .slice oa on oc ∧ t = .int .i64 (k : Int) ∧ Hid (Blk wr w.heap.size (CV c s) 32 ∧ Ext w wr ∧ OB wr w.heap.size (.slice oa on oc) (F2 ++ gapV (c.gaps.take k)) ∧ on = (F2 ++ gapV (c.gaps.take k)).length))
   case atStart => exact ⟨0, a3, _, c3, Nat.zero_le _, rfl, rfl, rfl, HS3.out.1, HS3.out.2.1, by rw [show F2 ++ gapV (c.gaps.take 0) = F2 by simp [gapV]]; exact HS3.out.2.2, by simp [gapV]⟩
   case round =>
    obtain ⟨k, oa, on, oc, hk, rfl, rfl, rfl, HR⟩ := hrel
    by_cases hlt : k < NG
    ·
     have hd : decide ((k : Int) < (NG : Int)) = true := decide_eq_true (by omega)
     have hkL : k < c.gaps.length := by rw [← HGt.out.2.1]; exact hlt
     have hkn : (k : Int) < (NG : Int) := by omega
     have hd2 : decide (k < NG) = true := decide_eq_true hlt
     obtain ⟨b, off, rfl, hc0, hc1⟩ := HGt.out.1.cellAt k hkL
     obtain ⟨hg1, hg2, hg3⟩ := gapsB_at c.gaps (-1) (by omega) HGt.out.2.2 k hkL
     obtain ⟨A, hA⟩ : ∃ A : Nat, (c.gaps.getD k (0, 0)).1 = (A : Int) := ⟨_, (Int.toNat_of_nonneg (by omega)).symm⟩
     obtain ⟨B, hB⟩ : ∃ A : Nat, (c.gaps.getD k (0, 0)).2 = (A : Int) := ⟨_, (Int.toNat_of_nonneg (by omega)).symm⟩
     rw [hA] at hc0 hg1 hg2
     rw [hB] at hc1 hg2 hg3
     have HAk : Hid (gapV (c.gaps.take (k + 1)) = gapV (c.gaps.take k) ++ (be A 2 ++ be B 2)) := show _ = _ by rw [gapV_snoc hkL, hA, hB]; rfl
     have hAb : A ≤ 65535 := by omega
     have hBb : B ≤ 65535 := by omega
     have HC0 : Hid (w.cell? ⟨b, off + k * 2, none⟩ = some (.int .i64 (A : Int)) ∧ w.cell? ⟨b, off + k * 2 + 1, none⟩ = some (.int .i64 (B : Int))) := ⟨hc0, hc1⟩
     obtain ⟨P, hP⟩ : ∃ P, P = F2 ++ gapV (c.gaps.take k) := ⟨_, rfl⟩
     rw [← hP] at HR
     have HP : Hid (P = F2 ++ gapV (c.gaps.take k) ∧ 12 ≤ P.length ∧ P.length ≤ 100) := ⟨hP, by rw [hP, List.length_append, HLv.out.2]; omega, by rw [hP, List.length_append, gapV_len, HLv.out.2, List.length_take]; omega⟩
     clear hP
     have hon := HR.out.2.2.2
     subst hon
     obtain ⟨w20, hw20⟩ : ∃ x, x = wr := ⟨_, rfl⟩
     obtain ⟨a20, ha20⟩ : ∃ x, x = oa := ⟨_, rfl⟩
     obtain ⟨c20, hc20⟩ : ∃ x, x = oc := ⟨_, rfl⟩
     subst hw20 ha20 hc20
     have HS20 : Hid (Blk w20 w.heap.size (CV c s) 32 ∧ Ext w w20 ∧ OB w20 w.heap.size (.slice a20 P.length c20) P) := ⟨HR.out.1, HR.out.2.1, HR.out.2.2.1⟩
     have d16 := CM16 HS20.out.1
     clear HR hA hB hg1 hg2 hg3 hkL hc0 hc1
     go_wp2_with fail
     clear d16
     obtain ⟨F4, hF⟩ : ∃ F, F = (P ++ (be A 2)) ++ (be B 2) := ⟨_, rfl⟩
     have HPF : Hid (P <+: F4 ∧ P ++ (be A 2) <+: F4 ∧ F4 = (P ++ (be A 2)) ++ (be B 2) ∧ P.length + (be A 2).length ≤ 1000000 ∧ (P ++ (be A 2)).length + (be B 2).length ≤ 1000000 ∧ (be A 2).length ≤ P.length ∧ (be B 2).length ≤ P.length) := ⟨by rw [hF, List.append_assoc]; exact List.prefix_append _ _, by rw [hF]; exact List.prefix_append _ _, hF, by (try rw [List.length_append]); (try rw [be_len]); (try rw [be_len]); have := HP.out.2; omega, by (try rw [List.length_append]); (try rw [be_len]); (try rw [be_len]); have := HP.out.2; omega, by (try rw [List.length_append]); (try rw [be_len]); (try rw [be_len]); have := HP.out.2; omega, by (try rw [List.length_append]); (try rw [be_len]); (try rw [be_len]); have := HP.out.2; omega⟩
     have HLF4 : Hid (F4 = (P ++ be A 2) ++ be B 2) := hF
     clear hF
     have HBx : ∀ {wx : World}, (Gr w.heap.size P F4) w20.drew wx → Blk wx w.heap.size (CV c s) 32 := fun h => h.blk (HS20.out.1.ext (Ext.drew _)) (by decide)
     have HEx : ∀ {wx : World}, (Gr w.heap.size P F4) w20.drew wx → Ext w wx := fun h => h.extO (HS20.out.2.1.trans (Ext.drew _)) (Nat.le_refl _)
     have HZx : ∀ {wx : World}, (Gr w.heap.size P F4) w20.drew wx → w.heap.size ≤ wx.heap.size := fun h => (HEx h).size
     have HPx : ∀ {wx : World}, (Gr w.heap.size P F4) w20.drew wx → OB wx w.heap.size (.slice a20 P.length c20) P := fun h => h.ob (HS20.out.2.2.ext (Ext.drew _)) HPF.out.1
     refine wp_region_factsL (fun t => bif Nat.ble 138 t && Nat.ble t 154 then some (t - 138) else none) 265 (Gr w.heap.size P F4)
      [Is (.slice a20 P.length c20),
       Is (.pointer (some ⟨w.heap.size, 16, none⟩)),
       Is (.slice (some ⟨b, off, none⟩) NG s.gC),
       Is (.int .i64 (k : Int)),
       Is (.pointer (some ⟨b, off + k * 2, none⟩)),
       Is (.pointer (some ⟨b, off + k * 2, none⟩)),
       Is (.int .i64 (A : Int)),
       (NumV w.heap.size (be A 2)),
       (NumV w.heap.size (P ++ (be A 2))),
       Is (.pointer (some ⟨w.heap.size, 16, none⟩)),
       Is (.slice (some ⟨b, off, none⟩) NG s.gC),
       Is (.int .i64 (k : Int)),
       Is (.pointer (some ⟨b, off + k * 2, none⟩)),
       Is (.pointer (some ⟨b, off + k * 2 + 1, none⟩)),
       Is (.int .i64 (B : Int)),
       (NumV w.heap.size (be B 2)),
       (NumV w.heap.size F4)]
      (by intro h; cases h) 154 16 4 rfl rfl rfl rfl (by kernel_rfl) (by kernel_rfl) rfl (by kernel_rfl) Gr.refl (fun _ _ _ => Gr.trans) ?_ ?_ ?_
     ·
      exact Ks (Ks (Ks (Ks (Ks (Ks (Ks (KeepAll.cons (fun _ _ _ hR h => h.grK hR HPF.out.1 HPF.out.2.2.2.2.2.1) (KeepAll.cons (fun _ _ _ hR h => h.gr hR HPF.out.2.1) (Ks (Ks (Ks (Ks (Ks (Ks (KeepAll.cons (fun _ _ _ hR h => h.grK hR HPF.out.1 HPF.out.2.2.2.2.2.2) (KeepAll.cons (fun _ _ _ hR h => h.gr hR (List.prefix_refl _)) (KeepAll.nil)))))))))))))))))
     ·
      refine Gc (lr1 Gr.refl rfl rfl rfl (fun _ _ h => h) (fun r wx hR h1 => exec_mv (.inl rfl) h1)) ?_
      refine Gc (lr1 Gr.refl rfl rfl rfl (fun _ _ h => h) (fun r wx hR h1 => by simp [execOp, h1, go_sem])) ?_
      refine Gc (lr1 Gr.refl rfl rfl rfl (fun _ _ h => h) (fun r wx hR h1 => exg oneSG2 rfl h1 (CM16 (HBx hR)))) ?_
      refine Gc (lr1 Gr.refl rfl rfl rfl (fun _ _ h => h) (fun r wx hR h1 => exec_mv (.inl rfl) h1)) ?_
      refine Gc (lr2 Gr.refl rfl rfl rfl (fun _ _ h => h) (fun _ _ h => h) (fun r wx hR h1 h2 => by simp [execOp, h1, h2, hkn, go_sem])) ?_
      refine Gc (lr1 Gr.refl rfl rfl rfl (fun _ _ h => h) (fun r wx hR h1 => by simp [execOp, h1, go_sem])) ?_
      refine Gc (lr1 Gr.refl rfl rfl rfl (fun _ _ h => h) (fun r wx hR h1 => exg one3 rfl h1 ((HEx hR).cell HC0.out.1))) ?_
      refine Gc ?_ ?_
      ·
       rintro r wx hR ⟨h1, h2, h3, _⟩
       replace h1 : r (.func 36) = .func (.func 36) #[] #[] := h1
       replace h2 : r (.tmp 144) = (.int .i64 (A : Int)) := h2
       replace h3 : r (.const (.int .i64 2)) = .int .i64 2 := h3
       refine give_func #[.int .i64 (A : Int), .int .i64 2] rfl h1 Try.call36 (by simp [h2, h3]) ?_
       refine (refNumI_any A (by omega) 2 _).mono ?_
       rintro e w1 ⟨qa, qm, qc, rfl, hqm, hqo, hqe⟩
       rw [numBi2] at hqm hqo
       subst hqm
       exact ⟨_, rfl, Gr.of_ext hqe, _, _, rfl, hqo.base (HZx hR)⟩
      refine Gc ?_ ?_
      ·
       rintro r wx hR ⟨h1, h2, _⟩
       replace h1 : r (.tmp 138) = (.slice a20 P.length c20) := h1
       replace h2 : ((NumV w.heap.size (be A 2)) : Fact) wx (r (.tmp 145)) := h2
       obtain ⟨ya, yc, ye, yo⟩ := h2
       obtain ⟨ad, cap, w2, hr, ho2, ht⟩ := run_appG wx w.heap.size 24 (.slice a20 P.length c20) _ P (be A 2) P F4 (HPx hR) yo.bytes HPF.out.2.2.2.1 (HZx hR) (List.prefix_refl _) HPF.out.2.1
       exact gvo (exec_runG rfl h1 rfl hr) ⟨ht, _, _, rfl, ho2⟩
      refine Gc (lr1 Gr.refl rfl rfl rfl (fun _ _ h => h) (fun r wx hR h1 => by simp [execOp, h1, go_sem])) ?_
      refine Gc (lr1 Gr.refl rfl rfl rfl (fun _ _ h => h) (fun r wx hR h1 => exg oneSG2 rfl h1 (CM16 (HBx hR)))) ?_
      refine Gc (lr1 Gr.refl rfl rfl rfl (fun _ _ h => h) (fun r wx hR h1 => exec_mv (.inl rfl) h1)) ?_
      refine Gc (lr2 Gr.refl rfl rfl rfl (fun _ _ h => h) (fun _ _ h => h) (fun r wx hR h1 h2 => by simp [execOp, h1, h2, hkn, go_sem])) ?_
      refine Gc (lr1 Gr.refl rfl rfl rfl (fun _ _ h => h) (fun r wx hR h1 => by simp [execOp, h1, go_sem])) ?_
      refine Gc (lr1 Gr.refl rfl rfl rfl (fun _ _ h => h) (fun r wx hR h1 => exg one3 rfl h1 ((HEx hR).cell HC0.out.2))) ?_
      refine Gc ?_ ?_
      ·
       rintro r wx hR ⟨h1, h2, h3, _⟩
       replace h1 : r (.func 36) = .func (.func 36) #[] #[] := h1
       replace h2 : r (.tmp 152) = (.int .i64 (B : Int)) := h2
       replace h3 : r (.const (.int .i64 2)) = .int .i64 2 := h3
       refine give_func #[.int .i64 (B : Int), .int .i64 2] rfl h1 Try.call36 (by simp [h2, h3]) ?_
       refine (refNumI_any B (by omega) 2 _).mono ?_
       rintro e w1 ⟨qa, qm, qc, rfl, hqm, hqo, hqe⟩
       rw [numBi2] at hqm hqo
       subst hqm
       exact ⟨_, rfl, Gr.of_ext hqe, _, _, rfl, hqo.base (HZx hR)⟩
      refine Gc ?_ ?_
      ·
       rintro r wx hR ⟨h1, h2, _⟩
       replace h1 : ((NumV w.heap.size (P ++ (be A 2))) : Fact) wx (r (.tmp 146)) := h1
       replace h2 : ((NumV w.heap.size (be B 2)) : Fact) wx (r (.tmp 153)) := h2
       obtain ⟨xa, xc, xe, xo⟩ := h1
       obtain ⟨ya, yc, ye, yo⟩ := h2
       obtain ⟨ad, cap, w2, hr, ho2, ht⟩ := run_appG wx w.heap.size 24 _ _ (P ++ (be A 2)) (be B 2) P F4 xo yo.bytes HPF.out.2.2.2.2.1 (HZx hR) (List.prefix_append _ _) (by rw [← HPF.out.2.2.1]; exact List.prefix_refl _)
       exact gvo (exec_runG rfl rfl rfl hr) ⟨ht, by rw [HPF.out.2.2.1]; exact ⟨_, _, rfl, ho2⟩⟩
      exact GoodAll.nil
     ·
      intro vs w21 aY hR hold ha
      have hv0 : vs 0 = (.slice a20 P.length c20) := hold.at 0
      have hv1 : vs 1 = (.pointer (some ⟨w.heap.size, 16, none⟩)) := hold.at 1
      have hv2 : vs 2 = (.slice (some ⟨b, off, none⟩) NG s.gC) := hold.at 2
      have hv3 : vs 3 = (.int .i64 (k : Int)) := hold.at 3
      have hv4 : vs 4 = (.pointer (some ⟨b, off + k * 2, none⟩)) := hold.at 4
      have hv5 : vs 5 = (.pointer (some ⟨b, off + k * 2, none⟩)) := hold.at 5
      have hv6 : vs 6 = (.int .i64 (A : Int)) := hold.at 6
      have hv9 : vs 9 = (.pointer (some ⟨w.heap.size, 16, none⟩)) := hold.at 9
      have hv10 : vs 10 = (.slice (some ⟨b, off, none⟩) NG s.gC) := hold.at 10
      have hv11 : vs 11 = (.int .i64 (k : Int)) := hold.at 11
      have hv12 : vs 12 = (.pointer (some ⟨b, off + k * 2, none⟩)) := hold.at 12
      have hv13 : vs 13 = (.pointer (some ⟨b, off + k * 2 + 1, none⟩)) := hold.at 13
      have hv14 : vs 14 = (.int .i64 (B : Int)) := hold.at 14
      obtain ⟨a21, c21, e9, ho9⟩ := hold.at 16
      simp only [List.dropLast_cons_cons, List.dropLast_singleton, putAll, Act.put, hv0, hv1, hv2, hv3, hv4, hv5, hv6, hv9, hv10, hv11, hv12, hv13, hv14, e9, List.setIfInBounds_toArray, List.set_cons_succ, List.set_cons_zero] at ha
      subst ha
      have HS21 : Hid (Blk w21 w.heap.size (CV c s) 32 ∧ Ext w w21 ∧ OB w21 w.heap.size (.slice a21 F4.length c21) F4) := ⟨HBx hR, HEx hR, by rw [← e9]; exact ho9⟩
      clear hold hR HBx HEx HZx HPx hv0 hv1 hv2 hv3 hv4 hv5 hv6 hv9 hv10 hv11 hv12 hv13 hv14
      clear e9 ho9 HPF
      have HQ : Hid (F4 = F2 ++ gapV (c.gaps.take (k + 1))) := show _ = _ by rw [HLF4.out, HP.out.1, HAk.out]; simp only [List.append_assoc]
      go_wp2
      go_roundg (NG - (k + 1))
      case measure => omega
      case rel => exact ⟨k + 1, a21, _, c21, by omega, rfl, rfl, by simp, HS21.out.1, HS21.out.2.1, by rw [← HQ.out]; exact HS21.out.2.2, by rw [← HQ.out]⟩
    ·
     have hd : decide ((k : Int) < (NG : Int)) = false := decide_eq_false (by omega)
     have hd2 : decide (k < NG) = false := decide_eq_false hlt
     have HT_ : Hid (c.gaps.take k = c.gaps) := List.take_of_length_le (by rw [← HGt.out.2.1]; omega)
     rw [HT_.out] at HR
     obtain ⟨F5, hF5⟩ : ∃ F, F = F2 ++ gapV c.gaps := ⟨_, rfl⟩
     rw [← hF5] at HR
     have HL5 : Hid (F5 = F2 ++ gapV c.gaps ∧ F5.length ≤ 100) := ⟨hF5, by rw [hF5, List.length_append, gapV_len, HLv.out.2, ← HGt.out.2.1]; omega⟩
     clear hF5
     have hon := HR.out.2.2.2
     subst hon
     obtain ⟨w22, hw22⟩ : ∃ x, x = wr := ⟨_, rfl⟩
     obtain ⟨a22, ha22⟩ : ∃ x, x = oa := ⟨_, rfl⟩
     obtain ⟨c22, hc22⟩ : ∃ x, x = oc := ⟨_, rfl⟩
     subst hw22 ha22 hc22
     have HS22 : Hid (Blk w22 w.heap.size (CV c s) 32 ∧ Ext w w22 ∧ OB w22 w.heap.size (.slice a22 F5.length c22) F5) := ⟨HR.out.1, HR.out.2.1, HR.out.2.2.1⟩
     clear HR hlt
     have d16 := CM16 HS22.out.1
     go_wp2
     clear hd hd2 HT_ d16
     refine HKlp.go _ _ ?_
     clear HKlp CM16
     go_wp2
     go_loopg [4, 8] ND (fun gm x t wr => ∃ (k : Nat) (oa : Option Addr) (on oc : Nat), k ≤ ND ∧ gm = ND - k ∧ x = .slice oa on oc ∧ t = .int .i64 (k : Int) ∧ Hid (Blk wr w.heap.size (CV c s) 32 ∧ Ext w wr ∧ OB wr w.heap.size (.slice oa on oc) (F5 ++ dupV (c.dups.take k)) ∧ on = (F5 ++ dupV (c.dups.take k)).length))
     case atStart => exact ⟨0, a22, _, c22, Nat.zero_le _, rfl, rfl, rfl, HS22.out.1, HS22.out.2.1, by rw [show F5 ++ dupV (c.dups.take 0) = F5 by simp [dupV]]; exact HS22.out.2.2, by simp [dupV]⟩
     case round =>
      obtain ⟨k, oa, on, oc, hk, rfl, rfl, rfl, HR⟩ := hrel
      by_cases hlt : k < ND
      ·
       have hd : decide ((k : Int) < (ND : Int)) = true := decide_eq_true (by omega)
       have hkL : k < c.dups.length := by rw [← HDt.out.2.1]; exact hlt
       have hkn : (k : Int) < (ND : Int) := by omega
       have hd2 : decide (k < ND) = true := decide_eq_true hlt
       obtain ⟨b, off, rfl, hc0⟩ := HDt.out.1.cellAt k (by rw [ci_len]; exact hkL)
       obtain ⟨A, hA⟩ : ∃ A : Nat, A = c.dups.getD k 0 := ⟨_, rfl⟩
       have hAc : (ci c.dups).getD k 0 = (A : Int) := by rw [hA]; simp [ci, List.getD_eq_getElem?_getD, hkL]
       have hAb : A < 4294967296 := by rw [hA]; exact HDt.out.2.2 _ (by rw [List.getD_eq_getElem?_getD, List.getElem?_eq_getElem hkL]; exact List.getElem_mem hkL)
       replace hc0 := HR.out.2.1.cell hc0
       rw [hAc] at hc0
       have HAk : Hid (dupV (c.dups.take (k + 1)) = dupV (c.dups.take k) ++ be A 4) := show _ = _ by rw [dupV_snoc hkL, ← hA]
       have HLk : Hid ((F5 ++ dupV (c.dups.take k)).length ≤ 200) := show _ ≤ _ by have h1 := dupV_len (c.dups.take k); have h2 := HL5.out.2; rw [List.length_take] at h1; rw [List.length_append]; omega
       have d17 := CM17 HR.out.1
       have w_A : IntKind.i64.wrap (A : Int) = (A : Int) := by rw [IntKind.wrap_i64]; omega
       have v_A : wrap64 (A : Int) = (A : Int) := by unfold wrap64; omega
       clear hA hkL hAc
       go_wp2_with (first
        | (have q := he28; clear q; at_builtin; refine wl_app (l := F5 ++ dupV (c.dups.take k)) (m := be A 4) (base := w.heap.size) rfl rfl rfl rfl (HR.out.2.2.1.ext he28) ho28.bytes (by have := HLk.out; rw [be_len]; omega) (Nat.le_trans HR.out.2.1.size he28.size) ?_; intro ad29 n29 cap29 w29 hn29 ho29 hk29 hg29; clear hg29)
        | (go_at_call 36; refine (refNumI_any A (by omega) 4 _).mono ?_; rintro e w28 ⟨na28, nn28, nc28, rfl, hnn28, ho28, he28⟩; rw [numBi4] at hnn28 ho28; have HN28 : Hid (nn28 = (be A 4).length) := hnn28; clear hnn28))
       go_roundg (ND - (k + 1))
       case measure => omega
       case rel =>
        have hnb : ∀ q, (Value.slice oa on oc).ownBlock = some q → w.heap.size ≤ q := fun q e => (HR.out.2.2.1.lt e).1
        refine ⟨k + 1, _, _, _, by omega, rfl, rfl, by simp, (HR.out.1.ext he28).but hk29 (fun e => ?_), (HR.out.2.1.trans he28).of_but hk29 hnb, by rw [HAk.out, ← List.append_assoc]; exact ho29, by rw [HAk.out, ← List.append_assoc]; exact hn29.out⟩
        exact HR.out.2.2.1.ne HR.out.1 (by decide) _ e rfl
      ·
       have hd : decide ((k : Int) < (ND : Int)) = false := decide_eq_false (by omega)
       have hd2 : decide (k < ND) = false := decide_eq_false hlt
       have HT_ : Hid (c.dups.take k = c.dups) := List.take_of_length_le (by rw [← HDt.out.2.1]; omega)
       rw [HT_.out] at HR
       obtain ⟨F6, hF6⟩ : ∃ F, F = F5 ++ dupV c.dups := ⟨_, rfl⟩
       rw [← hF6] at HR
       have HL6 : Hid (valB c = F6 ∧ F6.length ≤ 200) := ⟨by rw [HVB.out, hF6, HL5.out.1, HLv.out.1], by rw [hF6, List.length_append, dupV_len, ← HDt.out.2.1]; have := HL5.out.2; omega⟩
       clear hF6
       have hon := HR.out.2.2.2
       subst hon
       obtain ⟨w32, hw32⟩ : ∃ x, x = wr := ⟨_, rfl⟩
       obtain ⟨a32, ha32⟩ : ∃ x, x = oa := ⟨_, rfl⟩
       obtain ⟨c32, hc32⟩ : ∃ x, x = oc := ⟨_, rfl⟩
       subst hw32 ha32 hc32
       have HS32 : Hid (Blk w32 w.heap.size (CV c s) 32 ∧ Ext w w32 ∧ OB w32 w.heap.size (.slice a32 F6.length c32) F6) := ⟨HR.out.1, HR.out.2.1, HR.out.2.2.1⟩
       clear HR hlt
       have d17 := CM17 HS32.out.1
       go_wp2
       clear hd hd2 HT_ d17
       have HT : Hid (Blk w32 w.heap.size (CV c s) 32 ∧ Ext w w32 ∧ BytesAt w32 (.slice a32 F6.length c32) (F6) ∧ ParsAt w32 (.slice none 0 0) ([]) ∧ F6 ++ writeB ([]) = valB c ∧ (F6 : List Nat).length ≤ 600 ∧ (writeB ([])).length ≤ 700 ∧ ([] : List Par).length ≤ 20 ∧ (∀ p ∈ ([] : List Par), goodP p = true) ∧ flagN c.pb c.pe c.pu = 0) := ⟨by exact HS32.out.1, by exact HS32.out.2.1, by exact HS32.out.2.2.bytes, by exact (OwnQ.nil 85 w w32).pars (HS32.out.2.1), by rw [HL6.out.1, writeB_nil, List.append_nil], by have := HL6.out.2; omega, by rw [writeB_nil]; simp, by simp, by exact fun p hp => absurd hp (List.not_mem_nil), by exact HFQ.out⟩
       clear HS32 HLv HL5 HL6
       refine HKsw.go _ _ ?_
       clear HKsw
       exact tailB (FL := 0) (K := 3) (by decide) HA.out.2.2.2.1 (by decide) HA.out.2.2.2.2 HT
end Tlv
end Go.Proofs.Ytbahelhohkhkmaa
