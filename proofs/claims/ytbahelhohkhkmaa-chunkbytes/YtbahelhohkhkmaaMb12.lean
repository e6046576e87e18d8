/- Texts of the seat, one behind the other. No condition of its own. -/
import Derived.Test.YtbahelhohkhkmaaMb11
set_option linter.unusedVariables false
set_option linter.unusedSimpArgs false
/- The document's good chunks are the code's. No condition of its own. -/
namespace Go.Proofs.Ytbahelhohkhkmaa
namespace Tlv
open Go Go.RowKit
set_option maxRecDepth 100000
theorem gapNo_iff (c : Ck) (k : Nat) : gapNo c k = false ↔ (1 ≤ (c.gaps.getD k (0, 0)).1 ∧ (c.gaps.getD k (0, 0)).2 ≤ 65535 ∧ (c.gaps.getD k (0, 0)).1 ≤ (c.gaps.getD k (0, 0)).2 ∧ pvG (-1) c.gaps k + 2 ≤ (c.gaps.getD k (0, 0)).1) := by
 unfold gapNo gapB
 simp only [Bool.or_eq_false_iff, Bool.and_eq_false_iff, decide_eq_false_iff_not]
 by_cases hk : k = 0
 ·
  subst hk; simp only [pvG, if_true]; omega
 ·
  simp only [pvG, if_neg hk]; omega
theorem gaps_iff (c : Ck) : gapsB (-1) c.gaps = true ↔ ∀ k, k < c.gaps.length → gapNo c k = false := by
 rw [gapsB_iff _ _ (by omega)]
 exact ⟨fun h k hk => (gapNo_iff c k).2 (h k hk), fun h k hk => (gapNo_iff c k).1 (h k hk)⟩
theorem all_iff {α : Type} (f : α → Bool) (d : α) (L : List α) : L.all f = true ↔ ∀ k, k < L.length → f (L.getD k d) = true := by
 rw [List.all_eq_true]
 constructor
 ·
  intro h k hk
  rw [List.getD_eq_getElem?_getD, List.getElem?_eq_getElem hk]
  exact h _ (List.getElem_mem hk)
 ·
  intro h x hx
  obtain ⟨k, hk, rfl⟩ := List.getElem_of_mem hx
  have := h k hk
  rwa [List.getD_eq_getElem?_getD, List.getElem?_eq_getElem hk] at this
theorem refOpNo_iff (c : Ck) (k : Nat) : refOpNo c k = false ↔ opB (c.ops.getD k (0, 0)) = true := by
 unfold refOpNo refOpB opB opK
 generalize c.ops.getD k (0, 0) = p
 obtain ⟨x, y⟩ := p
 simp only
 cases hy : adB y
 ·
  simp
 ·
  by_cases h1 : x = 1
  ·
   simp [h1]
  ·
   by_cases h2 : x = 2
   ·
    simp [h2]
   ·
    by_cases h4 : x = 4 <;> simp [h1, h2, h4]
theorem ops_iff (c : Ck) : opsB c.ops = true ↔ ∀ k, k < c.ops.length → refOpNo c k = false := by
 unfold opsB
 rw [all_iff opB (0, 0)]
 exact ⟨fun h k hk => (refOpNo_iff c k).2 (h k hk), fun h k hk => (refOpNo_iff c k).1 (h k hk)⟩
theorem swB_iff (c : Ck) (s : Sv) (n : Nat) (hn : s.iN = n) : swB c s = false ↔ ((c.kind = 2 ∨ c.kind = 4 ∨ c.kind = 5 ∨ c.kind = 10) → 1 ≤ n ∧ n ≤ 300) ∧ (c.kind = 15 → n = 32) ∧ (¬ (c.kind = 2 ∨ c.kind = 4 ∨ c.kind = 5 ∨ c.kind = 10) → c.kind ≠ 15 → n = 0) := by
 subst hn
 by_cases h : c.kind = 2 ∨ c.kind = 4 ∨ c.kind = 5 ∨ c.kind = 10
 ·
  have h15 : c.kind ≠ 15 := by omega
  by_cases h1 : s.iN < 1
  ·
   rw [sw_lo h h1]; simp only [Bool.true_eq_false, false_iff]; omega
  ·
   by_cases h2 : s.iN > 300
   ·
    rw [sw_hi h h2]; simp only [Bool.true_eq_false, false_iff]; omega
   ·
    rw [sw_ok h h1 h2]; simp only [true_iff]; omega
 ·
  by_cases h15 : c.kind = 15
  ·
   by_cases h1 : s.iN = 32
   ·
    rw [sw_15ok h15 h1]; simp only [true_iff]; omega
   ·
    rw [sw_15 h15 h1]; simp only [Bool.true_eq_false, false_iff]; omega
  ·
   by_cases h1 : s.iN > 0
   ·
    rw [sw_o (by omega) (by omega) (by omega) (by omega) h15 h1]; simp only [Bool.true_eq_false, false_iff]; omega
   ·
    rw [sw_ook (by omega) (by omega) (by omega) (by omega) h15 h1]; simp only [true_iff]; omega
theorem wrap_small {g d : Nat} (h1 : g ≤ 16) (h2 : d ≤ 16) : IntKind.i64.wrap ((g : Int) + (d : Int)) = (g : Int) + (d : Int) := by
 rw [IntKind.wrap_i64]; omega
theorem noG_yes {w : World} {c : Ck} {s : Sv} (ha : CkAt w s c) (hn : ¬ NoG c s) : Yes c := by
 have lt := (bytes_len ha.t).1
 have lr := (bytes_len ha.r).1
 have la := (nums_len ha.a).1
 have li := (bytes_len ha.i).1
 have lg := ha.g.len.1
 have ld : s.dN = c.dups.length := by have := (nums_len ha.d).1; rwa [ci_len] at this
 have lo := ha.o.len.1
 have h3 : ¬ _ := fun h => hn (.gd3 h)
 have h5 : ¬ _ := fun h => hn (.gd5 h)
 have h7 : ¬ _ := fun h => hn (.gd7 h)
 have h9 : ¬ _ := fun h => hn (.gd9 h)
 have h16 : ¬ _ := fun h => hn (.gd16 h)
 have h30 : ¬ _ := fun h => hn (.gd30 h)
 have h37 : ¬ _ := fun h => hn (.gd37 h)
 have hsw := (swB_iff c s _ li).1 (by cases h : swB c s with | true => exact absurd (.sw h) hn | false => rfl)
 have hads : adsB c.addrs = true := (all_iff adB 0 _).2 fun k hk => by
  cases h : adB (c.addrs.getD k 0) with
  | true => rfl
  | false => exact absurd (.addrs k hk h) hn
 have hgp : gapsB (-1) c.gaps = true := (gaps_iff c).2 fun k hk => by
  cases h : gapNo c k with
  | true => exact absurd (.gaps k hk h) hn
  | false => rfl
 have hop : opsB c.ops = true := (ops_iff c).2 fun k hk => by
  cases h : refOpNo c k with
  | true => exact absurd (.ops k hk h) hn
  | false => rfl
 clear hn
 simp only [gd3_0, gd3_1, gd3_2, gd3_3, gd5_0, gd5_1, gd5_2, gd5_3, gd7_0, gd7_1, gd7_2, gd7_3, gd7_4, gd7_5, gd7_6, gd7_7, gd7_8, gd9_0, gd9_1, gd9_2, gd9_3, gd9_4, gd16_0, gd16_1, gd16_2, gd16_3, gd16_4, gd16_5, gd16_6, gd16_7, gd16_8, gd30_0, gd30_1, gd30_2, gd37_0, gd37_1, gd37_2, gd37_3, gd37_4, gd37_5, gd37_6, gd37_7, gd37_8] at h3 h5 h7 h9 h16 h30 h37
 rw [lt] at h5
 rw [lr, la] at h7 h9
 rw [lg, ld] at h30
 rw [lo] at h37
 unfold blankB at h5
 rw [lt] at h5
 clear lt lr la li lg ld lo ha
 simp only [Bool.or_eq_true, Bool.and_eq_true, Bool.not_eq_true', Bool.and_eq_false_iff, Bool.or_eq_false_iff, decide_eq_true_eq, decide_eq_false_iff_not, beq_iff_eq, bne_iff_ne, beq_eq_false_iff_ne, ne_eq, not_or, not_and, Bool.not_eq_false, Bool.not_eq_true, Decidable.not_not] at h3 h5 h7 h9 h16 h30 h37
 obtain ⟨⟨⟨⟨k1, k2⟩, k3⟩, k4⟩, k5⟩ := h3
 refine ⟨k1, by omega, by omega, fun hk => ?_, fun hk => ?_, fun hk => ?_, fun hk => ?_, hads, ?_, ?_, ?_, hsw.1, hsw.2.1, hsw.2.2, fun hk => ?_, by omega, hgp, fun hk => ?_, fun hk => ?_, ?_, ?_, hop⟩
 ·
  have := h5.1 hk; omega
 ·
  have := h5.2 hk
  obtain ⟨⟨⟨⟨⟨⟨a1, a2⟩, a3⟩, a4⟩, a5⟩, a6⟩, a7⟩ := this
  exact ⟨by omega, by omega, by omega, a4, a5, a6, by omega⟩
 ·
  have := h7 hk; omega
 ·
  have := h9 (by omega); omega
 ·
  intro h; have := h16.1.1; omega
 ·
  intro h; have := h16.1.2; omega
 ·
  intro h; have := h16.2; omega
 ·
  have h1 := h30.1.1 hk
  rw [wrap_small (by omega) (by omega)] at h1
  omega
 ·
  have := h37.1.1.1 hk; omega
 ·
  have := h37.1.1.2 hk; omega
 ·
  intro h; have := h37.1.2; omega
 ·
  exact fun h => h37.2 h
theorem yes_noG {w : World} {c : Ck} {s : Sv} (ha : CkAt w s c) (y : Yes c) : ¬ NoG c s := by
 have lt := (bytes_len ha.t).1
 have lr := (bytes_len ha.r).1
 have la := (nums_len ha.a).1
 have li := (bytes_len ha.i).1
 have lg := ha.g.len.1
 have ld : s.dN = c.dups.length := by have := (nums_len ha.d).1; rwa [ci_len] at this
 have lo := ha.o.len.1
 intro hn
 obtain ⟨y1, y2, y3, y4, y5, y6, y7, y8, y9, y10, y11, y12, y13, y14, y15, y16, y17, y18, y19, y20, y21, y22⟩ := y
 cases hn with
 | gd3 h =>
  simp only [gd3_0, gd3_1, gd3_2, gd3_3, gd5_0, gd5_1, gd5_2, gd5_3, gd7_0, gd7_1, gd7_2, gd7_3, gd7_4, gd7_5, gd7_6, gd7_7, gd7_8, gd9_0, gd9_1, gd9_2, gd9_3, gd9_4, gd16_0, gd16_1, gd16_2, gd16_3, gd16_4, gd16_5, gd16_6, gd16_7, gd16_8, gd30_0, gd30_1, gd30_2, gd37_0, gd37_1, gd37_2, gd37_3, gd37_4, gd37_5, gd37_6, gd37_7, gd37_8] at h
  simp only [Bool.or_eq_true, Bool.not_eq_true', decide_eq_true_eq, y1, Bool.true_eq_false, false_or] at h
  omega
 | gd5 h =>
  simp only [gd3_0, gd3_1, gd3_2, gd3_3, gd5_0, gd5_1, gd5_2, gd5_3, gd7_0, gd7_1, gd7_2, gd7_3, gd7_4, gd7_5, gd7_6, gd7_7, gd7_8, gd9_0, gd9_1, gd9_2, gd9_3, gd9_4, gd16_0, gd16_1, gd16_2, gd16_3, gd16_4, gd16_5, gd16_6, gd16_7, gd16_8, gd30_0, gd30_1, gd30_2, gd37_0, gd37_1, gd37_2, gd37_3, gd37_4, gd37_5, gd37_6, gd37_7, gd37_8] at h
  unfold blankB at h
  rw [lt] at h
  by_cases hk : c.kind = 0
  ·
   have := y4 hk
   simp [hk] at h
   omega
  ·
   obtain ⟨a1, a2, a3, a4, a5, a6, a7⟩ := y5 hk
   simp [hk, a1, a2, a3, a4, a5, a6, a7] at h
 | gd7 h =>
  simp only [gd3_0, gd3_1, gd3_2, gd3_3, gd5_0, gd5_1, gd5_2, gd5_3, gd7_0, gd7_1, gd7_2, gd7_3, gd7_4, gd7_5, gd7_6, gd7_7, gd7_8, gd9_0, gd9_1, gd9_2, gd9_3, gd9_4, gd16_0, gd16_1, gd16_2, gd16_3, gd16_4, gd16_5, gd16_6, gd16_7, gd16_8, gd30_0, gd30_1, gd30_2, gd37_0, gd37_1, gd37_2, gd37_3, gd37_4, gd37_5, gd37_6, gd37_7, gd37_8] at h
  rw [lr, la] at h
  simp only [Bool.or_eq_true, Bool.and_eq_true, decide_eq_true_eq, beq_iff_eq] at h
  have := y6 h.1
  omega
 | gd9 h =>
  simp only [gd3_0, gd3_1, gd3_2, gd3_3, gd5_0, gd5_1, gd5_2, gd5_3, gd7_0, gd7_1, gd7_2, gd7_3, gd7_4, gd7_5, gd7_6, gd7_7, gd7_8, gd9_0, gd9_1, gd9_2, gd9_3, gd9_4, gd16_0, gd16_1, gd16_2, gd16_3, gd16_4, gd16_5, gd16_6, gd16_7, gd16_8, gd30_0, gd30_1, gd30_2, gd37_0, gd37_1, gd37_2, gd37_3, gd37_4, gd37_5, gd37_6, gd37_7, gd37_8] at h
  rw [lr, la] at h
  simp only [Bool.or_eq_true, Bool.and_eq_true, Bool.not_eq_true', Bool.or_eq_false_iff, decide_eq_true_eq, beq_eq_false_iff_ne, bne_iff_ne] at h
  have := y7 (by omega)
  omega
 | gd16 h =>
  simp only [gd3_0, gd3_1, gd3_2, gd3_3, gd5_0, gd5_1, gd5_2, gd5_3, gd7_0, gd7_1, gd7_2, gd7_3, gd7_4, gd7_5, gd7_6, gd7_7, gd7_8, gd9_0, gd9_1, gd9_2, gd9_3, gd9_4, gd16_0, gd16_1, gd16_2, gd16_3, gd16_4, gd16_5, gd16_6, gd16_7, gd16_8, gd30_0, gd30_1, gd30_2, gd37_0, gd37_1, gd37_2, gd37_3, gd37_4, gd37_5, gd37_6, gd37_7, gd37_8] at h
  simp only [Bool.or_eq_true, Bool.and_eq_true, Bool.not_eq_true', Bool.or_eq_false_iff, decide_eq_true_eq, beq_eq_false_iff_ne, bne_iff_ne] at h
  omega
 | gd30 h =>
  simp only [gd3_0, gd3_1, gd3_2, gd3_3, gd5_0, gd5_1, gd5_2, gd5_3, gd7_0, gd7_1, gd7_2, gd7_3, gd7_4, gd7_5, gd7_6, gd7_7, gd7_8, gd9_0, gd9_1, gd9_2, gd9_3, gd9_4, gd16_0, gd16_1, gd16_2, gd16_3, gd16_4, gd16_5, gd16_6, gd16_7, gd16_8, gd30_0, gd30_1, gd30_2, gd37_0, gd37_1, gd37_2, gd37_3, gd37_4, gd37_5, gd37_6, gd37_7, gd37_8] at h
  rw [lg, ld, wrap_small y16.1 y16.2] at h
  simp only [Bool.or_eq_true, Bool.and_eq_true, decide_eq_true_eq, bne_iff_ne] at h
  omega
 | gd37 h =>
  simp only [gd3_0, gd3_1, gd3_2, gd3_3, gd5_0, gd5_1, gd5_2, gd5_3, gd7_0, gd7_1, gd7_2, gd7_3, gd7_4, gd7_5, gd7_6, gd7_7, gd7_8, gd9_0, gd9_1, gd9_2, gd9_3, gd9_4, gd16_0, gd16_1, gd16_2, gd16_3, gd16_4, gd16_5, gd16_6, gd16_7, gd16_8, gd30_0, gd30_1, gd30_2, gd37_0, gd37_1, gd37_2, gd37_3, gd37_4, gd37_5, gd37_6, gd37_7, gd37_8] at h
  rw [lo] at h
  simp only [Bool.or_eq_true, Bool.and_eq_true, decide_eq_true_eq, beq_iff_eq, bne_iff_ne] at h
  rcases h with (h | h) | h
  ·
   omega
  ·
   omega
  ·
   exact h.2 (y21 h.1)
 | addrs k hk h => rw [(all_iff adB 0 _).1 y8 k hk] at h; cases h
 | sw h => rw [(swB_iff c s _ li).2 ⟨y12, y13, y14⟩] at h; cases h
 | gaps k hk h => rw [(gaps_iff c).1 y17 k hk] at h; cases h
 | ops k hk h => rw [(ops_iff c).1 y22 k hk] at h; cases h
theorem refGoodC {w : World} {c : Ck} {s : Sv} (ha : CkAt w s c) :
  Calls Try.prog 11 #[.agg (CV c s)] w fun e w' => e = .returned (.bool (goodB c)) ∧ Ext w w' := by
 refine (refGood_any ha).mono ?_
 rintro e w' ⟨h, he⟩
 refine ⟨?_, he⟩
 rcases h with ⟨hn, rfl⟩ | ⟨hn, rfl⟩
 ·
  have : goodB c = false := by
   cases h : goodB c with
   | false => rfl
   | true => exact absurd hn (yes_noG ha ((yes_iff c).2 ((goodB_iff c).1 h)))
  rw [this]
 ·
  rw [(goodB_iff c).2 ((yes_iff c).1 (noG_yes ha hn))]
set_option maxRecDepth 100000
theorem ckNil (w : World) (k : Int) : CkAt w sv0 (ck0 k) := (OwnC.nil w 0 k).at
theorem fit11 : Fit (ck0 11) := fit0 (k := 11) (by decide)
theorem good11 : goodB (ck0 11) = true := by decide
theorem exB11 : bytesB (ck0 11) = [11, 0, 0, 4] := by decide
theorem exS11 : strOf [11, 0, 0, 4] = ⟨#[11, 0, 0, 4]⟩ := by decide
theorem hdK11 : hdK [11, 0, 0, 4] = 11 := by decide
theorem bytes_lit (w : World) (l : List Nat) (n c : Nat) (hn : n = w.heap.size) (hl : c = l.length) (h1 : AllB l) (hm : l.length ≤ 1000) (C : Array Value) (hC : C = (cellsB l).toArray) : BytesAt (w.alloc (.cells C 5)) (.slice (some ⟨n, 0, none⟩) c c) l := by
 subst hl
 exact (OwnB.made (w := w) (base := 0) (e := 5) C l hn (Nat.zero_le _) rfl (by unfold maxLen; omega) h1 hC).bytes
set_option maxHeartbeats 4000000 in
theorem alive_any (w : World) : Calls Try.prog 7 #[] w fun e w' => e = .returned (.bool true) ∧ Ext w w' := by
 go_enter Try.func7, Try.ntmps7
 go_wp2_with (first
  | (go_at_call 10; refine (bytesC_any (c := ck0 11) (s := sv0) (ckNil _ _) fit11).mono ?_; rintro e w1 ⟨he1, ⟨hgf, rfl⟩ | ⟨hgt, az, nz, cz, rfl, hnz, hoz0⟩⟩
     · exact absurd (hgf.symm.trans good11) (by decide)
     have hoz : OB w1 w.heap.size (.slice az nz cz) [11, 0, 0, 4] := by rw [← exB11]; exact hoz0
     clear hnz hoz0)
  | (go_at_call 17; refine (readC_of (d := ck0 11) (bytes_lit w1 [11, 0, 0, 4] _ _ rfl rfl (by decide) (by decide) _ rfl) (by decide) (fun w0 w' q h => by rw [hdK11] at h; exact valueR_no h (by decide) (by decide) (by decide) (by decide) (by decide) (by decide) (by decide) (by decide) (by decide) (by decide) (by decide) (by decide) (by decide))).mono ?_; rintro e w2 ⟨he2, ⟨hg2, hb2, hf2, s2, rfl, hc2⟩ | ⟨hno, rfl⟩⟩
     rotate_left
     · exact absurd ⟨good11, exB11⟩ hno)
  | (refine wl_alloc rfl rfl zeroC ?_; intro w3 hb3 he3 hx; clear hx)
  | (refine wl_store (D := CV (ck0 11) s2) rfl rowC rfl rfl rfl hb3 rfl rfl (CV.one _ _) ?_; intro w4 hb4 hk4 hx; clear hx; have HE4 : Hid (Ext w w4) := ((he1.trans ((Ext.alloc _ _).trans he2)).trans he3).of_but hk4 (fun k e => by subst e; exact Nat.le_trans he1.size ((Ext.alloc _ _).trans he2).size); have c0 : w4.cell? ⟨w2.heap.size, 0, none⟩ = some (.int .i64 11) := cv0 hb4; have hs1 := run_string_bytes byteT strT w4 (.slice az nz cz) [11, 0, 0, 4] (bytes_but (hoz.bytes.ext (((Ext.alloc _ _).trans he2).trans he3)) hk4 (fun k hk e => by subst e; have h1 := (hoz.lt hk).2; have h2 := ((Ext.alloc w1 _).trans he2).size; omega)); rw [exS11] at hs1))
 go_ret
 exact ⟨rfl, HE4.out⟩
set_option maxRecDepth 100000
theorem run_append_empty {P : Program} {t e : TypeId} {k : IntKind} {by8 : Nat} (hT : NumT P t e k by8) (w : World) (base ty g : Nat) (x : Value) (m : List Int) (hg : base ≤ g) (hB : Blk w g #[] e) (hx : NumsAt k w x m) (hlen : m.length * by8 ≤ 140737488355328) (hlen2 : m.length ≤ 140737488355328) :
  ∃ ad cap w', (Builtin.append_ #[t, t] ty #[.slice (some ⟨g, 0, none⟩) 0 0, x]).run P w = .ok (.slice ad m.length cap) w' ∧ OwnN k w' base e (.slice ad m.length cap) m ∧ Ext w w' := by
 obtain ⟨i, hi, hz, hs, hby⟩ := hT.ex
 have hown : w.ownsRow base e 1 (.slice (some ⟨g, 0, none⟩) 0 0) 0 [] := ⟨rfl, .inr ⟨g, 0, #[], rfl, hg, hB, by simp, by simp [maxLen], rfl, rfl⟩⟩
 obtain ⟨hm, ⟨rfl, rfl⟩ | ⟨ad, c, rfl, h1, h2, hc⟩⟩ := hx
 ·
  exact ⟨_, 0, w, run_append_owned_none w base t ty e i 1 hT.ut hi _ _ _ hown, ⟨by simpa using hown, by simp [maxLen]⟩, Ext.refl _⟩
 ·
  cases m with
  | nil =>
   have hr := run_append_room_cells (P := P) (w := w) t ty e i hT.ut hi g 0 0 0 ad 0 c [] (by simp) (by simp) (by simp) (by simp) (by simp) (by simp)
   exact ⟨_, 0, w, hr, ⟨by simpa using hown, by simp [maxLen]⟩, Ext.refl _⟩
  | cons y m =>
   obtain ⟨v', w', hr, h3, h4⟩ := run_append_arg_grows (P := P) (w := w) t ty e i (.int k 0) 1 by8 hT.ut hi hz hs hby rfl (by omega) ⟨g, 0, none⟩ 0 0 [] rfl (by simp) ad (m.length + 1) c ((y :: m).map (Value.int k)) (by simp)
    (fun j u hu => by
     rw [List.getElem?_map] at hu
     obtain ⟨z, hz', rfl⟩ := Option.map_eq_some_iff.1 hu
     have hj : j < (y :: m).length := (List.getElem?_eq_some_iff.1 hz').1
     rw [hc j hj]
     simp [List.getD_eq_getElem?_getD, hz']) (by omega) (by simp only [List.length_cons] at hlen2; unfold maxLen; omega) (by simpa using hlen)
   have hO : OwnN k w' base e v' (y :: m) := OwnN.base (base := w.heap.size) ⟨by simpa using h3, hm⟩ (Nat.le_trans hg (Nat.le_of_lt hB.lt))
   obtain ⟨a', c', rfl, _⟩ := hO.slice
   exact ⟨a', c', w', hr, hO, Ext.of_grown h4⟩
theorem give_append {P : Program} {t e : TypeId} {k : IntKind} {by8 : Nat} (hT : NumT P t e k by8) {w : World} {r : Operand → Value} {o : Oper} {K : Value → World → Prop} {s x : Operand} (ho : o.op = .call { callee := .builtin .append, args := #[s, x], argTypes := #[t, t] })
  {base g : Nat} {u : Value} {m : List Int} (hs : r s = .slice (some ⟨g, 0, none⟩) 0 0) (hxx : r x = u) (hg : base ≤ g) (hB : Blk w g #[] e) (hx : NumsAt k w u m) (h8 : by8 ≤ 8) (hlen : m.length ≤ 1000000)
  (h : ∀ ad cap w', OwnN k w' base e (.slice ad m.length cap) m → Ext w w' → K (.slice ad m.length cap) w') : give P K ((execOp r o).run P w) := by
 obtain ⟨ad, cap, w', hr, h1, h2⟩ := run_append_empty hT w base o.type g u m hg hB hx (by have := Nat.mul_le_mul_left m.length h8; omega) (by omega)
 refine gvo (v := .slice ad m.length cap) (w' := w') ?_ (h ad cap w' h1 h2)
 simp only [execOp, ho, resolve, invoke, builtin, Sem.run_bind, Sem.run_pure, Result.andThen_ok, List.map_toArray, List.map_cons, List.map_nil, hs, hxx, hr]
theorem give_empty {P : Program} {w : World} {r : Operand → Value} {o : Oper} {K : Value → World → Prop} {t e : TypeId} (ho : o.op = .buildSlice t 0 #[]) {k : IntKind} {by8 : Nat} (hT : NumT P t e k by8)
  (h : K (.slice (some ⟨w.heap.size, 0, none⟩) 0 0) (w.alloc (.cells #[] e))) : give P K ((execOp r o).run P w) := by
 obtain ⟨i, hi, hz, hs, hby⟩ := hT.ex
 refine gvo (v := .slice (some ⟨w.heap.size, 0, none⟩) 0 0) (w' := w.alloc (.cells #[] e)) ?_ h
 simp [execOp, ho, go_sem, run_underlying hT.ut, hi, hz, hs, sizeOf, typeInfo]
/-- What holds while the region goes. -/
structure TwoA (w0 ws : World) (G T : Nat) (C0 : Array Value) (j1 j2 : Nat) (k1 k2 : IntKind) (e1 e2 : TypeId) (L1 L2 : List Int) (p1 s1 p2 s2 q1 q2 : Value) (L : Nat → Bool) (vs : Nat → Value) (wx : World) : Prop where
 ext : Ext w0 wx
 keep : KeepBut (· = G) ws wx
 blk : ∃ C, Blk wx G C T ∧ C.size = C0.size ∧ (∀ j, j ≠ j1 → j ≠ j2 → C[j]? = C0[j]?) ∧ (L 9 = true → C[j1]? = some (vs 3)) ∧ (L 11 = true → C[j2]? = some (vs 7))
 a0 : L 0 = true → ∃ g, vs 0 = .slice (some ⟨g, 0, none⟩) 0 0 ∧ w0.heap.size ≤ g ∧ Blk wx g #[] e1
 a1 : L 1 = true → vs 1 = p1
 a2 : L 2 = true → vs 2 = s1
 a3 : L 3 = true → (∃ ad cap, vs 3 = .slice ad L1.length cap) ∧ OwnN k1 wx w0.heap.size e1 (vs 3) L1
 a4 : L 4 = true → ∃ g, vs 4 = .slice (some ⟨g, 0, none⟩) 0 0 ∧ w0.heap.size ≤ g ∧ Blk wx g #[] e2
 a5 : L 5 = true → vs 5 = p2
 a6 : L 6 = true → vs 6 = s2
 a7 : L 7 = true → (∃ ad cap, vs 7 = .slice ad L2.length cap) ∧ OwnN k2 wx w0.heap.size e2 (vs 7) L2
 a8 : L 8 = true → vs 8 = q1
 aA : L 10 = true → vs 10 = q2
 i9 : L 9 = true → L 3 = true
 iB : L 11 = true → L 7 = true
section
variable {w0 ws wx : World} {G T j1 j2 : Nat} {C0 : Array Value} {k1 k2 : IntKind} {e1 e2 : TypeId} {L1 L2 : List Int} {p1 s1 p2 s2 q1 q2 : Value} {L : Nat → Bool} {vs : Nat → Value}
theorem TwoA.start (he : Ext w0 wx) (hb : Blk wx G C0 T) : TwoA w0 wx G T C0 j1 j2 k1 k2 e1 e2 L1 L2 p1 s1 p2 s2 q1 q2 (fun i => decide (12 ≤ i)) vs wx :=
 ⟨he, KeepBut.refl _ _, ⟨C0, hb, rfl, fun _ _ _ => rfl, fun h => by simp at h, fun h => by simp at h⟩, fun h => by simp at h, fun h => by simp at h, fun h => by simp at h, fun h => by simp at h, fun h => by simp at h, fun h => by simp at h, fun h => by simp at h, fun h => by simp at h, fun h => by simp at h, fun h => by simp at h, fun h => by simp at h, fun h => by simp at h⟩
/-- All in a grown world. -/
theorem TwoA.grow (H : TwoA w0 ws G T C0 j1 j2 k1 k2 e1 e2 L1 L2 p1 s1 p2 s2 q1 q2 L vs wx) {w' : World} (he : Ext wx w') : TwoA w0 ws G T C0 j1 j2 k1 k2 e1 e2 L1 L2 p1 s1 p2 s2 q1 q2 L vs w' := by
 obtain ⟨C, hb, h2⟩ := H.blk
 exact ⟨H.ext.trans he, H.keep.trans (KeepBut.ext he), ⟨C, hb.ext he, h2⟩, fun h => by obtain ⟨g, a, b, c⟩ := H.a0 h; exact ⟨g, a, b, c.ext he⟩, H.a1, H.a2, fun h => ⟨(H.a3 h).1, (H.a3 h).2.ext he⟩, fun h => by obtain ⟨g, a, b, c⟩ := H.a4 h; exact ⟨g, a, b, c.ext he⟩, H.a5, H.a6, fun h => ⟨(H.a7 h).1, (H.a7 h).2.ext he⟩, H.a8, H.aA, H.i9, H.iB⟩
theorem TwoA.op1 (H : TwoA w0 ws G T C0 j1 j2 k1 k2 e1 e2 L1 L2 p1 s1 p2 s2 q1 q2 L vs wx) : TwoA w0 ws G T C0 j1 j2 k1 k2 e1 e2 L1 L2 p1 s1 p2 s2 q1 q2 (met1 L 1) (updV vs 1 p1) wx := ⟨H.ext, H.keep, H.blk, H.a0, fun _ => rfl, H.a2, H.a3, H.a4, H.a5, H.a6, H.a7, H.a8, H.aA, H.i9, H.iB⟩
theorem TwoA.op2 (H : TwoA w0 ws G T C0 j1 j2 k1 k2 e1 e2 L1 L2 p1 s1 p2 s2 q1 q2 L vs wx) : TwoA w0 ws G T C0 j1 j2 k1 k2 e1 e2 L1 L2 p1 s1 p2 s2 q1 q2 (met1 L 2) (updV vs 2 s1) wx := ⟨H.ext, H.keep, H.blk, H.a0, H.a1, fun _ => rfl, H.a3, H.a4, H.a5, H.a6, H.a7, H.a8, H.aA, H.i9, H.iB⟩
theorem TwoA.op5 (H : TwoA w0 ws G T C0 j1 j2 k1 k2 e1 e2 L1 L2 p1 s1 p2 s2 q1 q2 L vs wx) : TwoA w0 ws G T C0 j1 j2 k1 k2 e1 e2 L1 L2 p1 s1 p2 s2 q1 q2 (met1 L 5) (updV vs 5 p2) wx := ⟨H.ext, H.keep, H.blk, H.a0, H.a1, H.a2, H.a3, H.a4, fun _ => rfl, H.a6, H.a7, H.a8, H.aA, H.i9, H.iB⟩
theorem TwoA.op6 (H : TwoA w0 ws G T C0 j1 j2 k1 k2 e1 e2 L1 L2 p1 s1 p2 s2 q1 q2 L vs wx) : TwoA w0 ws G T C0 j1 j2 k1 k2 e1 e2 L1 L2 p1 s1 p2 s2 q1 q2 (met1 L 6) (updV vs 6 s2) wx := ⟨H.ext, H.keep, H.blk, H.a0, H.a1, H.a2, H.a3, H.a4, H.a5, fun _ => rfl, H.a7, H.a8, H.aA, H.i9, H.iB⟩
theorem TwoA.op8 (H : TwoA w0 ws G T C0 j1 j2 k1 k2 e1 e2 L1 L2 p1 s1 p2 s2 q1 q2 L vs wx) : TwoA w0 ws G T C0 j1 j2 k1 k2 e1 e2 L1 L2 p1 s1 p2 s2 q1 q2 (met1 L 8) (updV vs 8 q1) wx := ⟨H.ext, H.keep, H.blk, H.a0, H.a1, H.a2, H.a3, H.a4, H.a5, H.a6, H.a7, fun _ => rfl, H.aA, H.i9, H.iB⟩
theorem TwoA.op10 (H : TwoA w0 ws G T C0 j1 j2 k1 k2 e1 e2 L1 L2 p1 s1 p2 s2 q1 q2 L vs wx) : TwoA w0 ws G T C0 j1 j2 k1 k2 e1 e2 L1 L2 p1 s1 p2 s2 q1 q2 (met1 L 10) (updV vs 10 q2) wx := ⟨H.ext, H.keep, H.blk, H.a0, H.a1, H.a2, H.a3, H.a4, H.a5, H.a6, H.a7, H.a8, fun _ => rfl, H.i9, H.iB⟩
theorem TwoA.op0 (H0 : TwoA w0 ws G T C0 j1 j2 k1 k2 e1 e2 L1 L2 p1 s1 p2 s2 q1 q2 L vs wx) : TwoA w0 ws G T C0 j1 j2 k1 k2 e1 e2 L1 L2 p1 s1 p2 s2 q1 q2 (met1 L 0) (updV vs 0 (.slice (some ⟨wx.heap.size, 0, none⟩) 0 0)) (wx.alloc (.cells #[] e1)) := by
 have H := H0.grow (Ext.alloc wx (.cells #[] e1))
 exact ⟨H.ext, H.keep, H.blk, fun _ => ⟨wx.heap.size, rfl, H0.ext.size, Blk.new _ _ _⟩, H.a1, H.a2, H.a3, H.a4, H.a5, H.a6, H.a7, H.a8, H.aA, H.i9, H.iB⟩
theorem TwoA.op4 (H0 : TwoA w0 ws G T C0 j1 j2 k1 k2 e1 e2 L1 L2 p1 s1 p2 s2 q1 q2 L vs wx) : TwoA w0 ws G T C0 j1 j2 k1 k2 e1 e2 L1 L2 p1 s1 p2 s2 q1 q2 (met1 L 4) (updV vs 4 (.slice (some ⟨wx.heap.size, 0, none⟩) 0 0)) (wx.alloc (.cells #[] e2)) := by
 have H := H0.grow (Ext.alloc wx (.cells #[] e2))
 exact ⟨H.ext, H.keep, H.blk, H.a0, H.a1, H.a2, H.a3, fun _ => ⟨wx.heap.size, rfl, H0.ext.size, Blk.new _ _ _⟩, H.a5, H.a6, H.a7, H.a8, H.aA, H.i9, H.iB⟩
theorem TwoA.op3 (H0 : TwoA w0 ws G T C0 j1 j2 k1 k2 e1 e2 L1 L2 p1 s1 p2 s2 q1 q2 L vs wx) (hl : L 3 = false) {w' : World} {ad : Option Addr} {cap : Nat} (ho : OwnN k1 w' w0.heap.size e1 (.slice ad L1.length cap) L1) (he : Ext wx w') : TwoA w0 ws G T C0 j1 j2 k1 k2 e1 e2 L1 L2 p1 s1 p2 s2 q1 q2 (met1 L 3) (updV vs 3 (.slice ad L1.length cap)) w' := by
 have H := H0.grow he
 have hb' : ∃ C, Blk w' G C T ∧ C.size = C0.size ∧ (∀ j, j ≠ j1 → j ≠ j2 → C[j]? = C0[j]?) ∧ (met1 L 3 9 = true → C[j1]? = some (updV vs 3 (.slice ad L1.length cap) 3)) ∧ (met1 L 3 11 = true → C[j2]? = some (updV vs 3 (.slice ad L1.length cap) 7)) := by
  obtain ⟨C, hb, h2, h3, h4, h5⟩ := H.blk
  refine ⟨C, hb, h2, h3, fun h => ?_, fun h => ?_⟩
  ·
   have := H.i9 h; rw [hl] at this; cases this
  ·
   exact h5 h
 exact ⟨H.ext, H.keep, hb', H.a0, H.a1, H.a2, fun _ => ⟨⟨ad, cap, rfl⟩, ho⟩, H.a4, H.a5, H.a6, H.a7, H.a8, H.aA, fun _ => rfl, H.iB⟩
theorem TwoA.op7 (H0 : TwoA w0 ws G T C0 j1 j2 k1 k2 e1 e2 L1 L2 p1 s1 p2 s2 q1 q2 L vs wx) (hl : L 7 = false) {w' : World} {ad : Option Addr} {cap : Nat} (ho : OwnN k2 w' w0.heap.size e2 (.slice ad L2.length cap) L2) (he : Ext wx w') : TwoA w0 ws G T C0 j1 j2 k1 k2 e1 e2 L1 L2 p1 s1 p2 s2 q1 q2 (met1 L 7) (updV vs 7 (.slice ad L2.length cap)) w' := by
 have H := H0.grow he
 have hb' : ∃ C, Blk w' G C T ∧ C.size = C0.size ∧ (∀ j, j ≠ j1 → j ≠ j2 → C[j]? = C0[j]?) ∧ (met1 L 7 9 = true → C[j1]? = some (updV vs 7 (.slice ad L2.length cap) 3)) ∧ (met1 L 7 11 = true → C[j2]? = some (updV vs 7 (.slice ad L2.length cap) 7)) := by
  obtain ⟨C, hb, h2, h3, h4, h5⟩ := H.blk
  refine ⟨C, hb, h2, h3, fun h => ?_, fun h => ?_⟩
  ·
   exact h4 h
  ·
   have := H.iB h; rw [hl] at this; cases this
 exact ⟨H.ext, H.keep, hb', H.a0, H.a1, H.a2, H.a3, H.a4, H.a5, H.a6, fun _ => ⟨⟨ad, cap, rfl⟩, ho⟩, H.a8, H.aA, H.i9, fun _ => rfl⟩
theorem TwoA.op9 (H : TwoA w0 ws G T C0 j1 j2 k1 k2 e1 e2 L1 L2 p1 s1 p2 s2 q1 q2 L vs wx) (h3 : L 3 = true) (hG : w0.heap.size ≤ G) (hj : j1 ≠ j2) (hjs : j1 < C0.size) (ht1 : T ≠ e1) (ht2 : T ≠ e2) {v : Value} (hv : v = vs 3) : TwoA w0 ws G T C0 j1 j2 k1 k2 e1 e2 L1 L2 p1 s1 p2 s2 q1 q2 (met1 L 9) (updV vs 9 undef) (wx.setCell ⟨G, j1, none⟩ v) := by
 obtain ⟨C, hb, h2, hc, hd, hd2⟩ := H.blk
 have hk : KeepBut (· = G) wx (wx.setCell ⟨G, j1, none⟩ v) := ⟨rfl, rfl, rfl, by simp, fun k _ hk => block_other hk j1 v⟩
 have hE : ∀ {g : Nat} {e : TypeId}, T ≠ e → Blk wx g #[] e → Blk (wx.setCell ⟨G, j1, none⟩ v) g #[] e := fun {g e} hte hg => hg.but hk (show ¬ g = G from fun e' => by
  subst e'
  have : some (Obj.cells C T (0, 0)) = some (.cells #[] e (0, 0)) := hb.symm.trans hg
  simp only [Option.some.injEq, Obj.cells.injEq] at this
  exact hte this.2.1)
 have hb' : ∃ C, Blk (wx.setCell ⟨G, j1, none⟩ v) G C T ∧ C.size = C0.size ∧ (∀ j, j ≠ j1 → j ≠ j2 → C[j]? = C0[j]?) ∧ (met1 L 9 9 = true → C[j1]? = some (updV vs 9 undef 3)) ∧ (met1 L 9 11 = true → C[j2]? = some (updV vs 9 undef 7)) := by
  refine ⟨_, hb.set j1 v, by simpa using h2, fun j n1 n2 => ?_, fun h => ?_, fun h => ?_⟩
  ·
   rw [Array.getElem?_setIfInBounds_ne (by first | exact fun e => n1 e.symm | exact fun e => n2 e.symm)]; exact hc j n1 n2
  ·
   rw [Array.getElem?_setIfInBounds_self_of_lt (by omega), hv]; rfl
  ·
   rw [Array.getElem?_setIfInBounds_ne hj]; exact hd2 h
 exact ⟨H.ext.of_but hk (fun k e => by subst e; exact hG), H.keep.trans hk, hb', fun h => by obtain ⟨g, a, b, c⟩ := H.a0 h; exact ⟨g, a, b, hE ht1 c⟩, H.a1, H.a2, fun h => ⟨(H.a3 h).1, (H.a3 h).2.mono_via hk (ownsRow_ne (H.a3 h).2.1 hb ht1)⟩, fun h => by obtain ⟨g, a, b, c⟩ := H.a4 h; exact ⟨g, a, b, hE ht2 c⟩, H.a5, H.a6, fun h => ⟨(H.a7 h).1, (H.a7 h).2.mono_via hk (ownsRow_ne (H.a7 h).2.1 hb ht2)⟩, H.a8, H.aA, fun _ => h3, H.iB⟩
theorem TwoA.op11 (H : TwoA w0 ws G T C0 j1 j2 k1 k2 e1 e2 L1 L2 p1 s1 p2 s2 q1 q2 L vs wx) (h3 : L 7 = true) (hG : w0.heap.size ≤ G) (hj : j1 ≠ j2) (hjs : j2 < C0.size) (ht1 : T ≠ e1) (ht2 : T ≠ e2) {v : Value} (hv : v = vs 7) : TwoA w0 ws G T C0 j1 j2 k1 k2 e1 e2 L1 L2 p1 s1 p2 s2 q1 q2 (met1 L 11) (updV vs 11 undef) (wx.setCell ⟨G, j2, none⟩ v) := by
 obtain ⟨C, hb, h2, hc, hd, hd2⟩ := H.blk
 have hk : KeepBut (· = G) wx (wx.setCell ⟨G, j2, none⟩ v) := ⟨rfl, rfl, rfl, by simp, fun k _ hk => block_other hk j2 v⟩
 have hE : ∀ {g : Nat} {e : TypeId}, T ≠ e → Blk wx g #[] e → Blk (wx.setCell ⟨G, j2, none⟩ v) g #[] e := fun {g e} hte hg => hg.but hk (show ¬ g = G from fun e' => by
  subst e'
  have : some (Obj.cells C T (0, 0)) = some (.cells #[] e (0, 0)) := hb.symm.trans hg
  simp only [Option.some.injEq, Obj.cells.injEq] at this
  exact hte this.2.1)
 have hb' : ∃ C, Blk (wx.setCell ⟨G, j2, none⟩ v) G C T ∧ C.size = C0.size ∧ (∀ j, j ≠ j1 → j ≠ j2 → C[j]? = C0[j]?) ∧ (met1 L 11 9 = true → C[j1]? = some (updV vs 11 undef 3)) ∧ (met1 L 11 11 = true → C[j2]? = some (updV vs 11 undef 7)) := by
  refine ⟨_, hb.set j2 v, by simpa using h2, fun j n1 n2 => ?_, fun h => ?_, fun h => ?_⟩
  ·
   rw [Array.getElem?_setIfInBounds_ne (by first | exact fun e => n1 e.symm | exact fun e => n2 e.symm)]; exact hc j n1 n2
  ·
   rw [Array.getElem?_setIfInBounds_ne (fun e => hj e.symm)]; exact hd h
  ·
   rw [Array.getElem?_setIfInBounds_self_of_lt (by omega), hv]; rfl
 exact ⟨H.ext.of_but hk (fun k e => by subst e; exact hG), H.keep.trans hk, hb', fun h => by obtain ⟨g, a, b, c⟩ := H.a0 h; exact ⟨g, a, b, hE ht1 c⟩, H.a1, H.a2, fun h => ⟨(H.a3 h).1, (H.a3 h).2.mono_via hk (ownsRow_ne (H.a3 h).2.1 hb ht1)⟩, fun h => by obtain ⟨g, a, b, c⟩ := H.a4 h; exact ⟨g, a, b, hE ht2 c⟩, H.a5, H.a6, fun h => ⟨(H.a7 h).1, (H.a7 h).2.mono_via hk (ownsRow_ne (H.a7 h).2.1 hb ht2)⟩, H.a8, H.aA, H.i9, fun _ => h3⟩
theorem TwoA.done (H : TwoA w0 ws G T C0 j1 j2 k1 k2 e1 e2 L1 L2 p1 s1 p2 s2 q1 q2 (fun _ => true) vs wx) (hj : j1 ≠ j2) (h1 : j1 < C0.size) (h2 : j2 < C0.size) : ∃ ad1 c1 ad2 c2, vs 3 = .slice ad1 L1.length c1 ∧ vs 7 = .slice ad2 L2.length c2 ∧ Blk wx G ((C0.setIfInBounds j1 (.slice ad1 L1.length c1)).setIfInBounds j2 (.slice ad2 L2.length c2)) T ∧ OwnN k1 wx w0.heap.size e1 (.slice ad1 L1.length c1) L1 ∧ OwnN k2 wx w0.heap.size e2 (.slice ad2 L2.length c2) L2 := by
 obtain ⟨⟨ad1, c1, v3⟩, o3⟩ := H.a3 rfl
 obtain ⟨⟨ad2, c2, v7⟩, o7⟩ := H.a7 rfl
 obtain ⟨C, hb, hs, hc, hd1, hd2⟩ := H.blk
 rw [v3] at o3
 rw [v7] at o7
 refine ⟨ad1, c1, ad2, c2, v3, v7, ?_, o3, o7⟩
 have e : C = (C0.setIfInBounds j1 (.slice ad1 L1.length c1)).setIfInBounds j2 (.slice ad2 L2.length c2) := by
  apply Array.ext_getElem?
  intro j
  by_cases hj2 : j2 = j
  ·
   subst hj2
   rw [hd2 rfl, v7, Array.getElem?_setIfInBounds_self_of_lt (by simpa using h2)]
  ·
   rw [Array.getElem?_setIfInBounds_ne hj2]
   by_cases hj1 : j1 = j
   ·
    subst hj1
    rw [hd1 rfl, v3, Array.getElem?_setIfInBounds_self_of_lt h1]
   ·
    rw [Array.getElem?_setIfInBounds_ne hj1]
    exact hc j (fun e => hj1 e.symm) (fun e => hj2 e.symm)
 rw [← e]; exact hb
end
set_option maxRecDepth 100000
theorem builtP (c : Ck) (s : Sv) : Try.prog.built 38 [(0, .int .i64 c.kind), (1, .agg (PV c s)), (2, .int .u32 (c.tag : Int)), (3, .int .i64 c.win), (4, .int .i64 c.out), (5, .int .i64 c.inn), (6, .int .u32 (c.tsn : Int)), (12, .int .i64 c.cause), (13, .int .u32 (c.serial : Int)), (15, .bool c.ok)] = some (CV c { sv0 with tA := s.tA, tN := s.tN, tC := s.tC }) := by kernel_rfl
theorem wl_appE {t e : TypeId} {k : IntKind} {by8 : Nat} (hT : NumT Try.prog t e k by8) (h8 : by8 ≤ 8) {w : World} {ops : Array Oper} {rest : List Oper} {o : Oper} {a : Act} {Q : Exit → Act → World → Prop} (hgd : o.guard = none) {s x : Operand} (ho : o.op = .call { callee := .builtin .append, args := #[s, x], argTypes := #[t, t] })
  {base g : Nat} {u : Value} {M : List Int} (hs : a.eval s = .slice (some ⟨g, 0, none⟩) 0 0) (hxx : a.eval x = u) (hg : base ≤ g) (hB : Blk w g #[] e) (hx : NumsAt k w u M) (hlen : M.length ≤ 1000000)
  (h : ∀ ad n cap w', Hid (n = M.length) → OwnN k w' base e (.slice ad n cap) M → Ext w w' → wpList Try.prog ops Q rest (a.put o.dst (.slice ad n cap)) w') : wpList Try.prog ops Q (o :: rest) a w := by
 obtain ⟨ad, cap, w', hr, h1, h2⟩ := run_append_empty hT w base o.type g u M hg hB hx (by have := Nat.mul_le_mul_left M.length h8; omega) (by omega)
 refine wpList_of_run hgd (v := .slice ad M.length cap) ?_ (h ad _ cap w' rfl h1 h2)
 simp only [execOp, ho, resolve, invoke, builtin, Sem.run_bind, Sem.run_pure, Result.andThen_ok, List.map_toArray, List.map_cons, List.map_nil, hs, hxx, hr]
theorem obN {w : World} {base : Nat} {v : Value} {l : List Nat} (h : OwnN .u8 w base 5 v (ci l)) (ha : ∀ x ∈ l, x < 256) : OB w base v l := ⟨h, ha⟩
theorem noGp2 : NoList 70 := ⟨by decide, by decide, by decide, by decide, by decide⟩
theorem noOp2 : NoList 71 := ⟨by decide, by decide, by decide, by decide, by decide⟩
/-- The five lists that are made ahead of the loops. -/
structure Own5 (w : World) (base : Nat) (s : Sv) (c : Ck) : Prop where
 t : OwnN .u8 w base 5 (.slice s.tA s.tN s.tC) (ci c.text)
 r : OwnN .u8 w base 5 (.slice s.rA s.rN s.rC) (ci c.rand)
 a : OwnN .i64 w base 65 (.slice s.aA s.aN s.aC) c.addrs
 i : OwnN .u8 w base 5 (.slice s.iA s.iN s.iC) (ci c.info)
 d : OwnN .u32 w base 22 (.slice s.dA s.dN s.dC) (ci c.dups)
theorem Own5.ext {w w' : World} {base : Nat} {s : Sv} {c : Ck} (h : Own5 w base s c) (he : Ext w w') : Own5 w' base s c := ⟨h.t.ext he, h.r.ext he, h.a.ext he, h.i.ext he, h.d.ext he⟩
theorem Own5.but {w w' : World} {base g t : Nat} {s : Sv} {c : Ck} {C : Array Value} (h : Own5 w base s c) (hk : KeepBut (· = g) w w') (hb : Blk w g C t) (ht : NoList t) : Own5 w' base s c :=
 ⟨h.t.mono_via hk (ownsRow_ne h.t.1 hb ht.1), h.r.mono_via hk (ownsRow_ne h.r.1 hb ht.1), h.a.mono_via hk (ownsRow_ne h.a.1 hb ht.2.1), h.i.mono_via hk (ownsRow_ne h.i.1 hb ht.1), h.d.mono_via hk (ownsRow_ne h.d.1 hb ht.2.2.2.1)⟩
theorem Own5.butP {w w' : World} {base base' E : Nat} {s : Sv} {c : Ck} {v : Value} {L : List (Int × Int)} (h : Own5 w base s c) (hk : KeepBut (fun k => v.ownBlock = some k) w w') (ho : OwnP E w base' v L) (h1 : 5 ≠ E) (h2 : 65 ≠ E) (h3 : 22 ≠ E) : Own5 w' base s c :=
 ⟨h.t.mono_via hk (own_apart h.t.1 ho.1 h1), h.r.mono_via hk (own_apart h.r.1 ho.1 h1), h.a.mono_via hk (own_apart h.a.1 ho.1 h2), h.i.mono_via hk (own_apart h.i.1 ho.1 h1), h.d.mono_via hk (own_apart h.d.1 ho.1 h3)⟩
/-- A chunk that holds the same, its lists in memory of the own. -/
def MadeIs (w : World) (c : Ck) (e : Ending) (w' : World) : Prop := ∃ s, e = .returned (.agg (CV c s)) ∧ OwnC w' w.heap.size s c ∧ Ext w w'
set_option maxHeartbeats 8000000 in
theorem program_any {w : World} {c : Ck} {s : Sv} (ha : CkAt w s c) (hs : Small c) :
  Calls Try.prog 9 #[.agg (CV c s)] w (MadeIs w c) := by
 have HA : Hid (CkAt w s c ∧ Small c) := ⟨ha, hs⟩
 have hgN : s.gN = c.gaps.length := (PairsAt.len ha.g).1
 have hoN : Hid (s.oN = c.ops.length) := (PairsAt.len ha.o).1
 clear ha hs
 go_enter Try.func9, Try.ntmps9
 refine wp_seq_k (fun K hK => ?_)
 have HK := Stop.mk hK
 clear hK
 go_wp2_with (first
  | (have q := hb1; clear q; refine wl_alloc rfl rfl zeroC ?_; intro w2 hb2 he2 hx; clear hx; have HQ1 : Hid (w.heap.size < w1.heap.size) := hb1.lt; replace hb1 := hb1.ext he2; have HE2 : Hid (Ext w w2) := he1.trans he2; clear he1 he2)
  | (refine wl_box (C := CV c s) rfl rfl rfl ?_; intro w1 hb1 he1 hx; clear hx))
 refine HK.go _ _ ?_
 refine wp_seq_k (fun K2 hK2 => ?_)
 have HK2 := Stop.mk hK2
 clear hK2
 refine wp_region_lit ?_
 refine wpList_of_run (v := .pointer (some ⟨w.heap.size, 0, none⟩)) (w' := w2) rfl (by first | rfl | simp [execOp, go_sem]) ?_
 simp only [Act.put, List.setIfInBounds_toArray, List.set_cons_succ, List.set_cons_zero]
 refine wpList_of_run rfl (exg one3 rfl rfl (cv0 hb1)) ?_
 simp only [Act.put, List.setIfInBounds_toArray, List.set_cons_succ, List.set_cons_zero]
 refine wpList_of_run (v := .pointer (some ⟨w.heap.size, 1, none⟩)) (w' := w2) rfl (by first | rfl | simp [execOp, go_sem]) ?_
 simp only [Act.put, List.setIfInBounds_toArray, List.set_cons_succ, List.set_cons_zero]
 refine wpList_of_run (v := .agg (PV c s)) rfl (exec_load rowPc rfl rfl hb1 (PV c s).toList (CV.piece c s) rfl) ?_
 simp only [Act.put, List.setIfInBounds_toArray, List.set_cons_succ, List.set_cons_zero]
 refine wpList_of_run (v := .pointer (some ⟨w.heap.size, 8, none⟩)) (w' := w2) rfl (by first | rfl | simp [execOp, go_sem]) ?_
 simp only [Act.put, List.setIfInBounds_toArray, List.set_cons_succ, List.set_cons_zero]
 refine wpList_of_run rfl (exg one22 rfl rfl (cv8 hb1)) ?_
 simp only [Act.put, List.setIfInBounds_toArray, List.set_cons_succ, List.set_cons_zero]
 refine wpList_of_run (v := .pointer (some ⟨w.heap.size, 9, none⟩)) (w' := w2) rfl (by first | rfl | simp [execOp, go_sem]) ?_
 simp only [Act.put, List.setIfInBounds_toArray, List.set_cons_succ, List.set_cons_zero]
 refine wpList_of_run rfl (exg one3 rfl rfl (cv9 hb1)) ?_
 simp only [Act.put, List.setIfInBounds_toArray, List.set_cons_succ, List.set_cons_zero]
 refine wpList_of_run (v := .pointer (some ⟨w.heap.size, 10, none⟩)) (w' := w2) rfl (by first | rfl | simp [execOp, go_sem]) ?_
 simp only [Act.put, List.setIfInBounds_toArray, List.set_cons_succ, List.set_cons_zero]
 refine wpList_of_run rfl (exg one3 rfl rfl (cv10 hb1)) ?_
 simp only [Act.put, List.setIfInBounds_toArray, List.set_cons_succ, List.set_cons_zero]
 refine wpList_of_run (v := .pointer (some ⟨w.heap.size, 11, none⟩)) (w' := w2) rfl (by first | rfl | simp [execOp, go_sem]) ?_
 simp only [Act.put, List.setIfInBounds_toArray, List.set_cons_succ, List.set_cons_zero]
 refine wpList_of_run rfl (exg one3 rfl rfl (cv11 hb1)) ?_
 simp only [Act.put, List.setIfInBounds_toArray, List.set_cons_succ, List.set_cons_zero]
 refine wpList_of_run (v := .pointer (some ⟨w.heap.size, 12, none⟩)) (w' := w2) rfl (by first | rfl | simp [execOp, go_sem]) ?_
 simp only [Act.put, List.setIfInBounds_toArray, List.set_cons_succ, List.set_cons_zero]
 refine wpList_of_run rfl (exg one22 rfl rfl (cv12 hb1)) ?_
 simp only [Act.put, List.setIfInBounds_toArray, List.set_cons_succ, List.set_cons_zero]
 refine wpList_of_run (v := .pointer (some ⟨w.heap.size, 18, none⟩)) (w' := w2) rfl (by first | rfl | simp [execOp, go_sem]) ?_
 simp only [Act.put, List.setIfInBounds_toArray, List.set_cons_succ, List.set_cons_zero]
 refine wpList_of_run rfl (exg one3 rfl rfl (cv18 hb1)) ?_
 simp only [Act.put, List.setIfInBounds_toArray, List.set_cons_succ, List.set_cons_zero]
 refine wpList_of_run (v := .pointer (some ⟨w.heap.size, 19, none⟩)) (w' := w2) rfl (by first | rfl | simp [execOp, go_sem]) ?_
 simp only [Act.put, List.setIfInBounds_toArray, List.set_cons_succ, List.set_cons_zero]
 refine wpList_of_run rfl (exg one22 rfl rfl (cv19 hb1)) ?_
 simp only [Act.put, List.setIfInBounds_toArray, List.set_cons_succ, List.set_cons_zero]
 refine wpList_of_run (v := .pointer (some ⟨w.heap.size, 21, none⟩)) (w' := w2) rfl (by first | rfl | simp [execOp, go_sem]) ?_
 simp only [Act.put, List.setIfInBounds_toArray, List.set_cons_succ, List.set_cons_zero]
 refine wpList_of_run rfl (exg one4 rfl rfl (cv21 hb1)) ?_
 simp only [Act.put, List.setIfInBounds_toArray, List.set_cons_succ, List.set_cons_zero]
 refine wl_buildC rfl rfl ?hv (builtP c s) ?hk
 case hv => first | kernel_rfl | (simp only [List.map_toArray, List.map_cons, List.map_nil]; rfl)
 simp only [Act.put, List.setIfInBounds_toArray, List.set_cons_succ, List.set_cons_zero]
 refine wl_alloc rfl rfl zeroC ?_
 intro w3 hb3 he3 hx
 clear hx
 have HW : Hid (w.heap.size < w2.heap.size) := hb1.lt
 have HQ2 : Hid (w1.heap.size < w2.heap.size) := hb2.lt
 have HS2 : Hid (Blk w2 w.heap.size (CV c s) 32) := hb1
 replace hb1 := hb1.ext he3
 replace hb2 := hb2.ext he3
 have HE3 : Hid (Ext w w3) := HE2.out.trans he3
 have HE23 : Hid (Ext w2 w3) := he3
 clear he3
 refine wl_store (D := CV c { sv0 with tA := s.tA, tN := s.tN, tC := s.tC }) rfl rowC rfl rfl rfl hb3 rfl rfl (CV.one _ _) ?_
 intro w4 hb4 hk4 hx4
 clear hx4
 simp only [Act.put]
 go_wp2
 refine HK2.go _ _ ?_
 have HG3 : Hid (w.heap.size ≤ w2.heap.size) := Nat.le_of_lt HW.out
 have HG2 : Hid (w1.heap.size < w2.heap.size ∧ w.heap.size < w1.heap.size) := ⟨HQ2.out, HQ1.out⟩
 have HE4 : Hid (Ext w w4) := HE3.out.of_but hk4 (fun g e => by subst e; exact HG3.out)
 have HE24 : Hid (Ext w2 w4) := HE23.out.of_but hk4 (fun g e => by subst e; exact Nat.le_refl _)
 replace hb1 := hb1.but hk4 (Nat.ne_of_lt HW.out)
 replace hb2 := hb2.but hk4 (Nat.ne_of_lt HQ2.out)
 clear hb3 hk4 HK HK2 HE3 HE23
 have c7 := cv7 (hb1.ext (Ext.alloc w4 (.cells #[] 5)))
 refine wp_seq_k (fun K3 hK3 => ?_)
 have HK3 := Stop.mk hK3
 clear hK3
 go_wp2_with (first
  | (at_builtin; refine wl_appE numT8 (by decide) rfl rfl rfl rfl (base := w2.heap.size) (Nat.le_of_lt hb4.lt) (Blk.new w4 #[] 5) (nums_of_bytes (HA.out.1.t.ext (HE4.out.trans (Ext.alloc _ _)))) (by have := HA.out.2.text; rw [ci_len]; omega) ?_; intro ta tn tc w5 hn5 ho5 he5; clear hn5 c7; replace hb1 := hb1.ext ((Ext.alloc w4 _).trans he5); replace hb2 := hb2.ext ((Ext.alloc w4 _).trans he5); have hb5 := hb4.ext ((Ext.alloc w4 _).trans he5); have HE5 : Hid (Ext w2 w5) := HE24.out.trans ((Ext.alloc w4 _).trans he5); clear hb4 he5 HE4 HE24)
  | (refine wl_set (v := .slice ta tn tc) rfl oneS rfl rfl rfl rfl rfl hb5 (of_decide_eq_true rfl) ?_; intro w6 hbx hk6 hx6; clear hx6; have hb6 : Blk w6 w2.heap.size (CV c ({ tA := ta, tN := tn, tC := tc, rA := none, rN := 0, rC := 0, aA := none, aN := 0, aC := 0, iA := none, iN := 0, iC := 0, gA := none, gN := 0, gC := 0, dA := none, dN := 0, dC := 0, oA := none, oN := 0, oC := 0 } : Sv)) 38 := hbx; replace ho5 := ho5.mono_via hk6 (ownsRow_ne ho5.1 hb5 (by decide)); replace hb1 := hb1.but hk6 (Nat.ne_of_lt HW.out); replace hb2 := hb2.but hk6 (Nat.ne_of_lt HQ2.out); have HE6 : Hid (Ext w2 w6) := HE5.out.of_but hk6 (fun g e => by subst e; exact Nat.le_refl _); clear hbx hk6 hb5 HE5))
 refine HK3.go _ _ ?_
 clear HK3
 refine wp_seq_k (fun K4 hK4 => ?_)
 have HK4 := Stop.mk hK4
 clear hK4
 refine wp_region_W (TwoA w2 w6.drew w2.heap.size 38 (CV c ({ tA := ta, tN := tn, tC := tc, rA := none, rN := 0, rC := 0, aA := none, aN := 0, aC := 0, iA := none, iN := 0, iC := 0, gA := none, gN := 0, gC := 0, dA := none, dN := 0, dC := 0, oA := none, oN := 0, oC := 0 } : Sv)) 13 15 .u8 .u8 5 5 (ci c.rand) (ci c.info) (.pointer (some ⟨w.heap.size, 13, none⟩)) (.slice s.rA s.rN s.rC) (.pointer (some ⟨w.heap.size, 15, none⟩)) (.slice s.iA s.iN s.iC) (.pointer (some ⟨w2.heap.size, 13, none⟩)) (.pointer (some ⟨w2.heap.size, 15, none⟩))) (fun t => bif Nat.ble 36 t && Nat.ble t 44 then some (t - 36) else bif Nat.beq t 45 then some 10 else none) 85 rfl (by kernel_rfl) rfl (fun vs => TwoA.start (HE6.out.trans (Ext.drew _)) (hb6.ext (Ext.drew _))) ?_ ?_
 ·
  refine Ow ⟨rfl, ?_⟩ (Ow ⟨rfl, ?_⟩ (Ow ⟨rfl, ?_⟩ (Ow ⟨rfl, ?_⟩ (Ow ⟨rfl, ?_⟩ (Ow ⟨rfl, ?_⟩ (Ow ⟨rfl, ?_⟩ (Ow ⟨rfl, ?_⟩ (Ow ⟨rfl, ?_⟩ (Ow ⟨rfl, ?_⟩ (Ow ⟨rfl, ?_⟩ (Ow ⟨rfl, ?_⟩ OwedVs.nil)))))))))))
  ·
   intro L vs wx r H hl hL hx
   exact give_empty rfl numT8 H.op0
  ·
   intro L vs wx r H hl hL hx
   obtain ⟨h1, _⟩ := hx
   replace h1 : r (.tmp 1) = .pointer (some ⟨w.heap.size, 0, none⟩) := h1
   exact gvo (by simp [execOp, h1, go_sem]) H.op1
  ·
   intro L vs wx r H hl hL hx
   obtain ⟨h1, _⟩ := hx
   replace h1 : r (.tmp 37) = .pointer (some ⟨w.heap.size, 13, none⟩) := Eq.trans h1 (H.a1 (hL 1 (by kernel_rfl)))
   exact gvo (exg oneS rfl h1 (cv13 (HS2.out.ext H.ext))) H.op2
  ·
   intro L vs wx r H hl hL hx
   obtain ⟨h1, h2, _⟩ := hx
   obtain ⟨g, e, hg, hB⟩ := H.a0 (hL 0 (by kernel_rfl))
   replace h1 : r (.tmp 36) = .slice (some ⟨g, 0, none⟩) 0 0 := Eq.trans h1 e
   replace h2 : r (.tmp 38) = .slice s.rA s.rN s.rC := Eq.trans h2 (H.a2 (hL 2 (by kernel_rfl)))
   exact give_append numT8 rfl h1 h2 hg hB (nums_of_bytes (HA.out.1.r.ext (HE2.out.trans H.ext))) (by decide) (by have := HA.out.2.rand; (try simp only [ci_len]); omega) (fun ad cap w' ho he => H.op3 hl ho he)
  ·
   intro L vs wx r H hl hL hx
   exact give_empty rfl numT8 H.op4
  ·
   intro L vs wx r H hl hL hx
   obtain ⟨h1, _⟩ := hx
   replace h1 : r (.tmp 1) = .pointer (some ⟨w.heap.size, 0, none⟩) := h1
   exact gvo (by simp [execOp, h1, go_sem]) H.op5
  ·
   intro L vs wx r H hl hL hx
   obtain ⟨h1, _⟩ := hx
   replace h1 : r (.tmp 41) = .pointer (some ⟨w.heap.size, 15, none⟩) := Eq.trans h1 (H.a5 (hL 5 (by kernel_rfl)))
   exact gvo (exg oneS rfl h1 (cv15 (HS2.out.ext H.ext))) H.op6
  ·
   intro L vs wx r H hl hL hx
   obtain ⟨h1, h2, _⟩ := hx
   obtain ⟨g, e, hg, hB⟩ := H.a4 (hL 4 (by kernel_rfl))
   replace h1 : r (.tmp 40) = .slice (some ⟨g, 0, none⟩) 0 0 := Eq.trans h1 e
   replace h2 : r (.tmp 42) = .slice s.iA s.iN s.iC := Eq.trans h2 (H.a6 (hL 6 (by kernel_rfl)))
   exact give_append numT8 rfl h1 h2 hg hB (nums_of_bytes (HA.out.1.i.ext (HE2.out.trans H.ext))) (by decide) (by have := HA.out.2.info; (try simp only [ci_len]); omega) (fun ad cap w' ho he => H.op7 hl ho he)
  ·
   intro L vs wx r H hl hL hx
   obtain ⟨h1, _⟩ := hx
   replace h1 : r (.tmp 3) = .pointer (some ⟨w2.heap.size, 0, none⟩) := h1
   exact gvo (by simp [execOp, h1, go_sem]) H.op8
  ·
   intro L vs wx r H hl hL hx
   obtain ⟨h1, h2, _⟩ := hx
   replace h1 : r (.tmp 44) = .pointer (some ⟨w2.heap.size, 13, none⟩) := Eq.trans h1 (H.a8 (hL 8 (by kernel_rfl)))
   obtain ⟨⟨ad, cap, e⟩, _⟩ := H.a3 (hL 3 (by kernel_rfl))
   replace h2 : r (.tmp 39) = _ := Eq.trans h2 e
   obtain ⟨C, hb, hs, _⟩ := H.blk
   exact give_skip (exec_set oneS rfl h1 h2 rfl rfl hb (by rw [hs]; exact of_decide_eq_true rfl)) (H.op9 (hL 3 (by kernel_rfl)) (Nat.le_refl _) (by decide) (of_decide_eq_true rfl) (by decide) (by decide) e.symm)
  ·
   intro L vs wx r H hl hL hx
   obtain ⟨h1, _⟩ := hx
   replace h1 : r (.tmp 3) = .pointer (some ⟨w2.heap.size, 0, none⟩) := h1
   exact gvo (by simp [execOp, h1, go_sem]) H.op10
  ·
   intro L vs wx r H hl hL hx
   obtain ⟨h1, h2, _⟩ := hx
   replace h1 : r (.tmp 45) = .pointer (some ⟨w2.heap.size, 15, none⟩) := Eq.trans h1 (H.aA (hL 10 (by kernel_rfl)))
   obtain ⟨⟨ad, cap, e⟩, _⟩ := H.a7 (hL 7 (by kernel_rfl))
   replace h2 : r (.tmp 43) = _ := Eq.trans h2 e
   obtain ⟨C, hb, hs, _⟩ := H.blk
   exact give_skip (exec_set oneS rfl h1 h2 rfl rfl hb (by rw [hs]; exact of_decide_eq_true rfl)) (H.op11 (hL 7 (by kernel_rfl)) (Nat.le_refl _) (by decide) (of_decide_eq_true rfl) (by decide) (by decide) e.symm)
 ·
  intro vs2 a4 w7 H ha4
  obtain ⟨ra, rc, ia, ic, e3, e7, hbx, hor, hoi⟩ := H.done (by decide) (of_decide_eq_true rfl) (of_decide_eq_true rfl)
  have hbo : Blk w7 w2.heap.size (CV c ({ tA := ta, tN := tn, tC := tc, rA := ra, rN := (ci c.rand).length, rC := rc, aA := none, aN := 0, aC := 0, iA := ia, iN := (ci c.info).length, iC := ic, gA := none, gN := 0, gC := 0, dA := none, dN := 0, dC := 0, oA := none, oN := 0, oC := 0 } : Sv)) 38 := hbx
  have hv0 := H.a1 rfl; have hv1 := H.a2 rfl; have hv2 := H.a5 rfl; have hv3 := H.a6 rfl; have hv4 := H.a8 rfl; have hv5 := H.aA rfl
  obtain ⟨g0, hv6, -, -⟩ := H.a0 rfl
  obtain ⟨g4, hv7, -, -⟩ := H.a4 rfl
  have hkx := H.keep
  have hex := H.ext
  simp only [putAll, Act.put, Nat.zero_add, Nat.reduceAdd, hv0, hv1, hv2, hv3, hv4, hv5, hv6, hv7, e3, e7, List.setIfInBounds_toArray, List.set_cons_succ, List.set_cons_zero] at ha4
  subst ha4
  clear hv0 hv1 hv2 hv3 hv4 hv5 hv6 hv7 e3 e7 hbx H
  refine HK4.go _ _ ?_
  clear HK4
  have HE7 : Hid (Ext w2 w7) := hex
  have hkd := (KeepBut.ext (S := (· = w2.heap.size)) (Ext.drew w6)).trans hkx
  replace hb1 := hb1.but hkd (Nat.ne_of_lt HW.out)
  replace hb2 := hb2.but hkd (Nat.ne_of_lt HQ2.out)
  replace ho5 := ho5.mono_via hkd (ownsRow_ne ho5.1 hb6 (by decide))
  clear hex hkx hkd hb6 HE6
  refine wp_seq_k (fun K5 hK5 => ?_)
  have HK5 := Stop.mk hK5
  clear hK5
  refine wp_region_W (TwoA w2 w7.drew w2.heap.size 38 (CV c ({ tA := ta, tN := tn, tC := tc, rA := ra, rN := (ci c.rand).length, rC := rc, aA := none, aN := 0, aC := 0, iA := ia, iN := (ci c.info).length, iC := ic, gA := none, gN := 0, gC := 0, dA := none, dN := 0, dC := 0, oA := none, oN := 0, oC := 0 } : Sv)) 14 17 .i64 .u32 65 22 c.addrs (ci c.dups) (.pointer (some ⟨w.heap.size, 14, none⟩)) (.slice s.aA s.aN s.aC) (.pointer (some ⟨w.heap.size, 17, none⟩)) (.slice s.dA s.dN s.dC) (.pointer (some ⟨w2.heap.size, 14, none⟩)) (.pointer (some ⟨w2.heap.size, 17, none⟩))) (fun t => bif Nat.ble 46 t && Nat.ble t 54 then some (t - 46) else bif Nat.beq t 55 then some 10 else none) 85 rfl (by kernel_rfl) rfl (fun vs => TwoA.start (HE7.out.trans (Ext.drew _)) (hbo.ext (Ext.drew _))) ?_ ?_
  ·
   refine Ow ⟨rfl, ?_⟩ (Ow ⟨rfl, ?_⟩ (Ow ⟨rfl, ?_⟩ (Ow ⟨rfl, ?_⟩ (Ow ⟨rfl, ?_⟩ (Ow ⟨rfl, ?_⟩ (Ow ⟨rfl, ?_⟩ (Ow ⟨rfl, ?_⟩ (Ow ⟨rfl, ?_⟩ (Ow ⟨rfl, ?_⟩ (Ow ⟨rfl, ?_⟩ (Ow ⟨rfl, ?_⟩ OwedVs.nil)))))))))))
   ·
    intro L vs wx r H hl hL hx
    exact give_empty rfl numTA H.op0
   ·
    intro L vs wx r H hl hL hx
    obtain ⟨h1, _⟩ := hx
    replace h1 : r (.tmp 1) = .pointer (some ⟨w.heap.size, 0, none⟩) := h1
    exact gvo (by simp [execOp, h1, go_sem]) H.op1
   ·
    intro L vs wx r H hl hL hx
    obtain ⟨h1, _⟩ := hx
    replace h1 : r (.tmp 47) = .pointer (some ⟨w.heap.size, 14, none⟩) := Eq.trans h1 (H.a1 (hL 1 (by kernel_rfl)))
    exact gvo (exg oneSA rfl h1 (cv14 (HS2.out.ext H.ext))) H.op2
   ·
    intro L vs wx r H hl hL hx
    obtain ⟨h1, h2, _⟩ := hx
    obtain ⟨g, e, hg, hB⟩ := H.a0 (hL 0 (by kernel_rfl))
    replace h1 : r (.tmp 46) = .slice (some ⟨g, 0, none⟩) 0 0 := Eq.trans h1 e
    replace h2 : r (.tmp 48) = .slice s.aA s.aN s.aC := Eq.trans h2 (H.a2 (hL 2 (by kernel_rfl)))
    exact give_append numTA rfl h1 h2 hg hB (HA.out.1.a.ext (HE2.out.trans H.ext)) (by decide) (by have := HA.out.2.addrs; (try simp only [ci_len]); omega) (fun ad cap w' ho he => H.op3 hl ho he)
   ·
    intro L vs wx r H hl hL hx
    exact give_empty rfl numTD H.op4
   ·
    intro L vs wx r H hl hL hx
    obtain ⟨h1, _⟩ := hx
    replace h1 : r (.tmp 1) = .pointer (some ⟨w.heap.size, 0, none⟩) := h1
    exact gvo (by simp [execOp, h1, go_sem]) H.op5
   ·
    intro L vs wx r H hl hL hx
    obtain ⟨h1, _⟩ := hx
    replace h1 : r (.tmp 51) = .pointer (some ⟨w.heap.size, 17, none⟩) := Eq.trans h1 (H.a5 (hL 5 (by kernel_rfl)))
    exact gvo (exg oneSD rfl h1 (cv17 (HS2.out.ext H.ext))) H.op6
   ·
    intro L vs wx r H hl hL hx
    obtain ⟨h1, h2, _⟩ := hx
    obtain ⟨g, e, hg, hB⟩ := H.a4 (hL 4 (by kernel_rfl))
    replace h1 : r (.tmp 50) = .slice (some ⟨g, 0, none⟩) 0 0 := Eq.trans h1 e
    replace h2 : r (.tmp 52) = .slice s.dA s.dN s.dC := Eq.trans h2 (H.a6 (hL 6 (by kernel_rfl)))
    exact give_append numTD rfl h1 h2 hg hB (HA.out.1.d.ext (HE2.out.trans H.ext)) (by decide) (by have := HA.out.2.dups; (try simp only [ci_len]); omega) (fun ad cap w' ho he => H.op7 hl ho he)
   ·
    intro L vs wx r H hl hL hx
    obtain ⟨h1, _⟩ := hx
    replace h1 : r (.tmp 3) = .pointer (some ⟨w2.heap.size, 0, none⟩) := h1
    exact gvo (by simp [execOp, h1, go_sem]) H.op8
   ·
    intro L vs wx r H hl hL hx
    obtain ⟨h1, h2, _⟩ := hx
    replace h1 : r (.tmp 54) = .pointer (some ⟨w2.heap.size, 14, none⟩) := Eq.trans h1 (H.a8 (hL 8 (by kernel_rfl)))
    obtain ⟨⟨ad, cap, e⟩, _⟩ := H.a3 (hL 3 (by kernel_rfl))
    replace h2 : r (.tmp 49) = _ := Eq.trans h2 e
    obtain ⟨C, hb, hs, _⟩ := H.blk
    exact give_skip (exec_set oneSA rfl h1 h2 rfl rfl hb (by rw [hs]; exact of_decide_eq_true rfl)) (H.op9 (hL 3 (by kernel_rfl)) (Nat.le_refl _) (by decide) (of_decide_eq_true rfl) (by decide) (by decide) e.symm)
   ·
    intro L vs wx r H hl hL hx
    obtain ⟨h1, _⟩ := hx
    replace h1 : r (.tmp 3) = .pointer (some ⟨w2.heap.size, 0, none⟩) := h1
    exact gvo (by simp [execOp, h1, go_sem]) H.op10
   ·
    intro L vs wx r H hl hL hx
    obtain ⟨h1, h2, _⟩ := hx
    replace h1 : r (.tmp 55) = .pointer (some ⟨w2.heap.size, 17, none⟩) := Eq.trans h1 (H.aA (hL 10 (by kernel_rfl)))
    obtain ⟨⟨ad, cap, e⟩, _⟩ := H.a7 (hL 7 (by kernel_rfl))
    replace h2 : r (.tmp 53) = _ := Eq.trans h2 e
    obtain ⟨C, hb, hs, _⟩ := H.blk
    exact give_skip (exec_set oneSD rfl h1 h2 rfl rfl hb (by rw [hs]; exact of_decide_eq_true rfl)) (H.op11 (hL 7 (by kernel_rfl)) (Nat.le_refl _) (by decide) (of_decide_eq_true rfl) (by decide) (by decide) e.symm)
  ·
   intro vs2 a4 w8 H ha4
   obtain ⟨aa, ac, da, dc, e3, e7, hbx, hoa, hod⟩ := H.done (by decide) (of_decide_eq_true rfl) (of_decide_eq_true rfl)
   have hbo8 : Blk w8 w2.heap.size (CV c ({ tA := ta, tN := tn, tC := tc, rA := ra, rN := (ci c.rand).length, rC := rc, aA := aa, aN := c.addrs.length, aC := ac, iA := ia, iN := (ci c.info).length, iC := ic, gA := none, gN := 0, gC := 0, dA := da, dN := (ci c.dups).length, dC := dc, oA := none, oN := 0, oC := 0 } : Sv)) 38 := hbx
   have hv0 := H.a1 rfl; have hv1 := H.a2 rfl; have hv2 := H.a5 rfl; have hv3 := H.a6 rfl; have hv4 := H.a8 rfl; have hv5 := H.aA rfl
   obtain ⟨g0, hv6, -, -⟩ := H.a0 rfl
   obtain ⟨g4, hv7, -, -⟩ := H.a4 rfl
   have hkx := H.keep
   have hex := H.ext
   simp only [putAll, Act.put, Nat.zero_add, Nat.reduceAdd, hv0, hv1, hv2, hv3, hv4, hv5, hv6, hv7, e3, e7, List.setIfInBounds_toArray, List.set_cons_succ, List.set_cons_zero] at ha4
   subst ha4
   clear hv0 hv1 hv2 hv3 hv4 hv5 hv6 hv7 e3 e7 hbx H
   refine HK5.go _ _ ?_
   clear HK5
   have hkd := (KeepBut.ext (S := (· = w2.heap.size)) (Ext.drew w7)).trans hkx
   have HS : Hid (Blk w8 w2.heap.size (CV c ({ tA := ta, tN := tn, tC := tc, rA := ra, rN := (ci c.rand).length, rC := rc, aA := aa, aN := c.addrs.length, aC := ac, iA := ia, iN := (ci c.info).length, iC := ic, gA := none, gN := 0, gC := 0, dA := da, dN := (ci c.dups).length, dC := dc, oA := none, oN := 0, oC := 0 } : Sv)) 38 ∧ Ext w w8 ∧ Blk w8 w.heap.size (CV c s) 32 ∧ Blk w8 w1.heap.size (CV (ck0 0) sv0) 38 ∧ Own5 w8 w2.heap.size ({ tA := ta, tN := tn, tC := tc, rA := ra, rN := (ci c.rand).length, rC := rc, aA := aa, aN := c.addrs.length, aC := ac, iA := ia, iN := (ci c.info).length, iC := ic, gA := none, gN := 0, gC := 0, dA := da, dN := (ci c.dups).length, dC := dc, oA := none, oN := 0, oC := 0 } : Sv) c) := ⟨hbo8, HE2.out.trans hex, hb1.but hkd (Nat.ne_of_lt HW.out), hb2.but hkd (Nat.ne_of_lt HQ2.out), ho5.mono_via hkd (ownsRow_ne ho5.1 hbo (by decide)), hor.mono_via hkd (ownsRow_ne hor.1 hbo (by decide)), hoa, hoi.mono_via hkd (ownsRow_ne hoi.1 hbo (by decide)), hod⟩
   clear hb1 hb2 hbo hbo8 hkx hkd hex hor hoi hoa hod ho5 HE7
   have g16 := cv16 HS.out.2.2.1
   obtain ⟨N, hN⟩ : ∃ N, N = c.gaps.length := ⟨_, rfl⟩
   rw [hgN, ← hN] at g16
   have HNg : Hid (N = c.gaps.length) := hN
   have hn3 : N ≤ 3000 := by rw [hN]; exact HA.out.2.gaps
   have HSmg : Hid (c.gaps.length ≤ 3000) := HA.out.2.gaps
   have HSmo : Hid (c.ops.length ≤ 3000) := HA.out.2.ops
   have HAt : Hid (PairsAt w (.slice s.gA N s.gC) c.gaps) := show PairsAt _ _ _ by rw [hN, ← hgN]; exact HA.out.1.g
   clear hN hgN
   obtain ⟨aA, haA⟩ : ∃ x, x = s.gA := ⟨_, rfl⟩
   rw [← haA] at HAt
   go_wp2
   rw [← haA]
   clear g16 haA
   go_loopg [59] N (fun gm t wr => ∃ (k : Nat) (ga : Option Addr) (gn gc : Nat), k ≤ N ∧ gm = N - k ∧ t = .int .i64 (k : Int) ∧ Hid (OwnP 67 wr w.heap.size (.slice ga gn gc) (c.gaps.take k) ∧ Blk wr w2.heap.size (CV c ({ tA := ta, tN := tn, tC := tc, rA := ra, rN := (ci c.rand).length, rC := rc, aA := aa, aN := c.addrs.length, aC := ac, iA := ia, iN := (ci c.info).length, iC := ic, gA := ga, gN := gn, gC := gc, dA := da, dN := (ci c.dups).length, dC := dc, oA := none, oN := 0, oC := 0 } : Sv)) 38 ∧ Ext w wr ∧ Blk wr w.heap.size (CV c s) 32 ∧ Blk wr w1.heap.size (CV (ck0 0) sv0) 38 ∧ Own5 wr w2.heap.size ({ tA := ta, tN := tn, tC := tc, rA := ra, rN := (ci c.rand).length, rC := rc, aA := aa, aN := c.addrs.length, aC := ac, iA := ia, iN := (ci c.info).length, iC := ic, gA := none, gN := 0, gC := 0, dA := da, dN := (ci c.dups).length, dC := dc, oA := none, oN := 0, oC := 0 } : Sv) c))
   case atStart => exact ⟨0, none, 0, 0, Nat.zero_le _, rfl, rfl, by rw [List.take_zero]; exact OwnP.nil _ _ _, HS.out.1, HS.out.2.1, HS.out.2.2⟩
   case round =>
    obtain ⟨k, ga, gn, gc, hk, rfl, rfl, HR⟩ := hrel
    by_cases hlt : k < N
    ·
     have hd : decide ((k : Int) < (N : Int)) = true := decide_eq_true (by omega)
     have hkL : k < c.gaps.length := by rw [← HNg.out]; exact hlt
     have hkn : (k : Int) < (N : Int) := by omega
     obtain ⟨b, off, rfl, hc0, hc1⟩ := HAt.out.cellAt k hkL
     replace hc0 := HR.out.2.2.1.cell hc0
     replace hc1 := HR.out.2.2.1.cell hc1
     have HL : Hid (c.gaps.take (k + 1) = c.gaps.take k ++ [c.gaps.getD k (0, 0)] ∧ (c.gaps.take k).length ≤ 3000 ∧ (c.gaps.take k).length = k) := ⟨take_snocP hkL, by rw [List.length_take]; have := HSmg.out; omega, by rw [List.length_take]; omega⟩
     obtain ⟨q, hq⟩ : ∃ q, q = c.gaps.getD k (0, 0) := ⟨_, rfl⟩
     rw [← hq] at hc0 hc1 HL
     clear hq hkL
     go_wp2_with (first
      | (refine wl_loadP rfl rowGp2 rfl rfl hc0 hc1 ?_)
      | (refine wl_alloc rfl rfl zeroGp2 ?_; intro w6 hb6 he6 hx; clear hx)
      | (refine wl_store (D := #[.int .i64 q.1, .int .i64 q.2]) rfl rowGp2 rfl rfl rfl hb6 rfl rfl (one_pair _ _) ?_; intro w7 hb7 hk7 hx; clear hx; have hO7 := (HR.out.1.ext he6).but hk7 (ownsRow_ne (HR.out.1.ext he6).1 hb6 (by decide)); have hB7 := (HR.out.2.1.ext he6).but hk7 (Nat.ne_of_lt HR.out.2.1.lt); have HE7 : Hid (Ext w w7) := (HR.out.2.2.1.trans he6).of_but hk7 (fun g e => by subst e; exact HR.out.2.2.1.size); have x70 := ((HR.out.2.2.2.1).ext he6).but hk7 (Nat.ne_of_lt (HR.out.2.2.2.1).lt); have x71 := ((HR.out.2.2.2.2.1).ext he6).but hk7 (Nat.ne_of_lt (HR.out.2.2.2.2.1).lt); have x72 := ((HR.out.2.2.2.2.2).ext he6).but hk7 hb6 noGp2; clear hk7 hb6; have d7 := cv16 hB7)
      | (refine wl_load rfl rowGp2 rfl rfl hb7 rfl ?_)
      | (at_builtin; refine wl_pushPr prG (L := c.gaps.take k) (p := q) (v := .slice ga gn gc) (base := w.heap.size) rfl rfl rfl rfl rfl rfl hO7 (by have := HL.out.2.1; omega) HE7.out.size ?_; intro ad n8 cap w8 hn8 ho8 hk8 hg8; clear hg8; have hB8 := hB7.but hk8 (fun e => ownsRow_ne hO7.1 hB7 (by decide) _ e rfl); have HE8 : Hid (Ext w w8) := HE7.out.of_but hk8 (fun g e => (hO7.lt e).1); have x80 := (x70).but hk8 (fun e => ownsRow_ne hO7.1 (x70) (by decide) _ e rfl); have x81 := (x71).but hk8 (fun e => ownsRow_ne hO7.1 (x71) (by decide) _ e rfl); have x82 := (x72).butP hk8 hO7 (by decide) (by decide) (by decide); clear hk8 d7 hb7)
      | (refine wl_set (v := .slice ad n8 cap) rfl oneSG rfl rfl rfl rfl rfl hB8 (of_decide_eq_true rfl) ?_; intro w9 hbx hk9 hx9; clear hx9; have hB9 : Blk w9 w2.heap.size (CV c ({ tA := ta, tN := tn, tC := tc, rA := ra, rN := (ci c.rand).length, rC := rc, aA := aa, aN := c.addrs.length, aC := ac, iA := ia, iN := (ci c.info).length, iC := ic, gA := ad, gN := n8, gC := cap, dA := da, dN := (ci c.dups).length, dC := dc, oA := none, oN := 0, oC := 0 } : Sv)) 38 := hbx; have hO9 := ho8.but hk9 (ownsRow_ne ho8.1 hB8 (by decide)); have HE9 : Hid (Ext w w9) := HE8.out.of_but hk9 (fun g e => by subst e; exact HG3.out); have x90 := (x80).but hk9 (Nat.ne_of_lt HW.out); have x91 := (x81).but hk9 (Nat.ne_of_lt HQ2.out); have x92 := (x82).but hk9 hB8 noCk; clear hbx hk9))
     rw [← HL.out.1] at hO9
     go_roundg (N - (k + 1))
     case measure => omega
     case rel => exact ⟨k + 1, ad, n8, cap, by omega, rfl, by simp, hO9, hB9, HE9.out, x90, x91, x92⟩
    ·
     have hd : decide ((k : Int) < (N : Int)) = false := decide_eq_false (by omega)
     have hke : c.gaps.take k = c.gaps := List.take_of_length_le (by rw [← HNg.out]; omega)
     rw [hke] at HR
     clear hke
     have g20 := cv20 HR.out.2.2.2.1
     obtain ⟨M, hM⟩ : ∃ M, M = c.ops.length := ⟨_, rfl⟩
     rw [hoN.out, ← hM] at g20
     have HNo : Hid (M = c.ops.length) := hM
     have hm3 : M ≤ 3000 := by rw [hM]; exact HA.out.2.ops
     have HBt : Hid (PairsAt w (.slice s.oA M s.oC) c.ops) := show PairsAt _ _ _ by rw [hM, ← hoN.out]; exact HA.out.1.o
     obtain ⟨bA, hbA⟩ : ∃ x, x = s.oA := ⟨_, rfl⟩
     rw [← hbA] at HBt
     clear hM
     go_wp2
     rw [← hbA]
     clear g20 hbA hd hlt hk
     have HS : Hid (Blk wr w2.heap.size (CV c ({ tA := ta, tN := tn, tC := tc, rA := ra, rN := (ci c.rand).length, rC := rc, aA := aa, aN := c.addrs.length, aC := ac, iA := ia, iN := (ci c.info).length, iC := ic, gA := ga, gN := gn, gC := gc, dA := da, dN := (ci c.dups).length, dC := dc, oA := none, oN := 0, oC := 0 } : Sv)) 38 ∧ Ext w wr ∧ Blk wr w.heap.size (CV c s) 32 ∧ Blk wr w1.heap.size (CV (ck0 0) sv0) 38 ∧ Own5 wr w2.heap.size ({ tA := ta, tN := tn, tC := tc, rA := ra, rN := (ci c.rand).length, rC := rc, aA := aa, aN := c.addrs.length, aC := ac, iA := ia, iN := (ci c.info).length, iC := ic, gA := none, gN := 0, gC := 0, dA := da, dN := (ci c.dups).length, dC := dc, oA := none, oN := 0, oC := 0 } : Sv) c ∧ OwnP 67 wr w.heap.size (.slice ga gn gc) c.gaps) := ⟨HR.out.2.1, HR.out.2.2.1, HR.out.2.2.2.1, HR.out.2.2.2.2.1, HR.out.2.2.2.2.2, HR.out.1⟩
     clear HR
     go_loopg [73] M (fun gm t wr => ∃ (k : Nat) (oa : Option Addr) (on oc : Nat), k ≤ M ∧ gm = M - k ∧ t = .int .i64 (k : Int) ∧ Hid (OwnP 69 wr w.heap.size (.slice oa on oc) (c.ops.take k) ∧ Blk wr w2.heap.size (CV c ({ tA := ta, tN := tn, tC := tc, rA := ra, rN := (ci c.rand).length, rC := rc, aA := aa, aN := c.addrs.length, aC := ac, iA := ia, iN := (ci c.info).length, iC := ic, gA := ga, gN := gn, gC := gc, dA := da, dN := (ci c.dups).length, dC := dc, oA := oa, oN := on, oC := oc } : Sv)) 38 ∧ Ext w wr ∧ Blk wr w.heap.size (CV c s) 32 ∧ Blk wr w1.heap.size (CV (ck0 0) sv0) 38 ∧ Own5 wr w2.heap.size ({ tA := ta, tN := tn, tC := tc, rA := ra, rN := (ci c.rand).length, rC := rc, aA := aa, aN := c.addrs.length, aC := ac, iA := ia, iN := (ci c.info).length, iC := ic, gA := none, gN := 0, gC := 0, dA := da, dN := (ci c.dups).length, dC := dc, oA := none, oN := 0, oC := 0 } : Sv) c ∧ OwnP 67 wr w.heap.size (.slice ga gn gc) c.gaps))
     case atStart => exact ⟨0, none, 0, 0, Nat.zero_le _, rfl, rfl, by rw [List.take_zero]; exact OwnP.nil _ _ _, HS.out.1, HS.out.2.1, HS.out.2.2⟩
     case round =>
      obtain ⟨k, oa, on, oc, hk, rfl, rfl, HR⟩ := hrel
      by_cases hlt : k < M
      ·
       have hd : decide ((k : Int) < (M : Int)) = true := decide_eq_true (by omega)
       have hkL : k < c.ops.length := by rw [← HNo.out]; exact hlt
       have hkn : (k : Int) < (M : Int) := by omega
       obtain ⟨b, off, rfl, hc0, hc1⟩ := HBt.out.cellAt k hkL
       replace hc0 := HR.out.2.2.1.cell hc0
       replace hc1 := HR.out.2.2.1.cell hc1
       have HL : Hid (c.ops.take (k + 1) = c.ops.take k ++ [c.ops.getD k (0, 0)] ∧ (c.ops.take k).length ≤ 3000 ∧ (c.ops.take k).length = k) := ⟨take_snocP hkL, by rw [List.length_take]; have := HSmo.out; omega, by rw [List.length_take]; omega⟩
       obtain ⟨q, hq⟩ : ∃ q, q = c.ops.getD k (0, 0) := ⟨_, rfl⟩
       rw [← hq] at hc0 hc1 HL
       clear hq hkL
       go_wp2_with (first
        | (refine wl_loadP rfl rowOp2 rfl rfl hc0 hc1 ?_)
        | (refine wl_alloc rfl rfl zeroOp2 ?_; intro w6 hb6 he6 hx; clear hx)
        | (refine wl_store (D := #[.int .i64 q.1, .int .i64 q.2]) rfl rowOp2 rfl rfl rfl hb6 rfl rfl (one_pair _ _) ?_; intro w7 hb7 hk7 hx; clear hx; have hO7 := (HR.out.1.ext he6).but hk7 (ownsRow_ne (HR.out.1.ext he6).1 hb6 (by decide)); have hB7 := (HR.out.2.1.ext he6).but hk7 (Nat.ne_of_lt HR.out.2.1.lt); have HE7 : Hid (Ext w w7) := (HR.out.2.2.1.trans he6).of_but hk7 (fun g e => by subst e; exact HR.out.2.2.1.size); have x70 := ((HR.out.2.2.2.1).ext he6).but hk7 (Nat.ne_of_lt (HR.out.2.2.2.1).lt); have x71 := ((HR.out.2.2.2.2.1).ext he6).but hk7 (Nat.ne_of_lt (HR.out.2.2.2.2.1).lt); have x72 := ((HR.out.2.2.2.2.2.1).ext he6).but hk7 hb6 noOp2; have x73 := ((HR.out.2.2.2.2.2.2).ext he6).but hk7 (ownsRow_ne ((HR.out.2.2.2.2.2.2).ext he6).1 hb6 (by decide)); clear hk7 hb6; have d7 := cv20 hB7)
        | (refine wl_load rfl rowOp2 rfl rfl hb7 rfl ?_)
        | (at_builtin; refine wl_pushPr prO (L := c.ops.take k) (p := q) (v := .slice oa on oc) (base := w.heap.size) rfl rfl rfl rfl rfl rfl hO7 (by have := HL.out.2.1; omega) HE7.out.size ?_; intro ad n8 cap w8 hn8 ho8 hk8 hg8; clear hg8; have hB8 := hB7.but hk8 (fun e => ownsRow_ne hO7.1 hB7 (by decide) _ e rfl); have HE8 : Hid (Ext w w8) := HE7.out.of_but hk8 (fun g e => (hO7.lt e).1); have x80 := (x70).but hk8 (fun e => ownsRow_ne hO7.1 (x70) (by decide) _ e rfl); have x81 := (x71).but hk8 (fun e => ownsRow_ne hO7.1 (x71) (by decide) _ e rfl); have x82 := (x72).butP hk8 hO7 (by decide) (by decide) (by decide); have x83 := (x73).but hk8 (fun k e1 e2 => own_apart (x73).1 hO7.1 (by decide) k e1 e2); clear hk8 d7 hb7)
        | (refine wl_set (v := .slice ad n8 cap) rfl oneSO rfl rfl rfl rfl rfl hB8 (of_decide_eq_true rfl) ?_; intro w9 hbx hk9 hx9; clear hx9; have hB9 : Blk w9 w2.heap.size (CV c ({ tA := ta, tN := tn, tC := tc, rA := ra, rN := (ci c.rand).length, rC := rc, aA := aa, aN := c.addrs.length, aC := ac, iA := ia, iN := (ci c.info).length, iC := ic, gA := ga, gN := gn, gC := gc, dA := da, dN := (ci c.dups).length, dC := dc, oA := ad, oN := n8, oC := cap } : Sv)) 38 := hbx; have hO9 := ho8.but hk9 (ownsRow_ne ho8.1 hB8 (by decide)); have HE9 : Hid (Ext w w9) := HE8.out.of_but hk9 (fun g e => by subst e; exact HG3.out); have x90 := (x80).but hk9 (Nat.ne_of_lt HW.out); have x91 := (x81).but hk9 (Nat.ne_of_lt HQ2.out); have x92 := (x82).but hk9 hB8 noCk; have x93 := (x83).but hk9 (ownsRow_ne (x83).1 hB8 (by decide)); clear hbx hk9))
       rw [← HL.out.1] at hO9
       go_roundg (M - (k + 1))
       case measure => omega
       case rel => exact ⟨k + 1, ad, n8, cap, by omega, rfl, by simp, hO9, hB9, HE9.out, x90, x91, x92, x93⟩
      ·
       have hd : decide ((k : Int) < (M : Int)) = false := decide_eq_false (by omega)
       have hke : c.ops.take k = c.ops := List.take_of_length_le (by rw [← HNo.out]; omega)
       rw [hke] at HR
       clear hke
       go_wp2_with (first
        | (refine wl_load rfl rowC rfl rfl HR.out.2.1 rfl ?_)
        | (refine wl_store (D := CV c ({ tA := ta, tN := tn, tC := tc, rA := ra, rN := (ci c.rand).length, rC := rc, aA := aa, aN := c.addrs.length, aC := ac, iA := ia, iN := (ci c.info).length, iC := ic, gA := ga, gN := gn, gC := gc, dA := da, dN := (ci c.dups).length, dC := dc, oA := oa, oN := on, oC := oc } : Sv)) rfl rowC rfl rfl rfl HR.out.2.2.2.2.1 rfl rfl (CV.one _ _) ?_; intro w9 hb9 hk9 hx9; clear hx9))
       refine bodyPost_ret (results_cell_row (fn := Try.f9) (p := 2) rfl _ w9 _ _ _ (0, 0) _ rfl hb9 Try.underlying38 rfl (by kernel_rfl)) rfl ?_
       have hE : Ext w w9 := HR.out.2.2.1.of_but hk9 (fun g e => by subst e; exact Nat.le_of_lt HG2.out.2)
       have h5 := HR.out.2.2.2.2.2.1.but hk9 HR.out.2.2.2.2.1 noCk
       exact ⟨_, rfl, ⟨obN (h5.t.base HG3.out) HA.out.1.t.1, obN (h5.r.base HG3.out) HA.out.1.r.1, h5.a.base HG3.out, obN (h5.i.base HG3.out) HA.out.1.i.1, HR.out.2.2.2.2.2.2.but hk9 (ownsRow_ne HR.out.2.2.2.2.2.2.1 HR.out.2.2.2.2.1 (by decide)), h5.d.base HG3.out, HR.out.1.but hk9 (ownsRow_ne HR.out.1.1 HR.out.2.2.2.2.1 (by decide))⟩, hE⟩
set_option maxRecDepth 100000
theorem be_fold (n k : Nat) : ∀ a : Nat, (be n k).foldl (fun a b => 256 * a + b) a = a * 256 ^ k + n % 256 ^ k := by
 induction k with
 | zero => intro a; simp [be, Nat.mod_one]
 | succ k ih =>
  intro a
  rw [be, List.foldl_cons, ih, Nat.mod_pow_succ, Nat.pow_succ]
  generalize n / 256 ^ k % 256 = x
  generalize n % 256 ^ k = y
  generalize 256 ^ k = z
  rw [Nat.add_mul, Nat.mul_comm x z, show 256 * a * z = a * (z * 256) by rw [Nat.mul_comm 256 a, Nat.mul_assoc, Nat.mul_comm 256 z]]
  omega
theorem val_be {n k : Nat} (h : n < 256 ^ k) : val (be n k) = n := by
 unfold val; rw [be_fold, Nat.mod_eq_of_lt h]; omega
theorem take_at {P Q R B : List Nat} {a : Nat} {n : Int} (hB : B = P ++ (Q ++ R)) (ha : a = P.length) (hn : n = (Q.length : Int)) : takeS B (some a) n = (some (a + Q.length), Q) := by
 subst hB ha hn
 rw [takeS_yes (by omega) (by simp; omega), Int.toNat_natCast, List.drop_left, List.take_left]
theorem numS_at {P R B : List Nat} {n k a : Nat} (hk : k = 1 ∨ k = 2 ∨ k = 4) (hn : n < 256 ^ k) (hB : B = P ++ (be n k ++ R)) (ha : a = P.length) : numS B (some a) (k : Int) = (some (a + k), n) := by
 have hs : isSz (k : Int) = true := by rcases hk with rfl | rfl | rfl <;> rfl
 unfold numS
 rw [if_pos hs, take_at hB ha (by rw [be_len]), be_len, val_be hn]
theorem num4_at {P R B : List Nat} {n a : Nat} (hn : n < 4294967296) (hB : B = P ++ (be n 4 ++ R)) (ha : a = P.length) : numS B (some a) 4 = (some (a + 4), n) := numS_at (k := 4) (.inr (.inr rfl)) hn hB ha
theorem num2_at {P R B : List Nat} {n a : Nat} (hn : n < 65536) (hB : B = P ++ (be n 2 ++ R)) (ha : a = P.length) : numS B (some a) 2 = (some (a + 2), n) := numS_at (k := 2) (.inr (.inl rfl)) hn hB ha
theorem num1_at {P R B : List Nat} {n a : Nat} (hn : n < 256) (hB : B = P ++ (be n 1 ++ R)) (ha : a = P.length) : numS B (some a) 1 = (some (a + 1), n) := numS_at (k := 1) (.inl rfl) hn hB ha
/-- All that is left. -/
def rdRest (V : List Nat) (s : Option Nat) : List Nat := (takeS V s (leftS V s : Nat)).2
def rdRestS (V : List Nat) (s : Option Nat) : Option Nat := (takeS V s (leftS V s : Nat)).1
theorem rest_at {P R B : List Nat} {a : Nat} (hB : B = P ++ R) (ha : a = P.length) : rdRest B (some a) = R ∧ rdRestS B (some a) = some B.length := by
 have h := take_at (P := P) (Q := R) (R := []) (B := B) (a := a) (n := (leftS B (some a) : Nat)) (by rw [List.append_nil]; exact hB) ha (by subst hB ha; simp [leftS])
 unfold rdRest rdRestS
 rw [h]
 subst hB ha
 simp
/-- What stands ahead of a chunk's value, and the value. -/
theorem hd_bytes {K F : Nat} {V B : List Nat} (hB : B = padB (((be K 1 ++ be F 1) ++ be (V.length + 4) 2) ++ V)) (hK : K < 256) (hF : F < 256) (hV : V.length + 4 < 65536) : hdK B = K ∧ hdF B = F ∧ hdV B = V := by
 obtain ⟨Z, hZ⟩ : ∃ Z, padB (((be K 1 ++ be F 1) ++ be (V.length + 4) 2) ++ V) = (((be K 1 ++ be F 1) ++ be (V.length + 4) 2) ++ V) ++ Z := ⟨_, rfl⟩
 have e : B = be K 1 ++ (be F 1 ++ (be (V.length + 4) 2 ++ (V ++ Z))) := by
  rw [hB, hZ]; simp only [List.append_assoc]
 have h1 : numS B (some 0) 1 = (some 1, K) := num1_at (P := []) hK e rfl
 have h2 : numS B (some 1) 1 = (some 2, F) := num1_at (P := be K 1) hF e rfl
 have h3 : numS B (some 2) 2 = (some 4, V.length + 4) := num2_at (P := be K 1 ++ be F 1) hV (by rw [e]; simp only [List.append_assoc]; try rfl) rfl
 have k1 : hdS1 B = some 1 := by unfold hdS1; rw [h1]
 have k2 : hdS2 B = some 2 := by unfold hdS2; rw [k1, h2]
 have k3 : hdS3 B = some 4 := by unfold hdS3; rw [k2, h3]
 have kl : hdL B = V.length + 4 := by unfold hdL; rw [k2, h3]
 refine ⟨by unfold hdK; rw [h1], by unfold hdF; rw [k1, h2], ?_⟩
 unfold hdV
 have h4 : takeS B (some 4) (((V.length + 4 : Nat) : Int) - 4) = (some (4 + V.length), V) := take_at (P := (be K 1 ++ be F 1) ++ be (V.length + 4) 2) (Q := V) (R := Z) (by rw [e]; simp only [List.append_assoc]) rfl (by omega)
 rw [k3, kl, h4]
/-! ### What a reader takes -/
def rdPiece (F : Nat) (V : List Nat) : Ck :=
 { ck0 0 with ptsn := (numS V (some 0) 4).2, pstr := (numS V (numS V (some 0) 4).1 2).2, pseq := (numS V (numS V (numS V (some 0) 4).1 2).1 2).2, pb := decide (F / 2 % 2 = 1), pe := decide (F % 2 = 1), pu := decide (F / 4 % 2 = 1), text := rdRest V (numS V (numS V (numS V (some 0) 4).1 2).1 2).1 }
def addrV (m : List Nat) : Int := ((numS m (some 0) 4).2 : Nat)
/-- A parameter taken. -/
def parK (d : Ck) (p : Par) : Ck :=
 if p.1 = 32770 then { d with rand := p.2 } else if p.1 = 5 then { d with addrs := d.addrs ++ [addrV p.2] }
 else if p.1 = 1 ∨ p.1 = 7 then { d with info := p.2 }
 else if p.1 = 49153 ∨ p.1 = 49154 ∨ p.1 = 49156 then { d with ops := d.ops ++ [(p.1 - 49152, addrV p.2)] } else d
def parsT (d : Ck) (L : List Par) : Ck := L.foldl parK d
def rdPars (d : Ck) (m : List Nat) : Ck := parsT d ((readAll m).getD [])
/-- Gaps, Dups that are read one behind the other. -/
def gapsS (V : List Nat) (s : Option Nat) : Nat → Option Nat × List (Int × Int)
 | 0 => (s, [])
 | i + 1 => ((numS V (numS V (gapsS V s i).1 2).1 2).1, (gapsS V s i).2 ++ [((((numS V (gapsS V s i).1 2).2 : Nat) : Int), (((numS V (numS V (gapsS V s i).1 2).1 2).2 : Nat) : Int))])
def dupsS (V : List Nat) (s : Option Nat) : Nat → Option Nat × List Nat
 | 0 => (s, [])
 | i + 1 => ((numS V (dupsS V s i).1 4).1, (dupsS V s i).2 ++ [(numS V (dupsS V s i).1 4).2])
def st1 (V : List Nat) : Option Nat := (numS V (some 0) 4).1
def st2 (V : List Nat) : Option Nat := (numS V (st1 V) 4).1
def st3 (V : List Nat) : Option Nat := (numS V (st2 V) 2).1
def st4 (V : List Nat) : Option Nat := (numS V (st3 V) 2).1
def st5 (V : List Nat) : Option Nat := (numS V (st4 V) 4).1
def hdStart (k : Int) (V : List Nat) : Ck := { ck0 k with tag := (numS V (some 0) 4).2, win := ((numS V (st1 V) 4).2 : Nat), out := ((numS V (st2 V) 2).2 : Nat), inn := ((numS V (st3 V) 2).2 : Nat), tsn := (numS V (st4 V) 4).2 }
def hdSack (V : List Nat) : Ck := { ck0 3 with tsn := (numS V (some 0) 4).2, win := ((numS V (st1 V) 4).2 : Nat) }
def nGaps (V : List Nat) : Nat := min (numS V (st2 V) 2).2 (leftS V (st4 V) / 4)
def sgS (V : List Nat) : Option Nat := (gapsS V (st4 V) (nGaps V)).1
def nDups (V : List Nat) : Nat := min (numS V (st3 V) 2).2 (leftS V (sgS V) / 4)
def rdSack (V : List Nat) : Ck := { hdSack V with gaps := (gapsS V (st4 V) (nGaps V)).2, dups := (dupsS V (sgS V) (nDups V)).2 }
/-- What is read of a value, by the kind and the flags. -/
def rdC (k : Int) (F : Nat) (V : List Nat) : Ck :=
 if k = 0 then rdPiece F V
 else if k = 1 ∨ k = 2 then rdPars (hdStart k V) (rdRest V (st5 V))
 else if k = 3 then rdSack V
 else if k = 4 ∨ k = 5 then rdPars (ck0 k) (rdRest V (some 0))
 else if k = 6 ∨ k = 9 then { ck0 k with cause := ((numS V (some 0) 2).2 : Nat) }
 else if k = 7 then { ck0 k with tsn := (numS V (some 0) 4).2 }
 else if k = 10 ∨ k = 15 then { ck0 k with info := rdRest V (some 0) }
 else if k = 193 then rdPars { ck0 k with serial := (numS V (some 0) 4).2 } (rdRest V (st1 V))
 else if k = 128 then { ck0 k with serial := (numS V (some 0) 4).2, ok := decide ((numS V (st1 V) 4).2 = 1) }
 else ck0 k
/-! ### A good chunk's bytes are read to it -/
theorem addrV_be {A : Nat} (h : A < 4294967296) : addrV (be A 4) = (A : Int) := by
 unfold addrV
 rw [num4_at (P := []) (R := []) (B := be A 4) (a := 0) h (by simp) rfl]
theorem parsT_app (d : Ck) (L M : List Par) : parsT d (L ++ M) = parsT (parsT d L) M := by simp [parsT]
theorem parsT_addrs : ∀ (A : List Int) (d : Ck), adsB A = true → parsT d (pAddrs A) = { d with addrs := d.addrs ++ A }
 | [], d, _ => by simp [parsT, pAddrs]
 | a :: A, d, h => by
  have h' : adB a = true ∧ adsB A = true := by simpa [adsB] using h
  obtain ⟨N, rfl, hN⟩ := adB_nat h'.1
  have e : parK d (5, be ((N : Int)).toNat 4) = { d with addrs := d.addrs ++ [(N : Int)] } := by
   simp only [parK, Int.toNat_natCast, addrV_be (show N < 4294967296 by omega)]
   rw [if_neg (by decide), if_pos True.intro]
  have := parsT_addrs A { d with addrs := d.addrs ++ [(N : Int)] } h'.2
  unfold parsT pAddrs at *
  rw [List.map_cons, List.foldl_cons, e, this]
  simp
theorem parsT_ops : ∀ (O : List (Int × Int)) (d : Ck), opsB O = true → parsT d (pOps O) = { d with ops := d.ops ++ O }
 | [], d, _ => by simp [parsT, pOps]
 | p :: O, d, h => by
  have h' : opB p = true ∧ opsB O = true := by simpa [opsB] using h
  obtain ⟨_, N, hp, hN⟩ := opB_at h'.1
  have hk : p.1 = 1 ∨ p.1 = 2 ∨ p.1 = 4 := by have := h'.1; simp [opB, opK] at this; omega
  obtain ⟨k, y⟩ := p
  dsimp only at hp hk
  subst hp
  have e : parK d (49152 + k, be ((N : Int)).toNat 4) = { d with ops := d.ops ++ [(k, (N : Int))] } := by
   simp only [parK, Int.toNat_natCast, addrV_be (show N < 4294967296 by omega)]
   rw [if_neg (by omega), if_neg (by omega), if_neg (by omega), if_pos (by omega)]
   rw [show 49152 + k - 49152 = k by omega]
  have := parsT_ops O { d with ops := d.ops ++ [(k, (N : Int))] } h'.2
  unfold parsT pOps at *
  rw [List.map_cons, List.foldl_cons, e, this]
  simp
set_option maxRecDepth 100000
theorem num2_0 {R B : List Nat} {n : Nat} (hn : n < 65536) (hB : B = be n 2 ++ R) : numS B (some 0) 2 = (some 2, n) := num2_at (P := []) (a := 0) hn hB rfl
theorem num4_0 {R B : List Nat} {n : Nat} (hn : n < 4294967296) (hB : B = be n 4 ++ R) : numS B (some 0) 4 = (some 4, n) := num4_at (P := []) (a := 0) hn hB rfl
theorem rest_0 (B : List Nat) : rdRest B (some 0) = B := (rest_at (P := []) (R := B) (B := B) (a := 0) rfl rfl).1
theorem gapV_app (L M : List (Int × Int)) : gapV (L ++ M) = gapV L ++ gapV M := by simp [gapV]
theorem dupV_app (L M : List Nat) : dupV (L ++ M) = dupV L ++ dupV M := by simp [dupV]
theorem leftS_at {P R B : List Nat} {a : Nat} (hB : B = P ++ R) (ha : a = P.length) : leftS B (some a) = R.length := by
 subst hB ha; simp [leftS]
theorem rd_0 {c : Ck} (h : GoodC c) (hf : Fit c) (hk : c.kind = 0) : rdPiece (flagN c.pb c.pe c.pu) (valB c) = c := by
 have hu := h.use
 rw [usedC_0 hk] at hu
 have hV : valB c = be c.ptsn 4 ++ (be c.pstr 2 ++ (be c.pseq 2 ++ c.text)) := by simp [valB, hk]
 have n1 : numS (valB c) (some 0) 4 = (some 4, c.ptsn) := num4_at (P := []) hf.ptsn hV rfl
 have n2 : numS (valB c) (some 4) 2 = (some 6, c.pstr) := num2_at (P := be c.ptsn 4) hf.pstr hV rfl
 have n3 : numS (valB c) (some 6) 2 = (some 8, c.pseq) := num2_at (P := be c.ptsn 4 ++ be c.pstr 2) hf.pseq (by rw [hV]; simp only [List.append_assoc]; try rfl) rfl
 have n4 := (rest_at (P := be c.ptsn 4 ++ (be c.pstr 2 ++ be c.pseq 2)) (R := c.text) (B := valB c) (a := 8) (by rw [hV]; simp only [List.append_assoc]; try rfl) rfl).1
 have f1 : decide (flagN c.pb c.pe c.pu / 2 % 2 = 1) = c.pb := by cases c.pb <;> cases c.pe <;> cases c.pu <;> rfl
 have f2 : decide (flagN c.pb c.pe c.pu % 2 = 1) = c.pe := by cases c.pb <;> cases c.pe <;> cases c.pu <;> rfl
 have f3 : decide (flagN c.pb c.pe c.pu / 4 % 2 = 1) = c.pu := by cases c.pb <;> cases c.pe <;> cases c.pu <;> rfl
 unfold rdPiece
 rw [n1]; dsimp only
 rw [n2]; dsimp only
 rw [n3]; dsimp only
 rw [n4, f1, f2, f3]
 exact hu.symm
theorem nat_of {x : Int} {m : Nat} (h : 0 ≤ x ∧ x ≤ (m : Int)) : ((x.toNat : Nat) : Int) = x ∧ x.toNat ≤ m := by omega
theorem goodPar {k : Int} {m : List Nat} (h : 0 ≤ k ∧ k ≤ 65535) (hm : m.length ≤ 4000) : goodP (k, m) = true := (goodP_iff _).2 ⟨h.1, h.2, hm⟩
theorem pAddrs_good (A : List Int) : ∀ p ∈ pAddrs A, goodP p = true := by
 intro p hp
 simp [pAddrs] at hp
 obtain ⟨a, _, rfl⟩ := hp
 exact goodPar (by decide) (by rw [be_len]; decide)
theorem pOps_good {O : List (Int × Int)} (h : opsB O = true) : ∀ p ∈ pOps O, goodP p = true := by
 intro p hp
 simp only [pOps, List.mem_map] at hp
 obtain ⟨a, ha, rfl⟩ := hp
 have := (opB_at (List.all_eq_true.1 h a ha)).1
 exact goodPar (by omega) (by rw [be_len]; decide)
/-- The parameters of Init and InitAck. -/
def startP (c : Ck) : List Par := (32770, c.rand) :: (pAddrs c.addrs ++ if c.kind = 2 then [(7, c.info)] else [])
theorem startP_write (c : Ck) : parB (32770, c.rand) ++ (writeB (pAddrs c.addrs) ++ if c.kind = 2 then parB (7, c.info) else []) = writeB (startP c) := by
 unfold startP
 rw [writeB_cons]
 congr 1
 have : ∀ L M : List Par, writeB (L ++ M) = writeB L ++ writeB M := by intro L M; simp [writeB]
 rw [this]
 congr 1
 split
 ·
  simp [writeB]
 ·
  simp [writeB]
theorem startP_good {c : Ck} (h1 : c.rand.length ≤ 64) (h2 : c.kind = 2 → c.info.length ≤ 300) : ∀ p ∈ startP c, goodP p = true := by
 intro p hp
 unfold startP at hp
 simp only [List.mem_cons, List.mem_append] at hp
 rcases hp with rfl | hp | hp
 ·
  exact goodPar (by decide) (by omega)
 ·
  exact pAddrs_good _ p hp
 ·
  split at hp
  ·
   rename_i hk
   simp only [List.mem_singleton] at hp
   subst hp
   exact goodPar (by decide) (by have := h2 hk; omega)
  ·
   cases hp
theorem rdPars_write {d : Ck} {L : List Par} (h : ∀ p ∈ L, goodP p = true) : rdPars d (writeB L) = parsT d L := by
 unfold rdPars; rw [readAll_write L h]; rfl
theorem start_at {c : Ck} {k : Int} (hs : StartC c) (hf : Fit c) (hV : valB c = startV c) :
  hdStart k (valB c) = { ck0 k with tag := c.tag, win := c.win, out := c.out, inn := c.inn, tsn := c.tsn } ∧ rdRest (valB c) (st5 (valB c)) = writeB (startP c) := by
 have w := nat_of (m := 2147483647) hs.win
 have o := nat_of (x := c.out) (m := 8) (by have := hs.out; omega)
 have i := nat_of (x := c.inn) (m := 8) (by have := hs.inn; omega)
 have e : valB c = be c.tag 4 ++ (be c.win.toNat 4 ++ (be c.out.toNat 2 ++ (be c.inn.toNat 2 ++ (be c.tsn 4 ++ writeB (startP c))))) := by rw [hV, startV, startP_write]
 have n1 : numS (valB c) (some 0) 4 = (some 4, c.tag) := num4_at (P := []) hf.tag e rfl
 have n2 : numS (valB c) (some 4) 4 = (some 8, c.win.toNat) := num4_at (P := be c.tag 4) (by omega) e rfl
 have n3 : numS (valB c) (some 8) 2 = (some 10, c.out.toNat) := num2_at (P := be c.tag 4 ++ be c.win.toNat 4) (by omega) (by rw [e]; simp only [List.append_assoc]; try rfl) rfl
 have n4 : numS (valB c) (some 10) 2 = (some 12, c.inn.toNat) := num2_at (P := be c.tag 4 ++ (be c.win.toNat 4 ++ be c.out.toNat 2)) (by omega) (by rw [e]; simp only [List.append_assoc]; try rfl) rfl
 have n5 : numS (valB c) (some 12) 4 = (some 16, c.tsn) := num4_at (P := be c.tag 4 ++ (be c.win.toNat 4 ++ (be c.out.toNat 2 ++ be c.inn.toNat 2))) hf.tsn (by rw [e]; simp only [List.append_assoc]; try rfl) rfl
 have s1 : st1 (valB c) = some 4 := by unfold st1; rw [n1]
 have s2 : st2 (valB c) = some 8 := by unfold st2; rw [s1, n2]
 have s3 : st3 (valB c) = some 10 := by unfold st3; rw [s2, n3]
 have s4 : st4 (valB c) = some 12 := by unfold st4; rw [s3, n4]
 have s5 : st5 (valB c) = some 16 := by unfold st5; rw [s4, n5]
 refine ⟨?_, ?_⟩
 ·
  unfold hdStart
  rw [s1, s2, s3, s4, n1, n2, n3, n4, n5]
  simp only [w.1, o.1, i.1]
 ·
  rw [s5]
  exact (rest_at (P := be c.tag 4 ++ (be c.win.toNat 4 ++ (be c.out.toNat 2 ++ (be c.inn.toNat 2 ++ be c.tsn 4)))) (by rw [e]; simp only [List.append_assoc]; try rfl) rfl).1
theorem rd_12 {c : Ck} (h : GoodC c) (hf : Fit c) (hk : c.kind = 1 ∨ c.kind = 2) : rdPars (hdStart c.kind (valB c)) (rdRest (valB c) (st5 (valB c))) = c := by
 have hV : valB c = startV c := by rcases hk with hk | hk <;> simp [valB, hk]
 have hs : StartC c := hk.elim (good_1 h) (fun e => (good_2 h e).1)
 obtain ⟨h1, h2⟩ := start_at (k := c.kind) hs hf hV
 rw [h1, h2, rdPars_write (startP_good hs.rand.2 (fun e => (good_2 h e).2.2))]
 unfold startP
 rw [show ∀ (p : Par) (L : List Par) (d : Ck), parsT d (p :: L) = parsT (parK d p) L from fun _ _ _ => rfl, parsT_app, parsT_addrs _ _ hs.ads]
 have hu := h.use
 rcases hk with hk | hk
 ·
  rw [usedC_1 hk] at hu
  rw [hk, if_neg (by decide)]
  simp only [parsT, List.foldl_nil, parK, if_true]
  refine Eq.trans ?_ hu.symm
  simp [ck0]
 ·
  rw [usedC_2 hk] at hu
  rw [hk, if_pos rfl]
  simp only [parsT, List.foldl_nil, List.foldl_cons, parK, if_true]
  rw [if_neg (by decide), if_neg (by decide), if_pos (by decide)]
  refine Eq.trans ?_ hu.symm
  simp [ck0]
theorem gapsS_at {P R B : List Nat} {a : Nat} : ∀ (L M : List (Int × Int)), (∀ p ∈ L, (0 ≤ p.1 ∧ p.1 ≤ 65535) ∧ (0 ≤ p.2 ∧ p.2 ≤ 65535)) → B = P ++ (gapV L ++ R) → a = P.length → ∀ i, i ≤ L.length → gapsS B (some a) i = (some (a + 4 * i), L.take i) := by
 intro L M hL hB ha i
 induction i with
 | zero => intro _; simp [gapsS]
 | succ i ih =>
  intro hi
  have h := ih (by omega)
  have hp := hL (L.getD i (0, 0)) (getD_mem L _ i (by omega))
  have x1 := nat_of (m := 65535) hp.1
  have x2 := nat_of (m := 65535) hp.2
  have e : gapV L = gapV (L.take i) ++ (be (L.getD i (0, 0)).1.toNat 2 ++ (be (L.getD i (0, 0)).2.toNat 2 ++ gapV (L.drop (i + 1)))) := by
   have : L = L.take (i + 1) ++ L.drop (i + 1) := (List.take_append_drop _ _).symm
   have k : gapV L = gapV (L.take (i + 1)) ++ gapV (L.drop (i + 1)) := by
    conv => lhs; rw [this]
    exact gapV_app _ _
   rw [k, gapV_snoc (by omega)]
   simp only [List.append_assoc]
  have hl : (gapV (L.take i)).length = 4 * i := by rw [gapV_len, List.length_take]; omega
  have n1 : numS B (some (a + 4 * i)) 2 = (some (a + 4 * i + 2), (L.getD i (0, 0)).1.toNat) := num2_at (P := P ++ gapV (L.take i)) (by omega) (by rw [hB, e]; simp only [List.append_assoc]; try rfl) (by rw [List.length_append, hl, ha])
  have n2 : numS B (some (a + 4 * i + 2)) 2 = (some (a + 4 * i + 2 + 2), (L.getD i (0, 0)).2.toNat) := num2_at (P := P ++ (gapV (L.take i) ++ be (L.getD i (0, 0)).1.toNat 2)) (by omega) (by rw [hB, e]; simp only [List.append_assoc]; try rfl) (by rw [List.length_append, List.length_append, hl, be_len, ha]; omega)
  rw [gapsS, h]; dsimp only
  rw [n1]; dsimp only
  rw [n2]; dsimp only
  rw [x1.1, x2.1, take_snocP (by omega)]
  simp only [Prod.mk.injEq, Option.some.injEq, and_true]
  omega
theorem dupsS_at {P R B : List Nat} {a : Nat} (L : List Nat) (hL : ∀ p ∈ L, p < 4294967296) (hB : B = P ++ (dupV L ++ R)) (ha : a = P.length) : ∀ i, i ≤ L.length → dupsS B (some a) i = (some (a + 4 * i), L.take i) := by
 intro i
 induction i with
 | zero => intro _; simp [dupsS]
 | succ i ih =>
  intro hi
  have h := ih (by omega)
  have hp := hL (L.getD i 0) (getD_mem L _ i (by omega))
  have e : dupV L = dupV (L.take i) ++ (be (L.getD i 0) 4 ++ dupV (L.drop (i + 1))) := by
   have : L = L.take (i + 1) ++ L.drop (i + 1) := (List.take_append_drop _ _).symm
   have k : dupV L = dupV (L.take (i + 1)) ++ dupV (L.drop (i + 1)) := by
    conv => lhs; rw [this]
    exact dupV_app _ _
   rw [k, dupV_snoc (by omega)]
   simp only [List.append_assoc]
  have hl : (dupV (L.take i)).length = 4 * i := by rw [dupV_len, List.length_take]; omega
  have n1 : numS B (some (a + 4 * i)) 4 = (some (a + 4 * i + 4), L.getD i 0) := num4_at (P := P ++ dupV (L.take i)) hp (by rw [hB, e]; simp only [List.append_assoc]; try rfl) (by rw [List.length_append, hl, ha])
  rw [dupsS, h]; dsimp only
  rw [n1]; dsimp only
  rw [take_snocD 0 (by omega)]
  simp only [Prod.mk.injEq, Option.some.injEq, and_true]
  omega
theorem sack_at {c : Ck} (hw : 0 ≤ c.win ∧ c.win ≤ 2147483647) (hg : ∀ p ∈ c.gaps, (0 ≤ p.1 ∧ p.1 ≤ 65535) ∧ (0 ≤ p.2 ∧ p.2 ≤ 65535)) (hd : ∀ p ∈ c.dups, p < 4294967296) (hgn : c.gaps.length ≤ 16) (hdn : c.dups.length ≤ 16) (ht : c.tsn < 4294967296) {V : List Nat} (hV : V = sackV c) :
  rdSack V = { ck0 3 with tsn := c.tsn, win := c.win, gaps := c.gaps, dups := c.dups } := by
 have w := nat_of (m := 2147483647) hw
 have e : V = be c.tsn 4 ++ (be c.win.toNat 4 ++ (be c.gaps.length 2 ++ (be c.dups.length 2 ++ (gapV c.gaps ++ dupV c.dups)))) := by rw [hV, sackV]
 have n1 : numS V (some 0) 4 = (some 4, c.tsn) := num4_at (P := []) ht e rfl
 have n2 : numS V (some 4) 4 = (some 8, c.win.toNat) := num4_at (P := be c.tsn 4) (by omega) e rfl
 have n3 : numS V (some 8) 2 = (some 10, c.gaps.length) := num2_at (P := be c.tsn 4 ++ be c.win.toNat 4) (by omega) (by rw [e]; simp only [List.append_assoc]; try rfl) rfl
 have n4 : numS V (some 10) 2 = (some 12, c.dups.length) := num2_at (P := be c.tsn 4 ++ (be c.win.toNat 4 ++ be c.gaps.length 2)) (by omega) (by rw [e]; simp only [List.append_assoc]; try rfl) rfl
 have s1 : st1 V = some 4 := by unfold st1; rw [n1]
 have s2 : st2 V = some 8 := by unfold st2; rw [s1, n2]
 have s3 : st3 V = some 10 := by unfold st3; rw [s2, n3]
 have s4 : st4 V = some 12 := by unfold st4; rw [s3, n4]
 obtain ⟨H, hH⟩ : ∃ H, H = be c.tsn 4 ++ (be c.win.toNat 4 ++ (be c.gaps.length 2 ++ be c.dups.length 2)) := ⟨_, rfl⟩
 have hHl : H.length = 12 := by rw [hH]; simp only [List.length_append, be_len]
 have e2 : V = H ++ (gapV c.gaps ++ dupV c.dups) := by rw [e, hH]; simp only [List.append_assoc]
 have l12 : leftS V (some 12) = 4 * c.gaps.length + 4 * c.dups.length := by rw [leftS_at e2 hHl.symm, List.length_append, gapV_len, dupV_len]
 have g0 : nGaps V = c.gaps.length := by unfold nGaps; rw [s2, s4, n3, l12]; dsimp only; omega
 have g1 := gapsS_at c.gaps c.gaps hg e2 hHl.symm c.gaps.length (Nat.le_refl _)
 have g2 : sgS V = some (12 + 4 * c.gaps.length) := by unfold sgS; rw [s4, g0, g1]
 have e3 : V = (H ++ gapV c.gaps) ++ (dupV c.dups ++ []) := by rw [e2]; simp only [List.append_assoc, List.append_nil]
 have hHl2 : 12 + 4 * c.gaps.length = (H ++ gapV c.gaps).length := by rw [List.length_append, gapV_len, hHl]
 have l2 : leftS V (some (12 + 4 * c.gaps.length)) = 4 * c.dups.length := by rw [leftS_at e3 hHl2, List.append_nil, dupV_len]
 have d0 : nDups V = c.dups.length := by unfold nDups; rw [s3, g2, n4, l2]; dsimp only; omega
 have d1 := dupsS_at c.dups hd e3 hHl2 c.dups.length (Nat.le_refl _)
 unfold rdSack hdSack
 rw [s4, g0, g1, g2, d0, d1, s1, n1, n2]
 simp only [List.take_length, w.1]
theorem rd_3 {c : Ck} (h : GoodC c) (hf : Fit c) (hk : c.kind = 3) : rdSack (valB c) = c := by
 have hg := good_3 h hk
 have hu := h.use
 rw [usedC_3 hk] at hu
 have hb := gapsB_at c.gaps (-1) (by omega) hg.2.1
 refine Eq.trans (sack_at hg.1 ?_ hf.dups hg.2.2.1 hg.2.2.2 hf.tsn (by simp [valB, hk])) hu.symm
 intro p hp
 obtain ⟨k, hk', rfl⟩ := List.getElem_of_mem hp
 have := hb k hk'
 simp only [List.getD_eq_getElem?_getD, List.getElem?_eq_getElem hk', Option.getD_some] at this
 omega
theorem rd_good {c : Ck} (h : GoodC c) (hf : Fit c) : rdC c.kind (flagN c.pb c.pe c.pu) (valB c) = c := by
 have hu := h.use
 rcases knB_cases h.kn with hk | hk | hk | hk | hk | hk | hk | hk | hk | hk | hk | hk | hk | hk | hk | hk
 ·
  rw [rdC, if_pos hk]; exact rd_0 h hf hk
 ·
  rw [rdC, if_neg (by omega), if_pos (.inl hk)]; exact rd_12 h hf (.inl hk)
 ·
  rw [rdC, if_neg (by omega), if_pos (.inr hk)]; exact rd_12 h hf (.inr hk)
 ·
  rw [rdC, if_neg (by omega), if_neg (by omega), if_pos hk]; exact rd_3 h hf hk
 ·
  rw [usedC_4 hk] at hu
  have hV : valB c = writeB [((1 : Int), c.info)] := by rw [writeB_one]; simp [valB, hk]
  rw [rdC, if_neg (by omega), if_neg (by omega), if_neg (by omega), if_pos (by omega), rest_0, hV, rdPars_write (fun p hp => by simp at hp; subst hp; exact goodPar (by decide) (by have := good_info h (by omega); omega)), hk]
  simp only [parsT, List.foldl_nil, List.foldl_cons, parK]
  exact hu.symm
 ·
  rw [usedC_5 hk] at hu
  have hV : valB c = writeB [((1 : Int), c.info)] := by rw [writeB_one]; simp [valB, hk]
  rw [rdC, if_neg (by omega), if_neg (by omega), if_neg (by omega), if_pos (by omega), rest_0, hV, rdPars_write (fun p hp => by simp at hp; subst hp; exact goodPar (by decide) (by have := good_info h (by omega); omega)), hk]
  simp only [parsT, List.foldl_nil, List.foldl_cons, parK]
  exact hu.symm
 ·
  rw [usedC_6 hk] at hu
  have hg := good_cause h (by omega)
  have x := nat_of (m := 65535) hg
  rw [rdC, if_neg (by omega), if_neg (by omega), if_neg (by omega), if_neg (by omega), if_pos (by omega), num2_0 (n := c.cause.toNat) (R := be 4 2) (by omega) (by simp [valB, hk]), hk, x.1]
  exact hu.symm
 ·
  rw [usedC_7 hk] at hu
  rw [rdC, if_neg (by omega), if_neg (by omega), if_neg (by omega), if_neg (by omega), if_neg (by omega), if_pos (by omega), num4_0 (n := c.tsn) (R := []) hf.tsn (by simp [valB, hk]), hk]
  exact hu.symm
 ·
  have hu8 : usedC c = ck0 8 := by simp [usedC, hk]
  have hu' : c = ck0 c.kind := by rw [hk]; rw [hu8] at hu; exact hu
  rw [rdC, if_neg (by omega), if_neg (by omega), if_neg (by omega), if_neg (by omega), if_neg (by omega), if_neg (by omega), if_neg (by omega), if_neg (by omega), if_neg (by omega)]
  exact hu'.symm
 ·
  rw [usedC_9 hk] at hu
  have hg := good_cause h (by omega)
  have x := nat_of (m := 65535) hg
  rw [rdC, if_neg (by omega), if_neg (by omega), if_neg (by omega), if_neg (by omega), if_pos (by omega), num2_0 (n := c.cause.toNat) (R := be 4 2) (by omega) (by simp [valB, hk]), hk, x.1]
  exact hu.symm
 ·
  rw [usedC_10 hk] at hu
  rw [rdC, if_neg (by omega), if_neg (by omega), if_neg (by omega), if_neg (by omega), if_neg (by omega), if_neg (by omega), if_pos (by omega), rest_0, hk]
  have hV : valB c = c.info := by simp [valB, hk]
  rw [hV]
  exact hu.symm
 ·
  have hu8 : usedC c = ck0 11 := by simp [usedC, hk]
  have hu' : c = ck0 c.kind := by rw [hk]; rw [hu8] at hu; exact hu
  rw [rdC, if_neg (by omega), if_neg (by omega), if_neg (by omega), if_neg (by omega), if_neg (by omega), if_neg (by omega), if_neg (by omega), if_neg (by omega), if_neg (by omega)]
  exact hu'.symm
 ·
  have hu8 : usedC c = ck0 14 := by simp [usedC, hk]
  have hu' : c = ck0 c.kind := by rw [hk]; rw [hu8] at hu; exact hu
  rw [rdC, if_neg (by omega), if_neg (by omega), if_neg (by omega), if_neg (by omega), if_neg (by omega), if_neg (by omega), if_neg (by omega), if_neg (by omega), if_neg (by omega)]
  exact hu'.symm
 ·
  rw [usedC_15 hk] at hu
  rw [rdC, if_neg (by omega), if_neg (by omega), if_neg (by omega), if_neg (by omega), if_neg (by omega), if_neg (by omega), if_pos (by omega), rest_0, hk]
  have hV : valB c = c.info := by simp [valB, hk]
  rw [hV]
  exact hu.symm
 ·
  rw [usedC_128 hk] at hu
  have e : valB c = be c.serial 4 ++ (be (if c.ok = true then 1 else 0) 4 ++ []) := by simp [valB, hk]
  have n1 : numS (valB c) (some 0) 4 = (some 4, c.serial) := num4_at (P := []) hf.serial e rfl
  have n2 : numS (valB c) (some 4) 4 = (some 8, if c.ok = true then 1 else 0) := num4_at (P := be c.serial 4) (by split <;> decide) e rfl
  have s1 : st1 (valB c) = some 4 := by unfold st1; rw [n1]
  rw [rdC, if_neg (by omega), if_neg (by omega), if_neg (by omega), if_neg (by omega), if_neg (by omega), if_neg (by omega), if_neg (by omega), if_neg (by omega), if_pos (by omega), s1, n1, n2, hk]
  refine Eq.trans ?_ hu.symm
  cases c.ok <;> rfl
 ·
  rw [usedC_193 hk] at hu
  have hg := good_193 h hk
  have e : valB c = be c.serial 4 ++ (writeB (pOps c.ops)) := by simp [valB, hk, opsV]
  have n1 : numS (valB c) (some 0) 4 = (some 4, c.serial) := num4_at (P := []) hf.serial e rfl
  have s1 : st1 (valB c) = some 4 := by unfold st1; rw [n1]
  rw [rdC, if_neg (by omega), if_neg (by omega), if_neg (by omega), if_neg (by omega), if_neg (by omega), if_neg (by omega), if_neg (by omega), if_pos (by omega), s1, (rest_at (P := be c.serial 4) (a := 4) e rfl).1, n1, rdPars_write (pOps_good hg.2), parsT_ops _ _ hg.2, hk]
  refine Eq.trans ?_ hu.symm
  simp [ck0]
/-- What is read of a good chunk's bytes. -/
theorem rd_bytes {c : Ck} (h : GoodC c) (hf : Fit c) {B : List Nat} (hB : bytesB c = B) : rdC (hdK B : Int) (hdF B) (hdV B) = c := by
 have hk : c.kind = ((c.kind.toNat : Nat) : Int) ∧ c.kind.toNat < 256 := by rcases knB_cases h.kn with hk | hk | hk | hk | hk | hk | hk | hk | hk | hk | hk | hk | hk | hk | hk | hk <;> rw [hk] <;> decide
 have hF : flagN c.pb c.pe c.pu < 256 := by cases c.pb <;> cases c.pe <;> cases c.pu <;> decide
 have hl := valB_len h
 obtain ⟨h1, h2, h3⟩ := hd_bytes (B := B) (V := valB c) (by rw [← hB]; rfl) hk.2 hF (by omega)
 rw [h1, h2, h3, ← hk.1]
 exact rd_good h hf
set_option maxRecDepth 100000
theorem wl_setR {w0 w : World} {q : Nat} {c : Ck} {s : Sv} {B : List Nat} {st : Option Nat} (h : RS w0 w q c s B st) {ops : Array Oper} {rest : List Oper} {o : Oper} {a : Act} {Q : Exit → Act → World → Prop} (hgd : o.guard = none) {t : TypeId} (hT : OneT Try.prog t) {x y : Operand} (j : Nat) {v : Value} (ho : o.op = .store t x y) (hx : a.eval x = .pointer (some ⟨q, j, none⟩)) (hy : a.eval y = v) (hv : v.cells = #[v]) (h1 : v.oneCell' = true) (hj : j < 23) (c' : Ck) (s' : Sv) (hset : ∀ z, (RV c s z).setIfInBounds j v = RV c' s' z) (hown : OwnC w w0.heap.size s' c') (hfit : Fit c')
  (hk : ∀ w', RS w0 w' q c' s' B st → wpList Try.prog ops Q rest (a.put o.dst undef) w') : wpList Try.prog ops Q (o :: rest) a w := by
 obtain ⟨gi, bv, hb, hq, hl, hi⟩ := h.rd
 refine wl_set hgd hT ho hx hy hv h1 hb (show j < (RV c s (ptr gi)).size from hj) ?_
 intro w' hb' hk' _
 rw [hset] at hb'
 exact hk w' (h.put hb hq hl hi hb' hk' hown hfit)
/-- The same, where it reads by name. -/
structure RSg (w0 w : World) (q : Nat) (c : Ck) (s : Sv) (B : List Nat) (st : Option Nat) (gi : Nat) (bv : Value) : Prop where
 rs : RS w0 w q c s B st
 hb : Blk w q (RV c s (ptr gi)) 91
 ne : gi ≠ q
 lo : w0.heap.size ≤ gi
 hi : InAt w w0.heap.size gi bv B st
theorem RS.g {w0 w : World} {q : Nat} {c : Ck} {s : Sv} {B : List Nat} {st : Option Nat} (h : RS w0 w q c s B st) : ∃ gi bv, RSg w0 w q c s B st gi bv := by
 obtain ⟨gi, bv, h1, h2, h3, h4⟩ := h.rd
 exact ⟨gi, bv, h, h1, h2, h3, h4⟩
theorem RSg.grow {w0 w w' : World} {q : Nat} {c : Ck} {s : Sv} {B : List Nat} {st : Option Nat} {gi : Nat} {bv : Value} (h : RSg w0 w q c s B st gi bv) (he : Ext w w') : RSg w0 w' q c s B st gi bv :=
 ⟨h.rs.grow he, h.hb.ext he, h.ne, h.lo, h.hi.ext he⟩
theorem RSg.step {w0 w w' : World} {q : Nat} {c : Ck} {s : Sv} {B : List Nat} {st st' : Option Nat} {gi : Nat} {bv : Value} (h : RSg w0 w q c s B st gi bv) (hi : InAt w' w0.heap.size gi bv B st') (hk : KeepBut (· = gi) w w') : RSg w0 w' q c s B st' gi bv :=
 ⟨h.rs.step h.hb h.ne h.lo h.hi hi hk, h.hb.but hk (fun e => h.ne e.symm), h.ne, h.lo, hi⟩
/-- What holds while the region goes. -/
structure RestI (w0 : World) (q gi : Nat) (bv : Value) (c : Ck) (s : Sv) (B : List Nat) (st : Option Nat) (L : Nat → Bool) (vs : Nat → Value) (wx : World) : Prop where
 a : L 9 = false → RSg w0 wx q c s B st gi bv
 k0 : L 0 = true → vs 0 = ptr q
 k1 : L 1 = true → vs 1 = ptr q
 k2 : L 2 = true → vs 2 = .pointer (some ⟨q, 22, none⟩)
 k3 : L 3 = true → vs 3 = ptr gi
 k4 : L 4 = true → vs 4 = ptr q
 k5 : L 5 = true → vs 5 = ptr q
 k6 : L 6 = true → vs 6 = .pointer (some ⟨q, 22, none⟩)
 k7 : L 7 = true → vs 7 = ptr gi
 k8 : L 8 = true → vs 8 = .int .i64 (leftS B st : Nat)
 k9 : L 9 = true → ∃ a cp, vs 9 = .slice a (rdRest B st).length cp ∧ OB wx w0.heap.size (.slice a (rdRest B st).length cp) (rdRest B st) ∧ RS w0 wx q c s B (rdRestS B st)
 kA : L 10 = true → L 9 = true ∧ vs 10 = vs 9
 i9 : L 9 = true → L 8 = true
 j9 : L 9 = true → L 3 = true ∧ L 7 = true
 j8 : L 8 = true → L 7 = true
def RestIs (w0 : World) (q : Nat) (c : Ck) (s : Sv) (B : List Nat) (st : Option Nat) (e : Ending) (w' : World) : Prop := ∃ a cp, e = .returned (.slice a (rdRest B st).length cp) ∧ OB w' w0.heap.size (.slice a (rdRest B st).length cp) (rdRest B st) ∧ RS w0 w' q c s B (rdRestS B st)
set_option maxHeartbeats 4000000 in
theorem rest_any {w0 w : World} {q : Nat} {c : Ck} {s : Sv} {B : List Nat} {st : Option Nat} (h : RS w0 w q c s B st) (hB : B.length ≤ 1000000) :
  Calls Try.prog 83 #[ptr q] w (RestIs w0 q c s B st) := by
 obtain ⟨gi, bv, hg⟩ := h.g
 have HX : Hid (RSg w0 w q c s B st gi bv ∧ B.length ≤ 1000000) := ⟨hg, hB⟩
 clear h hg hB
 go_enter Try.func83, Try.ntmps83
 refine wp_seq_k (fun K hK => ?_)
 have HK := Stop.mk hK
 clear hK
 go_wp2
 refine HK.go _ _ ?_
 clear HK
 refine wp_seq_k (fun K2 hK2 => ?_)
 have HK2 := Stop.mk hK2
 clear hK2
 refine wp_region_W (RestI w0 q gi bv c s B st) (fun t => bif Nat.ble 3 t && Nat.ble t 12 then some (t - 3) else bif Nat.beq t 2 then some 10 else none) 13 rfl (by kernel_rfl) rfl (fun vs => ⟨fun _ => HX.out.1.grow (Ext.drew _), fun h => by simp at h, fun h => by simp at h, fun h => by simp at h, fun h => by simp at h, fun h => by simp at h, fun h => by simp at h, fun h => by simp at h, fun h => by simp at h, fun h => by simp at h, fun h => by simp at h, fun h => by simp at h, fun h => by simp at h, fun h => by simp at h, fun h => by simp at h⟩) ?_ ?_
 ·
  refine Ow ⟨rfl, ?_⟩ (Ow ⟨rfl, ?_⟩ (Ow ⟨rfl, ?_⟩ (Ow ⟨rfl, ?_⟩ (Ow ⟨rfl, ?_⟩ (Ow ⟨rfl, ?_⟩ (Ow ⟨rfl, ?_⟩ (Ow ⟨rfl, ?_⟩ (Ow ⟨rfl, ?_⟩ (Ow ⟨rfl, ?_⟩ (Ow ⟨rfl, ?_⟩ OwedVs.nil))))))))))
  ·
   intro L vs wx r H hl hL hx
   obtain ⟨h1, _⟩ := hx
   replace h1 : r (.tmp 0) = ptr q := h1
   exact give_move (.inl rfl) (by rw [h1]; exact ⟨H.a, fun _ => rfl, H.k1, H.k2, H.k3, H.k4, H.k5, H.k6, H.k7, H.k8, H.k9, H.kA, H.i9, H.j9, H.j8⟩)
  ·
   intro L vs wx r H hl hL hx
   obtain ⟨h1, _⟩ := hx
   replace h1 : r (.tmp 3) = ptr q := Eq.trans h1 (H.k0 (hL 0 (by kernel_rfl)))
   exact gvo (by simp [execOp, h1, ptr, go_sem]; done) ⟨H.a, H.k0, fun _ => rfl, H.k2, H.k3, H.k4, H.k5, H.k6, H.k7, H.k8, H.k9, H.kA, H.i9, H.j9, H.j8⟩
  ·
   intro L vs wx r H hl hL hx
   obtain ⟨h1, _⟩ := hx
   replace h1 : r (.tmp 4) = ptr q := Eq.trans h1 (H.k1 (hL 1 (by kernel_rfl)))
   exact gvo (by simp [execOp, h1, ptr, go_sem]; done) ⟨H.a, H.k0, H.k1, fun _ => rfl, H.k3, H.k4, H.k5, H.k6, H.k7, H.k8, H.k9, H.kA, H.i9, H.j9, H.j8⟩
  ·
   intro L vs wx r H hl hL hx
   obtain ⟨h1, _⟩ := hx
   replace h1 : r (.tmp 5) = .pointer (some ⟨q, 22, none⟩) := Eq.trans h1 (H.k2 (hL 2 (by kernel_rfl)))
   have h9 : L 9 = false := by cases h : L 9 with
    | false => rfl
    | true => exact absurd ((H.j9 h).1.symm.trans hl) (by decide)
   exact gvo (exg onePI rfl h1 (rv22 (H.a h9).hb)) ⟨H.a, H.k0, H.k1, H.k2, fun _ => rfl, H.k4, H.k5, H.k6, H.k7, H.k8, H.k9, H.kA, H.i9, fun h => ⟨rfl, (H.j9 h).2⟩, H.j8⟩
  ·
   intro L vs wx r H hl hL hx
   obtain ⟨h1, _⟩ := hx
   replace h1 : r (.tmp 0) = ptr q := h1
   exact give_move (.inl rfl) (by rw [h1]; exact ⟨H.a, H.k0, H.k1, H.k2, H.k3, fun _ => rfl, H.k5, H.k6, H.k7, H.k8, H.k9, H.kA, H.i9, H.j9, H.j8⟩)
  ·
   intro L vs wx r H hl hL hx
   obtain ⟨h1, _⟩ := hx
   replace h1 : r (.tmp 7) = ptr q := Eq.trans h1 (H.k4 (hL 4 (by kernel_rfl)))
   exact gvo (by simp [execOp, h1, ptr, go_sem]; done) ⟨H.a, H.k0, H.k1, H.k2, H.k3, H.k4, fun _ => rfl, H.k6, H.k7, H.k8, H.k9, H.kA, H.i9, H.j9, H.j8⟩
  ·
   intro L vs wx r H hl hL hx
   obtain ⟨h1, _⟩ := hx
   replace h1 : r (.tmp 8) = ptr q := Eq.trans h1 (H.k5 (hL 5 (by kernel_rfl)))
   exact gvo (by simp [execOp, h1, ptr, go_sem]; done) ⟨H.a, H.k0, H.k1, H.k2, H.k3, H.k4, H.k5, fun _ => rfl, H.k7, H.k8, H.k9, H.kA, H.i9, H.j9, H.j8⟩
  ·
   intro L vs wx r H hl hL hx
   obtain ⟨h1, _⟩ := hx
   replace h1 : r (.tmp 9) = .pointer (some ⟨q, 22, none⟩) := Eq.trans h1 (H.k6 (hL 6 (by kernel_rfl)))
   have h9 : L 9 = false := by cases h : L 9 with
    | false => rfl
    | true => exact absurd ((H.j9 h).2.symm.trans hl) (by decide)
   exact gvo (exg onePI rfl h1 (rv22 (H.a h9).hb)) ⟨H.a, H.k0, H.k1, H.k2, H.k3, H.k4, H.k5, H.k6, fun _ => rfl, H.k8, H.k9, H.kA, H.i9, fun h => ⟨(H.j9 h).1, rfl⟩, fun _ => rfl⟩
  ·
   intro L vs wx r H hl hL hx
   obtain ⟨h1, h2, _⟩ := hx
   replace h1 : r (.func 49) = .func (.func 49) #[] #[] := h1
   replace h2 : r (.tmp 10) = ptr gi := Eq.trans h2 (H.k7 (hL 7 (by kernel_rfl)))
   have h9 : L 9 = false := by cases h : L 9 with
    | false => rfl
    | true => exact absurd ((H.i9 h).symm.trans hl) (by decide)
   refine give_func #[ptr gi] rfl h1 Try.call49 (by simp [h2]) ?_
   refine (left_any (H.a h9).hi HX.out.2).mono ?_
   rintro e w' ⟨rfl, he⟩
   exact ⟨_, rfl, ⟨fun _ => (H.a h9).grow he, H.k0, H.k1, H.k2, H.k3, H.k4, H.k5, H.k6, H.k7, fun _ => rfl, fun h => absurd (h.symm.trans h9) (by decide), H.kA, fun _ => rfl, H.j9, fun _ => hL 7 (by kernel_rfl)⟩⟩
  ·
   intro L vs wx r H hl hL hx
   obtain ⟨h1, h2, h3, _⟩ := hx
   replace h1 : r (.func 41) = .func (.func 41) #[] #[] := h1
   replace h2 : r (.tmp 6) = ptr gi := Eq.trans h2 (H.k3 (hL 3 (by kernel_rfl)))
   replace h3 : r (.tmp 11) = .int .i64 (leftS B st : Nat) := Eq.trans h3 (H.k8 (hL 8 (by kernel_rfl)))
   refine give_func #[ptr gi, .int .i64 (leftS B st : Nat)] rfl h1 Try.call41 (by simp [h2, h3]) ?_
   refine (inTake_any (H.a hl).hi HX.out.2 (leftS B st : Nat)).mono ?_
   rintro e w' ⟨a, m, cp, rfl, rfl, ho, hi, hk⟩
   exact ⟨_, rfl, ⟨fun h => absurd h (by simp [met1]), H.k0, H.k1, H.k2, H.k3, H.k4, H.k5, H.k6, H.k7, H.k8, fun _ => ⟨a, cp, rfl, ⟨ho.own.base (H.a hl).rs.ext.size, ho.all⟩, ((H.a hl).step hi hk).rs⟩, fun h => absurd ((H.kA h).1.symm.trans hl) (by decide), fun _ => hL 8 (by kernel_rfl), fun _ => ⟨hL 3 (by kernel_rfl), H.j8 (hL 8 (by kernel_rfl))⟩, H.j8⟩⟩
  ·
   intro L vs wx r H hl hL hx
   obtain ⟨h1, _⟩ := hx
   replace h1 : r (.tmp 12) = vs 9 := h1
   exact give_move (.inr rfl) (by rw [h1]; exact ⟨H.a, H.k0, H.k1, H.k2, H.k3, H.k4, H.k5, H.k6, H.k7, H.k8, H.k9, fun _ => ⟨hL 9 (by kernel_rfl), rfl⟩, H.i9, H.j9, H.j8⟩)
 ·
  intro vs a1 w1 H ha1
  obtain ⟨a, cp, e9, ho, hr⟩ := H.k9 rfl
  have eA := (H.kA rfl).2.trans e9
  have hs : a1.tmps[2]? = some (.slice a (rdRest B st).length cp) := by rw [ha1, ← eA]; kernel_rfl
  have hdf : a1.defers = [] := by rw [ha1]; exact putAll_defers _ _ _ _
  refine HK2.go _ _ ?_
  clear HK2 ha1
  refine wp_ret ?_
  refine bodyPost_ret (v := .slice a (rdRest B st).length cp) ?_ hdf ⟨a, cp, rfl, ho, hr⟩
  simp [results, Try.results83, go_sem, hs]
end Tlv
end Go.Proofs.Ytbahelhohkhkmaa
