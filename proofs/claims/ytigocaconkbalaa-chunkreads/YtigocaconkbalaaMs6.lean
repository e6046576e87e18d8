/- Texts of the seat, one behind the other. No condition of its own. -/
import Derived.Test.YtigocaconkbalaaMs5
set_option linter.unusedVariables false
set_option linter.unusedSimpArgs false
set_option maxHeartbeats 32000000
set_option maxRecDepth 100000
namespace Go.Proofs.Ytigocaconkbalaa
namespace Tlv
open Go Go.RowKit
theorem zeroOp : (Try.prog.info? 69).bind (·.zero) = some (.agg #[.int .i64 0, .int .i64 0]) := by kernel_rfl
theorem OC.lt {w0 w : World} {g : Nat} {l : List Nat} (h : OC w0 w g l) : g < w.heap.size := by obtain ⟨_, _, v, hv⟩ := h; exact hv.blk.lt
theorem OC.but {w0 w w' : World} {g q : Nat} {l : List Nat} (h : OC w0 w g l) (hq : w0.heap.size ≤ q) (hg : q ≠ g) {t : Nat} {C : Array Value} (hb : Blk w q C t) (ht : t ≠ 5) (hk : KeepBut (· = q) w w') : OC w0 w' g l := by
 obtain ⟨h1, h2, v, h3⟩ := h
 exact ⟨h1, h2.of_but hk (fun k e => by subst e; exact hq), v, h3.but hk (fun e => hg e.symm) (fun k e e2 => h3.own.ne hb ht k e e2)⟩
theorem Kept.new {g : Nat} {w w1 w2 : World} (h : Ext w w1) (hk : KeepBut (· = w.heap.size) w1 w2) : Kept g w w2 := fun q C t hb ht hq => (hb.ext h).but hk (Nat.ne_of_lt hb.lt)
def opsV (c : Ck) : List Nat := be c.serial 4 ++ writeB (pOps c.ops)
theorem opB_at {p : Int × Int} (h : opB p = true) : (1 ≤ p.1 ∧ p.1 ≤ 4) ∧ ∃ A : Nat, p.2 = (A : Int) ∧ A < 2147483648 := by
 unfold opB at h
 rw [Bool.and_eq_true] at h
 refine ⟨?_, adB_nat h.2⟩
 have := h.1
 simp [opK] at this
 omega
theorem putOps_any {w0 w : World} {g : Nat} {l : List Nat} {c : Ck} {s : Sv} (h : OC w0 w g l) (hc : CkAt w0 s c) (hf : Fit c) (hl : l.length ≤ 1000) (hon : c.ops.length ≤ 9) (hop : opsB c.ops = true) :
  Calls Try.prog 64 #[ptr g, .agg (CV c s)] w (PutIs w0 w g (l ++ opsV c)) := by
 have hgq : w.heap.size ≠ g := (Nat.ne_of_lt h.lt).symm
 have HX : Hid (CkAt w0 s c ∧ Fit c ∧ l.length ≤ 1000 ∧ w.heap.size ≠ g ∧ c.ops.length ≤ 9 ∧ opsB c.ops = true) := ⟨hc, hf, hl, hgq, hon, hop⟩
 have wN : IntKind.u64.wrap (c.serial : Int) = (c.serial : Int) := by rw [IntKind.wrap_u64]; have := hf.serial; omega
 have h0 := h
 have hN : Hid (s.oN = c.ops.length) := hc.o.len.1
 have HC : Hid (CkAt w0 s c) := hc
 clear h hc hf hl hgq hon hop
 go_enter Try.func64, Try.ntmps64
 go_wp2_with (first
  | (have q := st1; clear q; go_at_call 27; refine (ocNum st1 c.serial 4 (by have := HX.out.2.2.1; (try simp only [List.length_append, be_len]); omega)).mono ?_; rintro e w2 ⟨⟨y2, rfl⟩, st2, kk⟩; rw [numB4] at st2; replace hb := kk _ _ _ hb (by decide) HX.out.2.2.2.1; replace HK : Hid (Kept g w w2) := HK.out.trans kk; clear kk; have c20_2 := cv20 hb)
  | (refine wl_box (C := CV c s) rfl rfl rfl ?_; intro w1 hb he1 hx; clear hx; have st1 := h0.ext he1; have HK : Hid (Kept g w w1) := Kept.ext he1; clear he1; have c19_1 := cv19 hb))
 obtain ⟨L7, hL7⟩ : ∃ L, L = l ++ be c.serial 4 := ⟨_, rfl⟩
 rw [← hL7] at st2
 have HL7 : Hid (l ++ opsV c = L7 ++ writeB (pOps c.ops) ∧ L7.length ≤ 6000) := ⟨by rw [hL7]; unfold opsV; rw [List.append_assoc], by
  rw [hL7]
  have h2 := HX.out.2.2.1
  simp only [List.length_append, be_len]; omega⟩
 clear hL7 st1 c19_1 c20_2 wN
 have HS : Hid (OC w0 w2 g L7 ∧ Kept g w w2) := ⟨st2, HK.out⟩
 clear st2 hb HK
 obtain ⟨aA, haA⟩ : ∃ x, x = s.oA := ⟨_, rfl⟩
 obtain ⟨n, hn⟩ : ∃ n, n = c.ops.length := ⟨_, rfl⟩
 rw [hN.out, ← hn, ← haA]
 have HAt : Hid (PairsAt w0 (.slice aA n s.oC) c.ops) := show PairsAt w0 _ _ by rw [haA, hn, ← hN.out]; exact HC.out.o
 clear haA
 have hn9 : n ≤ 9 := by rw [hn]; exact HX.out.2.2.2.2.1
 have HN : Hid (n = c.ops.length) := hn
 clear hn
 go_loopg [14] n (fun gm t wr => ∃ k : Nat, k ≤ n ∧ gm = n - k ∧ t = .int .i64 (k : Int) ∧ Hid (OC w0 wr g (L7 ++ writeB (pOps (c.ops.take k))) ∧ Kept g w wr))
 case atStart => exact ⟨0, Nat.zero_le _, rfl, rfl, by rw [show L7 ++ writeB (pOps (c.ops.take 0)) = L7 by simp [pOps, writeB]]; exact HS.out.1, HS.out.2⟩
 case round =>
  obtain ⟨k, hk, rfl, rfl, HR⟩ := hrel
  by_cases hlt : k < n
  ·
   have hd : decide ((k : Int) < (n : Int)) = true := decide_eq_true (by omega)
   have hkL : k < c.ops.length := by rw [← HN.out]; exact hlt
   have hkn : (k : Int) < (n : Int) := by omega
   obtain ⟨b, off, rfl, hc0, hc1⟩ := HAt.out.cellAt k hkL
   obtain ⟨hK, A, hA, hA2⟩ := opB_at (all_getD HX.out.2.2.2.2.2 (0, 0) hkL)
   replace hc0 := HR.out.1.out.cell hc0
   replace hc1 := HR.out.1.out.cell hc1
   obtain ⟨K, hKe⟩ : ∃ K, K = (c.ops.getD k (0, 0)).1 := ⟨_, rfl⟩
   rw [hA] at hc1
   have HA : Hid (writeB (pOps (c.ops.take (k + 1))) = writeB (pOps (c.ops.take k)) ++ parB (49152 + K, be A 4)) := show _ = _ by rw [pOps_snoc hkL, hA, hKe]; rfl
   rw [← hKe] at hc0 hK
   obtain ⟨hK1, hK2⟩ := hK
   clear hA hkL hKe
   go_wp2_with (first
    | (refine wl_loadP rfl rowOp rfl rfl hc0 hc1 ?_)
    | (refine wl_alloc rfl rfl zeroOp ?_; intro w3 hb3 he3 hx; clear hx)
    | (refine wl_store (D := #[.int .i64 K, .int .i64 (A : Int)]) rfl rowOp rfl rfl rfl hb3 rfl rfl (one_pair _ _) ?_; intro w4 hb4 hk4 hx; clear hx; have d0 := hb4.cell 0; have d1 := hb4.cell 1; have st4 := (HR.out.1.ext he3).but (Nat.le_trans HR.out.1.out.size (Nat.le_refl _)) (Nat.ne_of_lt HR.out.1.lt).symm hb3 (by decide) hk4; have HK4 : Hid (Kept g wr w4) := Kept.new he3 hk4)
    | (go_at_call 88; refine (putAddr_any st4 (49152 + K) (by omega) A hA2 (by have h1 := pOps_len c.ops k; have h2 := HL7.out.2; rw [List.length_append]; omega)).mono ?_; rintro e w8 ⟨⟨y8, rfl⟩, st8, k8⟩))
   go_roundg (n - (k + 1))
   case measure => omega
   case rel => exact ⟨k + 1, by omega, rfl, by simp, by rw [HA.out, ← List.append_assoc]; exact st8, HR.out.2.trans (HK4.out.trans k8)⟩
  ·
   have hd : decide ((k : Int) < (n : Int)) = false := decide_eq_false (by omega)
   have HE : Hid (OC w0 wr g (L7 ++ writeB (pOps c.ops))) := by
    have h1 := HR.out.1
    rw [List.take_of_length_le (by rw [← HN.out]; omega)] at h1
    exact h1
   go_wp2
   go_end0
   exact ⟨⟨_, rfl⟩, by rw [HL7.out.1]; exact HE.out, HR.out.2⟩
def gapV (L : List (Int × Int)) : List Nat := L.flatMap fun p => be p.1.toNat 2 ++ be p.2.toNat 2
def dupV (L : List Nat) : List Nat := L.flatMap fun d => be d 4
def sackV (c : Ck) : List Nat := be c.tsn 4 ++ (be c.win.toNat 4 ++ (be c.gaps.length 2 ++ (be c.dups.length 2 ++ (gapV c.gaps ++ dupV c.dups))))
theorem gapV_snoc {L : List (Int × Int)} {k : Nat} (h : k < L.length) : gapV (L.take (k + 1)) = gapV (L.take k) ++ (be (L.getD k (0, 0)).1.toNat 2 ++ be (L.getD k (0, 0)).2.toNat 2) := by
 rw [take_snocD (0, 0) h]; simp [gapV]
theorem dupV_snoc {L : List Nat} {k : Nat} (h : k < L.length) : dupV (L.take (k + 1)) = dupV (L.take k) ++ be (L.getD k 0) 4 := by
 rw [take_snocD 0 h]; simp [dupV]
theorem gapV_len : ∀ (L : List (Int × Int)), (gapV L).length = 4 * L.length
 | [] => rfl
 | p :: L => by
  have := gapV_len L
  unfold gapV at *
  rw [List.flatMap_cons, List.length_append, List.length_append, be_len, be_len, this, List.length_cons]; omega
theorem dupV_len : ∀ (L : List Nat), (dupV L).length = 4 * L.length
 | [] => rfl
 | p :: L => by
  have := dupV_len L
  unfold dupV at *
  rw [List.flatMap_cons, List.length_append, be_len, this, List.length_cons]; omega
theorem gapsB_at : ∀ (L : List (Int × Int)) (a : Int), -1 ≤ a → gapsB a L = true → ∀ k, k < L.length → 1 ≤ (L.getD k (0, 0)).1 ∧ (L.getD k (0, 0)).1 ≤ (L.getD k (0, 0)).2 ∧ (L.getD k (0, 0)).2 ≤ 65535
 | [], _, _, _, k, hk => by simp at hk
 | p :: L, a, ha, h, k, hk => by
  rw [gapsB_cons, Bool.and_eq_true] at h
  have h1 : a + 2 ≤ p.1 ∧ p.1 ≤ p.2 ∧ p.2 ≤ 65535 := by
   have := h.1
   simp at this
   omega
  cases k with
  | zero => simpa using ⟨by omega, h1.2.1, h1.2.2⟩
  | succ k =>
   have := gapsB_at L p.2 (by omega) h.2 k (by simpa using hk)
   simpa using this
theorem putSack_any {w0 w : World} {g : Nat} {l : List Nat} {c : Ck} {s : Sv} (h : OC w0 w g l) (hc : CkAt w0 s c) (hf : Fit c) (hl : l.length ≤ 1000) (hw : 0 ≤ c.win ∧ c.win ≤ 2147483647) (hgn : c.gaps.length ≤ 16) (hgp : gapsB (-1) c.gaps = true) (hdn : c.dups.length ≤ 16) :
  Calls Try.prog 62 #[ptr g, .agg (CV c s)] w (PutIs w0 w g (l ++ sackV c)) := by
 obtain ⟨W, hW⟩ : ∃ W : Nat, c.win = (W : Int) := ⟨c.win.toNat, by omega⟩
 have hgq : w.heap.size ≠ g := (Nat.ne_of_lt h.lt).symm
 have HX : Hid (CkAt w0 s c ∧ Fit c ∧ l.length ≤ 1000 ∧ w.heap.size ≠ g ∧ c.gaps.length ≤ 16 ∧ gapsB (-1) c.gaps = true ∧ c.dups.length ≤ 16) := ⟨hc, hf, hl, hgq, hgn, hgp, hdn⟩
 have wW : IntKind.u64.wrap (W : Int) = (W : Int) := by rw [IntKind.wrap_u64]; omega
 have wN : IntKind.u64.wrap (c.tsn : Int) = (c.tsn : Int) := by rw [IntKind.wrap_u64]; have := hf.tsn; omega
 have hgN : s.gN = c.gaps.length := hc.g.len.1
 have hdN : s.dN = c.dups.length := by have := (nums_len hc.d).1; rwa [ci_len] at this
 have wG : IntKind.u64.wrap (c.gaps.length : Int) = (c.gaps.length : Int) := by rw [IntKind.wrap_u64]; omega
 have wD : IntKind.u64.wrap (c.dups.length : Int) = (c.dups.length : Int) := by rw [IntKind.wrap_u64]; omega
 have HV : Hid (l ++ sackV c = ((((l ++ be c.tsn 4) ++ be W 4) ++ be c.gaps.length 2) ++ be c.dups.length 2) ++ (gapV c.gaps ++ dupV c.dups)) := show _ = _ by
  unfold sackV; rw [hW]; simp only [List.append_assoc]; rfl
 have HGN : Hid (s.gN = c.gaps.length ∧ s.dN = c.dups.length) := ⟨hgN, hdN⟩
 have h0 := h
 have HC : Hid (CkAt w0 s c) := hc
 obtain ⟨N, hNg⟩ : ∃ n, n = c.gaps.length := ⟨_, rfl⟩
 obtain ⟨M, hMd⟩ : ∃ n, n = c.dups.length := ⟨_, rfl⟩
 have hN16 : N ≤ 16 := by omega
 have hM16 : M ≤ 16 := by omega
 rw [← hNg] at wG hgN HV
 rw [← hMd] at wD hdN HV
 have HN : Hid (N = c.gaps.length ∧ M = c.dups.length) := ⟨hNg, hMd⟩
 clear h hc hf hl hgq hw hgn hgp hdn hNg hMd
 go_enter Try.func62, Try.ntmps62
 go_wp2_with (first
  | (have q := st4; clear q; go_at_call 27; refine (ocNum st4 M 2 (by have := HX.out.2.2.1; (try simp only [List.length_append, be_len]); omega)).mono ?_; rintro e w5 ⟨⟨y5, rfl⟩, st5, kk⟩; rw [numB2] at st5; replace hb := kk _ _ _ hb (by decide) HX.out.2.2.2.1; replace HK : Hid (Kept g w w5) := HK.out.trans kk; clear kk; have c16_5 := cv16 hb)
  | (have q := st3; clear q; go_at_call 27; refine (ocNum st3 N 2 (by have := HX.out.2.2.1; (try simp only [List.length_append, be_len]); omega)).mono ?_; rintro e w4 ⟨⟨y4, rfl⟩, st4, kk⟩; rw [numB2] at st4; replace hb := kk _ _ _ hb (by decide) HX.out.2.2.2.1; replace HK : Hid (Kept g w w4) := HK.out.trans kk; clear kk; have c17_4 := cv17 hb)
  | (have q := st2; clear q; go_at_call 27; refine (ocNum st2 W 4 (by have := HX.out.2.2.1; (try simp only [List.length_append, be_len]); omega)).mono ?_; rintro e w3 ⟨⟨y3, rfl⟩, st3, kk⟩; rw [numB4] at st3; replace hb := kk _ _ _ hb (by decide) HX.out.2.2.2.1; replace HK : Hid (Kept g w w3) := HK.out.trans kk; clear kk; have c16_3 := cv16 hb)
  | (have q := st1; clear q; go_at_call 27; refine (ocNum st1 c.tsn 4 (by have := HX.out.2.2.1; (try simp only [List.length_append, be_len]); omega)).mono ?_; rintro e w2 ⟨⟨y2, rfl⟩, st2, kk⟩; rw [numB4] at st2; replace hb := kk _ _ _ hb (by decide) HX.out.2.2.2.1; replace HK : Hid (Kept g w w2) := HK.out.trans kk; clear kk; have c9_2 := cv9 hb)
  | (refine wl_box (C := CV c s) rfl rfl rfl ?_; intro w1 hb he1 hx; clear hx; have st1 := h0.ext he1; have HK : Hid (Kept g w w1) := Kept.ext he1; clear he1; have c12_1 := cv12 hb))
 obtain ⟨L7, hL7⟩ : ∃ L, L = (((l ++ be c.tsn 4) ++ be W 4) ++ be N 2) ++ be M 2 := ⟨_, rfl⟩
 rw [← hL7] at st5
 have HL7 : Hid (l ++ sackV c = L7 ++ (gapV c.gaps ++ dupV c.dups) ∧ L7.length ≤ 6000) := ⟨by rw [hL7]; exact HV.out, by
  rw [hL7]
  have h2 := HX.out.2.2.1
  simp only [List.length_append, be_len]; omega⟩
 clear hL7 st1 st2 st3 st4 c12_1 c9_2 c16_3 c17_4 c16_5 wN wW wG wD HV hW
 have HS : Hid (OC w0 w5 g L7 ∧ Blk w5 w.heap.size (CV c s) 38 ∧ Kept g w w5) := ⟨st5, hb, HK.out⟩
 clear st5 hb HK
 obtain ⟨aA, haA⟩ : ∃ x, x = s.gA := ⟨_, rfl⟩
 rw [← haA]
 have HAt : Hid (PairsAt w0 (.slice aA N s.gC) c.gaps) := show PairsAt w0 _ _ by rw [haA, HN.out.1, ← HGN.out.1]; exact HC.out.g
 clear haA hgN
 go_loopg [33] N (fun gm t wr => ∃ k : Nat, k ≤ N ∧ gm = N - k ∧ t = .int .i64 (k : Int) ∧ Hid (OC w0 wr g (L7 ++ gapV (c.gaps.take k)) ∧ Blk wr w.heap.size (CV c s) 38 ∧ Kept g w wr))
 case atStart => exact ⟨0, Nat.zero_le _, rfl, rfl, by rw [show L7 ++ gapV (c.gaps.take 0) = L7 by simp [gapV]]; exact HS.out.1, HS.out.2⟩
 case round =>
  obtain ⟨k, hk, rfl, rfl, HR⟩ := hrel
  by_cases hlt : k < N
  ·
   have hd : decide ((k : Int) < (N : Int)) = true := decide_eq_true (by omega)
   have hkL : k < c.gaps.length := by rw [← HN.out.1]; exact hlt
   have hkn : (k : Int) < (N : Int) := by omega
   obtain ⟨b, off, rfl, hc0, hc1⟩ := HAt.out.cellAt k hkL
   obtain ⟨hg1, hg2, hg3⟩ := gapsB_at c.gaps (-1) (by omega) HX.out.2.2.2.2.2.1 k hkL
   replace hc0 := HR.out.1.out.cell hc0
   replace hc1 := HR.out.1.out.cell hc1
   obtain ⟨A, hA⟩ : ∃ A : Nat, (c.gaps.getD k (0, 0)).1 = (A : Int) := ⟨_, (Int.toNat_of_nonneg (by omega)).symm⟩
   obtain ⟨B, hB⟩ : ∃ A : Nat, (c.gaps.getD k (0, 0)).2 = (A : Int) := ⟨_, (Int.toNat_of_nonneg (by omega)).symm⟩
   rw [hA] at hc0 hg1 hg2
   rw [hB] at hc1 hg2 hg3
   have HA : Hid (gapV (c.gaps.take (k + 1)) = gapV (c.gaps.take k) ++ (be A 2 ++ be B 2)) := show _ = _ by rw [gapV_snoc hkL, hA, hB]; rfl
   have HLK : Hid ((L7 ++ gapV (c.gaps.take k)).length ≤ 7000) := by
    have h1 := gapV_len (c.gaps.take k)
    have h2 := HL7.out.2
    have h3 := HX.out.2.2.2.2.1
    rw [List.length_take] at h1
    show _ ≤ _
    rw [List.length_append, h1]; omega
   have wA : IntKind.u64.wrap (A : Int) = (A : Int) := by rw [IntKind.wrap_u64]; omega
   have wB : IntKind.u64.wrap (B : Int) = (B : Int) := by rw [IntKind.wrap_u64]; omega
   clear hA hB hkL hg1 hg2 hg3
   go_wp2_with (first
    | (refine wl_loadP rfl rowGp rfl rfl hc0 hc1 ?_)
    | (refine wl_alloc rfl rfl zeroGp ?_; intro w6 hb6 he6 hx; clear hx)
    | (refine wl_store (D := #[.int .i64 (A : Int), .int .i64 (B : Int)]) rfl rowGp rfl rfl rfl hb6 rfl rfl (one_pair _ _) ?_; intro w7 hb7 hk7 hx; clear hx; have d0 := hb7.cell 0; have st7 := (HR.out.1.ext he6).but (Nat.le_trans HR.out.1.out.size (Nat.le_refl _)) (Nat.ne_of_lt HR.out.1.lt).symm hb6 (by decide) hk7; have HK7 : Hid (Kept g wr w7 ∧ wr.heap.size ≠ g) := ⟨Kept.new he6 hk7, (Nat.ne_of_lt HR.out.1.lt).symm⟩)
    | (have q := st8; clear q; go_at_call 27; refine (ocNum st8 B 2 (by have := HLK.out; simp only [List.length_append, be_len] at *; omega)).mono ?_; rintro e w9 ⟨⟨y9, rfl⟩, st9, k9⟩; rw [numB2] at st9)
    | (have q := st7; clear q; go_at_call 27; refine (ocNum st7 A 2 (by have := HLK.out; omega)).mono ?_; rintro e w8 ⟨⟨y8, rfl⟩, st8, k8⟩; rw [numB2] at st8; have d1 := (k8 _ _ _ hb7 (by decide) HK7.out.2).cell 1))
   go_roundg (N - (k + 1))
   case measure => omega
   case rel =>
    have kk := HK7.out.1.trans (k8.trans k9)
    exact ⟨k + 1, by omega, rfl, by simp, by rw [HA.out, ← List.append_assoc, ← List.append_assoc]; exact st9, kk _ _ _ HR.out.2.1 (by decide) HX.out.2.2.2.1, HR.out.2.2.trans kk⟩
  ·
   have hd : decide ((k : Int) < (N : Int)) = false := decide_eq_false (by omega)
   obtain ⟨L8, hL8⟩ : ∃ L, L = L7 ++ gapV c.gaps := ⟨_, rfl⟩
   have HL8 : Hid (l ++ sackV c = L8 ++ dupV c.dups ∧ L8.length ≤ 6500) := ⟨by rw [hL8, HL7.out.1, List.append_assoc], by
    have h1 := gapV_len c.gaps
    have h2 := HL7.out.2
    have h3 := HX.out.2.2.2.2.1
    rw [hL8, List.length_append, h1]; omega⟩
   have HE : Hid (OC w0 wr g L8 ∧ Blk wr w.heap.size (CV c s) 38 ∧ Kept g w wr) := by
    have h1 := HR.out.1
    rw [List.take_of_length_le (by rw [← HN.out.1]; omega), ← hL8] at h1
    exact ⟨h1, HR.out.2⟩
   clear hL8
   have c17 := cv17 HE.out.2.1
   go_wp2_with fail
   obtain ⟨bA, hbA⟩ : ∃ x, x = s.dA := ⟨_, rfl⟩
   rw [← hbA]
   have HBt : Hid (NumsAt .u32 w0 (.slice bA M s.dC) (ci c.dups)) := show NumsAt .u32 w0 _ _ by rw [hbA, HN.out.2, ← HGN.out.2]; exact HC.out.d
   clear hbA hdN c17
   go_loopg [51] M (fun gm t wi => ∃ k : Nat, k ≤ M ∧ gm = M - k ∧ t = .int .i64 (k : Int) ∧ Hid (OC w0 wi g (L8 ++ dupV (c.dups.take k)) ∧ Kept g w wi))
   case atStart => exact ⟨0, Nat.zero_le _, rfl, rfl, by rw [show L8 ++ dupV (c.dups.take 0) = L8 by simp [dupV]]; exact HE.out.1, HE.out.2.2⟩
   case round =>
    obtain ⟨j, hj, rfl, rfl, HQ⟩ := hrel
    by_cases hlt2 : j < M
    ·
     have hd2 : decide ((j : Int) < (M : Int)) = true := decide_eq_true (by omega)
     have hjL : j < c.dups.length := by rw [← HN.out.2]; exact hlt2
     have hjn : (j : Int) < (M : Int) := by omega
     obtain ⟨b, off, rfl, hc0⟩ := HBt.out.cellAt j (by rw [ci_len]; exact hjL)
     rw [ci_get] at hc0
     replace hc0 := HQ.out.1.out.cell hc0
     have hA3 : c.dups.getD j 0 < 4294967296 := HX.out.2.1.dups _ (getD_mem _ _ _ hjL)
     obtain ⟨A, hA⟩ : ∃ A : Nat, A = c.dups.getD j 0 := ⟨_, rfl⟩
     rw [← hA] at hc0 hA3
     have HA : Hid (dupV (c.dups.take (j + 1)) = dupV (c.dups.take j) ++ be A 4) := show _ = _ by rw [dupV_snoc hjL, hA]
     have HLK : Hid ((L8 ++ dupV (c.dups.take j)).length ≤ 7000) := by
      have h1 := dupV_len (c.dups.take j)
      have h2 := HL8.out.2
      have h3 := HX.out.2.2.2.2.2.2
      rw [List.length_take] at h1
      show _ ≤ _
      rw [List.length_append, h1]; omega
     have wA : IntKind.u64.wrap (A : Int) = (A : Int) := by rw [IntKind.wrap_u64]; omega
     clear hA hjL hA3
     go_wp2_with (first
      | (go_at_call 27; refine (ocNum HQ.out.1 A 4 (by have := HLK.out; omega)).mono ?_; rintro e w8 ⟨⟨y8, rfl⟩, st8, k8⟩; rw [numB4] at st8))
     go_roundg (M - (j + 1))
     case measure => omega
     case rel => exact ⟨j + 1, by omega, rfl, by simp, by rw [HA.out, ← List.append_assoc]; exact st8, HQ.out.2.trans k8⟩
    ·
     have hd2 : decide ((j : Int) < (M : Int)) = false := decide_eq_false (by omega)
     have HF : Hid (OC w0 wr g (L8 ++ dupV c.dups)) := by
      have h1 := HQ.out.1
      rw [List.take_of_length_le (by rw [← HN.out.2]; omega)] at h1
      exact h1
     go_wp2
     go_end0
     exact ⟨⟨_, rfl⟩, by rw [HL8.out.1]; exact HF.out, HQ.out.2⟩
theorem ci_inj {l m : List Nat} (h : ci l = ci m) : l = m := by
 unfold ci at h
 exact (List.map_inj_right (f := fun x : Nat => (x : Int)) (fun a b hab => Int.ofNat.inj hab)).1 h
theorem sameB_eq {c d : Ck} (h : sameB c d = true) : c = d := by
 cases c
 cases d
 simp only [sameB, samePB, Bool.and_eq_true, beq_iff_eq, decide_eq_true_eq] at h
 obtain ⟨⟨⟨⟨⟨⟨⟨⟨⟨⟨⟨⟨⟨⟨⟨h1, ⟨⟨⟨⟨⟨p1, p2⟩, p3⟩, p4⟩, p5⟩, p6⟩, p7⟩, h3⟩, h4⟩, h5⟩, h6⟩, h7⟩, h8⟩, h9⟩, h10⟩, h11⟩, h12⟩, h13⟩, h14⟩, h15⟩, h16⟩ := h
 have e12 := ci_inj h12
 have q1 := Int.ofNat.inj p1
 have q2 := Int.ofNat.inj p2
 have q3 := Int.ofNat.inj p3
 have q4 := Int.ofNat.inj h3
 have q5 := Int.ofNat.inj h7
 have q6 := Int.ofNat.inj h14
 simp_all
theorem sameB_refl (c : Ck) : sameB c c = true := by simp [sameB, samePB]
theorem sameB_iff (c d : Ck) : sameB c d = true ↔ c = d := ⟨sameB_eq, fun h => by subst h; exact sameB_refl c⟩
structure GoodC (c : Ck) : Prop where
 kn : knB c.kind = true
 fits : fitsB c = true
 use : c = usedC c
theorem goodB_iff (c : Ck) : goodB c = true ↔ GoodC c := by
 unfold goodB
 rw [Bool.and_eq_true, Bool.and_eq_true, sameB_iff]
 exact ⟨fun h => ⟨h.1.1, h.1.2, h.2⟩, fun h => ⟨⟨h.kn, h.fits⟩, h.use⟩⟩
theorem knB_cases {k : Int} (h : knB k = true) : k = 0 ∨ k = 1 ∨ k = 2 ∨ k = 3 ∨ k = 4 ∨ k = 5 ∨ k = 6 ∨ k = 7 ∨ k = 8 ∨ k = 9 ∨ k = 10 ∨ k = 11 ∨ k = 14 ∨ k = 15 ∨ k = 128 ∨ k = 193 := by
 simpa [knB, kinds] using h
def valB (c : Ck) : List Nat :=
 if c.kind = 0 then ((be c.ptsn 4 ++ be c.pstr 2) ++ be c.pseq 2) ++ c.text
 else if c.kind = 1 ∨ c.kind = 2 then startV c
 else if c.kind = 3 then sackV c
 else if c.kind = 4 ∨ c.kind = 5 then parB (1, c.info)
 else if c.kind = 6 ∨ c.kind = 9 then be c.cause.toNat 2 ++ be 4 2
 else if c.kind = 7 then be c.tsn 4
 else if c.kind = 10 ∨ c.kind = 15 then c.info
 else if c.kind = 193 then opsV c
 else if c.kind = 128 then be c.serial 4 ++ be (if c.ok = true then 1 else 0) 4
 else []
def bytesB (c : Ck) : List Nat := padB (((be c.kind.toNat 1 ++ be (flagN c.pb c.pe c.pu) 1) ++ be ((valB c).length + 4) 2) ++ valB c)
structure StartC (c : Ck) : Prop where
 tag : c.tag ≠ 0
 win : 0 ≤ c.win ∧ c.win ≤ 2147483647
 out : 1 ≤ c.out ∧ c.out ≤ 8
 inn : 1 ≤ c.inn ∧ c.inn ≤ 8
 rand : 1 ≤ c.rand.length ∧ c.rand.length ≤ 64
 addrs : 1 ≤ c.addrs.length ∧ c.addrs.length ≤ 4
 ads : adsB c.addrs = true
theorem startB_iff (c : Ck) : startB c = true ↔ StartC c := by
 unfold startB
 simp only [Bool.and_eq_true, inB_iff, bne_iff_ne]
 constructor
 ·
  rintro ⟨⟨⟨⟨⟨h1, h2⟩, h3⟩, h4⟩, h5⟩, h6, h7⟩
  exact ⟨by omega, h2, h3, h4, by omega, by omega, h7⟩
 ·
  rintro ⟨h1, h2, h3, h4, h5, h6, h7⟩
  exact ⟨⟨⟨⟨⟨by omega, h2⟩, h3⟩, h4⟩, by omega⟩, by omega, h7⟩
theorem good_0 {c : Ck} (h : GoodC c) (hk : c.kind = 0) : 1 ≤ c.text.length ∧ c.text.length ≤ 64 := by
 have := h.fits; simp only [fitsB, hk, if_true, inB_iff] at this; omega
theorem good_1 {c : Ck} (h : GoodC c) (hk : c.kind = 1) : StartC c := by
 have := h.fits; simp [fitsB, hk] at this; exact (startB_iff c).1 this
theorem good_2 {c : Ck} (h : GoodC c) (hk : c.kind = 2) : StartC c ∧ 1 ≤ c.info.length ∧ c.info.length ≤ 300 := by
 have := h.fits; simp [fitsB, hk] at this
 exact ⟨(startB_iff c).1 this.1, by have := (inB_iff _ _ _).1 this.2; omega⟩
theorem good_3 {c : Ck} (h : GoodC c) (hk : c.kind = 3) : (0 ≤ c.win ∧ c.win ≤ 2147483647) ∧ gapsB (-1) c.gaps = true ∧ c.gaps.length ≤ 16 ∧ c.dups.length ≤ 16 := by
 have := h.fits; simp [fitsB, hk] at this
 exact ⟨(inB_iff _ _ _).1 this.1.1, this.1.2.1, by omega, by omega⟩
theorem good_info {c : Ck} (h : GoodC c) (hk : c.kind = 4 ∨ c.kind = 5 ∨ c.kind = 10) : 1 ≤ c.info.length ∧ c.info.length ≤ 300 := by
 have := h.fits
 have : inB (c.info.length : Int) 1 300 = true := by rcases hk with hk | hk | hk <;> simpa [fitsB, hk] using this
 have := (inB_iff _ _ _).1 this; omega
theorem good_15 {c : Ck} (h : GoodC c) (hk : c.kind = 15) : c.info.length = 32 := by
 have := h.fits; simp [fitsB, hk] at this; omega
theorem good_cause {c : Ck} (h : GoodC c) (hk : c.kind = 6 ∨ c.kind = 9) : 0 ≤ c.cause ∧ c.cause ≤ 65535 := by
 have := h.fits
 have : inB c.cause 0 65535 = true := by rcases hk with hk | hk <;> simpa [fitsB, hk] using this
 exact (inB_iff _ _ _).1 this
theorem good_193 {c : Ck} (h : GoodC c) (hk : c.kind = 193) : (1 ≤ c.ops.length ∧ c.ops.length ≤ 9) ∧ opsB c.ops = true := by
 have := h.fits; simp [fitsB, hk] at this
 exact ⟨by have := (inB_iff _ _ _).1 this.1; omega, this.2⟩
theorem startV_len {c : Ck} (h : StartC c) (hi : c.info.length ≤ 300) : (startV c).length ≤ 600 := by
 unfold startV
 have h1 := h.rand
 have h2 := h.addrs
 have h3 := pAddrs_len c.addrs c.addrs.length
 rw [List.take_length] at h3
 have h4 := pads_lt c.rand.length
 have h5 := pads_lt c.info.length
 simp only [List.length_append, be_len, parB_len]
 split
 ·
  rw [parB_len]; dsimp only; omega
 ·
  simp only [List.length_nil]; omega
theorem valB_len {c : Ck} (h : GoodC c) : (valB c).length ≤ 600 := by
 unfold valB
 split
 ·
  rename_i hk
  have := good_0 h hk
  simp only [List.length_append, be_len]; omega
 split
 ·
  rename_i _ hk
  rcases hk with hk | hk
  ·
   refine startV_len (good_1 h hk) ?_
   have := h.use; rw [usedC_1 hk] at this; rw [this]; simp [ck0]
  ·
   exact startV_len (good_2 h hk).1 (good_2 h hk).2.2
 split
 ·
  rename_i _ _ hk
  have := good_3 h hk
  unfold sackV
  simp only [List.length_append, be_len, gapV_len, dupV_len]; omega
 split
 ·
  rename_i _ _ _ hk
  have := good_info h (hk.imp id .inl)
  have h4 := pads_lt c.info.length
  rw [parB_len]; dsimp only; omega
 split
 ·
  simp only [List.length_append, be_len]; omega
 split
 ·
  simp only [be_len]; omega
 split
 ·
  rename_i _ _ _ _ _ _ hk
  rcases hk with hk | hk
  ·
   have := good_info h (.inr (.inr hk)); omega
  ·
   have := good_15 h hk; omega
 split
 ·
  rename_i _ _ _ _ _ _ _ hk
  have := good_193 h hk
  unfold opsV
  have h3 := pOps_len c.ops c.ops.length
  rw [List.take_length] at h3
  simp only [List.length_append, be_len]; omega
 split
 ·
  simp only [List.length_append, be_len]; omega
 ·
  simp
structure Yes (c : Ck) : Prop where
 kn : knB c.kind = true
 win : 0 ≤ c.win ∧ c.win ≤ 2147483647
 cause : 0 ≤ c.cause ∧ c.cause ≤ 65535
 txt : c.kind = 0 → 1 ≤ c.text.length ∧ c.text.length ≤ 64
 blank : c.kind ≠ 0 → c.ptsn = 0 ∧ c.pstr = 0 ∧ c.pseq = 0 ∧ c.pb = false ∧ c.pe = false ∧ c.pu = false ∧ c.text.length = 0
 beg : (c.kind = 1 ∨ c.kind = 2) → c.tag ≠ 0 ∧ (1 ≤ c.out ∧ c.out ≤ 8) ∧ (1 ≤ c.inn ∧ c.inn ≤ 8) ∧ (1 ≤ c.rand.length ∧ c.rand.length ≤ 64) ∧ (1 ≤ c.addrs.length ∧ c.addrs.length ≤ 4)
 nbeg : ¬ (c.kind = 1 ∨ c.kind = 2) → c.tag = 0 ∧ c.out = 0 ∧ c.inn = 0 ∧ c.rand.length = 0 ∧ c.addrs.length = 0
 ads : adsB c.addrs = true
 w0 : c.win ≠ 0 → c.kind = 1 ∨ c.kind = 2 ∨ c.kind = 3
 t0 : c.tsn ≠ 0 → c.kind = 1 ∨ c.kind = 2 ∨ c.kind = 3 ∨ c.kind = 7
 c0 : c.cause ≠ 0 → c.kind = 6 ∨ c.kind = 9
 i1 : (c.kind = 2 ∨ c.kind = 4 ∨ c.kind = 5 ∨ c.kind = 10) → 1 ≤ c.info.length ∧ c.info.length ≤ 300
 i2 : c.kind = 15 → c.info.length = 32
 i3 : ¬ (c.kind = 2 ∨ c.kind = 4 ∨ c.kind = 5 ∨ c.kind = 10) → c.kind ≠ 15 → c.info.length = 0
 gd : c.kind ≠ 3 → c.gaps.length = 0 ∧ c.dups.length = 0
 gl : c.gaps.length ≤ 16 ∧ c.dups.length ≤ 16
 gps : gapsB (-1) c.gaps = true
 o1 : c.kind = 193 → 1 ≤ c.ops.length ∧ c.ops.length ≤ 9
 o2 : c.kind ≠ 193 → c.ops.length = 0
 s0 : c.serial ≠ 0 → c.kind = 193 ∨ c.kind = 128
 k0 : c.ok = true → c.kind = 128
 opsy : opsB c.ops = true
def pvG (a : Int) (L : List (Int × Int)) (k : Nat) : Int := if k = 0 then a else (L.getD (k - 1) (0, 0)).2
theorem pvG_succ (a : Int) (p : Int × Int) (L : List (Int × Int)) (k : Nat) : pvG a (p :: L) (k + 1) = pvG p.2 L k := by
 cases k <;> simp [pvG]
theorem gapsB_iff : ∀ (L : List (Int × Int)) (a : Int), -1 ≤ a → (gapsB a L = true ↔ ∀ k, k < L.length → (1 ≤ (L.getD k (0, 0)).1 ∧ (L.getD k (0, 0)).2 ≤ 65535 ∧ (L.getD k (0, 0)).1 ≤ (L.getD k (0, 0)).2 ∧ pvG a L k + 2 ≤ (L.getD k (0, 0)).1)) := by
 intro L
 induction L with
 | nil => intro a _; exact ⟨fun _ k hk => absurd hk (by simp), fun _ => rfl⟩
 | cons p L ih =>
  intro a ha
  rw [gapsB_cons, Bool.and_eq_true, Bool.not_eq_true', Bool.or_eq_false_iff, Bool.or_eq_false_iff, decide_eq_false_iff_not, decide_eq_false_iff_not, decide_eq_false_iff_not]
  constructor
  ·
   rintro ⟨⟨h1, h2, h3⟩, h4⟩ k hk
   cases k with
   | zero => simp [pvG]; omega
   | succ k =>
    have := (ih p.2 (by omega)).1 h4 k (by simpa using hk)
    rw [pvG_succ]
    simpa using this
  ·
   intro h
   have h0 := h 0 (by simp)
   simp [pvG] at h0
   refine ⟨by omega, (ih p.2 (by omega)).2 fun k hk => ?_⟩
   have := h (k + 1) (by simpa using hk)
   rw [pvG_succ] at this
   simpa using this
theorem good_yes_0 {c : Ck} (hk : c.kind = 0) (g : GoodC c) : Yes c := by
 have hu := g.use
 rw [show usedC c = _ from usedC_0 hk] at hu
 have e_tag : c.tag = 0 := congrArg Ck.tag hu
 have e_win : c.win = 0 := congrArg Ck.win hu
 have e_out : c.out = 0 := congrArg Ck.out hu
 have e_inn : c.inn = 0 := congrArg Ck.inn hu
 have e_tsn : c.tsn = 0 := congrArg Ck.tsn hu
 have e_rand : c.rand = [] := congrArg Ck.rand hu
 have e_addrs : c.addrs = [] := congrArg Ck.addrs hu
 have e_info : c.info = [] := congrArg Ck.info hu
 have e_gaps : c.gaps = [] := congrArg Ck.gaps hu
 have e_dups : c.dups = [] := congrArg Ck.dups hu
 have e_cause : c.cause = 0 := congrArg Ck.cause hu
 have e_serial : c.serial = 0 := congrArg Ck.serial hu
 have e_ops : c.ops = [] := congrArg Ck.ops hu
 have e_ok : c.ok = false := congrArg Ck.ok hu
 clear hu
 have hf := good_0 g hk
 have l_rand : c.rand.length = 0 := by rw [e_rand]; rfl
 have l_addrs : c.addrs.length = 0 := by rw [e_addrs]; rfl
 have l_info : c.info.length = 0 := by rw [e_info]; rfl
 have l_gaps : c.gaps.length = 0 := by rw [e_gaps]; rfl
 have l_dups : c.dups.length = 0 := by rw [e_dups]; rfl
 have l_ops : c.ops.length = 0 := by rw [e_ops]; rfl
 exact ⟨g.kn, (by omega), (by omega), (by omega), fun h => absurd hk h, (by omega), (by omega), (by rw [e_addrs]; rfl), (by omega), (by omega), (by omega), (by omega), (by omega), (by omega), fun _ => ⟨l_gaps, l_dups⟩, (by omega), (by rw [e_gaps]; rfl), (by omega), (by omega), (by omega), (by rw [e_ok]; intro h; cases h), (by rw [e_ops]; rfl)⟩
theorem yes_good_0 {c : Ck} (hk : c.kind = 0) (y : Yes c) : GoodC c := by
 obtain ⟨y1, y2, y3, y4, y5, y6, y7, y8, y9, y10, y11, y12, y13, y14, y15, y16, y17, y18, y19, y20, y21, y22⟩ := y
 obtain ⟨e_tag, e_out, e_inn, l_rand, l_addrs⟩ := y7 (by omega)
 have e_win : c.win = 0 := by omega
 have e_tsn : c.tsn = 0 := by omega
 have l_info : c.info.length = 0 := y14 (by omega) (by omega)
 obtain ⟨l_gaps, l_dups⟩ := y15 (by omega)
 have e_cause : c.cause = 0 := by omega
 have e_serial : c.serial = 0 := by omega
 have l_ops : c.ops.length = 0 := y19 (by omega)
 have e_ok : c.ok = false := by cases h : c.ok with | true => have := y21 h; omega | false => rfl
 have e_rand : c.rand = [] := List.length_eq_zero_iff.1 l_rand
 have e_addrs : c.addrs = [] := List.length_eq_zero_iff.1 l_addrs
 have e_info : c.info = [] := List.length_eq_zero_iff.1 l_info
 have e_gaps : c.gaps = [] := List.length_eq_zero_iff.1 l_gaps
 have e_dups : c.dups = [] := List.length_eq_zero_iff.1 l_dups
 have e_ops : c.ops = [] := List.length_eq_zero_iff.1 l_ops
 refine ⟨y1, by have := y4 hk;  simp only [fitsB, hk, if_true, inB_iff];  omega, ?_⟩
 rw [show usedC c = _ from usedC_0 hk]
 clear y1 y2 y3 y4 y5 y6 y7 y8 y9 y10 y11 y12 y13 y14 y15 y16 y17 y18 y19 y20 y21 y22
 cases c
 simp only at *
 subst hk e_tag e_win e_out e_inn e_tsn e_rand e_addrs e_info e_gaps e_dups e_cause e_serial e_ops e_ok
 rfl
theorem good_yes_1 {c : Ck} (hk : c.kind = 1) (g : GoodC c) : Yes c := by
 have hu := g.use
 rw [show usedC c = _ from usedC_1 hk] at hu
 have e_ptsn : c.ptsn = 0 := congrArg Ck.ptsn hu
 have e_pstr : c.pstr = 0 := congrArg Ck.pstr hu
 have e_pseq : c.pseq = 0 := congrArg Ck.pseq hu
 have e_pb : c.pb = false := congrArg Ck.pb hu
 have e_pe : c.pe = false := congrArg Ck.pe hu
 have e_pu : c.pu = false := congrArg Ck.pu hu
 have e_text : c.text = [] := congrArg Ck.text hu
 have e_info : c.info = [] := congrArg Ck.info hu
 have e_gaps : c.gaps = [] := congrArg Ck.gaps hu
 have e_dups : c.dups = [] := congrArg Ck.dups hu
 have e_cause : c.cause = 0 := congrArg Ck.cause hu
 have e_serial : c.serial = 0 := congrArg Ck.serial hu
 have e_ops : c.ops = [] := congrArg Ck.ops hu
 have e_ok : c.ok = false := congrArg Ck.ok hu
 clear hu
 have hf := good_1 g hk
 obtain ⟨f1, f2, f3, f4, f5, f6, f7⟩ := hf
 have l_text : c.text.length = 0 := by rw [e_text]; rfl
 have l_info : c.info.length = 0 := by rw [e_info]; rfl
 have l_gaps : c.gaps.length = 0 := by rw [e_gaps]; rfl
 have l_dups : c.dups.length = 0 := by rw [e_dups]; rfl
 have l_ops : c.ops.length = 0 := by rw [e_ops]; rfl
 exact ⟨g.kn, (by omega), (by omega), (by omega), fun _ => ⟨e_ptsn, e_pstr, e_pseq, e_pb, e_pe, e_pu, l_text⟩, fun _ => ⟨f1, f3, f4, f5, f6⟩, (by omega), f7, (by omega), (by omega), (by omega), (by omega), (by omega), (by omega), fun _ => ⟨l_gaps, l_dups⟩, (by omega), (by rw [e_gaps]; rfl), (by omega), (by omega), (by omega), (by rw [e_ok]; intro h; cases h), (by rw [e_ops]; rfl)⟩
theorem yes_good_1 {c : Ck} (hk : c.kind = 1) (y : Yes c) : GoodC c := by
 obtain ⟨y1, y2, y3, y4, y5, y6, y7, y8, y9, y10, y11, y12, y13, y14, y15, y16, y17, y18, y19, y20, y21, y22⟩ := y
 obtain ⟨e_ptsn, e_pstr, e_pseq, e_pb, e_pe, e_pu, l_text⟩ := y5 (by omega)
 have l_info : c.info.length = 0 := y14 (by omega) (by omega)
 obtain ⟨l_gaps, l_dups⟩ := y15 (by omega)
 have e_cause : c.cause = 0 := by omega
 have e_serial : c.serial = 0 := by omega
 have l_ops : c.ops.length = 0 := y19 (by omega)
 have e_ok : c.ok = false := by cases h : c.ok with | true => have := y21 h; omega | false => rfl
 have e_text : c.text = [] := List.length_eq_zero_iff.1 l_text
 have e_info : c.info = [] := List.length_eq_zero_iff.1 l_info
 have e_gaps : c.gaps = [] := List.length_eq_zero_iff.1 l_gaps
 have e_dups : c.dups = [] := List.length_eq_zero_iff.1 l_dups
 have e_ops : c.ops = [] := List.length_eq_zero_iff.1 l_ops
 refine ⟨y1, by have h := y6 (.inl hk);  simp only [fitsB, hk, Int.reduceEq, if_false, if_true];  exact (startB_iff c).2 ⟨h.1, y2, h.2.1, h.2.2.1, h.2.2.2.1, h.2.2.2.2, y8⟩, ?_⟩
 rw [show usedC c = _ from usedC_1 hk]
 clear y1 y2 y3 y4 y5 y6 y7 y8 y9 y10 y11 y12 y13 y14 y15 y16 y17 y18 y19 y20 y21 y22
 cases c
 simp only at *
 subst hk e_ptsn e_pstr e_pseq e_pb e_pe e_pu e_text e_info e_gaps e_dups e_cause e_serial e_ops e_ok
 rfl
theorem good_yes_2 {c : Ck} (hk : c.kind = 2) (g : GoodC c) : Yes c := by
 have hu := g.use
 rw [show usedC c = _ from usedC_2 hk] at hu
 have e_ptsn : c.ptsn = 0 := congrArg Ck.ptsn hu
 have e_pstr : c.pstr = 0 := congrArg Ck.pstr hu
 have e_pseq : c.pseq = 0 := congrArg Ck.pseq hu
 have e_pb : c.pb = false := congrArg Ck.pb hu
 have e_pe : c.pe = false := congrArg Ck.pe hu
 have e_pu : c.pu = false := congrArg Ck.pu hu
 have e_text : c.text = [] := congrArg Ck.text hu
 have e_gaps : c.gaps = [] := congrArg Ck.gaps hu
 have e_dups : c.dups = [] := congrArg Ck.dups hu
 have e_cause : c.cause = 0 := congrArg Ck.cause hu
 have e_serial : c.serial = 0 := congrArg Ck.serial hu
 have e_ops : c.ops = [] := congrArg Ck.ops hu
 have e_ok : c.ok = false := congrArg Ck.ok hu
 clear hu
 have hf := good_2 g hk
 obtain ⟨⟨f1, f2, f3, f4, f5, f6, f7⟩, f8⟩ := hf
 have l_text : c.text.length = 0 := by rw [e_text]; rfl
 have l_gaps : c.gaps.length = 0 := by rw [e_gaps]; rfl
 have l_dups : c.dups.length = 0 := by rw [e_dups]; rfl
 have l_ops : c.ops.length = 0 := by rw [e_ops]; rfl
 exact ⟨g.kn, (by omega), (by omega), (by omega), fun _ => ⟨e_ptsn, e_pstr, e_pseq, e_pb, e_pe, e_pu, l_text⟩, fun _ => ⟨f1, f3, f4, f5, f6⟩, (by omega), f7, (by omega), (by omega), (by omega), (by omega), (by omega), (by omega), fun _ => ⟨l_gaps, l_dups⟩, (by omega), (by rw [e_gaps]; rfl), (by omega), (by omega), (by omega), (by rw [e_ok]; intro h; cases h), (by rw [e_ops]; rfl)⟩
theorem yes_good_2 {c : Ck} (hk : c.kind = 2) (y : Yes c) : GoodC c := by
 obtain ⟨y1, y2, y3, y4, y5, y6, y7, y8, y9, y10, y11, y12, y13, y14, y15, y16, y17, y18, y19, y20, y21, y22⟩ := y
 obtain ⟨e_ptsn, e_pstr, e_pseq, e_pb, e_pe, e_pu, l_text⟩ := y5 (by omega)
 obtain ⟨l_gaps, l_dups⟩ := y15 (by omega)
 have e_cause : c.cause = 0 := by omega
 have e_serial : c.serial = 0 := by omega
 have l_ops : c.ops.length = 0 := y19 (by omega)
 have e_ok : c.ok = false := by cases h : c.ok with | true => have := y21 h; omega | false => rfl
 have e_text : c.text = [] := List.length_eq_zero_iff.1 l_text
 have e_gaps : c.gaps = [] := List.length_eq_zero_iff.1 l_gaps
 have e_dups : c.dups = [] := List.length_eq_zero_iff.1 l_dups
 have e_ops : c.ops = [] := List.length_eq_zero_iff.1 l_ops
 refine ⟨y1, by have h := y6 (.inr hk);  have h2 := y12 (.inl hk);  simp only [fitsB, hk, Int.reduceEq, if_false, if_true, Bool.and_eq_true, inB_iff];  exact ⟨(startB_iff c).2 ⟨h.1, y2, h.2.1, h.2.2.1, h.2.2.2.1, h.2.2.2.2, y8⟩, by omega, by omega⟩, ?_⟩
 rw [show usedC c = _ from usedC_2 hk]
 clear y1 y2 y3 y4 y5 y6 y7 y8 y9 y10 y11 y12 y13 y14 y15 y16 y17 y18 y19 y20 y21 y22
 cases c
 simp only at *
 subst hk e_ptsn e_pstr e_pseq e_pb e_pe e_pu e_text e_gaps e_dups e_cause e_serial e_ops e_ok
 rfl
theorem good_yes_3 {c : Ck} (hk : c.kind = 3) (g : GoodC c) : Yes c := by
 have hu := g.use
 rw [show usedC c = _ from usedC_3 hk] at hu
 have e_ptsn : c.ptsn = 0 := congrArg Ck.ptsn hu
 have e_pstr : c.pstr = 0 := congrArg Ck.pstr hu
 have e_pseq : c.pseq = 0 := congrArg Ck.pseq hu
 have e_pb : c.pb = false := congrArg Ck.pb hu
 have e_pe : c.pe = false := congrArg Ck.pe hu
 have e_pu : c.pu = false := congrArg Ck.pu hu
 have e_text : c.text = [] := congrArg Ck.text hu
 have e_tag : c.tag = 0 := congrArg Ck.tag hu
 have e_out : c.out = 0 := congrArg Ck.out hu
 have e_inn : c.inn = 0 := congrArg Ck.inn hu
 have e_rand : c.rand = [] := congrArg Ck.rand hu
 have e_addrs : c.addrs = [] := congrArg Ck.addrs hu
 have e_info : c.info = [] := congrArg Ck.info hu
 have e_cause : c.cause = 0 := congrArg Ck.cause hu
 have e_serial : c.serial = 0 := congrArg Ck.serial hu
 have e_ops : c.ops = [] := congrArg Ck.ops hu
 have e_ok : c.ok = false := congrArg Ck.ok hu
 clear hu
 have hf := good_3 g hk
 obtain ⟨f1, f2, f3, f4⟩ := hf
 have l_text : c.text.length = 0 := by rw [e_text]; rfl
 have l_rand : c.rand.length = 0 := by rw [e_rand]; rfl
 have l_addrs : c.addrs.length = 0 := by rw [e_addrs]; rfl
 have l_info : c.info.length = 0 := by rw [e_info]; rfl
 have l_ops : c.ops.length = 0 := by rw [e_ops]; rfl
 exact ⟨g.kn, (by omega), (by omega), (by omega), fun _ => ⟨e_ptsn, e_pstr, e_pseq, e_pb, e_pe, e_pu, l_text⟩, (by omega), (by omega), (by rw [e_addrs]; rfl), (by omega), (by omega), (by omega), (by omega), (by omega), (by omega), fun h => absurd hk h, (by omega), f2, (by omega), (by omega), (by omega), (by rw [e_ok]; intro h; cases h), (by rw [e_ops]; rfl)⟩
theorem yes_good_3 {c : Ck} (hk : c.kind = 3) (y : Yes c) : GoodC c := by
 obtain ⟨y1, y2, y3, y4, y5, y6, y7, y8, y9, y10, y11, y12, y13, y14, y15, y16, y17, y18, y19, y20, y21, y22⟩ := y
 obtain ⟨e_ptsn, e_pstr, e_pseq, e_pb, e_pe, e_pu, l_text⟩ := y5 (by omega)
 obtain ⟨e_tag, e_out, e_inn, l_rand, l_addrs⟩ := y7 (by omega)
 have l_info : c.info.length = 0 := y14 (by omega) (by omega)
 have e_cause : c.cause = 0 := by omega
 have e_serial : c.serial = 0 := by omega
 have l_ops : c.ops.length = 0 := y19 (by omega)
 have e_ok : c.ok = false := by cases h : c.ok with | true => have := y21 h; omega | false => rfl
 have e_text : c.text = [] := List.length_eq_zero_iff.1 l_text
 have e_rand : c.rand = [] := List.length_eq_zero_iff.1 l_rand
 have e_addrs : c.addrs = [] := List.length_eq_zero_iff.1 l_addrs
 have e_info : c.info = [] := List.length_eq_zero_iff.1 l_info
 have e_ops : c.ops = [] := List.length_eq_zero_iff.1 l_ops
 refine ⟨y1, by simp only [fitsB, hk, Int.reduceEq, if_false, if_true, Bool.and_eq_true, inB_iff, decide_eq_true_eq];  exact ⟨⟨y2, y17, by omega⟩, by omega⟩, ?_⟩
 rw [show usedC c = _ from usedC_3 hk]
 clear y1 y2 y3 y4 y5 y6 y7 y8 y9 y10 y11 y12 y13 y14 y15 y16 y17 y18 y19 y20 y21 y22
 cases c
 simp only at *
 subst hk e_ptsn e_pstr e_pseq e_pb e_pe e_pu e_text e_tag e_out e_inn e_rand e_addrs e_info e_cause e_serial e_ops e_ok
 rfl
theorem good_yes_4 {c : Ck} (hk : c.kind = 4) (g : GoodC c) : Yes c := by
 have hu := g.use
 rw [show usedC c = _ from usedC_4 hk] at hu
 have e_ptsn : c.ptsn = 0 := congrArg Ck.ptsn hu
 have e_pstr : c.pstr = 0 := congrArg Ck.pstr hu
 have e_pseq : c.pseq = 0 := congrArg Ck.pseq hu
 have e_pb : c.pb = false := congrArg Ck.pb hu
 have e_pe : c.pe = false := congrArg Ck.pe hu
 have e_pu : c.pu = false := congrArg Ck.pu hu
 have e_text : c.text = [] := congrArg Ck.text hu
 have e_tag : c.tag = 0 := congrArg Ck.tag hu
 have e_win : c.win = 0 := congrArg Ck.win hu
 have e_out : c.out = 0 := congrArg Ck.out hu
 have e_inn : c.inn = 0 := congrArg Ck.inn hu
 have e_tsn : c.tsn = 0 := congrArg Ck.tsn hu
 have e_rand : c.rand = [] := congrArg Ck.rand hu
 have e_addrs : c.addrs = [] := congrArg Ck.addrs hu
 have e_gaps : c.gaps = [] := congrArg Ck.gaps hu
 have e_dups : c.dups = [] := congrArg Ck.dups hu
 have e_cause : c.cause = 0 := congrArg Ck.cause hu
 have e_serial : c.serial = 0 := congrArg Ck.serial hu
 have e_ops : c.ops = [] := congrArg Ck.ops hu
 have e_ok : c.ok = false := congrArg Ck.ok hu
 clear hu
 have hf := good_info g (.inl hk)
 have l_text : c.text.length = 0 := by rw [e_text]; rfl
 have l_rand : c.rand.length = 0 := by rw [e_rand]; rfl
 have l_addrs : c.addrs.length = 0 := by rw [e_addrs]; rfl
 have l_gaps : c.gaps.length = 0 := by rw [e_gaps]; rfl
 have l_dups : c.dups.length = 0 := by rw [e_dups]; rfl
 have l_ops : c.ops.length = 0 := by rw [e_ops]; rfl
 exact ⟨g.kn, (by omega), (by omega), (by omega), fun _ => ⟨e_ptsn, e_pstr, e_pseq, e_pb, e_pe, e_pu, l_text⟩, (by omega), (by omega), (by rw [e_addrs]; rfl), (by omega), (by omega), (by omega), (by omega), (by omega), (by omega), fun _ => ⟨l_gaps, l_dups⟩, (by omega), (by rw [e_gaps]; rfl), (by omega), (by omega), (by omega), (by rw [e_ok]; intro h; cases h), (by rw [e_ops]; rfl)⟩
theorem yes_good_4 {c : Ck} (hk : c.kind = 4) (y : Yes c) : GoodC c := by
 obtain ⟨y1, y2, y3, y4, y5, y6, y7, y8, y9, y10, y11, y12, y13, y14, y15, y16, y17, y18, y19, y20, y21, y22⟩ := y
 obtain ⟨e_ptsn, e_pstr, e_pseq, e_pb, e_pe, e_pu, l_text⟩ := y5 (by omega)
 obtain ⟨e_tag, e_out, e_inn, l_rand, l_addrs⟩ := y7 (by omega)
 have e_win : c.win = 0 := by omega
 have e_tsn : c.tsn = 0 := by omega
 obtain ⟨l_gaps, l_dups⟩ := y15 (by omega)
 have e_cause : c.cause = 0 := by omega
 have e_serial : c.serial = 0 := by omega
 have l_ops : c.ops.length = 0 := y19 (by omega)
 have e_ok : c.ok = false := by cases h : c.ok with | true => have := y21 h; omega | false => rfl
 have e_text : c.text = [] := List.length_eq_zero_iff.1 l_text
 have e_rand : c.rand = [] := List.length_eq_zero_iff.1 l_rand
 have e_addrs : c.addrs = [] := List.length_eq_zero_iff.1 l_addrs
 have e_gaps : c.gaps = [] := List.length_eq_zero_iff.1 l_gaps
 have e_dups : c.dups = [] := List.length_eq_zero_iff.1 l_dups
 have e_ops : c.ops = [] := List.length_eq_zero_iff.1 l_ops
 refine ⟨y1, by have := y12 (by omega);  simp only [fitsB, hk, Int.reduceEq, if_false, if_true, inB_iff, true_or, or_true];  omega, ?_⟩
 rw [show usedC c = _ from usedC_4 hk]
 clear y1 y2 y3 y4 y5 y6 y7 y8 y9 y10 y11 y12 y13 y14 y15 y16 y17 y18 y19 y20 y21 y22
 cases c
 simp only at *
 subst hk e_ptsn e_pstr e_pseq e_pb e_pe e_pu e_text e_tag e_win e_out e_inn e_tsn e_rand e_addrs e_gaps e_dups e_cause e_serial e_ops e_ok
 rfl
theorem good_yes_5 {c : Ck} (hk : c.kind = 5) (g : GoodC c) : Yes c := by
 have hu := g.use
 rw [show usedC c = _ from usedC_5 hk] at hu
 have e_ptsn : c.ptsn = 0 := congrArg Ck.ptsn hu
 have e_pstr : c.pstr = 0 := congrArg Ck.pstr hu
 have e_pseq : c.pseq = 0 := congrArg Ck.pseq hu
 have e_pb : c.pb = false := congrArg Ck.pb hu
 have e_pe : c.pe = false := congrArg Ck.pe hu
 have e_pu : c.pu = false := congrArg Ck.pu hu
 have e_text : c.text = [] := congrArg Ck.text hu
 have e_tag : c.tag = 0 := congrArg Ck.tag hu
 have e_win : c.win = 0 := congrArg Ck.win hu
 have e_out : c.out = 0 := congrArg Ck.out hu
 have e_inn : c.inn = 0 := congrArg Ck.inn hu
 have e_tsn : c.tsn = 0 := congrArg Ck.tsn hu
 have e_rand : c.rand = [] := congrArg Ck.rand hu
 have e_addrs : c.addrs = [] := congrArg Ck.addrs hu
 have e_gaps : c.gaps = [] := congrArg Ck.gaps hu
 have e_dups : c.dups = [] := congrArg Ck.dups hu
 have e_cause : c.cause = 0 := congrArg Ck.cause hu
 have e_serial : c.serial = 0 := congrArg Ck.serial hu
 have e_ops : c.ops = [] := congrArg Ck.ops hu
 have e_ok : c.ok = false := congrArg Ck.ok hu
 clear hu
 have hf := good_info g (.inr (.inl hk))
 have l_text : c.text.length = 0 := by rw [e_text]; rfl
 have l_rand : c.rand.length = 0 := by rw [e_rand]; rfl
 have l_addrs : c.addrs.length = 0 := by rw [e_addrs]; rfl
 have l_gaps : c.gaps.length = 0 := by rw [e_gaps]; rfl
 have l_dups : c.dups.length = 0 := by rw [e_dups]; rfl
 have l_ops : c.ops.length = 0 := by rw [e_ops]; rfl
 exact ⟨g.kn, (by omega), (by omega), (by omega), fun _ => ⟨e_ptsn, e_pstr, e_pseq, e_pb, e_pe, e_pu, l_text⟩, (by omega), (by omega), (by rw [e_addrs]; rfl), (by omega), (by omega), (by omega), (by omega), (by omega), (by omega), fun _ => ⟨l_gaps, l_dups⟩, (by omega), (by rw [e_gaps]; rfl), (by omega), (by omega), (by omega), (by rw [e_ok]; intro h; cases h), (by rw [e_ops]; rfl)⟩
theorem yes_good_5 {c : Ck} (hk : c.kind = 5) (y : Yes c) : GoodC c := by
 obtain ⟨y1, y2, y3, y4, y5, y6, y7, y8, y9, y10, y11, y12, y13, y14, y15, y16, y17, y18, y19, y20, y21, y22⟩ := y
 obtain ⟨e_ptsn, e_pstr, e_pseq, e_pb, e_pe, e_pu, l_text⟩ := y5 (by omega)
 obtain ⟨e_tag, e_out, e_inn, l_rand, l_addrs⟩ := y7 (by omega)
 have e_win : c.win = 0 := by omega
 have e_tsn : c.tsn = 0 := by omega
 obtain ⟨l_gaps, l_dups⟩ := y15 (by omega)
 have e_cause : c.cause = 0 := by omega
 have e_serial : c.serial = 0 := by omega
 have l_ops : c.ops.length = 0 := y19 (by omega)
 have e_ok : c.ok = false := by cases h : c.ok with | true => have := y21 h; omega | false => rfl
 have e_text : c.text = [] := List.length_eq_zero_iff.1 l_text
 have e_rand : c.rand = [] := List.length_eq_zero_iff.1 l_rand
 have e_addrs : c.addrs = [] := List.length_eq_zero_iff.1 l_addrs
 have e_gaps : c.gaps = [] := List.length_eq_zero_iff.1 l_gaps
 have e_dups : c.dups = [] := List.length_eq_zero_iff.1 l_dups
 have e_ops : c.ops = [] := List.length_eq_zero_iff.1 l_ops
 refine ⟨y1, by have := y12 (by omega);  simp only [fitsB, hk, Int.reduceEq, if_false, if_true, inB_iff, true_or, or_true];  omega, ?_⟩
 rw [show usedC c = _ from usedC_5 hk]
 clear y1 y2 y3 y4 y5 y6 y7 y8 y9 y10 y11 y12 y13 y14 y15 y16 y17 y18 y19 y20 y21 y22
 cases c
 simp only at *
 subst hk e_ptsn e_pstr e_pseq e_pb e_pe e_pu e_text e_tag e_win e_out e_inn e_tsn e_rand e_addrs e_gaps e_dups e_cause e_serial e_ops e_ok
 rfl
theorem good_yes_6 {c : Ck} (hk : c.kind = 6) (g : GoodC c) : Yes c := by
 have hu := g.use
 rw [show usedC c = _ from usedC_6 hk] at hu
 have e_ptsn : c.ptsn = 0 := congrArg Ck.ptsn hu
 have e_pstr : c.pstr = 0 := congrArg Ck.pstr hu
 have e_pseq : c.pseq = 0 := congrArg Ck.pseq hu
 have e_pb : c.pb = false := congrArg Ck.pb hu
 have e_pe : c.pe = false := congrArg Ck.pe hu
 have e_pu : c.pu = false := congrArg Ck.pu hu
 have e_text : c.text = [] := congrArg Ck.text hu
 have e_tag : c.tag = 0 := congrArg Ck.tag hu
 have e_win : c.win = 0 := congrArg Ck.win hu
 have e_out : c.out = 0 := congrArg Ck.out hu
 have e_inn : c.inn = 0 := congrArg Ck.inn hu
 have e_tsn : c.tsn = 0 := congrArg Ck.tsn hu
 have e_rand : c.rand = [] := congrArg Ck.rand hu
 have e_addrs : c.addrs = [] := congrArg Ck.addrs hu
 have e_info : c.info = [] := congrArg Ck.info hu
 have e_gaps : c.gaps = [] := congrArg Ck.gaps hu
 have e_dups : c.dups = [] := congrArg Ck.dups hu
 have e_serial : c.serial = 0 := congrArg Ck.serial hu
 have e_ops : c.ops = [] := congrArg Ck.ops hu
 have e_ok : c.ok = false := congrArg Ck.ok hu
 clear hu
 have hf := good_cause g (.inl hk)
 have l_text : c.text.length = 0 := by rw [e_text]; rfl
 have l_rand : c.rand.length = 0 := by rw [e_rand]; rfl
 have l_addrs : c.addrs.length = 0 := by rw [e_addrs]; rfl
 have l_info : c.info.length = 0 := by rw [e_info]; rfl
 have l_gaps : c.gaps.length = 0 := by rw [e_gaps]; rfl
 have l_dups : c.dups.length = 0 := by rw [e_dups]; rfl
 have l_ops : c.ops.length = 0 := by rw [e_ops]; rfl
 exact ⟨g.kn, (by omega), (by omega), (by omega), fun _ => ⟨e_ptsn, e_pstr, e_pseq, e_pb, e_pe, e_pu, l_text⟩, (by omega), (by omega), (by rw [e_addrs]; rfl), (by omega), (by omega), (by omega), (by omega), (by omega), (by omega), fun _ => ⟨l_gaps, l_dups⟩, (by omega), (by rw [e_gaps]; rfl), (by omega), (by omega), (by omega), (by rw [e_ok]; intro h; cases h), (by rw [e_ops]; rfl)⟩
theorem yes_good_6 {c : Ck} (hk : c.kind = 6) (y : Yes c) : GoodC c := by
 obtain ⟨y1, y2, y3, y4, y5, y6, y7, y8, y9, y10, y11, y12, y13, y14, y15, y16, y17, y18, y19, y20, y21, y22⟩ := y
 obtain ⟨e_ptsn, e_pstr, e_pseq, e_pb, e_pe, e_pu, l_text⟩ := y5 (by omega)
 obtain ⟨e_tag, e_out, e_inn, l_rand, l_addrs⟩ := y7 (by omega)
 have e_win : c.win = 0 := by omega
 have e_tsn : c.tsn = 0 := by omega
 have l_info : c.info.length = 0 := y14 (by omega) (by omega)
 obtain ⟨l_gaps, l_dups⟩ := y15 (by omega)
 have e_serial : c.serial = 0 := by omega
 have l_ops : c.ops.length = 0 := y19 (by omega)
 have e_ok : c.ok = false := by cases h : c.ok with | true => have := y21 h; omega | false => rfl
 have e_text : c.text = [] := List.length_eq_zero_iff.1 l_text
 have e_rand : c.rand = [] := List.length_eq_zero_iff.1 l_rand
 have e_addrs : c.addrs = [] := List.length_eq_zero_iff.1 l_addrs
 have e_info : c.info = [] := List.length_eq_zero_iff.1 l_info
 have e_gaps : c.gaps = [] := List.length_eq_zero_iff.1 l_gaps
 have e_dups : c.dups = [] := List.length_eq_zero_iff.1 l_dups
 have e_ops : c.ops = [] := List.length_eq_zero_iff.1 l_ops
 refine ⟨y1, by simp only [fitsB, hk, Int.reduceEq, if_false, if_true, or_self, inB_iff, true_or, or_true];  omega, ?_⟩
 rw [show usedC c = _ from usedC_6 hk]
 clear y1 y2 y3 y4 y5 y6 y7 y8 y9 y10 y11 y12 y13 y14 y15 y16 y17 y18 y19 y20 y21 y22
 cases c
 simp only at *
 subst hk e_ptsn e_pstr e_pseq e_pb e_pe e_pu e_text e_tag e_win e_out e_inn e_tsn e_rand e_addrs e_info e_gaps e_dups e_serial e_ops e_ok
 rfl
theorem good_yes_7 {c : Ck} (hk : c.kind = 7) (g : GoodC c) : Yes c := by
 have hu := g.use
 rw [show usedC c = _ from usedC_7 hk] at hu
 have e_ptsn : c.ptsn = 0 := congrArg Ck.ptsn hu
 have e_pstr : c.pstr = 0 := congrArg Ck.pstr hu
 have e_pseq : c.pseq = 0 := congrArg Ck.pseq hu
 have e_pb : c.pb = false := congrArg Ck.pb hu
 have e_pe : c.pe = false := congrArg Ck.pe hu
 have e_pu : c.pu = false := congrArg Ck.pu hu
 have e_text : c.text = [] := congrArg Ck.text hu
 have e_tag : c.tag = 0 := congrArg Ck.tag hu
 have e_win : c.win = 0 := congrArg Ck.win hu
 have e_out : c.out = 0 := congrArg Ck.out hu
 have e_inn : c.inn = 0 := congrArg Ck.inn hu
 have e_rand : c.rand = [] := congrArg Ck.rand hu
 have e_addrs : c.addrs = [] := congrArg Ck.addrs hu
 have e_info : c.info = [] := congrArg Ck.info hu
 have e_gaps : c.gaps = [] := congrArg Ck.gaps hu
 have e_dups : c.dups = [] := congrArg Ck.dups hu
 have e_cause : c.cause = 0 := congrArg Ck.cause hu
 have e_serial : c.serial = 0 := congrArg Ck.serial hu
 have e_ops : c.ops = [] := congrArg Ck.ops hu
 have e_ok : c.ok = false := congrArg Ck.ok hu
 clear hu
 have l_text : c.text.length = 0 := by rw [e_text]; rfl
 have l_rand : c.rand.length = 0 := by rw [e_rand]; rfl
 have l_addrs : c.addrs.length = 0 := by rw [e_addrs]; rfl
 have l_info : c.info.length = 0 := by rw [e_info]; rfl
 have l_gaps : c.gaps.length = 0 := by rw [e_gaps]; rfl
 have l_dups : c.dups.length = 0 := by rw [e_dups]; rfl
 have l_ops : c.ops.length = 0 := by rw [e_ops]; rfl
 exact ⟨g.kn, (by omega), (by omega), (by omega), fun _ => ⟨e_ptsn, e_pstr, e_pseq, e_pb, e_pe, e_pu, l_text⟩, (by omega), (by omega), (by rw [e_addrs]; rfl), (by omega), (by omega), (by omega), (by omega), (by omega), (by omega), fun _ => ⟨l_gaps, l_dups⟩, (by omega), (by rw [e_gaps]; rfl), (by omega), (by omega), (by omega), (by rw [e_ok]; intro h; cases h), (by rw [e_ops]; rfl)⟩
theorem yes_good_7 {c : Ck} (hk : c.kind = 7) (y : Yes c) : GoodC c := by
 obtain ⟨y1, y2, y3, y4, y5, y6, y7, y8, y9, y10, y11, y12, y13, y14, y15, y16, y17, y18, y19, y20, y21, y22⟩ := y
 obtain ⟨e_ptsn, e_pstr, e_pseq, e_pb, e_pe, e_pu, l_text⟩ := y5 (by omega)
 obtain ⟨e_tag, e_out, e_inn, l_rand, l_addrs⟩ := y7 (by omega)
 have e_win : c.win = 0 := by omega
 have l_info : c.info.length = 0 := y14 (by omega) (by omega)
 obtain ⟨l_gaps, l_dups⟩ := y15 (by omega)
 have e_cause : c.cause = 0 := by omega
 have e_serial : c.serial = 0 := by omega
 have l_ops : c.ops.length = 0 := y19 (by omega)
 have e_ok : c.ok = false := by cases h : c.ok with | true => have := y21 h; omega | false => rfl
 have e_text : c.text = [] := List.length_eq_zero_iff.1 l_text
 have e_rand : c.rand = [] := List.length_eq_zero_iff.1 l_rand
 have e_addrs : c.addrs = [] := List.length_eq_zero_iff.1 l_addrs
 have e_info : c.info = [] := List.length_eq_zero_iff.1 l_info
 have e_gaps : c.gaps = [] := List.length_eq_zero_iff.1 l_gaps
 have e_dups : c.dups = [] := List.length_eq_zero_iff.1 l_dups
 have e_ops : c.ops = [] := List.length_eq_zero_iff.1 l_ops
 refine ⟨y1, by simp only [fitsB, hk, Int.reduceEq, if_false, or_self], ?_⟩
 rw [show usedC c = _ from usedC_7 hk]
 clear y1 y2 y3 y4 y5 y6 y7 y8 y9 y10 y11 y12 y13 y14 y15 y16 y17 y18 y19 y20 y21 y22
 cases c
 simp only at *
 subst hk e_ptsn e_pstr e_pseq e_pb e_pe e_pu e_text e_tag e_win e_out e_inn e_rand e_addrs e_info e_gaps e_dups e_cause e_serial e_ops e_ok
 rfl
theorem good_yes_8 {c : Ck} (hk : c.kind = 8) (g : GoodC c) : Yes c := by
 have hu := g.use
 rw [show usedC c = _ from by simp only [usedC, hk, reduceIte, Int.reduceEq]; rfl] at hu
 have e_ptsn : c.ptsn = 0 := congrArg Ck.ptsn hu
 have e_pstr : c.pstr = 0 := congrArg Ck.pstr hu
 have e_pseq : c.pseq = 0 := congrArg Ck.pseq hu
 have e_pb : c.pb = false := congrArg Ck.pb hu
 have e_pe : c.pe = false := congrArg Ck.pe hu
 have e_pu : c.pu = false := congrArg Ck.pu hu
 have e_text : c.text = [] := congrArg Ck.text hu
 have e_tag : c.tag = 0 := congrArg Ck.tag hu
 have e_win : c.win = 0 := congrArg Ck.win hu
 have e_out : c.out = 0 := congrArg Ck.out hu
 have e_inn : c.inn = 0 := congrArg Ck.inn hu
 have e_tsn : c.tsn = 0 := congrArg Ck.tsn hu
 have e_rand : c.rand = [] := congrArg Ck.rand hu
 have e_addrs : c.addrs = [] := congrArg Ck.addrs hu
 have e_info : c.info = [] := congrArg Ck.info hu
 have e_gaps : c.gaps = [] := congrArg Ck.gaps hu
 have e_dups : c.dups = [] := congrArg Ck.dups hu
 have e_cause : c.cause = 0 := congrArg Ck.cause hu
 have e_serial : c.serial = 0 := congrArg Ck.serial hu
 have e_ops : c.ops = [] := congrArg Ck.ops hu
 have e_ok : c.ok = false := congrArg Ck.ok hu
 clear hu
 have l_text : c.text.length = 0 := by rw [e_text]; rfl
 have l_rand : c.rand.length = 0 := by rw [e_rand]; rfl
 have l_addrs : c.addrs.length = 0 := by rw [e_addrs]; rfl
 have l_info : c.info.length = 0 := by rw [e_info]; rfl
 have l_gaps : c.gaps.length = 0 := by rw [e_gaps]; rfl
 have l_dups : c.dups.length = 0 := by rw [e_dups]; rfl
 have l_ops : c.ops.length = 0 := by rw [e_ops]; rfl
 exact ⟨g.kn, (by omega), (by omega), (by omega), fun _ => ⟨e_ptsn, e_pstr, e_pseq, e_pb, e_pe, e_pu, l_text⟩, (by omega), (by omega), (by rw [e_addrs]; rfl), (by omega), (by omega), (by omega), (by omega), (by omega), (by omega), fun _ => ⟨l_gaps, l_dups⟩, (by omega), (by rw [e_gaps]; rfl), (by omega), (by omega), (by omega), (by rw [e_ok]; intro h; cases h), (by rw [e_ops]; rfl)⟩
theorem yes_good_8 {c : Ck} (hk : c.kind = 8) (y : Yes c) : GoodC c := by
 obtain ⟨y1, y2, y3, y4, y5, y6, y7, y8, y9, y10, y11, y12, y13, y14, y15, y16, y17, y18, y19, y20, y21, y22⟩ := y
 obtain ⟨e_ptsn, e_pstr, e_pseq, e_pb, e_pe, e_pu, l_text⟩ := y5 (by omega)
 obtain ⟨e_tag, e_out, e_inn, l_rand, l_addrs⟩ := y7 (by omega)
 have e_win : c.win = 0 := by omega
 have e_tsn : c.tsn = 0 := by omega
 have l_info : c.info.length = 0 := y14 (by omega) (by omega)
 obtain ⟨l_gaps, l_dups⟩ := y15 (by omega)
 have e_cause : c.cause = 0 := by omega
 have e_serial : c.serial = 0 := by omega
 have l_ops : c.ops.length = 0 := y19 (by omega)
 have e_ok : c.ok = false := by cases h : c.ok with | true => have := y21 h; omega | false => rfl
 have e_text : c.text = [] := List.length_eq_zero_iff.1 l_text
 have e_rand : c.rand = [] := List.length_eq_zero_iff.1 l_rand
 have e_addrs : c.addrs = [] := List.length_eq_zero_iff.1 l_addrs
 have e_info : c.info = [] := List.length_eq_zero_iff.1 l_info
 have e_gaps : c.gaps = [] := List.length_eq_zero_iff.1 l_gaps
 have e_dups : c.dups = [] := List.length_eq_zero_iff.1 l_dups
 have e_ops : c.ops = [] := List.length_eq_zero_iff.1 l_ops
 refine ⟨y1, by simp only [fitsB, hk, Int.reduceEq, if_false, or_self], ?_⟩
 rw [show usedC c = _ from by simp only [usedC, hk, reduceIte, Int.reduceEq]; rfl]
 clear y1 y2 y3 y4 y5 y6 y7 y8 y9 y10 y11 y12 y13 y14 y15 y16 y17 y18 y19 y20 y21 y22
 cases c
 simp only at *
 subst hk e_ptsn e_pstr e_pseq e_pb e_pe e_pu e_text e_tag e_win e_out e_inn e_tsn e_rand e_addrs e_info e_gaps e_dups e_cause e_serial e_ops e_ok
 rfl
theorem good_yes_9 {c : Ck} (hk : c.kind = 9) (g : GoodC c) : Yes c := by
 have hu := g.use
 rw [show usedC c = _ from usedC_9 hk] at hu
 have e_ptsn : c.ptsn = 0 := congrArg Ck.ptsn hu
 have e_pstr : c.pstr = 0 := congrArg Ck.pstr hu
 have e_pseq : c.pseq = 0 := congrArg Ck.pseq hu
 have e_pb : c.pb = false := congrArg Ck.pb hu
 have e_pe : c.pe = false := congrArg Ck.pe hu
 have e_pu : c.pu = false := congrArg Ck.pu hu
 have e_text : c.text = [] := congrArg Ck.text hu
 have e_tag : c.tag = 0 := congrArg Ck.tag hu
 have e_win : c.win = 0 := congrArg Ck.win hu
 have e_out : c.out = 0 := congrArg Ck.out hu
 have e_inn : c.inn = 0 := congrArg Ck.inn hu
 have e_tsn : c.tsn = 0 := congrArg Ck.tsn hu
 have e_rand : c.rand = [] := congrArg Ck.rand hu
 have e_addrs : c.addrs = [] := congrArg Ck.addrs hu
 have e_info : c.info = [] := congrArg Ck.info hu
 have e_gaps : c.gaps = [] := congrArg Ck.gaps hu
 have e_dups : c.dups = [] := congrArg Ck.dups hu
 have e_serial : c.serial = 0 := congrArg Ck.serial hu
 have e_ops : c.ops = [] := congrArg Ck.ops hu
 have e_ok : c.ok = false := congrArg Ck.ok hu
 clear hu
 have hf := good_cause g (.inr hk)
 have l_text : c.text.length = 0 := by rw [e_text]; rfl
 have l_rand : c.rand.length = 0 := by rw [e_rand]; rfl
 have l_addrs : c.addrs.length = 0 := by rw [e_addrs]; rfl
 have l_info : c.info.length = 0 := by rw [e_info]; rfl
 have l_gaps : c.gaps.length = 0 := by rw [e_gaps]; rfl
 have l_dups : c.dups.length = 0 := by rw [e_dups]; rfl
 have l_ops : c.ops.length = 0 := by rw [e_ops]; rfl
 exact ⟨g.kn, (by omega), (by omega), (by omega), fun _ => ⟨e_ptsn, e_pstr, e_pseq, e_pb, e_pe, e_pu, l_text⟩, (by omega), (by omega), (by rw [e_addrs]; rfl), (by omega), (by omega), (by omega), (by omega), (by omega), (by omega), fun _ => ⟨l_gaps, l_dups⟩, (by omega), (by rw [e_gaps]; rfl), (by omega), (by omega), (by omega), (by rw [e_ok]; intro h; cases h), (by rw [e_ops]; rfl)⟩
theorem yes_good_9 {c : Ck} (hk : c.kind = 9) (y : Yes c) : GoodC c := by
 obtain ⟨y1, y2, y3, y4, y5, y6, y7, y8, y9, y10, y11, y12, y13, y14, y15, y16, y17, y18, y19, y20, y21, y22⟩ := y
 obtain ⟨e_ptsn, e_pstr, e_pseq, e_pb, e_pe, e_pu, l_text⟩ := y5 (by omega)
 obtain ⟨e_tag, e_out, e_inn, l_rand, l_addrs⟩ := y7 (by omega)
 have e_win : c.win = 0 := by omega
 have e_tsn : c.tsn = 0 := by omega
 have l_info : c.info.length = 0 := y14 (by omega) (by omega)
 obtain ⟨l_gaps, l_dups⟩ := y15 (by omega)
 have e_serial : c.serial = 0 := by omega
 have l_ops : c.ops.length = 0 := y19 (by omega)
 have e_ok : c.ok = false := by cases h : c.ok with | true => have := y21 h; omega | false => rfl
 have e_text : c.text = [] := List.length_eq_zero_iff.1 l_text
 have e_rand : c.rand = [] := List.length_eq_zero_iff.1 l_rand
 have e_addrs : c.addrs = [] := List.length_eq_zero_iff.1 l_addrs
 have e_info : c.info = [] := List.length_eq_zero_iff.1 l_info
 have e_gaps : c.gaps = [] := List.length_eq_zero_iff.1 l_gaps
 have e_dups : c.dups = [] := List.length_eq_zero_iff.1 l_dups
 have e_ops : c.ops = [] := List.length_eq_zero_iff.1 l_ops
 refine ⟨y1, by simp only [fitsB, hk, Int.reduceEq, if_false, if_true, or_self, inB_iff, true_or, or_true];  omega, ?_⟩
 rw [show usedC c = _ from usedC_9 hk]
 clear y1 y2 y3 y4 y5 y6 y7 y8 y9 y10 y11 y12 y13 y14 y15 y16 y17 y18 y19 y20 y21 y22
 cases c
 simp only at *
 subst hk e_ptsn e_pstr e_pseq e_pb e_pe e_pu e_text e_tag e_win e_out e_inn e_tsn e_rand e_addrs e_info e_gaps e_dups e_serial e_ops e_ok
 rfl
theorem good_yes_10 {c : Ck} (hk : c.kind = 10) (g : GoodC c) : Yes c := by
 have hu := g.use
 rw [show usedC c = _ from usedC_10 hk] at hu
 have e_ptsn : c.ptsn = 0 := congrArg Ck.ptsn hu
 have e_pstr : c.pstr = 0 := congrArg Ck.pstr hu
 have e_pseq : c.pseq = 0 := congrArg Ck.pseq hu
 have e_pb : c.pb = false := congrArg Ck.pb hu
 have e_pe : c.pe = false := congrArg Ck.pe hu
 have e_pu : c.pu = false := congrArg Ck.pu hu
 have e_text : c.text = [] := congrArg Ck.text hu
 have e_tag : c.tag = 0 := congrArg Ck.tag hu
 have e_win : c.win = 0 := congrArg Ck.win hu
 have e_out : c.out = 0 := congrArg Ck.out hu
 have e_inn : c.inn = 0 := congrArg Ck.inn hu
 have e_tsn : c.tsn = 0 := congrArg Ck.tsn hu
 have e_rand : c.rand = [] := congrArg Ck.rand hu
 have e_addrs : c.addrs = [] := congrArg Ck.addrs hu
 have e_gaps : c.gaps = [] := congrArg Ck.gaps hu
 have e_dups : c.dups = [] := congrArg Ck.dups hu
 have e_cause : c.cause = 0 := congrArg Ck.cause hu
 have e_serial : c.serial = 0 := congrArg Ck.serial hu
 have e_ops : c.ops = [] := congrArg Ck.ops hu
 have e_ok : c.ok = false := congrArg Ck.ok hu
 clear hu
 have hf := good_info g (.inr (.inr hk))
 have l_text : c.text.length = 0 := by rw [e_text]; rfl
 have l_rand : c.rand.length = 0 := by rw [e_rand]; rfl
 have l_addrs : c.addrs.length = 0 := by rw [e_addrs]; rfl
 have l_gaps : c.gaps.length = 0 := by rw [e_gaps]; rfl
 have l_dups : c.dups.length = 0 := by rw [e_dups]; rfl
 have l_ops : c.ops.length = 0 := by rw [e_ops]; rfl
 exact ⟨g.kn, (by omega), (by omega), (by omega), fun _ => ⟨e_ptsn, e_pstr, e_pseq, e_pb, e_pe, e_pu, l_text⟩, (by omega), (by omega), (by rw [e_addrs]; rfl), (by omega), (by omega), (by omega), (by omega), (by omega), (by omega), fun _ => ⟨l_gaps, l_dups⟩, (by omega), (by rw [e_gaps]; rfl), (by omega), (by omega), (by omega), (by rw [e_ok]; intro h; cases h), (by rw [e_ops]; rfl)⟩
theorem yes_good_10 {c : Ck} (hk : c.kind = 10) (y : Yes c) : GoodC c := by
 obtain ⟨y1, y2, y3, y4, y5, y6, y7, y8, y9, y10, y11, y12, y13, y14, y15, y16, y17, y18, y19, y20, y21, y22⟩ := y
 obtain ⟨e_ptsn, e_pstr, e_pseq, e_pb, e_pe, e_pu, l_text⟩ := y5 (by omega)
 obtain ⟨e_tag, e_out, e_inn, l_rand, l_addrs⟩ := y7 (by omega)
 have e_win : c.win = 0 := by omega
 have e_tsn : c.tsn = 0 := by omega
 obtain ⟨l_gaps, l_dups⟩ := y15 (by omega)
 have e_cause : c.cause = 0 := by omega
 have e_serial : c.serial = 0 := by omega
 have l_ops : c.ops.length = 0 := y19 (by omega)
 have e_ok : c.ok = false := by cases h : c.ok with | true => have := y21 h; omega | false => rfl
 have e_text : c.text = [] := List.length_eq_zero_iff.1 l_text
 have e_rand : c.rand = [] := List.length_eq_zero_iff.1 l_rand
 have e_addrs : c.addrs = [] := List.length_eq_zero_iff.1 l_addrs
 have e_gaps : c.gaps = [] := List.length_eq_zero_iff.1 l_gaps
 have e_dups : c.dups = [] := List.length_eq_zero_iff.1 l_dups
 have e_ops : c.ops = [] := List.length_eq_zero_iff.1 l_ops
 refine ⟨y1, by have := y12 (by omega);  simp only [fitsB, hk, Int.reduceEq, if_false, if_true, inB_iff, true_or, or_true];  omega, ?_⟩
 rw [show usedC c = _ from usedC_10 hk]
 clear y1 y2 y3 y4 y5 y6 y7 y8 y9 y10 y11 y12 y13 y14 y15 y16 y17 y18 y19 y20 y21 y22
 cases c
 simp only at *
 subst hk e_ptsn e_pstr e_pseq e_pb e_pe e_pu e_text e_tag e_win e_out e_inn e_tsn e_rand e_addrs e_gaps e_dups e_cause e_serial e_ops e_ok
 rfl
theorem good_yes_11 {c : Ck} (hk : c.kind = 11) (g : GoodC c) : Yes c := by
 have hu := g.use
 rw [show usedC c = _ from by simp only [usedC, hk, reduceIte, Int.reduceEq]; rfl] at hu
 have e_ptsn : c.ptsn = 0 := congrArg Ck.ptsn hu
 have e_pstr : c.pstr = 0 := congrArg Ck.pstr hu
 have e_pseq : c.pseq = 0 := congrArg Ck.pseq hu
 have e_pb : c.pb = false := congrArg Ck.pb hu
 have e_pe : c.pe = false := congrArg Ck.pe hu
 have e_pu : c.pu = false := congrArg Ck.pu hu
 have e_text : c.text = [] := congrArg Ck.text hu
 have e_tag : c.tag = 0 := congrArg Ck.tag hu
 have e_win : c.win = 0 := congrArg Ck.win hu
 have e_out : c.out = 0 := congrArg Ck.out hu
 have e_inn : c.inn = 0 := congrArg Ck.inn hu
 have e_tsn : c.tsn = 0 := congrArg Ck.tsn hu
 have e_rand : c.rand = [] := congrArg Ck.rand hu
 have e_addrs : c.addrs = [] := congrArg Ck.addrs hu
 have e_info : c.info = [] := congrArg Ck.info hu
 have e_gaps : c.gaps = [] := congrArg Ck.gaps hu
 have e_dups : c.dups = [] := congrArg Ck.dups hu
 have e_cause : c.cause = 0 := congrArg Ck.cause hu
 have e_serial : c.serial = 0 := congrArg Ck.serial hu
 have e_ops : c.ops = [] := congrArg Ck.ops hu
 have e_ok : c.ok = false := congrArg Ck.ok hu
 clear hu
 have l_text : c.text.length = 0 := by rw [e_text]; rfl
 have l_rand : c.rand.length = 0 := by rw [e_rand]; rfl
 have l_addrs : c.addrs.length = 0 := by rw [e_addrs]; rfl
 have l_info : c.info.length = 0 := by rw [e_info]; rfl
 have l_gaps : c.gaps.length = 0 := by rw [e_gaps]; rfl
 have l_dups : c.dups.length = 0 := by rw [e_dups]; rfl
 have l_ops : c.ops.length = 0 := by rw [e_ops]; rfl
 exact ⟨g.kn, (by omega), (by omega), (by omega), fun _ => ⟨e_ptsn, e_pstr, e_pseq, e_pb, e_pe, e_pu, l_text⟩, (by omega), (by omega), (by rw [e_addrs]; rfl), (by omega), (by omega), (by omega), (by omega), (by omega), (by omega), fun _ => ⟨l_gaps, l_dups⟩, (by omega), (by rw [e_gaps]; rfl), (by omega), (by omega), (by omega), (by rw [e_ok]; intro h; cases h), (by rw [e_ops]; rfl)⟩
theorem yes_good_11 {c : Ck} (hk : c.kind = 11) (y : Yes c) : GoodC c := by
 obtain ⟨y1, y2, y3, y4, y5, y6, y7, y8, y9, y10, y11, y12, y13, y14, y15, y16, y17, y18, y19, y20, y21, y22⟩ := y
 obtain ⟨e_ptsn, e_pstr, e_pseq, e_pb, e_pe, e_pu, l_text⟩ := y5 (by omega)
 obtain ⟨e_tag, e_out, e_inn, l_rand, l_addrs⟩ := y7 (by omega)
 have e_win : c.win = 0 := by omega
 have e_tsn : c.tsn = 0 := by omega
 have l_info : c.info.length = 0 := y14 (by omega) (by omega)
 obtain ⟨l_gaps, l_dups⟩ := y15 (by omega)
 have e_cause : c.cause = 0 := by omega
 have e_serial : c.serial = 0 := by omega
 have l_ops : c.ops.length = 0 := y19 (by omega)
 have e_ok : c.ok = false := by cases h : c.ok with | true => have := y21 h; omega | false => rfl
 have e_text : c.text = [] := List.length_eq_zero_iff.1 l_text
 have e_rand : c.rand = [] := List.length_eq_zero_iff.1 l_rand
 have e_addrs : c.addrs = [] := List.length_eq_zero_iff.1 l_addrs
 have e_info : c.info = [] := List.length_eq_zero_iff.1 l_info
 have e_gaps : c.gaps = [] := List.length_eq_zero_iff.1 l_gaps
 have e_dups : c.dups = [] := List.length_eq_zero_iff.1 l_dups
 have e_ops : c.ops = [] := List.length_eq_zero_iff.1 l_ops
 refine ⟨y1, by simp only [fitsB, hk, Int.reduceEq, if_false, or_self], ?_⟩
 rw [show usedC c = _ from by simp only [usedC, hk, reduceIte, Int.reduceEq]; rfl]
 clear y1 y2 y3 y4 y5 y6 y7 y8 y9 y10 y11 y12 y13 y14 y15 y16 y17 y18 y19 y20 y21 y22
 cases c
 simp only at *
 subst hk e_ptsn e_pstr e_pseq e_pb e_pe e_pu e_text e_tag e_win e_out e_inn e_tsn e_rand e_addrs e_info e_gaps e_dups e_cause e_serial e_ops e_ok
 rfl
theorem good_yes_14 {c : Ck} (hk : c.kind = 14) (g : GoodC c) : Yes c := by
 have hu := g.use
 rw [show usedC c = _ from by simp only [usedC, hk, reduceIte, Int.reduceEq]; rfl] at hu
 have e_ptsn : c.ptsn = 0 := congrArg Ck.ptsn hu
 have e_pstr : c.pstr = 0 := congrArg Ck.pstr hu
 have e_pseq : c.pseq = 0 := congrArg Ck.pseq hu
 have e_pb : c.pb = false := congrArg Ck.pb hu
 have e_pe : c.pe = false := congrArg Ck.pe hu
 have e_pu : c.pu = false := congrArg Ck.pu hu
 have e_text : c.text = [] := congrArg Ck.text hu
 have e_tag : c.tag = 0 := congrArg Ck.tag hu
 have e_win : c.win = 0 := congrArg Ck.win hu
 have e_out : c.out = 0 := congrArg Ck.out hu
 have e_inn : c.inn = 0 := congrArg Ck.inn hu
 have e_tsn : c.tsn = 0 := congrArg Ck.tsn hu
 have e_rand : c.rand = [] := congrArg Ck.rand hu
 have e_addrs : c.addrs = [] := congrArg Ck.addrs hu
 have e_info : c.info = [] := congrArg Ck.info hu
 have e_gaps : c.gaps = [] := congrArg Ck.gaps hu
 have e_dups : c.dups = [] := congrArg Ck.dups hu
 have e_cause : c.cause = 0 := congrArg Ck.cause hu
 have e_serial : c.serial = 0 := congrArg Ck.serial hu
 have e_ops : c.ops = [] := congrArg Ck.ops hu
 have e_ok : c.ok = false := congrArg Ck.ok hu
 clear hu
 have l_text : c.text.length = 0 := by rw [e_text]; rfl
 have l_rand : c.rand.length = 0 := by rw [e_rand]; rfl
 have l_addrs : c.addrs.length = 0 := by rw [e_addrs]; rfl
 have l_info : c.info.length = 0 := by rw [e_info]; rfl
 have l_gaps : c.gaps.length = 0 := by rw [e_gaps]; rfl
 have l_dups : c.dups.length = 0 := by rw [e_dups]; rfl
 have l_ops : c.ops.length = 0 := by rw [e_ops]; rfl
 exact ⟨g.kn, (by omega), (by omega), (by omega), fun _ => ⟨e_ptsn, e_pstr, e_pseq, e_pb, e_pe, e_pu, l_text⟩, (by omega), (by omega), (by rw [e_addrs]; rfl), (by omega), (by omega), (by omega), (by omega), (by omega), (by omega), fun _ => ⟨l_gaps, l_dups⟩, (by omega), (by rw [e_gaps]; rfl), (by omega), (by omega), (by omega), (by rw [e_ok]; intro h; cases h), (by rw [e_ops]; rfl)⟩
theorem yes_good_14 {c : Ck} (hk : c.kind = 14) (y : Yes c) : GoodC c := by
 obtain ⟨y1, y2, y3, y4, y5, y6, y7, y8, y9, y10, y11, y12, y13, y14, y15, y16, y17, y18, y19, y20, y21, y22⟩ := y
 obtain ⟨e_ptsn, e_pstr, e_pseq, e_pb, e_pe, e_pu, l_text⟩ := y5 (by omega)
 obtain ⟨e_tag, e_out, e_inn, l_rand, l_addrs⟩ := y7 (by omega)
 have e_win : c.win = 0 := by omega
 have e_tsn : c.tsn = 0 := by omega
 have l_info : c.info.length = 0 := y14 (by omega) (by omega)
 obtain ⟨l_gaps, l_dups⟩ := y15 (by omega)
 have e_cause : c.cause = 0 := by omega
 have e_serial : c.serial = 0 := by omega
 have l_ops : c.ops.length = 0 := y19 (by omega)
 have e_ok : c.ok = false := by cases h : c.ok with | true => have := y21 h; omega | false => rfl
 have e_text : c.text = [] := List.length_eq_zero_iff.1 l_text
 have e_rand : c.rand = [] := List.length_eq_zero_iff.1 l_rand
 have e_addrs : c.addrs = [] := List.length_eq_zero_iff.1 l_addrs
 have e_info : c.info = [] := List.length_eq_zero_iff.1 l_info
 have e_gaps : c.gaps = [] := List.length_eq_zero_iff.1 l_gaps
 have e_dups : c.dups = [] := List.length_eq_zero_iff.1 l_dups
 have e_ops : c.ops = [] := List.length_eq_zero_iff.1 l_ops
 refine ⟨y1, by simp only [fitsB, hk, Int.reduceEq, if_false, or_self], ?_⟩
 rw [show usedC c = _ from by simp only [usedC, hk, reduceIte, Int.reduceEq]; rfl]
 clear y1 y2 y3 y4 y5 y6 y7 y8 y9 y10 y11 y12 y13 y14 y15 y16 y17 y18 y19 y20 y21 y22
 cases c
 simp only at *
 subst hk e_ptsn e_pstr e_pseq e_pb e_pe e_pu e_text e_tag e_win e_out e_inn e_tsn e_rand e_addrs e_info e_gaps e_dups e_cause e_serial e_ops e_ok
 rfl
theorem good_yes_15 {c : Ck} (hk : c.kind = 15) (g : GoodC c) : Yes c := by
 have hu := g.use
 rw [show usedC c = _ from usedC_15 hk] at hu
 have e_ptsn : c.ptsn = 0 := congrArg Ck.ptsn hu
 have e_pstr : c.pstr = 0 := congrArg Ck.pstr hu
 have e_pseq : c.pseq = 0 := congrArg Ck.pseq hu
 have e_pb : c.pb = false := congrArg Ck.pb hu
 have e_pe : c.pe = false := congrArg Ck.pe hu
 have e_pu : c.pu = false := congrArg Ck.pu hu
 have e_text : c.text = [] := congrArg Ck.text hu
 have e_tag : c.tag = 0 := congrArg Ck.tag hu
 have e_win : c.win = 0 := congrArg Ck.win hu
 have e_out : c.out = 0 := congrArg Ck.out hu
 have e_inn : c.inn = 0 := congrArg Ck.inn hu
 have e_tsn : c.tsn = 0 := congrArg Ck.tsn hu
 have e_rand : c.rand = [] := congrArg Ck.rand hu
 have e_addrs : c.addrs = [] := congrArg Ck.addrs hu
 have e_gaps : c.gaps = [] := congrArg Ck.gaps hu
 have e_dups : c.dups = [] := congrArg Ck.dups hu
 have e_cause : c.cause = 0 := congrArg Ck.cause hu
 have e_serial : c.serial = 0 := congrArg Ck.serial hu
 have e_ops : c.ops = [] := congrArg Ck.ops hu
 have e_ok : c.ok = false := congrArg Ck.ok hu
 clear hu
 have hf := good_15 g hk
 have l_text : c.text.length = 0 := by rw [e_text]; rfl
 have l_rand : c.rand.length = 0 := by rw [e_rand]; rfl
 have l_addrs : c.addrs.length = 0 := by rw [e_addrs]; rfl
 have l_gaps : c.gaps.length = 0 := by rw [e_gaps]; rfl
 have l_dups : c.dups.length = 0 := by rw [e_dups]; rfl
 have l_ops : c.ops.length = 0 := by rw [e_ops]; rfl
 exact ⟨g.kn, (by omega), (by omega), (by omega), fun _ => ⟨e_ptsn, e_pstr, e_pseq, e_pb, e_pe, e_pu, l_text⟩, (by omega), (by omega), (by rw [e_addrs]; rfl), (by omega), (by omega), (by omega), (by omega), (by omega), (by omega), fun _ => ⟨l_gaps, l_dups⟩, (by omega), (by rw [e_gaps]; rfl), (by omega), (by omega), (by omega), (by rw [e_ok]; intro h; cases h), (by rw [e_ops]; rfl)⟩
theorem yes_good_15 {c : Ck} (hk : c.kind = 15) (y : Yes c) : GoodC c := by
 obtain ⟨y1, y2, y3, y4, y5, y6, y7, y8, y9, y10, y11, y12, y13, y14, y15, y16, y17, y18, y19, y20, y21, y22⟩ := y
 obtain ⟨e_ptsn, e_pstr, e_pseq, e_pb, e_pe, e_pu, l_text⟩ := y5 (by omega)
 obtain ⟨e_tag, e_out, e_inn, l_rand, l_addrs⟩ := y7 (by omega)
 have e_win : c.win = 0 := by omega
 have e_tsn : c.tsn = 0 := by omega
 obtain ⟨l_gaps, l_dups⟩ := y15 (by omega)
 have e_cause : c.cause = 0 := by omega
 have e_serial : c.serial = 0 := by omega
 have l_ops : c.ops.length = 0 := y19 (by omega)
 have e_ok : c.ok = false := by cases h : c.ok with | true => have := y21 h; omega | false => rfl
 have e_text : c.text = [] := List.length_eq_zero_iff.1 l_text
 have e_rand : c.rand = [] := List.length_eq_zero_iff.1 l_rand
 have e_addrs : c.addrs = [] := List.length_eq_zero_iff.1 l_addrs
 have e_gaps : c.gaps = [] := List.length_eq_zero_iff.1 l_gaps
 have e_dups : c.dups = [] := List.length_eq_zero_iff.1 l_dups
 have e_ops : c.ops = [] := List.length_eq_zero_iff.1 l_ops
 refine ⟨y1, by have := y13 hk;  simp only [fitsB, hk, Int.reduceEq, if_false, if_true, or_self, beq_iff_eq];  omega, ?_⟩
 rw [show usedC c = _ from usedC_15 hk]
 clear y1 y2 y3 y4 y5 y6 y7 y8 y9 y10 y11 y12 y13 y14 y15 y16 y17 y18 y19 y20 y21 y22
 cases c
 simp only at *
 subst hk e_ptsn e_pstr e_pseq e_pb e_pe e_pu e_text e_tag e_win e_out e_inn e_tsn e_rand e_addrs e_gaps e_dups e_cause e_serial e_ops e_ok
 rfl
theorem good_yes_128 {c : Ck} (hk : c.kind = 128) (g : GoodC c) : Yes c := by
 have hu := g.use
 rw [show usedC c = _ from usedC_128 hk] at hu
 have e_ptsn : c.ptsn = 0 := congrArg Ck.ptsn hu
 have e_pstr : c.pstr = 0 := congrArg Ck.pstr hu
 have e_pseq : c.pseq = 0 := congrArg Ck.pseq hu
 have e_pb : c.pb = false := congrArg Ck.pb hu
 have e_pe : c.pe = false := congrArg Ck.pe hu
 have e_pu : c.pu = false := congrArg Ck.pu hu
 have e_text : c.text = [] := congrArg Ck.text hu
 have e_tag : c.tag = 0 := congrArg Ck.tag hu
 have e_win : c.win = 0 := congrArg Ck.win hu
 have e_out : c.out = 0 := congrArg Ck.out hu
 have e_inn : c.inn = 0 := congrArg Ck.inn hu
 have e_tsn : c.tsn = 0 := congrArg Ck.tsn hu
 have e_rand : c.rand = [] := congrArg Ck.rand hu
 have e_addrs : c.addrs = [] := congrArg Ck.addrs hu
 have e_info : c.info = [] := congrArg Ck.info hu
 have e_gaps : c.gaps = [] := congrArg Ck.gaps hu
 have e_dups : c.dups = [] := congrArg Ck.dups hu
 have e_cause : c.cause = 0 := congrArg Ck.cause hu
 have e_ops : c.ops = [] := congrArg Ck.ops hu
 clear hu
 have l_text : c.text.length = 0 := by rw [e_text]; rfl
 have l_rand : c.rand.length = 0 := by rw [e_rand]; rfl
 have l_addrs : c.addrs.length = 0 := by rw [e_addrs]; rfl
 have l_info : c.info.length = 0 := by rw [e_info]; rfl
 have l_gaps : c.gaps.length = 0 := by rw [e_gaps]; rfl
 have l_dups : c.dups.length = 0 := by rw [e_dups]; rfl
 have l_ops : c.ops.length = 0 := by rw [e_ops]; rfl
 exact ⟨g.kn, (by omega), (by omega), (by omega), fun _ => ⟨e_ptsn, e_pstr, e_pseq, e_pb, e_pe, e_pu, l_text⟩, (by omega), (by omega), (by rw [e_addrs]; rfl), (by omega), (by omega), (by omega), (by omega), (by omega), (by omega), fun _ => ⟨l_gaps, l_dups⟩, (by omega), (by rw [e_gaps]; rfl), (by omega), (by omega), (by omega), fun _ => hk, (by rw [e_ops]; rfl)⟩
theorem yes_good_128 {c : Ck} (hk : c.kind = 128) (y : Yes c) : GoodC c := by
 obtain ⟨y1, y2, y3, y4, y5, y6, y7, y8, y9, y10, y11, y12, y13, y14, y15, y16, y17, y18, y19, y20, y21, y22⟩ := y
 obtain ⟨e_ptsn, e_pstr, e_pseq, e_pb, e_pe, e_pu, l_text⟩ := y5 (by omega)
 obtain ⟨e_tag, e_out, e_inn, l_rand, l_addrs⟩ := y7 (by omega)
 have e_win : c.win = 0 := by omega
 have e_tsn : c.tsn = 0 := by omega
 have l_info : c.info.length = 0 := y14 (by omega) (by omega)
 obtain ⟨l_gaps, l_dups⟩ := y15 (by omega)
 have e_cause : c.cause = 0 := by omega
 have l_ops : c.ops.length = 0 := y19 (by omega)
 have e_text : c.text = [] := List.length_eq_zero_iff.1 l_text
 have e_rand : c.rand = [] := List.length_eq_zero_iff.1 l_rand
 have e_addrs : c.addrs = [] := List.length_eq_zero_iff.1 l_addrs
 have e_info : c.info = [] := List.length_eq_zero_iff.1 l_info
 have e_gaps : c.gaps = [] := List.length_eq_zero_iff.1 l_gaps
 have e_dups : c.dups = [] := List.length_eq_zero_iff.1 l_dups
 have e_ops : c.ops = [] := List.length_eq_zero_iff.1 l_ops
 refine ⟨y1, by simp only [fitsB, hk, Int.reduceEq, if_false, or_self], ?_⟩
 rw [show usedC c = _ from usedC_128 hk]
 clear y1 y2 y3 y4 y5 y6 y7 y8 y9 y10 y11 y12 y13 y14 y15 y16 y17 y18 y19 y20 y21 y22
 cases c
 simp only at *
 subst hk e_ptsn e_pstr e_pseq e_pb e_pe e_pu e_text e_tag e_win e_out e_inn e_tsn e_rand e_addrs e_info e_gaps e_dups e_cause e_ops
 rfl
theorem good_yes_193 {c : Ck} (hk : c.kind = 193) (g : GoodC c) : Yes c := by
 have hu := g.use
 rw [show usedC c = _ from usedC_193 hk] at hu
 have e_ptsn : c.ptsn = 0 := congrArg Ck.ptsn hu
 have e_pstr : c.pstr = 0 := congrArg Ck.pstr hu
 have e_pseq : c.pseq = 0 := congrArg Ck.pseq hu
 have e_pb : c.pb = false := congrArg Ck.pb hu
 have e_pe : c.pe = false := congrArg Ck.pe hu
 have e_pu : c.pu = false := congrArg Ck.pu hu
 have e_text : c.text = [] := congrArg Ck.text hu
 have e_tag : c.tag = 0 := congrArg Ck.tag hu
 have e_win : c.win = 0 := congrArg Ck.win hu
 have e_out : c.out = 0 := congrArg Ck.out hu
 have e_inn : c.inn = 0 := congrArg Ck.inn hu
 have e_tsn : c.tsn = 0 := congrArg Ck.tsn hu
 have e_rand : c.rand = [] := congrArg Ck.rand hu
 have e_addrs : c.addrs = [] := congrArg Ck.addrs hu
 have e_info : c.info = [] := congrArg Ck.info hu
 have e_gaps : c.gaps = [] := congrArg Ck.gaps hu
 have e_dups : c.dups = [] := congrArg Ck.dups hu
 have e_cause : c.cause = 0 := congrArg Ck.cause hu
 have e_ok : c.ok = false := congrArg Ck.ok hu
 clear hu
 have hf := good_193 g hk
 obtain ⟨f1, f2⟩ := hf
 have l_text : c.text.length = 0 := by rw [e_text]; rfl
 have l_rand : c.rand.length = 0 := by rw [e_rand]; rfl
 have l_addrs : c.addrs.length = 0 := by rw [e_addrs]; rfl
 have l_info : c.info.length = 0 := by rw [e_info]; rfl
 have l_gaps : c.gaps.length = 0 := by rw [e_gaps]; rfl
 have l_dups : c.dups.length = 0 := by rw [e_dups]; rfl
 exact ⟨g.kn, (by omega), (by omega), (by omega), fun _ => ⟨e_ptsn, e_pstr, e_pseq, e_pb, e_pe, e_pu, l_text⟩, (by omega), (by omega), (by rw [e_addrs]; rfl), (by omega), (by omega), (by omega), (by omega), (by omega), (by omega), fun _ => ⟨l_gaps, l_dups⟩, (by omega), (by rw [e_gaps]; rfl), (by omega), (by omega), (by omega), (by rw [e_ok]; intro h; cases h), f2⟩
theorem yes_good_193 {c : Ck} (hk : c.kind = 193) (y : Yes c) : GoodC c := by
 obtain ⟨y1, y2, y3, y4, y5, y6, y7, y8, y9, y10, y11, y12, y13, y14, y15, y16, y17, y18, y19, y20, y21, y22⟩ := y
 obtain ⟨e_ptsn, e_pstr, e_pseq, e_pb, e_pe, e_pu, l_text⟩ := y5 (by omega)
 obtain ⟨e_tag, e_out, e_inn, l_rand, l_addrs⟩ := y7 (by omega)
 have e_win : c.win = 0 := by omega
 have e_tsn : c.tsn = 0 := by omega
 have l_info : c.info.length = 0 := y14 (by omega) (by omega)
 obtain ⟨l_gaps, l_dups⟩ := y15 (by omega)
 have e_cause : c.cause = 0 := by omega
 have e_ok : c.ok = false := by cases h : c.ok with | true => have := y21 h; omega | false => rfl
 have e_text : c.text = [] := List.length_eq_zero_iff.1 l_text
 have e_rand : c.rand = [] := List.length_eq_zero_iff.1 l_rand
 have e_addrs : c.addrs = [] := List.length_eq_zero_iff.1 l_addrs
 have e_info : c.info = [] := List.length_eq_zero_iff.1 l_info
 have e_gaps : c.gaps = [] := List.length_eq_zero_iff.1 l_gaps
 have e_dups : c.dups = [] := List.length_eq_zero_iff.1 l_dups
 refine ⟨y1, by have := y18 hk;  simp only [fitsB, hk, Int.reduceEq, if_false, if_true, or_self, Bool.and_eq_true, inB_iff];  exact ⟨by omega, y22⟩, ?_⟩
 rw [show usedC c = _ from usedC_193 hk]
 clear y1 y2 y3 y4 y5 y6 y7 y8 y9 y10 y11 y12 y13 y14 y15 y16 y17 y18 y19 y20 y21 y22
 cases c
 simp only at *
 subst hk e_ptsn e_pstr e_pseq e_pb e_pe e_pu e_text e_tag e_win e_out e_inn e_tsn e_rand e_addrs e_info e_gaps e_dups e_cause e_ok
 rfl
theorem yes_iff (c : Ck) : Yes c ↔ GoodC c := by
 constructor
 ·
  intro y
  rcases knB_cases y.kn with h | h | h | h | h | h | h | h | h | h | h | h | h | h | h | h
  ·
   exact yes_good_0 h y
  ·
   exact yes_good_1 h y
  ·
   exact yes_good_2 h y
  ·
   exact yes_good_3 h y
  ·
   exact yes_good_4 h y
  ·
   exact yes_good_5 h y
  ·
   exact yes_good_6 h y
  ·
   exact yes_good_7 h y
  ·
   exact yes_good_8 h y
  ·
   exact yes_good_9 h y
  ·
   exact yes_good_10 h y
  ·
   exact yes_good_11 h y
  ·
   exact yes_good_14 h y
  ·
   exact yes_good_15 h y
  ·
   exact yes_good_128 h y
  ·
   exact yes_good_193 h y
 ·
  intro g
  rcases knB_cases g.kn with h | h | h | h | h | h | h | h | h | h | h | h | h | h | h | h
  ·
   exact good_yes_0 h g
  ·
   exact good_yes_1 h g
  ·
   exact good_yes_2 h g
  ·
   exact good_yes_3 h g
  ·
   exact good_yes_4 h g
  ·
   exact good_yes_5 h g
  ·
   exact good_yes_6 h g
  ·
   exact good_yes_7 h g
  ·
   exact good_yes_8 h g
  ·
   exact good_yes_9 h g
  ·
   exact good_yes_10 h g
  ·
   exact good_yes_11 h g
  ·
   exact good_yes_14 h g
  ·
   exact good_yes_15 h g
  ·
   exact good_yes_128 h g
  ·
   exact good_yes_193 h g
def ValueIs (w : World) (c : Ck) (e : Ending) (w' : World) : Prop := ∃ a n cp, e = .returned (.slice a n cp) ∧ n = (valB c).length ∧ OB w' w.heap.size (.slice a n cp) (valB c) ∧ Ext w w'
theorem value_0 {w : World} {c : Ck} {s : Sv} (ha : CkAt w s c) (hf : Fit c) (hg : GoodC c) (hk : c.kind = 0) :
  Calls Try.prog 26 #[.agg (CV c s)] w (ValueIs w c) := by
 have HB : Hid ((valB c).length ≤ 600) := valB_len hg
 have hw := good_0 hg hk
 have HB2 : Hid (c.text.length ≤ 64) := hw.2
 clear hw
 have w1_ : IntKind.u64.wrap (c.ptsn : Int) = (c.ptsn : Int) := by rw [IntKind.wrap_u64]; have := hf.ptsn; omega
 have w2_ : IntKind.u64.wrap (c.pstr : Int) = (c.pstr : Int) := by rw [IntKind.wrap_u64]; have := hf.pstr; omega
 have w3_ : IntKind.u64.wrap (c.pseq : Int) = (c.pseq : Int) := by rw [IntKind.wrap_u64]; have := hf.pseq; omega
 have HV : Hid (valB c = ((be c.ptsn 4 ++ be c.pstr 2) ++ be c.pseq 2) ++ c.text) := show _ = _ by simp [valB, hk]
 go_enter Try.func26, Try.ntmps26
 go_wp2_with (first
  | (have q := st6; clear q; go_at_call 31; refine (ocBytes st6 (by have := HB.out; have := HV.out; rw [← this]; omega)).mono ?_; rintro e wz ⟨az, nz, cz, rfl, hnz, hoz, hez⟩; have HZ : Hid (nz = (valB c).length) := hnz.trans (congrArg List.length HV.out.symm); clear hnz; rw [← HV.out] at hoz)
  | (go_at_call 29; refine (ocPut st5 ((HC.t).ext st5.out) (by have := HB2.out; (try simp only [List.length_append, be_len, List.length_nil]); omega)).mono ?_; rintro e w6 ⟨⟨y6, rfl⟩, st6, kk6⟩; clear kk6)
  | (have q := st4; clear q; go_at_call 27; refine (ocNum st4 c.pseq 2 (by (try simp only [List.length_append, be_len, List.length_nil]); omega)).mono ?_; rintro e w5 ⟨⟨y5, rfl⟩, st5, kk5⟩; clear kk5; rw [numB2] at st5; have d7_5 := cv7 (hb1.ext st5.out))
  | (have q := st3; clear q; go_at_call 27; refine (ocNum st3 c.pstr 2 (by (try simp only [List.length_append, be_len, List.length_nil]); omega)).mono ?_; rintro e w4 ⟨⟨y4, rfl⟩, st4, kk4⟩; clear kk4; rw [numB2] at st4; have d3_4 := cv3 (hb1.ext st4.out))
  | (have q := st2; clear q; go_at_call 27; refine (ocNum st2 c.ptsn 4 (by (try simp only [List.length_append, be_len, List.length_nil]); omega)).mono ?_; rintro e w3 ⟨⟨y3, rfl⟩, st3, kk3⟩; clear kk3; rw [numB4, List.nil_append] at st3; have d2_3 := cv2 (hb1.ext st3.out))
  | (refine wl_alloc rfl rfl zeroO ?_; intro w2 hb2 he2 hx; clear hx; have st2 := OC.new hb2 he2; have d0_2 := cv0 (hb1.ext st2.out); clear hb2; have d1_2 := cv1 (hb1.ext st2.out))
  | (refine wl_box (C := CV c s) rfl rfl rfl ?_; intro w1 hb1 he1 hx; clear hx; have HC := ha.ext he1))
 go_ret
 exact ⟨_, _, _, rfl, HZ.out, hoz.base he1.size, (he1.trans st6.out).trans hez⟩
theorem value_1 {w : World} {c : Ck} {s : Sv} (ha : CkAt w s c) (hf : Fit c) (hg : GoodC c) (hk : c.kind = 1) :
  Calls Try.prog 26 #[.agg (CV c s)] w (ValueIs w c) := by
 have HB : Hid ((valB c).length ≤ 600) := valB_len hg
 have HS : Hid (StartC c ∧ c.info.length ≤ 300) := ⟨good_1 hg hk, (by have := hg.use; rw [usedC_1 hk] at this; rw [this]; simp [ck0])⟩
 have HV : Hid (valB c = startV c) := show _ = _ by simp [valB, hk]
 go_enter Try.func26, Try.ntmps26
 go_wp2_with (first
  | (have q := st3; clear q; go_at_call 31; refine (ocBytes st3 (by have := HB.out; have := HV.out; rw [← this]; omega)).mono ?_; rintro e wz ⟨az, nz, cz, rfl, hnz, hoz, hez⟩; have HZ : Hid (nz = (valB c).length) := hnz.trans (congrArg List.length HV.out.symm); clear hnz; rw [← HV.out] at hoz)
  | (have q := st2; clear q; go_at_call 61; refine (putStart_any st2 HC hf (by simp) HS.out.1.win (by have := HS.out.1.out; omega) (by have := HS.out.1.inn; omega) HS.out.1.rand.2 HS.out.1.addrs.2 HS.out.1.ads HS.out.2).mono ?_; rintro e w3 ⟨⟨y3, rfl⟩, st3, kk3⟩; clear kk3; rw [List.nil_append] at st3)
  | (refine wl_load rfl rowC rfl rfl (hb1.ext st2.out) rfl ?_)
  | (refine wl_alloc rfl rfl zeroO ?_; intro w2 hb2 he2 hx; clear hx; have st2 := OC.new hb2 he2; have d0_2 := cv0 (hb1.ext st2.out); clear hb2; have d0_2 := cv0 (hb1.ext st2.out))
  | (refine wl_box (C := CV c s) rfl rfl rfl ?_; intro w1 hb1 he1 hx; clear hx; have HC := ha.ext he1))
 go_ret
 exact ⟨_, _, _, rfl, HZ.out, hoz.base he1.size, (he1.trans st3.out).trans hez⟩
theorem value_2 {w : World} {c : Ck} {s : Sv} (ha : CkAt w s c) (hf : Fit c) (hg : GoodC c) (hk : c.kind = 2) :
  Calls Try.prog 26 #[.agg (CV c s)] w (ValueIs w c) := by
 have HB : Hid ((valB c).length ≤ 600) := valB_len hg
 have HS : Hid (StartC c ∧ c.info.length ≤ 300) := ⟨(good_2 hg hk).1, (good_2 hg hk).2.2⟩
 have HV : Hid (valB c = startV c) := show _ = _ by simp [valB, hk]
 go_enter Try.func26, Try.ntmps26
 go_wp2_with (first
  | (have q := st3; clear q; go_at_call 31; refine (ocBytes st3 (by have := HB.out; have := HV.out; rw [← this]; omega)).mono ?_; rintro e wz ⟨az, nz, cz, rfl, hnz, hoz, hez⟩; have HZ : Hid (nz = (valB c).length) := hnz.trans (congrArg List.length HV.out.symm); clear hnz; rw [← HV.out] at hoz)
  | (have q := st2; clear q; go_at_call 61; refine (putStart_any st2 HC hf (by simp) HS.out.1.win (by have := HS.out.1.out; omega) (by have := HS.out.1.inn; omega) HS.out.1.rand.2 HS.out.1.addrs.2 HS.out.1.ads HS.out.2).mono ?_; rintro e w3 ⟨⟨y3, rfl⟩, st3, kk3⟩; clear kk3; rw [List.nil_append] at st3)
  | (refine wl_load rfl rowC rfl rfl (hb1.ext st2.out) rfl ?_)
  | (refine wl_alloc rfl rfl zeroO ?_; intro w2 hb2 he2 hx; clear hx; have st2 := OC.new hb2 he2; have d0_2 := cv0 (hb1.ext st2.out); clear hb2; have d0_2 := cv0 (hb1.ext st2.out))
  | (refine wl_box (C := CV c s) rfl rfl rfl ?_; intro w1 hb1 he1 hx; clear hx; have HC := ha.ext he1))
 go_ret
 exact ⟨_, _, _, rfl, HZ.out, hoz.base he1.size, (he1.trans st3.out).trans hez⟩
theorem value_3 {w : World} {c : Ck} {s : Sv} (ha : CkAt w s c) (hf : Fit c) (hg : GoodC c) (hk : c.kind = 3) :
  Calls Try.prog 26 #[.agg (CV c s)] w (ValueIs w c) := by
 have HB : Hid ((valB c).length ≤ 600) := valB_len hg
 have HS : Hid ((0 ≤ c.win ∧ c.win ≤ 2147483647) ∧ gapsB (-1) c.gaps = true ∧ c.gaps.length ≤ 16 ∧ c.dups.length ≤ 16) := good_3 hg hk
 have HV : Hid (valB c = sackV c) := show _ = _ by simp [valB, hk]
 go_enter Try.func26, Try.ntmps26
 go_wp2_with (first
  | (have q := st3; clear q; go_at_call 31; refine (ocBytes st3 (by have := HB.out; have := HV.out; rw [← this]; omega)).mono ?_; rintro e wz ⟨az, nz, cz, rfl, hnz, hoz, hez⟩; have HZ : Hid (nz = (valB c).length) := hnz.trans (congrArg List.length HV.out.symm); clear hnz; rw [← HV.out] at hoz)
  | (have q := st2; clear q; go_at_call 62; refine (putSack_any st2 HC hf (by simp) HS.out.1 HS.out.2.2.1 HS.out.2.1 HS.out.2.2.2).mono ?_; rintro e w3 ⟨⟨y3, rfl⟩, st3, kk3⟩; clear kk3; rw [List.nil_append] at st3)
  | (refine wl_load rfl rowC rfl rfl (hb1.ext st2.out) rfl ?_)
  | (refine wl_alloc rfl rfl zeroO ?_; intro w2 hb2 he2 hx; clear hx; have st2 := OC.new hb2 he2; have d0_2 := cv0 (hb1.ext st2.out); clear hb2; have d0_2 := cv0 (hb1.ext st2.out))
  | (refine wl_box (C := CV c s) rfl rfl rfl ?_; intro w1 hb1 he1 hx; clear hx; have HC := ha.ext he1))
 go_ret
 exact ⟨_, _, _, rfl, HZ.out, hoz.base he1.size, (he1.trans st3.out).trans hez⟩
theorem value_4 {w : World} {c : Ck} {s : Sv} (ha : CkAt w s c) (hf : Fit c) (hg : GoodC c) (hk : c.kind = 4) :
  Calls Try.prog 26 #[.agg (CV c s)] w (ValueIs w c) := by
 have HB : Hid ((valB c).length ≤ 600) := valB_len hg
 have HS : Hid (1 ≤ c.info.length ∧ c.info.length ≤ 300) := good_info hg (by simp [hk])
 have HV : Hid (valB c = parB (1, c.info)) := show _ = _ by simp [valB, hk]
 go_enter Try.func26, Try.ntmps26
 go_wp2_with (first
  | (have q := st3; clear q; go_at_call 31; refine (ocBytes st3 (by have := HB.out; have := HV.out; rw [← this]; omega)).mono ?_; rintro e wz ⟨az, nz, cz, rfl, hnz, hoz, hez⟩; have HZ : Hid (nz = (valB c).length) := hnz.trans (congrArg List.length HV.out.symm); clear hnz; rw [← HV.out] at hoz)
  | (go_at_call 63; refine (putParam_any st2 1 (by decide) (HC.i.ext st2.out) (by have := HS.out.2; omega) (by simp)).mono ?_; rintro e w3 ⟨⟨y3, rfl⟩, st3, kk3⟩; clear kk3; rw [List.nil_append] at st3)
  | (refine wl_alloc rfl rfl zeroO ?_; intro w2 hb2 he2 hx; clear hx; have st2 := OC.new hb2 he2; have d0_2 := cv0 (hb1.ext st2.out); clear hb2; have d15_2 := cv15 (hb1.ext st2.out))
  | (refine wl_box (C := CV c s) rfl rfl rfl ?_; intro w1 hb1 he1 hx; clear hx; have HC := ha.ext he1))
 go_ret
 exact ⟨_, _, _, rfl, HZ.out, hoz.base he1.size, (he1.trans st3.out).trans hez⟩
theorem value_5 {w : World} {c : Ck} {s : Sv} (ha : CkAt w s c) (hf : Fit c) (hg : GoodC c) (hk : c.kind = 5) :
  Calls Try.prog 26 #[.agg (CV c s)] w (ValueIs w c) := by
 have HB : Hid ((valB c).length ≤ 600) := valB_len hg
 have HS : Hid (1 ≤ c.info.length ∧ c.info.length ≤ 300) := good_info hg (by simp [hk])
 have HV : Hid (valB c = parB (1, c.info)) := show _ = _ by simp [valB, hk]
 go_enter Try.func26, Try.ntmps26
 go_wp2_with (first
  | (have q := st3; clear q; go_at_call 31; refine (ocBytes st3 (by have := HB.out; have := HV.out; rw [← this]; omega)).mono ?_; rintro e wz ⟨az, nz, cz, rfl, hnz, hoz, hez⟩; have HZ : Hid (nz = (valB c).length) := hnz.trans (congrArg List.length HV.out.symm); clear hnz; rw [← HV.out] at hoz)
  | (go_at_call 63; refine (putParam_any st2 1 (by decide) (HC.i.ext st2.out) (by have := HS.out.2; omega) (by simp)).mono ?_; rintro e w3 ⟨⟨y3, rfl⟩, st3, kk3⟩; clear kk3; rw [List.nil_append] at st3)
  | (refine wl_alloc rfl rfl zeroO ?_; intro w2 hb2 he2 hx; clear hx; have st2 := OC.new hb2 he2; have d0_2 := cv0 (hb1.ext st2.out); clear hb2; have d15_2 := cv15 (hb1.ext st2.out))
  | (refine wl_box (C := CV c s) rfl rfl rfl ?_; intro w1 hb1 he1 hx; clear hx; have HC := ha.ext he1))
 go_ret
 exact ⟨_, _, _, rfl, HZ.out, hoz.base he1.size, (he1.trans st3.out).trans hez⟩
theorem value_6 {w : World} {c : Ck} {s : Sv} (ha : CkAt w s c) (hf : Fit c) (hg : GoodC c) (hk : c.kind = 6) :
  Calls Try.prog 26 #[.agg (CV c s)] w (ValueIs w c) := by
 have HB : Hid ((valB c).length ≤ 600) := valB_len hg
 obtain ⟨W, hW⟩ : ∃ W : Nat, c.cause = (W : Int) := ⟨_, (Int.toNat_of_nonneg (good_cause hg (by simp [hk])).1).symm⟩
 have hW2 : W < 65536 := by have := good_cause hg (by simp [hk]); omega
 have w1_ : IntKind.u64.wrap (W : Int) = (W : Int) := by rw [IntKind.wrap_u64]; have := hW2; omega
 have HV : Hid (valB c = be W 2 ++ be 4 2) := show _ = _ by simp [valB, hk, hW]
 go_enter Try.func26, Try.ntmps26
 go_wp2_with (first
  | (have q := st4; clear q; go_at_call 31; refine (ocBytes st4 (by have := HB.out; have := HV.out; rw [← this]; omega)).mono ?_; rintro e wz ⟨az, nz, cz, rfl, hnz, hoz, hez⟩; have HZ : Hid (nz = (valB c).length) := hnz.trans (congrArg List.length HV.out.symm); clear hnz; rw [← HV.out] at hoz)
  | (have q := st3; clear q; go_at_call 27; refine (ocNum st3 4 2 (by (try simp only [List.length_append, be_len, List.length_nil]); omega)).mono ?_; rintro e w4 ⟨⟨y4, rfl⟩, st4, kk4⟩; clear kk4; rw [numB2] at st4)
  | (have q := st2; clear q; go_at_call 27; refine (ocNum st2 W 2 (by (try simp only [List.length_append, be_len, List.length_nil]); omega)).mono ?_; rintro e w3 ⟨⟨y3, rfl⟩, st3, kk3⟩; clear kk3; rw [numB2, List.nil_append] at st3; have d0_3 := cv0 (hb1.ext st3.out))
  | (refine wl_alloc rfl rfl zeroO ?_; intro w2 hb2 he2 hx; clear hx; have st2 := OC.new hb2 he2; have d0_2 := cv0 (hb1.ext st2.out); clear hb2; have d18_2 := cv18 (hb1.ext st2.out))
  | (refine wl_box (C := CV c s) rfl rfl rfl ?_; intro w1 hb1 he1 hx; clear hx; have HC := ha.ext he1))
 go_ret
 exact ⟨_, _, _, rfl, HZ.out, hoz.base he1.size, (he1.trans st4.out).trans hez⟩
theorem value_9 {w : World} {c : Ck} {s : Sv} (ha : CkAt w s c) (hf : Fit c) (hg : GoodC c) (hk : c.kind = 9) :
  Calls Try.prog 26 #[.agg (CV c s)] w (ValueIs w c) := by
 have HB : Hid ((valB c).length ≤ 600) := valB_len hg
 obtain ⟨W, hW⟩ : ∃ W : Nat, c.cause = (W : Int) := ⟨_, (Int.toNat_of_nonneg (good_cause hg (by simp [hk])).1).symm⟩
 have hW2 : W < 65536 := by have := good_cause hg (by simp [hk]); omega
 have w1_ : IntKind.u64.wrap (W : Int) = (W : Int) := by rw [IntKind.wrap_u64]; have := hW2; omega
 have HV : Hid (valB c = be W 2 ++ be 4 2) := show _ = _ by simp [valB, hk, hW]
 go_enter Try.func26, Try.ntmps26
 go_wp2_with (first
  | (have q := st4; clear q; go_at_call 31; refine (ocBytes st4 (by have := HB.out; have := HV.out; rw [← this]; omega)).mono ?_; rintro e wz ⟨az, nz, cz, rfl, hnz, hoz, hez⟩; have HZ : Hid (nz = (valB c).length) := hnz.trans (congrArg List.length HV.out.symm); clear hnz; rw [← HV.out] at hoz)
  | (have q := st3; clear q; go_at_call 27; refine (ocNum st3 4 2 (by (try simp only [List.length_append, be_len, List.length_nil]); omega)).mono ?_; rintro e w4 ⟨⟨y4, rfl⟩, st4, kk4⟩; clear kk4; rw [numB2] at st4)
  | (have q := st2; clear q; go_at_call 27; refine (ocNum st2 W 2 (by (try simp only [List.length_append, be_len, List.length_nil]); omega)).mono ?_; rintro e w3 ⟨⟨y3, rfl⟩, st3, kk3⟩; clear kk3; rw [numB2, List.nil_append] at st3; have d0_3 := cv0 (hb1.ext st3.out))
  | (refine wl_alloc rfl rfl zeroO ?_; intro w2 hb2 he2 hx; clear hx; have st2 := OC.new hb2 he2; have d0_2 := cv0 (hb1.ext st2.out); clear hb2; have d18_2 := cv18 (hb1.ext st2.out))
  | (refine wl_box (C := CV c s) rfl rfl rfl ?_; intro w1 hb1 he1 hx; clear hx; have HC := ha.ext he1))
 go_ret
 exact ⟨_, _, _, rfl, HZ.out, hoz.base he1.size, (he1.trans st4.out).trans hez⟩
theorem value_7 {w : World} {c : Ck} {s : Sv} (ha : CkAt w s c) (hf : Fit c) (hg : GoodC c) (hk : c.kind = 7) :
  Calls Try.prog 26 #[.agg (CV c s)] w (ValueIs w c) := by
 have HB : Hid ((valB c).length ≤ 600) := valB_len hg
 have w1_ : IntKind.u64.wrap (c.tsn : Int) = (c.tsn : Int) := by rw [IntKind.wrap_u64]; have := hf.tsn; omega
 have HV : Hid (valB c = be c.tsn 4) := show _ = _ by simp [valB, hk]
 go_enter Try.func26, Try.ntmps26
 go_wp2_with (first
  | (have q := st3; clear q; go_at_call 31; refine (ocBytes st3 (by have := HB.out; have := HV.out; rw [← this]; omega)).mono ?_; rintro e wz ⟨az, nz, cz, rfl, hnz, hoz, hez⟩; have HZ : Hid (nz = (valB c).length) := hnz.trans (congrArg List.length HV.out.symm); clear hnz; rw [← HV.out] at hoz)
  | (have q := st2; clear q; go_at_call 27; refine (ocNum st2 c.tsn 4 (by (try simp only [List.length_append, be_len, List.length_nil]); omega)).mono ?_; rintro e w3 ⟨⟨y3, rfl⟩, st3, kk3⟩; clear kk3; rw [numB4, List.nil_append] at st3)
  | (refine wl_alloc rfl rfl zeroO ?_; intro w2 hb2 he2 hx; clear hx; have st2 := OC.new hb2 he2; have d0_2 := cv0 (hb1.ext st2.out); clear hb2; have d12_2 := cv12 (hb1.ext st2.out))
  | (refine wl_box (C := CV c s) rfl rfl rfl ?_; intro w1 hb1 he1 hx; clear hx; have HC := ha.ext he1))
 go_ret
 exact ⟨_, _, _, rfl, HZ.out, hoz.base he1.size, (he1.trans st3.out).trans hez⟩
theorem value_10 {w : World} {c : Ck} {s : Sv} (ha : CkAt w s c) (hf : Fit c) (hg : GoodC c) (hk : c.kind = 10) :
  Calls Try.prog 26 #[.agg (CV c s)] w (ValueIs w c) := by
 have HB : Hid ((valB c).length ≤ 600) := valB_len hg
 have HV : Hid (valB c = c.info) := show _ = _ by simp [valB, hk]
 go_enter Try.func26, Try.ntmps26
 go_wp2_with (first
  | (have q := st3; clear q; go_at_call 31; refine (ocBytes st3 (by have := HB.out; have := HV.out; rw [← this]; omega)).mono ?_; rintro e wz ⟨az, nz, cz, rfl, hnz, hoz, hez⟩; have HZ : Hid (nz = (valB c).length) := hnz.trans (congrArg List.length HV.out.symm); clear hnz; rw [← HV.out] at hoz)
  | (go_at_call 29; refine (ocPut st2 ((HC.i).ext st2.out) (by have := HB.out; rw [HV.out] at this; (try simp only [List.length_nil]); omega)).mono ?_; rintro e w3 ⟨⟨y3, rfl⟩, st3, kk3⟩; clear kk3; rw [List.nil_append] at st3)
  | (refine wl_alloc rfl rfl zeroO ?_; intro w2 hb2 he2 hx; clear hx; have st2 := OC.new hb2 he2; have d0_2 := cv0 (hb1.ext st2.out); clear hb2; have d15_2 := cv15 (hb1.ext st2.out))
  | (refine wl_box (C := CV c s) rfl rfl rfl ?_; intro w1 hb1 he1 hx; clear hx; have HC := ha.ext he1))
 go_ret
 exact ⟨_, _, _, rfl, HZ.out, hoz.base he1.size, (he1.trans st3.out).trans hez⟩
theorem value_15 {w : World} {c : Ck} {s : Sv} (ha : CkAt w s c) (hf : Fit c) (hg : GoodC c) (hk : c.kind = 15) :
  Calls Try.prog 26 #[.agg (CV c s)] w (ValueIs w c) := by
 have HB : Hid ((valB c).length ≤ 600) := valB_len hg
 have HV : Hid (valB c = c.info) := show _ = _ by simp [valB, hk]
 go_enter Try.func26, Try.ntmps26
 go_wp2_with (first
  | (have q := st3; clear q; go_at_call 31; refine (ocBytes st3 (by have := HB.out; have := HV.out; rw [← this]; omega)).mono ?_; rintro e wz ⟨az, nz, cz, rfl, hnz, hoz, hez⟩; have HZ : Hid (nz = (valB c).length) := hnz.trans (congrArg List.length HV.out.symm); clear hnz; rw [← HV.out] at hoz)
  | (go_at_call 29; refine (ocPut st2 ((HC.i).ext st2.out) (by have := HB.out; rw [HV.out] at this; (try simp only [List.length_nil]); omega)).mono ?_; rintro e w3 ⟨⟨y3, rfl⟩, st3, kk3⟩; clear kk3; rw [List.nil_append] at st3)
  | (refine wl_alloc rfl rfl zeroO ?_; intro w2 hb2 he2 hx; clear hx; have st2 := OC.new hb2 he2; have d0_2 := cv0 (hb1.ext st2.out); clear hb2; have d15_2 := cv15 (hb1.ext st2.out))
  | (refine wl_box (C := CV c s) rfl rfl rfl ?_; intro w1 hb1 he1 hx; clear hx; have HC := ha.ext he1))
 go_ret
 exact ⟨_, _, _, rfl, HZ.out, hoz.base he1.size, (he1.trans st3.out).trans hez⟩
theorem value_193 {w : World} {c : Ck} {s : Sv} (ha : CkAt w s c) (hf : Fit c) (hg : GoodC c) (hk : c.kind = 193) :
  Calls Try.prog 26 #[.agg (CV c s)] w (ValueIs w c) := by
 have HB : Hid ((valB c).length ≤ 600) := valB_len hg
 have HS : Hid ((1 ≤ c.ops.length ∧ c.ops.length ≤ 9) ∧ opsB c.ops = true) := good_193 hg hk
 have HV : Hid (valB c = opsV c) := show _ = _ by simp [valB, hk]
 go_enter Try.func26, Try.ntmps26
 go_wp2_with (first
  | (have q := st3; clear q; go_at_call 31; refine (ocBytes st3 (by have := HB.out; have := HV.out; rw [← this]; omega)).mono ?_; rintro e wz ⟨az, nz, cz, rfl, hnz, hoz, hez⟩; have HZ : Hid (nz = (valB c).length) := hnz.trans (congrArg List.length HV.out.symm); clear hnz; rw [← HV.out] at hoz)
  | (have q := st2; clear q; go_at_call 64; refine (putOps_any st2 HC hf (by simp) HS.out.1.2 HS.out.2).mono ?_; rintro e w3 ⟨⟨y3, rfl⟩, st3, kk3⟩; clear kk3; rw [List.nil_append] at st3)
  | (refine wl_load rfl rowC rfl rfl (hb1.ext st2.out) rfl ?_)
  | (refine wl_alloc rfl rfl zeroO ?_; intro w2 hb2 he2 hx; clear hx; have st2 := OC.new hb2 he2; have d0_2 := cv0 (hb1.ext st2.out); clear hb2; have d0_2 := cv0 (hb1.ext st2.out))
  | (refine wl_box (C := CV c s) rfl rfl rfl ?_; intro w1 hb1 he1 hx; clear hx; have HC := ha.ext he1))
 go_ret
 exact ⟨_, _, _, rfl, HZ.out, hoz.base he1.size, (he1.trans st3.out).trans hez⟩
def okN (b : Bool) : Nat := if b = true then 1 else 0
theorem numberOf_ok (b : Bool) (w : World) : Calls Try.prog 65 #[.bool b] w fun e w' => e = .returned (.int .u64 (okN b : Int)) ∧ Ext w w' := numberOf_any b w
theorem value_128 {w : World} {c : Ck} {s : Sv} (ha : CkAt w s c) (hf : Fit c) (hg : GoodC c) (hk : c.kind = 128) :
  Calls Try.prog 26 #[.agg (CV c s)] w (ValueIs w c) := by
 have HB : Hid ((valB c).length ≤ 600) := valB_len hg
 have w1_ : IntKind.u64.wrap (c.serial : Int) = (c.serial : Int) := by rw [IntKind.wrap_u64]; have := hf.serial; omega
 have HV : Hid (valB c = be c.serial 4 ++ be (okN c.ok) 4) := show _ = _ by simp [valB, hk, okN]
 go_enter Try.func26, Try.ntmps26
 go_wp2_with (first
  | (have q := st4; clear q; go_at_call 31; refine (ocBytes st4 (by have := HB.out; have := HV.out; rw [← this]; omega)).mono ?_; rintro e wz ⟨az, nz, cz, rfl, hnz, hoz, hez⟩; have HZ : Hid (nz = (valB c).length) := hnz.trans (congrArg List.length HV.out.symm); clear hnz; rw [← HV.out] at hoz)
  | (have q := st3; clear q; go_at_call 27; refine (ocNum st3 (okN c.ok) 4 (by (try simp only [List.length_append, be_len, List.length_nil]); omega)).mono ?_; rintro e w4 ⟨⟨y4, rfl⟩, st4, kk4⟩; clear kk4; rw [numB4] at st4)
  | (have q := st2; clear q; go_at_call 27; refine (ocNum st2 c.serial 4 (by (try simp only [List.length_append, be_len, List.length_nil]); omega)).mono ?_; rintro e w3 ⟨⟨y3, rfl⟩, st3, kk3⟩; clear kk3; rw [numB4, List.nil_append] at st3; have d21_3 := cv21 (hb1.ext st3.out))
  | (have q := st3; clear q; go_at_call 65; refine (numberOf_ok _ _).mono ?_; rintro e wn ⟨rfl, hen⟩; replace st3 := st3.ext hen)
  | (refine wl_alloc rfl rfl zeroO ?_; intro w2 hb2 he2 hx; clear hx; have st2 := OC.new hb2 he2; have d0_2 := cv0 (hb1.ext st2.out); clear hb2; have d19_2 := cv19 (hb1.ext st2.out))
  | (refine wl_box (C := CV c s) rfl rfl rfl ?_; intro w1 hb1 he1 hx; clear hx; have HC := ha.ext he1))
 go_ret
 exact ⟨_, _, _, rfl, HZ.out, hoz.base he1.size, (he1.trans st4.out).trans hez⟩
theorem value_8 {w : World} {c : Ck} {s : Sv} (ha : CkAt w s c) (hf : Fit c) (hg : GoodC c) (hk : c.kind = 8) :
  Calls Try.prog 26 #[.agg (CV c s)] w (ValueIs w c) := by
 have HB : Hid ((valB c).length ≤ 600) := valB_len hg
 have HV : Hid (valB c = []) := show _ = _ by simp [valB, hk]
 go_enter Try.func26, Try.ntmps26
 go_wp2_with (first
  | (have q := st2; clear q; go_at_call 31; refine (ocBytes st2 (by have := HB.out; have := HV.out; rw [← this]; omega)).mono ?_; rintro e wz ⟨az, nz, cz, rfl, hnz, hoz, hez⟩; have HZ : Hid (nz = (valB c).length) := hnz.trans (congrArg List.length HV.out.symm); clear hnz; rw [← HV.out] at hoz)
  | (refine wl_alloc rfl rfl zeroO ?_; intro w2 hb2 he2 hx; clear hx; have st2 := OC.new hb2 he2; have d0_2 := cv0 (hb1.ext st2.out); clear hb2)
  | (refine wl_box (C := CV c s) rfl rfl rfl ?_; intro w1 hb1 he1 hx; clear hx; have HC := ha.ext he1))
 go_ret
 exact ⟨_, _, _, rfl, HZ.out, hoz.base he1.size, (he1.trans st2.out).trans hez⟩
theorem value_11 {w : World} {c : Ck} {s : Sv} (ha : CkAt w s c) (hf : Fit c) (hg : GoodC c) (hk : c.kind = 11) :
  Calls Try.prog 26 #[.agg (CV c s)] w (ValueIs w c) := by
 have HB : Hid ((valB c).length ≤ 600) := valB_len hg
 have HV : Hid (valB c = []) := show _ = _ by simp [valB, hk]
 go_enter Try.func26, Try.ntmps26
 go_wp2_with (first
  | (have q := st2; clear q; go_at_call 31; refine (ocBytes st2 (by have := HB.out; have := HV.out; rw [← this]; omega)).mono ?_; rintro e wz ⟨az, nz, cz, rfl, hnz, hoz, hez⟩; have HZ : Hid (nz = (valB c).length) := hnz.trans (congrArg List.length HV.out.symm); clear hnz; rw [← HV.out] at hoz)
  | (refine wl_alloc rfl rfl zeroO ?_; intro w2 hb2 he2 hx; clear hx; have st2 := OC.new hb2 he2; have d0_2 := cv0 (hb1.ext st2.out); clear hb2)
  | (refine wl_box (C := CV c s) rfl rfl rfl ?_; intro w1 hb1 he1 hx; clear hx; have HC := ha.ext he1))
 go_ret
 exact ⟨_, _, _, rfl, HZ.out, hoz.base he1.size, (he1.trans st2.out).trans hez⟩
theorem value_14 {w : World} {c : Ck} {s : Sv} (ha : CkAt w s c) (hf : Fit c) (hg : GoodC c) (hk : c.kind = 14) :
  Calls Try.prog 26 #[.agg (CV c s)] w (ValueIs w c) := by
 have HB : Hid ((valB c).length ≤ 600) := valB_len hg
 have HV : Hid (valB c = []) := show _ = _ by simp [valB, hk]
 go_enter Try.func26, Try.ntmps26
 go_wp2_with (first
  | (have q := st2; clear q; go_at_call 31; refine (ocBytes st2 (by have := HB.out; have := HV.out; rw [← this]; omega)).mono ?_; rintro e wz ⟨az, nz, cz, rfl, hnz, hoz, hez⟩; have HZ : Hid (nz = (valB c).length) := hnz.trans (congrArg List.length HV.out.symm); clear hnz; rw [← HV.out] at hoz)
  | (refine wl_alloc rfl rfl zeroO ?_; intro w2 hb2 he2 hx; clear hx; have st2 := OC.new hb2 he2; have d0_2 := cv0 (hb1.ext st2.out); clear hb2)
  | (refine wl_box (C := CV c s) rfl rfl rfl ?_; intro w1 hb1 he1 hx; clear hx; have HC := ha.ext he1))
 go_ret
 exact ⟨_, _, _, rfl, HZ.out, hoz.base he1.size, (he1.trans st2.out).trans hez⟩
theorem valueOf_any {w : World} {c : Ck} {s : Sv} (ha : CkAt w s c) (hf : Fit c) (hg : GoodC c) :
  Calls Try.prog 26 #[.agg (CV c s)] w (ValueIs w c) := by
 rcases knB_cases hg.kn with h | h | h | h | h | h | h | h | h | h | h | h | h | h | h | h
 ·
  exact value_0 ha hf hg h
 ·
  exact value_1 ha hf hg h
 ·
  exact value_2 ha hf hg h
 ·
  exact value_3 ha hf hg h
 ·
  exact value_4 ha hf hg h
 ·
  exact value_5 ha hf hg h
 ·
  exact value_6 ha hf hg h
 ·
  exact value_7 ha hf hg h
 ·
  exact value_8 ha hf hg h
 ·
  exact value_9 ha hf hg h
 ·
  exact value_10 ha hf hg h
 ·
  exact value_11 ha hf hg h
 ·
  exact value_14 ha hf hg h
 ·
  exact value_15 ha hf hg h
 ·
  exact value_128 ha hf hg h
 ·
  exact value_193 ha hf hg h
theorem bytes_le (K F M : Nat) (V : List Nat) (h : V.length ≤ 600) : (padB (((be K 1 ++ be F 1) ++ be M 2) ++ V)).length ≤ 700 ∧ (((be K 1 ++ be F 1) ++ be M 2) ++ V).length ≤ 700 := by
 have h1 : (((be K 1 ++ be F 1) ++ be M 2) ++ V).length = 4 + V.length := by simp only [List.length_append, be_len]
 have h2 := pads_lt (((be K 1 ++ be F 1) ++ be M 2) ++ V).length
 rw [padB_len]
 omega
def BytesIs (w : World) (c : Ck) (e : Ending) (w' : World) : Prop :=
 Ext w w' ∧ ((goodB c = false ∧ e = .returned (.tuple #[.slice none 0 0, errF])) ∨ (goodB c = true ∧ ∃ a n cp, e = .returned (.tuple #[.slice a n cp, .nilIface]) ∧ n = (bytesB c).length ∧ OB w' w.heap.size (.slice a n cp) (bytesB c)))
theorem bytesC_any {w : World} {c : Ck} {s : Sv} (ha : CkAt w s c) (hf : Fit c) :
  Calls Try.prog 10 #[.agg (CV c s)] w (BytesIs w c) := by
 cases hgd : goodB c with
 | false =>
  go_enter Try.func10, Try.ntmps10
  go_wp2_with (first
   | (refine wl_box (C := CV c s) rfl rfl rfl ?_; intro w1 hb1 he1 hx; clear hx)
   | (refine wl_load rfl rowC rfl rfl hb1 rfl ?_)
   | (go_at_call 12; refine (goodC_any (ha.ext he1)).mono ?_; rintro e w2 ⟨rfl, he2⟩; rw [hgd]))
  go_ret2
  exact ⟨he1.trans he2, .inl ⟨hgd, rfl⟩⟩
 | true =>
  have HG : Hid (GoodC c) := (goodB_iff c).1 hgd
  obtain ⟨K, hK⟩ : ∃ K : Nat, c.kind = (K : Int) := by
   have := knB_cases HG.out.kn
   exact ⟨_, (Int.toNat_of_nonneg (by omega)).symm⟩
  have HK2 : Hid (K < 256) := by
   have := knB_cases HG.out.kn
   show K < 256
   omega
  have wK : IntKind.u64.wrap (K : Int) = (K : Int) := by rw [IntKind.wrap_u64]; have := HK2.out; omega
  obtain ⟨V, hV⟩ : ∃ V, V = valB c := ⟨_, rfl⟩
  have HV2 : Hid (V.length ≤ 600) := show _ ≤ _ by rw [hV]; exact valB_len HG.out
  have HV : Hid (bytesB c = padB (((be K 1 ++ be (flagN c.pb c.pe c.pu) 1) ++ be (V.length + 4) 2) ++ V) ∧ valB c = V) := ⟨by unfold bytesB; rw [hK, hV]; rfl, hV.symm⟩
  clear hV
  go_enter Try.func10, Try.ntmps10
  go_wp2_with (first
   | (have q := st8; clear q; go_at_call 31; refine (ocBytes st8 (by have := HP.out.1; omega)).mono ?_; rintro e wz ⟨az, nz, cz, rfl, hnz, hoz, hez⟩; have HZ : Hid (nz = (bytesB c).length) := hnz.trans (congrArg List.length HV.out.1.symm); clear hnz; rw [← HV.out.1] at hoz)
   | (have q := st7; clear q; go_at_call 30; refine (ocPad st7 (by have := HP.out.2; omega)).mono ?_; rintro e w8 ⟨⟨y8, rfl⟩, st8, k8⟩; clear k8; rw [HN.out] at st8)
   | (go_at_call 29; refine (ocPut st6 (ho3.bytes.ext st6.out) (by have := HV2.out; simp only [List.length_append, be_len]; omega)).mono ?_; rintro e w7 ⟨⟨y7, rfl⟩, st7, k7⟩; clear k7)
   | (have q := st5; clear q; go_at_call 27; refine (ocNum st5 (n + 4) 2 (by simp only [List.length_append, be_len, List.length_nil]; omega)).mono ?_; rintro e w6 ⟨⟨y6, rfl⟩, st6, k6⟩; clear k6; rw [numB2] at st6)
   | (have q := st5; clear q; fail)
   | (have q := st4b; clear q; go_at_call 27; refine (ocNum st4b (flagN c.pb c.pe c.pu) 1 (by simp only [List.length_append, be_len, List.length_nil]; omega)).mono ?_; rintro e w5 ⟨⟨y5, rfl⟩, st5, k5⟩; clear k5; rw [numB1] at st5)
   | (have q := st4a; clear q; go_at_call 28; refine (flagsOf_any c s _).mono ?_; rintro e wf ⟨rfl, hef⟩; have st4b := st4a.ext hef)
   | (refine wl_loadM rfl rowPc rfl rfl (hb3.ext st4a.out) (PV c s).toList (CV.piece c s) rfl ?_)
   | (have q := st4; clear q; go_at_call 27; refine (ocNum st4 K 1 (by simp)).mono ?_; rintro e w4a ⟨⟨y4, rfl⟩, st4a, k4⟩; clear k4; rw [numB1, List.nil_append] at st4a)
   | (have q := ho3; clear q; refine wl_alloc rfl rfl zeroO ?_; intro w4 hb4 he4 hx; clear hx; have st4 := OC.new hb4 he4; clear hb4; have hb3 := (hb1.ext he2).ext he3; have c0 := cv0 (hb3.ext st4.out))
   | (have q := he2; clear q; go_at_call 26; go_loud (refine (valueOf_any ((ha.ext he1).ext he2) hf HG.out).mono ?_; rintro e w3 ⟨a, n, cp, rfl, hn, ho3, he3⟩; rw [HV.out.2] at hn ho3; have HN : Hid (padB (((be K 1 ++ be (flagN c.pb c.pe c.pu) 1) ++ be (n + 4) 2) ++ V) = padB (((be K 1 ++ be (flagN c.pb c.pe c.pu) 1) ++ be (V.length + 4) 2) ++ V)) := congrArg (fun z => padB (((be K 1 ++ be (flagN c.pb c.pe c.pu) 1) ++ be (z + 4) 2) ++ V)) hn; have hn6 : n ≤ 600 := Nat.le_trans (Nat.le_of_eq hn) HV2.out; clear hn; have wn := (wrapM (n + 4) (by omega)).2.1; have HP : Hid ((padB (((be K 1 ++ be (flagN c.pb c.pe c.pu) 1) ++ be (V.length + 4) 2) ++ V)).length ≤ 700 ∧ (((be K 1 ++ be (flagN c.pb c.pe c.pu) 1) ++ be (n + 4) 2) ++ V).length ≤ 700) := ⟨(bytes_le K _ _ V HV2.out).1, (bytes_le K _ _ V HV2.out).2⟩))
   | (go_at_call 12; refine (goodC_any (ha.ext he1)).mono ?_; rintro e w2 ⟨rfl, he2⟩; rw [hgd])
   | (have q := he2; clear q; refine wl_load rfl rowC rfl rfl (hb1.ext he2) rfl ?_)
   | (refine wl_load rfl rowC rfl rfl hb1 rfl ?_)
   | (refine wl_box (C := CV c s) rfl rfl rfl ?_; intro w1 hb1 he1 hx; clear hx))
  go_ret2
  have HE := (he1.trans he2).trans he3
  exact ⟨(HE.trans st8.out).trans hez, .inr ⟨hgd, _, _, _, rfl, HZ.out, hoz.base HE.size⟩⟩
end Tlv
end Go.Proofs.Ytigocaconkbalaa
namespace Go.Proofs.Ytigocaconkbalaa
open Go
def GoodH (P : Program) (mk : Tmp → Option Nat) (a0 : Act) (R : World → World → Prop) (V : Nat → World → Value → Prop) (w0 : World) (i : Nat) (o : Oper) (S S' : World → Prop) : Prop :=
 ∀ (r : Operand → Value) (w : World), R w0 w → S w → factsOf mk a0 V r w o.op.operands.toList →
  match o.guard with
  | none => give P (fun v x => R w x ∧ S' x ∧ V i x v) ((execOp r o).run P w)
  | some (g, want) => ∀ b, V g w b → if asBool b == some want then give P (fun v x => R w x ∧ S' x ∧ V i x v) ((execOp r o).run P w) else (S' w ∧ V i w undef)
section
variable {P : Program} {mk : Tmp → Option Nat} {ops : List Oper} {a0 : Act} {R : World → World → Prop} {V : Nat → World → Value → Prop} {w0 : World} {Q : Exit → Act → World → Prop} {n : Nat}
end
def GoodHAll (P : Program) (mk : Tmp → Option Nat) (a0 : Act) (R : World → World → Prop) (V : Nat → World → Value → Prop) (w0 : World) (wr ub : List Nat) (S : Nat → World → Prop) : Nat → List Oper → Prop
 | _, [] => True
 | i, o :: l => (if wr.contains i then GoodH P mk a0 R V w0 i o (S (wr.idxOf i)) (S (wr.idxOf i + 1)) else ∀ k, k ≤ ub.getD i 0 → GoodH P mk a0 R V w0 i o (S k) (S k)) ∧ GoodHAll P mk a0 R V w0 wr ub S (i + 1) l
theorem GoodHAll.at {P : Program} {mk : Tmp → Option Nat} {a0 : Act} {R : World → World → Prop} {V : Nat → World → Value → Prop} {w0 : World} {wr ub : List Nat} {S : Nat → World → Prop} : ∀ {ops : List Oper} {s : Nat}, GoodHAll P mk a0 R V w0 wr ub S s ops → ∀ i o, ops[i]? = some o → (if wr.contains (s + i) then GoodH P mk a0 R V w0 (s + i) o (S (wr.idxOf (s + i))) (S (wr.idxOf (s + i) + 1)) else ∀ k, k ≤ ub.getD (s + i) 0 → GoodH P mk a0 R V w0 (s + i) o (S k) (S k))
 | [], _, _, i, o, ho => by simp at ho
 | _ :: _, s, h, 0, o, ho => by simp at ho; subst ho; exact h.1
 | _ :: l, s, h, i + 1, o, ho => by
  have := GoodHAll.at (ops := l) h.2 i o (by simpa using ho)
  rwa [show s + 1 + i = s + (i + 1) by omega] at this
theorem GoodHAll.nil {P : Program} {mk : Tmp → Option Nat} {a0 : Act} {R : World → World → Prop} {V : Nat → World → Value → Prop} {w0 : World} {wr ub : List Nat} {S : Nat → World → Prop} {i : Nat} : GoodHAll P mk a0 R V w0 wr ub S i [] := trivial
theorem GoodHAll.reads {P : Program} {mk : Tmp → Option Nat} {a0 : Act} {R : World → World → Prop} {V : Nat → World → Value → Prop} {w0 : World} {wr ub : List Nat} {S : Nat → World → Prop} {i : Nat} {o : Oper} {l : List Oper} (u : Nat) (hc : wr.contains i = false) (hu : ub.getD i 0 = u) (h : ∀ k, k ≤ u → GoodH P mk a0 R V w0 i o (S k) (S k)) (hl : GoodHAll P mk a0 R V w0 wr ub S (i + 1) l) : GoodHAll P mk a0 R V w0 wr ub S i (o :: l) :=
 ⟨by rw [if_neg (by rw [hc]; simp), hu]; exact h, hl⟩
theorem GoodHAll.writes {P : Program} {mk : Tmp → Option Nat} {a0 : Act} {R : World → World → Prop} {V : Nat → World → Value → Prop} {w0 : World} {wr ub : List Nat} {S : Nat → World → Prop} {i : Nat} {o : Oper} {l : List Oper} (k : Nat) (hc : wr.contains i = true) (hk : wr.idxOf i = k) (h : GoodH P mk a0 R V w0 i o (S k) (S (k + 1))) (hl : GoodHAll P mk a0 R V w0 wr ub S (i + 1) l) : GoodHAll P mk a0 R V w0 wr ub S i (o :: l) :=
 ⟨by rw [if_pos hc, hk]; exact h, hl⟩
end Go.Proofs.Ytigocaconkbalaa
