/- Texts of the seat, one behind the other. No condition of its own. -/
import Derived.Test.YtigocaconkbalaaMs12
set_option linter.unusedVariables false
set_option linter.unusedSimpArgs false
set_option maxHeartbeats 32000000
set_option maxRecDepth 100000
namespace Go.Proofs.Ytigocaconkbalaa
namespace Tlv
open Go Go.RowKit
theorem with_5 {B0 : Nat} {w : World} {c : Ck} {s : Sv} {la : Option Addr} {N lc : Nat} {Lp : List Par} (ha : ListsQ B0 w s c) (hB0 : B0 ≤ w.heap.size) (hkc : c.kind = 5) (hn : (s.aA = none ∧ s.aN = 0 ∧ s.aC = 0 ∧ c.addrs = []) ∧ s.oA = none ∧ s.oN = 0 ∧ s.oC = 0 ∧ c.ops = []) (hp : OwnL 85 w B0 (.slice la N lc) Lp) (hN : Lp.length ≤ 25000) (hg : ∀ p ∈ Lp, (0 ≤ p.1 ∧ p.1 ≤ 65535) ∧ p.2.length ≤ 1000000) :
  Calls Try.prog 47 #[.agg (CV c s), .slice la N lc] w (WithIs B0 w c Lp N) := by
 have hNL : N = Lp.length := hp.len
 have HB0 : Hid (B0 ≤ w.heap.size) := hB0
 have HP : Hid (OwnL 85 w B0 (.slice la N lc) Lp) := hp
 have HG : Hid (∀ p ∈ Lp, (0 ≤ p.1 ∧ p.1 ≤ 65535) ∧ p.2.length ≤ 1000000) := hg
 have HN : Hid (N = Lp.length) := hNL
 have HA : Hid (ListsQ B0 w s c ∧ OwnN .i64 w w.heap.size 65 (.slice s.aA s.aN s.aC) c.addrs ∧ OwnP 71 w w.heap.size (.slice s.oA s.oN s.oC) c.ops ∧ c.addrs.length = 0 ∧ c.ops.length = 0) := by
  obtain ⟨⟨e1, e2, e3, e4⟩, f1, f2, f3, f4⟩ := hn
  rw [e1, e2, e3, e4, f1, f2, f3, f4]
  exact ⟨ha, OwnN.nil _ _ _ _, OwnP.nil _ _ _, rfl, rfl⟩
 have hN2 : N ≤ 25000 := by omega
 have hs1 : wrap64 ((N : Int) - 1) = (N : Int) - 1 := by unfold wrap64; omega
 have hs2 : IntKind.i64.wrap ((N : Int) - 1) = (N : Int) - 1 := by rw [IntKind.wrap_i64]; omega
 have HKC : Hid (c.kind = 5) := hkc
 clear ha hn hp hN hg hNL hkc hB0
 go_enter Try.func47, Try.ntmps47
 go_wp2_with (first
  | (refine wl_box (C := CV c s) rfl rfl rfl ?_; intro w1 hb1 he1 hx; have HX1 : Hid (w1.heap.size = w.heap.size + 1) := hx; clear hx)
  | (refine wl_alloc rfl rfl zeroCd ?_; intro w2 hb2 he2 hx; clear hx; have HQ2 : Hid (WQ B0 w w2 w.heap.size w1.heap.size c s) := ⟨he1.trans he2, Nat.le_refl _, hb1.ext he2, he1.size, hb2, by have := HX1.out; omega, HA.out.1.t, HA.out.1.r, HA.out.1.i, HA.out.1.g, HA.out.1.d, HA.out.2.1.ext (he1.trans he2), HA.out.2.2.1.ext (he1.trans he2)⟩; clear hb1 hb2 he1 he2))
 go_loopg [6] N (fun gm t wr => ∃ (k : Nat) (d : Ck) (z : Sv), k ≤ N ∧ gm = N - k ∧ t = .int .i64 (k : Int) ∧ Hid (WSt B0 w wr w.heap.size w1.heap.size c Lp N k d z))
 case atStart => exact ⟨0, c, s, Nat.zero_le _, rfl, rfl, HQ2.out, rfl, rfl, by rw [HA.out.2.2.2.1]; exact Nat.le_refl _, by rw [HA.out.2.2.2.2]; exact Nat.le_refl _⟩
 case round =>
  obtain ⟨k, d, z, hk, rfl, rfl, HS⟩ := hrel
  by_cases hlt : k < N
  ·
   have hd : decide ((k : Int) < (N : Int)) = true := decide_eq_true (by omega)
   have hkn : (k : Int) < (N : Int) := by omega
   have hkL : k < Lp.length := by rw [← HN.out]; exact hlt
   obtain ⟨b, u, rfl, hc0, hc1, hu⟩ := HP.out.at k hkL
   obtain ⟨p, hp⟩ : ∃ p, p = Lp.getD k (0, []) := ⟨_, rfl⟩
   rw [← hp] at hc0 hu
   have HD : Hid (Lp.drop k = p :: Lp.drop (k + 1)) := show _ = _ by
    rw [List.drop_eq_getElem_cons hkL, hp]
    simp [List.getD_eq_getElem?_getD, hkL]
   have hgk := HG.out p (by rw [hp]; exact getD_mem Lp _ k hkL)
   obtain ⟨K, m⟩ := p
   dsimp only at hc0 hu hgk
   obtain ⟨ua, uc, rfl⟩ := hu.form
   obtain ⟨l, hl⟩ : ∃ l, l = m.length := ⟨_, rfl⟩
   rw [← hl] at hc1 hu
   have HU : Hid (OB w B0 (.slice ua l uc) m ∧ m.length ≤ 1000000) := ⟨hu, hgk.2⟩
   have HKw : Hid (IntKind.i64.wrap (K - 49152) = K - 49152) := show _ = _ by rw [IntKind.wrap_i64]; omega
   replace hc0 := HS.out.wq.ext.cell hc0
   replace hc1 := HS.out.wq.ext.cell hc1
   obtain ⟨b9, hb9⟩ : ∃ x, ((k : Int) == (N : Int) - 1) = x := ⟨_, rfl⟩
   clear hp hl hu hgk hkL HQ2
   have HK : Hid (d.kind = 5) := HS.out.kd.trans HKC.out
   by_cases hk0 : k = 0
   ·
    by_cases hlast : k + 1 = N
    ·
     by_cases hK1 : K = 1
     ·
      replace hc0 : wr.cell? ⟨b, 0, none⟩ = some (.int .i64 K) := by rw [hk0] at hc0; simpa using hc0
      replace hc1 : wr.cell? ⟨b, 1, none⟩ = some (.slice ua l uc) := by rw [hk0] at hc1; simpa using hc1
      have hb0 : ((0 : Int) == (N : Int) - 1) = b9 := by rw [← hb9, hk0]; rfl
      have hz : ((k : Int) == 0) = true := beq_iff_eq.2 (by omega)
      have hz2 : decide ((k : Int) > 0) = false := decide_eq_false (by omega)
      have hz3 : decide (0 < k) = false := decide_eq_false (by omega)
      have e1 : (K == 1) = true := beq_iff_eq.2 hK1
      have hl9 : b9 = true := by rw [← hb9]; exact beq_iff_eq.2 (by omega)
      subst hl9
      go_wp2_with (first
       | (refine wl_setQ HQ.out.1 rfl oneS 15 rfl (by first | rfl | go_simp) (by first | rfl | go_simp) rfl rfl (by decide) ({ d with info := m }) ({ z with iA := ua, iN := l, iC := uc }) (fun h => ⟨h.ext, h.lo, h.hb, h.lz, h.hz, h.ne, h.t, h.r, HU.out.1, h.g, h.d, h.a, h.o⟩) rfl ?_; intro w8 hr; have HQ8 : Hid (WQ B0 w w8 w.heap.size w1.heap.size ({ d with info := m }) ({ z with iA := ua, iN := l, iC := uc })) := hr; clear hr)
       | (have q_ := hb6; clear q_; refine wl_store (D := #[.int .i64 K, .slice ua l uc]) rfl rowPd rfl rfl rfl hb6 rfl rfl (one_par _ _ rfl) ?_; intro w7 hb7 hk7 hx; clear hx; have he7 : Ext wr w7 := he6.of_but hk7 (fun k e => by subst e; exact Nat.le_refl _); have HQ : Hid (WQ B0 w w7 w.heap.size w1.heap.size d z ∧ Blk w7 wr.heap.size #[.int .i64 K, .slice ua l uc] 85) := ⟨HS.out.wq.grow he7, hb7⟩; have x0 : w7.cell? ⟨wr.heap.size, 0, none⟩ = some (.int .i64 K) := hb7.cell 0; have x1 : w7.cell? ⟨wr.heap.size, 1, none⟩ = some (.slice ua l uc) := hb7.cell 1; have c0 : w7.cell? ⟨w.heap.size, 0, none⟩ = some (.int .i64 (5)) := (cv0 HQ.out.1.hb).trans (by rw [HK.out]); clear hb6 hb7 hk7 he7 he6 hc0 hc1)
       | (refine wl_alloc rfl rfl zeroPd ?_; intro w6 hb6 he6 hx; clear hx)
       | (refine wl_loadP rfl rowPd rfl rfl hc0 hc1 ?_))
      go_roundg (N - (k + 1))
      case measure => omega
      case rel => exact ⟨k + 1, { d with info := m }, { z with iA := ua, iN := l, iC := uc }, by omega, rfl, by simp <;> omega, HQ8.out, HS.out.kd, by rw [HS.out.ws, HD.out, withS_step (withK_1 (by have := HS.out.kd; have := HK.out; omega) hk0 hlast hK1)], Nat.le_succ_of_le HS.out.la, Nat.le_succ_of_le HS.out.lo⟩
     ·
      replace hc0 : wr.cell? ⟨b, 0, none⟩ = some (.int .i64 K) := by rw [hk0] at hc0; simpa using hc0
      replace hc1 : wr.cell? ⟨b, 1, none⟩ = some (.slice ua l uc) := by rw [hk0] at hc1; simpa using hc1
      have hb0 : ((0 : Int) == (N : Int) - 1) = b9 := by rw [← hb9, hk0]; rfl
      have hz : ((k : Int) == 0) = true := beq_iff_eq.2 (by omega)
      have hz2 : decide ((k : Int) > 0) = false := decide_eq_false (by omega)
      have hz3 : decide (0 < k) = false := decide_eq_false (by omega)
      have e1 : (K == 1) = false := beq_false_of_ne hK1
      have hl9 : b9 = true := by rw [← hb9]; exact beq_iff_eq.2 (by omega)
      subst hl9
      have HF : Hid (¬ ((c.kind = 1 ∨ c.kind = 2) ∧ k = 0 ∧ K = 32770) ∧ ¬ ((c.kind = 1 ∨ c.kind = 2) ∧ 0 < k ∧ K = 5) ∧ ¬ (c.kind = 2 ∧ 0 < k ∧ k + 1 = N ∧ K = 7) ∧ ¬ ((c.kind = 4 ∨ c.kind = 5) ∧ k = 0 ∧ k + 1 = N ∧ K = 1) ∧ ¬ c.kind = 193) := by have := HS.out.kd; have := HK.out; refine ⟨?_, ?_, ?_, ?_, ?_⟩ <;> omega
      go_wp2_with (first
       | (refine wl_store (D := CV (ck0 0) sv0) rfl rowC2 rfl rfl rfl HQ.out.1.hz rfl rfl (CV.one _ _) ?_; intro w8 hb8 hk8 hx; clear hx)
       | (have q_ := hb6; clear q_; refine wl_store (D := #[.int .i64 K, .slice ua l uc]) rfl rowPd rfl rfl rfl hb6 rfl rfl (one_par _ _ rfl) ?_; intro w7 hb7 hk7 hx; clear hx; have he7 : Ext wr w7 := he6.of_but hk7 (fun k e => by subst e; exact Nat.le_refl _); have HQ : Hid (WQ B0 w w7 w.heap.size w1.heap.size d z ∧ Blk w7 wr.heap.size #[.int .i64 K, .slice ua l uc] 85) := ⟨HS.out.wq.grow he7, hb7⟩; have x0 : w7.cell? ⟨wr.heap.size, 0, none⟩ = some (.int .i64 K) := hb7.cell 0; have x1 : w7.cell? ⟨wr.heap.size, 1, none⟩ = some (.slice ua l uc) := hb7.cell 1; have c0 : w7.cell? ⟨w.heap.size, 0, none⟩ = some (.int .i64 (5)) := (cv0 HQ.out.1.hb).trans (by rw [HK.out]); clear hb6 hb7 hk7 he7 he6 hc0 hc1)
       | (refine wl_alloc rfl rfl zeroPd ?_; intro w6 hb6 he6 hx; clear hx)
       | (refine wl_loadP rfl rowPd rfl rfl hc0 hc1 ?_))
      refine bodyPost_ret (res_two (fn := Try.f47) (p := 4) (u := 5) rfl _ _ rfl rfl hb8 Try.underlying32 (by kernel_rfl)) rfl ?_
      refine show WithIs B0 w c Lp N _ w8 from ⟨HQ.out.1.ext.of_but hk8 (fun k e => by subst e; exact HQ.out.1.lz), _, _, _, rfl, lq0 _ _ _, .inr ⟨rfl, rfl, rfl, fun d2 h2 => ?_⟩⟩
      rw [HS.out.ws, HD.out, withS_fail (withK_no HF.out.1 HF.out.2.1 HF.out.2.2.1 HF.out.2.2.2.1 HF.out.2.2.2.2)] at h2
      cases h2
    ·
     replace hc0 : wr.cell? ⟨b, 0, none⟩ = some (.int .i64 K) := by rw [hk0] at hc0; simpa using hc0
     replace hc1 : wr.cell? ⟨b, 1, none⟩ = some (.slice ua l uc) := by rw [hk0] at hc1; simpa using hc1
     have hb0 : ((0 : Int) == (N : Int) - 1) = b9 := by rw [← hb9, hk0]; rfl
     have hz : ((k : Int) == 0) = true := beq_iff_eq.2 (by omega)
     have hz2 : decide ((k : Int) > 0) = false := decide_eq_false (by omega)
     have hz3 : decide (0 < k) = false := decide_eq_false (by omega)
     have hl9 : b9 = false := by rw [← hb9]; exact beq_false_of_ne (by omega)
     subst hl9
     have HF : Hid (¬ ((c.kind = 1 ∨ c.kind = 2) ∧ k = 0 ∧ K = 32770) ∧ ¬ ((c.kind = 1 ∨ c.kind = 2) ∧ 0 < k ∧ K = 5) ∧ ¬ (c.kind = 2 ∧ 0 < k ∧ k + 1 = N ∧ K = 7) ∧ ¬ ((c.kind = 4 ∨ c.kind = 5) ∧ k = 0 ∧ k + 1 = N ∧ K = 1) ∧ ¬ c.kind = 193) := by have := HS.out.kd; have := HK.out; refine ⟨?_, ?_, ?_, ?_, ?_⟩ <;> omega
     go_wp2_with (first
      | (refine wl_store (D := CV (ck0 0) sv0) rfl rowC2 rfl rfl rfl HQ.out.1.hz rfl rfl (CV.one _ _) ?_; intro w8 hb8 hk8 hx; clear hx)
      | (have q_ := hb6; clear q_; refine wl_store (D := #[.int .i64 K, .slice ua l uc]) rfl rowPd rfl rfl rfl hb6 rfl rfl (one_par _ _ rfl) ?_; intro w7 hb7 hk7 hx; clear hx; have he7 : Ext wr w7 := he6.of_but hk7 (fun k e => by subst e; exact Nat.le_refl _); have HQ : Hid (WQ B0 w w7 w.heap.size w1.heap.size d z ∧ Blk w7 wr.heap.size #[.int .i64 K, .slice ua l uc] 85) := ⟨HS.out.wq.grow he7, hb7⟩; have x0 : w7.cell? ⟨wr.heap.size, 0, none⟩ = some (.int .i64 K) := hb7.cell 0; have x1 : w7.cell? ⟨wr.heap.size, 1, none⟩ = some (.slice ua l uc) := hb7.cell 1; have c0 : w7.cell? ⟨w.heap.size, 0, none⟩ = some (.int .i64 (5)) := (cv0 HQ.out.1.hb).trans (by rw [HK.out]); clear hb6 hb7 hk7 he7 he6 hc0 hc1)
      | (refine wl_alloc rfl rfl zeroPd ?_; intro w6 hb6 he6 hx; clear hx)
      | (refine wl_loadP rfl rowPd rfl rfl hc0 hc1 ?_))
     refine bodyPost_ret (res_two (fn := Try.f47) (p := 4) (u := 5) rfl _ _ rfl rfl hb8 Try.underlying32 (by kernel_rfl)) rfl ?_
     refine show WithIs B0 w c Lp N _ w8 from ⟨HQ.out.1.ext.of_but hk8 (fun k e => by subst e; exact HQ.out.1.lz), _, _, _, rfl, lq0 _ _ _, .inr ⟨rfl, rfl, rfl, fun d2 h2 => ?_⟩⟩
     rw [HS.out.ws, HD.out, withS_fail (withK_no HF.out.1 HF.out.2.1 HF.out.2.2.1 HF.out.2.2.2.1 HF.out.2.2.2.2)] at h2
     cases h2
   ·
    have hz : ((k : Int) == 0) = false := beq_false_of_ne (by omega)
    have hz2 : decide ((k : Int) > 0) = true := decide_eq_true (by omega)
    have hz3 : decide (0 < k) = true := decide_eq_true (by omega)
    have HF : Hid (¬ ((c.kind = 1 ∨ c.kind = 2) ∧ k = 0 ∧ K = 32770) ∧ ¬ ((c.kind = 1 ∨ c.kind = 2) ∧ 0 < k ∧ K = 5) ∧ ¬ (c.kind = 2 ∧ 0 < k ∧ k + 1 = N ∧ K = 7) ∧ ¬ ((c.kind = 4 ∨ c.kind = 5) ∧ k = 0 ∧ k + 1 = N ∧ K = 1) ∧ ¬ c.kind = 193) := by have := HS.out.kd; have := HK.out; refine ⟨?_, ?_, ?_, ?_, ?_⟩ <;> omega
    go_wp2_with (first
     | (refine wl_store (D := CV (ck0 0) sv0) rfl rowC2 rfl rfl rfl HQ.out.1.hz rfl rfl (CV.one _ _) ?_; intro w8 hb8 hk8 hx; clear hx)
     | (have q_ := hb6; clear q_; refine wl_store (D := #[.int .i64 K, .slice ua l uc]) rfl rowPd rfl rfl rfl hb6 rfl rfl (one_par _ _ rfl) ?_; intro w7 hb7 hk7 hx; clear hx; have he7 : Ext wr w7 := he6.of_but hk7 (fun k e => by subst e; exact Nat.le_refl _); have HQ : Hid (WQ B0 w w7 w.heap.size w1.heap.size d z ∧ Blk w7 wr.heap.size #[.int .i64 K, .slice ua l uc] 85) := ⟨HS.out.wq.grow he7, hb7⟩; have x0 : w7.cell? ⟨wr.heap.size, 0, none⟩ = some (.int .i64 K) := hb7.cell 0; have x1 : w7.cell? ⟨wr.heap.size, 1, none⟩ = some (.slice ua l uc) := hb7.cell 1; have c0 : w7.cell? ⟨w.heap.size, 0, none⟩ = some (.int .i64 (5)) := (cv0 HQ.out.1.hb).trans (by rw [HK.out]); clear hb6 hb7 hk7 he7 he6 hc0 hc1)
     | (refine wl_alloc rfl rfl zeroPd ?_; intro w6 hb6 he6 hx; clear hx)
     | (refine wl_loadP rfl rowPd rfl rfl hc0 hc1 ?_))
    refine bodyPost_ret (res_two (fn := Try.f47) (p := 4) (u := 5) rfl _ _ rfl rfl hb8 Try.underlying32 (by kernel_rfl)) rfl ?_
    refine show WithIs B0 w c Lp N _ w8 from ⟨HQ.out.1.ext.of_but hk8 (fun k e => by subst e; exact HQ.out.1.lz), _, _, _, rfl, lq0 _ _ _, .inr ⟨rfl, rfl, rfl, fun d2 h2 => ?_⟩⟩
    rw [HS.out.ws, HD.out, withS_fail (withK_no HF.out.1 HF.out.2.1 HF.out.2.2.1 HF.out.2.2.2.1 HF.out.2.2.2.2)] at h2
    cases h2
  ·
   have hd : decide ((k : Int) < (N : Int)) = false := decide_eq_false (by omega)
   have HE : Hid (withS c.kind N 0 c Lp = some d) := show _ = _ by
    rw [HS.out.ws, List.drop_eq_nil_of_le (by rw [← HN.out]; omega)]; rfl
   cases hgd : goodB d
   ·
    go_wp2_with (first
     | (refine wl_load rfl rowC2 rfl rfl HS.out.wq.hb rfl ?_)
     | (go_at_call 11; refine (refGoodC HS.out.wq.at).mono ?_; rintro e w3 ⟨rfl, he3⟩; rw [hgd]; have HQ3 : Hid (WQ B0 w w3 w.heap.size w1.heap.size d z) := HS.out.wq.grow he3; clear he3)
     | (refine wl_store (D := CV (ck0 0) sv0) rfl rowC2 rfl rfl rfl HQ3.out.hz rfl rfl (CV.one _ _) ?_; intro w8 hb8 hk8 hx; clear hx))
    refine bodyPost_ret (res_two (fn := Try.f47) (p := 4) (u := 5) rfl _ _ rfl rfl hb8 Try.underlying32 (by kernel_rfl)) rfl ?_
    refine show WithIs B0 w c Lp N _ w8 from ⟨HQ3.out.ext.of_but hk8 (fun k e => by subst e; exact HQ3.out.lz), _, _, _, rfl, lq0 _ _ _, .inr ⟨rfl, rfl, rfl, fun d2 h2 => ?_⟩⟩
    rw [HE.out] at h2
    cases h2
    exact hgd
   ·
    go_wp2_with (first
     | (refine wl_load rfl rowC2 rfl rfl HQ3.out.hb rfl ?_)
     | (refine wl_load rfl rowC2 rfl rfl HS.out.wq.hb rfl ?_)
     | (go_at_call 11; refine (refGoodC HS.out.wq.at).mono ?_; rintro e w3 ⟨rfl, he3⟩; rw [hgd]; have HQ3 : Hid (WQ B0 w w3 w.heap.size w1.heap.size d z) := HS.out.wq.grow he3; clear he3)
     | (refine wl_store (D := CV d z) rfl rowC2 rfl rfl rfl HQ3.out.hz rfl rfl (CV.one _ _) ?_; intro w8 hb8 hk8 hx; clear hx))
    refine bodyPost_ret (res_two (fn := Try.f47) (p := 4) (u := 5) rfl _ _ rfl rfl hb8 Try.underlying32 (by kernel_rfl)) rfl ?_
    exact show WithIs B0 w c Lp N _ w8 from ⟨HQ3.out.ext.of_but hk8 (fun k e => by subst e; exact HQ3.out.lz), _, _, _, rfl, ⟨HQ3.out.t.ext (HQ3.out.ext.of_but hk8 (fun k e => by subst e; exact HQ3.out.lz)), HQ3.out.r.ext (HQ3.out.ext.of_but hk8 (fun k e => by subst e; exact HQ3.out.lz)), (HQ3.out.a.mono_via hk8 (ownsRow_ne HQ3.out.a.1 HQ3.out.hz (by decide))).base HB0.out, HQ3.out.i.ext (HQ3.out.ext.of_but hk8 (fun k e => by subst e; exact HQ3.out.lz)), HQ3.out.g.ext (HQ3.out.ext.of_but hk8 (fun k e => by subst e; exact HQ3.out.lz)), HQ3.out.d.ext (HQ3.out.ext.of_but hk8 (fun k e => by subst e; exact HQ3.out.lz)), (HQ3.out.o.but hk8 (ownsRow_ne HQ3.out.o.1 HQ3.out.hz (by decide))).base HB0.out⟩, .inl ⟨rfl, HE.out, hgd⟩⟩
theorem with_193 {B0 : Nat} {w : World} {c : Ck} {s : Sv} {la : Option Addr} {N lc : Nat} {Lp : List Par} (ha : ListsQ B0 w s c) (hB0 : B0 ≤ w.heap.size) (hkc : c.kind = 193) (hn : (s.aA = none ∧ s.aN = 0 ∧ s.aC = 0 ∧ c.addrs = []) ∧ s.oA = none ∧ s.oN = 0 ∧ s.oC = 0 ∧ c.ops = []) (hp : OwnL 85 w B0 (.slice la N lc) Lp) (hN : Lp.length ≤ 25000) (hg : ∀ p ∈ Lp, (0 ≤ p.1 ∧ p.1 ≤ 65535) ∧ p.2.length ≤ 1000000) :
  Calls Try.prog 47 #[.agg (CV c s), .slice la N lc] w (WithIs B0 w c Lp N) := by
 have hNL : N = Lp.length := hp.len
 have HB0 : Hid (B0 ≤ w.heap.size) := hB0
 have HP : Hid (OwnL 85 w B0 (.slice la N lc) Lp) := hp
 have HG : Hid (∀ p ∈ Lp, (0 ≤ p.1 ∧ p.1 ≤ 65535) ∧ p.2.length ≤ 1000000) := hg
 have HN : Hid (N = Lp.length) := hNL
 have HA : Hid (ListsQ B0 w s c ∧ OwnN .i64 w w.heap.size 65 (.slice s.aA s.aN s.aC) c.addrs ∧ OwnP 71 w w.heap.size (.slice s.oA s.oN s.oC) c.ops ∧ c.addrs.length = 0 ∧ c.ops.length = 0) := by
  obtain ⟨⟨e1, e2, e3, e4⟩, f1, f2, f3, f4⟩ := hn
  rw [e1, e2, e3, e4, f1, f2, f3, f4]
  exact ⟨ha, OwnN.nil _ _ _ _, OwnP.nil _ _ _, rfl, rfl⟩
 have hN2 : N ≤ 25000 := by omega
 have hs1 : wrap64 ((N : Int) - 1) = (N : Int) - 1 := by unfold wrap64; omega
 have hs2 : IntKind.i64.wrap ((N : Int) - 1) = (N : Int) - 1 := by rw [IntKind.wrap_i64]; omega
 have HKC : Hid (c.kind = 193) := hkc
 clear ha hn hp hN hg hNL hkc hB0
 go_enter Try.func47, Try.ntmps47
 go_wp2_with (first
  | (refine wl_box (C := CV c s) rfl rfl rfl ?_; intro w1 hb1 he1 hx; have HX1 : Hid (w1.heap.size = w.heap.size + 1) := hx; clear hx)
  | (refine wl_alloc rfl rfl zeroCd ?_; intro w2 hb2 he2 hx; clear hx; have HQ2 : Hid (WQ B0 w w2 w.heap.size w1.heap.size c s) := ⟨he1.trans he2, Nat.le_refl _, hb1.ext he2, he1.size, hb2, by have := HX1.out; omega, HA.out.1.t, HA.out.1.r, HA.out.1.i, HA.out.1.g, HA.out.1.d, HA.out.2.1.ext (he1.trans he2), HA.out.2.2.1.ext (he1.trans he2)⟩; clear hb1 hb2 he1 he2))
 go_loopg [6] N (fun gm t wr => ∃ (k : Nat) (d : Ck) (z : Sv), k ≤ N ∧ gm = N - k ∧ t = .int .i64 (k : Int) ∧ Hid (WSt B0 w wr w.heap.size w1.heap.size c Lp N k d z))
 case atStart => exact ⟨0, c, s, Nat.zero_le _, rfl, rfl, HQ2.out, rfl, rfl, by rw [HA.out.2.2.2.1]; exact Nat.le_refl _, by rw [HA.out.2.2.2.2]; exact Nat.le_refl _⟩
 case round =>
  obtain ⟨k, d, z, hk, rfl, rfl, HS⟩ := hrel
  by_cases hlt : k < N
  ·
   have hd : decide ((k : Int) < (N : Int)) = true := decide_eq_true (by omega)
   have hkn : (k : Int) < (N : Int) := by omega
   have hkL : k < Lp.length := by rw [← HN.out]; exact hlt
   obtain ⟨b, u, rfl, hc0, hc1, hu⟩ := HP.out.at k hkL
   obtain ⟨p, hp⟩ : ∃ p, p = Lp.getD k (0, []) := ⟨_, rfl⟩
   rw [← hp] at hc0 hu
   have HD : Hid (Lp.drop k = p :: Lp.drop (k + 1)) := show _ = _ by
    rw [List.drop_eq_getElem_cons hkL, hp]
    simp [List.getD_eq_getElem?_getD, hkL]
   have hgk := HG.out p (by rw [hp]; exact getD_mem Lp _ k hkL)
   obtain ⟨K, m⟩ := p
   dsimp only at hc0 hu hgk
   obtain ⟨ua, uc, rfl⟩ := hu.form
   obtain ⟨l, hl⟩ : ∃ l, l = m.length := ⟨_, rfl⟩
   rw [← hl] at hc1 hu
   have HU : Hid (OB w B0 (.slice ua l uc) m ∧ m.length ≤ 1000000) := ⟨hu, hgk.2⟩
   have HKw : Hid (IntKind.i64.wrap (K - 49152) = K - 49152) := show _ = _ by rw [IntKind.wrap_i64]; omega
   replace hc0 := HS.out.wq.ext.cell hc0
   replace hc1 := HS.out.wq.ext.cell hc1
   obtain ⟨b9, hb9⟩ : ∃ x, ((k : Int) == (N : Int) - 1) = x := ⟨_, rfl⟩
   clear hp hl hu hgk hkL HQ2
   have HK : Hid (d.kind = 193) := HS.out.kd.trans HKC.out
   by_cases hk0 : k = 0
   ·
    replace hc0 : wr.cell? ⟨b, 0, none⟩ = some (.int .i64 K) := by rw [hk0] at hc0; simpa using hc0
    replace hc1 : wr.cell? ⟨b, 1, none⟩ = some (.slice ua l uc) := by rw [hk0] at hc1; simpa using hc1
    have hb0 : ((0 : Int) == (N : Int) - 1) = b9 := by rw [← hb9, hk0]; rfl
    have hz : ((k : Int) == 0) = true := beq_iff_eq.2 (by omega)
    have hz2 : decide ((k : Int) > 0) = false := decide_eq_false (by omega)
    have hz3 : decide (0 < k) = false := decide_eq_false (by omega)
    go_wp2_with (first
     | (have q_ := hb6; clear q_; refine wl_store (D := #[.int .i64 K, .slice ua l uc]) rfl rowPd rfl rfl rfl hb6 rfl rfl (one_par _ _ rfl) ?_; intro w7 hb7 hk7 hx; clear hx; have he7 : Ext wr w7 := he6.of_but hk7 (fun k e => by subst e; exact Nat.le_refl _); have HQ : Hid (WQ B0 w w7 w.heap.size w1.heap.size d z ∧ Blk w7 wr.heap.size #[.int .i64 K, .slice ua l uc] 85) := ⟨HS.out.wq.grow he7, hb7⟩; have x0 : w7.cell? ⟨wr.heap.size, 0, none⟩ = some (.int .i64 K) := hb7.cell 0; have x1 : w7.cell? ⟨wr.heap.size, 1, none⟩ = some (.slice ua l uc) := hb7.cell 1; have c0 : w7.cell? ⟨w.heap.size, 0, none⟩ = some (.int .i64 (193)) := (cv0 HQ.out.1.hb).trans (by rw [HK.out]); clear hb6 hb7 hk7 he7 he6 hc0 hc1)
     | (refine wl_alloc rfl rfl zeroPd ?_; intro w6 hb6 he6 hx; clear hx)
     | (refine wl_loadP rfl rowPd rfl rfl hc0 hc1 ?_))
    have HLn : Hid (d.ops.length ≤ 100000) := show _ ≤ _ by have := HS.out.lo; omega
    refine wp_region_W (WithQO B0 w w.heap.size w1.heap.size wr.heap.size d z K (.slice ua l uc) m) (fun t => bif Nat.ble 114 t && Nat.ble t 125 then some (t - 114) else none) 131 rfl (by kernel_rfl) rfl (fun vs => ⟨fun _ => ⟨HQ.out.1.grow (Ext.drew _), HQ.out.2.ext (Ext.drew _)⟩, fun h => by simp at h, fun h => by simp at h, fun h => by simp at h, fun h => by simp at h, fun h => by simp at h, fun h => by simp at h, fun h => by simp at h, fun h => by simp at h, fun h => by simp at h, fun h => by simp at h, fun h => by simp at h, fun h => by simp at h, fun h => by simp at h, fun h => by simp at h, fun h => by simp at h, fun h => by simp at h, fun h => by simp at h, fun h => by simp at h, fun h => by simp at h, fun h => by simp at h, fun h => by simp at h⟩) ?_ ?_
    ·
     refine Ow ⟨rfl, ?_⟩ (Ow ⟨rfl, ?_⟩ (Ow ⟨rfl, ?_⟩ (Ow ⟨rfl, ?_⟩ (Ow ⟨rfl, ?_⟩ (Ow ⟨rfl, ?_⟩ (Ow ⟨rfl, ?_⟩ (Ow ⟨rfl, ?_⟩ (Ow ⟨rfl, ?_⟩ (Ow ⟨rfl, ?_⟩ (Ow ⟨rfl, ?_⟩ (Ow ⟨rfl, ?_⟩ (Ow ⟨rfl, ?_⟩ OwedVs.nil))))))))))))
     ·
      rintro L vs wx r H hl hL ⟨h1, _⟩
      replace h1 : r (.tmp 2) = ptr w.heap.size := h1
      exact gvo (by simp [execOp, h1, ptr, go_sem]; done) { H with k0 := fun _ => rfl }
     ·
      rintro L vs wx r H hl hL ⟨h1, _⟩
      replace h1 : r (.tmp 114) = .pointer (some ⟨w.heap.size, 20, none⟩) := Eq.trans h1 (H.k0 (hL 0 (by kernel_rfl)))
      have hAP : L 10 = false := met_no H.d10_1 hl
      exact gvo (exg oneSO2 rfl h1 (cv20 (H.A hAP).1.hb)) { H with k1 := fun _ => rfl, d10_1 := fun _ => rfl }
     ·
      rintro L vs wx r H hl hL ⟨h1, _⟩
      replace h1 : r (.tmp 7) = ptr wr.heap.size := h1
      exact gvo (by simp [execOp, h1, ptr, go_sem]; done) { H with k2 := fun _ => rfl }
     ·
      rintro L vs wx r H hl hL ⟨h1, _⟩
      replace h1 : r (.tmp 116) = ptr wr.heap.size := Eq.trans h1 (H.k2 (hL 2 (by kernel_rfl)))
      have h4 : L 4 = false := met_no H.d4_3 hl
      have h8 : L 8 = false := met_no H.d8_4 h4
      have hBS : L 9 = false := met_no H.d9_8 h8
      have hAP : L 10 = false := met_no H.d10_9 hBS
      exact gvo (exg one3 rfl h1 ((H.A hAP).2.cell 0)) { H with k3 := fun _ => rfl, d4_3 := fun _ => rfl }
     ·
      rintro L vs wx r H hl hL ⟨h1, h2, _⟩
      replace h1 : r (.tmp 117) = .int .i64 K := Eq.trans h1 (H.k3 (hL 3 (by kernel_rfl)))
      replace h2 : r (.const (.int .i64 49152)) = .int .i64 49152 := h2
      exact gvo (by simp [execOp, h1, h2, go_sem, HKw.out]; done) { H with k4 := fun _ => rfl, d8_4 := fun _ => rfl, d4_3 := fun _ => hL 3 (by kernel_rfl) }
     ·
      rintro L vs wx r H hl hL ⟨h1, _⟩
      replace h1 : r (.tmp 7) = ptr wr.heap.size := h1
      exact gvo (by simp [execOp, h1, ptr, go_sem]; done) { H with k5 := fun _ => rfl }
     ·
      rintro L vs wx r H hl hL ⟨h1, _⟩
      replace h1 : r (.tmp 119) = .pointer (some ⟨wr.heap.size, 1, none⟩) := Eq.trans h1 (H.k5 (hL 5 (by kernel_rfl)))
      have hCA : L 7 = false := met_no H.d7_6 hl
      have h8 : L 8 = false := met_no H.d8_7 hCA
      have hBS : L 9 = false := met_no H.d9_8 h8
      have hAP : L 10 = false := met_no H.d10_9 hBS
      exact gvo (exg oneS rfl h1 ((H.A hAP).2.cell 1)) { H with k6 := fun _ => rfl, d7_6 := fun _ => rfl }
     ·
      rintro L vs wx r H hl hL ⟨h1, h2, _⟩
      replace h1 : r (.func 87) = .func (.func 87) #[] #[] := h1
      replace h2 : r (.tmp 120) = .slice ua l uc := Eq.trans h2 (H.k6 (hL 6 (by kernel_rfl)))
      have h8 : L 8 = false := met_no H.d8_7 hl
      have hBS : L 9 = false := met_no H.d9_8 h8
      have hAP : L 10 = false := met_no H.d10_9 hBS
      have hST : L 12 = false := met_no H.d12_10 hAP
      refine give_func #[.slice ua l uc] rfl h1 Try.call87 (by simp [h2]) ?_
      refine (docFour_any (HU.out.1.bytes.ext (H.A hAP).1.ext) HU.out.2).mono ?_
      rintro e w' ⟨rfl, he⟩
      exact ⟨_, rfl, { H with A := fun _ => ⟨(H.A hAP).1.grow he, (H.A hAP).2.ext he⟩, B := fun h => absurd (h.symm.trans hAP) (by decide), C := fun h => absurd (h.symm.trans hST) (by decide), S := fun h => absurd (h.symm.trans hBS) (by decide), k7 := fun _ => rfl, d7_6 := fun _ => hL 6 (by kernel_rfl), d8_7 := fun _ => rfl }⟩
     ·
      rintro L vs wx r H hl hL ⟨h1, h2, _⟩
      replace h1 : r (.tmp 118) = .int .i64 (K - 49152) := Eq.trans h1 (H.k4 (hL 4 (by kernel_rfl)))
      replace h2 : r (.tmp 121) = .int .i64 (fourV m) := Eq.trans h2 (H.k7 (hL 7 (by kernel_rfl)))
      refine gvo (v := .agg #[.int .i64 (K - 49152), .int .i64 (fourV m)]) (w' := wx) ?_ { H with k8 := fun _ => rfl, d9_8 := fun _ => rfl, d8_7 := fun _ => hL 7 (by kernel_rfl), d8_4 := fun _ => hL 4 (by kernel_rfl) }
      have hb := run_build (P := Try.prog) wx 71 #[(0, .int .i64 (K - 49152)), (1, .int .i64 (fourV m))] #[.int .i64 (K - 49152), .int .i64 (fourV m)] (by kernel_rfl)
      simp [execOp, h1, h2, hb]
     ·
      rintro L vs wx r H hl hL ⟨h1, _⟩
      replace h1 : r (.tmp 122) = .agg #[.int .i64 (K - 49152), .int .i64 (fourV m)] := Eq.trans h1 (H.k8 (hL 8 (by kernel_rfl)))
      have hAP : L 10 = false := met_no H.d10_9 hl
      have hST : L 12 = false := met_no H.d12_10 hAP
      exact give_one_pair rfl prO2 h1 { H with A := fun h => ⟨(H.A h).1.grow (Ext.alloc _ _), (H.A h).2.ext (Ext.alloc _ _)⟩, B := fun h => absurd (h.symm.trans hAP) (by decide), C := fun h => absurd (h.symm.trans hST) (by decide), S := fun _ _ => pairs_one wx (_, _) _, d10_9 := fun _ => rfl, d9_8 := fun _ => hL 8 (by kernel_rfl) }
     ·
      rintro L vs wx r H hl hL ⟨h1, h2, _⟩
      have hST : L 12 = false := met_no H.d12_10 hl
      replace h1 : r (.tmp 115) = .slice z.oA z.oN z.oC := Eq.trans h1 (H.k1 (hL 1 (by kernel_rfl)))
      replace h2 : r (.tmp 123) = vs 9 := h2
      exact give_wq_o (H.A hl).1 (H.S (hL 9 (by kernel_rfl)) hl) HLn.out rfl h1 h2 (fun ad n cap w' hf => { H with A := fun h => absurd h (by simp [met1]), B := fun _ _ => ⟨ad, n, cap, rfl, hf⟩, C := fun h => absurd (h.symm.trans hST) (by decide), S := fun _ h => absurd h (by simp [met1]), d10_1 := fun _ => hL 1 (by kernel_rfl), d10_9 := fun _ => hL 9 (by kernel_rfl), d12_10 := fun _ => rfl })
     ·
      rintro L vs wx r H hl hL ⟨h1, _⟩
      replace h1 : r (.tmp 2) = ptr w.heap.size := h1
      exact gvo (by simp [execOp, h1, ptr, go_sem]; done) { H with k11 := fun _ => rfl }
     ·
      rintro L vs wx r H hl hL ⟨h1, h2, _⟩
      replace h1 : r (.tmp 125) = .pointer (some ⟨w.heap.size, 20, none⟩) := Eq.trans h1 (H.k11 (hL 11 (by kernel_rfl)))
      obtain ⟨ad, n, cap, e, hf⟩ := H.B (hL 10 (by kernel_rfl)) hl
      replace h2 : r (.tmp 124) = .slice ad n cap := Eq.trans h2 e
      exact give_skip (exec_set oneSO2 rfl h1 h2 rfl rfl hf.hb (show 20 < (CV d z).size from (by decide : 20 < 22))) { H with A := fun h => absurd (h.symm.trans (hL 10 (by kernel_rfl))) (by decide), B := fun _ h => absurd h (by simp [met1]), C := fun _ => ⟨_, hf.store rfl⟩, S := fun _ h => absurd (h.symm.trans (hL 10 (by kernel_rfl))) (by decide), d12_10 := fun _ => hL 10 (by kernel_rfl) }
    ·
     intro vs2 a2 w8 H ha2
     obtain ⟨s2, hr2⟩ := H.C rfl
     have HQ8 : Hid (WQ B0 w w8 w.heap.size w1.heap.size _ s2) := hr2
     clear hr2 H
     simp only [putAll, Act.put, Nat.zero_add, Nat.reduceAdd, List.setIfInBounds_toArray, List.set_cons_succ, List.set_cons_zero] at ha2
     subst ha2
     go_wp2
     go_roundg (N - (k + 1))
     case measure => omega
     case rel => exact ⟨k + 1, { d with ops := d.ops ++ [(K - 49152, fourV m)] }, s2, by omega, rfl, by simp <;> omega, HQ8.out, HS.out.kd, by rw [HS.out.ws, HD.out, withS_step (withK_o (by have := HS.out.kd; have := HK.out; omega))], Nat.le_succ_of_le HS.out.la, by simp only [List.length_append, List.length_cons, List.length_nil]; have := HS.out.lo; omega⟩
   ·
    have hz : ((k : Int) == 0) = false := beq_false_of_ne (by omega)
    have hz2 : decide ((k : Int) > 0) = true := decide_eq_true (by omega)
    have hz3 : decide (0 < k) = true := decide_eq_true (by omega)
    go_wp2_with (first
     | (have q_ := hb6; clear q_; refine wl_store (D := #[.int .i64 K, .slice ua l uc]) rfl rowPd rfl rfl rfl hb6 rfl rfl (one_par _ _ rfl) ?_; intro w7 hb7 hk7 hx; clear hx; have he7 : Ext wr w7 := he6.of_but hk7 (fun k e => by subst e; exact Nat.le_refl _); have HQ : Hid (WQ B0 w w7 w.heap.size w1.heap.size d z ∧ Blk w7 wr.heap.size #[.int .i64 K, .slice ua l uc] 85) := ⟨HS.out.wq.grow he7, hb7⟩; have x0 : w7.cell? ⟨wr.heap.size, 0, none⟩ = some (.int .i64 K) := hb7.cell 0; have x1 : w7.cell? ⟨wr.heap.size, 1, none⟩ = some (.slice ua l uc) := hb7.cell 1; have c0 : w7.cell? ⟨w.heap.size, 0, none⟩ = some (.int .i64 (193)) := (cv0 HQ.out.1.hb).trans (by rw [HK.out]); clear hb6 hb7 hk7 he7 he6 hc0 hc1)
     | (refine wl_alloc rfl rfl zeroPd ?_; intro w6 hb6 he6 hx; clear hx)
     | (refine wl_loadP rfl rowPd rfl rfl hc0 hc1 ?_))
    have HLn : Hid (d.ops.length ≤ 100000) := show _ ≤ _ by have := HS.out.lo; omega
    refine wp_region_W (WithQO B0 w w.heap.size w1.heap.size wr.heap.size d z K (.slice ua l uc) m) (fun t => bif Nat.ble 114 t && Nat.ble t 125 then some (t - 114) else none) 131 rfl (by kernel_rfl) rfl (fun vs => ⟨fun _ => ⟨HQ.out.1.grow (Ext.drew _), HQ.out.2.ext (Ext.drew _)⟩, fun h => by simp at h, fun h => by simp at h, fun h => by simp at h, fun h => by simp at h, fun h => by simp at h, fun h => by simp at h, fun h => by simp at h, fun h => by simp at h, fun h => by simp at h, fun h => by simp at h, fun h => by simp at h, fun h => by simp at h, fun h => by simp at h, fun h => by simp at h, fun h => by simp at h, fun h => by simp at h, fun h => by simp at h, fun h => by simp at h, fun h => by simp at h, fun h => by simp at h, fun h => by simp at h⟩) ?_ ?_
    ·
     refine Ow ⟨rfl, ?_⟩ (Ow ⟨rfl, ?_⟩ (Ow ⟨rfl, ?_⟩ (Ow ⟨rfl, ?_⟩ (Ow ⟨rfl, ?_⟩ (Ow ⟨rfl, ?_⟩ (Ow ⟨rfl, ?_⟩ (Ow ⟨rfl, ?_⟩ (Ow ⟨rfl, ?_⟩ (Ow ⟨rfl, ?_⟩ (Ow ⟨rfl, ?_⟩ (Ow ⟨rfl, ?_⟩ (Ow ⟨rfl, ?_⟩ OwedVs.nil))))))))))))
     ·
      rintro L vs wx r H hl hL ⟨h1, _⟩
      replace h1 : r (.tmp 2) = ptr w.heap.size := h1
      exact gvo (by simp [execOp, h1, ptr, go_sem]; done) { H with k0 := fun _ => rfl }
     ·
      rintro L vs wx r H hl hL ⟨h1, _⟩
      replace h1 : r (.tmp 114) = .pointer (some ⟨w.heap.size, 20, none⟩) := Eq.trans h1 (H.k0 (hL 0 (by kernel_rfl)))
      have hAP : L 10 = false := met_no H.d10_1 hl
      exact gvo (exg oneSO2 rfl h1 (cv20 (H.A hAP).1.hb)) { H with k1 := fun _ => rfl, d10_1 := fun _ => rfl }
     ·
      rintro L vs wx r H hl hL ⟨h1, _⟩
      replace h1 : r (.tmp 7) = ptr wr.heap.size := h1
      exact gvo (by simp [execOp, h1, ptr, go_sem]; done) { H with k2 := fun _ => rfl }
     ·
      rintro L vs wx r H hl hL ⟨h1, _⟩
      replace h1 : r (.tmp 116) = ptr wr.heap.size := Eq.trans h1 (H.k2 (hL 2 (by kernel_rfl)))
      have h4 : L 4 = false := met_no H.d4_3 hl
      have h8 : L 8 = false := met_no H.d8_4 h4
      have hBS : L 9 = false := met_no H.d9_8 h8
      have hAP : L 10 = false := met_no H.d10_9 hBS
      exact gvo (exg one3 rfl h1 ((H.A hAP).2.cell 0)) { H with k3 := fun _ => rfl, d4_3 := fun _ => rfl }
     ·
      rintro L vs wx r H hl hL ⟨h1, h2, _⟩
      replace h1 : r (.tmp 117) = .int .i64 K := Eq.trans h1 (H.k3 (hL 3 (by kernel_rfl)))
      replace h2 : r (.const (.int .i64 49152)) = .int .i64 49152 := h2
      exact gvo (by simp [execOp, h1, h2, go_sem, HKw.out]; done) { H with k4 := fun _ => rfl, d8_4 := fun _ => rfl, d4_3 := fun _ => hL 3 (by kernel_rfl) }
     ·
      rintro L vs wx r H hl hL ⟨h1, _⟩
      replace h1 : r (.tmp 7) = ptr wr.heap.size := h1
      exact gvo (by simp [execOp, h1, ptr, go_sem]; done) { H with k5 := fun _ => rfl }
     ·
      rintro L vs wx r H hl hL ⟨h1, _⟩
      replace h1 : r (.tmp 119) = .pointer (some ⟨wr.heap.size, 1, none⟩) := Eq.trans h1 (H.k5 (hL 5 (by kernel_rfl)))
      have hCA : L 7 = false := met_no H.d7_6 hl
      have h8 : L 8 = false := met_no H.d8_7 hCA
      have hBS : L 9 = false := met_no H.d9_8 h8
      have hAP : L 10 = false := met_no H.d10_9 hBS
      exact gvo (exg oneS rfl h1 ((H.A hAP).2.cell 1)) { H with k6 := fun _ => rfl, d7_6 := fun _ => rfl }
     ·
      rintro L vs wx r H hl hL ⟨h1, h2, _⟩
      replace h1 : r (.func 87) = .func (.func 87) #[] #[] := h1
      replace h2 : r (.tmp 120) = .slice ua l uc := Eq.trans h2 (H.k6 (hL 6 (by kernel_rfl)))
      have h8 : L 8 = false := met_no H.d8_7 hl
      have hBS : L 9 = false := met_no H.d9_8 h8
      have hAP : L 10 = false := met_no H.d10_9 hBS
      have hST : L 12 = false := met_no H.d12_10 hAP
      refine give_func #[.slice ua l uc] rfl h1 Try.call87 (by simp [h2]) ?_
      refine (docFour_any (HU.out.1.bytes.ext (H.A hAP).1.ext) HU.out.2).mono ?_
      rintro e w' ⟨rfl, he⟩
      exact ⟨_, rfl, { H with A := fun _ => ⟨(H.A hAP).1.grow he, (H.A hAP).2.ext he⟩, B := fun h => absurd (h.symm.trans hAP) (by decide), C := fun h => absurd (h.symm.trans hST) (by decide), S := fun h => absurd (h.symm.trans hBS) (by decide), k7 := fun _ => rfl, d7_6 := fun _ => hL 6 (by kernel_rfl), d8_7 := fun _ => rfl }⟩
     ·
      rintro L vs wx r H hl hL ⟨h1, h2, _⟩
      replace h1 : r (.tmp 118) = .int .i64 (K - 49152) := Eq.trans h1 (H.k4 (hL 4 (by kernel_rfl)))
      replace h2 : r (.tmp 121) = .int .i64 (fourV m) := Eq.trans h2 (H.k7 (hL 7 (by kernel_rfl)))
      refine gvo (v := .agg #[.int .i64 (K - 49152), .int .i64 (fourV m)]) (w' := wx) ?_ { H with k8 := fun _ => rfl, d9_8 := fun _ => rfl, d8_7 := fun _ => hL 7 (by kernel_rfl), d8_4 := fun _ => hL 4 (by kernel_rfl) }
      have hb := run_build (P := Try.prog) wx 71 #[(0, .int .i64 (K - 49152)), (1, .int .i64 (fourV m))] #[.int .i64 (K - 49152), .int .i64 (fourV m)] (by kernel_rfl)
      simp [execOp, h1, h2, hb]
     ·
      rintro L vs wx r H hl hL ⟨h1, _⟩
      replace h1 : r (.tmp 122) = .agg #[.int .i64 (K - 49152), .int .i64 (fourV m)] := Eq.trans h1 (H.k8 (hL 8 (by kernel_rfl)))
      have hAP : L 10 = false := met_no H.d10_9 hl
      have hST : L 12 = false := met_no H.d12_10 hAP
      exact give_one_pair rfl prO2 h1 { H with A := fun h => ⟨(H.A h).1.grow (Ext.alloc _ _), (H.A h).2.ext (Ext.alloc _ _)⟩, B := fun h => absurd (h.symm.trans hAP) (by decide), C := fun h => absurd (h.symm.trans hST) (by decide), S := fun _ _ => pairs_one wx (_, _) _, d10_9 := fun _ => rfl, d9_8 := fun _ => hL 8 (by kernel_rfl) }
     ·
      rintro L vs wx r H hl hL ⟨h1, h2, _⟩
      have hST : L 12 = false := met_no H.d12_10 hl
      replace h1 : r (.tmp 115) = .slice z.oA z.oN z.oC := Eq.trans h1 (H.k1 (hL 1 (by kernel_rfl)))
      replace h2 : r (.tmp 123) = vs 9 := h2
      exact give_wq_o (H.A hl).1 (H.S (hL 9 (by kernel_rfl)) hl) HLn.out rfl h1 h2 (fun ad n cap w' hf => { H with A := fun h => absurd h (by simp [met1]), B := fun _ _ => ⟨ad, n, cap, rfl, hf⟩, C := fun h => absurd (h.symm.trans hST) (by decide), S := fun _ h => absurd h (by simp [met1]), d10_1 := fun _ => hL 1 (by kernel_rfl), d10_9 := fun _ => hL 9 (by kernel_rfl), d12_10 := fun _ => rfl })
     ·
      rintro L vs wx r H hl hL ⟨h1, _⟩
      replace h1 : r (.tmp 2) = ptr w.heap.size := h1
      exact gvo (by simp [execOp, h1, ptr, go_sem]; done) { H with k11 := fun _ => rfl }
     ·
      rintro L vs wx r H hl hL ⟨h1, h2, _⟩
      replace h1 : r (.tmp 125) = .pointer (some ⟨w.heap.size, 20, none⟩) := Eq.trans h1 (H.k11 (hL 11 (by kernel_rfl)))
      obtain ⟨ad, n, cap, e, hf⟩ := H.B (hL 10 (by kernel_rfl)) hl
      replace h2 : r (.tmp 124) = .slice ad n cap := Eq.trans h2 e
      exact give_skip (exec_set oneSO2 rfl h1 h2 rfl rfl hf.hb (show 20 < (CV d z).size from (by decide : 20 < 22))) { H with A := fun h => absurd (h.symm.trans (hL 10 (by kernel_rfl))) (by decide), B := fun _ h => absurd h (by simp [met1]), C := fun _ => ⟨_, hf.store rfl⟩, S := fun _ h => absurd (h.symm.trans (hL 10 (by kernel_rfl))) (by decide), d12_10 := fun _ => hL 10 (by kernel_rfl) }
    ·
     intro vs2 a2 w8 H ha2
     obtain ⟨s2, hr2⟩ := H.C rfl
     have HQ8 : Hid (WQ B0 w w8 w.heap.size w1.heap.size _ s2) := hr2
     clear hr2 H
     simp only [putAll, Act.put, Nat.zero_add, Nat.reduceAdd, List.setIfInBounds_toArray, List.set_cons_succ, List.set_cons_zero] at ha2
     subst ha2
     go_wp2
     go_roundg (N - (k + 1))
     case measure => omega
     case rel => exact ⟨k + 1, { d with ops := d.ops ++ [(K - 49152, fourV m)] }, s2, by omega, rfl, by simp <;> omega, HQ8.out, HS.out.kd, by rw [HS.out.ws, HD.out, withS_step (withK_o (by have := HS.out.kd; have := HK.out; omega))], Nat.le_succ_of_le HS.out.la, by simp only [List.length_append, List.length_cons, List.length_nil]; have := HS.out.lo; omega⟩
  ·
   have hd : decide ((k : Int) < (N : Int)) = false := decide_eq_false (by omega)
   have HE : Hid (withS c.kind N 0 c Lp = some d) := show _ = _ by
    rw [HS.out.ws, List.drop_eq_nil_of_le (by rw [← HN.out]; omega)]; rfl
   cases hgd : goodB d
   ·
    go_wp2_with (first
     | (refine wl_load rfl rowC2 rfl rfl HS.out.wq.hb rfl ?_)
     | (go_at_call 11; refine (refGoodC HS.out.wq.at).mono ?_; rintro e w3 ⟨rfl, he3⟩; rw [hgd]; have HQ3 : Hid (WQ B0 w w3 w.heap.size w1.heap.size d z) := HS.out.wq.grow he3; clear he3)
     | (refine wl_store (D := CV (ck0 0) sv0) rfl rowC2 rfl rfl rfl HQ3.out.hz rfl rfl (CV.one _ _) ?_; intro w8 hb8 hk8 hx; clear hx))
    refine bodyPost_ret (res_two (fn := Try.f47) (p := 4) (u := 5) rfl _ _ rfl rfl hb8 Try.underlying32 (by kernel_rfl)) rfl ?_
    refine show WithIs B0 w c Lp N _ w8 from ⟨HQ3.out.ext.of_but hk8 (fun k e => by subst e; exact HQ3.out.lz), _, _, _, rfl, lq0 _ _ _, .inr ⟨rfl, rfl, rfl, fun d2 h2 => ?_⟩⟩
    rw [HE.out] at h2
    cases h2
    exact hgd
   ·
    go_wp2_with (first
     | (refine wl_load rfl rowC2 rfl rfl HQ3.out.hb rfl ?_)
     | (refine wl_load rfl rowC2 rfl rfl HS.out.wq.hb rfl ?_)
     | (go_at_call 11; refine (refGoodC HS.out.wq.at).mono ?_; rintro e w3 ⟨rfl, he3⟩; rw [hgd]; have HQ3 : Hid (WQ B0 w w3 w.heap.size w1.heap.size d z) := HS.out.wq.grow he3; clear he3)
     | (refine wl_store (D := CV d z) rfl rowC2 rfl rfl rfl HQ3.out.hz rfl rfl (CV.one _ _) ?_; intro w8 hb8 hk8 hx; clear hx))
    refine bodyPost_ret (res_two (fn := Try.f47) (p := 4) (u := 5) rfl _ _ rfl rfl hb8 Try.underlying32 (by kernel_rfl)) rfl ?_
    exact show WithIs B0 w c Lp N _ w8 from ⟨HQ3.out.ext.of_but hk8 (fun k e => by subst e; exact HQ3.out.lz), _, _, _, rfl, ⟨HQ3.out.t.ext (HQ3.out.ext.of_but hk8 (fun k e => by subst e; exact HQ3.out.lz)), HQ3.out.r.ext (HQ3.out.ext.of_but hk8 (fun k e => by subst e; exact HQ3.out.lz)), (HQ3.out.a.mono_via hk8 (ownsRow_ne HQ3.out.a.1 HQ3.out.hz (by decide))).base HB0.out, HQ3.out.i.ext (HQ3.out.ext.of_but hk8 (fun k e => by subst e; exact HQ3.out.lz)), HQ3.out.g.ext (HQ3.out.ext.of_but hk8 (fun k e => by subst e; exact HQ3.out.lz)), HQ3.out.d.ext (HQ3.out.ext.of_but hk8 (fun k e => by subst e; exact HQ3.out.lz)), (HQ3.out.o.but hk8 (ownsRow_ne HQ3.out.o.1 HQ3.out.hz (by decide))).base HB0.out⟩, .inl ⟨rfl, HE.out, hgd⟩⟩
theorem with_no {B0 : Nat} {w : World} {c : Ck} {s : Sv} {la : Option Addr} {N lc : Nat} {Lp : List Par} (ha : ListsQ B0 w s c) (hB0 : B0 ≤ w.heap.size) (hkc : c.kind ≠ 1 ∧ c.kind ≠ 2 ∧ c.kind ≠ 4 ∧ c.kind ≠ 5 ∧ c.kind ≠ 193) (hn : (s.aA = none ∧ s.aN = 0 ∧ s.aC = 0 ∧ c.addrs = []) ∧ s.oA = none ∧ s.oN = 0 ∧ s.oC = 0 ∧ c.ops = []) (hp : OwnL 85 w B0 (.slice la N lc) Lp) (hN : Lp.length ≤ 25000) (hg : ∀ p ∈ Lp, (0 ≤ p.1 ∧ p.1 ≤ 65535) ∧ p.2.length ≤ 1000000) :
  Calls Try.prog 47 #[.agg (CV c s), .slice la N lc] w (WithIs B0 w c Lp N) := by
 have hNL : N = Lp.length := hp.len
 have HB0 : Hid (B0 ≤ w.heap.size) := hB0
 have HP : Hid (OwnL 85 w B0 (.slice la N lc) Lp) := hp
 have HG : Hid (∀ p ∈ Lp, (0 ≤ p.1 ∧ p.1 ≤ 65535) ∧ p.2.length ≤ 1000000) := hg
 have HN : Hid (N = Lp.length) := hNL
 have HA : Hid (ListsQ B0 w s c ∧ OwnN .i64 w w.heap.size 65 (.slice s.aA s.aN s.aC) c.addrs ∧ OwnP 71 w w.heap.size (.slice s.oA s.oN s.oC) c.ops ∧ c.addrs.length = 0 ∧ c.ops.length = 0) := by
  obtain ⟨⟨e1, e2, e3, e4⟩, f1, f2, f3, f4⟩ := hn
  rw [e1, e2, e3, e4, f1, f2, f3, f4]
  exact ⟨ha, OwnN.nil _ _ _ _, OwnP.nil _ _ _, rfl, rfl⟩
 have hN2 : N ≤ 25000 := by omega
 have hs1 : wrap64 ((N : Int) - 1) = (N : Int) - 1 := by unfold wrap64; omega
 have hs2 : IntKind.i64.wrap ((N : Int) - 1) = (N : Int) - 1 := by rw [IntKind.wrap_i64]; omega
 have HKC : Hid (c.kind ≠ 1 ∧ c.kind ≠ 2 ∧ c.kind ≠ 4 ∧ c.kind ≠ 5 ∧ c.kind ≠ 193) := hkc
 clear ha hn hp hN hg hNL hkc hB0
 go_enter Try.func47, Try.ntmps47
 go_wp2_with (first
  | (refine wl_box (C := CV c s) rfl rfl rfl ?_; intro w1 hb1 he1 hx; have HX1 : Hid (w1.heap.size = w.heap.size + 1) := hx; clear hx)
  | (refine wl_alloc rfl rfl zeroCd ?_; intro w2 hb2 he2 hx; clear hx; have HQ2 : Hid (WQ B0 w w2 w.heap.size w1.heap.size c s) := ⟨he1.trans he2, Nat.le_refl _, hb1.ext he2, he1.size, hb2, by have := HX1.out; omega, HA.out.1.t, HA.out.1.r, HA.out.1.i, HA.out.1.g, HA.out.1.d, HA.out.2.1.ext (he1.trans he2), HA.out.2.2.1.ext (he1.trans he2)⟩; clear hb1 hb2 he1 he2))
 go_loopg [6] N (fun gm t wr => ∃ (k : Nat) (d : Ck) (z : Sv), k ≤ N ∧ gm = N - k ∧ t = .int .i64 (k : Int) ∧ Hid (WSt B0 w wr w.heap.size w1.heap.size c Lp N k d z))
 case atStart => exact ⟨0, c, s, Nat.zero_le _, rfl, rfl, HQ2.out, rfl, rfl, by rw [HA.out.2.2.2.1]; exact Nat.le_refl _, by rw [HA.out.2.2.2.2]; exact Nat.le_refl _⟩
 case round =>
  obtain ⟨k, d, z, hk, rfl, rfl, HS⟩ := hrel
  by_cases hlt : k < N
  ·
   have hd : decide ((k : Int) < (N : Int)) = true := decide_eq_true (by omega)
   have hkn : (k : Int) < (N : Int) := by omega
   have hkL : k < Lp.length := by rw [← HN.out]; exact hlt
   obtain ⟨b, u, rfl, hc0, hc1, hu⟩ := HP.out.at k hkL
   obtain ⟨p, hp⟩ : ∃ p, p = Lp.getD k (0, []) := ⟨_, rfl⟩
   rw [← hp] at hc0 hu
   have HD : Hid (Lp.drop k = p :: Lp.drop (k + 1)) := show _ = _ by
    rw [List.drop_eq_getElem_cons hkL, hp]
    simp [List.getD_eq_getElem?_getD, hkL]
   have hgk := HG.out p (by rw [hp]; exact getD_mem Lp _ k hkL)
   obtain ⟨K, m⟩ := p
   dsimp only at hc0 hu hgk
   obtain ⟨ua, uc, rfl⟩ := hu.form
   obtain ⟨l, hl⟩ : ∃ l, l = m.length := ⟨_, rfl⟩
   rw [← hl] at hc1 hu
   have HU : Hid (OB w B0 (.slice ua l uc) m ∧ m.length ≤ 1000000) := ⟨hu, hgk.2⟩
   have HKw : Hid (IntKind.i64.wrap (K - 49152) = K - 49152) := show _ = _ by rw [IntKind.wrap_i64]; omega
   replace hc0 := HS.out.wq.ext.cell hc0
   replace hc1 := HS.out.wq.ext.cell hc1
   obtain ⟨b9, hb9⟩ : ∃ x, ((k : Int) == (N : Int) - 1) = x := ⟨_, rfl⟩
   clear hp hl hu hgk hkL HQ2
   have HK : Hid (d.kind = c.kind) := HS.out.kd
   have f1 : (c.kind == 1) = false := beq_false_of_ne HKC.out.1
   have f2 : (c.kind == 2) = false := beq_false_of_ne HKC.out.2.1
   have f4 : (c.kind == 4) = false := beq_false_of_ne HKC.out.2.2.1
   have f5 : (c.kind == 5) = false := beq_false_of_ne HKC.out.2.2.2.1
   have f193 : (c.kind == 193) = false := beq_false_of_ne HKC.out.2.2.2.2
   by_cases hk0 : k = 0
   ·
    replace hc0 : wr.cell? ⟨b, 0, none⟩ = some (.int .i64 K) := by rw [hk0] at hc0; simpa using hc0
    replace hc1 : wr.cell? ⟨b, 1, none⟩ = some (.slice ua l uc) := by rw [hk0] at hc1; simpa using hc1
    have hb0 : ((0 : Int) == (N : Int) - 1) = b9 := by rw [← hb9, hk0]; rfl
    have hz : ((k : Int) == 0) = true := beq_iff_eq.2 (by omega)
    have hz2 : decide ((k : Int) > 0) = false := decide_eq_false (by omega)
    have hz3 : decide (0 < k) = false := decide_eq_false (by omega)
    have HF : Hid (¬ ((c.kind = 1 ∨ c.kind = 2) ∧ k = 0 ∧ K = 32770) ∧ ¬ ((c.kind = 1 ∨ c.kind = 2) ∧ 0 < k ∧ K = 5) ∧ ¬ (c.kind = 2 ∧ 0 < k ∧ k + 1 = N ∧ K = 7) ∧ ¬ ((c.kind = 4 ∨ c.kind = 5) ∧ k = 0 ∧ k + 1 = N ∧ K = 1) ∧ ¬ c.kind = 193) := by have := HS.out.kd; have := HKC.out; refine ⟨?_, ?_, ?_, ?_, ?_⟩ <;> omega
    go_wp2_with (first
     | (refine wl_store (D := CV (ck0 0) sv0) rfl rowC2 rfl rfl rfl HQ.out.1.hz rfl rfl (CV.one _ _) ?_; intro w8 hb8 hk8 hx; clear hx)
     | (have q_ := hb6; clear q_; refine wl_store (D := #[.int .i64 K, .slice ua l uc]) rfl rowPd rfl rfl rfl hb6 rfl rfl (one_par _ _ rfl) ?_; intro w7 hb7 hk7 hx; clear hx; have he7 : Ext wr w7 := he6.of_but hk7 (fun k e => by subst e; exact Nat.le_refl _); have HQ : Hid (WQ B0 w w7 w.heap.size w1.heap.size d z ∧ Blk w7 wr.heap.size #[.int .i64 K, .slice ua l uc] 85) := ⟨HS.out.wq.grow he7, hb7⟩; have x0 : w7.cell? ⟨wr.heap.size, 0, none⟩ = some (.int .i64 K) := hb7.cell 0; have x1 : w7.cell? ⟨wr.heap.size, 1, none⟩ = some (.slice ua l uc) := hb7.cell 1; have c0 : w7.cell? ⟨w.heap.size, 0, none⟩ = some (.int .i64 (c.kind)) := (cv0 HQ.out.1.hb).trans (by rw [HK.out]); clear hb6 hb7 hk7 he7 he6 hc0 hc1)
     | (refine wl_alloc rfl rfl zeroPd ?_; intro w6 hb6 he6 hx; clear hx)
     | (refine wl_loadP rfl rowPd rfl rfl hc0 hc1 ?_))
    refine bodyPost_ret (res_two (fn := Try.f47) (p := 4) (u := 5) rfl _ _ rfl rfl hb8 Try.underlying32 (by kernel_rfl)) rfl ?_
    refine show WithIs B0 w c Lp N _ w8 from ⟨HQ.out.1.ext.of_but hk8 (fun k e => by subst e; exact HQ.out.1.lz), _, _, _, rfl, lq0 _ _ _, .inr ⟨rfl, rfl, rfl, fun d2 h2 => ?_⟩⟩
    rw [HS.out.ws, HD.out, withS_fail (withK_no HF.out.1 HF.out.2.1 HF.out.2.2.1 HF.out.2.2.2.1 HF.out.2.2.2.2)] at h2
    cases h2
   ·
    have hz : ((k : Int) == 0) = false := beq_false_of_ne (by omega)
    have hz2 : decide ((k : Int) > 0) = true := decide_eq_true (by omega)
    have hz3 : decide (0 < k) = true := decide_eq_true (by omega)
    have HF : Hid (¬ ((c.kind = 1 ∨ c.kind = 2) ∧ k = 0 ∧ K = 32770) ∧ ¬ ((c.kind = 1 ∨ c.kind = 2) ∧ 0 < k ∧ K = 5) ∧ ¬ (c.kind = 2 ∧ 0 < k ∧ k + 1 = N ∧ K = 7) ∧ ¬ ((c.kind = 4 ∨ c.kind = 5) ∧ k = 0 ∧ k + 1 = N ∧ K = 1) ∧ ¬ c.kind = 193) := by have := HS.out.kd; have := HKC.out; refine ⟨?_, ?_, ?_, ?_, ?_⟩ <;> omega
    go_wp2_with (first
     | (refine wl_store (D := CV (ck0 0) sv0) rfl rowC2 rfl rfl rfl HQ.out.1.hz rfl rfl (CV.one _ _) ?_; intro w8 hb8 hk8 hx; clear hx)
     | (have q_ := hb6; clear q_; refine wl_store (D := #[.int .i64 K, .slice ua l uc]) rfl rowPd rfl rfl rfl hb6 rfl rfl (one_par _ _ rfl) ?_; intro w7 hb7 hk7 hx; clear hx; have he7 : Ext wr w7 := he6.of_but hk7 (fun k e => by subst e; exact Nat.le_refl _); have HQ : Hid (WQ B0 w w7 w.heap.size w1.heap.size d z ∧ Blk w7 wr.heap.size #[.int .i64 K, .slice ua l uc] 85) := ⟨HS.out.wq.grow he7, hb7⟩; have x0 : w7.cell? ⟨wr.heap.size, 0, none⟩ = some (.int .i64 K) := hb7.cell 0; have x1 : w7.cell? ⟨wr.heap.size, 1, none⟩ = some (.slice ua l uc) := hb7.cell 1; have c0 : w7.cell? ⟨w.heap.size, 0, none⟩ = some (.int .i64 (c.kind)) := (cv0 HQ.out.1.hb).trans (by rw [HK.out]); clear hb6 hb7 hk7 he7 he6 hc0 hc1)
     | (refine wl_alloc rfl rfl zeroPd ?_; intro w6 hb6 he6 hx; clear hx)
     | (refine wl_loadP rfl rowPd rfl rfl hc0 hc1 ?_))
    refine bodyPost_ret (res_two (fn := Try.f47) (p := 4) (u := 5) rfl _ _ rfl rfl hb8 Try.underlying32 (by kernel_rfl)) rfl ?_
    refine show WithIs B0 w c Lp N _ w8 from ⟨HQ.out.1.ext.of_but hk8 (fun k e => by subst e; exact HQ.out.1.lz), _, _, _, rfl, lq0 _ _ _, .inr ⟨rfl, rfl, rfl, fun d2 h2 => ?_⟩⟩
    rw [HS.out.ws, HD.out, withS_fail (withK_no HF.out.1 HF.out.2.1 HF.out.2.2.1 HF.out.2.2.2.1 HF.out.2.2.2.2)] at h2
    cases h2
  ·
   have hd : decide ((k : Int) < (N : Int)) = false := decide_eq_false (by omega)
   have HE : Hid (withS c.kind N 0 c Lp = some d) := show _ = _ by
    rw [HS.out.ws, List.drop_eq_nil_of_le (by rw [← HN.out]; omega)]; rfl
   cases hgd : goodB d
   ·
    go_wp2_with (first
     | (refine wl_load rfl rowC2 rfl rfl HS.out.wq.hb rfl ?_)
     | (go_at_call 11; refine (refGoodC HS.out.wq.at).mono ?_; rintro e w3 ⟨rfl, he3⟩; rw [hgd]; have HQ3 : Hid (WQ B0 w w3 w.heap.size w1.heap.size d z) := HS.out.wq.grow he3; clear he3)
     | (refine wl_store (D := CV (ck0 0) sv0) rfl rowC2 rfl rfl rfl HQ3.out.hz rfl rfl (CV.one _ _) ?_; intro w8 hb8 hk8 hx; clear hx))
    refine bodyPost_ret (res_two (fn := Try.f47) (p := 4) (u := 5) rfl _ _ rfl rfl hb8 Try.underlying32 (by kernel_rfl)) rfl ?_
    refine show WithIs B0 w c Lp N _ w8 from ⟨HQ3.out.ext.of_but hk8 (fun k e => by subst e; exact HQ3.out.lz), _, _, _, rfl, lq0 _ _ _, .inr ⟨rfl, rfl, rfl, fun d2 h2 => ?_⟩⟩
    rw [HE.out] at h2
    cases h2
    exact hgd
   ·
    go_wp2_with (first
     | (refine wl_load rfl rowC2 rfl rfl HQ3.out.hb rfl ?_)
     | (refine wl_load rfl rowC2 rfl rfl HS.out.wq.hb rfl ?_)
     | (go_at_call 11; refine (refGoodC HS.out.wq.at).mono ?_; rintro e w3 ⟨rfl, he3⟩; rw [hgd]; have HQ3 : Hid (WQ B0 w w3 w.heap.size w1.heap.size d z) := HS.out.wq.grow he3; clear he3)
     | (refine wl_store (D := CV d z) rfl rowC2 rfl rfl rfl HQ3.out.hz rfl rfl (CV.one _ _) ?_; intro w8 hb8 hk8 hx; clear hx))
    refine bodyPost_ret (res_two (fn := Try.f47) (p := 4) (u := 5) rfl _ _ rfl rfl hb8 Try.underlying32 (by kernel_rfl)) rfl ?_
    exact show WithIs B0 w c Lp N _ w8 from ⟨HQ3.out.ext.of_but hk8 (fun k e => by subst e; exact HQ3.out.lz), _, _, _, rfl, ⟨HQ3.out.t.ext (HQ3.out.ext.of_but hk8 (fun k e => by subst e; exact HQ3.out.lz)), HQ3.out.r.ext (HQ3.out.ext.of_but hk8 (fun k e => by subst e; exact HQ3.out.lz)), (HQ3.out.a.mono_via hk8 (ownsRow_ne HQ3.out.a.1 HQ3.out.hz (by decide))).base HB0.out, HQ3.out.i.ext (HQ3.out.ext.of_but hk8 (fun k e => by subst e; exact HQ3.out.lz)), HQ3.out.g.ext (HQ3.out.ext.of_but hk8 (fun k e => by subst e; exact HQ3.out.lz)), HQ3.out.d.ext (HQ3.out.ext.of_but hk8 (fun k e => by subst e; exact HQ3.out.lz)), (HQ3.out.o.but hk8 (ownsRow_ne HQ3.out.o.1 HQ3.out.hz (by decide))).base HB0.out⟩, .inl ⟨rfl, HE.out, hgd⟩⟩
theorem with_any {B0 : Nat} {w : World} {c : Ck} {s : Sv} {la : Option Addr} {N lc : Nat} {Lp : List Par} (ha : ListsQ B0 w s c) (hB0 : B0 ≤ w.heap.size) (hn : (s.aA = none ∧ s.aN = 0 ∧ s.aC = 0 ∧ c.addrs = []) ∧ s.oA = none ∧ s.oN = 0 ∧ s.oC = 0 ∧ c.ops = []) (hp : OwnL 85 w B0 (.slice la N lc) Lp) (hN : Lp.length ≤ 25000) (hg : ∀ p ∈ Lp, (0 ≤ p.1 ∧ p.1 ≤ 65535) ∧ p.2.length ≤ 1000000) :
  Calls Try.prog 47 #[.agg (CV c s), .slice la N lc] w (WithIs B0 w c Lp N) := by
 by_cases h1 : c.kind = 1
 ·
  exact with_1 ha hB0 h1 hn hp hN hg
 by_cases h2 : c.kind = 2
 ·
  exact with_2 ha hB0 h2 hn hp hN hg
 by_cases h4 : c.kind = 4
 ·
  exact with_4 ha hB0 h4 hn hp hN hg
 by_cases h5 : c.kind = 5
 ·
  exact with_5 ha hB0 h5 hn hp hN hg
 by_cases h193 : c.kind = 193
 ·
  exact with_193 ha hB0 h193 hn hp hN hg
 exact with_no ha hB0 ⟨h1, h2, h4, h5, h193⟩ hn hp hN hg
structure DR (w0 w : World) (q qr : Nat) (bv : Value) (V : List Nat) (st : Option Nat) (c : Ck) (s : Sv) : Prop where
 ext : Ext w0 w
 lo : w0.heap.size ≤ q
 lr : w0.heap.size ≤ qr
 ne : qr ≠ q
 hb : Blk w q (CV c s) 32
 rd : RdQ w qr bv V st
 bv : BytesAt w0 bv V
 ls : ListsQ w0.heap.size w s c
 na : (s.aA = none ∧ s.aN = 0 ∧ s.aC = 0 ∧ c.addrs = []) ∧ s.oA = none ∧ s.oN = 0 ∧ s.oC = 0 ∧ c.ops = []
theorem finS_F {c : Ck} {F : Nat} {V : List Nat} {st : Option Nat} (h : F ≠ 0) : finS c F V st = none := by
 unfold finS; cases st with
 | none => rfl
 | some a => simp only; rw [if_pos h]
theorem finS_no {c : Ck} {V : List Nat} {a : Nat} (h : readAll (V.drop a) = none) : finS c 0 V (some a) = none := by
 unfold finS; simp only [ne_eq, not_true_eq_false, if_false, h]
theorem finS_eq {c : Ck} {V : List Nat} {a : Nat} {L : List Par} (h : readAll (V.drop a) = some L) : finS c 0 V (some a) = withS c.kind L.length 0 c L := by
 unfold finS; simp only [ne_eq, not_true_eq_false, if_false, h]
def RdOut (w : World) (r : Option Ck) (e : Ending) (w' : World) : Prop :=
 Ext w w' ∧ ∃ d z b, e = .returned (.tuple #[.agg (CV d z), .bool b]) ∧ CkAt w' z d ∧ ((b = true ∧ r = some d ∧ goodB d = true) ∨ (b = false ∧ d = ck0 0 ∧ z = sv0 ∧ ∀ d', r = some d' → goodB d' = false))
theorem ListsQ.butR {B0 g : Nat} {w w' : World} {s : Sv} {c : Ck} {C : Array Value} (h : ListsQ B0 w s c) (hk : KeepBut (· = g) w w') (hb : Blk w g C 100) : ListsQ B0 w' s c :=
 ⟨h.t.but hk (h.t.ne hb (by decide)), h.r.but hk (h.r.ne hb (by decide)), h.a.mono_via hk (ownsRow_ne h.a.1 hb (by decide)), h.i.but hk (h.i.ne hb (by decide)), h.g.but hk (ownsRow_ne h.g.1 hb (by decide)), h.d.mono_via hk (ownsRow_ne h.d.1 hb (by decide)), h.o.but hk (ownsRow_ne h.o.1 hb (by decide))⟩
theorem DR.word {w0 w w' : World} {q qr : Nat} {bv : Value} {V : List Nat} {st st' : Option Nat} {c : Ck} {s : Sv} (h : DR w0 w q qr bv V st c s) (hr : RdQ w' qr bv V st') (hk : KeepBut (· = qr) w w') : DR w0 w' q qr bv V st' c s := by
 obtain ⟨a, b, hb, _⟩ := h.rd
 exact ⟨h.ext.of_but hk (fun k e => by subst e; exact h.lr), h.lo, h.lr, h.ne, h.hb.but hk (fun e => h.ne e.symm), hr, h.bv, h.ls.butR hk hb, h.na⟩
theorem wl_setDR {w0 w : World} {q qr : Nat} {bv : Value} {V : List Nat} {st : Option Nat} {c : Ck} {s : Sv} (h : DR w0 w q qr bv V st c s) {ops : Array Oper} {rest : List Oper} {o : Oper} {a : Act} {Q : Exit → Act → World → Prop} (hgd : o.guard = none) {t : TypeId} (hT : OneT Try.prog t) {x y : Operand} (j : Nat) {v : Value} (ho : o.op = .store t x y) (hx : a.eval x = .pointer (some ⟨q, j, none⟩)) (hy : a.eval y = v) (hv : v.cells = #[v]) (h1 : v.oneCell' = true) (hj : j < 22) (c' : Ck) (s' : Sv)
  (hl : ListsQ w0.heap.size w s' c') (hna : (s'.aA = none ∧ s'.aN = 0 ∧ s'.aC = 0 ∧ c'.addrs = []) ∧ s'.oA = none ∧ s'.oN = 0 ∧ s'.oC = 0 ∧ c'.ops = []) (hset : (CV c s).setIfInBounds j v = CV c' s')
  (hk : ∀ w', DR w0 w' q qr bv V st c' s' → wpList Try.prog ops Q rest (a.put o.dst undef) w') : wpList Try.prog ops Q (o :: rest) a w := by
 refine wl_set hgd hT ho hx hy hv h1 h.hb (show j < (CV c s).size from hj) ?_
 intro w' hb' hk' _
 rw [hset] at hb'
 obtain ⟨a2, b2, hb2, ha2, hs2⟩ := h.rd
 exact hk w' ⟨h.ext.of_but hk' (fun k e => by subst e; exact h.lo), h.lo, h.lr, h.ne, hb', ⟨a2, b2, hb2.but hk' h.ne, ha2, hs2⟩, h.bv, hl.but hk' h.hb, hna⟩
def ParQ (w0 wx : World) (D : List Nat) (lv : Value) (ok : Bool) : Prop := (readAll D = none ∧ lv = .slice none 0 0 ∧ ok = false) ∨ ∃ Lp, readAll D = some Lp ∧ ok = true ∧ OwnL 85 wx w0.heap.size lv Lp
structure TailW (w0 : World) (qr a n bc : Nat) (ba : Option Addr) (X : Value) (D : List Nat) (L : Nat → Bool) (vs : Nat → Value) (wx : World) : Prop where
 E : Ext w0 wx
 k0 : L 0 = true → vs 0 = ptr qr
 k1 : L 1 = true → vs 1 = ptr qr
 k2 : L 2 = true → vs 2 = ptr qr
 k3 : L 3 = true → vs 3 = ptr qr
 k5 : L 5 = true → vs 5 = ptr qr
 k6 : L 6 = true → vs 6 = ptr qr
 k7 : L 7 = true → vs 7 = ptr qr
 k4 : L 4 = true → vs 4 = .slice ba n bc
 k8 : L 8 = true → vs 8 = .pointer (some ⟨qr, 1, none⟩)
 k9 : L 9 = true → vs 9 = .int .i64 (a : Int)
 k10 : L 10 = true → vs 10 = X
 k11 : L 11 = true → ∃ lv ok, vs 11 = .tuple #[lv, .bool ok] ∧ ParQ w0 wx D lv ok ∧ (L 12 = true → vs 12 = .tuple #[lv, .bool ok]) ∧ (L 13 = true → vs 13 = lv) ∧ (L 14 = true → vs 14 = .bool ok) ∧ (L 15 = true → vs 15 = lv) ∧ (L 16 = true → vs 16 = .bool ok)
 i12 : L 12 = true → L 11 = true
 i13 : L 13 = true → L 12 = true
 i14 : L 14 = true → L 12 = true
 i15 : L 15 = true → L 13 = true
 i16 : L 16 = true → L 14 = true
theorem TailW.start (w0 : World) (qr a n bc : Nat) (ba : Option Addr) (X : Value) (D : List Nat) (vs : Nat → Value) : TailW w0 qr a n bc ba X D (fun i => decide (17 ≤ i)) vs w0.drew := ⟨Ext.drew _, fun h => by simp at h, fun h => by simp at h, fun h => by simp at h, fun h => by simp at h, fun h => by simp at h, fun h => by simp at h, fun h => by simp at h, fun h => by simp at h, fun h => by simp at h, fun h => by simp at h, fun h => by simp at h, fun h => by simp at h, fun h => by simp at h, fun h => by simp at h, fun h => by simp at h, fun h => by simp at h, fun h => by simp at h⟩
variable {u0 u1 u2 u3 u4 u5 u6 u7 u8 u9 u10 u11 u12 u13 u14 u15 u16 u17 u18 u19 u20 u21 u22 u23 u24 u25 u26 u27 u28 u29 u30 u31 u32 u33 u34 u35 u36 u37 u38 u39 u40 u41 u42 u43 u44 u45 u46 u47 u48 u49 u50 u51 u52 u53 u54 u55 u56 u57 u58 u59 u60 u61 u62 u63 u64 u65 u66 u67 u68 u69 u70 u71 u72 u73 u74 u75 u76 u77 u78 u79 u80 u81 u82 u83 u84 u85 u86 u87 u88 u89 u90 u91 u92 u93 u94 u95 u96 u97 u98 u99 u100 u101 u102 u103 u104 u105 u106 u107 u108 u109 u110 u111 u112 u113 u114 u115 u116 u117 u118 u119 u120 u121 u122 u123 u124 u125 u126 u127 u128 u129 u130 u131 u132 u133 u134 u135 u136 u137 u138 u139 u140 u141 u142 u143 u144 u145 u146 u147 u148 u149 u150 u151 u152 u153 u154 u155 u156 u157 u158 u159 u160 u161 u162 u163 u164 u165 u166 u167 u168 u169 u170 u171 u172 u173 u174 u175 u176 u177 u178 u179 u180 u181 u182 u183 u184 u185 u186 u187 u188 u189 u190 u191 u192 u193 u194 u195 u196 u197 u198 u199 u200 u201 u202 u203 u204 u205 u206 u207 u208 u209 u210 u211 u212 u213 u214 u215 u216 u217 u218 u219 u220 u221 u222 u223 u224 u225 u226 u227 u228 u229 u230 u231 u232 u233 u234 u235 u236 u237 u238 u239 u240 u241 u242 u243 : Value}
theorem tailR {wz w0 wj : World} {q q2 qr F : Nat} {bv : Value} {V : List Nat} {st : Option Nat} {c : Ck} {s : Sv} (HT : Hid (DR w0 wj q qr bv V st c s ∧ Ext wz w0 ∧ wz.heap.size ≤ q2 ∧ Blk w0 q2 (CV (ck0 0) sv0) 32 ∧ V.length ≤ 100000))
   :
  Code.wp Try.prog (afterSeq 8 (Try.f18.body.getD .skip)) (bodyPost Try.prog Try.f18 (RdOut wz (finS c F V st))) { tmps := #[u0, u1, ptr q2, u3, u4, u5, u6, u7, ptr q, u9, ptr qr, .int .i64 (F : Int), u12, u13, u14, u15, u16, u17, u18, u19, u20, u21, u22, u23, u24, u25, u26, u27, u28, u29, u30, u31, u32, u33, u34, u35, u36, u37, u38, u39, u40, u41, u42, u43, u44, u45, u46, u47, u48, u49, u50, u51, u52, u53, u54, u55, u56, u57, u58, u59, u60, u61, u62, u63, u64, u65, u66, u67, u68, u69, u70, u71, u72, u73, u74, u75, u76, u77, u78, u79, u80, u81, u82, u83, u84, u85, u86, u87, u88, u89, u90, u91, u92, u93, u94, u95, u96, u97, u98, u99, u100, u101, u102, u103, u104, u105, u106, u107, u108, u109, u110, u111, u112, u113, u114, u115, u116, u117, u118, u119, u120, u121, u122, u123, u124, u125, u126, u127, u128, u129, u130, u131, u132, u133, u134, u135, u136, u137, u138, u139, u140, u141, u142, u143, u144, u145, u146, u147, u148, u149, u150, u151, u152, u153, u154, u155, u156, u157, u158, u159, u160, u161, u162, u163, u164, u165, u166, u167, u168, u169, u170, u171, u172, u173, u174, u175, u176, u177, u178, u179, u180, u181, u182, u183, u184, u185, u186, u187, u188, u189, u190, u191, u192, u193, u194, u195, u196, u197, u198, u199, u200, u201, u202, u203, u204, u205, u206, u207, u208, u209, u210, u211, u212, u213, u214, u215, u216, u217, u218, u219, u220, u221, u222, u223, u224, u225, u226, u227, u228, u229, u230, u231, u232, u233, u234, u235, u236, u237, u238, u239, u240, u241, u242, u243], defers := [] } wj := by
 obtain ⟨a, b, hbq, ha, hs⟩ := HT.out.1.rd
 obtain ⟨ba, bc, hbv, _, _⟩ := HT.out.1.bv.form
 subst hbv
 rename_i z1 z2
 clear z1 z2
 have HAA : Hid (a ≤ V.length) := ha
 have HBQ : Hid (Blk wj qr #[.slice ba V.length bc, .int .i64 (a : Int), .bool b] 100) := hbq
 have HST : Hid (st = if b = true then none else some a) := hs
 have HZ : Hid (Blk wj q2 (CV (ck0 0) sv0) 32 ∧ wz.heap.size ≤ q2 ∧ Ext wz wj) := ⟨HT.out.2.2.2.1.ext HT.out.1.ext, HT.out.2.2.1, HT.out.2.1.trans HT.out.1.ext⟩
 have c2 : wj.cell? ⟨qr, 2, none⟩ = some (.bool b) := hbq.cell 2
 obtain ⟨X, hX⟩ : ∃ X, sliced ba a V.length bc 1 = X := ⟨_, rfl⟩
 have HX : Hid (sliced ba a V.length bc 1 = X ∧ BytesAt wj X (V.drop a) ∧ (V.drop a).length ≤ 100000) := by
  refine ⟨hX, ?_, by rw [List.length_drop]; have := HT.out.2.2.2.2; omega⟩
  have := (HT.out.1.bv.ext HT.out.1.ext).sliced a V.length ha (Nat.le_refl _)
  rw [List.take_length] at this
  rw [← hX]; exact this
 clear ha hbq hs hX
 change Code.wp Try.prog (Code.seq (Code.seq _ _) _) _ _ _
 cases b
 ·
  by_cases hF : F = 0
  ·
   have hf : ((F : Int) != 0) = false := by rw [hF]; rfl
   have HF : Hid (F = 0) := hF
   clear hF
   go_wp2_with fail
   refine wp_region_W (TailW wj qr a V.length bc ba X (V.drop a)) (fun t => bif Nat.ble 222 t && Nat.ble t 233 then some (t - 222) else bif Nat.beq t 221 then some 12 else bif Nat.ble 234 t && Nat.ble t 235 then some (t - 221) else bif Nat.ble 16 t && Nat.ble t 17 then some (t - 1) else none) 244 rfl (by kernel_rfl) rfl (fun vs => TailW.start _ _ _ _ _ _ _ _ _) ?_ ?_
   ·
    refine Ow ⟨rfl, ?_⟩ (Ow ⟨rfl, ?_⟩ (Ow ⟨rfl, ?_⟩ (Ow ⟨rfl, ?_⟩ (Ow ⟨rfl, ?_⟩ (Ow ⟨rfl, ?_⟩ (Ow ⟨rfl, ?_⟩ (Ow ⟨rfl, ?_⟩ (Ow ⟨rfl, ?_⟩ (Ow ⟨rfl, ?_⟩ (Ow ⟨rfl, ?_⟩ (Ow ⟨rfl, ?_⟩ (Ow ⟨rfl, ?_⟩ (Ow ⟨rfl, ?_⟩ (Ow ⟨rfl, ?_⟩ (Ow ⟨rfl, ?_⟩ (Ow ⟨rfl, ?_⟩ OwedVs.nil))))))))))))))))
    ·
     rintro L vs wx r H hl hL ⟨h1, _⟩
     replace h1 : r (.tmp 10) = ptr qr := h1
     exact give_move (.inl rfl) (by rw [h1]; exact { H with k0 := fun _ => rfl })
    ·
     rintro L vs wx r H hl hL ⟨h1, _⟩
     replace h1 : r (.tmp 222) = ptr qr := Eq.trans h1 (H.k0 (hL 0 (by kernel_rfl)))
     exact gvo (by simp [execOp, h1, ptr, go_sem]; done) { H with k1 := fun _ => rfl }
    ·
     rintro L vs wx r H hl hL ⟨h1, _⟩
     replace h1 : r (.tmp 223) = ptr qr := Eq.trans h1 (H.k1 (hL 1 (by kernel_rfl)))
     exact gvo (by simp [execOp, h1, ptr, go_sem]; done) { H with k2 := fun _ => rfl }
    ·
     rintro L vs wx r H hl hL ⟨h1, _⟩
     replace h1 : r (.tmp 224) = ptr qr := Eq.trans h1 (H.k2 (hL 2 (by kernel_rfl)))
     exact gvo (by simp [execOp, h1, ptr, go_sem]; done) { H with k3 := fun _ => rfl }
    ·
     rintro L vs wx r H hl hL ⟨h1, _⟩
     replace h1 : r (.tmp 225) = ptr qr := Eq.trans h1 (H.k3 (hL 3 (by kernel_rfl)))
     exact gvo (exg oneS rfl h1 ((HBQ.out.ext H.E).cell 0)) { H with k4 := fun _ => rfl }
    ·
     rintro L vs wx r H hl hL ⟨h1, _⟩
     replace h1 : r (.tmp 10) = ptr qr := h1
     exact give_move (.inl rfl) (by rw [h1]; exact { H with k5 := fun _ => rfl })
    ·
     rintro L vs wx r H hl hL ⟨h1, _⟩
     replace h1 : r (.tmp 227) = ptr qr := Eq.trans h1 (H.k5 (hL 5 (by kernel_rfl)))
     exact gvo (by simp [execOp, h1, ptr, go_sem]; done) { H with k6 := fun _ => rfl }
    ·
     rintro L vs wx r H hl hL ⟨h1, _⟩
     replace h1 : r (.tmp 228) = ptr qr := Eq.trans h1 (H.k6 (hL 6 (by kernel_rfl)))
     exact gvo (by simp [execOp, h1, ptr, go_sem]; done) { H with k7 := fun _ => rfl }
    ·
     rintro L vs wx r H hl hL ⟨h1, _⟩
     replace h1 : r (.tmp 229) = ptr qr := Eq.trans h1 (H.k7 (hL 7 (by kernel_rfl)))
     exact gvo (by simp [execOp, h1, ptr, go_sem]; done) { H with k8 := fun _ => rfl }
    ·
     rintro L vs wx r H hl hL ⟨h1, _⟩
     replace h1 : r (.tmp 230) = .pointer (some ⟨qr, 1, none⟩) := Eq.trans h1 (H.k8 (hL 8 (by kernel_rfl)))
     exact gvo (exg one3 rfl h1 ((HBQ.out.ext H.E).cell 1)) { H with k9 := fun _ => rfl }
    ·
     rintro L vs wx r H hl hL ⟨h1, h2, _⟩
     replace h1 : r (.tmp 226) = .slice ba V.length bc := Eq.trans h1 (H.k4 (hL 4 (by kernel_rfl)))
     replace h2 : r (.tmp 231) = .int .i64 (a : Int) := Eq.trans h2 (H.k9 (hL 9 (by kernel_rfl)))
     refine gvo (v := X) (w' := wx) ?_ { H with k10 := fun _ => rfl }
     rw [← HX.out.1]
     exact exec_slice_l byteT rfl wx _ _ bc a .i64 h1 h2 HAA.out
    ·
     rintro L vs wx r H hl hL ⟨h1, h2, _⟩
     replace h1 : r (.func 46) = .func (.func 46) #[] #[] := h1
     replace h2 : r (.tmp 232) = X := Eq.trans h2 (H.k10 (hL 10 (by kernel_rfl)))
     have n12 : L 12 = false := met_no H.i12 hl
     have n13 : L 13 = false := met_no H.i13 n12
     have n14 : L 14 = false := met_no H.i14 n12
     have n15 : L 15 = false := met_no H.i15 n13
     have n16 : L 16 = false := met_no H.i16 n14
     refine give_func #[X] rfl h1 Try.call46 (by simp [h2]) ?_
     refine (refParams_any (HX.out.2.1.ext H.E) HX.out.2.2).mono ?_
     rintro e w' ⟨he, hh⟩
     obtain ⟨lv, ok, rfl, hpq⟩ : ∃ lv ok, e = .returned (.tuple #[lv, .bool ok]) ∧ ParQ wj w' (V.drop a) lv ok := by
      rcases hh with ⟨h3, h4⟩ | ⟨Lp, lv, h3, h4, h5⟩
      ·
       exact ⟨_, _, h4, .inl ⟨h3, rfl, rfl⟩⟩
      ·
       exact ⟨_, _, h4, .inr ⟨Lp, h3, rfl, h5.base H.E.size⟩⟩
     exact ⟨_, rfl, { H with E := H.E.trans he, k11 := fun _ => ⟨lv, ok, rfl, hpq, fun h => absurd (h.symm.trans n12) (by decide), fun h => absurd (h.symm.trans n13) (by decide), fun h => absurd (h.symm.trans n14) (by decide), fun h => absurd (h.symm.trans n15) (by decide), fun h => absurd (h.symm.trans n16) (by decide)⟩, i12 := fun _ => rfl }⟩
    ·
     rintro L vs wx r H hl hL ⟨h1, _⟩
     obtain ⟨lv, ok, e1, p1, h3, h4, h5, h6, h7⟩ := H.k11 (hL 11 (by kernel_rfl))
     replace h1 : r (.tmp 233) = .tuple #[lv, .bool ok] := Eq.trans h1 e1
     exact give_move (.inl rfl) (by rw [h1]; exact { H with k11 := fun _ => ⟨lv, ok, e1, p1, fun _ => rfl, h4, h5, h6, h7⟩, i12 := fun _ => hL 11 (by kernel_rfl), i13 := fun _ => rfl, i14 := fun _ => rfl })
    ·
     rintro L vs wx r H hl hL ⟨h1, _⟩
     have l12 : L 12 = true := hL 12 (by kernel_rfl)
     obtain ⟨lv, ok, e1, p1, h3, h4, h5, h6, h7⟩ := H.k11 (H.i12 l12)
     replace h1 : r (.tmp 221) = .tuple #[lv, .bool ok] := Eq.trans h1 (h3 l12)
     exact gvo (v := lv) (w' := wx) (by simp [execOp, h1, go_sem]) { H with k11 := fun _ => ⟨lv, ok, e1, p1, h3, fun _ => rfl, h5, h6, h7⟩, i13 := fun _ => l12, i15 := fun _ => rfl }
    ·
     rintro L vs wx r H hl hL ⟨h1, _⟩
     have l12 : L 12 = true := hL 12 (by kernel_rfl)
     obtain ⟨lv, ok, e1, p1, h3, h4, h5, h6, h7⟩ := H.k11 (H.i12 l12)
     replace h1 : r (.tmp 221) = .tuple #[lv, .bool ok] := Eq.trans h1 (h3 l12)
     exact gvo (v := .bool ok) (w' := wx) (by simp [execOp, h1, go_sem]) { H with k11 := fun _ => ⟨lv, ok, e1, p1, h3, h4, fun _ => rfl, h6, h7⟩, i14 := fun _ => l12, i16 := fun _ => rfl }
    ·
     rintro L vs wx r H hl hL ⟨h1, _⟩
     have l0 : L 13 = true := hL 13 (by kernel_rfl)
     obtain ⟨lv, ok, e1, p1, h3, h4, h5, h6, h7⟩ := H.k11 (H.i12 (H.i13 l0))
     replace h1 : r (.tmp 234) = lv := Eq.trans h1 (h4 l0)
     exact give_move (.inr rfl) (by rw [h1]; exact { H with k11 := fun _ => ⟨lv, ok, e1, p1, h3, h4, h5, fun _ => rfl, h7⟩, i15 := fun _ => l0 })
    ·
     rintro L vs wx r H hl hL ⟨h1, _⟩
     have l0 : L 14 = true := hL 14 (by kernel_rfl)
     obtain ⟨lv, ok, e1, p1, h3, h4, h5, h6, h7⟩ := H.k11 (H.i12 (H.i14 l0))
     replace h1 : r (.tmp 235) = .bool ok := Eq.trans h1 (h5 l0)
     exact give_move (.inr rfl) (by rw [h1]; exact { H with k11 := fun _ => ⟨lv, ok, e1, p1, h3, h4, h5, h6, fun _ => rfl⟩, i16 := fun _ => l0 })
   ·
    intro vs2 a2 w8 H ha2
    obtain ⟨lv, ok, e1, hpq, _, _, _, e15, e16⟩ := H.k11 rfl
    replace e15 := e15 rfl
    replace e16 := e16 rfl
    have HE8 : Hid (Ext wj w8) := H.E
    have HZ8 : Hid (Blk w8 q2 (CV (ck0 0) sv0) 32 ∧ wz.heap.size ≤ q2 ∧ Ext wz w8) := ⟨HZ.out.1.ext HE8.out, HZ.out.2.1, HZ.out.2.2.trans HE8.out⟩
    clear H e1
    simp only [putAll, Act.put, Nat.zero_add, Nat.reduceAdd, List.setIfInBounds_toArray, List.set_cons_succ, List.set_cons_zero] at ha2
    subst ha2
    simp only [e15, e16]
    clear e15 e16
    rcases hpq with ⟨hr, rfl, rfl⟩ | ⟨Lp, hr, rfl, ho⟩
    ·
     have HRA : Hid (readAll (V.drop a) = none) := hr
     clear hr
     go_wp2_with (first
      | (refine wl_store (D := CV (ck0 0) sv0) rfl rowC2 rfl rfl rfl HZ8.out.1 rfl rfl (CV.one _ _) ?_; intro w9 hb9 hk9 hx; clear hx))
     refine bodyPost_ret (res_two (fn := Try.f18) (p := 2) (u := 3) rfl _ _ rfl rfl hb9 Try.underlying32 (by kernel_rfl)) rfl ?_
     refine show RdOut wz (finS c F V st) _ w9 from ⟨HZ8.out.2.2.of_but hk9 (fun k e => by subst e; exact HZ8.out.2.1), _, _, _, rfl, (lq0 0 _ _).at, .inr ⟨rfl, rfl, rfl, fun d2 h2 => ?_⟩⟩
     rw [show st = some a from HST.out.trans (by simp), HF.out, finS_no HRA.out] at h2
     cases h2
    ·
     obtain ⟨la, lc, rfl⟩ := ho.form
     have HRA : Hid (readAll (V.drop a) = some Lp ∧ Lp.length ≤ 25000 ∧ ∀ p ∈ Lp, (0 ≤ p.1 ∧ p.1 ≤ 65535) ∧ p.2.length ≤ 1000000) := by
      refine ⟨hr, by have := readAll_len _ _ _ (Nat.le_refl _) hr; have := HX.out.2.2; omega, fun p hp => ?_⟩
      have h1 := (readAll_some _ _ _ (Nat.le_refl _) (AllB.drop HT.out.1.bv.1 a) hr).1 p hp
      have h2 := (goodP_iff p).1 h1.1
      exact ⟨⟨h2.1, h2.2.1⟩, by omega⟩
     have HO : Hid (OwnL 85 w8 w0.heap.size (.slice la Lp.length lc) Lp) := ho.base HT.out.1.ext.size
     have HB8 : Hid (Blk w8 q (CV c s) 32) := HT.out.1.hb.ext HE8.out
     have HL8 : Hid (ListsQ w0.heap.size w8 s c ∧ w0.heap.size ≤ w8.heap.size) := ⟨HT.out.1.ls.ext HE8.out, Nat.le_trans HT.out.1.ext.size HE8.out.size⟩
     obtain ⟨N, hN⟩ : ∃ N, N = Lp.length := ⟨_, rfl⟩
     rw [← hN] at HO ⊢
     have HN : Hid (N = Lp.length) := hN
     clear hr ho hN
     go_wp2_with (first
      | (refine wl_load rfl rowC2 rfl rfl HB8.out rfl ?_)
      | (go_at_call 47; refine (with_any HL8.out.1 HL8.out.2 HT.out.1.na HO.out HRA.out.2.1 HRA.out.2.2).mono ?_; rintro e w9 ⟨he9, d, z, ok, rfl, hls, hres⟩; have HR9 : Hid (ListsQ w0.heap.size w9 z d ∧ Blk w9 q2 (CV (ck0 0) sv0) 32 ∧ Ext wz w9) := ⟨hls, HZ8.out.1.ext he9, HZ8.out.2.2.trans he9⟩; have HRes : Hid ((ok = true ∧ withS c.kind N 0 c Lp = some d ∧ goodB d = true) ∨ (ok = false ∧ d = ck0 0 ∧ z = sv0 ∧ ∀ d', withS c.kind N 0 c Lp = some d' → goodB d' = false)) := hres; clear hres hls he9)
      | (refine wl_store (D := CV d z) rfl rowC2 rfl rfl rfl HR9.out.2.1 rfl rfl (CV.one _ _) ?_; intro w10 hb10 hk10 hx; clear hx))
     refine bodyPost_ret (res_two (fn := Try.f18) (p := 2) (u := 3) rfl _ _ rfl rfl hb10 Try.underlying32 (by kernel_rfl)) rfl ?_
     have hfin : finS c F V st = withS c.kind N 0 c Lp := by rw [show st = some a from HST.out.trans (by simp), HF.out, finS_eq HRA.out.1, HN.out]
     refine show RdOut wz (finS c F V st) _ w10 from ⟨HR9.out.2.2.of_but hk10 (fun k e => by subst e; exact HZ8.out.2.1), _, _, _, rfl, (HR9.out.1.but hk10 HR9.out.2.1).at, ?_⟩
     rw [hfin]
     exact HRes.out
  ·
   have hf : ((F : Int) != 0) = true := bne_iff_ne.2 (by omega)
   have HF : Hid (F ≠ 0) := hF
   clear hF
   go_wp2_with (first
    | (refine wl_store (D := CV (ck0 0) sv0) rfl rowC2 rfl rfl rfl HZ.out.1 rfl rfl (CV.one _ _) ?_; intro w9 hb9 hk9 hx; clear hx))
   refine bodyPost_ret (res_two (fn := Try.f18) (p := 2) (u := 3) rfl _ _ rfl rfl hb9 Try.underlying32 (by kernel_rfl)) rfl ?_
   refine show RdOut wz (finS c F V st) _ w9 from ⟨HZ.out.2.2.of_but hk9 (fun k e => by subst e; exact HZ.out.2.1), _, _, _, rfl, (lq0 0 _ _).at, .inr ⟨rfl, rfl, rfl, fun d2 h2 => ?_⟩⟩
   rw [finS_F HF.out] at h2
   cases h2
 ·
  go_wp2_with (first
   | (refine wl_store (D := CV (ck0 0) sv0) rfl rowC2 rfl rfl rfl HZ.out.1 rfl rfl (CV.one _ _) ?_; intro w9 hb9 hk9 hx; clear hx))
  refine bodyPost_ret (res_two (fn := Try.f18) (p := 2) (u := 3) rfl _ _ rfl rfl hb9 Try.underlying32 (by kernel_rfl)) rfl ?_
  refine show RdOut wz (finS c F V st) _ w9 from ⟨HZ.out.2.2.of_but hk9 (fun k e => by subst e; exact HZ.out.2.1), _, _, _, rfl, (lq0 0 _ _).at, .inr ⟨rfl, rfl, rfl, fun d2 h2 => ?_⟩⟩
  rw [show st = none from HST.out.trans (by simp)] at h2
  cases h2
theorem DR.grow {w0 w w' : World} {q qr : Nat} {bv : Value} {V : List Nat} {st : Option Nat} {c : Ck} {s : Sv} (h : DR w0 w q qr bv V st c s) (he : Ext w w') : DR w0 w' q qr bv V st c s := ⟨h.ext.trans he, h.lo, h.lr, h.ne, h.hb.ext he, h.rd.ext he, h.bv, h.ls.ext he, h.na⟩
structure HalfR (w0 w : World) (q qr : Nat) (bv : Value) (V : List Nat) (st : Option Nat) (c c' : Ck) (s s' : Sv) : Prop where
 ext : Ext w0 w
 lo : w0.heap.size ≤ q
 lr : w0.heap.size ≤ qr
 ne : qr ≠ q
 hb : Blk w q (CV c s) 32
 rd : RdQ w qr bv V st
 bv : BytesAt w0 bv V
 ls : ListsQ w0.heap.size w s' c'
 na : (s'.aA = none ∧ s'.aN = 0 ∧ s'.aC = 0 ∧ c'.addrs = []) ∧ s'.oA = none ∧ s'.oN = 0 ∧ s'.oC = 0 ∧ c'.ops = []
theorem HalfR.store {w0 w : World} {q qr j : Nat} {bv : Value} {V : List Nat} {st : Option Nat} {c c' : Ck} {s s' : Sv} {v : Value} (h : HalfR w0 w q qr bv V st c c' s s') (hset : (CV c s).setIfInBounds j v = CV c' s') : DR w0 (w.setCell ⟨q, j, none⟩ v) q qr bv V st c' s' := by
 have hk : KeepBut (· = q) w (w.setCell ⟨q, j, none⟩ v) := ⟨rfl, rfl, rfl, by simp, fun k _ hk => block_other hk j v⟩
 have hb' : Blk (w.setCell ⟨q, j, none⟩ v) q (CV c' s') 32 := by rw [← hset]; exact h.hb.set j v
 obtain ⟨a2, b2, hb2, ha2, hs2⟩ := h.rd
 exact ⟨h.ext.of_but hk (fun k e => by subst e; exact h.lo), h.lo, h.lr, h.ne, hb', ⟨a2, b2, hb2.but hk h.ne, ha2, hs2⟩, h.bv, h.ls.but hk h.hb, h.na⟩
theorem wl_storeHR {w0 w : World} {q qr : Nat} {bv : Value} {V : List Nat} {st : Option Nat} {c c' : Ck} {s s' : Sv} (h : HalfR w0 w q qr bv V st c c' s s') {ops : Array Oper} {rest : List Oper} {o : Oper} {a : Act} {Q : Exit → Act → World → Prop} (hgd : o.guard = none) {t : TypeId} (hT : OneT Try.prog t) {x y : Operand} (j : Nat) {v : Value} (ho : o.op = .store t x y) (hx : a.eval x = .pointer (some ⟨q, j, none⟩)) (hy : a.eval y = v) (hv : v.cells = #[v]) (h1 : v.oneCell' = true) (hj : j < 22) (hset : (CV c s).setIfInBounds j v = CV c' s')
  (hk : ∀ w', DR w0 w' q qr bv V st c' s' → wpList Try.prog ops Q rest (a.put o.dst undef) w') : wpList Try.prog ops Q (o :: rest) a w :=
 wpList_of_skip hgd (exec_set hT ho hx hy hv h1 h.hb (show j < (CV c s).size from hj)) (hk _ (h.store hset))
theorem DR.app_g {w0 w : World} {q qr : Nat} {bv : Value} {V : List Nat} {st : Option Nat} {c : Ck} {s : Sv} {u : Value} {p : Int × Int} (h : DR w0 w q qr bv V st c s) (hx : PairsAt w u [p]) (hl : c.gaps.length ≤ 100000) (ty : Nat) :
  ∃ ad n cap w', (Builtin.append_ #[28, 28] ty #[.slice s.gA s.gN s.gC, u]).run Try.prog w = .ok (.slice ad n cap) w' ∧ HalfR w0 w' q qr bv V st c { c with gaps := c.gaps ++ [p] } s { s with gA := ad, gN := n, gC := cap } := by
 obtain ⟨ad, cap, w', hr, ho, hk, hgg⟩ := run_appP prG2 w w0.heap.size ty _ u c.gaps [p] h.ls.g hx (by simp; omega) h.ext.size
 obtain ⟨a2, b2, hb2, ha2, hs2⟩ := h.rd
 exact ⟨ad, _, cap, w', hr, ⟨h.ext.of_but hk (fun k e => (OwnP.lt h.ls.g e).1), h.lo, h.lr, h.ne, h.hb.but hk (fun e => ownsRow_ne h.ls.g.1 h.hb (by decide) _ e rfl), ⟨a2, b2, hb2.but hk (fun e => ownsRow_ne h.ls.g.1 hb2 (by decide) _ e rfl), ha2, hs2⟩, h.bv, ⟨h.ls.t.but hk (own_apart h.ls.t.own.1 h.ls.g.1 (by decide)), h.ls.r.but hk (own_apart h.ls.r.own.1 h.ls.g.1 (by decide)), h.ls.a.mono_via hk (own_apart h.ls.a.1 h.ls.g.1 (by decide)), h.ls.i.but hk (own_apart h.ls.i.own.1 h.ls.g.1 (by decide)), ho, h.ls.d.mono_via hk (own_apart h.ls.d.1 h.ls.g.1 (by decide)), h.ls.o.but hk (own_apart h.ls.o.1 h.ls.g.1 (by decide))⟩, h.na⟩⟩
theorem DR.app_d {w0 w : World} {q qr : Nat} {bv : Value} {V : List Nat} {st : Option Nat} {c : Ck} {s : Sv} {u : Value} {p : Nat} (h : DR w0 w q qr bv V st c s) (hx : NumsAt .u32 w u [(p : Int)]) (hl : c.dups.length ≤ 100000) (ty : Nat) :
  ∃ ad n cap w', (Builtin.append_ #[29, 29] ty #[.slice s.dA s.dN s.dC, u]).run Try.prog w = .ok (.slice ad n cap) w' ∧ HalfR w0 w' q qr bv V st c { c with dups := c.dups ++ [p] } s { s with dA := ad, dN := n, dC := cap } := by
 obtain ⟨v', w', hr, ho, hg2, hgg⟩ := run_append_nums numTD w w0.heap.size ty _ u _ [(p : Int)] h.ls.d hx (by rw [ci_len]; simp only [List.length_cons, List.length_nil]; omega) (by rw [ci_len]; simp; omega) h.ext.size
 have hk : KeepBut (fun k => (Value.slice s.dA s.dN s.dC).ownBlock = some k) w w' := KeepBut.grown hg2 (fun r e => e)
 obtain ⟨ad, cap, rfl, _⟩ := ho.slice
 obtain ⟨a2, b2, hb2, ha2, hs2⟩ := h.rd
 exact ⟨ad, _, cap, w', hr, ⟨h.ext.of_but hk (fun k e => (h.ls.d.lt e).1), h.lo, h.lr, h.ne, h.hb.but hk (fun e => ownsRow_ne h.ls.d.1 h.hb (by decide) _ e rfl), ⟨a2, b2, hb2.but hk (fun e => ownsRow_ne h.ls.d.1 hb2 (by decide) _ e rfl), ha2, hs2⟩, h.bv, ⟨h.ls.t.but hk (own_apart h.ls.t.own.1 h.ls.d.1 (by decide)), h.ls.r.but hk (own_apart h.ls.r.own.1 h.ls.d.1 (by decide)), h.ls.a.mono_via hk (own_apart h.ls.a.1 h.ls.d.1 (by decide)), h.ls.i.but hk (own_apart h.ls.i.own.1 h.ls.d.1 (by decide)), h.ls.g.but hk (own_apart h.ls.g.1 h.ls.d.1 (by decide)), (by rw [ci_app]; exact ho), h.ls.o.but hk (own_apart h.ls.o.1 h.ls.d.1 (by decide))⟩, h.na⟩⟩
theorem give_appR_d {w0 w : World} {q qr : Nat} {bv : Value} {V : List Nat} {st : Option Nat} {c : Ck} {s : Sv} {u : Value} {p : Nat} (h : DR w0 w q qr bv V st c s) (hx : NumsAt .u32 w u [(p : Int)]) (hl : c.dups.length ≤ 100000) {r : Operand → Value} {o : Oper} {K : Value → World → Prop} {x y : Operand} (ho : o.op = .call { callee := .builtin .append, args := #[x, y], argTypes := #[29, 29] }) (hs : r x = .slice s.dA s.dN s.dC) (hy : r y = u)
  (hk : ∀ ad n cap w', HalfR w0 w' q qr bv V st c { c with dups := c.dups ++ [p] } s { s with dA := ad, dN := n, dC := cap } → K (.slice ad n cap) w') : give Try.prog K ((execOp r o).run Try.prog w) := by
 obtain ⟨ad, n, cap, w', hr, h1⟩ := h.app_d hx hl o.type
 refine gvo (v := .slice ad n cap) (w' := w') ?_ (hk ad n cap w' h1)
 simp only [execOp, ho, resolve, invoke, builtin, Sem.run_bind, Sem.run_pure, Result.andThen_ok, List.map_toArray, List.map_cons, List.map_nil, hs, hy, hr]
theorem wl_appR_g {w0 w : World} {q qr : Nat} {bv : Value} {V : List Nat} {st : Option Nat} {c : Ck} {s : Sv} {p : Int × Int} (h : DR w0 w q qr bv V st c s) (hl : c.gaps.length ≤ 100000) {ops : Array Oper} {rest : List Oper} {o : Oper} {a : Act} {Q : Exit → Act → World → Prop} {C : Array Value} {b : Nat} (hgd : o.guard = none) {x y : Operand} (ho : o.op = .call { callee := .builtin .append, args := #[x, y], argTypes := #[28, 28] }) (hC : C = #[.int .i64 p.1, .int .i64 p.2]) (hs : a.eval x = .slice s.gA s.gN s.gC) (hy : a.eval y = .slice (some ⟨b, 0, none⟩) 1 1) (hb : b = w.heap.size)
  (hk : ∀ ad n cap w', HalfR w0 w' q qr bv V st c { c with gaps := c.gaps ++ [p] } s { s with gA := ad, gN := n, gC := cap } → wpList Try.prog ops Q rest (a.put o.dst (.slice ad n cap)) w') : wpList Try.prog ops Q (o :: rest) a (w.alloc (.cells C 70)) := by
 subst hC hb
 obtain ⟨ad, n, cap, w', hr, h1⟩ := (h.grow (Ext.alloc w (.cells #[.int .i64 p.1, .int .i64 p.2] 70))).app_g (pairs_one w p 70) hl o.type
 refine wpList_of_run hgd (v := .slice ad n cap) ?_ (hk ad n cap w' h1)
 simp only [execOp, ho, resolve, invoke, builtin, Sem.run_bind, Sem.run_pure, Result.andThen_ok, List.map_toArray, List.map_cons, List.map_nil, hs, hy, hr]
structure DRb (w0 w : World) (q qr gx : Nat) (bv : Value) (V : List Nat) (st : Option Nat) (c : Ck) (s : Sv) (x y : Int) : Prop where
 dr : DR w0 w q qr bv V st c s
 bx : Blk w gx #[.int .i64 x, .int .i64 y] 70
 n1 : qr ≠ gx
 n2 : q ≠ gx
 lo : w0.heap.size ≤ gx
 sep : ∀ k, (Value.slice s.gA s.gN s.gC).ownBlock = some k → k ≠ gx
theorem DR.box {w0 w w' : World} {q qr : Nat} {bv : Value} {V : List Nat} {st : Option Nat} {c : Ck} {s : Sv} (h : DR w0 w q qr bv V st c s) (he : Ext w w') {x y : Int} (hb : Blk w' w.heap.size #[.int .i64 x, .int .i64 y] 70) : DRb w0 w' q qr w.heap.size bv V st c s x y := by
 obtain ⟨a2, b2, hb2, ha2, hs2⟩ := h.rd
 exact ⟨h.grow he, hb, Nat.ne_of_lt hb2.lt, Nat.ne_of_lt h.hb.lt, h.ext.size, fun k e => Nat.ne_of_lt (OwnP.lt h.ls.g e).2⟩
theorem DRb.set {w0 w w' : World} {q qr gx : Nat} {bv : Value} {V : List Nat} {st : Option Nat} {c : Ck} {s : Sv} {x y x' y' : Int} (h : DRb w0 w q qr gx bv V st c s x y) (hb : Blk w' gx #[.int .i64 x', .int .i64 y'] 70) (hk : KeepBut (· = gx) w w') : DRb w0 w' q qr gx bv V st c s x' y' := by
 obtain ⟨a2, b2, hb2, ha2, hs2⟩ := h.dr.rd
 have ls := h.dr.ls
 refine ⟨⟨h.dr.ext.of_but hk (fun k e => by subst e; exact h.lo), h.dr.lo, h.dr.lr, h.dr.ne, h.dr.hb.but hk h.n2, ⟨a2, b2, hb2.but hk h.n1, ha2, hs2⟩, h.dr.bv, ?_, h.dr.na⟩, hb, h.n1, h.n2, h.lo, h.sep⟩
 exact ⟨ls.t.but hk (ls.t.ne h.bx (by decide)), ls.r.but hk (ls.r.ne h.bx (by decide)), ls.a.mono_via hk (ownsRow_ne ls.a.1 h.bx (by decide)), ls.i.but hk (ls.i.ne h.bx (by decide)), ls.g.but hk h.sep, ls.d.mono_via hk (ownsRow_ne ls.d.1 h.bx (by decide)), ls.o.but hk (ownsRow_ne ls.o.1 h.bx (by decide))⟩
theorem DRb.word {w0 w w' : World} {q qr gx : Nat} {bv : Value} {V : List Nat} {st st' : Option Nat} {c : Ck} {s : Sv} {x y : Int} (h : DRb w0 w q qr gx bv V st c s x y) (hr : RdQ w' qr bv V st') (hk : KeepBut (· = qr) w w') : DRb w0 w' q qr gx bv V st' c s x y := ⟨h.dr.word hr hk, h.bx.but hk (fun e => h.n1 e.symm), h.n1, h.n2, h.lo, h.sep⟩
theorem zeroG2 : (Try.prog.info? 70).bind (·.zero) = some (.agg #[.int .i64 0, .int .i64 0]) := by kernel_rfl
theorem rowG2 : RowT Try.prog 70 2 := ⟨⟨_, Try.underlying70, rfl⟩, by kernel_rfl⟩
theorem two_one (x y : Int) : ∀ v ∈ (#[Value.int .i64 x, .int .i64 y] : Array Value).toList, v.oneCell' = true := by
 intro v hv
 simp at hv
 rcases hv with rfl | rfl <;> rfl
structure DupQ (w0 : World) (q qr : Nat) (bv : Value) (V : List Nat) (st : Option Nat) (c : Ck) (s : Sv) (L : Nat → Bool) (vs : Nat → Value) (wx : World) : Prop where
 A0 : L 3 = false → DR w0 wx q qr bv V st c s
 A1 : L 3 = true → L 6 = false → DR w0 wx q qr bv V ((numS V st 4).1) c s
 B : L 6 = true → L 8 = false → ∃ ad n cap, vs 6 = .slice ad n cap ∧ HalfR w0 wx q qr bv V ((numS V st 4).1) c ({ c with dups := c.dups ++ [(numS V st 4).2] }) s { s with dA := ad, dN := n, dC := cap }
 C : L 8 = true → ∃ s2, DR w0 wx q qr bv V ((numS V st 4).1) ({ c with dups := c.dups ++ [(numS V st 4).2] }) s2
 S : L 5 = true → L 6 = false → NumsAt .u32 wx (vs 5) [(((numS V st 4).2) : Int)]
 k0 : L 0 = true → vs 0 = .pointer (some ⟨q, 17, none⟩)
 k1 : L 1 = true → vs 1 = .slice s.dA s.dN s.dC
 k2 : L 2 = true → vs 2 = ptr qr
 k3 : L 3 = true → vs 3 = .int .i64 (((numS V st 4).2) : Nat)
 k4 : L 4 = true → vs 4 = .int .u32 ((((numS V st 4).2) : Nat) : Int)
 k7 : L 7 = true → vs 7 = .pointer (some ⟨q, 17, none⟩)
 d6_1 : L 6 = true → L 1 = true
 d6_5 : L 6 = true → L 5 = true
 d8_6 : L 8 = true → L 6 = true
 d5_4 : L 5 = true → L 4 = true
 d4_3 : L 4 = true → L 3 = true
def SrP (K : Int) : Prop := ∀ (wz w0 wj : World) (q q2 qr F : Nat) (bv : Value) (V : List Nat), Hid (DR w0 wj q qr bv V (some 0) (ck0 K) sv0 ∧ Ext wz w0 ∧ wz.heap.size ≤ q2 ∧ Blk w0 q2 (CV (ck0 0) sv0) 32 ∧ V.length ≤ 100000) → F < 256 →
  ∀ {u0 u1 u3 u5 u6 u7 u9 u12 u13 u14 u15 u16 u17 u18 u19 u20 u21 u22 u23 u24 u25 u26 u27 u28 u29 u30 u31 u32 u33 u34 u35 u36 u37 u38 u39 u40 u41 u42 u43 u44 u45 u46 u47 u48 u49 u50 u51 u52 u53 u54 u55 u56 u57 u58 u59 u60 u61 u62 u63 u64 u65 u66 u67 u68 u69 u70 u71 u72 u73 u74 u75 u76 u77 u78 u79 u80 u81 u82 u83 u84 u85 u86 u87 u88 u89 u90 u91 u92 u93 u94 u95 u96 u97 u98 u99 u100 u101 u102 u103 u104 u105 u106 u107 u108 u109 u110 u111 u112 u113 u114 u115 u116 u117 u118 u119 u120 u121 u122 u123 u124 u125 u126 u127 u128 u129 u130 u131 u132 u133 u134 u135 u136 u137 u138 u139 u140 u141 u142 u143 u144 u145 u146 u147 u148 u149 u150 u151 u152 u153 u154 u155 u156 u157 u158 u159 u160 u161 u162 u163 u164 u165 u166 u167 u168 u169 u170 u171 u172 u173 u174 u175 u176 u177 u178 u179 u180 u181 u182 u183 u184 u185 u186 u187 u188 u189 u190 u191 u192 u193 u194 u195 u196 u197 u198 u199 u200 u201 u202 u203 u204 u205 u206 u207 u208 u209 u210 u211 u212 u213 u214 u215 u216 u217 u218 u219 u220 u221 u222 u223 u224 u225 u226 u227 u228 u229 u230 u231 u232 u233 u234 u235 u236 u237 u238 u239 u240 u241 u242 u243 : Value},
  Code.wp Try.prog (afterSeq 7 (Try.f18.body.getD .skip)) (bodyPost Try.prog Try.f18 (RdOut wz (docRd K F V))) { tmps := #[u0, u1, ptr q2, u3, .int .i64 K, u5, u6, u7, ptr q, u9, ptr qr, .int .i64 (F : Int), u12, u13, u14, u15, u16, u17, u18, u19, u20, u21, u22, u23, u24, u25, u26, u27, u28, u29, u30, u31, u32, u33, u34, u35, u36, u37, u38, u39, u40, u41, u42, u43, u44, u45, u46, u47, u48, u49, u50, u51, u52, u53, u54, u55, u56, u57, u58, u59, u60, u61, u62, u63, u64, u65, u66, u67, u68, u69, u70, u71, u72, u73, u74, u75, u76, u77, u78, u79, u80, u81, u82, u83, u84, u85, u86, u87, u88, u89, u90, u91, u92, u93, u94, u95, u96, u97, u98, u99, u100, u101, u102, u103, u104, u105, u106, u107, u108, u109, u110, u111, u112, u113, u114, u115, u116, u117, u118, u119, u120, u121, u122, u123, u124, u125, u126, u127, u128, u129, u130, u131, u132, u133, u134, u135, u136, u137, u138, u139, u140, u141, u142, u143, u144, u145, u146, u147, u148, u149, u150, u151, u152, u153, u154, u155, u156, u157, u158, u159, u160, u161, u162, u163, u164, u165, u166, u167, u168, u169, u170, u171, u172, u173, u174, u175, u176, u177, u178, u179, u180, u181, u182, u183, u184, u185, u186, u187, u188, u189, u190, u191, u192, u193, u194, u195, u196, u197, u198, u199, u200, u201, u202, u203, u204, u205, u206, u207, u208, u209, u210, u211, u212, u213, u214, u215, u216, u217, u218, u219, u220, u221, u222, u223, u224, u225, u226, u227, u228, u229, u230, u231, u232, u233, u234, u235, u236, u237, u238, u239, u240, u241, u242, u243], defers := [] } wj
theorem SrP.open {K : Int} {wz w0 wj : World} {q q2 qr F : Nat} {bv : Value} {V : List Nat} (HT : Hid (DR w0 wj q qr bv V (some 0) (ck0 K) sv0 ∧ Ext wz w0 ∧ wz.heap.size ≤ q2 ∧ Blk w0 q2 (CV (ck0 0) sv0) 32 ∧ V.length ≤ 100000)) (hF : F < 256) :
  Hid (DR w0 wj q qr bv V (some 0) (ck0 K) sv0) ∧ Hid (AllB V ∧ V.length ≤ 1000000) ∧ Hid (Ext wz w0 ∧ wz.heap.size ≤ q2 ∧ Blk w0 q2 (CV (ck0 0) sv0) 32 ∧ V.length ≤ 100000) ∧ Hid (F < 256) :=
 ⟨HT.out.1, ⟨HT.out.1.bv.1, by have := HT.out.2.2.2.2; omega⟩, HT.out.2, hF⟩
theorem sr_8 : SrP 8 := by
 intro wz w0 wj q q2 qr F bv V HT hF
 intros
 obtain ⟨HR0, HV, HW, HFF⟩ := SrP.open HT hF
 clear HT hF
 refine wp_seq_k (fun Ksw hK => ?_)
 have HKsw := Stop.mk hK
 clear hK
 go_wp2
 refine HKsw.go _ _ ?_
 clear HKsw
 rw [show docRd 8 F V = finS (ck0 8) (F) V (some 0) from by unfold docRd; rw [if_neg (by decide), if_neg (by decide), if_neg (by decide), if_neg (by decide), if_neg (by decide), if_neg (by decide), if_neg (by decide), if_neg (by decide)] <;> rfl]
 exact tailR ⟨HR0.out, HW.out⟩
theorem sr_11 : SrP 11 := by
 intro wz w0 wj q q2 qr F bv V HT hF
 intros
 obtain ⟨HR0, HV, HW, HFF⟩ := SrP.open HT hF
 clear HT hF
 refine wp_seq_k (fun Ksw hK => ?_)
 have HKsw := Stop.mk hK
 clear hK
 go_wp2
 refine HKsw.go _ _ ?_
 clear HKsw
 rw [show docRd 11 F V = finS (ck0 11) (F) V (some 0) from by unfold docRd; rw [if_neg (by decide), if_neg (by decide), if_neg (by decide), if_neg (by decide), if_neg (by decide), if_neg (by decide), if_neg (by decide), if_neg (by decide)] <;> rfl]
 exact tailR ⟨HR0.out, HW.out⟩
theorem sr_14 : SrP 14 := by
 intro wz w0 wj q q2 qr F bv V HT hF
 intros
 obtain ⟨HR0, HV, HW, HFF⟩ := SrP.open HT hF
 clear HT hF
 refine wp_seq_k (fun Ksw hK => ?_)
 have HKsw := Stop.mk hK
 clear hK
 go_wp2
 refine HKsw.go _ _ ?_
 clear HKsw
 rw [show docRd 14 F V = finS (ck0 14) (F) V (some 0) from by unfold docRd; rw [if_neg (by decide), if_neg (by decide), if_neg (by decide), if_neg (by decide), if_neg (by decide), if_neg (by decide), if_neg (by decide), if_neg (by decide)] <;> rfl]
 exact tailR ⟨HR0.out, HW.out⟩
theorem sr_4 : SrP 4 := by
 intro wz w0 wj q q2 qr F bv V HT hF
 intros
 obtain ⟨HR0, HV, HW, HFF⟩ := SrP.open HT hF
 clear HT hF
 refine wp_seq_k (fun Ksw hK => ?_)
 have HKsw := Stop.mk hK
 clear hK
 go_wp2
 refine HKsw.go _ _ ?_
 clear HKsw
 rw [show docRd 4 F V = finS (ck0 4) (F) V (some 0) from by unfold docRd; rw [if_neg (by decide), if_neg (by decide), if_neg (by decide), if_neg (by decide), if_neg (by decide), if_neg (by decide), if_neg (by decide), if_neg (by decide)] <;> rfl]
 exact tailR ⟨HR0.out, HW.out⟩
theorem sr_5 : SrP 5 := by
 intro wz w0 wj q q2 qr F bv V HT hF
 intros
 obtain ⟨HR0, HV, HW, HFF⟩ := SrP.open HT hF
 clear HT hF
 refine wp_seq_k (fun Ksw hK => ?_)
 have HKsw := Stop.mk hK
 clear hK
 go_wp2
 refine HKsw.go _ _ ?_
 clear HKsw
 rw [show docRd 5 F V = finS (ck0 5) (F) V (some 0) from by unfold docRd; rw [if_neg (by decide), if_neg (by decide), if_neg (by decide), if_neg (by decide), if_neg (by decide), if_neg (by decide), if_neg (by decide), if_neg (by decide)] <;> rfl]
 exact tailR ⟨HR0.out, HW.out⟩
theorem sr_7 : SrP 7 := by
 intro wz w0 wj q q2 qr F bv V HT hF
 intros
 obtain ⟨HR0, HV, HW, HFF⟩ := SrP.open HT hF
 clear HT hF
 have w1 : IntKind.u32.wrap (((numS V (some 0) 4).2 : Nat) : Int) = (((numS V (some 0) 4).2 : Nat) : Int) := by have := numS_u32 HV.out.1 (some 0); rw [IntKind.wrap_u32]; omega
 refine wp_seq_k (fun Ksw hK => ?_)
 have HKsw := Stop.mk hK
 clear hK
 go_wp2_with (first
  | (refine wl_setDR HR1.out rfl one22 12 rfl (by first | rfl | go_simp) (by first | rfl | go_simp) (by rfl) (by rfl) (by decide) ({ ck0 7 with tsn := (numS V (some 0) 4).2 }) (sv0) (by exact ⟨HR1.out.ls.t, HR1.out.ls.r, HR1.out.ls.a, HR1.out.ls.i, HR1.out.ls.g, HR1.out.ls.d, HR1.out.ls.o⟩) (by exact HR1.out.na) (by rfl) ?_; intro y2 hr; have HR2 : Hid (DR w0 y2 q qr bv V ((numS V (some 0) 4).1) ({ ck0 7 with tsn := (numS V (some 0) 4).2 }) (sv0)) := hr; clear hr HR1)
  | (go_at_call 44; refine (docWord_any HR0.out.rd (HR0.out.bv.ext HR0.out.ext) HV.out.2 4 (by decide)).mono ?_; rintro e y1 ⟨rfl, hr, hk⟩; have HR1 : Hid (DR w0 y1 q qr bv V ((numS V (some 0) 4).1) (ck0 7) (sv0)) := HR0.out.word hr hk; clear hr hk HR0))
 refine HKsw.go _ _ ?_
 clear HKsw
 rw [show docRd 7 F V = finS ({ ck0 7 with tsn := (numS V (some 0) 4).2 }) (F) V ((numS V (some 0) 4).1) from by unfold docRd; rw [if_neg (by decide), if_neg (by decide), if_neg (by decide), if_neg (by decide), if_pos (by decide)] <;> rfl]
 exact tailR ⟨HR2.out, HW.out⟩
theorem sr_10 : SrP 10 := by
 intro wz w0 wj q q2 qr F bv V HT hF
 intros
 obtain ⟨HR0, HV, HW, HFF⟩ := SrP.open HT hF
 clear HT hF
 refine wp_seq_k (fun Ksw hK => ?_)
 have HKsw := Stop.mk hK
 clear hK
 go_wp2_with (first
  | (refine wl_setDR HR1.out rfl oneS 15 rfl (by first | rfl | go_simp) (by first | rfl | go_simp) (by rfl) (by rfl) (by decide) ({ ck0 10 with info := (rdRest V (some 0)) }) ({ sv0 with iA := ra, iN := (rdRest V (some 0)).length, iC := rc }) (by exact ⟨HR1.out.ls.t, HR1.out.ls.r, HR1.out.ls.a, HO.out, HR1.out.ls.g, HR1.out.ls.d, HR1.out.ls.o⟩) (by exact HR1.out.na) (by rfl) ?_; intro y2 hr; have HR2 : Hid (DR w0 y2 q qr bv V (rdRestS V (some 0)) ({ ck0 10 with info := (rdRest V (some 0)) }) ({ sv0 with iA := ra, iN := (rdRest V (some 0)).length, iC := rc })) := hr; clear hr HR1)
  | (go_at_call 45; refine (docRest_any HR0.out.rd (HR0.out.bv.ext HR0.out.ext) HV.out.2).mono ?_; rintro e y1 ⟨ra, rc, rfl, ho, hr, hk⟩; have HO : Hid (OB y1 w0.heap.size (.slice ra (rdRest V (some 0)).length rc) (rdRest V (some 0))) := ho.base HR0.out.ext.size; have HR1 : Hid (DR w0 y1 q qr bv V (rdRestS V (some 0)) (ck0 10) (sv0)) := HR0.out.word hr hk; clear hr hk ho))
 refine HKsw.go _ _ ?_
 clear HKsw
 rw [show docRd 10 F V = finS ({ ck0 10 with info := (rdRest V (some 0)) }) (F) V (rdRestS V (some 0)) from by unfold docRd; rw [if_neg (by decide), if_neg (by decide), if_neg (by decide), if_neg (by decide), if_neg (by decide), if_pos (by decide)] <;> rfl]
 exact tailR ⟨HR2.out, HW.out⟩
theorem sr_15 : SrP 15 := by
 intro wz w0 wj q q2 qr F bv V HT hF
 intros
 obtain ⟨HR0, HV, HW, HFF⟩ := SrP.open HT hF
 clear HT hF
 refine wp_seq_k (fun Ksw hK => ?_)
 have HKsw := Stop.mk hK
 clear hK
 go_wp2_with (first
  | (refine wl_setDR HR1.out rfl oneS 15 rfl (by first | rfl | go_simp) (by first | rfl | go_simp) (by rfl) (by rfl) (by decide) ({ ck0 15 with info := (rdRest V (some 0)) }) ({ sv0 with iA := ra, iN := (rdRest V (some 0)).length, iC := rc }) (by exact ⟨HR1.out.ls.t, HR1.out.ls.r, HR1.out.ls.a, HO.out, HR1.out.ls.g, HR1.out.ls.d, HR1.out.ls.o⟩) (by exact HR1.out.na) (by rfl) ?_; intro y2 hr; have HR2 : Hid (DR w0 y2 q qr bv V (rdRestS V (some 0)) ({ ck0 15 with info := (rdRest V (some 0)) }) ({ sv0 with iA := ra, iN := (rdRest V (some 0)).length, iC := rc })) := hr; clear hr HR1)
  | (go_at_call 45; refine (docRest_any HR0.out.rd (HR0.out.bv.ext HR0.out.ext) HV.out.2).mono ?_; rintro e y1 ⟨ra, rc, rfl, ho, hr, hk⟩; have HO : Hid (OB y1 w0.heap.size (.slice ra (rdRest V (some 0)).length rc) (rdRest V (some 0))) := ho.base HR0.out.ext.size; have HR1 : Hid (DR w0 y1 q qr bv V (rdRestS V (some 0)) (ck0 15) (sv0)) := HR0.out.word hr hk; clear hr hk ho))
 refine HKsw.go _ _ ?_
 clear HKsw
 rw [show docRd 15 F V = finS ({ ck0 15 with info := (rdRest V (some 0)) }) (F) V (rdRestS V (some 0)) from by unfold docRd; rw [if_neg (by decide), if_neg (by decide), if_neg (by decide), if_neg (by decide), if_neg (by decide), if_pos (by decide)] <;> rfl]
 exact tailR ⟨HR2.out, HW.out⟩
theorem sr_193 : SrP 193 := by
 intro wz w0 wj q q2 qr F bv V HT hF
 intros
 obtain ⟨HR0, HV, HW, HFF⟩ := SrP.open HT hF
 clear HT hF
 have w1 : IntKind.u32.wrap (((numS V (some 0) 4).2 : Nat) : Int) = (((numS V (some 0) 4).2 : Nat) : Int) := by have := numS_u32 HV.out.1 (some 0); rw [IntKind.wrap_u32]; omega
 refine wp_seq_k (fun Ksw hK => ?_)
 have HKsw := Stop.mk hK
 clear hK
 go_wp2_with (first
  | (refine wl_setDR HR1.out rfl one22 19 rfl (by first | rfl | go_simp) (by first | rfl | go_simp) (by rfl) (by rfl) (by decide) ({ ck0 193 with serial := (numS V (some 0) 4).2 }) (sv0) (by exact ⟨HR1.out.ls.t, HR1.out.ls.r, HR1.out.ls.a, HR1.out.ls.i, HR1.out.ls.g, HR1.out.ls.d, HR1.out.ls.o⟩) (by exact HR1.out.na) (by rfl) ?_; intro y2 hr; have HR2 : Hid (DR w0 y2 q qr bv V ((numS V (some 0) 4).1) ({ ck0 193 with serial := (numS V (some 0) 4).2 }) (sv0)) := hr; clear hr HR1)
  | (go_at_call 44; refine (docWord_any HR0.out.rd (HR0.out.bv.ext HR0.out.ext) HV.out.2 4 (by decide)).mono ?_; rintro e y1 ⟨rfl, hr, hk⟩; have HR1 : Hid (DR w0 y1 q qr bv V ((numS V (some 0) 4).1) (ck0 193) (sv0)) := HR0.out.word hr hk; clear hr hk HR0))
 refine HKsw.go _ _ ?_
 clear HKsw
 rw [show docRd 193 F V = finS ({ ck0 193 with serial := (numS V (some 0) 4).2 }) (F) V ((numS V (some 0) 4).1) from by unfold docRd; rw [if_neg (by decide), if_neg (by decide), if_neg (by decide), if_neg (by decide), if_neg (by decide), if_neg (by decide), if_pos (by decide)] <;> rfl]
 exact tailR ⟨HR2.out, HW.out⟩
end Tlv
end Go.Proofs.Ytigocaconkbalaa
