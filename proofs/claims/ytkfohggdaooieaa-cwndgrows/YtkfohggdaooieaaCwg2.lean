/- For any window the law CwndGrows answers true and leaves its argument as it was: a good one above its threshold that is used whole grows by a unit with each whole size that is acknowledged. Conditions: none. -/
import Derived.Test.YtkfohggdaooieaaCwg1
import Derived.Laws.StructEq
import Derived.Lib.SmallJoins
import Derived.Test.YtkfohggdaooieaaRows
import Derived.WalkKit
import Derived.ProofKit
import Derived.OpenShut
import Derived.ShutString
import Derived.ChangeOld
import Derived.Below
set_option linter.unusedVariables false
set_option linter.unusedSimpArgs false
/- Acked. No condition of its own. -/
namespace Go.Proofs.Ytkfohggdaooieaa
namespace Cw
open Go Go.RowKit
set_option maxRecDepth 100000
/-- A good window that is used whole, when m bytes are acknowledged. -/
def growE (x : E) (m : Int) : E :=
 if x.sz ≤ x.th then ⟨(if 8192 < x.sz + (if 128 < m then 128 else m) then 8192 else x.sz + (if 128 < m then 128 else m)), x.th, x.ct⟩
 else if (if 2147483648 < x.ct + m then 2147483648 else x.ct + m) ≥ x.sz then ⟨(if 8192 < x.sz + 128 then 8192 else x.sz + 128), x.th, (if 2147483648 < x.ct + m then 2147483648 else x.ct + m) - x.sz⟩
 else ⟨x.sz, x.th, (if 2147483648 < x.ct + m then 2147483648 else x.ct + m)⟩
def ackedE (e : E) (n f : Int) : E := if bdI f < (okE e).sz then okE e else growE (okE e) (bdI n)
theorem bdI_in (n : Int) : 0 ≤ bdI n ∧ bdI n ≤ 1048576 := by unfold bdI; split <;> (try split) <;> omega
set_option maxHeartbeats 4000000 in
theorem acked_0 (e : E) (n f : Int) (w : World) (h : bdI f < (okE e).sz) : Calls Try.prog 14 #[.agg (EV e), .int .i64 n, .int .i64 f] w fun x w' => x = .returned (.agg (EV (okE e))) ∧ Ext w w' := by
 obtain ⟨x, hx'⟩ : ∃ x, okE e = x := ⟨_, rfl⟩
 have hx : Hid (okE e = x) := hx'
 have hok : Hid (okE x = x) := show _ = _ by rw [← hx', okE_ok]
 obtain ⟨m, hm'⟩ : ∃ m, bdI n = m := ⟨_, rfl⟩
 have hm : Hid (bdI n = m) := hm'
 obtain ⟨k, hk'⟩ : ∃ k, bdI f = k := ⟨_, rfl⟩
 have hk : Hid (bdI f = k) := hk'
 rw [hx']
 rw [hx', hk'] at h
 have d1 : decide (k < x.sz) = true := decide_eq_true h
 clear h hx' hm' hk'
 go_enter Try.func14, Try.ntmps14
 go_wp2_with (first
  | (refine wl_boxG (C := EV e) rfl rfl rfl ?_; intro w1 g1 hg1 hb1 he1; have HG1 : Hid (g1 = w.heap.size) := hg1; clear hg1)
  | (have q := hb1; clear q; refine wl_allocG rfl rfl zeroE ?_; intro w2 g2 hg2 hb2 he2; have HT : Hid (Two w w2 g1 g2 _ e e0) := ⟨hb1.ext he2, hb2, he1.trans he2, Nat.le_of_eq HG1.out.symm, (by rw [hg2]; exact hb1.lt)⟩; clear hb1 hb2 he1 he2 hg2 HG1)
  | (have q := HT; clear q; refine wl_load rfl rowE rfl rfl HT.out.a rfl ?_)
  | (go_at_call 16; refine (orFirst_any _ _).mono ?_; rintro y w3 ⟨rfl, he3⟩; rw [hx.out]; replace HT : Hid (Two _ _ _ _ _ _ _) := HT.out.grow he3; clear he3)
  | (go_at_call 21; refine (bounded_any _ _).mono ?_; rintro y w3 ⟨rfl, rfl⟩; first | rw [hm.out] | rw [hk.out])
  | (go_at_call 13; refine (slow_any _ _).mono ?_; rintro y w3 ⟨rfl, he3⟩; rw [hok.out, ds]; have HS : Hid True := trivial; replace HT : Hid (Two _ _ _ _ _ _ _) := HT.out.grow he3; clear he3)
  | (have q := HT; clear q; refine wl_get0 HT.out.a rfl rfl rfl ?_)
  | (have q := HT; clear q; refine wl_get1 HT.out.a rfl rfl rfl ?_)
  | (have q := HT; clear q; refine wl_get2 HT.out.a rfl rfl rfl ?_)
  | (have q := HT; clear q; refine wl_store (D := EV x) rfl rowE rfl rfl rfl HT.out.a rfl rfl (EV.one _) ?_; intro w4 hb4 hk4 hx4; clear hx4; replace HT : Hid (Two _ _ _ _ _ _ _) := HT.out.setA hb4 hk4; clear hb4 hk4)
  | (have q := HT; clear q; refine wl_store rfl rowE rfl rfl rfl HT.out.b rfl rfl (EV.one _) ?_; intro w4 hb4 hk4 hx4; clear hx4; replace HT : Hid (Two _ _ _ _ _ _ _) := HT.out.setB hb4 hk4; clear hb4 hk4)
  | (have q := HT; clear q; refine wl_set0 HT.out.a rfl rfl rfl rfl ?_; intro w4 hb4 hk4; replace HT : Hid (Two _ _ _ _ _ _ _) := HT.out.setA hb4 hk4; clear hb4 hk4)
  | (have q := HT; clear q; refine wl_set2 HT.out.a rfl rfl rfl rfl ?_; intro w4 hb4 hk4; replace HT : Hid (Two _ _ _ _ _ _ _) := HT.out.setA hb4 hk4; clear hb4 hk4))
 refine bodyPost_ret (results_cell_row (fn := Try.f14) (p := 6) rfl _ _ _ _ _ (0, 0) _ rfl HT.out.b Try.underlying25 rfl (by kernel_rfl)) rfl ?_
 exact ⟨rfl, HT.out.ext⟩
set_option maxHeartbeats 4000000 in
theorem acked_1 (e : E) (n f : Int) (w : World) (h : ¬ bdI f < (okE e).sz) (hs : (okE e).sz ≤ (okE e).th) : Calls Try.prog 14 #[.agg (EV e), .int .i64 n, .int .i64 f] w fun x w' => x = .returned (.agg (EV (growE (okE e) (bdI n)))) ∧ Ext w w' := by
 obtain ⟨x, hx'⟩ : ∃ x, okE e = x := ⟨_, rfl⟩
 have hx : Hid (okE e = x) := hx'
 have hok : Hid (okE x = x) := show _ = _ by rw [← hx', okE_ok]
 obtain ⟨m, hm'⟩ : ∃ m, bdI n = m := ⟨_, rfl⟩
 have hm : Hid (bdI n = m) := hm'
 obtain ⟨k, hk'⟩ : ∃ k, bdI f = k := ⟨_, rfl⟩
 have hk : Hid (bdI f = k) := hk'
 have hn := (goodB_iff _).1 (okE_good e)
 have hb := bdI_in n
 rw [hm'] at hb
 rw [hx'] at hn hs
 rw [hx', hm']
 rw [hx', hk'] at h
 have d1 : decide (k < x.sz) = false := decide_eq_false h
 have ds : decide (x.sz ≤ x.th) = true := decide_eq_true hs
 obtain ⟨v, hv⟩ : ∃ v, (if 128 < m then 128 else m) = v := ⟨_, rfl⟩
 have HV : Hid (v = if 128 < m then 128 else m) := hv.symm
 have hvb : 0 ≤ v ∧ v ≤ 128 := by rw [← hv]; split <;> omega
 have s1 : IntKind.i64.wrap (x.sz + v) = x.sz + v := by rw [IntKind.wrap_i64]; omega
 obtain ⟨z, hz⟩ : ∃ z, (if 8192 < x.sz + v then 8192 else x.sz + v) = z := ⟨_, rfl⟩
 have HZ : Hid (z = if 8192 < x.sz + v then 8192 else x.sz + v) := hz.symm
 have HG : Hid (growE x m = ⟨z, x.th, x.ct⟩) := show _ = _ by unfold growE; rw [if_pos hs, hv, hz]
 clear h hx' hm' hk' hn hb hs hv hvb hz
 go_enter Try.func14, Try.ntmps14
 go_wp2_with (first
  | (refine wl_boxG (C := EV e) rfl rfl rfl ?_; intro w1 g1 hg1 hb1 he1; have HG1 : Hid (g1 = w.heap.size) := hg1; clear hg1)
  | (have q := hb1; clear q; refine wl_allocG rfl rfl zeroE ?_; intro w2 g2 hg2 hb2 he2; have HT : Hid (Two w w2 g1 g2 _ e e0) := ⟨hb1.ext he2, hb2, he1.trans he2, Nat.le_of_eq HG1.out.symm, (by rw [hg2]; exact hb1.lt)⟩; clear hb1 hb2 he1 he2 hg2 HG1)
  | (have q := HT; clear q; refine wl_load rfl rowE rfl rfl HT.out.a rfl ?_)
  | (go_at_call 16; refine (orFirst_any _ _).mono ?_; rintro y w3 ⟨rfl, he3⟩; rw [hx.out]; replace HT : Hid (Two _ _ _ _ _ _ _) := HT.out.grow he3; clear he3)
  | (go_at_call 21; refine (bounded_any _ _).mono ?_; rintro y w3 ⟨rfl, rfl⟩; first | rw [hm.out] | rw [hk.out])
  | (go_at_call 13; refine (slow_any _ _).mono ?_; rintro y w3 ⟨rfl, he3⟩; rw [hok.out, ds]; have HS : Hid True := trivial; replace HT : Hid (Two _ _ _ _ _ _ _) := HT.out.grow he3; clear he3)
  | (have q := HT; clear q; refine wl_get0 HT.out.a rfl rfl rfl ?_)
  | (have q := HT; clear q; refine wl_get1 HT.out.a rfl rfl rfl ?_)
  | (have q := HT; clear q; refine wl_get2 HT.out.a rfl rfl rfl ?_)
  | (have q := HT; clear q; refine wl_store (D := EV x) rfl rowE rfl rfl rfl HT.out.a rfl rfl (EV.one _) ?_; intro w4 hb4 hk4 hx4; clear hx4; replace HT : Hid (Two _ _ _ _ _ _ _) := HT.out.setA hb4 hk4; clear hb4 hk4)
  | (have q := HT; clear q; refine wl_store rfl rowE rfl rfl rfl HT.out.b rfl rfl (EV.one _) ?_; intro w4 hb4 hk4 hx4; clear hx4; replace HT : Hid (Two _ _ _ _ _ _ _) := HT.out.setB hb4 hk4; clear hb4 hk4)
  | (have q := HT; clear q; refine wl_set0 HT.out.a rfl rfl rfl rfl ?_; intro w4 hb4 hk4; replace HT : Hid (Two _ _ _ _ _ _ _) := HT.out.setA hb4 hk4; clear hb4 hk4)
  | (have q := HT; clear q; refine wl_set2 HT.out.a rfl rfl rfl rfl ?_; intro w4 hb4 hk4; replace HT : Hid (Two _ _ _ _ _ _ _) := HT.out.setA hb4 hk4; clear hb4 hk4)
  | (have q := HS; clear q; refine stop_at 5 rfl ?_))
 refine ⟨?_⟩
 refine wl_minI (k := v) rfl rfl (by first | rfl | go_simp) (by first | rfl | go_simp) (by exact HV.out) ?_
 go_wp2_with (first
  | (refine wl_boxG (C := EV e) rfl rfl rfl ?_; intro w1 g1 hg1 hb1 he1; have HG1 : Hid (g1 = w.heap.size) := hg1; clear hg1)
  | (have q := hb1; clear q; refine wl_allocG rfl rfl zeroE ?_; intro w2 g2 hg2 hb2 he2; have HT : Hid (Two w w2 g1 g2 _ e e0) := ⟨hb1.ext he2, hb2, he1.trans he2, Nat.le_of_eq HG1.out.symm, (by rw [hg2]; exact hb1.lt)⟩; clear hb1 hb2 he1 he2 hg2 HG1)
  | (have q := HT; clear q; refine wl_load rfl rowE rfl rfl HT.out.a rfl ?_)
  | (go_at_call 16; refine (orFirst_any _ _).mono ?_; rintro y w3 ⟨rfl, he3⟩; rw [hx.out]; replace HT : Hid (Two _ _ _ _ _ _ _) := HT.out.grow he3; clear he3)
  | (go_at_call 21; refine (bounded_any _ _).mono ?_; rintro y w3 ⟨rfl, rfl⟩; first | rw [hm.out] | rw [hk.out])
  | (go_at_call 13; refine (slow_any _ _).mono ?_; rintro y w3 ⟨rfl, he3⟩; rw [hok.out, ds]; have HS : Hid True := trivial; replace HT : Hid (Two _ _ _ _ _ _ _) := HT.out.grow he3; clear he3)
  | (have q := HT; clear q; refine wl_get0 HT.out.a rfl rfl rfl ?_)
  | (have q := HT; clear q; refine wl_get1 HT.out.a rfl rfl rfl ?_)
  | (have q := HT; clear q; refine wl_get2 HT.out.a rfl rfl rfl ?_)
  | (have q := HT; clear q; refine wl_store (D := EV x) rfl rowE rfl rfl rfl HT.out.a rfl rfl (EV.one _) ?_; intro w4 hb4 hk4 hx4; clear hx4; replace HT : Hid (Two _ _ _ _ _ _ _) := HT.out.setA hb4 hk4; clear hb4 hk4)
  | (have q := HT; clear q; refine wl_store rfl rowE rfl rfl rfl HT.out.b rfl rfl (EV.one _) ?_; intro w4 hb4 hk4 hx4; clear hx4; replace HT : Hid (Two _ _ _ _ _ _ _) := HT.out.setB hb4 hk4; clear hb4 hk4)
  | (have q := HT; clear q; refine wl_set0 HT.out.a rfl rfl rfl rfl ?_; intro w4 hb4 hk4; replace HT : Hid (Two _ _ _ _ _ _ _) := HT.out.setA hb4 hk4; clear hb4 hk4)
  | (have q := HT; clear q; refine wl_set2 HT.out.a rfl rfl rfl rfl ?_; intro w4 hb4 hk4; replace HT : Hid (Two _ _ _ _ _ _ _) := HT.out.setA hb4 hk4; clear hb4 hk4)
  | (have q := HS; clear q; refine stop_at 3 rfl ?_))
 refine ⟨?_⟩
 refine wl_minI (k := z) rfl rfl (by first | rfl | go_simp) (by first | rfl | go_simp) (by exact HZ.out) ?_
 go_wp2_with (first
  | (refine wl_boxG (C := EV e) rfl rfl rfl ?_; intro w1 g1 hg1 hb1 he1; have HG1 : Hid (g1 = w.heap.size) := hg1; clear hg1)
  | (have q := hb1; clear q; refine wl_allocG rfl rfl zeroE ?_; intro w2 g2 hg2 hb2 he2; have HT : Hid (Two w w2 g1 g2 _ e e0) := ⟨hb1.ext he2, hb2, he1.trans he2, Nat.le_of_eq HG1.out.symm, (by rw [hg2]; exact hb1.lt)⟩; clear hb1 hb2 he1 he2 hg2 HG1)
  | (have q := HT; clear q; refine wl_load rfl rowE rfl rfl HT.out.a rfl ?_)
  | (go_at_call 16; refine (orFirst_any _ _).mono ?_; rintro y w3 ⟨rfl, he3⟩; rw [hx.out]; replace HT : Hid (Two _ _ _ _ _ _ _) := HT.out.grow he3; clear he3)
  | (go_at_call 21; refine (bounded_any _ _).mono ?_; rintro y w3 ⟨rfl, rfl⟩; first | rw [hm.out] | rw [hk.out])
  | (go_at_call 13; refine (slow_any _ _).mono ?_; rintro y w3 ⟨rfl, he3⟩; rw [hok.out, ds]; have HS : Hid True := trivial; replace HT : Hid (Two _ _ _ _ _ _ _) := HT.out.grow he3; clear he3)
  | (have q := HT; clear q; refine wl_get0 HT.out.a rfl rfl rfl ?_)
  | (have q := HT; clear q; refine wl_get1 HT.out.a rfl rfl rfl ?_)
  | (have q := HT; clear q; refine wl_get2 HT.out.a rfl rfl rfl ?_)
  | (have q := HT; clear q; refine wl_store (D := EV x) rfl rowE rfl rfl rfl HT.out.a rfl rfl (EV.one _) ?_; intro w4 hb4 hk4 hx4; clear hx4; replace HT : Hid (Two _ _ _ _ _ _ _) := HT.out.setA hb4 hk4; clear hb4 hk4)
  | (have q := HT; clear q; refine wl_store rfl rowE rfl rfl rfl HT.out.b rfl rfl (EV.one _) ?_; intro w4 hb4 hk4 hx4; clear hx4; replace HT : Hid (Two _ _ _ _ _ _ _) := HT.out.setB hb4 hk4; clear hb4 hk4)
  | (have q := HT; clear q; refine wl_set0 HT.out.a rfl rfl rfl rfl ?_; intro w4 hb4 hk4; replace HT : Hid (Two _ _ _ _ _ _ _) := HT.out.setA hb4 hk4; clear hb4 hk4)
  | (have q := HT; clear q; refine wl_set2 HT.out.a rfl rfl rfl rfl ?_; intro w4 hb4 hk4; replace HT : Hid (Two _ _ _ _ _ _ _) := HT.out.setA hb4 hk4; clear hb4 hk4))
 refine bodyPost_ret (results_cell_row (fn := Try.f14) (p := 6) rfl _ _ _ _ _ (0, 0) _ rfl HT.out.b Try.underlying25 rfl (by kernel_rfl)) rfl ?_
 exact ⟨by rw [HG.out], HT.out.ext⟩
set_option maxHeartbeats 4000000 in
theorem acked_2 (e : E) (n f : Int) (w : World) (h : ¬ bdI f < (okE e).sz) (hs : ¬ (okE e).sz ≤ (okE e).th) (hc : ¬ (if 2147483648 < (okE e).ct + bdI n then 2147483648 else (okE e).ct + bdI n) ≥ (okE e).sz) : Calls Try.prog 14 #[.agg (EV e), .int .i64 n, .int .i64 f] w fun x w' => x = .returned (.agg (EV (growE (okE e) (bdI n)))) ∧ Ext w w' := by
 obtain ⟨x, hx'⟩ : ∃ x, okE e = x := ⟨_, rfl⟩
 have hx : Hid (okE e = x) := hx'
 have hok : Hid (okE x = x) := show _ = _ by rw [← hx', okE_ok]
 obtain ⟨m, hm'⟩ : ∃ m, bdI n = m := ⟨_, rfl⟩
 have hm : Hid (bdI n = m) := hm'
 obtain ⟨k, hk'⟩ : ∃ k, bdI f = k := ⟨_, rfl⟩
 have hk : Hid (bdI f = k) := hk'
 have hn := (goodB_iff _).1 (okE_good e)
 have hb := bdI_in n
 rw [hm'] at hb
 rw [hx'] at hn hs
 rw [hx', hm'] at hc
 rw [hx', hm']
 rw [hx', hk'] at h
 have d1 : decide (k < x.sz) = false := decide_eq_false h
 have ds : decide (x.sz ≤ x.th) = false := decide_eq_false hs
 have s1 : IntKind.i64.wrap (x.ct + m) = x.ct + m := by rw [IntKind.wrap_i64]; omega
 obtain ⟨c, hv⟩ : ∃ c, (if 2147483648 < x.ct + m then 2147483648 else x.ct + m) = c := ⟨_, rfl⟩
 have HC : Hid (c = if 2147483648 < x.ct + m then 2147483648 else x.ct + m) := hv.symm
 have hcb : 0 ≤ c ∧ c ≤ 2147483648 := by rw [← hv]; split <;> omega
 rw [hv] at hc
 have d2 : decide (c ≥ x.sz) = false := decide_eq_false hc
 have HG : Hid (growE x m = ⟨x.sz, x.th, c⟩) := show _ = _ by unfold growE; rw [if_neg hs, hv, if_neg hc]
 clear h hx' hm' hk' hn hb hs hv hcb hc
 go_enter Try.func14, Try.ntmps14
 go_wp2_with (first
  | (refine wl_boxG (C := EV e) rfl rfl rfl ?_; intro w1 g1 hg1 hb1 he1; have HG1 : Hid (g1 = w.heap.size) := hg1; clear hg1)
  | (have q := hb1; clear q; refine wl_allocG rfl rfl zeroE ?_; intro w2 g2 hg2 hb2 he2; have HT : Hid (Two w w2 g1 g2 _ e e0) := ⟨hb1.ext he2, hb2, he1.trans he2, Nat.le_of_eq HG1.out.symm, (by rw [hg2]; exact hb1.lt)⟩; clear hb1 hb2 he1 he2 hg2 HG1)
  | (have q := HT; clear q; refine wl_load rfl rowE rfl rfl HT.out.a rfl ?_)
  | (go_at_call 16; refine (orFirst_any _ _).mono ?_; rintro y w3 ⟨rfl, he3⟩; rw [hx.out]; replace HT : Hid (Two _ _ _ _ _ _ _) := HT.out.grow he3; clear he3)
  | (go_at_call 21; refine (bounded_any _ _).mono ?_; rintro y w3 ⟨rfl, rfl⟩; first | rw [hm.out] | rw [hk.out])
  | (go_at_call 13; refine (slow_any _ _).mono ?_; rintro y w3 ⟨rfl, he3⟩; rw [hok.out, ds]; have HS : Hid True := trivial; replace HT : Hid (Two _ _ _ _ _ _ _) := HT.out.grow he3; clear he3)
  | (have q := HT; clear q; refine wl_get0 HT.out.a rfl rfl rfl ?_)
  | (have q := HT; clear q; refine wl_get1 HT.out.a rfl rfl rfl ?_)
  | (have q := HT; clear q; refine wl_get2 HT.out.a rfl rfl rfl ?_)
  | (have q := HT; clear q; refine wl_store (D := EV x) rfl rowE rfl rfl rfl HT.out.a rfl rfl (EV.one _) ?_; intro w4 hb4 hk4 hx4; clear hx4; replace HT : Hid (Two _ _ _ _ _ _ _) := HT.out.setA hb4 hk4; clear hb4 hk4)
  | (have q := HT; clear q; refine wl_store rfl rowE rfl rfl rfl HT.out.b rfl rfl (EV.one _) ?_; intro w4 hb4 hk4 hx4; clear hx4; replace HT : Hid (Two _ _ _ _ _ _ _) := HT.out.setB hb4 hk4; clear hb4 hk4)
  | (have q := HT; clear q; refine wl_set0 HT.out.a rfl rfl rfl rfl ?_; intro w4 hb4 hk4; replace HT : Hid (Two _ _ _ _ _ _ _) := HT.out.setA hb4 hk4; clear hb4 hk4)
  | (have q := HT; clear q; refine wl_set2 HT.out.a rfl rfl rfl rfl ?_; intro w4 hb4 hk4; replace HT : Hid (Two _ _ _ _ _ _ _) := HT.out.setA hb4 hk4; clear hb4 hk4)
  | (have q := HS; clear q; refine stop_at 3 rfl ?_))
 refine ⟨?_⟩
 refine wl_minI (k := c) rfl rfl (by first | rfl | go_simp) (by first | rfl | go_simp) (by exact HC.out) ?_
 go_wp2_with (first
  | (refine wl_boxG (C := EV e) rfl rfl rfl ?_; intro w1 g1 hg1 hb1 he1; have HG1 : Hid (g1 = w.heap.size) := hg1; clear hg1)
  | (have q := hb1; clear q; refine wl_allocG rfl rfl zeroE ?_; intro w2 g2 hg2 hb2 he2; have HT : Hid (Two w w2 g1 g2 _ e e0) := ⟨hb1.ext he2, hb2, he1.trans he2, Nat.le_of_eq HG1.out.symm, (by rw [hg2]; exact hb1.lt)⟩; clear hb1 hb2 he1 he2 hg2 HG1)
  | (have q := HT; clear q; refine wl_load rfl rowE rfl rfl HT.out.a rfl ?_)
  | (go_at_call 16; refine (orFirst_any _ _).mono ?_; rintro y w3 ⟨rfl, he3⟩; rw [hx.out]; replace HT : Hid (Two _ _ _ _ _ _ _) := HT.out.grow he3; clear he3)
  | (go_at_call 21; refine (bounded_any _ _).mono ?_; rintro y w3 ⟨rfl, rfl⟩; first | rw [hm.out] | rw [hk.out])
  | (go_at_call 13; refine (slow_any _ _).mono ?_; rintro y w3 ⟨rfl, he3⟩; rw [hok.out, ds]; have HS : Hid True := trivial; replace HT : Hid (Two _ _ _ _ _ _ _) := HT.out.grow he3; clear he3)
  | (have q := HT; clear q; refine wl_get0 HT.out.a rfl rfl rfl ?_)
  | (have q := HT; clear q; refine wl_get1 HT.out.a rfl rfl rfl ?_)
  | (have q := HT; clear q; refine wl_get2 HT.out.a rfl rfl rfl ?_)
  | (have q := HT; clear q; refine wl_store (D := EV x) rfl rowE rfl rfl rfl HT.out.a rfl rfl (EV.one _) ?_; intro w4 hb4 hk4 hx4; clear hx4; replace HT : Hid (Two _ _ _ _ _ _ _) := HT.out.setA hb4 hk4; clear hb4 hk4)
  | (have q := HT; clear q; refine wl_store rfl rowE rfl rfl rfl HT.out.b rfl rfl (EV.one _) ?_; intro w4 hb4 hk4 hx4; clear hx4; replace HT : Hid (Two _ _ _ _ _ _ _) := HT.out.setB hb4 hk4; clear hb4 hk4)
  | (have q := HT; clear q; refine wl_set0 HT.out.a rfl rfl rfl rfl ?_; intro w4 hb4 hk4; replace HT : Hid (Two _ _ _ _ _ _ _) := HT.out.setA hb4 hk4; clear hb4 hk4)
  | (have q := HT; clear q; refine wl_set2 HT.out.a rfl rfl rfl rfl ?_; intro w4 hb4 hk4; replace HT : Hid (Two _ _ _ _ _ _ _) := HT.out.setA hb4 hk4; clear hb4 hk4))
 refine bodyPost_ret (results_cell_row (fn := Try.f14) (p := 6) rfl _ _ _ _ _ (0, 0) _ rfl HT.out.b Try.underlying25 rfl (by kernel_rfl)) rfl ?_
 exact ⟨by rw [HG.out], HT.out.ext⟩
set_option maxHeartbeats 4000000 in
theorem acked_3 (e : E) (n f : Int) (w : World) (h : ¬ bdI f < (okE e).sz) (hs : ¬ (okE e).sz ≤ (okE e).th) (hc : (if 2147483648 < (okE e).ct + bdI n then 2147483648 else (okE e).ct + bdI n) ≥ (okE e).sz) : Calls Try.prog 14 #[.agg (EV e), .int .i64 n, .int .i64 f] w fun x w' => x = .returned (.agg (EV (growE (okE e) (bdI n)))) ∧ Ext w w' := by
 obtain ⟨x, hx'⟩ : ∃ x, okE e = x := ⟨_, rfl⟩
 have hx : Hid (okE e = x) := hx'
 have hok : Hid (okE x = x) := show _ = _ by rw [← hx', okE_ok]
 obtain ⟨m, hm'⟩ : ∃ m, bdI n = m := ⟨_, rfl⟩
 have hm : Hid (bdI n = m) := hm'
 obtain ⟨k, hk'⟩ : ∃ k, bdI f = k := ⟨_, rfl⟩
 have hk : Hid (bdI f = k) := hk'
 have hn := (goodB_iff _).1 (okE_good e)
 have hb := bdI_in n
 rw [hm'] at hb
 rw [hx'] at hn hs
 rw [hx', hm'] at hc
 rw [hx', hm']
 rw [hx', hk'] at h
 have d1 : decide (k < x.sz) = false := decide_eq_false h
 have ds : decide (x.sz ≤ x.th) = false := decide_eq_false hs
 have s1 : IntKind.i64.wrap (x.ct + m) = x.ct + m := by rw [IntKind.wrap_i64]; omega
 obtain ⟨c, hv⟩ : ∃ c, (if 2147483648 < x.ct + m then 2147483648 else x.ct + m) = c := ⟨_, rfl⟩
 have HC : Hid (c = if 2147483648 < x.ct + m then 2147483648 else x.ct + m) := hv.symm
 have hcb : 0 ≤ c ∧ c ≤ 2147483648 := by rw [← hv]; split <;> omega
 rw [hv] at hc
 have d2 : decide (c ≥ x.sz) = true := decide_eq_true hc
 have s2 : IntKind.i64.wrap (c - x.sz) = c - x.sz := by rw [IntKind.wrap_i64]; omega
 have s3 : IntKind.i64.wrap (x.sz + 128) = x.sz + 128 := by rw [IntKind.wrap_i64]; omega
 obtain ⟨z, hz⟩ : ∃ z, (if 8192 < x.sz + 128 then 8192 else x.sz + 128) = z := ⟨_, rfl⟩
 have HZ : Hid (z = if 8192 < x.sz + 128 then 8192 else x.sz + 128) := hz.symm
 have HG : Hid (growE x m = ⟨z, x.th, c - x.sz⟩) := show _ = _ by unfold growE; rw [if_neg hs, hv, if_pos hc, hz]
 clear h hx' hm' hk' hn hb hs hv hcb hc hz
 go_enter Try.func14, Try.ntmps14
 go_wp2_with (first
  | (refine wl_boxG (C := EV e) rfl rfl rfl ?_; intro w1 g1 hg1 hb1 he1; have HG1 : Hid (g1 = w.heap.size) := hg1; clear hg1)
  | (have q := hb1; clear q; refine wl_allocG rfl rfl zeroE ?_; intro w2 g2 hg2 hb2 he2; have HT : Hid (Two w w2 g1 g2 _ e e0) := ⟨hb1.ext he2, hb2, he1.trans he2, Nat.le_of_eq HG1.out.symm, (by rw [hg2]; exact hb1.lt)⟩; clear hb1 hb2 he1 he2 hg2 HG1)
  | (have q := HT; clear q; refine wl_load rfl rowE rfl rfl HT.out.a rfl ?_)
  | (go_at_call 16; refine (orFirst_any _ _).mono ?_; rintro y w3 ⟨rfl, he3⟩; rw [hx.out]; replace HT : Hid (Two _ _ _ _ _ _ _) := HT.out.grow he3; clear he3)
  | (go_at_call 21; refine (bounded_any _ _).mono ?_; rintro y w3 ⟨rfl, rfl⟩; first | rw [hm.out] | rw [hk.out])
  | (go_at_call 13; refine (slow_any _ _).mono ?_; rintro y w3 ⟨rfl, he3⟩; rw [hok.out, ds]; have HS : Hid True := trivial; replace HT : Hid (Two _ _ _ _ _ _ _) := HT.out.grow he3; clear he3)
  | (have q := HT; clear q; refine wl_get0 HT.out.a rfl rfl rfl ?_)
  | (have q := HT; clear q; refine wl_get1 HT.out.a rfl rfl rfl ?_)
  | (have q := HT; clear q; refine wl_get2 HT.out.a rfl rfl rfl ?_)
  | (have q := HT; clear q; refine wl_store (D := EV x) rfl rowE rfl rfl rfl HT.out.a rfl rfl (EV.one _) ?_; intro w4 hb4 hk4 hx4; clear hx4; replace HT : Hid (Two _ _ _ _ _ _ _) := HT.out.setA hb4 hk4; clear hb4 hk4)
  | (have q := HT; clear q; refine wl_store rfl rowE rfl rfl rfl HT.out.b rfl rfl (EV.one _) ?_; intro w4 hb4 hk4 hx4; clear hx4; replace HT : Hid (Two _ _ _ _ _ _ _) := HT.out.setB hb4 hk4; clear hb4 hk4)
  | (have q := HT; clear q; refine wl_set0 HT.out.a rfl rfl rfl rfl ?_; intro w4 hb4 hk4; replace HT : Hid (Two _ _ _ _ _ _ _) := HT.out.setA hb4 hk4; clear hb4 hk4)
  | (have q := HT; clear q; refine wl_set2 HT.out.a rfl rfl rfl rfl ?_; intro w4 hb4 hk4; replace HT : Hid (Two _ _ _ _ _ _ _) := HT.out.setA hb4 hk4; clear hb4 hk4)
  | (have q := HS; clear q; refine stop_at 3 rfl ?_))
 refine ⟨?_⟩
 refine wl_minI (k := c) rfl rfl (by first | rfl | go_simp) (by first | rfl | go_simp) (by exact HC.out) ?_
 go_wp2_with (first
  | (refine wl_boxG (C := EV e) rfl rfl rfl ?_; intro w1 g1 hg1 hb1 he1; have HG1 : Hid (g1 = w.heap.size) := hg1; clear hg1)
  | (have q := hb1; clear q; refine wl_allocG rfl rfl zeroE ?_; intro w2 g2 hg2 hb2 he2; have HT : Hid (Two w w2 g1 g2 _ e e0) := ⟨hb1.ext he2, hb2, he1.trans he2, Nat.le_of_eq HG1.out.symm, (by rw [hg2]; exact hb1.lt)⟩; clear hb1 hb2 he1 he2 hg2 HG1)
  | (have q := HT; clear q; refine wl_load rfl rowE rfl rfl HT.out.a rfl ?_)
  | (go_at_call 16; refine (orFirst_any _ _).mono ?_; rintro y w3 ⟨rfl, he3⟩; rw [hx.out]; replace HT : Hid (Two _ _ _ _ _ _ _) := HT.out.grow he3; clear he3)
  | (go_at_call 21; refine (bounded_any _ _).mono ?_; rintro y w3 ⟨rfl, rfl⟩; first | rw [hm.out] | rw [hk.out])
  | (go_at_call 13; refine (slow_any _ _).mono ?_; rintro y w3 ⟨rfl, he3⟩; rw [hok.out, ds]; have HS : Hid True := trivial; replace HT : Hid (Two _ _ _ _ _ _ _) := HT.out.grow he3; clear he3)
  | (have q := HT; clear q; refine wl_get0 HT.out.a rfl rfl rfl ?_)
  | (have q := HT; clear q; refine wl_get1 HT.out.a rfl rfl rfl ?_)
  | (have q := HT; clear q; refine wl_get2 HT.out.a rfl rfl rfl ?_)
  | (have q := HT; clear q; refine wl_store (D := EV x) rfl rowE rfl rfl rfl HT.out.a rfl rfl (EV.one _) ?_; intro w4 hb4 hk4 hx4; clear hx4; replace HT : Hid (Two _ _ _ _ _ _ _) := HT.out.setA hb4 hk4; clear hb4 hk4)
  | (have q := HT; clear q; refine wl_store rfl rowE rfl rfl rfl HT.out.b rfl rfl (EV.one _) ?_; intro w4 hb4 hk4 hx4; clear hx4; replace HT : Hid (Two _ _ _ _ _ _ _) := HT.out.setB hb4 hk4; clear hb4 hk4)
  | (have q := HT; clear q; refine wl_set0 HT.out.a rfl rfl rfl rfl ?_; intro w4 hb4 hk4; replace HT : Hid (Two _ _ _ _ _ _ _) := HT.out.setA hb4 hk4; clear hb4 hk4)
  | (have q := HF; clear q; have q := HT; clear q; refine wl_set2 HT.out.a rfl rfl rfl rfl ?_; intro w4 hb4 hk4; replace HT : Hid (Two _ _ _ _ _ _ _) := HT.out.setA hb4 hk4; clear hb4 hk4; have HS2 : Hid True := trivial)
  | (have q := HT; clear q; refine wl_set2 HT.out.a rfl rfl rfl rfl ?_; intro w4 hb4 hk4; replace HT : Hid (Two _ _ _ _ _ _ _) := HT.out.setA hb4 hk4; clear hb4 hk4; have HF : Hid True := trivial)
  | (have q := HS2; clear q; refine stop_at 3 rfl ?_))
 refine ⟨?_⟩
 refine wl_minI (k := z) rfl rfl (by first | rfl | go_simp) (by first | rfl | go_simp) (by exact HZ.out) ?_
 go_wp2_with (first
  | (refine wl_boxG (C := EV e) rfl rfl rfl ?_; intro w1 g1 hg1 hb1 he1; have HG1 : Hid (g1 = w.heap.size) := hg1; clear hg1)
  | (have q := hb1; clear q; refine wl_allocG rfl rfl zeroE ?_; intro w2 g2 hg2 hb2 he2; have HT : Hid (Two w w2 g1 g2 _ e e0) := ⟨hb1.ext he2, hb2, he1.trans he2, Nat.le_of_eq HG1.out.symm, (by rw [hg2]; exact hb1.lt)⟩; clear hb1 hb2 he1 he2 hg2 HG1)
  | (have q := HT; clear q; refine wl_load rfl rowE rfl rfl HT.out.a rfl ?_)
  | (go_at_call 16; refine (orFirst_any _ _).mono ?_; rintro y w3 ⟨rfl, he3⟩; rw [hx.out]; replace HT : Hid (Two _ _ _ _ _ _ _) := HT.out.grow he3; clear he3)
  | (go_at_call 21; refine (bounded_any _ _).mono ?_; rintro y w3 ⟨rfl, rfl⟩; first | rw [hm.out] | rw [hk.out])
  | (go_at_call 13; refine (slow_any _ _).mono ?_; rintro y w3 ⟨rfl, he3⟩; rw [hok.out, ds]; have HS : Hid True := trivial; replace HT : Hid (Two _ _ _ _ _ _ _) := HT.out.grow he3; clear he3)
  | (have q := HT; clear q; refine wl_get0 HT.out.a rfl rfl rfl ?_)
  | (have q := HT; clear q; refine wl_get1 HT.out.a rfl rfl rfl ?_)
  | (have q := HT; clear q; refine wl_get2 HT.out.a rfl rfl rfl ?_)
  | (have q := HT; clear q; refine wl_store (D := EV x) rfl rowE rfl rfl rfl HT.out.a rfl rfl (EV.one _) ?_; intro w4 hb4 hk4 hx4; clear hx4; replace HT : Hid (Two _ _ _ _ _ _ _) := HT.out.setA hb4 hk4; clear hb4 hk4)
  | (have q := HT; clear q; refine wl_store rfl rowE rfl rfl rfl HT.out.b rfl rfl (EV.one _) ?_; intro w4 hb4 hk4 hx4; clear hx4; replace HT : Hid (Two _ _ _ _ _ _ _) := HT.out.setB hb4 hk4; clear hb4 hk4)
  | (have q := HT; clear q; refine wl_set0 HT.out.a rfl rfl rfl rfl ?_; intro w4 hb4 hk4; replace HT : Hid (Two _ _ _ _ _ _ _) := HT.out.setA hb4 hk4; clear hb4 hk4)
  | (have q := HT; clear q; refine wl_set2 HT.out.a rfl rfl rfl rfl ?_; intro w4 hb4 hk4; replace HT : Hid (Two _ _ _ _ _ _ _) := HT.out.setA hb4 hk4; clear hb4 hk4))
 refine bodyPost_ret (results_cell_row (fn := Try.f14) (p := 6) rfl _ _ _ _ _ (0, 0) _ rfl HT.out.b Try.underlying25 rfl (by kernel_rfl)) rfl ?_
 exact ⟨by rw [HG.out], HT.out.ext⟩
theorem acked_any (e : E) (n f : Int) (w : World) : Calls Try.prog 14 #[.agg (EV e), .int .i64 n, .int .i64 f] w fun x w' => x = .returned (.agg (EV (ackedE e n f))) ∧ Ext w w' := by
 unfold ackedE
 by_cases h : bdI f < (okE e).sz
 ·
  rw [if_pos h]; exact acked_0 e n f w h
 ·
  rw [if_neg h]
  by_cases hs : (okE e).sz ≤ (okE e).th
  ·
   exact acked_1 e n f w h hs
  ·
   by_cases hc : (if 2147483648 < (okE e).ct + bdI n then 2147483648 else (okE e).ct + bdI n) ≥ (okE e).sz
   ·
    exact acked_3 e n f w h hs hc
   ·
    exact acked_2 e n f w h hs hc
end Cw
end Go.Proofs.Ytkfohggdaooieaa
/- Windows compared; windows in own blocks, one behind the other; the chapter's example. No condition of its own. -/
namespace Go.Proofs.Ytkfohggdaooieaa
namespace Cw
open Go Go.RowKit
set_option maxRecDepth 100000
/-- A type of three whole numbers. -/
structure WinEq (t : TypeId) : Prop where
 u : Try.prog.underlying t = some (.struct (Try.prog.fieldsOf t))
 gd : Try.prog.eqGuardType Try.prog.depth t = false
 hd : Try.prog.stoodInHeld t = false
 fo : (Try.prog.fieldsOf t).toList.map (fun f => f.offset) = [0, 1, 2]
 fa : (Try.prog.fieldsOf t).toList.map (fun f => decide (f.name = "_")) = [false, false, false]
 fy : (Try.prog.fieldsOf t).toList.map (fun f => f.type) = [3, 3, 3]
theorem three_of {α : Type} : ∀ {L : List α}, L.length = 3 → ∃ f g h, L = [f, g, h]
 | [f, g, h], _ => ⟨f, g, h, rfl⟩
 | [], h => by cases h
 | [_], h => by cases h
 | [_, _], h => by cases h
 | _ :: _ :: _ :: _ :: _, h => by simp at h
def sameE (x y : E) : Bool := x.sz == y.sz && x.th == y.th && x.ct == y.ct
theorem sameE_self (x : E) : sameE x x = true := by simp [sameE]
set_option maxHeartbeats 4000000 in
theorem equal_win {t : TypeId} (hT : WinEq t) (w : World) (x y : E) :
  (Op.equal t (.agg (EV x)) (.agg (EV y))).run Try.prog w = .ok (sameE x y) w := by
 show (Op.equalIn (9999 + 1) t _ _).run Try.prog w = _
 unfold EV
 rw [run_equalIn_struct w 9999 t _ _ hT.u hT.hd]
 have h1 := hT.fo
 have h2 := hT.fa
 have h3 := hT.fy
 clear hT
 generalize (Try.prog.fieldsOf t).toList = L at *
 have hl : L.length = 3 := by simpa using congrArg List.length h1
 obtain ⟨f, g, h, rfl⟩ := three_of hl
 clear hl
 simp only [List.map_cons, List.map_nil, List.cons.injEq, and_true] at h1 h2 h3
 obtain ⟨f1, g1, i1⟩ := h1
 have f2 : f.name ≠ "_" := of_decide_eq_false h2.1
 have g2 : g.name ≠ "_" := of_decide_eq_false h2.2.1
 have i2 : h.name ≠ "_" := of_decide_eq_false h2.2.2
 obtain ⟨f3, g3, i3⟩ := h3
 have u3 := Try.underlying3
 have s3 : (Try.prog.info? 3).map (·.size) = some 1 := by kernel_rfl
 cases hq3 : Try.prog.info? 3 with
 | none => simp [hq3] at s3
 | some i =>
  have hi : i.size = 1 := by simpa [hq3] using s3
  have ha3 : (isAgg 3).run Try.prog w = .ok false w := by unfold isAgg; rw [Sem.run_bind, run_underlying u3 w]; rfl
  simp [Op.eqFields, f1, f2, f3, g1, g2, g3, i1, i2, i3, part, sizeOf, typeInfo, hq3, hi, ha3, go_sem, run_equalIn_int w 9998 3 .i64 .i64 _ _ u3]
  unfold sameE
  by_cases e1 : x.sz = y.sz
  ·
   by_cases e2 : x.th = y.th
   ·
    by_cases e3 : x.ct = y.ct
    ·
     simp [e1, e2, e3]
    ·
     simp [e1, e2, e3, beq_false_of_ne e3]
   ·
    simp [e1, e2, beq_false_of_ne e2]
  ·
   simp [e1, beq_false_of_ne e1]
theorem exec_eqlS {t : TypeId} (hT : WinEq t) {r : Operand → Value} {o : Oper} {x y : Operand} {ty : TypeId} {w : World} (ho : o.op = .binOp .eql t x y ty) {a b : E} (hx : r x = .agg (EV a)) (hy : r y = .agg (EV b)) :
  (execOp r o).run Try.prog w = .ok (.value (.bool (sameE a b))) w := by
 simp [execOp, ho, hx, hy, binOp, eqGuard, hT.gd, go_sem, equal_win hT]
theorem weE : WinEq 25 := ⟨by kernel_rfl, by kernel_rfl, by kernel_rfl, by kernel_rfl, by kernel_rfl, by kernel_rfl⟩
/-- Windows in blocks of the own: the newest first. -/
def Bs (w0 w : World) (L : List (Nat × E × Nat)) : Prop := Ext w0 w ∧ (∀ p, p ∈ L → Blk w p.1 (EV p.2.1) p.2.2 ∧ w0.heap.size ≤ p.1) ∧ L.Pairwise (fun a b => b.1 < a.1)
theorem Bs.nil {w0 w : World} (h : Ext w0 w) : Bs w0 w [] := ⟨h, fun _ hp => (by cases hp), List.Pairwise.nil⟩
theorem Bs.at {w0 w : World} {L : List (Nat × E × Nat)} (h : Bs w0 w L) (i : Nat) {g T : Nat} {x : E} (hp : L[i]? = some (g, x, T)) : Blk w g (EV x) T := (h.2.1 (g, x, T) (List.mem_of_getElem? hp)).1
theorem Bs.grow {w0 w w' : World} {L : List (Nat × E × Nat)} (h : Bs w0 w L) (he : Ext w w') : Bs w0 w' L := ⟨h.1.trans he, fun p hp => ⟨(h.2.1 p hp).1.ext he, (h.2.1 p hp).2⟩, h.2.2⟩
theorem Bs.put {w0 w w' : World} {L : List (Nat × E × Nat)} {z : E} {T : Nat} (h : Bs w0 w L) (he : Ext w w') (hb : Blk w' w.heap.size (EV z) T) : Bs w0 w' ((w.heap.size, z, T) :: L) := by
 refine ⟨h.1.trans he, fun p hp => ?_, List.Pairwise.cons (fun p hp => (h.2.1 p hp).1.lt) h.2.2⟩
 rcases List.mem_cons.1 hp with rfl | hp
 ·
  exact ⟨hb, h.1.size⟩
 ·
  exact ⟨(h.2.1 p hp).1.ext he, (h.2.1 p hp).2⟩
theorem Bs.set {w0 w w' : World} {L : List (Nat × E × Nat)} {g T : Nat} {z y : E} (h : Bs w0 w ((g, z, T) :: L)) (hb : Blk w' g (EV y) T) (hk : KeepBut (· = g) w w') : Bs w0 w' ((g, y, T) :: L) := by
 have hg := (h.2.1 _ List.mem_cons_self).2
 have hp := List.pairwise_cons.1 h.2.2
 refine ⟨h.1.of_but hk (fun q e => by subst e; exact hg), fun p hq => ?_, List.Pairwise.cons hp.1 hp.2⟩
 rcases List.mem_cons.1 hq with rfl | hq
 ·
  exact ⟨hb, hg⟩
 ·
  have := h.2.1 p (List.mem_cons_of_mem _ hq)
  exact ⟨this.1.but hk (Nat.ne_of_lt (hp.1 p hq)), this.2⟩
theorem acked1 : ackedE eF 100 512 = ⟨612, 2000, 0⟩ := by kernel_rfl
set_option maxHeartbeats 4000000 in
theorem alive_any (w : World) : Calls Try.prog 5 #[] w fun e w' => e = .returned (.bool true) ∧ Ext w w' := by
 go_enter Try.func5, Try.ntmps5
 go_wp2_with (first
  | (go_at_call 15; refine (first_any _).mono ?_; rintro y w1 ⟨rfl, he1⟩)
  | (go_at_call 14; refine (acked_any _ _ _ _).mono ?_; rintro y w2 ⟨rfl, he2⟩; rw [acked1])
  | (refine stop_at 3 rfl ?_))
 refine ⟨?_⟩
 refine wl_build rfl rfl (by first | rfl | go_simp) (built2 612 2000) ?_
 refine wpList_of_run rfl (exec_eqlS (a := ⟨612, 2000, 0⟩) (b := ⟨612, 2000, 0⟩) weE rfl (by first | rfl | go_simp) (by first | rfl | go_simp)) ?_
 rw [sameE_self]
 go_wp2
 go_ret
 exact ⟨rfl, he1.trans he2⟩
end Cw
end Go.Proofs.Ytkfohggdaooieaa
/- The law CwndGrows walked: it answers true. No condition of its own. -/
namespace Go.Proofs.Ytkfohggdaooieaa
namespace Cw
open Go Go.RowKit
set_option maxRecDepth 100000
set_option maxHeartbeats 16000000 in
theorem grows_0 {e : E} (hg : goodB e = false) (w : World) : Calls Try.prog 4 #[.agg (EV e)] w fun x w' => x = .returned (.bool true) ∧ Ext w w' := by
 go_enter Try.func4, Try.ntmps4
 go_wp2_with (first
  | (refine wl_box (C := EV e) rfl rfl rfl ?_; intro w1 hb1 he1 hx1; clear hx1; have HB : Hid (Bs w w1 [(w.heap.size, e, 23)]) := (Bs.nil (Ext.refl w)).put he1 hb1; clear hb1 he1)
  | (go_at_call 5; refine (alive_any _).mono ?_; rintro x w2 ⟨rfl, heq⟩; replace HB : Hid (Bs _ _ _) := HB.out.grow heq; clear heq)
  | (have q := HB; clear q; refine wl_load rfl rowR rfl rfl (HB.out.at 0 rfl) rfl ?_)
  | (have q := HB; clear q; refine wl_alloc rfl rfl zeroE ?_; intro w3 hb3 he3 hx3; clear hx3; replace HB : Hid (Bs _ _ (_ :: _)) := HB.out.put he3 hb3; clear hb3 he3)
  | (have q := HB; clear q; refine wl_store (D := EV e) rfl rowE rfl rfl rfl (HB.out.at 0 rfl) rfl rfl (EV.one _) ?_; intro w4 hb4 hk4 hx4; clear hx4; replace HB : Hid (Bs _ _ (_ :: _)) := HB.out.set hb4 hk4; clear hb4 hk4)
  | (go_at_call 12; refine (good_any _ _).mono ?_; rintro x w5 ⟨rfl, heq⟩; rw [hg]; replace HB : Hid (Bs _ _ _) := HB.out.grow heq; clear heq; have x0 := ev0 (HB.out.at 0 rfl); have x1 := ev1 (HB.out.at 0 rfl); have x2 := ev2 (HB.out.at 0 rfl))
  | (have q := HB; clear q; refine wl_load rfl rowE rfl rfl (HB.out.at 0 rfl) rfl ?_)
  | (go_at_call 13; refine (slow_any e _).mono ?_; rintro x w5 ⟨rfl, heq⟩; rw [ho, ds]; replace HB : Hid (Bs _ _ _) := HB.out.grow heq; clear heq x0 x1 x2; have x0 := ev0 (HB.out.at 0 rfl)))
 go_ret
 exact ⟨rfl, HB.out.1⟩
set_option maxHeartbeats 16000000 in
theorem grows_1 {e : E} (hg : goodB e = true) (hs : e.sz ≤ e.th) (w : World) : Calls Try.prog 4 #[.agg (EV e)] w fun x w' => x = .returned (.bool true) ∧ Ext w w' := by
 have ho : okE e = e := okE_yes hg
 have ds : decide (e.sz ≤ e.th) = true := decide_eq_true hs
 go_enter Try.func4, Try.ntmps4
 go_wp2_with (first
  | (refine wl_box (C := EV e) rfl rfl rfl ?_; intro w1 hb1 he1 hx1; clear hx1; have HB : Hid (Bs w w1 [(w.heap.size, e, 23)]) := (Bs.nil (Ext.refl w)).put he1 hb1; clear hb1 he1)
  | (go_at_call 5; refine (alive_any _).mono ?_; rintro x w2 ⟨rfl, heq⟩; replace HB : Hid (Bs _ _ _) := HB.out.grow heq; clear heq)
  | (have q := HB; clear q; refine wl_load rfl rowR rfl rfl (HB.out.at 0 rfl) rfl ?_)
  | (have q := HB; clear q; refine wl_alloc rfl rfl zeroE ?_; intro w3 hb3 he3 hx3; clear hx3; replace HB : Hid (Bs _ _ (_ :: _)) := HB.out.put he3 hb3; clear hb3 he3)
  | (have q := HB; clear q; refine wl_store (D := EV e) rfl rowE rfl rfl rfl (HB.out.at 0 rfl) rfl rfl (EV.one _) ?_; intro w4 hb4 hk4 hx4; clear hx4; replace HB : Hid (Bs _ _ (_ :: _)) := HB.out.set hb4 hk4; clear hb4 hk4)
  | (go_at_call 12; refine (good_any _ _).mono ?_; rintro x w5 ⟨rfl, heq⟩; rw [hg]; replace HB : Hid (Bs _ _ _) := HB.out.grow heq; clear heq; have x0 := ev0 (HB.out.at 0 rfl); have x1 := ev1 (HB.out.at 0 rfl); have x2 := ev2 (HB.out.at 0 rfl))
  | (have q := HB; clear q; refine wl_load rfl rowE rfl rfl (HB.out.at 0 rfl) rfl ?_)
  | (go_at_call 13; refine (slow_any e _).mono ?_; rintro x w5 ⟨rfl, heq⟩; rw [ho, ds]; replace HB : Hid (Bs _ _ _) := HB.out.grow heq; clear heq x0 x1 x2; have x0 := ev0 (HB.out.at 0 rfl)))
 go_ret
 exact ⟨rfl, HB.out.1⟩
set_option maxHeartbeats 16000000 in
theorem grows_2 {e : E} (hg : goodB e = true) (hs : ¬ e.sz ≤ e.th) (hb : e.sz > 8064) (w : World) : Calls Try.prog 4 #[.agg (EV e)] w fun x w' => x = .returned (.bool true) ∧ Ext w w' := by
 have ho : okE e = e := okE_yes hg
 have ds : decide (e.sz ≤ e.th) = false := decide_eq_false hs
 have db : decide (e.sz > 8064) = true := decide_eq_true hb
 clear hs hb
 go_enter Try.func4, Try.ntmps4
 go_wp2_with (first
  | (refine wl_box (C := EV e) rfl rfl rfl ?_; intro w1 hb1 he1 hx1; clear hx1; have HB : Hid (Bs w w1 [(w.heap.size, e, 23)]) := (Bs.nil (Ext.refl w)).put he1 hb1; clear hb1 he1)
  | (go_at_call 5; refine (alive_any _).mono ?_; rintro x w2 ⟨rfl, heq⟩; replace HB : Hid (Bs _ _ _) := HB.out.grow heq; clear heq)
  | (have q := HB; clear q; refine wl_load rfl rowR rfl rfl (HB.out.at 0 rfl) rfl ?_)
  | (have q := HB; clear q; refine wl_alloc rfl rfl zeroE ?_; intro w3 hb3 he3 hx3; clear hx3; replace HB : Hid (Bs _ _ (_ :: _)) := HB.out.put he3 hb3; clear hb3 he3)
  | (have q := HB; clear q; refine wl_store (D := EV e) rfl rowE rfl rfl rfl (HB.out.at 0 rfl) rfl rfl (EV.one _) ?_; intro w4 hb4 hk4 hx4; clear hx4; replace HB : Hid (Bs _ _ (_ :: _)) := HB.out.set hb4 hk4; clear hb4 hk4)
  | (go_at_call 12; refine (good_any _ _).mono ?_; rintro x w5 ⟨rfl, heq⟩; rw [hg]; replace HB : Hid (Bs _ _ _) := HB.out.grow heq; clear heq; have x0 := ev0 (HB.out.at 0 rfl); have x1 := ev1 (HB.out.at 0 rfl); have x2 := ev2 (HB.out.at 0 rfl))
  | (have q := HB; clear q; refine wl_load rfl rowE rfl rfl (HB.out.at 0 rfl) rfl ?_)
  | (go_at_call 13; refine (slow_any e _).mono ?_; rintro x w5 ⟨rfl, heq⟩; rw [ho, ds]; replace HB : Hid (Bs _ _ _) := HB.out.grow heq; clear heq x0 x1 x2; have x0 := ev0 (HB.out.at 0 rfl)))
 go_ret
 exact ⟨rfl, HB.out.1⟩
theorem bd_mid {n : Int} (h : 0 ≤ n) (h2 : n ≤ 1048576) : bdI n = n := by unfold bdI; rw [if_neg (by omega), if_neg (by omega)]
theorem win_ext {a b : E} (h0 : a.sz = b.sz) (h1 : a.th = b.th) (h2 : a.ct = b.ct) : a = b := by cases a; cases b; simp_all
set_option maxHeartbeats 16000000 in
theorem grows_3 {e : E} (hg : goodB e = true) (hs : ¬ e.sz ≤ e.th) (hb : ¬ e.sz > 8064) (w : World) : Calls Try.prog 4 #[.agg (EV e)] w fun x w' => x = .returned (.bool true) ∧ Ext w w' := by
 have ho : okE e = e := okE_yes hg
 have hn := (goodB_iff e).1 hg
 have ds : decide (e.sz ≤ e.th) = false := decide_eq_false hs
 have db : decide (e.sz > 8064) = false := decide_eq_false hb
 have KE : Hid (emptyE e = ⟨e.sz, e.th, 0⟩) := show _ = _ by unfold emptyE; rw [ho]
 have gX : goodB (⟨e.sz, e.th, 0⟩ : E) = true := (goodB_iff _).2 ⟨hn.1, hn.2.1, hn.2.2.1, hn.2.2.2.1, Int.le_refl _, (by decide : (0 : Int) ≤ 2147483648)⟩
 have gY : goodB (⟨e.sz, e.th, e.sz - 1⟩ : E) = true := (goodB_iff _).2 ⟨hn.1, hn.2.1, hn.2.2.1, hn.2.2.2.1, (show (0 : Int) ≤ e.sz - 1 by omega), (show e.sz - 1 ≤ 2147483648 by omega)⟩
 have K1 : Hid (ackedE ⟨e.sz, e.th, 0⟩ (e.sz - 1) e.sz = ⟨e.sz, e.th, e.sz - 1⟩) := show _ = _ by
  unfold ackedE growE
  rw [okE_yes gX, bd_mid (by omega) (by omega), bd_mid (by omega) (by omega)]
  dsimp only
  rw [if_neg (by omega), if_neg (by omega), if_neg (by omega), if_neg (by omega)]
  exact win_ext rfl rfl (show 0 + (e.sz - 1) = e.sz - 1 by omega)
 have K2 : Hid (ackedE ⟨e.sz, e.th, e.sz - 1⟩ 1 e.sz = ⟨e.sz + 128, e.th, 0⟩) := show _ = _ by
  unfold ackedE growE
  rw [okE_yes gY, bd_mid (by omega) (by omega), bd_mid (by omega) (by omega)]
  dsimp only
  rw [if_neg (by omega), if_neg (by omega), if_neg (by omega : ¬ (2147483648 < e.sz - 1 + 1)), if_pos (by omega), if_neg (by omega)]
  exact win_ext rfl rfl (show e.sz - 1 + 1 - e.sz = 0 by omega)
 have K3 : Hid (ackedE ⟨e.sz, e.th, 0⟩ 5 (e.sz - 1) = ⟨e.sz, e.th, 0⟩) := show _ = _ by
  unfold ackedE
  rw [okE_yes gX, bd_mid (by omega) (by omega)]
  exact if_pos (show e.sz - 1 < e.sz by omega)
 have s1 : IntKind.i64.wrap (e.sz - 1) = e.sz - 1 := by rw [IntKind.wrap_i64]; omega
 have s3 : IntKind.i64.wrap (e.sz + 128) = e.sz + 128 := by rw [IntKind.wrap_i64]; omega
 clear hs hb hn gX gY
 go_enter Try.func4, Try.ntmps4
 go_wp2_with (first
  | (refine wl_box (C := EV e) rfl rfl rfl ?_; intro w1 hb1 he1 hx1; clear hx1; have HB : Hid (Bs w w1 [(w.heap.size, e, 23)]) := (Bs.nil (Ext.refl w)).put he1 hb1; clear hb1 he1)
  | (go_at_call 5; refine (alive_any _).mono ?_; rintro x w2 ⟨rfl, heq⟩; replace HB : Hid (Bs _ _ _) := HB.out.grow heq; clear heq)
  | (have q := HB; clear q; refine wl_load rfl rowR rfl rfl (HB.out.at 0 rfl) rfl ?_)
  | (have q := HB; clear q; refine wl_alloc rfl rfl zeroE ?_; intro w3 hb3 he3 hx3; clear hx3; replace HB : Hid (Bs _ _ (_ :: _)) := HB.out.put he3 hb3; clear hb3 he3)
  | (have q := HB; clear q; refine wl_store (D := EV e) rfl rowE rfl rfl rfl (HB.out.at 0 rfl) rfl rfl (EV.one _) ?_; intro w4 hb4 hk4 hx4; clear hx4; replace HB : Hid (Bs _ _ (_ :: _)) := HB.out.set hb4 hk4; clear hb4 hk4)
  | (go_at_call 12; refine (good_any _ _).mono ?_; rintro x w5 ⟨rfl, heq⟩; rw [hg]; replace HB : Hid (Bs _ _ _) := HB.out.grow heq; clear heq; have x0 := ev0 (HB.out.at 0 rfl); have x1 := ev1 (HB.out.at 0 rfl); have x2 := ev2 (HB.out.at 0 rfl))
  | (go_at_call 13; refine (slow_any e _).mono ?_; rintro x w5 ⟨rfl, heq⟩; rw [ho, ds]; replace HB : Hid (Bs _ _ _) := HB.out.grow heq; clear heq x0 x1 x2; have x0 := ev0 (HB.out.at 0 rfl))
  | (go_at_call 11; refine (empty_any e _).mono ?_; rintro x w6 ⟨rfl, heq⟩; rw [KE.out]; replace HB : Hid (Bs _ _ _) := HB.out.grow heq; clear heq x0)
  | (have q := K1; clear q; go_at_call 14; refine (acked_any ⟨e.sz, e.th, 0⟩ (e.sz - 1) e.sz _).mono ?_; rintro x wY ⟨rfl, heq⟩; rw [K1.out]; clear K1; replace HB : Hid (Bs _ _ _) := HB.out.grow heq; clear heq)
  | (have q := K2; clear q; go_at_call 14; refine (acked_any ⟨e.sz, e.th, e.sz - 1⟩ 1 e.sz _).mono ?_; rintro x wZ ⟨rfl, heq⟩; rw [K2.out]; clear K2; replace HB : Hid (Bs _ _ _) := HB.out.grow heq; clear heq)
  | (have q := HB; clear q; refine wl_get0 (HB.out.at 0 rfl) rfl rfl rfl ?_)
  | (have q := HB; clear q; refine wl_get0 (HB.out.at 1 rfl) rfl rfl rfl ?_)
  | (have q := HB; clear q; refine wl_load rfl rowE rfl rfl (HB.out.at 0 rfl) rfl ?_)
  | (have q := HB; clear q; refine wl_store (D := EV ⟨e.sz, e.th, 0⟩) rfl rowE rfl rfl rfl (HB.out.at 0 rfl) rfl rfl (EV.one _) ?_; intro w4 hb4 hk4 hx4; clear hx4; replace HB : Hid (Bs _ _ (_ :: _)) := HB.out.set hb4 hk4; clear hb4 hk4)
  | (have q := HB; clear q; refine wl_store (D := EV ⟨e.sz, e.th, e.sz - 1⟩) rfl rowE rfl rfl rfl (HB.out.at 0 rfl) rfl rfl (EV.one _) ?_; intro w4 hb4 hk4 hx4; clear hx4; replace HB : Hid (Bs _ _ (_ :: _)) := HB.out.set hb4 hk4; clear hb4 hk4)
  | (have q := HB; clear q; refine wl_store (D := EV ⟨e.sz + 128, e.th, 0⟩) rfl rowE rfl rfl rfl (HB.out.at 0 rfl) rfl rfl (EV.one _) ?_; intro w4 hb4 hk4 hx4; clear hx4; replace HB : Hid (Bs _ _ (_ :: _)) := HB.out.set hb4 hk4; clear hb4 hk4))
 have HBx : ∀ {wx : World}, Ext _ wx → Bs w wx [(wZ.heap.size, ⟨e.sz + 128, e.th, 0⟩, 25), (wY.heap.size, ⟨e.sz, e.th, e.sz - 1⟩, 25), (w2.heap.size, ⟨e.sz, e.th, 0⟩, 25), (w.heap.size, e, 23)] := fun hx => HB.out.grow ((Ext.drew _).trans hx)
 refine wp_region_facts (fun t => bif Nat.ble 34 t && Nat.ble t 68 then some (t - 34) else bif Nat.beq t 2 then some 35 else none) 69 Ext
  [Is (.pointer (some ⟨wY.heap.size, 0, none⟩)),
   Is (.int .i64 (e.sz)),
   Is (.pointer (some ⟨w2.heap.size, 0, none⟩)),
   Is (.int .i64 (e.sz)),
   Is (.bool true),
   Is (.bool true),
   Is (.pointer (some ⟨wY.heap.size, 2, none⟩)),
   Is (.int .i64 (e.sz - 1)),
   Is (.pointer (some ⟨w2.heap.size, 0, none⟩)),
   Is (.int .i64 (e.sz)),
   Is (.int .i64 (e.sz - 1)),
   Is (.bool true),
   Is (.bool true),
   Is (.bool true),
   Is (.pointer (some ⟨wZ.heap.size, 0, none⟩)),
   Is (.int .i64 (e.sz + 128)),
   Is (.pointer (some ⟨w2.heap.size, 0, none⟩)),
   Is (.int .i64 (e.sz)),
   Is (.int .i64 (e.sz + 128)),
   Is (.bool true),
   Is (.bool true),
   Is (.bool true),
   Is (.pointer (some ⟨wZ.heap.size, 2, none⟩)),
   Is (.int .i64 (0)),
   Is (.bool true),
   Is (.bool true),
   Is (.bool true),
   Is (.agg (EV ⟨e.sz, e.th, 0⟩)),
   Is (.pointer (some ⟨w2.heap.size, 0, none⟩)),
   Is (.int .i64 (e.sz)),
   Is (.int .i64 (e.sz - 1)),
   Is (.agg (EV ⟨e.sz, e.th, 0⟩)),
   Is (.agg (EV ⟨e.sz, e.th, 0⟩)),
   Is (.bool true),
   Is (.bool true),
   Is (.bool true)]
  rfl (by kernel_rfl) (by kernel_rfl) rfl Ext.refl (fun _ _ _ => Ext.trans) ?_ ?_ ?_
 ·
  exact Ks (Ks (Ks (Ks (Ks (Ks (Ks (Ks (Ks (Ks (Ks (Ks (Ks (Ks (Ks (Ks (Ks (Ks (Ks (Ks (Ks (Ks (Ks (Ks (Ks (Ks (Ks (Ks (Ks (Ks (Ks (Ks (Ks (Ks (Ks (Ks (KeepAll.nil))))))))))))))))))))))))))))))))))))
 ·
  refine Gc (lr1 Ext.refl rfl rfl rfl (fun _ _ h => h) (fun r wx hR h1 => by simp [execOp, h1, go_sem])) ?_
  refine Gc (lr1 Ext.refl rfl rfl rfl (fun _ _ h => h) (fun r wx hR h1 => exg one3 rfl h1 (ev0 (e := ⟨e.sz, e.th, e.sz - 1⟩) ((HBx hR).at 1 rfl)))) ?_
  refine Gc (lr1 Ext.refl rfl rfl rfl (fun _ _ h => h) (fun r wx hR h1 => by simp [execOp, h1, go_sem])) ?_
  refine Gc (lr1 Ext.refl rfl rfl rfl (fun _ _ h => h) (fun r wx hR h1 => exg one3 rfl h1 (ev0 (e := ⟨e.sz, e.th, 0⟩) ((HBx hR).at 2 rfl)))) ?_
  refine Gc (lr2 Ext.refl rfl rfl rfl (fun _ _ h => h) (fun _ _ h => h) (fun r wx hR h1 h2 => by simp [execOp, h1, h2, go_sem])) ?_
  refine Gc (lr1 Ext.refl rfl rfl rfl (fun _ _ h => h) (fun r wx hR h1 => exec_mv (.inl rfl) h1)) ?_
  refine Gc ?_ ?_
  ·
   rintro r wx hR ⟨h1, _⟩
   replace h1 : r (.tmp 4) = (.pointer (some ⟨wY.heap.size, 0, none⟩)) := h1
   intro gb hgb
   refine guard_in (b := gb) (want := true) hgb ?_
   exact gvo (by simp [execOp, h1, go_sem]) ⟨Ext.refl _, rfl⟩
  refine Gc ?_ ?_
  ·
   rintro r wx hR ⟨h1, _⟩
   replace h1 : r (.tmp 40) = (.pointer (some ⟨wY.heap.size, 2, none⟩)) := h1
   intro gb hgb
   refine guard_in (b := gb) (want := true) hgb ?_
   exact gvo (exg one3 rfl h1 (ev2 (e := ⟨e.sz, e.th, e.sz - 1⟩) ((HBx hR).at 1 rfl))) ⟨Ext.refl _, rfl⟩
  refine Gc ?_ ?_
  ·
   rintro r wx hR ⟨h1, _⟩
   replace h1 : r (.tmp 3) = (.pointer (some ⟨w2.heap.size, 0, none⟩)) := h1
   intro gb hgb
   refine guard_in (b := gb) (want := true) hgb ?_
   exact gvo (by simp [execOp, h1, go_sem]) ⟨Ext.refl _, rfl⟩
  refine Gc ?_ ?_
  ·
   rintro r wx hR ⟨h1, _⟩
   replace h1 : r (.tmp 42) = (.pointer (some ⟨w2.heap.size, 0, none⟩)) := h1
   intro gb hgb
   refine guard_in (b := gb) (want := true) hgb ?_
   exact gvo (exg one3 rfl h1 (ev0 (e := ⟨e.sz, e.th, 0⟩) ((HBx hR).at 2 rfl))) ⟨Ext.refl _, rfl⟩
  refine Gc ?_ ?_
  ·
   rintro r wx hR ⟨h1, h2, _⟩
   replace h1 : r (.tmp 43) = (.int .i64 (e.sz)) := h1
   replace h2 : r (.const (.int .i64 1)) = .int .i64 1 := h2
   intro gb hgb
   refine guard_in (b := gb) (want := true) hgb ?_
   exact gvo (by simp [execOp, h1, h2, go_sem, s1]) ⟨Ext.refl _, rfl⟩
  refine Gc ?_ ?_
  ·
   rintro r wx hR ⟨h1, h2, _⟩
   replace h1 : r (.tmp 41) = (.int .i64 (e.sz - 1)) := h1
   replace h2 : r (.tmp 44) = (.int .i64 (e.sz - 1)) := h2
   intro gb hgb
   refine guard_in (b := gb) (want := true) hgb ?_
   exact gvo (by simp [execOp, h1, h2, go_sem]) ⟨Ext.refl _, rfl⟩
  refine Gc ?_ ?_
  ·
   rintro r wx hR ⟨h1, h2, h3, _⟩
   replace h1 : r (.tmp 39) = (.bool true) := h1
   replace h2 : r (.tmp 45) = (.bool true) := h2
   replace h3 : r (.const (.bool false)) = .bool false := h3
   exact give_pick rfl h1 ⟨Ext.refl _, h2⟩
  refine Gc (lr1 Ext.refl rfl rfl rfl (fun _ _ h => h) (fun r wx hR h1 => exec_mv (.inl rfl) h1)) ?_
  refine Gc ?_ ?_
  ·
   rintro r wx hR ⟨h1, _⟩
   replace h1 : r (.tmp 5) = (.pointer (some ⟨wZ.heap.size, 0, none⟩)) := h1
   intro gb hgb
   refine guard_in (b := gb) (want := true) hgb ?_
   exact gvo (by simp [execOp, h1, go_sem]) ⟨Ext.refl _, rfl⟩
  refine Gc ?_ ?_
  ·
   rintro r wx hR ⟨h1, _⟩
   replace h1 : r (.tmp 48) = (.pointer (some ⟨wZ.heap.size, 0, none⟩)) := h1
   intro gb hgb
   refine guard_in (b := gb) (want := true) hgb ?_
   exact gvo (exg one3 rfl h1 (ev0 (e := ⟨e.sz + 128, e.th, 0⟩) ((HBx hR).at 0 rfl))) ⟨Ext.refl _, rfl⟩
  refine Gc ?_ ?_
  ·
   rintro r wx hR ⟨h1, _⟩
   replace h1 : r (.tmp 3) = (.pointer (some ⟨w2.heap.size, 0, none⟩)) := h1
   intro gb hgb
   refine guard_in (b := gb) (want := true) hgb ?_
   exact gvo (by simp [execOp, h1, go_sem]) ⟨Ext.refl _, rfl⟩
  refine Gc ?_ ?_
  ·
   rintro r wx hR ⟨h1, _⟩
   replace h1 : r (.tmp 50) = (.pointer (some ⟨w2.heap.size, 0, none⟩)) := h1
   intro gb hgb
   refine guard_in (b := gb) (want := true) hgb ?_
   exact gvo (exg one3 rfl h1 (ev0 (e := ⟨e.sz, e.th, 0⟩) ((HBx hR).at 2 rfl))) ⟨Ext.refl _, rfl⟩
  refine Gc ?_ ?_
  ·
   rintro r wx hR ⟨h1, h2, _⟩
   replace h1 : r (.tmp 51) = (.int .i64 (e.sz)) := h1
   replace h2 : r (.const (.int .i64 128)) = .int .i64 128 := h2
   intro gb hgb
   refine guard_in (b := gb) (want := true) hgb ?_
   exact gvo (by simp [execOp, h1, h2, go_sem, s3]) ⟨Ext.refl _, rfl⟩
  refine Gc ?_ ?_
  ·
   rintro r wx hR ⟨h1, h2, _⟩
   replace h1 : r (.tmp 49) = (.int .i64 (e.sz + 128)) := h1
   replace h2 : r (.tmp 52) = (.int .i64 (e.sz + 128)) := h2
   intro gb hgb
   refine guard_in (b := gb) (want := true) hgb ?_
   exact gvo (by simp [execOp, h1, h2, go_sem]) ⟨Ext.refl _, rfl⟩
  refine Gc ?_ ?_
  ·
   rintro r wx hR ⟨h1, h2, h3, _⟩
   replace h1 : r (.tmp 47) = (.bool true) := h1
   replace h2 : r (.tmp 53) = (.bool true) := h2
   replace h3 : r (.const (.bool false)) = .bool false := h3
   exact give_pick rfl h1 ⟨Ext.refl _, h2⟩
  refine Gc (lr1 Ext.refl rfl rfl rfl (fun _ _ h => h) (fun r wx hR h1 => exec_mv (.inl rfl) h1)) ?_
  refine Gc ?_ ?_
  ·
   rintro r wx hR ⟨h1, _⟩
   replace h1 : r (.tmp 5) = (.pointer (some ⟨wZ.heap.size, 0, none⟩)) := h1
   intro gb hgb
   refine guard_in (b := gb) (want := true) hgb ?_
   exact gvo (by simp [execOp, h1, go_sem]) ⟨Ext.refl _, rfl⟩
  refine Gc ?_ ?_
  ·
   rintro r wx hR ⟨h1, _⟩
   replace h1 : r (.tmp 56) = (.pointer (some ⟨wZ.heap.size, 2, none⟩)) := h1
   intro gb hgb
   refine guard_in (b := gb) (want := true) hgb ?_
   exact gvo (exg one3 rfl h1 (ev2 (e := ⟨e.sz + 128, e.th, 0⟩) ((HBx hR).at 0 rfl))) ⟨Ext.refl _, rfl⟩
  refine Gc ?_ ?_
  ·
   rintro r wx hR ⟨h1, h2, _⟩
   replace h1 : r (.tmp 57) = (.int .i64 (0)) := h1
   replace h2 : r (.const (.int .i64 0)) = .int .i64 0 := h2
   intro gb hgb
   refine guard_in (b := gb) (want := true) hgb ?_
   exact gvo (by simp [execOp, h1, h2, go_sem]) ⟨Ext.refl _, rfl⟩
  refine Gc ?_ ?_
  ·
   rintro r wx hR ⟨h1, h2, h3, _⟩
   replace h1 : r (.tmp 55) = (.bool true) := h1
   replace h2 : r (.tmp 58) = (.bool true) := h2
   replace h3 : r (.const (.bool false)) = .bool false := h3
   exact give_pick rfl h1 ⟨Ext.refl _, h2⟩
  refine Gc (lr1 Ext.refl rfl rfl rfl (fun _ _ h => h) (fun r wx hR h1 => exec_mv (.inl rfl) h1)) ?_
  refine Gc ?_ ?_
  ·
   rintro r wx hR ⟨h1, _⟩
   replace h1 : r (.tmp 3) = (.pointer (some ⟨w2.heap.size, 0, none⟩)) := h1
   intro gb hgb
   refine guard_in (b := gb) (want := true) hgb ?_
   exact gvo (exec_loadW rowE rfl h1 ((HBx hR).at 2 rfl) rfl) ⟨Ext.refl _, rfl⟩
  refine Gc ?_ ?_
  ·
   rintro r wx hR ⟨h1, _⟩
   replace h1 : r (.tmp 3) = (.pointer (some ⟨w2.heap.size, 0, none⟩)) := h1
   intro gb hgb
   refine guard_in (b := gb) (want := true) hgb ?_
   exact gvo (by simp [execOp, h1, go_sem]) ⟨Ext.refl _, rfl⟩
  refine Gc ?_ ?_
  ·
   rintro r wx hR ⟨h1, _⟩
   replace h1 : r (.tmp 62) = (.pointer (some ⟨w2.heap.size, 0, none⟩)) := h1
   intro gb hgb
   refine guard_in (b := gb) (want := true) hgb ?_
   exact gvo (exg one3 rfl h1 (ev0 (e := ⟨e.sz, e.th, 0⟩) ((HBx hR).at 2 rfl))) ⟨Ext.refl _, rfl⟩
  refine Gc ?_ ?_
  ·
   rintro r wx hR ⟨h1, h2, _⟩
   replace h1 : r (.tmp 63) = (.int .i64 (e.sz)) := h1
   replace h2 : r (.const (.int .i64 1)) = .int .i64 1 := h2
   intro gb hgb
   refine guard_in (b := gb) (want := true) hgb ?_
   exact gvo (by simp [execOp, h1, h2, go_sem, s1]) ⟨Ext.refl _, rfl⟩
  refine Gc ?_ ?_
  ·
   rintro r wx hR ⟨h1, h2, h3, h4, _⟩
   replace h1 : r (.func 14) = .func (.func 14) #[] #[] := h1
   replace h2 : r (.tmp 61) = (.agg (EV ⟨e.sz, e.th, 0⟩)) := h2
   replace h3 : r (.const (.int .i64 5)) = .int .i64 5 := h3
   replace h4 : r (.tmp 64) = (.int .i64 (e.sz - 1)) := h4
   intro gb hgb
   refine guard_in (b := gb) (want := true) hgb ?_
   refine give_func #[.agg (EV ⟨e.sz, e.th, 0⟩), .int .i64 5, .int .i64 (e.sz - 1)] rfl h1 Try.call14 (by simp [h2, h3, h4]) ?_
   refine (acked_any ⟨e.sz, e.th, 0⟩ 5 (e.sz - 1) _).mono ?_
   rintro x w' ⟨rfl, he⟩
   exact ⟨_, rfl, he, by rw [K3.out]; rfl⟩
  refine Gc ?_ ?_
  ·
   rintro r wx hR ⟨h1, _⟩
   replace h1 : r (.tmp 3) = (.pointer (some ⟨w2.heap.size, 0, none⟩)) := h1
   intro gb hgb
   refine guard_in (b := gb) (want := true) hgb ?_
   exact gvo (exec_loadW rowE rfl h1 ((HBx hR).at 2 rfl) rfl) ⟨Ext.refl _, rfl⟩
  refine Gc ?_ ?_
  ·
   rintro r wx hR ⟨h1, h2, _⟩
   replace h1 : r (.tmp 65) = (.agg (EV ⟨e.sz, e.th, 0⟩)) := h1
   replace h2 : r (.tmp 66) = (.agg (EV ⟨e.sz, e.th, 0⟩)) := h2
   intro gb hgb
   refine guard_in (b := gb) (want := true) hgb ?_
   exact gvo (exec_eqlS (a := ⟨e.sz, e.th, 0⟩) (b := ⟨e.sz, e.th, 0⟩) weE rfl h1 h2) ⟨Ext.refl _, by rw [sameE_self]; rfl⟩
  refine Gc ?_ ?_
  ·
   rintro r wx hR ⟨h1, h2, h3, _⟩
   replace h1 : r (.tmp 60) = (.bool true) := h1
   replace h2 : r (.tmp 67) = (.bool true) := h2
   replace h3 : r (.const (.bool false)) = .bool false := h3
   exact give_pick rfl h1 ⟨Ext.refl _, h2⟩
  refine Gc (lr1 Ext.refl rfl rfl rfl (fun _ _ h => h) (fun r wx hR h1 => exec_mv (.inr rfl) h1)) ?_
  exact GoodAll.nil
 ·
  intro vs wE aE hR hold haE
  have hv : vs 35 = .bool true := hold.at 35
  refine ‹∀ (a : Act) (w : World), Code.wp Try.prog Code.ret _ a w → _› _ _ ?_
  refine wp_ret ?_
  have hs : aE.tmps[2]? = some (.bool true) := by rw [haE, ← hv]; kernel_rfl
  have hdf : aE.defers = [] := by rw [haE]; exact putAll_defers _ _ _ _
  clear haE
  try unfold Exit.then
  try unfold Exit.inBlock
  try dsimp only
  refine bodyPost_ret (v := .bool true) ?_ hdf ⟨rfl, (HBx hR).1⟩
  simp [results, Try.results4, go_sem, hs]
theorem grows_walk (e : E) (w : World) : Calls Try.prog 4 #[.agg (EV e)] w fun x w' => x = .returned (.bool true) ∧ Ext w w' := by
 cases hg : goodB e with
 | false => exact grows_0 hg w
 | true =>
  by_cases hs : e.sz ≤ e.th
  ·
   exact grows_1 hg hs w
  ·
   by_cases hb : e.sz > 8064
   ·
    exact grows_2 hg hs hb w
   ·
    exact grows_3 hg hs hb w
end Cw
end Go.Proofs.Ytkfohggdaooieaa
/- An argument that is a slice of numbers, opened. No condition of its own. -/
namespace Go.Proofs.Ytkfohggdaooieaa
open Go.RowKit Go.ChangeShapes
end Go.Proofs.Ytkfohggdaooieaa
namespace Go.Proofs.Ytkfohggdaooieaa
open Go.ChangeShapes Go.WideShapes Go.ChangeAt Go.RowKit
open Go.ChangeMaps (open_string shut_string)
theorem cwndGrowsOwn : ownKnob Try.prog.godebug = none := by kernel_rfl
theorem cwndGrowsLaidOut : laidOutB Try.prog = true := by kernel_rfl
set_option maxRecDepth 100000 in
theorem cwndGrowsLifted (os : Os) (started : os.Started) (H : Type) (enc : TypeId × Value → H) :
  ReturnsInHanded {} Try.checked os 4 .any (Rows.cwndGrowsSpec.pre6 enc Try.prog Try.f4 Rows.cwndGrowsRow.domain false) (Rows.cwndGrowsSpec.post enc Try.prog Try.f4 false true false false) := by
 refine returnsInHanded_of_change (C := Try.checked) cwndGrowsOwn started (by kernel_rfl) Try.func4
  (ChangeSpec.witness6 (enc := enc) (C := Try.checked) false ⟨#[], #[.agg #[.int .i64 0, .int .i64 0, .int .i64 0]], []⟩ 8 (by kernel_rfl) (by kernel_rfl) (by kernel_rfl) (by kernel_rfl)) ?_
 intro W base args ds gs before hval0 hW hcnd _
 have hval : ∀ (j : Nat) t v, Try.f4.params[j]? = some t → args[j]? = some v → Value.okWide Try.prog W .any base t v := hval0
 have hW' := hW
 obtain ⟨p, q, hA0, hV, rfl, hfz, hnd⟩ := hW
 have hA : DataW.TrodAll enc Try.prog W 0 (fun _ => true) true Try.f4.params.toList args.toList ds p := hA0
 rw [Try.params4] at hA hval
 obtain ⟨v0, vs0, d0, ds0, p0, q0, hargs, rfl, rfl, h0, r0⟩ := trodAll_cons hA
 obtain ⟨rfl, rfl, rfl⟩ := trodAll_nil r0
 obtain rfl : args = #[v0] := by cases args; simp_all
 obtain ⟨rfl, rfl⟩ := trodVars_none hV
 have k0 := h0
 have lt0 : ∀ x ∈ p0, x.block < W.heap.size := by obtain ⟨m, hm⟩ := k0; exact DataW.trod_lt m _ _ _ hm
 obtain ⟨x0, x1, x2, y0, y1, y2, fu0, rfl, hd0, hp0, t0, t1, t2⟩ := Go.Joins.open_agg3 Try.underlying23 (by kernel_rfl) (by kernel_rfl) (hval 0 23 v0 rfl rfl) h0
 obtain ⟨f0, e0, _, wf0⟩ := DataW.trod_int Try.underlying3 t0
 obtain ⟨f1, e1, _, wf1⟩ := DataW.trod_int Try.underlying3 t1
 obtain ⟨f2, e2, _, wf2⟩ := DataW.trod_int Try.underlying3 t2
 simp only [List.cons.injEq, and_true] at e0 e1 e2
 subst e0 e1 e2
 clear hA0 hval0
 refine (Cw.grows_walk ⟨f0, f1, f2⟩ W).mono fun e W' ⟨he, bel⟩ => ?_
 subst he
 exact ⟨_, rfl, _, _, _, [], _, [], hW', trodAll_mk1 (shut_bool Try.underlying4 _), (trodAll_cons_mk (Below.trod cwndGrowsLaidOut (by kernel_rfl) (of_decide_eq_true (by kernel_rfl)) k0 bel lt0) (trodAll_mk0)), rfl, bel.frame _, fun h => by cases h⟩
theorem cwndGrowsOver : Rows.cwndGrowsRow.holds Try.pinned (OpenSpec.ofChange Rows.cwndGrowsSpec) :=
 OpenClaim.holds_of_wide 4 Try.f4 rfl rfl rfl rfl rfl rfl rfl ⟨rfl, rfl, rfl, rfl, rfl⟩ rfl rfl rfl rfl rfl (by kernel_rfl) Try.func4 (by kernel_rfl)
  (of_decide_eq_true (by kernel_rfl)) (by unfold Func.isWrapper; first | (rw [if_pos (by decide +kernel)]; kernel_rfl) | (rw [if_neg (by decide +kernel)]; exact ⟨rfl, rfl⟩))
  (fun os started H enc _ => cwndGrowsLifted os started H enc)
/-- THE STATEMENT. -/
theorem cwndGrows_holds : Rows.CwndGrowsSaid := cwndGrowsOver
#print axioms cwndGrows_holds
end Go.Proofs.Ytkfohggdaooieaa
