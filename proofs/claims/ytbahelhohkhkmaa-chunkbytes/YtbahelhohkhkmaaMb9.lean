/- Texts of the seat, one behind the other. No condition of its own. -/
import Derived.Test.YtbahelhohkhkmaaMb8
import Derived.Laws.ResultCell
set_option linter.unusedVariables false
set_option linter.unusedSimpArgs false
/- The bytes of a chunk, by the program. No condition of its own. -/
namespace Go.Proofs.Ytbahelhohkhkmaa
namespace Tlv
open Go Go.RowKit
set_option maxRecDepth 100000
def ValueIs (w : World) (c : Ck) (e : Ending) (w' : World) : Prop := ∃ a n cp, e = .returned (.slice a n cp) ∧ n = (valB c).length ∧ OB w' w.heap.size (.slice a n cp) (valB c) ∧ Ext w w'
set_option maxHeartbeats 8000000 in
theorem value_0 {w : World} {c : Ck} {s : Sv} (ha : CkAt w s c) (hf : Fit c) (hg : GoodC c) (hk : c.kind = 0) :
  Calls Try.prog 26 #[.agg (CV c s)] w (ValueIs w c) := by
 have HB : Hid ((valB c).length ≤ 600) := valB_len hg
 have hw := good_0 hg hk
 have HB2 : Hid (c.text.length ≤ 64) := hw.2
 clear hw
 have w1_ : IntKind.u64.wrap (c.ptsn : Int) = (c.ptsn : Int) := by rw [IntKind.wrap_u64]; have := hf.ptsn; omega
 have w2_ : IntKind.u64.wrap (c.pstr : Int) = (c.pstr : Int) := by rw [IntKind.wrap_u64]; have := hf.pstr; omega
 have w3_ : IntKind.u64.wrap (c.pseq : Int) = (c.pseq : Int) := by rw [IntKind.wrap_u64]; have := hf.pseq; omega
 have HV : Hid (valB c = ((be c.ptsn 4 ++ be c.pstr 2) ++ be c.pseq 2) ++ c.text) := show _ = _ by simp [valB, hk]
 go_enter Try.func26, Try.ntmps26
 go_wp2_with (first
  | (have q := st6; clear q; go_at_call 31; refine (ocBytes st6 (by have := HB.out; have := HV.out; rw [← this]; omega)).mono ?_; rintro e wz ⟨az, nz, cz, rfl, hnz, hoz, hez⟩; have HZ : Hid (nz = (valB c).length) := hnz.trans (congrArg List.length HV.out.symm); clear hnz; rw [← HV.out] at hoz)
  | (have q := st5; clear q; go_at_call 29; refine (ocPut st5 ((HC.t).ext st5.out) (by have := HB2.out; (try simp only [List.length_append, be_len, List.length_nil]); omega)).mono ?_; rintro e w6 ⟨⟨y6, rfl⟩, st6, kk6⟩; clear kk6)
  | (have q := st4; clear q; go_at_call 27; refine (ocNum st4 c.pseq 2 (by (try simp only [List.length_append, be_len, List.length_nil]); omega)).mono ?_; rintro e w5 ⟨⟨y5, rfl⟩, st5, kk5⟩; clear kk5; rw [numB2] at st5; have d7_5 := cv7 (hb1.ext st5.out))
  | (have q := st3; clear q; go_at_call 27; refine (ocNum st3 c.pstr 2 (by (try simp only [List.length_append, be_len, List.length_nil]); omega)).mono ?_; rintro e w4 ⟨⟨y4, rfl⟩, st4, kk4⟩; clear kk4; rw [numB2] at st4; have d3_4 := cv3 (hb1.ext st4.out))
  | (have q := st2; clear q; go_at_call 27; refine (ocNum st2 c.ptsn 4 (by (try simp only [List.length_append, be_len, List.length_nil]); omega)).mono ?_; rintro e w3 ⟨⟨y3, rfl⟩, st3, kk3⟩; clear kk3; rw [numB4, List.nil_append] at st3; have d2_3 := cv2 (hb1.ext st3.out))
  | (refine wl_alloc rfl rfl zeroO ?_; intro w2 hb2 he2 hx; clear hx; have st2 := OC.new hb2 he2; have d0_2 := cv0 (hb1.ext st2.out); clear hb2; have d1_2 := cv1 (hb1.ext st2.out))
  | (refine wl_box (C := CV c s) rfl rfl rfl ?_; intro w1 hb1 he1 hx; clear hx; have HC := ha.ext he1))
 go_ret
 exact ⟨_, _, _, rfl, HZ.out, hoz.base he1.size, (he1.trans st6.out).trans hez⟩
set_option maxHeartbeats 8000000 in
theorem value_1 {w : World} {c : Ck} {s : Sv} (ha : CkAt w s c) (hf : Fit c) (hg : GoodC c) (hk : c.kind = 1) :
  Calls Try.prog 26 #[.agg (CV c s)] w (ValueIs w c) := by
 have HB : Hid ((valB c).length ≤ 600) := valB_len hg
 have HS : Hid (StartC c ∧ c.info.length ≤ 300) := ⟨good_1 hg hk, (by have := hg.use; rw [usedC_1 hk] at this; rw [this]; simp [ck0])⟩
 have HV : Hid (valB c = startV c) := show _ = _ by simp [valB, hk]
 go_enter Try.func26, Try.ntmps26
 go_wp2_with (first
  | (have q := st3; clear q; go_at_call 31; refine (ocBytes st3 (by have := HB.out; have := HV.out; rw [← this]; omega)).mono ?_; rintro e wz ⟨az, nz, cz, rfl, hnz, hoz, hez⟩; have HZ : Hid (nz = (valB c).length) := hnz.trans (congrArg List.length HV.out.symm); clear hnz; rw [← HV.out] at hoz)
  | (have q := st2; clear q; go_at_call 61; refine (putStart_any st2 HC hf (by simp) HS.out.1.win (by have := HS.out.1.out; omega) (by have := HS.out.1.inn; omega) HS.out.1.rand.2 HS.out.1.addrs.2 HS.out.1.ads HS.out.2).mono ?_; rintro e w3 ⟨⟨y3, rfl⟩, st3, kk3⟩; clear kk3; rw [List.nil_append] at st3)
  | (have q := st2; clear q; refine wl_load rfl rowC rfl rfl (hb1.ext st2.out) rfl ?_)
  | (refine wl_alloc rfl rfl zeroO ?_; intro w2 hb2 he2 hx; clear hx; have st2 := OC.new hb2 he2; have d0_2 := cv0 (hb1.ext st2.out); clear hb2; have d0_2 := cv0 (hb1.ext st2.out))
  | (refine wl_box (C := CV c s) rfl rfl rfl ?_; intro w1 hb1 he1 hx; clear hx; have HC := ha.ext he1))
 go_ret
 exact ⟨_, _, _, rfl, HZ.out, hoz.base he1.size, (he1.trans st3.out).trans hez⟩
set_option maxHeartbeats 8000000 in
theorem value_2 {w : World} {c : Ck} {s : Sv} (ha : CkAt w s c) (hf : Fit c) (hg : GoodC c) (hk : c.kind = 2) :
  Calls Try.prog 26 #[.agg (CV c s)] w (ValueIs w c) := by
 have HB : Hid ((valB c).length ≤ 600) := valB_len hg
 have HS : Hid (StartC c ∧ c.info.length ≤ 300) := ⟨(good_2 hg hk).1, (good_2 hg hk).2.2⟩
 have HV : Hid (valB c = startV c) := show _ = _ by simp [valB, hk]
 go_enter Try.func26, Try.ntmps26
 go_wp2_with (first
  | (have q := st3; clear q; go_at_call 31; refine (ocBytes st3 (by have := HB.out; have := HV.out; rw [← this]; omega)).mono ?_; rintro e wz ⟨az, nz, cz, rfl, hnz, hoz, hez⟩; have HZ : Hid (nz = (valB c).length) := hnz.trans (congrArg List.length HV.out.symm); clear hnz; rw [← HV.out] at hoz)
  | (have q := st2; clear q; go_at_call 61; refine (putStart_any st2 HC hf (by simp) HS.out.1.win (by have := HS.out.1.out; omega) (by have := HS.out.1.inn; omega) HS.out.1.rand.2 HS.out.1.addrs.2 HS.out.1.ads HS.out.2).mono ?_; rintro e w3 ⟨⟨y3, rfl⟩, st3, kk3⟩; clear kk3; rw [List.nil_append] at st3)
  | (have q := st2; clear q; refine wl_load rfl rowC rfl rfl (hb1.ext st2.out) rfl ?_)
  | (refine wl_alloc rfl rfl zeroO ?_; intro w2 hb2 he2 hx; clear hx; have st2 := OC.new hb2 he2; have d0_2 := cv0 (hb1.ext st2.out); clear hb2; have d0_2 := cv0 (hb1.ext st2.out))
  | (refine wl_box (C := CV c s) rfl rfl rfl ?_; intro w1 hb1 he1 hx; clear hx; have HC := ha.ext he1))
 go_ret
 exact ⟨_, _, _, rfl, HZ.out, hoz.base he1.size, (he1.trans st3.out).trans hez⟩
set_option maxHeartbeats 8000000 in
theorem value_3 {w : World} {c : Ck} {s : Sv} (ha : CkAt w s c) (hf : Fit c) (hg : GoodC c) (hk : c.kind = 3) :
  Calls Try.prog 26 #[.agg (CV c s)] w (ValueIs w c) := by
 have HB : Hid ((valB c).length ≤ 600) := valB_len hg
 have HS : Hid ((0 ≤ c.win ∧ c.win ≤ 2147483647) ∧ gapsB (-1) c.gaps = true ∧ c.gaps.length ≤ 16 ∧ c.dups.length ≤ 16) := good_3 hg hk
 have HV : Hid (valB c = sackV c) := show _ = _ by simp [valB, hk]
 go_enter Try.func26, Try.ntmps26
 go_wp2_with (first
  | (have q := st3; clear q; go_at_call 31; refine (ocBytes st3 (by have := HB.out; have := HV.out; rw [← this]; omega)).mono ?_; rintro e wz ⟨az, nz, cz, rfl, hnz, hoz, hez⟩; have HZ : Hid (nz = (valB c).length) := hnz.trans (congrArg List.length HV.out.symm); clear hnz; rw [← HV.out] at hoz)
  | (have q := st2; clear q; go_at_call 62; refine (putSack_any st2 HC hf (by simp) HS.out.1 HS.out.2.2.1 HS.out.2.1 HS.out.2.2.2).mono ?_; rintro e w3 ⟨⟨y3, rfl⟩, st3, kk3⟩; clear kk3; rw [List.nil_append] at st3)
  | (have q := st2; clear q; refine wl_load rfl rowC rfl rfl (hb1.ext st2.out) rfl ?_)
  | (refine wl_alloc rfl rfl zeroO ?_; intro w2 hb2 he2 hx; clear hx; have st2 := OC.new hb2 he2; have d0_2 := cv0 (hb1.ext st2.out); clear hb2; have d0_2 := cv0 (hb1.ext st2.out))
  | (refine wl_box (C := CV c s) rfl rfl rfl ?_; intro w1 hb1 he1 hx; clear hx; have HC := ha.ext he1))
 go_ret
 exact ⟨_, _, _, rfl, HZ.out, hoz.base he1.size, (he1.trans st3.out).trans hez⟩
set_option maxHeartbeats 8000000 in
theorem value_4 {w : World} {c : Ck} {s : Sv} (ha : CkAt w s c) (hf : Fit c) (hg : GoodC c) (hk : c.kind = 4) :
  Calls Try.prog 26 #[.agg (CV c s)] w (ValueIs w c) := by
 have HB : Hid ((valB c).length ≤ 600) := valB_len hg
 have HS : Hid (1 ≤ c.info.length ∧ c.info.length ≤ 300) := good_info hg (by simp [hk])
 have HV : Hid (valB c = parB (1, c.info)) := show _ = _ by simp [valB, hk]
 go_enter Try.func26, Try.ntmps26
 go_wp2_with (first
  | (have q := st3; clear q; go_at_call 31; refine (ocBytes st3 (by have := HB.out; have := HV.out; rw [← this]; omega)).mono ?_; rintro e wz ⟨az, nz, cz, rfl, hnz, hoz, hez⟩; have HZ : Hid (nz = (valB c).length) := hnz.trans (congrArg List.length HV.out.symm); clear hnz; rw [← HV.out] at hoz)
  | (have q := st2; clear q; go_at_call 63; refine (putParam_any st2 1 (by decide) (HC.i.ext st2.out) (by have := HS.out.2; omega) (by simp)).mono ?_; rintro e w3 ⟨⟨y3, rfl⟩, st3, kk3⟩; clear kk3; rw [List.nil_append] at st3)
  | (refine wl_alloc rfl rfl zeroO ?_; intro w2 hb2 he2 hx; clear hx; have st2 := OC.new hb2 he2; have d0_2 := cv0 (hb1.ext st2.out); clear hb2; have d15_2 := cv15 (hb1.ext st2.out))
  | (refine wl_box (C := CV c s) rfl rfl rfl ?_; intro w1 hb1 he1 hx; clear hx; have HC := ha.ext he1))
 go_ret
 exact ⟨_, _, _, rfl, HZ.out, hoz.base he1.size, (he1.trans st3.out).trans hez⟩
set_option maxHeartbeats 8000000 in
theorem value_5 {w : World} {c : Ck} {s : Sv} (ha : CkAt w s c) (hf : Fit c) (hg : GoodC c) (hk : c.kind = 5) :
  Calls Try.prog 26 #[.agg (CV c s)] w (ValueIs w c) := by
 have HB : Hid ((valB c).length ≤ 600) := valB_len hg
 have HS : Hid (1 ≤ c.info.length ∧ c.info.length ≤ 300) := good_info hg (by simp [hk])
 have HV : Hid (valB c = parB (1, c.info)) := show _ = _ by simp [valB, hk]
 go_enter Try.func26, Try.ntmps26
 go_wp2_with (first
  | (have q := st3; clear q; go_at_call 31; refine (ocBytes st3 (by have := HB.out; have := HV.out; rw [← this]; omega)).mono ?_; rintro e wz ⟨az, nz, cz, rfl, hnz, hoz, hez⟩; have HZ : Hid (nz = (valB c).length) := hnz.trans (congrArg List.length HV.out.symm); clear hnz; rw [← HV.out] at hoz)
  | (have q := st2; clear q; go_at_call 63; refine (putParam_any st2 1 (by decide) (HC.i.ext st2.out) (by have := HS.out.2; omega) (by simp)).mono ?_; rintro e w3 ⟨⟨y3, rfl⟩, st3, kk3⟩; clear kk3; rw [List.nil_append] at st3)
  | (refine wl_alloc rfl rfl zeroO ?_; intro w2 hb2 he2 hx; clear hx; have st2 := OC.new hb2 he2; have d0_2 := cv0 (hb1.ext st2.out); clear hb2; have d15_2 := cv15 (hb1.ext st2.out))
  | (refine wl_box (C := CV c s) rfl rfl rfl ?_; intro w1 hb1 he1 hx; clear hx; have HC := ha.ext he1))
 go_ret
 exact ⟨_, _, _, rfl, HZ.out, hoz.base he1.size, (he1.trans st3.out).trans hez⟩
set_option maxHeartbeats 8000000 in
theorem value_6 {w : World} {c : Ck} {s : Sv} (ha : CkAt w s c) (hf : Fit c) (hg : GoodC c) (hk : c.kind = 6) :
  Calls Try.prog 26 #[.agg (CV c s)] w (ValueIs w c) := by
 have HB : Hid ((valB c).length ≤ 600) := valB_len hg
 obtain ⟨W, hW⟩ : ∃ W : Nat, c.cause = (W : Int) := ⟨_, (Int.toNat_of_nonneg (good_cause hg (by simp [hk])).1).symm⟩
 have hW2 : W < 65536 := by have := good_cause hg (by simp [hk]); omega
 have w1_ : IntKind.u64.wrap (W : Int) = (W : Int) := by rw [IntKind.wrap_u64]; have := hW2; omega
 have HV : Hid (valB c = be W 2 ++ be 4 2) := show _ = _ by simp [valB, hk, hW]
 go_enter Try.func26, Try.ntmps26
 go_wp2_with (first
  | (have q := st4; clear q; go_at_call 31; refine (ocBytes st4 (by have := HB.out; have := HV.out; rw [← this]; omega)).mono ?_; rintro e wz ⟨az, nz, cz, rfl, hnz, hoz, hez⟩; have HZ : Hid (nz = (valB c).length) := hnz.trans (congrArg List.length HV.out.symm); clear hnz; rw [← HV.out] at hoz)
  | (have q := st3; clear q; go_at_call 27; refine (ocNum st3 4 2 (by (try simp only [List.length_append, be_len, List.length_nil]); omega)).mono ?_; rintro e w4 ⟨⟨y4, rfl⟩, st4, kk4⟩; clear kk4; rw [numB2] at st4)
  | (have q := st2; clear q; go_at_call 27; refine (ocNum st2 W 2 (by (try simp only [List.length_append, be_len, List.length_nil]); omega)).mono ?_; rintro e w3 ⟨⟨y3, rfl⟩, st3, kk3⟩; clear kk3; rw [numB2, List.nil_append] at st3; have d0_3 := cv0 (hb1.ext st3.out))
  | (refine wl_alloc rfl rfl zeroO ?_; intro w2 hb2 he2 hx; clear hx; have st2 := OC.new hb2 he2; have d0_2 := cv0 (hb1.ext st2.out); clear hb2; have d18_2 := cv18 (hb1.ext st2.out))
  | (refine wl_box (C := CV c s) rfl rfl rfl ?_; intro w1 hb1 he1 hx; clear hx; have HC := ha.ext he1))
 go_ret
 exact ⟨_, _, _, rfl, HZ.out, hoz.base he1.size, (he1.trans st4.out).trans hez⟩
set_option maxHeartbeats 8000000 in
theorem value_9 {w : World} {c : Ck} {s : Sv} (ha : CkAt w s c) (hf : Fit c) (hg : GoodC c) (hk : c.kind = 9) :
  Calls Try.prog 26 #[.agg (CV c s)] w (ValueIs w c) := by
 have HB : Hid ((valB c).length ≤ 600) := valB_len hg
 obtain ⟨W, hW⟩ : ∃ W : Nat, c.cause = (W : Int) := ⟨_, (Int.toNat_of_nonneg (good_cause hg (by simp [hk])).1).symm⟩
 have hW2 : W < 65536 := by have := good_cause hg (by simp [hk]); omega
 have w1_ : IntKind.u64.wrap (W : Int) = (W : Int) := by rw [IntKind.wrap_u64]; have := hW2; omega
 have HV : Hid (valB c = be W 2 ++ be 4 2) := show _ = _ by simp [valB, hk, hW]
 go_enter Try.func26, Try.ntmps26
 go_wp2_with (first
  | (have q := st4; clear q; go_at_call 31; refine (ocBytes st4 (by have := HB.out; have := HV.out; rw [← this]; omega)).mono ?_; rintro e wz ⟨az, nz, cz, rfl, hnz, hoz, hez⟩; have HZ : Hid (nz = (valB c).length) := hnz.trans (congrArg List.length HV.out.symm); clear hnz; rw [← HV.out] at hoz)
  | (have q := st3; clear q; go_at_call 27; refine (ocNum st3 4 2 (by (try simp only [List.length_append, be_len, List.length_nil]); omega)).mono ?_; rintro e w4 ⟨⟨y4, rfl⟩, st4, kk4⟩; clear kk4; rw [numB2] at st4)
  | (have q := st2; clear q; go_at_call 27; refine (ocNum st2 W 2 (by (try simp only [List.length_append, be_len, List.length_nil]); omega)).mono ?_; rintro e w3 ⟨⟨y3, rfl⟩, st3, kk3⟩; clear kk3; rw [numB2, List.nil_append] at st3; have d0_3 := cv0 (hb1.ext st3.out))
  | (refine wl_alloc rfl rfl zeroO ?_; intro w2 hb2 he2 hx; clear hx; have st2 := OC.new hb2 he2; have d0_2 := cv0 (hb1.ext st2.out); clear hb2; have d18_2 := cv18 (hb1.ext st2.out))
  | (refine wl_box (C := CV c s) rfl rfl rfl ?_; intro w1 hb1 he1 hx; clear hx; have HC := ha.ext he1))
 go_ret
 exact ⟨_, _, _, rfl, HZ.out, hoz.base he1.size, (he1.trans st4.out).trans hez⟩
set_option maxHeartbeats 8000000 in
theorem value_7 {w : World} {c : Ck} {s : Sv} (ha : CkAt w s c) (hf : Fit c) (hg : GoodC c) (hk : c.kind = 7) :
  Calls Try.prog 26 #[.agg (CV c s)] w (ValueIs w c) := by
 have HB : Hid ((valB c).length ≤ 600) := valB_len hg
 have w1_ : IntKind.u64.wrap (c.tsn : Int) = (c.tsn : Int) := by rw [IntKind.wrap_u64]; have := hf.tsn; omega
 have HV : Hid (valB c = be c.tsn 4) := show _ = _ by simp [valB, hk]
 go_enter Try.func26, Try.ntmps26
 go_wp2_with (first
  | (have q := st3; clear q; go_at_call 31; refine (ocBytes st3 (by have := HB.out; have := HV.out; rw [← this]; omega)).mono ?_; rintro e wz ⟨az, nz, cz, rfl, hnz, hoz, hez⟩; have HZ : Hid (nz = (valB c).length) := hnz.trans (congrArg List.length HV.out.symm); clear hnz; rw [← HV.out] at hoz)
  | (have q := st2; clear q; go_at_call 27; refine (ocNum st2 c.tsn 4 (by (try simp only [List.length_append, be_len, List.length_nil]); omega)).mono ?_; rintro e w3 ⟨⟨y3, rfl⟩, st3, kk3⟩; clear kk3; rw [numB4, List.nil_append] at st3)
  | (refine wl_alloc rfl rfl zeroO ?_; intro w2 hb2 he2 hx; clear hx; have st2 := OC.new hb2 he2; have d0_2 := cv0 (hb1.ext st2.out); clear hb2; have d12_2 := cv12 (hb1.ext st2.out))
  | (refine wl_box (C := CV c s) rfl rfl rfl ?_; intro w1 hb1 he1 hx; clear hx; have HC := ha.ext he1))
 go_ret
 exact ⟨_, _, _, rfl, HZ.out, hoz.base he1.size, (he1.trans st3.out).trans hez⟩
set_option maxHeartbeats 8000000 in
theorem value_10 {w : World} {c : Ck} {s : Sv} (ha : CkAt w s c) (hf : Fit c) (hg : GoodC c) (hk : c.kind = 10) :
  Calls Try.prog 26 #[.agg (CV c s)] w (ValueIs w c) := by
 have HB : Hid ((valB c).length ≤ 600) := valB_len hg
 have HV : Hid (valB c = c.info) := show _ = _ by simp [valB, hk]
 go_enter Try.func26, Try.ntmps26
 go_wp2_with (first
  | (have q := st3; clear q; go_at_call 31; refine (ocBytes st3 (by have := HB.out; have := HV.out; rw [← this]; omega)).mono ?_; rintro e wz ⟨az, nz, cz, rfl, hnz, hoz, hez⟩; have HZ : Hid (nz = (valB c).length) := hnz.trans (congrArg List.length HV.out.symm); clear hnz; rw [← HV.out] at hoz)
  | (have q := st2; clear q; go_at_call 29; refine (ocPut st2 ((HC.i).ext st2.out) (by have := HB.out; rw [HV.out] at this; (try simp only [List.length_nil]); omega)).mono ?_; rintro e w3 ⟨⟨y3, rfl⟩, st3, kk3⟩; clear kk3; rw [List.nil_append] at st3)
  | (refine wl_alloc rfl rfl zeroO ?_; intro w2 hb2 he2 hx; clear hx; have st2 := OC.new hb2 he2; have d0_2 := cv0 (hb1.ext st2.out); clear hb2; have d15_2 := cv15 (hb1.ext st2.out))
  | (refine wl_box (C := CV c s) rfl rfl rfl ?_; intro w1 hb1 he1 hx; clear hx; have HC := ha.ext he1))
 go_ret
 exact ⟨_, _, _, rfl, HZ.out, hoz.base he1.size, (he1.trans st3.out).trans hez⟩
set_option maxHeartbeats 8000000 in
theorem value_15 {w : World} {c : Ck} {s : Sv} (ha : CkAt w s c) (hf : Fit c) (hg : GoodC c) (hk : c.kind = 15) :
  Calls Try.prog 26 #[.agg (CV c s)] w (ValueIs w c) := by
 have HB : Hid ((valB c).length ≤ 600) := valB_len hg
 have HV : Hid (valB c = c.info) := show _ = _ by simp [valB, hk]
 go_enter Try.func26, Try.ntmps26
 go_wp2_with (first
  | (have q := st3; clear q; go_at_call 31; refine (ocBytes st3 (by have := HB.out; have := HV.out; rw [← this]; omega)).mono ?_; rintro e wz ⟨az, nz, cz, rfl, hnz, hoz, hez⟩; have HZ : Hid (nz = (valB c).length) := hnz.trans (congrArg List.length HV.out.symm); clear hnz; rw [← HV.out] at hoz)
  | (have q := st2; clear q; go_at_call 29; refine (ocPut st2 ((HC.i).ext st2.out) (by have := HB.out; rw [HV.out] at this; (try simp only [List.length_nil]); omega)).mono ?_; rintro e w3 ⟨⟨y3, rfl⟩, st3, kk3⟩; clear kk3; rw [List.nil_append] at st3)
  | (refine wl_alloc rfl rfl zeroO ?_; intro w2 hb2 he2 hx; clear hx; have st2 := OC.new hb2 he2; have d0_2 := cv0 (hb1.ext st2.out); clear hb2; have d15_2 := cv15 (hb1.ext st2.out))
  | (refine wl_box (C := CV c s) rfl rfl rfl ?_; intro w1 hb1 he1 hx; clear hx; have HC := ha.ext he1))
 go_ret
 exact ⟨_, _, _, rfl, HZ.out, hoz.base he1.size, (he1.trans st3.out).trans hez⟩
set_option maxHeartbeats 8000000 in
theorem value_193 {w : World} {c : Ck} {s : Sv} (ha : CkAt w s c) (hf : Fit c) (hg : GoodC c) (hk : c.kind = 193) :
  Calls Try.prog 26 #[.agg (CV c s)] w (ValueIs w c) := by
 have HB : Hid ((valB c).length ≤ 600) := valB_len hg
 have HS : Hid ((1 ≤ c.ops.length ∧ c.ops.length ≤ 9) ∧ opsB c.ops = true) := good_193 hg hk
 have HV : Hid (valB c = opsV c) := show _ = _ by simp [valB, hk]
 go_enter Try.func26, Try.ntmps26
 go_wp2_with (first
  | (have q := st3; clear q; go_at_call 31; refine (ocBytes st3 (by have := HB.out; have := HV.out; rw [← this]; omega)).mono ?_; rintro e wz ⟨az, nz, cz, rfl, hnz, hoz, hez⟩; have HZ : Hid (nz = (valB c).length) := hnz.trans (congrArg List.length HV.out.symm); clear hnz; rw [← HV.out] at hoz)
  | (have q := st2; clear q; go_at_call 64; refine (putOps_any st2 HC hf (by simp) HS.out.1.2 HS.out.2).mono ?_; rintro e w3 ⟨⟨y3, rfl⟩, st3, kk3⟩; clear kk3; rw [List.nil_append] at st3)
  | (have q := st2; clear q; refine wl_load rfl rowC rfl rfl (hb1.ext st2.out) rfl ?_)
  | (refine wl_alloc rfl rfl zeroO ?_; intro w2 hb2 he2 hx; clear hx; have st2 := OC.new hb2 he2; have d0_2 := cv0 (hb1.ext st2.out); clear hb2; have d0_2 := cv0 (hb1.ext st2.out))
  | (refine wl_box (C := CV c s) rfl rfl rfl ?_; intro w1 hb1 he1 hx; clear hx; have HC := ha.ext he1))
 go_ret
 exact ⟨_, _, _, rfl, HZ.out, hoz.base he1.size, (he1.trans st3.out).trans hez⟩
/-- A bool as a number. -/
def okN (b : Bool) : Nat := if b = true then 1 else 0
theorem numberOf_ok (b : Bool) (w : World) : Calls Try.prog 65 #[.bool b] w fun e w' => e = .returned (.int .u64 (okN b : Int)) ∧ Ext w w' := numberOf_any b w
set_option maxHeartbeats 8000000 in
theorem value_128 {w : World} {c : Ck} {s : Sv} (ha : CkAt w s c) (hf : Fit c) (hg : GoodC c) (hk : c.kind = 128) :
  Calls Try.prog 26 #[.agg (CV c s)] w (ValueIs w c) := by
 have HB : Hid ((valB c).length ≤ 600) := valB_len hg
 have w1_ : IntKind.u64.wrap (c.serial : Int) = (c.serial : Int) := by rw [IntKind.wrap_u64]; have := hf.serial; omega
 have HV : Hid (valB c = be c.serial 4 ++ be (okN c.ok) 4) := show _ = _ by simp [valB, hk, okN]
 go_enter Try.func26, Try.ntmps26
 go_wp2_with (first
  | (have q := st4; clear q; go_at_call 31; refine (ocBytes st4 (by have := HB.out; have := HV.out; rw [← this]; omega)).mono ?_; rintro e wz ⟨az, nz, cz, rfl, hnz, hoz, hez⟩; have HZ : Hid (nz = (valB c).length) := hnz.trans (congrArg List.length HV.out.symm); clear hnz; rw [← HV.out] at hoz)
  | (have q := st3; clear q; go_at_call 27; refine (ocNum st3 (okN c.ok) 4 (by (try simp only [List.length_append, be_len, List.length_nil]); omega)).mono ?_; rintro e w4 ⟨⟨y4, rfl⟩, st4, kk4⟩; clear kk4; rw [numB4] at st4)
  | (have q := st2; clear q; go_at_call 27; refine (ocNum st2 c.serial 4 (by (try simp only [List.length_append, be_len, List.length_nil]); omega)).mono ?_; rintro e w3 ⟨⟨y3, rfl⟩, st3, kk3⟩; clear kk3; rw [numB4, List.nil_append] at st3; have d21_3 := cv21 (hb1.ext st3.out))
  | (have q := st3; clear q; go_at_call 65; refine (numberOf_ok _ _).mono ?_; rintro e wn ⟨rfl, hen⟩; replace st3 := st3.ext hen)
  | (refine wl_alloc rfl rfl zeroO ?_; intro w2 hb2 he2 hx; clear hx; have st2 := OC.new hb2 he2; have d0_2 := cv0 (hb1.ext st2.out); clear hb2; have d19_2 := cv19 (hb1.ext st2.out))
  | (refine wl_box (C := CV c s) rfl rfl rfl ?_; intro w1 hb1 he1 hx; clear hx; have HC := ha.ext he1))
 go_ret
 exact ⟨_, _, _, rfl, HZ.out, hoz.base he1.size, (he1.trans st4.out).trans hez⟩
set_option maxHeartbeats 8000000 in
theorem value_8 {w : World} {c : Ck} {s : Sv} (ha : CkAt w s c) (hf : Fit c) (hg : GoodC c) (hk : c.kind = 8) :
  Calls Try.prog 26 #[.agg (CV c s)] w (ValueIs w c) := by
 have HB : Hid ((valB c).length ≤ 600) := valB_len hg
 have HV : Hid (valB c = []) := show _ = _ by simp [valB, hk]
 go_enter Try.func26, Try.ntmps26
 go_wp2_with (first
  | (have q := st2; clear q; go_at_call 31; refine (ocBytes st2 (by have := HB.out; have := HV.out; rw [← this]; omega)).mono ?_; rintro e wz ⟨az, nz, cz, rfl, hnz, hoz, hez⟩; have HZ : Hid (nz = (valB c).length) := hnz.trans (congrArg List.length HV.out.symm); clear hnz; rw [← HV.out] at hoz)
  | (refine wl_alloc rfl rfl zeroO ?_; intro w2 hb2 he2 hx; clear hx; have st2 := OC.new hb2 he2; have d0_2 := cv0 (hb1.ext st2.out); clear hb2)
  | (refine wl_box (C := CV c s) rfl rfl rfl ?_; intro w1 hb1 he1 hx; clear hx; have HC := ha.ext he1))
 go_ret
 exact ⟨_, _, _, rfl, HZ.out, hoz.base he1.size, (he1.trans st2.out).trans hez⟩
set_option maxHeartbeats 8000000 in
theorem value_11 {w : World} {c : Ck} {s : Sv} (ha : CkAt w s c) (hf : Fit c) (hg : GoodC c) (hk : c.kind = 11) :
  Calls Try.prog 26 #[.agg (CV c s)] w (ValueIs w c) := by
 have HB : Hid ((valB c).length ≤ 600) := valB_len hg
 have HV : Hid (valB c = []) := show _ = _ by simp [valB, hk]
 go_enter Try.func26, Try.ntmps26
 go_wp2_with (first
  | (have q := st2; clear q; go_at_call 31; refine (ocBytes st2 (by have := HB.out; have := HV.out; rw [← this]; omega)).mono ?_; rintro e wz ⟨az, nz, cz, rfl, hnz, hoz, hez⟩; have HZ : Hid (nz = (valB c).length) := hnz.trans (congrArg List.length HV.out.symm); clear hnz; rw [← HV.out] at hoz)
  | (refine wl_alloc rfl rfl zeroO ?_; intro w2 hb2 he2 hx; clear hx; have st2 := OC.new hb2 he2; have d0_2 := cv0 (hb1.ext st2.out); clear hb2)
  | (refine wl_box (C := CV c s) rfl rfl rfl ?_; intro w1 hb1 he1 hx; clear hx; have HC := ha.ext he1))
 go_ret
 exact ⟨_, _, _, rfl, HZ.out, hoz.base he1.size, (he1.trans st2.out).trans hez⟩
set_option maxHeartbeats 8000000 in
theorem value_14 {w : World} {c : Ck} {s : Sv} (ha : CkAt w s c) (hf : Fit c) (hg : GoodC c) (hk : c.kind = 14) :
  Calls Try.prog 26 #[.agg (CV c s)] w (ValueIs w c) := by
 have HB : Hid ((valB c).length ≤ 600) := valB_len hg
 have HV : Hid (valB c = []) := show _ = _ by simp [valB, hk]
 go_enter Try.func26, Try.ntmps26
 go_wp2_with (first
  | (have q := st2; clear q; go_at_call 31; refine (ocBytes st2 (by have := HB.out; have := HV.out; rw [← this]; omega)).mono ?_; rintro e wz ⟨az, nz, cz, rfl, hnz, hoz, hez⟩; have HZ : Hid (nz = (valB c).length) := hnz.trans (congrArg List.length HV.out.symm); clear hnz; rw [← HV.out] at hoz)
  | (refine wl_alloc rfl rfl zeroO ?_; intro w2 hb2 he2 hx; clear hx; have st2 := OC.new hb2 he2; have d0_2 := cv0 (hb1.ext st2.out); clear hb2)
  | (refine wl_box (C := CV c s) rfl rfl rfl ?_; intro w1 hb1 he1 hx; clear hx; have HC := ha.ext he1))
 go_ret
 exact ⟨_, _, _, rfl, HZ.out, hoz.base he1.size, (he1.trans st2.out).trans hez⟩
theorem valueOf_any {w : World} {c : Ck} {s : Sv} (ha : CkAt w s c) (hf : Fit c) (hg : GoodC c) :
  Calls Try.prog 26 #[.agg (CV c s)] w (ValueIs w c) := by
 rcases knB_cases hg.kn with h | h | h | h | h | h | h | h | h | h | h | h | h | h | h | h
 ·
  exact value_0 ha hf hg h
 ·
  exact value_1 ha hf hg h
 ·
  exact value_2 ha hf hg h
 ·
  exact value_3 ha hf hg h
 ·
  exact value_4 ha hf hg h
 ·
  exact value_5 ha hf hg h
 ·
  exact value_6 ha hf hg h
 ·
  exact value_7 ha hf hg h
 ·
  exact value_8 ha hf hg h
 ·
  exact value_9 ha hf hg h
 ·
  exact value_10 ha hf hg h
 ·
  exact value_11 ha hf hg h
 ·
  exact value_14 ha hf hg h
 ·
  exact value_15 ha hf hg h
 ·
  exact value_128 ha hf hg h
 ·
  exact value_193 ha hf hg h
theorem bytes_le (K F M : Nat) (V : List Nat) (h : V.length ≤ 600) : (padB (((be K 1 ++ be F 1) ++ be M 2) ++ V)).length ≤ 700 ∧ (((be K 1 ++ be F 1) ++ be M 2) ++ V).length ≤ 700 := by
 have h1 : (((be K 1 ++ be F 1) ++ be M 2) ++ V).length = 4 + V.length := by simp only [List.length_append, be_len]
 have h2 := pads_lt (((be K 1 ++ be F 1) ++ be M 2) ++ V).length
 rw [padB_len]
 omega
/-- What Bytes answers. -/
def BytesIs (w : World) (c : Ck) (e : Ending) (w' : World) : Prop :=
 Ext w w' ∧ ((goodB c = false ∧ e = .returned (.tuple #[.slice none 0 0, errF])) ∨ (goodB c = true ∧ ∃ a n cp, e = .returned (.tuple #[.slice a n cp, .nilIface]) ∧ n = (bytesB c).length ∧ OB w' w.heap.size (.slice a n cp) (bytesB c)))
set_option maxHeartbeats 8000000 in
theorem bytesC_any {w : World} {c : Ck} {s : Sv} (ha : CkAt w s c) (hf : Fit c) :
  Calls Try.prog 10 #[.agg (CV c s)] w (BytesIs w c) := by
 cases hgd : goodB c with
 | false =>
  go_enter Try.func10, Try.ntmps10
  go_wp2_with (first
   | (refine wl_box (C := CV c s) rfl rfl rfl ?_; intro w1 hb1 he1 hx; clear hx)
   | (refine wl_load rfl rowC rfl rfl hb1 rfl ?_)
   | (go_at_call 12; refine (goodC_any (ha.ext he1)).mono ?_; rintro e w2 ⟨rfl, he2⟩; rw [hgd]))
  go_ret2
  exact ⟨he1.trans he2, .inl ⟨hgd, rfl⟩⟩
 | true =>
  have HG : Hid (GoodC c) := (goodB_iff c).1 hgd
  obtain ⟨K, hK⟩ : ∃ K : Nat, c.kind = (K : Int) := by
   have := knB_cases HG.out.kn
   exact ⟨_, (Int.toNat_of_nonneg (by omega)).symm⟩
  have HK2 : Hid (K < 256) := by
   have := knB_cases HG.out.kn
   show K < 256
   omega
  have wK : IntKind.u64.wrap (K : Int) = (K : Int) := by rw [IntKind.wrap_u64]; have := HK2.out; omega
  obtain ⟨V, hV⟩ : ∃ V, V = valB c := ⟨_, rfl⟩
  have HV2 : Hid (V.length ≤ 600) := show _ ≤ _ by rw [hV]; exact valB_len HG.out
  have HV : Hid (bytesB c = padB (((be K 1 ++ be (flagN c.pb c.pe c.pu) 1) ++ be (V.length + 4) 2) ++ V) ∧ valB c = V) := ⟨by unfold bytesB; rw [hK, hV]; rfl, hV.symm⟩
  clear hV
  go_enter Try.func10, Try.ntmps10
  go_wp2_with (first
   | (have q := st8; clear q; go_at_call 31; refine (ocBytes st8 (by have := HP.out.1; omega)).mono ?_; rintro e wz ⟨az, nz, cz, rfl, hnz, hoz, hez⟩; have HZ : Hid (nz = (bytesB c).length) := hnz.trans (congrArg List.length HV.out.1.symm); clear hnz; rw [← HV.out.1] at hoz)
   | (have q := st7; clear q; go_at_call 30; refine (ocPad st7 (by have := HP.out.2; omega)).mono ?_; rintro e w8 ⟨⟨y8, rfl⟩, st8, k8⟩; clear k8; rw [HN.out] at st8)
   | (have q := st6; clear q; go_at_call 29; refine (ocPut st6 (ho3.bytes.ext st6.out) (by have := HV2.out; simp only [List.length_append, be_len]; omega)).mono ?_; rintro e w7 ⟨⟨y7, rfl⟩, st7, k7⟩; clear k7)
   | (have q := st5; clear q; go_at_call 27; refine (ocNum st5 (n + 4) 2 (by simp only [List.length_append, be_len, List.length_nil]; omega)).mono ?_; rintro e w6 ⟨⟨y6, rfl⟩, st6, k6⟩; clear k6; rw [numB2] at st6)
   | (have q := st5; clear q; fail)
   | (have q := st4b; clear q; go_at_call 27; refine (ocNum st4b (flagN c.pb c.pe c.pu) 1 (by simp only [List.length_append, be_len, List.length_nil]; omega)).mono ?_; rintro e w5 ⟨⟨y5, rfl⟩, st5, k5⟩; clear k5; rw [numB1] at st5)
   | (have q := st4a; clear q; go_at_call 28; refine (flagsOf_any c s _).mono ?_; rintro e wf ⟨rfl, hef⟩; have st4b := st4a.ext hef)
   | (have q := st4a; clear q; refine wl_loadM rfl rowPc rfl rfl (hb3.ext st4a.out) (PV c s).toList (CV.piece c s) rfl ?_)
   | (have q := st4; clear q; go_at_call 27; refine (ocNum st4 K 1 (by simp)).mono ?_; rintro e w4a ⟨⟨y4, rfl⟩, st4a, k4⟩; clear k4; rw [numB1, List.nil_append] at st4a)
   | (have q := ho3; clear q; refine wl_alloc rfl rfl zeroO ?_; intro w4 hb4 he4 hx; clear hx; have st4 := OC.new hb4 he4; clear hb4; have hb3 := (hb1.ext he2).ext he3; have c0 := cv0 (hb3.ext st4.out))
   | (have q := he2; clear q; go_at_call 26; go_loud (refine (valueOf_any ((ha.ext he1).ext he2) hf HG.out).mono ?_; rintro e w3 ⟨a, n, cp, rfl, hn, ho3, he3⟩; rw [HV.out.2] at hn ho3; have HN : Hid (padB (((be K 1 ++ be (flagN c.pb c.pe c.pu) 1) ++ be (n + 4) 2) ++ V) = padB (((be K 1 ++ be (flagN c.pb c.pe c.pu) 1) ++ be (V.length + 4) 2) ++ V)) := congrArg (fun z => padB (((be K 1 ++ be (flagN c.pb c.pe c.pu) 1) ++ be (z + 4) 2) ++ V)) hn; have hn6 : n ≤ 600 := Nat.le_trans (Nat.le_of_eq hn) HV2.out; clear hn; have wn := (wrapM (n + 4) (by omega)).2.1; have HP : Hid ((padB (((be K 1 ++ be (flagN c.pb c.pe c.pu) 1) ++ be (V.length + 4) 2) ++ V)).length ≤ 700 ∧ (((be K 1 ++ be (flagN c.pb c.pe c.pu) 1) ++ be (n + 4) 2) ++ V).length ≤ 700) := ⟨(bytes_le K _ _ V HV2.out).1, (bytes_le K _ _ V HV2.out).2⟩))
   | (go_at_call 12; refine (goodC_any (ha.ext he1)).mono ?_; rintro e w2 ⟨rfl, he2⟩; rw [hgd])
   | (have q := he2; clear q; refine wl_load rfl rowC rfl rfl (hb1.ext he2) rfl ?_)
   | (refine wl_load rfl rowC rfl rfl hb1 rfl ?_)
   | (refine wl_box (C := CV c s) rfl rfl rfl ?_; intro w1 hb1 he1 hx; clear hx))
  go_ret2
  have HE := (he1.trans he2).trans he3
  exact ⟨(HE.trans st8.out).trans hez, .inr ⟨hgd, _, _, _, rfl, HZ.out, hoz.base HE.size⟩⟩
end Tlv
end Go.Proofs.Ytbahelhohkhkmaa
/- A law on regions that draw their order and whose writers stand in one chain: facts that are kept, and what holds of the world behind each writer. No condition of its own. -/
namespace Go.Proofs.Ytbahelhohkhkmaa
open Go
/-- What is owed for operation number i, from a world of S to one of S'. -/
def GoodH (P : Program) (mk : Tmp → Option Nat) (a0 : Act) (R : World → World → Prop) (V : Nat → World → Value → Prop) (w0 : World) (i : Nat) (o : Oper) (S S' : World → Prop) : Prop :=
 ∀ (r : Operand → Value) (w : World), R w0 w → S w → factsOf mk a0 V r w o.op.operands.toList →
  match o.guard with
  | none => give P (fun v x => R w x ∧ S' x ∧ V i x v) ((execOp r o).run P w)
  | some (g, want) => ∀ b, V g w b → if asBool b == some want then give P (fun v x => R w x ∧ S' x ∧ V i x v) ((execOp r o).run P w) else (S' w ∧ V i w undef)
section
variable {P : Program} {mk : Tmp → Option Nat} {ops : List Oper} {a0 : Act} {R : World → World → Prop} {V : Nat → World → Value → Prop} {w0 : World} {Q : Exit → Act → World → Prop} {n : Nat}
end
def GoodHAll (P : Program) (mk : Tmp → Option Nat) (a0 : Act) (R : World → World → Prop) (V : Nat → World → Value → Prop) (w0 : World) (wr ub : List Nat) (S : Nat → World → Prop) : Nat → List Oper → Prop
 | _, [] => True
 | i, o :: l => (if wr.contains i then GoodH P mk a0 R V w0 i o (S (wr.idxOf i)) (S (wr.idxOf i + 1)) else ∀ k, k ≤ ub.getD i 0 → GoodH P mk a0 R V w0 i o (S k) (S k)) ∧ GoodHAll P mk a0 R V w0 wr ub S (i + 1) l
theorem GoodHAll.at {P : Program} {mk : Tmp → Option Nat} {a0 : Act} {R : World → World → Prop} {V : Nat → World → Value → Prop} {w0 : World} {wr ub : List Nat} {S : Nat → World → Prop} : ∀ {ops : List Oper} {s : Nat}, GoodHAll P mk a0 R V w0 wr ub S s ops → ∀ i o, ops[i]? = some o → (if wr.contains (s + i) then GoodH P mk a0 R V w0 (s + i) o (S (wr.idxOf (s + i))) (S (wr.idxOf (s + i) + 1)) else ∀ k, k ≤ ub.getD (s + i) 0 → GoodH P mk a0 R V w0 (s + i) o (S k) (S k))
 | [], _, _, i, o, ho => by simp at ho
 | _ :: _, s, h, 0, o, ho => by simp at ho; subst ho; exact h.1
 | _ :: l, s, h, i + 1, o, ho => by
  have := GoodHAll.at (ops := l) h.2 i o (by simpa using ho)
  rwa [show s + 1 + i = s + (i + 1) by omega] at this
theorem GoodHAll.nil {P : Program} {mk : Tmp → Option Nat} {a0 : Act} {R : World → World → Prop} {V : Nat → World → Value → Prop} {w0 : World} {wr ub : List Nat} {S : Nat → World → Prop} {i : Nat} : GoodHAll P mk a0 R V w0 wr ub S i [] := trivial
theorem GoodHAll.reads {P : Program} {mk : Tmp → Option Nat} {a0 : Act} {R : World → World → Prop} {V : Nat → World → Value → Prop} {w0 : World} {wr ub : List Nat} {S : Nat → World → Prop} {i : Nat} {o : Oper} {l : List Oper} (u : Nat) (hc : wr.contains i = false) (hu : ub.getD i 0 = u) (h : ∀ k, k ≤ u → GoodH P mk a0 R V w0 i o (S k) (S k)) (hl : GoodHAll P mk a0 R V w0 wr ub S (i + 1) l) : GoodHAll P mk a0 R V w0 wr ub S i (o :: l) :=
 ⟨by rw [if_neg (by rw [hc]; simp), hu]; exact h, hl⟩
theorem GoodHAll.writes {P : Program} {mk : Tmp → Option Nat} {a0 : Act} {R : World → World → Prop} {V : Nat → World → Value → Prop} {w0 : World} {wr ub : List Nat} {S : Nat → World → Prop} {i : Nat} {o : Oper} {l : List Oper} (k : Nat) (hc : wr.contains i = true) (hk : wr.idxOf i = k) (h : GoodH P mk a0 R V w0 i o (S k) (S (k + 1))) (hl : GoodHAll P mk a0 R V w0 wr ub S (i + 1) l) : GoodHAll P mk a0 R V w0 wr ub S i (o :: l) :=
 ⟨by rw [if_pos hc, hk]; exact h, hl⟩
end Go.Proofs.Ytbahelhohkhkmaa
/- A reader of a chunk: what it holds, what it reads. No condition of its own. -/
namespace Go.Proofs.Ytbahelhohkhkmaa
namespace Tlv
open Go Go.RowKit
set_option maxRecDepth 100000
/-- A reader's cells: those of the chunk, and where it reads. -/
def RV (c : Ck) (s : Sv) (x : Value) : Array Value := #[.int .i64 c.kind, .int .u32 (c.ptsn : Int), .int .u16 (c.pstr : Int), .int .u16 (c.pseq : Int), .bool c.pb, .bool c.pe, .bool c.pu, .slice s.tA s.tN s.tC, .int .u32 (c.tag : Int), .int .i64 c.win, .int .i64 c.out, .int .i64 c.inn, .int .u32 (c.tsn : Int), .slice s.rA s.rN s.rC, .slice s.aA s.aN s.aC, .slice s.iA s.iN s.iC, .slice s.gA s.gN s.gC, .slice s.dA s.dN s.dC, .int .i64 c.cause, .int .u32 (c.serial : Int), .slice s.oA s.oN s.oC, .bool c.ok, x]
theorem rv0 {w : World} {g T : Nat} {c : Ck} {s : Sv} {x : Value} (h : Blk w g (RV c s x) T) : w.cell? ⟨g, 0, none⟩ = some (.int .i64 c.kind) := h.cell 0
theorem rv14 {w : World} {g T : Nat} {c : Ck} {s : Sv} {x : Value} (h : Blk w g (RV c s x) T) : w.cell? ⟨g, 14, none⟩ = some (.slice s.aA s.aN s.aC) := h.cell 14
theorem rv16 {w : World} {g T : Nat} {c : Ck} {s : Sv} {x : Value} (h : Blk w g (RV c s x) T) : w.cell? ⟨g, 16, none⟩ = some (.slice s.gA s.gN s.gC) := h.cell 16
theorem rv17 {w : World} {g T : Nat} {c : Ck} {s : Sv} {x : Value} (h : Blk w g (RV c s x) T) : w.cell? ⟨g, 17, none⟩ = some (.slice s.dA s.dN s.dC) := h.cell 17
theorem rv20 {w : World} {g T : Nat} {c : Ck} {s : Sv} {x : Value} (h : Blk w g (RV c s x) T) : w.cell? ⟨g, 20, none⟩ = some (.slice s.oA s.oN s.oC) := h.cell 20
theorem rv22 {w : World} {g T : Nat} {c : Ck} {s : Sv} {x : Value} (h : Blk w g (RV c s x) T) : w.cell? ⟨g, 22, none⟩ = some (x) := h.cell 22
theorem RV.chunk (c : Ck) (s : Sv) (x : Value) : ∀ (j : Nat) v, (CV c s).toList[j]? = some v → (RV c s x)[0 + j]? = some v := by
 intro j v h
 match j with
 | 0 => exact h
 | 1 => exact h
 | 2 => exact h
 | 3 => exact h
 | 4 => exact h
 | 5 => exact h
 | 6 => exact h
 | 7 => exact h
 | 8 => exact h
 | 9 => exact h
 | 10 => exact h
 | 11 => exact h
 | 12 => exact h
 | 13 => exact h
 | 14 => exact h
 | 15 => exact h
 | 16 => exact h
 | 17 => exact h
 | 18 => exact h
 | 19 => exact h
 | 20 => exact h
 | 21 => exact h
 | j + 22 => simp [CV] at h
/-- Pairs as cells; a list of them in a block of the own. -/
def pcl (L : List (Int × Int)) : List Value := L.flatMap fun p => [.int .i64 p.1, .int .i64 p.2]
theorem pcl_len : ∀ L : List (Int × Int), (pcl L).length = L.length * 2
 | [] => rfl
 | p :: L => by
  have := pcl_len L
  unfold pcl at *
  rw [List.flatMap_cons, List.length_append, this, List.length_cons, List.length_cons]; simp; omega
theorem pcl_get {L : List (Int × Int)} : ∀ {i : Nat} {p : Int × Int}, L[i]? = some p → (pcl L)[i * 2]? = some (.int .i64 p.1) ∧ (pcl L)[i * 2 + 1]? = some (.int .i64 p.2) := by
 induction L with
 | nil => intro i p h; simp at h
 | cons x L ih =>
  intro i p h
  cases i with
  | zero => simp at h; subst h; exact ⟨rfl, rfl⟩
  | succ i =>
   have := ih (i := i) (p := p) (by simpa using h)
   have e : pcl (x :: L) = .int .i64 x.1 :: .int .i64 x.2 :: pcl L := rfl
   rw [e, show (i + 1) * 2 = i * 2 + 1 + 1 by omega]
   simpa using this
def OwnP (e : TypeId) (w : World) (base : Nat) (v : Value) (L : List (Int × Int)) : Prop := w.ownsRow base e 2 v L.length (pcl L) ∧ L.length ≤ maxLen
theorem OwnP.nil (e : TypeId) (w : World) (base : Nat) : OwnP e w base (.slice none 0 0) [] := ⟨World.ownsRow_nil _ _ _ _, by simp⟩
theorem OwnP.pairs {e : TypeId} {w : World} {base : Nat} {v : Value} {L : List (Int × Int)} (h : OwnP e w base v L) : PairsAt w v L := by
 obtain ⟨⟨h0, h1 | ⟨g, cap, cur, rfl, hb, hg, hn, hc, hs, ht⟩⟩, hm⟩ := h
 ·
  have : L = [] := List.eq_nil_of_length_eq_zero h1.2
  subst this
  rw [h1.1]
  exact PairsAt.nil _
 ·
  refine ⟨hm, _, cap, rfl, ⟨hn, fun h => by cases h⟩, hc, fun i p hp => ⟨g, 0, rfl, ?_, ?_⟩⟩
  ·
   obtain ⟨a1, a2⟩ := pcl_get hp
   rw [Nat.zero_add, cell_of_block hg]
   have hi := (List.getElem?_eq_some_iff.1 hp).1
   rw [← ht, List.getElem?_take, if_pos (by omega)] at a1
   simpa using a1
  ·
   obtain ⟨a1, a2⟩ := pcl_get hp
   rw [Nat.zero_add, cell_of_block hg]
   have hi := (List.getElem?_eq_some_iff.1 hp).1
   rw [← ht, List.getElem?_take, if_pos (by omega)] at a2
   simpa using a2
theorem OwnP.but {S : Nat → Prop} {e : TypeId} {w w' : World} {base : Nat} {v : Value} {L : List (Int × Int)} (h : OwnP e w base v L) (hk : KeepBut S w w') (hn : ∀ g, v.ownBlock = some g → ¬ S g) : OwnP e w' base v L := ⟨ownsRow_but h.1 hk hn, h.2⟩
theorem OwnP.ext {e : TypeId} {w w' : World} {base : Nat} {v : Value} {L : List (Int × Int)} (h : OwnP e w base v L) (he : Ext w w') : OwnP e w' base v L := h.but (KeepBut.ext (S := fun _ => False) he) (fun _ _ h => h)
theorem ownsRow_ne {w : World} {base e n size g t : Nat} {v : Value} {xs : List Value} {C : Array Value} (h : w.ownsRow base e size v n xs) (hb : Blk w g C t) (ht : t ≠ e) : ∀ k, v.ownBlock = some k → k ≠ g := by
 intro k hk hkg
 subst hkg
 rcases h.2 with ⟨rfl, _⟩ | ⟨g', cap, cur, rfl, _, hg, _⟩
 ·
  cases hk
 ·
  simp only [Value.ownBlock, Option.some.injEq] at hk
  subst hk
  have : some (Obj.cells C t (0, 0)) = some (.cells cur e (0, 0)) := hb.symm.trans hg
  simp only [Option.some.injEq, Obj.cells.injEq] at this
  exact ht this.2.1
/-- A chunk's lists, in blocks of the own. -/
structure OwnC (w : World) (base : Nat) (s : Sv) (c : Ck) : Prop where
 t : OB w base (.slice s.tA s.tN s.tC) c.text
 r : OB w base (.slice s.rA s.rN s.rC) c.rand
 a : OwnN .i64 w base 65 (.slice s.aA s.aN s.aC) c.addrs
 i : OB w base (.slice s.iA s.iN s.iC) c.info
 g : OwnP 67 w base (.slice s.gA s.gN s.gC) c.gaps
 d : OwnN .u32 w base 22 (.slice s.dA s.dN s.dC) (ci c.dups)
 o : OwnP 69 w base (.slice s.oA s.oN s.oC) c.ops
theorem OwnC.at {w : World} {base : Nat} {s : Sv} {c : Ck} (h : OwnC w base s c) : CkAt w s c := ⟨h.t.bytes, h.r.bytes, h.a.nums, h.i.bytes, h.g.pairs, h.d.nums, h.o.pairs⟩
theorem OwnC.nil (w : World) (base : Nat) (k : Int) : OwnC w base sv0 (ck0 k) := ⟨OB.nil _ _, OB.nil _ _, OwnN.nil _ _ _ _, OB.nil _ _, OwnP.nil _ _ _, OwnN.nil _ _ _ _, OwnP.nil _ _ _⟩
theorem OwnC.ext {w w' : World} {base : Nat} {s : Sv} {c : Ck} (h : OwnC w base s c) (he : Ext w w') : OwnC w' base s c := ⟨h.t.ext he, h.r.ext he, h.a.ext he, h.i.ext he, h.g.ext he, h.d.ext he, h.o.ext he⟩
/-- What no list lies in. -/
def NoList (t : Nat) : Prop := t ≠ 5 ∧ t ≠ 65 ∧ t ≠ 67 ∧ t ≠ 22 ∧ t ≠ 69
theorem OwnC.but {w w' : World} {base g t : Nat} {s : Sv} {c : Ck} {C : Array Value} (h : OwnC w base s c) (hk : KeepBut (· = g) w w') (hb : Blk w g C t) (ht : NoList t) : OwnC w' base s c :=
 ⟨h.t.but hk (h.t.ne hb ht.1), h.r.but hk (h.r.ne hb ht.1), h.a.mono_via hk (ownsRow_ne h.a.1 hb ht.2.1), h.i.but hk (h.i.ne hb ht.1), h.g.but hk (ownsRow_ne h.g.1 hb ht.2.2.1), h.d.mono_via hk (ownsRow_ne h.d.1 hb ht.2.2.2.1), h.o.but hk (ownsRow_ne h.o.1 hb ht.2.2.2.2)⟩
theorem noIn : NoList 126 := ⟨by decide, by decide, by decide, by decide, by decide⟩
theorem noRd : NoList 91 := ⟨by decide, by decide, by decide, by decide, by decide⟩
theorem InAt.blk0 {w : World} {base g : Nat} {bv : Value} {B : List Nat} {s : Option Nat} (h : InAt w base g bv B s) : ∃ C, Blk w g C 126 := by
 obtain ⟨_, a, b, hb, _⟩ := h
 exact ⟨_, hb⟩
/-- A reader of a chunk, all of it above w0: what it holds, what it reads, where. -/
structure RS (w0 w : World) (q : Nat) (c : Ck) (s : Sv) (B : List Nat) (st : Option Nat) : Prop where
 ext : Ext w0 w
 lo : w0.heap.size ≤ q
 own : OwnC w w0.heap.size s c
 fit : Fit c
 rd : ∃ gi bv, Blk w q (RV c s (ptr gi)) 91 ∧ gi ≠ q ∧ w0.heap.size ≤ gi ∧ InAt w w0.heap.size gi bv B st
theorem RS.step {w0 w w' : World} {q : Nat} {c : Ck} {s : Sv} {B : List Nat} {st st' : Option Nat} (h : RS w0 w q c s B st) {gi : Nat} {bv : Value} (hb : Blk w q (RV c s (ptr gi)) 91) (hq : gi ≠ q) (hl : w0.heap.size ≤ gi) (hi0 : InAt w w0.heap.size gi bv B st) (hi : InAt w' w0.heap.size gi bv B st') (hk : KeepBut (· = gi) w w') : RS w0 w' q c s B st' := by
 obtain ⟨C, hC⟩ := hi0.blk0
 exact ⟨h.ext.of_but hk (fun k e => by subst e; exact hl), h.lo, h.own.but hk hC noIn, h.fit, gi, bv, hb.but hk (fun e => hq e.symm), hq, hl, hi⟩
theorem RS.grow {w0 w w' : World} {q : Nat} {c : Ck} {s : Sv} {B : List Nat} {st : Option Nat} (h : RS w0 w q c s B st) (he : Ext w w') : RS w0 w' q c s B st := by
 obtain ⟨h1, h2, h3, h4, gi, bv, h5, h6, h7, h8⟩ := h
 exact ⟨h1.trans he, h2, h3.ext he, h4, gi, bv, h5.ext he, h6, h7, h8.ext he⟩
/-- The reader's block stored anew. -/
theorem RS.put {w0 w w' : World} {q : Nat} {c c' : Ck} {s s' : Sv} {B : List Nat} {st : Option Nat} (h : RS w0 w q c s B st) {gi : Nat} {bv : Value} (hb0 : Blk w q (RV c s (ptr gi)) 91) (hq : gi ≠ q) (hl : w0.heap.size ≤ gi) (hi0 : InAt w w0.heap.size gi bv B st) (hb : Blk w' q (RV c' s' (ptr gi)) 91) (hk : KeepBut (· = q) w w') (ho : OwnC w w0.heap.size s' c') (hf : Fit c') : RS w0 w' q c' s' B st :=
 ⟨h.ext.of_but hk (fun k e => by subst e; exact h.lo), h.lo, ho.but hk hb0 noRd, hf, gi, bv, hb, hq, hl, hi0.but hk hq (hi0.own.ne hb0 (by decide))⟩
theorem numS_u32 {B : List Nat} (h : AllB B) (s : Option Nat) : (numS B s 4).2 < 4294967296 := by
 unfold numS
 rw [if_pos (by decide)]
 refine val_lt (takeS_all h s 4) 4 ?_
 unfold takeS
 cases s with
 | none => simp
 | some a =>
  simp only
  split
  ·
   rw [List.length_take]; simp; omega
  ·
   simp
theorem numS_u8 {B : List Nat} (h : AllB B) (s : Option Nat) : (numS B s 1).2 < 256 := by
 unfold numS
 rw [if_pos (by decide)]
 refine val_lt (takeS_all h s 1) 1 ?_
 unfold takeS
 cases s with
 | none => simp
 | some a =>
  simp only
  split
  ·
   rw [List.length_take]; simp; omega
  ·
   simp
/-- What a reader's call leaves. -/
def RdIs (w0 : World) (q : Nat) (c : Ck) (s : Sv) (B : List Nat) (st : Option Nat) (v : Value) (e : Ending) (w' : World) : Prop := e = .returned v ∧ RS w0 w' q c s B st
set_option maxHeartbeats 2000000 in
theorem word_any {w0 w : World} {q : Nat} {c : Ck} {s : Sv} {B : List Nat} {st : Option Nat} (h : RS w0 w q c s B st) (hA : AllB B) (hB : B.length ≤ 1000000) :
  Calls Try.prog 79 #[ptr q] w (RdIs w0 q c s B (numS B st 4).1 (.int .u32 ((numS B st 4).2 : Nat))) := by
 obtain ⟨gi, bv, hb, hq, hl, hi⟩ := h.rd
 have HX : Hid (RS w0 w q c s B st ∧ Blk w q (RV c s (ptr gi)) 91 ∧ gi ≠ q ∧ w0.heap.size ≤ gi ∧ InAt w w0.heap.size gi bv B st ∧ B.length ≤ 1000000) := ⟨h, hb, hq, hl, hi, hB⟩
 have c22 := rv22 hb
 have hn := numS_u32 hA st
 have hw : IntKind.u32.wrap ((numS B st 4).2 : Int) = ((numS B st 4).2 : Int) := by rw [IntKind.wrap_u32]; omega
 clear h hb hq hl hi hA hB
 go_enter Try.func79, Try.ntmps79
 go_wp2_with (first
  | (go_at_call 40; refine (inNum_any HX.out.2.2.2.2.1 HX.out.2.2.2.2.2 4).mono ?_; rintro e w2 ⟨rfl, hi2, hk2⟩))
 go_ret
 exact ⟨rfl, HX.out.1.step HX.out.2.1 HX.out.2.2.1 HX.out.2.2.2.1 HX.out.2.2.2.2.1 hi2 hk2⟩
theorem numS_le {B : List Nat} (h : AllB B) (s : Option Nat) (n : Int) (hn : n = 1 ∨ n = 2 ∨ n = 4) : (numS B s n).2 < 4294967296 := by
 rcases hn with rfl | rfl | rfl
 ·
  have := numS_u8 h s; omega
 ·
  have := numS2_lt h s; omega
 ·
  exact numS_u32 h s
set_option maxHeartbeats 2000000 in
theorem number_any {w0 w : World} {q : Nat} {c : Ck} {s : Sv} {B : List Nat} {st : Option Nat} (h : RS w0 w q c s B st) (hA : AllB B) (hB : B.length ≤ 1000000) (n : Int) (hn : n = 1 ∨ n = 2 ∨ n = 4) :
  Calls Try.prog 80 #[ptr q, .int .i64 n] w (RdIs w0 q c s B (numS B st n).1 (.int .i64 ((numS B st n).2 : Nat))) := by
 obtain ⟨gi, bv, hb, hq, hl, hi⟩ := h.rd
 have HX : Hid (RS w0 w q c s B st ∧ Blk w q (RV c s (ptr gi)) 91 ∧ gi ≠ q ∧ w0.heap.size ≤ gi ∧ InAt w w0.heap.size gi bv B st ∧ B.length ≤ 1000000) := ⟨h, hb, hq, hl, hi, hB⟩
 have c22 := rv22 hb
 have hlt := numS_le hA st n hn
 have hw : IntKind.i64.wrap ((numS B st n).2 : Int) = ((numS B st n).2 : Int) := by rw [IntKind.wrap_i64]; omega
 clear h hb hq hl hi hA hB hn
 go_enter Try.func80, Try.ntmps80
 go_wp2_with (first
  | (go_at_call 40; refine (inNum_any HX.out.2.2.2.2.1 HX.out.2.2.2.2.2 n).mono ?_; rintro e w2 ⟨rfl, hi2, hk2⟩))
 go_ret
 exact ⟨rfl, HX.out.1.step HX.out.2.1 HX.out.2.2.1 HX.out.2.2.2.1 HX.out.2.2.2.2.1 hi2 hk2⟩
/-- What value leaves. -/
def ValueC (w0 : World) (q : Nat) (c : Ck) (B : List Nat) (e : Ending) (w' : World) : Prop := (∃ y, e = .returned y) ∧ ∃ s' st', RS w0 w' q c s' B st'
set_option maxHeartbeats 8000000 in
theorem valueR_no {w0 w : World} {q : Nat} {c : Ck} {s : Sv} {B : List Nat} {st : Option Nat} {F : Int} (h : RS w0 w q c s B st) (h0 : c.kind ≠ 0) (h1 : c.kind ≠ 1) (h2 : c.kind ≠ 2) (h3 : c.kind ≠ 3) (h4 : c.kind ≠ 4) (h5 : c.kind ≠ 5) (h10 : c.kind ≠ 10) (h15 : c.kind ≠ 15) (h6 : c.kind ≠ 6) (h9 : c.kind ≠ 9) (h7 : c.kind ≠ 7) (h193 : c.kind ≠ 193) (h128 : c.kind ≠ 128) :
  Calls Try.prog 42 #[ptr q, .int .u64 F] w (ValueC w0 q c B) := by
 obtain ⟨gi, bv, hb, hq, hl, hi⟩ := h.rd
 have c0 := rv0 hb
 have HX : Hid (RS w0 w q c s B st) := h
 clear h hb hq hl hi
 have e0 : (c.kind == 0) = false := beq_false_of_ne h0
 have e1 : (c.kind == 1) = false := beq_false_of_ne h1
 have e2 : (c.kind == 2) = false := beq_false_of_ne h2
 have e3 : (c.kind == 3) = false := beq_false_of_ne h3
 have e4 : (c.kind == 4) = false := beq_false_of_ne h4
 have e5 : (c.kind == 5) = false := beq_false_of_ne h5
 have e10 : (c.kind == 10) = false := beq_false_of_ne h10
 have e15 : (c.kind == 15) = false := beq_false_of_ne h15
 have e6 : (c.kind == 6) = false := beq_false_of_ne h6
 have e9 : (c.kind == 9) = false := beq_false_of_ne h9
 have e7 : (c.kind == 7) = false := beq_false_of_ne h7
 have e193 : (c.kind == 193) = false := beq_false_of_ne h193
 have e128 : (c.kind == 128) = false := beq_false_of_ne h128
 go_enter Try.func42, Try.ntmps42
 go_wp2
 go_end0
 exact ⟨⟨_, rfl⟩, _, _, HX.out⟩
set_option maxRecDepth 100000
theorem res_two {fn : Func} {p u : Tmp} {ty g t : Nat} {cs : Array Value} {fs : Array Field} {x : Value} (h : fn.results = #[.cell p ty, .tmp u]) (tmps : Array Value) (w : World) (hp : tmps.getD p undef = .pointer (some ⟨g, 0, none⟩)) (hx : tmps.getD u undef = x) (hg : Blk w g cs t) (hu : Try.prog.underlying ty = some (.struct fs)) (hi : (Try.prog.info? ty).map (·.size) = some cs.size) :
  (results fn tmps).run Try.prog w = .ok (.tuple #[.agg cs, x]) w := by
 rw [results_cell_tmp h, hp, hx]
 have := run_loadVar_row (P := Try.prog) w g t ty cs (0, 0) _ hg hu rfl hi
 simp [asAddr, this]
set_option maxRecDepth 100000
def hdK (B : List Nat) : Nat := (numS B (some 0) 1).2
def hdS1 (B : List Nat) : Option Nat := (numS B (some 0) 1).1
def hdF (B : List Nat) : Nat := (numS B (hdS1 B) 1).2
def hdS2 (B : List Nat) : Option Nat := (numS B (hdS1 B) 1).1
def hdL (B : List Nat) : Nat := (numS B (hdS2 B) 2).2
def hdS3 (B : List Nat) : Option Nat := (numS B (hdS2 B) 2).1
/-- The bytes of the value, as they are read. -/
def hdV (B : List Nat) : List Nat := (takeS B (hdS3 B) ((hdL B : Int) - 4)).2
theorem noCk : NoList 38 := ⟨by decide, by decide, by decide, by decide, by decide⟩
theorem onePI : OneT Try.prog 88 := ⟨⟨_, Try.underlying88, rfl⟩, by kernel_rfl⟩
theorem zeroRd : (Try.prog.info? 91).bind (·.zero) = some (.agg (RV (ck0 0) sv0 (.pointer none))) := by kernel_rfl
theorem InAt.lower {w : World} {base base' g : Nat} {bv : Value} {B : List Nat} {s : Option Nat} (h : InAt w base g bv B s) (hb : base' ≤ base) : InAt w base' g bv B s := ⟨h.own.base hb, h.blk⟩
theorem fit0 {k : Nat} (h : k < 256) : Fit (ck0 (k : Int)) := by
 constructor <;> simp [ck0, W64]
 omega
/-- What Read answers, where d was read. -/
def ReadIs (w : World) (B : List Nat) (d : Ck) (e : Ending) (w' : World) : Prop :=
 Ext w w' ∧ ((goodB d = true ∧ bytesB d = B ∧ Fit d ∧ ∃ s, e = .returned (.tuple #[.agg (CV d s), .nilIface]) ∧ CkAt w' s d) ∨ (¬ (goodB d = true ∧ bytesB d = B) ∧ e = .returned (.tuple #[.agg (CV (ck0 0) sv0), errF])))
set_option maxHeartbeats 16000000 in
theorem readC_of {w : World} {v : Value} {B : List Nat} (hv : BytesAt w v B) (hB : B.length ≤ 1000000) (d : Ck)
  (hd : ∀ (w0 w' : World) (q : Nat), RS w0 w' q (ck0 (hdK B : Int)) sv0 (hdV B) (some 0) → Calls Try.prog 42 #[ptr q, .int .u64 (hdF B : Int)] w' (ValueC w0 q d (hdV B))) :
  Calls Try.prog 17 #[v] w (ReadIs w B d) := by
 have HD : Hid (∀ (w0 w' : World) (q : Nat), RS w0 w' q (ck0 (hdK B : Int)) sv0 (hdV B) (some 0) → Calls Try.prog 42 #[ptr q, .int .u64 (hdF B : Int)] w' (ValueC w0 q d (hdV B))) := hd
 obtain ⟨a0, c0, rfl, _, _⟩ := hv.form
 rename_i z1 z2
 clear z1 z2 hd
 have HV : Hid (BytesAt w (.slice a0 B.length c0) B ∧ B.length ≤ 1000000) := ⟨hv, hB⟩
 have HK : Hid (hdK B < 256) := numS_u8 hv.1 _
 have hL : hdL B < 65536 := numS2_lt hv.1 _
 have wK : IntKind.i64.wrap (hdK B : Int) = (hdK B : Int) := by rw [IntKind.wrap_i64]; have := HK.out; omega
 have wL : IntKind.i64.wrap (hdL B : Int) = (hdL B : Int) := by rw [IntKind.wrap_i64]; omega
 have wM : IntKind.i64.wrap ((hdL B : Int) - 4) = (hdL B : Int) - 4 := by rw [IntKind.wrap_i64]; omega
 have HVl : Hid ((hdV B).length ≤ 1000000) := Nat.le_trans (takeS_len _ _ _) hB
 clear hv hB
 go_enter Try.func17, Try.ntmps17
 go_wp2_with (first
  | (refine wl_alloc rfl rfl zeroC ?_; intro w1 hb1 he1 hx; clear hx)
  | (refine wl_alloc rfl rfl zeroRd ?_; intro w3 hb3 he3 hx; clear hx; have hi3 := hin1.ext he3; have HG : Hid (g1 ≠ w2.heap.size ∧ w1.heap.size ≤ g1 ∧ Ext w1 w3) := ⟨Nat.ne_of_lt hin1.lt, hlo1, he2.trans he3⟩; clear he3)
  | (have q := hi8; clear q; go_at_call 39; refine (read_any ho8.bytes HVl.out).mono ?_; rintro e w9 ⟨gi, bv, rfl, hlo9, hin9, he9⟩)
  | (go_at_call 39; refine (read_any (HV.out.1.ext he1) HV.out.2).mono ?_; rintro e w2 ⟨g1, bv1, rfl, hlo1, hin1, he2⟩)
  | (have q := hi7; clear q; go_at_call 41; refine (inTake_any hi7 HV.out.2 ((hdL B : Int) - 4)).mono ?_; rintro e w8 ⟨a8, m8, c8, rfl, hm8, ho8, hi8, hk8⟩; clear hm8; change OB w8 w7.heap.size (.slice a8 m8 c8) (hdV B) at ho8; have hb8 := hb7.but hk8 (show ¬ _ = _ from fun e => HG.out.1 e.symm))
  | (have q := hi6; clear q; go_at_call 40; refine (inNum_any hi6 HV.out.2 2).mono ?_; rintro e w7 ⟨rfl, hi7, hk7⟩; rw [show (numS B (hdS2 B) 2).2 = hdL B from rfl]; change InAt w7 _ _ _ _ (hdS3 B) at hi7; have hb7 := hb6.but hk7 (show ¬ _ = _ from fun e => HG.out.1 e.symm))
  | (have q := hb5; clear q; go_at_call 40; refine (inNum_any hi5 HV.out.2 1).mono ?_; rintro e w6 ⟨rfl, hi6, hk6⟩; rw [show (numS B (hdS1 B) 1).2 = hdF B from rfl]; change InAt w6 _ _ _ _ (hdS2 B) at hi6; have hb6 := hb5.but hk6 (show ¬ _ = _ from fun e => HG.out.1 e.symm))
  | (go_at_call 40; refine (inNum_any hi3 HV.out.2 1).mono ?_; rintro e w4 ⟨rfl, hi4, hk4⟩; rw [show (numS B (some 0) 1).2 = hdK B from rfl]; change InAt w4 _ _ _ _ (hdS1 B) at hi4; have hb4 := hb3.but hk4 (show ¬ _ = _ from fun e => HG.out.1 e.symm))
  | (have q := hin9; clear q; refine wl_set (v := ptr gi) rfl onePI rfl rfl rfl rfl rfl (hb8.ext he9) (of_decide_eq_true rfl) ?_; intro w10 hb10 hk10 hx; clear hx; have HR : Hid (RS w1 w10 w2.heap.size (ck0 (hdK B : Int)) sv0 (hdV B) (some 0)) := ⟨((((((HG.out.2.2.of_but hk4 (fun k e => by subst e; exact HG.out.2.1)).of_but hk5 (fun k e => by subst e; exact he2.size)).of_but hk6 (fun k e => by subst e; exact HG.out.2.1)).of_but hk7 (fun k e => by subst e; exact HG.out.2.1)).of_but hk8 (fun k e => by subst e; exact HG.out.2.1)).trans he9).of_but hk10 (fun k e => by subst e; exact he2.size), he2.size, OwnC.nil _ _ _, fit0 HK.out, gi, bv, hb10, Nat.ne_of_gt (Nat.lt_of_lt_of_le hb8.lt hlo9), Nat.le_trans (Nat.le_trans he2.size (Nat.le_of_lt hb8.lt)) hlo9, (hin9.lower (Nat.le_trans he2.size (Nat.le_of_lt hb8.lt))).but hk10 (Nat.ne_of_gt (Nat.lt_of_lt_of_le hb8.lt hlo9)) (hin9.own.ne (hb8.ext he9) (by decide))⟩)
  | (refine wl_set (v := .int .i64 (hdK B : Int)) rfl one3 rfl rfl rfl rfl rfl hb4 (of_decide_eq_true rfl) ?_; intro w5 hb5' hk5 hx; clear hx; have hb5 : Blk w5 w2.heap.size (RV (ck0 (hdK B : Int)) sv0 (.pointer none)) 91 := hb5'; have hi5 := hi4.but hk5 (show ¬ _ = _ from HG.out.1) (hi4.own.ne hb4 (by decide)); clear hb5')
  | (have q := HR; clear q; go_at_call 42; refine (HD.out _ _ _ HR.out).mono ?_; rintro e w11 ⟨⟨y11, rfl⟩, s', st', HS0⟩; have HS : Hid (RS w1 w11 w2.heap.size d s' (hdV B) st') := HS0; clear HS0; obtain ⟨gi2, bv2, hb11, _, _, _⟩ := HS.out.rd)
  | (have q := HS; clear q; refine wl_loadM rfl rowC rfl rfl hb11 (CV d s').toList (RV.chunk d s' _) rfl ?_)
  | (have q := HS; clear q; go_at_call 10; refine (bytesC_any (c := d) (s := s') HS.out.own.at HS.out.fit).mono ?_; rintro e w12 ⟨he12, ⟨hgf, rfl⟩ | ⟨hgt, az, nz, cz, rfl, hnz, hoz⟩⟩; all_goals (try clear hnz))
  | (go_at_call 43; refine (equal_any hoz.bytes (HV.out.1.ext ((he1.trans HS.out.ext).trans he12))).mono ?_; rintro e w13 ⟨rfl, he13⟩; have HE13 : Hid (Ext w12 w13) := he13; clear he13; cases hbq : decide (bytesB d = B))
  | (have q := HE13; clear q; refine wl_loadM rfl rowC rfl rfl (hb11.ext (he12.trans HE13.out)) (CV d s').toList (RV.chunk d s' _) rfl ?_)
  | (have q := HE13; clear q; refine wl_store (D := CV d s') rfl rowC rfl rfl rfl (hb1.ext (HS.out.ext.trans (he12.trans HE13.out))) rfl rfl (CV.one _ _) ?_; intro w14 hb14 hk14 hx; clear hx)
  | (have q := HE13; clear q; refine wl_store (D := CV (ck0 0) sv0) rfl rowC rfl rfl rfl (hb1.ext (HS.out.ext.trans (he12.trans HE13.out))) rfl rfl (CV.one _ _) ?_; intro w14 hb14 hk14 hx; clear hx)
  | (have q := hgf; clear q; refine wl_store (D := CV (ck0 0) sv0) rfl rowC rfl rfl rfl (hb1.ext (HS.out.ext.trans he12)) rfl rfl (CV.one _ _) ?_; intro w14 hb14 hk14 hx; clear hx))
 ·
  refine bodyPost_ret (res_two (fn := Try.f17) (p := 2) (u := 3) rfl _ _ rfl rfl hb14 Try.underlying38 (by kernel_rfl)) rfl ?_
  exact ⟨((he1.trans HS.out.ext).trans he12).of_but hk14 (fun k e => by subst e; exact Nat.le_refl _), .inr ⟨fun h => absurd h.1 (by rw [hgf]; decide), rfl⟩⟩
 ·
  refine bodyPost_ret (res_two (fn := Try.f17) (p := 2) (u := 3) rfl _ _ rfl rfl hb14 Try.underlying38 (by kernel_rfl)) rfl ?_
  exact ⟨(((he1.trans HS.out.ext).trans he12).trans HE13.out).of_but hk14 (fun k e => by subst e; exact Nat.le_refl _), .inr ⟨fun h => of_decide_eq_false hbq h.2, rfl⟩⟩
 ·
  refine bodyPost_ret (res_two (fn := Try.f17) (p := 2) (u := 3) rfl _ _ rfl rfl hb14 Try.underlying38 (by kernel_rfl)) rfl ?_
  have HO := (HS.out.own.ext (he12.trans HE13.out)).but hk14 (hb1.ext (HS.out.ext.trans (he12.trans HE13.out))) noCk
  exact ⟨(((he1.trans HS.out.ext).trans he12).trans HE13.out).of_but hk14 (fun k e => by subst e; exact Nat.le_refl _), .inl ⟨hgt, of_decide_eq_true hbq, HS.out.fit, s', rfl, HO.at⟩⟩
set_option maxRecDepth 100000
/-- What is known of a slice of pairs and its elements. -/
structure PrT (t e : TypeId) : Prop where
 ut : Try.prog.underlying t = some (.slice e)
 info : (Try.prog.info? e).map (fun i => (i.zero, i.size, i.bytes)) = some (some (.agg #[.int .i64 0, .int .i64 0]), 2, 16)
theorem prG : PrT 35 67 := ⟨Try.underlying35, by kernel_rfl⟩
theorem prO : PrT 36 69 := ⟨Try.underlying36, by kernel_rfl⟩
theorem prG2 : PrT 28 70 := ⟨Try.underlying28, by kernel_rfl⟩
theorem prO2 : PrT 30 71 := ⟨Try.underlying30, by kernel_rfl⟩
theorem numTA : NumT Try.prog 27 65 .i64 8 := ⟨Try.underlying27, Try.underlying65, by kernel_rfl⟩
theorem numTD : NumT Try.prog 29 22 .u32 4 := ⟨Try.underlying29, Try.underlying22, by kernel_rfl⟩
theorem pcl_app (L M : List (Int × Int)) : pcl (L ++ M) = pcl L ++ pcl M := by simp [pcl]
theorem OwnP.form {e : TypeId} {w : World} {base : Nat} {v : Value} {L : List (Int × Int)} (h : OwnP e w base v L) : ∃ a cap, v = .slice a L.length cap := by
 rcases h.1.2 with ⟨h1, h2⟩ | ⟨g, cap, cur, h1, _⟩
 ·
  exact ⟨none, 0, by rw [h1, h2]⟩
 ·
  exact ⟨_, cap, h1⟩
theorem OwnP.lt {e : TypeId} {w : World} {base : Nat} {v : Value} {L : List (Int × Int)} (h : OwnP e w base v L) {g : Nat} (hg : v.ownBlock = some g) : base ≤ g ∧ g < w.heap.size := by
 rcases h.1.2 with ⟨rfl, _⟩ | ⟨g', cap, cur, rfl, hb, hc, _⟩
 ·
  cases hg
 ·
  simp only [Value.ownBlock, Option.some.injEq] at hg
  subst hg
  exact ⟨hb, (Array.getElem?_eq_some_iff.1 hc).1⟩
theorem OwnP.base {e : TypeId} {w : World} {base base' : Nat} {v : Value} {L : List (Int × Int)} (h : OwnP e w base v L) (hb : base' ≤ base) : OwnP e w base' v L := by
 refine ⟨⟨h.1.1, ?_⟩, h.2⟩
 rcases h.1.2 with h0 | ⟨g, cap, cur, h1, h2, h3⟩
 ·
  exact .inl h0
 ·
  exact .inr ⟨g, cap, cur, h1, by omega, h3⟩
/-- append onto pairs of the own, of whatever reads as pairs. -/
theorem run_appP {t e : TypeId} (hT : PrT t e) (w : World) (base ty : Nat) (v x : Value) (L M : List (Int × Int)) (hv : OwnP e w base v L) (hx : PairsAt w x M) (hlen : L.length + M.length ≤ 1000000) (hbase : base ≤ w.heap.size) :
  ∃ a c w', (Builtin.append_ #[t, t] ty #[v, x]).run Try.prog w = .ok (.slice a (L ++ M).length c) w' ∧ OwnP e w' base (.slice a (L ++ M).length c) (L ++ M) ∧ KeepBut (fun q => v.ownBlock = some q) w w' ∧ ∀ g, (Value.slice a (L ++ M).length c).ownBlock = some g → v.ownBlock = some g ∨ g = w.heap.size := by
 obtain ⟨i, hi, hinf⟩ := Option.map_eq_some_iff.1 hT.info
 simp only [Prod.mk.injEq] at hinf
 obtain ⟨hm, a, cap, rfl, ⟨h2, hnone⟩, h3, hc⟩ := hx
 cases a with
 | none =>
  have hM : M = [] := by
   cases M with
   | nil => rfl
   | cons p M =>
    obtain ⟨b, off, e1, _⟩ := hc 0 p rfl
    cases e1
  subst hM
  have hcap : cap = 0 := hnone rfl
  subst hcap
  obtain ⟨a', c', rfl⟩ := hv.form
  rw [List.append_nil]
  exact ⟨a', c', w, run_append_owned_none w base t ty e i 2 hT.ut hi _ _ _ hv.1, hv, KeepBut.refl _ _, fun g hg => .inl hg⟩
 | some ad =>
  obtain ⟨v', w', hrun, g1, g2, _, g4⟩ := run_append_own_at (P := Try.prog) w base t ty e i _ 2 16 hT.ut hi hinf.1 hinf.2.1 hinf.2.2 rfl (by omega) v L.length (pcl L) hv.1 ad M.length cap (pcl M) (pcl_len M)
   (fun j u hu => by
    have hj : j < M.length * 2 := by have := (List.getElem?_eq_some_iff.1 hu).1; rwa [pcl_len] at this
    have hi2 : j / 2 < M.length := by omega
    obtain ⟨b, off, e1, c0, c1⟩ := hc (j / 2) M[j / 2] (by simp [hi2])
    obtain ⟨p0, p1⟩ := pcl_get (L := M) (i := j / 2) (p := M[j / 2]) (by simp [hi2])
    cases e1
    rw [add_plain]
    rcases Nat.mod_two_eq_zero_or_one j with h | h
    ·
     have e2 : j / 2 * 2 = j := by omega
     rw [e2] at p0 c0
     rw [hu] at p0; cases p0; exact c0
    ·
     have e2 : j / 2 * 2 + 1 = j := by omega
     have e3 : off + j / 2 * 2 + 1 = off + j := by omega
     rw [e2] at p1
     rw [e3] at c1
     rw [hu] at p1; cases p1; exact c1)
   (fun u hu => by
    unfold pcl at hu
    rw [List.mem_flatMap] at hu
    obtain ⟨p, _, hp⟩ := hu
    simp at hp
    rcases hp with rfl | rfl <;> rfl) (by unfold maxLen; omega) (by omega) hbase
  have hO : OwnP e w' base v' (L ++ M) := ⟨by rw [List.length_append, pcl_app]; exact g1, by rw [List.length_append]; unfold maxLen; omega⟩
  obtain ⟨a', c', rfl⟩ := hO.form
  refine ⟨a', c', w', hrun, hO, KeepBut.grown g2 (fun r e => e), fun g hg => ?_⟩
  rcases g4 with g4 | g4
  ·
   exact .inl (by rw [← g4]; exact hg)
  ·
   exact .inr (by have := g4.symm.trans hg; simpa using this.symm)
theorem wl_appP {t e : TypeId} (hT : PrT t e) {w : World} {ops : Array Oper} {rest : List Oper} {o : Oper} {a : Act} {Q : Exit → Act → World → Prop} (hgd : o.guard = none) {s x : Operand} (ho : o.op = .call { callee := .builtin .append, args := #[s, x], argTypes := #[t, t] })
  {base : Nat} {v u : Value} {L M : List (Int × Int)} (hs : a.eval s = v) (hxx : a.eval x = u) (hv : OwnP e w base v L) (hx : PairsAt w u M) (hlen : L.length + M.length ≤ 1000000) (hbase : base ≤ w.heap.size)
  (h : ∀ ad n cap w', Hid (n = (L ++ M).length) → OwnP e w' base (.slice ad n cap) (L ++ M) → KeepBut (fun k => v.ownBlock = some k) w w' → (∀ g, (Value.slice ad n cap).ownBlock = some g → v.ownBlock = some g ∨ g = w.heap.size) → wpList Try.prog ops Q rest (a.put o.dst (.slice ad n cap)) w') : wpList Try.prog ops Q (o :: rest) a w := by
 obtain ⟨ad, cap, w', hr, h1, h2, h3⟩ := run_appP hT w base o.type v u L M hv hx hlen hbase
 refine wpList_of_run hgd (v := .slice ad (L ++ M).length cap) ?_ (h ad _ cap w' rfl h1 h2 h3)
 simp only [execOp, ho, resolve, invoke, builtin, Sem.run_bind, Sem.run_pure, Result.andThen_ok, List.map_toArray, List.map_cons, List.map_nil, hs, hxx, hr]
set_option maxRecDepth 100000
/-- Its lists are no longer than 3000. -/
structure Small (c : Ck) : Prop where
 text : c.text.length ≤ 3000
 rand : c.rand.length ≤ 3000
 addrs : c.addrs.length ≤ 3000
 info : c.info.length ≤ 3000
 gaps : c.gaps.length ≤ 3000
 dups : c.dups.length ≤ 3000
 ops : c.ops.length ≤ 3000
set_option maxRecDepth 100000
/-- Its lists are as long as memory may hold. -/
structure Lens (c : Ck) : Prop where
 text : c.text.length ≤ 140737488355328
 rand : c.rand.length ≤ 140737488355328
 addrs : c.addrs.length ≤ 140737488355328
 info : c.info.length ≤ 140737488355328
 gaps : c.gaps.length ≤ 140737488355328
 dups : c.dups.length ≤ 140737488355328
 ops : c.ops.length ≤ 140737488355328
def sizeC (c : Ck) : Nat := c.text.length + c.rand.length + c.info.length + 10 * (c.addrs.length + c.gaps.length + c.dups.length + c.ops.length)
theorem sizeC_small {c : Ck} (h : sizeC c ≤ 3000) : Small c := by
 unfold sizeC at h
 constructor <;> omega
theorem size_any {w : World} {c : Ck} {s : Sv} (ha : CkAt w s c) (hb : Lens c) :
  Calls Try.prog 8 #[.agg (CV c s)] w fun e w' => e = .returned (.int .i64 (sizeC c : Nat)) ∧ Ext w w' := by
 have l7 := (bytes_len ha.t).1
 have l13 := (bytes_len ha.r).1
 have l14 := (nums_len ha.a).1
 have l15 := (bytes_len ha.i).1
 have l16 := (PairsAt.len ha.g).1
 have l17 := (nums_len ha.d).1
 have l20 := (PairsAt.len ha.o).1
 rw [ci_len] at l17
 obtain ⟨b0, b1, b2, b3, b4, b5, b6⟩ := hb
 go_enter Try.func8, Try.ntmps8
 go_wp2_with (first
  | (refine wl_box (C := CV c s) rfl rfl rfl ?_; intro w1 hb1 he1 hx; clear hx; have c7 := cv7 hb1; have c13 := cv13 hb1; have c14 := cv14 hb1; have c15 := cv15 hb1; have c16 := cv16 hb1; have c17 := cv17 hb1; have c20 := cv20 hb1))
 go_ret
 have e : ((sizeC c : Nat) : Int) = (c.text.length : Int) + c.rand.length + c.info.length + 10 * ((c.addrs.length : Int) + c.gaps.length + c.dups.length + c.ops.length) := by unfold sizeC; omega
 rw [e]
 exact ⟨rfl, he1⟩
set_option maxRecDepth 100000
theorem pairs_one (w : World) (p : Int × Int) (e : TypeId) : PairsAt (w.alloc (.cells #[.int .i64 p.1, .int .i64 p.2] e)) (.slice (some ⟨w.heap.size, 0, none⟩) 1 1) [p] := by
 refine ⟨by simp [maxLen], _, 1, rfl, ⟨by simp, fun h => by cases h⟩, by simp [maxLen], fun i q hq => ?_⟩
 match i with
 | 0 =>
  simp at hq
  subst hq
  exact ⟨_, 0, rfl, cellNew _ _ _ _ _ _ rfl, cellNew _ _ _ _ _ _ rfl⟩
 | i + 1 => simp at hq
theorem wl_pushPr {t e : TypeId} (hT : PrT t e) {wr : World} {ops : Array Oper} {rest : List Oper} {o : Oper} {a : Act} {Q : Exit → Act → World → Prop} {C : Array Value} (hgd : o.guard = none) {s x : Operand} (ho : o.op = .call { callee := .builtin .append, args := #[s, x], argTypes := #[t, t] })
  {base b : Nat} {v : Value} {L : List (Int × Int)} {p : Int × Int} (hC : C = #[.int .i64 p.1, .int .i64 p.2]) (hs : a.eval s = v) (hx : a.eval x = .slice (some ⟨b, 0, none⟩) 1 1) (hb : b = wr.heap.size) (hv : OwnP e wr base v L) (hlen : L.length ≤ 900000) (hbase : base ≤ wr.heap.size)
  (h : ∀ ad n cap w', Hid (n = L.length + 1) → OwnP e w' base (.slice ad n cap) (L ++ [p]) → KeepBut (fun q => v.ownBlock = some q) wr w' → (∀ g, (Value.slice ad n cap).ownBlock = some g → v.ownBlock = some g ∨ wr.heap.size ≤ g) → wpList Try.prog ops Q rest (a.put o.dst (.slice ad n cap)) w') : wpList Try.prog ops Q (o :: rest) a (wr.alloc (.cells C e)) := by
 subst hC hb
 have he : Ext wr (wr.alloc (.cells #[.int .i64 p.1, .int .i64 p.2] e)) := Ext.alloc _ _
 refine wl_appP hT hgd ho hs hx (hv.ext he) (pairs_one wr p e) (by simp; omega) (Nat.le_trans hbase he.size) ?_
 intro ad n cap w' hn ho' hk hg
 exact h ad n cap w' (show _ = _ by rw [hn.out]; simp) ho' ((KeepBut.ext he).trans hk) (fun g hgg => (hg g hgg).imp id (fun e => by rw [e]; exact he.size))
theorem own_apart {w : World} {base base' e e' n n' size size' : Nat} {v v' : Value} {xs xs' : List Value} (h : w.ownsRow base e size v n xs) (h' : w.ownsRow base' e' size' v' n' xs') (he : e ≠ e') : ∀ k, v.ownBlock = some k → ¬ v'.ownBlock = some k := by
 intro k h1 h2
 rcases h'.2 with ⟨rfl, _⟩ | ⟨g', cap, cur, rfl, _, hg, _⟩
 ·
  cases h2
 ·
  simp only [Value.ownBlock, Option.some.injEq] at h2
  subst h2
  exact ownsRow_ne h (show Blk w _ cur e' from hg) he.symm _ h1 rfl
theorem take_snocP {L : List (Int × Int)} {k : Nat} (h : k < L.length) : L.take (k + 1) = L.take k ++ [L.getD k (0, 0)] := take_snocD (0, 0) h
theorem zeroD : (Try.prog.info? 32).bind (·.zero) = some (.agg (CV (ck0 0) sv0)) := by kernel_rfl
theorem zeroGp2 : (Try.prog.info? 70).bind (·.zero) = some (.agg #[.int .i64 0, .int .i64 0]) := by kernel_rfl
theorem zeroOp2 : (Try.prog.info? 71).bind (·.zero) = some (.agg #[.int .i64 0, .int .i64 0]) := by kernel_rfl
/-- A struct is built. -/
theorem wl_buildC {w : World} {ops : Array Oper} {rest : List Oper} {o : Oper} {a : Act} {Q : Exit → Act → World → Prop} (hgd : o.guard = none) {t : TypeId} {parts : Array (Nat × Operand)} {vals : List (Nat × Value)} {cells : Array Value} (ho : o.op = .build t parts)
  (hv : (parts.map fun (i, x) => (i, a.eval x)).toList = vals) (hc : Try.prog.built t vals = some cells) (h : wpList Try.prog ops Q rest (a.put o.dst (.agg cells)) w) : wpList Try.prog ops Q (o :: rest) a w := by
 refine wpList_of_run hgd (v := .agg cells) ?_ h
 have := run_build (P := Try.prog) w t (parts.map fun (i, x) => (i, a.eval x)) cells (by rw [hv]; exact hc)
 simp [execOp, ho, this]
theorem builtD (c : Ck) (s : Sv) : Try.prog.built 32 [(0, .int .i64 c.kind), (1, .agg (PV c s)), (2, .int .u32 (c.tag : Int)), (3, .int .i64 c.win), (4, .int .i64 c.out), (5, .int .i64 c.inn), (6, .int .u32 (c.tsn : Int)), (7, .slice s.rA s.rN s.rC), (8, .slice s.aA s.aN s.aC), (9, .slice s.iA s.iN s.iC), (11, .slice s.dA s.dN s.dC), (12, .int .i64 c.cause), (13, .int .u32 (c.serial : Int)), (15, .bool c.ok)] = some (CV c { s with gA := none, gN := 0, gC := 0, oA := none, oN := 0, oC := 0 }) := by kernel_rfl
/-- A chunk that holds the same, in memory of which nothing else is known. -/
def LikeIs (w : World) (c : Ck) (e : Ending) (w' : World) : Prop := ∃ s, e = .returned (.agg (CV c s)) ∧ CkAt w' s c ∧ Ext w w'
set_option maxHeartbeats 4000000 in
theorem document_any {w : World} {c : Ck} {s : Sv} (ha : CkAt w s c) (hs : Small c) :
  Calls Try.prog 14 #[.agg (CV c s)] w (LikeIs w c) := by
 have HA : Hid (CkAt w s c ∧ Small c) := ⟨ha, hs⟩
 have hgN : s.gN = c.gaps.length := (PairsAt.len ha.g).1
 have hoN : Hid (s.oN = c.ops.length) := (PairsAt.len ha.o).1
 clear ha hs
 go_enter Try.func14, Try.ntmps14
 refine wp_seq_k (fun K hK => ?_)
 have HK := Stop.mk hK
 clear hK
 go_wp2_with (first
  | (have q := hb1; clear q; refine wl_alloc rfl rfl zeroD ?_; intro w2 hb2 he2 hx; clear hx; have HQ1 : Hid (w.heap.size < w1.heap.size) := hb1.lt; replace hb1 := hb1.ext he2; have HE2 : Hid (Ext w w2) := he1.trans he2; clear he1 he2)
  | (refine wl_box (C := CV c s) rfl rfl rfl ?_; intro w1 hb1 he1 hx; clear hx))
 refine HK.go _ _ ?_
 refine wp_seq_k (fun K2 hK2 => ?_)
 have HK2 := Stop.mk hK2
 clear hK2
 refine wp_region_lit ?_
 refine wpList_of_run (v := .pointer (some ⟨w.heap.size, 0, none⟩)) (w' := w2) rfl (by first | rfl | simp [execOp, go_sem]) ?_
 simp only [Act.put, List.setIfInBounds_toArray, List.set_cons_succ, List.set_cons_zero]
 refine wpList_of_run rfl (exg one3 rfl rfl (cv0 hb1)) ?_
 simp only [Act.put, List.setIfInBounds_toArray, List.set_cons_succ, List.set_cons_zero]
 refine wpList_of_run (v := .pointer (some ⟨w.heap.size, 1, none⟩)) (w' := w2) rfl (by first | rfl | simp [execOp, go_sem]) ?_
 simp only [Act.put, List.setIfInBounds_toArray, List.set_cons_succ, List.set_cons_zero]
 refine wpList_of_run (v := .agg (PV c s)) rfl (exec_load rowPc rfl rfl hb1 (PV c s).toList (CV.piece c s) rfl) ?_
 simp only [Act.put, List.setIfInBounds_toArray, List.set_cons_succ, List.set_cons_zero]
 refine wpList_of_run (v := .pointer (some ⟨w.heap.size, 8, none⟩)) (w' := w2) rfl (by first | rfl | simp [execOp, go_sem]) ?_
 simp only [Act.put, List.setIfInBounds_toArray, List.set_cons_succ, List.set_cons_zero]
 refine wpList_of_run rfl (exg one22 rfl rfl (cv8 hb1)) ?_
 simp only [Act.put, List.setIfInBounds_toArray, List.set_cons_succ, List.set_cons_zero]
 refine wpList_of_run (v := .pointer (some ⟨w.heap.size, 9, none⟩)) (w' := w2) rfl (by first | rfl | simp [execOp, go_sem]) ?_
 simp only [Act.put, List.setIfInBounds_toArray, List.set_cons_succ, List.set_cons_zero]
 refine wpList_of_run rfl (exg one3 rfl rfl (cv9 hb1)) ?_
 simp only [Act.put, List.setIfInBounds_toArray, List.set_cons_succ, List.set_cons_zero]
 refine wpList_of_run (v := .pointer (some ⟨w.heap.size, 10, none⟩)) (w' := w2) rfl (by first | rfl | simp [execOp, go_sem]) ?_
 simp only [Act.put, List.setIfInBounds_toArray, List.set_cons_succ, List.set_cons_zero]
 refine wpList_of_run rfl (exg one3 rfl rfl (cv10 hb1)) ?_
 simp only [Act.put, List.setIfInBounds_toArray, List.set_cons_succ, List.set_cons_zero]
 refine wpList_of_run (v := .pointer (some ⟨w.heap.size, 11, none⟩)) (w' := w2) rfl (by first | rfl | simp [execOp, go_sem]) ?_
 simp only [Act.put, List.setIfInBounds_toArray, List.set_cons_succ, List.set_cons_zero]
 refine wpList_of_run rfl (exg one3 rfl rfl (cv11 hb1)) ?_
 simp only [Act.put, List.setIfInBounds_toArray, List.set_cons_succ, List.set_cons_zero]
 refine wpList_of_run (v := .pointer (some ⟨w.heap.size, 12, none⟩)) (w' := w2) rfl (by first | rfl | simp [execOp, go_sem]) ?_
 simp only [Act.put, List.setIfInBounds_toArray, List.set_cons_succ, List.set_cons_zero]
 refine wpList_of_run rfl (exg one22 rfl rfl (cv12 hb1)) ?_
 simp only [Act.put, List.setIfInBounds_toArray, List.set_cons_succ, List.set_cons_zero]
 refine wpList_of_run (v := .pointer (some ⟨w.heap.size, 13, none⟩)) (w' := w2) rfl (by first | rfl | simp [execOp, go_sem]) ?_
 simp only [Act.put, List.setIfInBounds_toArray, List.set_cons_succ, List.set_cons_zero]
 refine wpList_of_run rfl (exg oneS rfl rfl (cv13 hb1)) ?_
 simp only [Act.put, List.setIfInBounds_toArray, List.set_cons_succ, List.set_cons_zero]
 refine wpList_of_run (v := .pointer (some ⟨w.heap.size, 14, none⟩)) (w' := w2) rfl (by first | rfl | simp [execOp, go_sem]) ?_
 simp only [Act.put, List.setIfInBounds_toArray, List.set_cons_succ, List.set_cons_zero]
 refine wpList_of_run rfl (exg oneSA rfl rfl (cv14 hb1)) ?_
 simp only [Act.put, List.setIfInBounds_toArray, List.set_cons_succ, List.set_cons_zero]
 refine wpList_of_run (v := .pointer (some ⟨w.heap.size, 15, none⟩)) (w' := w2) rfl (by first | rfl | simp [execOp, go_sem]) ?_
 simp only [Act.put, List.setIfInBounds_toArray, List.set_cons_succ, List.set_cons_zero]
 refine wpList_of_run rfl (exg oneS rfl rfl (cv15 hb1)) ?_
 simp only [Act.put, List.setIfInBounds_toArray, List.set_cons_succ, List.set_cons_zero]
 refine wpList_of_run (v := .pointer (some ⟨w.heap.size, 17, none⟩)) (w' := w2) rfl (by first | rfl | simp [execOp, go_sem]) ?_
 simp only [Act.put, List.setIfInBounds_toArray, List.set_cons_succ, List.set_cons_zero]
 refine wpList_of_run rfl (exg oneSD rfl rfl (cv17 hb1)) ?_
 simp only [Act.put, List.setIfInBounds_toArray, List.set_cons_succ, List.set_cons_zero]
 refine wpList_of_run (v := .pointer (some ⟨w.heap.size, 18, none⟩)) (w' := w2) rfl (by first | rfl | simp [execOp, go_sem]) ?_
 simp only [Act.put, List.setIfInBounds_toArray, List.set_cons_succ, List.set_cons_zero]
 refine wpList_of_run rfl (exg one3 rfl rfl (cv18 hb1)) ?_
 simp only [Act.put, List.setIfInBounds_toArray, List.set_cons_succ, List.set_cons_zero]
 refine wpList_of_run (v := .pointer (some ⟨w.heap.size, 19, none⟩)) (w' := w2) rfl (by first | rfl | simp [execOp, go_sem]) ?_
 simp only [Act.put, List.setIfInBounds_toArray, List.set_cons_succ, List.set_cons_zero]
 refine wpList_of_run rfl (exg one22 rfl rfl (cv19 hb1)) ?_
 simp only [Act.put, List.setIfInBounds_toArray, List.set_cons_succ, List.set_cons_zero]
 refine wpList_of_run (v := .pointer (some ⟨w.heap.size, 21, none⟩)) (w' := w2) rfl (by first | rfl | simp [execOp, go_sem]) ?_
 simp only [Act.put, List.setIfInBounds_toArray, List.set_cons_succ, List.set_cons_zero]
 refine wpList_of_run rfl (exg one4 rfl rfl (cv21 hb1)) ?_
 simp only [Act.put, List.setIfInBounds_toArray, List.set_cons_succ, List.set_cons_zero]
 refine wl_buildC rfl rfl ?hv (builtD c s) ?hk
 case hv => first | kernel_rfl | (simp only [List.map_toArray, List.map_cons, List.map_nil]; rfl)
 simp only [Act.put, List.setIfInBounds_toArray, List.set_cons_succ, List.set_cons_zero]
 refine wl_alloc rfl rfl zeroD ?_
 intro w3 hb3 he3 hx
 clear hx
 have HW : Hid (w.heap.size < w2.heap.size) := hb1.lt
 have HQ2 : Hid (w1.heap.size < w2.heap.size) := hb2.lt
 replace hb1 := hb1.ext he3
 replace hb2 := hb2.ext he3
 have HE3 : Hid (Ext w w3) := HE2.out.trans he3
 clear he3
 refine wl_store (D := CV c { s with gA := none, gN := 0, gC := 0, oA := none, oN := 0, oC := 0 }) rfl rowC2 rfl rfl rfl hb3 rfl rfl (CV.one _ _) ?_
 intro w4 hb4 hk4 hx4
 clear hx4
 simp only [Act.put]
 go_wp2
 refine HK2.go _ _ ?_
 have HG3 : Hid (w.heap.size ≤ w2.heap.size) := Nat.le_of_lt HW.out
 have HG2 : Hid (w1.heap.size < w2.heap.size ∧ w.heap.size < w1.heap.size) := ⟨HQ2.out, HQ1.out⟩
 have HS : Hid (Blk w4 w2.heap.size (CV c { s with gA := none, gN := 0, gC := 0, oA := none, oN := 0, oC := 0 }) 32 ∧ Ext w w4 ∧ Blk w4 w.heap.size (CV c s) 38 ∧ Blk w4 w1.heap.size (CV (ck0 0) sv0) 32) := ⟨hb4, HE3.out.of_but hk4 (fun g e => by subst e; exact HG3.out), hb1.but hk4 (Nat.ne_of_lt HW.out), hb2.but hk4 (Nat.ne_of_lt HQ2.out)⟩
 clear hb1 hb2 hb3 hb4 hk4
 have g16 := cv16 HS.out.2.2.1
 obtain ⟨N, hN⟩ : ∃ N, N = c.gaps.length := ⟨_, rfl⟩
 rw [hgN, ← hN] at g16
 have HNg : Hid (N = c.gaps.length) := hN
 have hn3 : N ≤ 3000 := by rw [hN]; exact HA.out.2.gaps
 have HSmg : Hid (c.gaps.length ≤ 3000) := HA.out.2.gaps
 have HSmo : Hid (c.ops.length ≤ 3000) := HA.out.2.ops
 have HAt : Hid (PairsAt w (.slice s.gA N s.gC) c.gaps) := show PairsAt _ _ _ by rw [hN, ← hgN]; exact HA.out.1.g
 clear hN hgN
 obtain ⟨aA, haA⟩ : ∃ x, x = s.gA := ⟨_, rfl⟩
 rw [← haA] at HAt
 go_wp2
 rw [← haA]
 clear g16 haA
 go_loopg [40] N (fun gm t wr => ∃ (k : Nat) (ga : Option Addr) (gn gc : Nat), k ≤ N ∧ gm = N - k ∧ t = .int .i64 (k : Int) ∧ Hid (OwnP 70 wr w.heap.size (.slice ga gn gc) (c.gaps.take k) ∧ Blk wr w2.heap.size (CV c { s with gA := ga, gN := gn, gC := gc, oA := none, oN := 0, oC := 0 }) 32 ∧ Ext w wr ∧ Blk wr w.heap.size (CV c s) 38 ∧ Blk wr w1.heap.size (CV (ck0 0) sv0) 32))
 case atStart => exact ⟨0, none, 0, 0, Nat.zero_le _, rfl, rfl, by rw [List.take_zero]; exact OwnP.nil _ _ _, HS.out.1, HS.out.2.1, HS.out.2.2⟩
 case round =>
  obtain ⟨k, ga, gn, gc, hk, rfl, rfl, HR⟩ := hrel
  by_cases hlt : k < N
  ·
   have hd : decide ((k : Int) < (N : Int)) = true := decide_eq_true (by omega)
   have hkL : k < c.gaps.length := by rw [← HNg.out]; exact hlt
   have hkn : (k : Int) < (N : Int) := by omega
   obtain ⟨b, off, rfl, hc0, hc1⟩ := HAt.out.cellAt k hkL
   replace hc0 := HR.out.2.2.1.cell hc0
   replace hc1 := HR.out.2.2.1.cell hc1
   have HL : Hid (c.gaps.take (k + 1) = c.gaps.take k ++ [c.gaps.getD k (0, 0)] ∧ (c.gaps.take k).length ≤ 3000 ∧ (c.gaps.take k).length = k) := ⟨take_snocP hkL, by rw [List.length_take]; have := HSmg.out; omega, by rw [List.length_take]; omega⟩
   obtain ⟨q, hq⟩ : ∃ q, q = c.gaps.getD k (0, 0) := ⟨_, rfl⟩
   rw [← hq] at hc0 hc1 HL
   clear hq hkL
   go_wp2_with (first
    | (refine wl_loadP rfl rowGp rfl rfl hc0 hc1 ?_)
    | (refine wl_alloc rfl rfl zeroGp ?_; intro w6 hb6 he6 hx; clear hx)
    | (refine wl_store (D := #[.int .i64 q.1, .int .i64 q.2]) rfl rowGp rfl rfl rfl hb6 rfl rfl (one_pair _ _) ?_; intro w7 hb7 hk7 hx; clear hx; have hO7 := (HR.out.1.ext he6).but hk7 (ownsRow_ne (HR.out.1.ext he6).1 hb6 (by decide)); have hB7 := (HR.out.2.1.ext he6).but hk7 (Nat.ne_of_lt HR.out.2.1.lt); have HE7 : Hid (Ext w w7) := (HR.out.2.2.1.trans he6).of_but hk7 (fun g e => by subst e; exact HR.out.2.2.1.size); have x70 := ((HR.out.2.2.2.1).ext he6).but hk7 (Nat.ne_of_lt (HR.out.2.2.2.1).lt); have x71 := ((HR.out.2.2.2.2).ext he6).but hk7 (Nat.ne_of_lt (HR.out.2.2.2.2).lt); clear hk7 hb6; have d7 := cv16 hB7)
    | (refine wl_load rfl rowGp rfl rfl hb7 rfl ?_)
    | (at_builtin; refine wl_pushPr prG2 (L := c.gaps.take k) (p := q) (v := .slice ga gn gc) (base := w.heap.size) rfl rfl rfl rfl rfl rfl hO7 (by have := HL.out.2.1; omega) HE7.out.size ?_; intro ad n8 cap w8 hn8 ho8 hk8 hg8; clear hg8; have hB8 := hB7.but hk8 (fun e => ownsRow_ne hO7.1 hB7 (by decide) _ e rfl); have HE8 : Hid (Ext w w8) := HE7.out.of_but hk8 (fun g e => (hO7.lt e).1); have x80 := (x70).but hk8 (fun e => ownsRow_ne hO7.1 (x70) (by decide) _ e rfl); have x81 := (x71).but hk8 (fun e => ownsRow_ne hO7.1 (x71) (by decide) _ e rfl); clear hk8 d7 hb7)
    | (refine wl_set (v := .slice ad n8 cap) rfl oneSG2 rfl rfl rfl rfl rfl hB8 (of_decide_eq_true rfl) ?_; intro w9 hbx hk9 hx9; clear hx9; have hB9 : Blk w9 w2.heap.size (CV c { s with gA := ad, gN := n8, gC := cap, oA := none, oN := 0, oC := 0 }) 32 := hbx; have hO9 := ho8.but hk9 (ownsRow_ne ho8.1 hB8 (by decide)); have HE9 : Hid (Ext w w9) := HE8.out.of_but hk9 (fun g e => by subst e; exact HG3.out); have x90 := (x80).but hk9 (Nat.ne_of_lt HW.out); have x91 := (x81).but hk9 (Nat.ne_of_lt HQ2.out); clear hbx hk9))
   rw [← HL.out.1] at hO9
   go_roundg (N - (k + 1))
   case measure => omega
   case rel => exact ⟨k + 1, ad, n8, cap, by omega, rfl, by simp, hO9, hB9, HE9.out, x90, x91⟩
  ·
   have hd : decide ((k : Int) < (N : Int)) = false := decide_eq_false (by omega)
   have hke : c.gaps.take k = c.gaps := List.take_of_length_le (by rw [← HNg.out]; omega)
   rw [hke] at HR
   clear hke
   have g20 := cv20 HR.out.2.2.2.1
   obtain ⟨M, hM⟩ : ∃ M, M = c.ops.length := ⟨_, rfl⟩
   rw [hoN.out, ← hM] at g20
   have HNo : Hid (M = c.ops.length) := hM
   have hm3 : M ≤ 3000 := by rw [hM]; exact HA.out.2.ops
   have HBt : Hid (PairsAt w (.slice s.oA M s.oC) c.ops) := show PairsAt _ _ _ by rw [hM, ← hoN.out]; exact HA.out.1.o
   obtain ⟨bA, hbA⟩ : ∃ x, x = s.oA := ⟨_, rfl⟩
   rw [← hbA] at HBt
   clear hM
   go_wp2
   rw [← hbA]
   clear g20 hbA hd hlt hk
   have HS : Hid (Blk wr w2.heap.size (CV c { s with gA := ga, gN := gn, gC := gc, oA := none, oN := 0, oC := 0 }) 32 ∧ Ext w wr ∧ Blk wr w.heap.size (CV c s) 38 ∧ Blk wr w1.heap.size (CV (ck0 0) sv0) 32 ∧ OwnP 70 wr w.heap.size (.slice ga gn gc) c.gaps) := ⟨HR.out.2.1, HR.out.2.2.1, HR.out.2.2.2.1, HR.out.2.2.2.2, HR.out.1⟩
   clear HR
   go_loopg [54] M (fun gm t wr => ∃ (k : Nat) (oa : Option Addr) (on oc : Nat), k ≤ M ∧ gm = M - k ∧ t = .int .i64 (k : Int) ∧ Hid (OwnP 71 wr w.heap.size (.slice oa on oc) (c.ops.take k) ∧ Blk wr w2.heap.size (CV c { s with gA := ga, gN := gn, gC := gc, oA := oa, oN := on, oC := oc }) 32 ∧ Ext w wr ∧ Blk wr w.heap.size (CV c s) 38 ∧ Blk wr w1.heap.size (CV (ck0 0) sv0) 32 ∧ OwnP 70 wr w.heap.size (.slice ga gn gc) c.gaps))
   case atStart => exact ⟨0, none, 0, 0, Nat.zero_le _, rfl, rfl, by rw [List.take_zero]; exact OwnP.nil _ _ _, HS.out.1, HS.out.2.1, HS.out.2.2⟩
   case round =>
    obtain ⟨k, oa, on, oc, hk, rfl, rfl, HR⟩ := hrel
    by_cases hlt : k < M
    ·
     have hd : decide ((k : Int) < (M : Int)) = true := decide_eq_true (by omega)
     have hkL : k < c.ops.length := by rw [← HNo.out]; exact hlt
     have hkn : (k : Int) < (M : Int) := by omega
     obtain ⟨b, off, rfl, hc0, hc1⟩ := HBt.out.cellAt k hkL
     replace hc0 := HR.out.2.2.1.cell hc0
     replace hc1 := HR.out.2.2.1.cell hc1
     have HL : Hid (c.ops.take (k + 1) = c.ops.take k ++ [c.ops.getD k (0, 0)] ∧ (c.ops.take k).length ≤ 3000 ∧ (c.ops.take k).length = k) := ⟨take_snocP hkL, by rw [List.length_take]; have := HSmo.out; omega, by rw [List.length_take]; omega⟩
     obtain ⟨q, hq⟩ : ∃ q, q = c.ops.getD k (0, 0) := ⟨_, rfl⟩
     rw [← hq] at hc0 hc1 HL
     clear hq hkL
     go_wp2_with (first
      | (refine wl_loadP rfl rowOp rfl rfl hc0 hc1 ?_)
      | (refine wl_alloc rfl rfl zeroOp ?_; intro w6 hb6 he6 hx; clear hx)
      | (refine wl_store (D := #[.int .i64 q.1, .int .i64 q.2]) rfl rowOp rfl rfl rfl hb6 rfl rfl (one_pair _ _) ?_; intro w7 hb7 hk7 hx; clear hx; have hO7 := (HR.out.1.ext he6).but hk7 (ownsRow_ne (HR.out.1.ext he6).1 hb6 (by decide)); have hB7 := (HR.out.2.1.ext he6).but hk7 (Nat.ne_of_lt HR.out.2.1.lt); have HE7 : Hid (Ext w w7) := (HR.out.2.2.1.trans he6).of_but hk7 (fun g e => by subst e; exact HR.out.2.2.1.size); have x70 := ((HR.out.2.2.2.1).ext he6).but hk7 (Nat.ne_of_lt (HR.out.2.2.2.1).lt); have x71 := ((HR.out.2.2.2.2.1).ext he6).but hk7 (Nat.ne_of_lt (HR.out.2.2.2.2.1).lt); have x72 := ((HR.out.2.2.2.2.2).ext he6).but hk7 (ownsRow_ne ((HR.out.2.2.2.2.2).ext he6).1 hb6 (by decide)); clear hk7 hb6; have d7 := cv20 hB7)
      | (refine wl_load rfl rowOp rfl rfl hb7 rfl ?_)
      | (at_builtin; refine wl_pushPr prO2 (L := c.ops.take k) (p := q) (v := .slice oa on oc) (base := w.heap.size) rfl rfl rfl rfl rfl rfl hO7 (by have := HL.out.2.1; omega) HE7.out.size ?_; intro ad n8 cap w8 hn8 ho8 hk8 hg8; clear hg8; have hB8 := hB7.but hk8 (fun e => ownsRow_ne hO7.1 hB7 (by decide) _ e rfl); have HE8 : Hid (Ext w w8) := HE7.out.of_but hk8 (fun g e => (hO7.lt e).1); have x80 := (x70).but hk8 (fun e => ownsRow_ne hO7.1 (x70) (by decide) _ e rfl); have x81 := (x71).but hk8 (fun e => ownsRow_ne hO7.1 (x71) (by decide) _ e rfl); have x82 := (x72).but hk8 (fun k e1 e2 => own_apart (x72).1 hO7.1 (by decide) k e1 e2); clear hk8 d7 hb7)
      | (refine wl_set (v := .slice ad n8 cap) rfl oneSO2 rfl rfl rfl rfl rfl hB8 (of_decide_eq_true rfl) ?_; intro w9 hbx hk9 hx9; clear hx9; have hB9 : Blk w9 w2.heap.size (CV c { s with gA := ga, gN := gn, gC := gc, oA := ad, oN := n8, oC := cap }) 32 := hbx; have hO9 := ho8.but hk9 (ownsRow_ne ho8.1 hB8 (by decide)); have HE9 : Hid (Ext w w9) := HE8.out.of_but hk9 (fun g e => by subst e; exact HG3.out); have x90 := (x80).but hk9 (Nat.ne_of_lt HW.out); have x91 := (x81).but hk9 (Nat.ne_of_lt HQ2.out); have x92 := (x82).but hk9 (ownsRow_ne (x82).1 hB8 (by decide)); clear hbx hk9))
     rw [← HL.out.1] at hO9
     go_roundg (M - (k + 1))
     case measure => omega
     case rel => exact ⟨k + 1, ad, n8, cap, by omega, rfl, by simp, hO9, hB9, HE9.out, x90, x91, x92⟩
    ·
     have hd : decide ((k : Int) < (M : Int)) = false := decide_eq_false (by omega)
     have hke : c.ops.take k = c.ops := List.take_of_length_le (by rw [← HNo.out]; omega)
     rw [hke] at HR
     clear hke
     go_wp2_with (first
      | (refine wl_load rfl rowC2 rfl rfl HR.out.2.1 rfl ?_)
      | (refine wl_store (D := CV c { s with gA := ga, gN := gn, gC := gc, oA := oa, oN := on, oC := oc }) rfl rowC2 rfl rfl rfl HR.out.2.2.2.2.1 rfl rfl (CV.one _ _) ?_; intro w9 hb9 hk9 hx9; clear hx9))
     refine bodyPost_ret (results_cell_row (fn := Try.f14) (p := 2) rfl _ w9 _ _ _ (0, 0) _ rfl hb9 Try.underlying32 rfl (by kernel_rfl)) rfl ?_
     have hE : Ext w w9 := HR.out.2.2.1.of_but hk9 (fun g e => by subst e; exact Nat.le_of_lt HG2.out.2)
     exact ⟨_, rfl, ⟨HA.out.1.t.ext hE, HA.out.1.r.ext hE, HA.out.1.a.ext hE, HA.out.1.i.ext hE, (HR.out.2.2.2.2.2.but hk9 (ownsRow_ne HR.out.2.2.2.2.2.1 HR.out.2.2.2.2.1 (by decide))).pairs, HA.out.1.d.ext hE, (HR.out.1.but hk9 (ownsRow_ne HR.out.1.1 HR.out.2.2.2.2.1 (by decide))).pairs⟩, hE⟩
end Tlv
end Go.Proofs.Ytbahelhohkhkmaa
