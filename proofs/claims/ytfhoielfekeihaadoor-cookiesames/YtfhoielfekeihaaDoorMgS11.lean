/- For any two cookies the law CookieSames answers true and leaves its arguments as they were: which cookies are the same is what the document says, and a copy is the same. Conditions: the package-level tables squareRoots and cubeRoots hold what the program's text lays (tied). -/
import Derived.Test.YtfhoielfekeihaaDoorMgS10
import Derived.Lib.SmallJoins
import Derived.SizedLaws
import Derived.Test.YtfhoielfekeihaaDoorRows
import Derived.MakeChecks
import Derived.WalkKit
import Derived.ProofKit
import Derived.OpenShut
import Derived.ShutString
import Derived.ChangeOld
import Derived.Below
import Derived.Test.YtfhoielfekeihaaDoorCards
import Derived.Test.YtfhoielfekeihaaDoorTie
import Derived.SevenTiedAt
import Derived.LaidMore
import Derived.Stop.Joined
/- The law's fixed fact: the chapter's example. Condition: the tables hold what the text lays. -/
namespace Go.Proofs.YtfhoielfekeihaaDoor
namespace Tlv
open Go Go.RowKit
set_option linter.unusedVariables false
set_option linter.unusedSimpArgs false
set_option maxRecDepth 100000


theorem is_anyE (n m : Int) (w : World) : Calls Tryd.prog 14 #[errV n, .int .i64 m] w fun e w' => e = .returned (.bool (n == m)) ∧ Ext w w' := by
  refine (is_any n m w).mono ?_
  rintro e w' ⟨rfl, hw⟩
  exact ⟨rfl, by rw [hw]; exact Ext.refl _⟩
theorem make_good {w : World} {kv : Value} {K : List Nat} {c : Co} {s : So} (hT : Tabs w) (hk : BytesAt w kv K) (hK : K.length ≤ 90000) (ha : CoAt w s c) (hf : FitC c) (hg : goodK c = true) :
    Calls Tryd.prog 10 #[kv, .agg (KV c s)] w fun e w' => Ext w w' ∧ ∃ a n cp, e = .returned (.tuple #[.slice a n cp, .nilIface]) ∧ n = (makeK K c).length ∧ OB w' w.heap.size (.slice a n cp) (makeK K c) := by
  refine (make_any hT hk hK ha hf).mono ?_
  rintro e w' ⟨he, ⟨h, _⟩ | ⟨_, h⟩⟩
  · rw [hg] at h; cases h
  · exact ⟨he, h⟩
theorem make_bad {w : World} {kv : Value} {K : List Nat} {c : Co} {s : So} (hT : Tabs w) (hk : BytesAt w kv K) (hK : K.length ≤ 90000) (ha : CoAt w s c) (hf : FitC c) (hg : goodK c = false) :
    Calls Tryd.prog 10 #[kv, .agg (KV c s)] w fun e w' => e = .returned (.tuple #[.slice none 0 0, errF]) ∧ Ext w w' := by
  refine (make_any hT hk hK ha hf).mono ?_
  rintro e w' ⟨he, ⟨_, h⟩ | ⟨h, _⟩⟩
  · exact ⟨h, he⟩
  · rw [hg] at h; cases h
theorem body_make (K : List Nat) (c : Co) : bodyB (makeK K c) = laidK c ∧ sealB (makeK K c) = Mac.tag K (laidK c) := by
  unfold bodyB sealB
  rw [makeK_len, Nat.add_sub_cancel]
  exact ⟨List.take_left' rfl, List.drop_left' rfl⟩
/-- What was made is opened. -/
theorem open_made {K : List Nat} {c : Co} {now : Int} (hg : goodK c = true) (hf : FitC c) : openE K (makeK K c) now = (if 0 < lateK c now then 8 else 0) ∧ readK (bodyB (makeK K c)) = c := by
  have h1 := body_make K c
  have h2 := read_laid hg hf
  have h3 : ¬ (makeK K c).length < 32 := by rw [makeK_len]; omega
  rw [openE_in h3 (by rw [h1.1, h1.2]), h1.1, h2.1, h2.2, hg]
  exact ⟨rfl, rfl⟩
def coA : Co := ⟨5, 10, 1, 2, 0, 0, 0, 1, 1, [3], [1], [2], 0, 0⟩
theorem goodA : goodK coA = true := by decide
theorem fitA : FitC coA := ⟨by decide, by decide, by decide, by decide, by decide, by decide, by decide, by decide, by decide, by decide, by decide, by decide⟩
theorem builtA (a b c : Nat) : Tryd.prog.built 29 [(0, .int .i64 5), (1, .int .i64 10), (2, .int .u32 1), (3, .int .u32 2), (7, .int .i64 1), (8, .int .i64 1), (9, .slice (some ⟨a, 0, none⟩) 1 1), (10, .slice (some ⟨b, 0, none⟩) 1 1), (11, .slice (some ⟨c, 0, none⟩) 1 1)] = some (KV coA ⟨some ⟨a, 0, none⟩, 1, 1, some ⟨b, 0, none⟩, 1, 1, some ⟨c, 0, none⟩, 1, 1⟩) := by kernel_rfl
set_option maxHeartbeats 8000000 in
theorem alive_any (w : World) (hT : Tabs w) : Calls Tryd.prog 7 #[] w fun e w' => e = .returned (.bool true) ∧ Ext w w' := by
  have HT : Hid (Tabs w) := hT
  clear hT
  obtain ⟨B, hB⟩ : ∃ B, B = makeK [115] coA := ⟨_, rfl⟩
  have HB : Hid (B = makeK [115] coA ∧ B.length ≤ 300 ∧ openE [115] B 15 = 0 ∧ openE [115] B 16 = 8) := ⟨hB, by rw [hB, makeK_len]; have := laidK_le goodA; omega, by rw [hB, (open_made goodA fitA).1]; decide, by rw [hB, (open_made goodA fitA).1]; decide⟩
  clear hB
  go_enter Tryd.func7, Tryd.ntmps7
  refine wp_seq_k (fun K0 hK => ?_)
  have HK0 := Stop.mk hK
  clear hK
  go_wp2
  refine HK0.go _ _ ?_
  clear HK0
  refine wp_seq_k (fun K1 hK => ?_)
  have HK1 := Stop.mk hK
  clear hK
  go_wp2_with (first
    | (refine stop_at 3 rfl ?_)
    | fail)
  refine ⟨?_⟩
  obtain ⟨sA, hsA⟩ : ∃ s : So, s = ⟨some ⟨w.heap.size, 0, none⟩, 1, 1, some ⟨w.heap.size + 1, 0, none⟩, 1, 1, some ⟨w.heap.size + 1 + 1, 0, none⟩, 1, 1⟩ := ⟨_, rfl⟩
  obtain ⟨w1, hw1⟩ : ∃ x, x = ((w.alloc (.cells #[.int .i64 3] 54)).alloc (.cells #[.int .u8 1] 5)).alloc (.cells #[.int .u8 2] 5) := ⟨_, rfl⟩
  have HA1 : Hid (CoAt w1 sA coA ∧ Ext w w1) := by
    subst hsA hw1
    refine ⟨⟨?_, ?_, ?_⟩, ((Ext.alloc _ _).trans (Ext.alloc _ _)).trans (Ext.alloc _ _)⟩
    · exact (NumsAt.one w 3 54 _ rfl).ext ((Ext.alloc _ _).trans (Ext.alloc _ _))
    · exact BytesAt.ext (bytes_of_nums (l := [1]) (NumsAt.one (w.alloc (.cells #[.int .i64 3] 54)) 1 5 _ (by simp)) (fun x hx => by simp at hx; omega)) (Ext.alloc _ _)
    · exact bytes_of_nums (l := [2]) (NumsAt.one ((w.alloc (.cells #[.int .i64 3] 54)).alloc (.cells #[.int .u8 1] 5)) 2 5 _ (by simp)) (fun x hx => by simp at hx; omega)
  rw [← hw1]
  clear hw1
  refine wl_buildC rfl rfl ?hv (builtA w.heap.size (w.heap.size + 1) (w.heap.size + 1 + 1)) ?hk
  case hv => first | kernel_rfl | (simp only [List.map_toArray, List.map_cons, List.map_nil]; rfl)
  rw [← hsA]
  clear hsA
  simp only [Act.put, List.setIfInBounds_toArray, List.set_cons_succ, List.set_cons_zero]
  go_wp2_with (first
    | (have q := hb2; clear q; refine wl_store (D := KV coA sA) rfl rowC rfl rfl rfl hb2 rfl rfl (KV.one _ _) ?_; intro w3 hb3 hk3 hx; clear hx)
    | (refine wl_alloc rfl rfl zeroC ?_; intro w2 hb2 he2 hx; clear hx))
  refine HK1.go _ _ ?_
  clear HK1
  have he3 := he2.of_but hk3 (fun k e => by subst e; exact Nat.le_refl _)
  have HA3 : Hid (CoAt w3 sA coA ∧ Ext w w3) := ⟨HA1.out.1.ext he3, HA1.out.2.trans he3⟩
  have HB3 : Hid (Blk w3 w1.heap.size (KV coA sA) 29) := hb3
  clear hb2 hk3 he2 he3 HA1 hb3
  obtain ⟨q, hq⟩ : ∃ q, q = w1.heap.size := ⟨_, rfl⟩
  rw [← hq] at HB3
  rw [← hq]
  clear hq
  refine wp_seq_k (fun K2 hK => ?_)
  have HK2 := Stop.mk hK
  clear hK
  go_wp2_with (first
    | (go_at_call 10; refine (make_good (HT.out.ext (HA3.out.2.trans hec)) hvc (by simp) (HA3.out.1.ext hec) fitA goodA).mono ?_; rintro e w4 ⟨he4', a4, n4, c4, rfl, hn4, ho4⟩; clear hn4; have he4 := hec.trans he4'; clear he4' hvc hec; rw [← HB.out.1] at ho4)
    | (refine wl_load rfl rowC rfl rfl (HB3.out.ext hec) rfl ?_)
    | (refine wl_conv [115] rfl rfl rfl (by simp) rfl rfl rfl (by intro x hx; simp at hx; omega) (by simp) ?_; intro wc3 hvc hec hx; clear hx))
  refine HK2.go _ _ ?_
  clear HK2
  have HO4 : Hid (BytesAt w4 (.slice a4 n4 c4) B ∧ Ext w w4 ∧ Ext w3 w4) := ⟨ho4.bytes, HA3.out.2.trans he4, he4⟩
  clear ho4 he4
  refine wp_seq_k (fun K3 hK => ?_)
  have HK3 := Stop.mk hK
  clear hK
  go_wp2_with (first
    | (have q := he5; clear q; refine wl_alloc rfl rfl zeroC ?_; intro w6a hb6a he6a hx; clear hx; refine wl_store (D := KV (openC [115] B 15) s5) rfl rowC rfl rfl rfl hb6a rfl rfl (KV.one _ _) ?_; intro w6b hb6b hk6b hx; clear hx; have he6b := he6a.of_but hk6b (fun k e => by subst e; exact Nat.le_refl _); clear hb6a he6a hk6b)
    | (go_at_call 17; refine (open_any (HT.out.ext (HO4.out.2.1.trans hec)) hvc (HO4.out.1.ext hec) (by simp) (by have := HB.out.2.1; omega) (by decide)).mono ?_; rintro e w5 ⟨he5', s5, rfl, ho5⟩; rw [HB.out.2.2.1, show errV 0 = .nilIface from rfl]; have he5 := hec.trans he5'; clear he5' ho5 hvc hec)
    | (refine wl_conv [115] rfl rfl rfl (by simp) rfl rfl rfl (by intro x hx; simp at hx; omega) (by simp) ?_; intro wc4 hvc hec hx; clear hx))
  refine HK3.go _ _ ?_
  clear HK3
  have HO6 : Hid (BytesAt w6b (.slice a4 n4 c4) B ∧ Ext w w6b ∧ Ext w3 w6b) := ⟨(HO4.out.1.ext he5).ext he6b, (HO4.out.2.1.trans he5).trans he6b, (HO4.out.2.2.trans he5).trans he6b⟩
  clear hb6b he6b he5 HO4
  refine wp_seq_k (fun K4 hK => ?_)
  have HK4 := Stop.mk hK
  clear hK
  go_wp2_with (first
    | (have q := he7; clear q; refine wl_alloc rfl rfl zeroC ?_; intro w8a hb8a he8a hx; clear hx; refine wl_store (D := KV (openC [115] B 16) s7) rfl rowC rfl rfl rfl hb8a rfl rfl (KV.one _ _) ?_; intro w8b hb8b hk8b hx; clear hx; have he8b := he8a.of_but hk8b (fun k e => by subst e; exact Nat.le_refl _); clear hb8a he8a hk8b)
    | (go_at_call 17; refine (open_any (HT.out.ext (HO6.out.2.1.trans hec)) hvc (HO6.out.1.ext hec) (by simp) (by have := HB.out.2.1; omega) (by decide)).mono ?_; rintro e w7 ⟨he7', s7, rfl, ho7⟩; rw [HB.out.2.2.2]; have he7 := hec.trans he7'; clear he7' ho7 hvc hec)
    | (refine wl_conv [115] rfl rfl rfl (by simp) rfl rfl rfl (by intro x hx; simp at hx; omega) (by simp) ?_; intro wc6 hvc hec hx; clear hx))
  refine HK4.go _ _ ?_
  clear HK4
  have HE9 : Hid (Ext w3 w8b) := (HO6.out.2.2.trans he7).trans he8b
  have HA9 : Hid (CoAt w8b sA coA) := HA3.out.1.ext HE9.out
  have HB9 : Hid (Blk w8b q (KV coA sA) 29) := HB3.out.ext HE9.out
  have HW9 : Hid (Ext w w8b) := HA3.out.2.trans HE9.out
  clear hb8b he8b he7 HO6
  refine wp_seq_k (fun K9 hK9 => ?_)
  refine wp_line (fun t => bif Nat.ble 33 t && Nat.ble t 47 then some (t - 33) else bif Nat.beq t 0 then some 15 else none) 48 Ext
    [Is (.nilIface),
     Is (.bool true),
     Is (.bool true),
     Under ((true)) (.nilIface),
     Under ((true)) (.bool true),
     Is (.bool (true && (true))),
     Is (.bool (true && (true))),
     Under (((true && (true)))) (errV 8),
     Under (((true && (true)))) (.bool ((8 : Int) == 8)),
     Is (.bool ((true && (true)) && (((8 : Int) == 8)))),
     Is (.bool ((true && (true)) && (((8 : Int) == 8)))),
     Under ((((true && (true)) && (((8 : Int) == 8))))) (.agg (KV coA sA)),
     Under ((((true && (true)) && (((8 : Int) == 8))))) (.int .i64 (lateK coA 16)),
     Under ((((true && (true)) && (((8 : Int) == 8))))) (.bool (((lateK coA 16) : Int) == (1 : Int))),
     Is (.bool (((true && (true)) && (((8 : Int) == 8))) && ((((lateK coA 16) : Int) == (1 : Int))))),
     Is (.bool (((true && (true)) && (((8 : Int) == 8))) && ((((lateK coA 16) : Int) == (1 : Int)))))]
    rfl (by kernel_rfl) rfl Ext.refl (fun _ _ _ => Ext.trans) (KeepAll.is (KeepAll.is (KeepAll.is (KeepAll.under (KeepAll.under (KeepAll.is (KeepAll.is (KeepAll.under (KeepAll.under (KeepAll.is (KeepAll.is (KeepAll.under (KeepAll.under (KeepAll.under (KeepAll.is (KeepAll.is (KeepAll.nil))))))))))))))))) ?_ ?_
  · refine GoodAll.cons ?_ ?_
    · intro r wx hR hx
      obtain ⟨h1, _⟩ := hx
      replace h1 : r (.tmp 3) = .nilIface := h1
      exact give_move (.inl rfl) ⟨Ext.refl _, h1⟩
    refine GoodAll.cons ?_ ?_
    · intro r wx hR hx
      obtain ⟨h1, h2, _⟩ := hx
      replace h1 : r (.tmp 33) = .nilIface := h1
      replace h2 : r (.const (.nilIface)) = .nilIface := h2
      exact give_of (exec_eql0 rfl h1 h2) ⟨Ext.refl _, rfl⟩
    refine GoodAll.cons ?_ ?_
    · intro r wx hR hx
      obtain ⟨h1, _⟩ := hx
      replace h1 : r (.tmp 34) = .bool true := h1
      exact give_move (.inl rfl) ⟨Ext.refl _, h1⟩
    refine GoodAll.cons ?_ ?_
    · intro r wx hR hx
      obtain ⟨h1, _⟩ := hx
      replace h1 : r (.tmp 5) = .nilIface := h1
      intro gb hgb
      refine guard_u (C := (true)) (b := true) (want := true) hgb (want_t _) (fun hc => ?_) (fun hc => under_no hc)
      exact give_move (.inl rfl) ⟨Ext.refl _, (h1.trans (under_yes hc))⟩
    refine GoodAll.cons ?_ ?_
    · intro r wx hR hx
      obtain ⟨h1, h2, _⟩ := hx
      replace h1 : Under ((true)) (.nilIface) wx (r (.tmp 36)) := h1
      replace h2 : r (.const (.nilIface)) = .nilIface := h2
      intro gb hgb
      refine guard_u (C := (true)) (b := true) (want := true) hgb (want_t _) (fun hc => ?_) (fun hc => under_no hc)
      replace h1 := h1.get hc
      exact give_of (exec_eql0 rfl h1 h2) ⟨Ext.refl _, under_yes hc⟩
    refine GoodAll.cons ?_ ?_
    · intro r wx hR hx
      obtain ⟨h1, h2, h3, _⟩ := hx
      replace h1 : r (.tmp 35) = .bool true := h1
      replace h2 : Under ((true)) (.bool true) wx (r (.tmp 37)) := h2
      replace h3 : r (.const (.bool false)) = .bool false := h3
      exact give_and rfl h3 h1 (fun hb => h2.get (by first | exact hb | (rw [hc, hb]; rfl) | (rw [hb]; rfl))) ⟨Ext.refl _, rfl⟩
    refine GoodAll.cons ?_ ?_
    · intro r wx hR hx
      obtain ⟨h1, _⟩ := hx
      replace h1 : r (.tmp 38) = .bool (true && (true)) := h1
      exact give_move (.inl rfl) ⟨Ext.refl _, h1⟩
    refine GoodAll.cons ?_ ?_
    · intro r wx hR hx
      obtain ⟨h1, _⟩ := hx
      replace h1 : r (.tmp 7) = errV 8 := h1
      intro gb hgb
      refine guard_u (C := ((true && (true)))) (b := (true && (true))) (want := true) hgb (want_t _) (fun hc => ?_) (fun hc => under_no hc)
      exact give_move (.inl rfl) ⟨Ext.refl _, (h1.trans (under_yes hc))⟩
    refine GoodAll.cons ?_ ?_
    · intro r wx hR hx
      obtain ⟨h1, h2, h3, _⟩ := hx
      replace h1 : r (.func 14) = .func (.func 14) #[] #[] := h1
      replace h2 : Under (((true && (true)))) (errV 8) wx (r (.tmp 40)) := h2
      replace h3 : r (.const (.int .i64 8)) = .int .i64 8 := h3
      intro gb hgb
      refine guard_u (C := ((true && (true)))) (b := (true && (true))) (want := true) hgb (want_t _) (fun hc => ?_) (fun hc => under_no hc)
      replace h2 := h2.get hc
      refine give_func #[errV 8, .int .i64 8] rfl h1 Tryd.call14 (by simp [h2, h3]) ?_
      refine (is_anyE _ _ _).mono ?_
      rintro e wz ⟨rfl, hez⟩
      exact ⟨_, rfl, hez, under_yes hc⟩
    refine GoodAll.cons ?_ ?_
    · intro r wx hR hx
      obtain ⟨h1, h2, h3, _⟩ := hx
      replace h1 : r (.tmp 39) = .bool (true && (true)) := h1
      replace h2 : Under (((true && (true)))) (.bool ((8 : Int) == 8)) wx (r (.tmp 41)) := h2
      replace h3 : r (.const (.bool false)) = .bool false := h3
      exact give_and rfl h3 h1 (fun hb => h2.get (by first | exact hb | (rw [hc, hb]; rfl) | (rw [hb]; rfl))) ⟨Ext.refl _, rfl⟩
    refine GoodAll.cons ?_ ?_
    · intro r wx hR hx
      obtain ⟨h1, _⟩ := hx
      replace h1 : r (.tmp 42) = .bool ((true && (true)) && (((8 : Int) == 8))) := h1
      exact give_move (.inl rfl) ⟨Ext.refl _, h1⟩
    refine GoodAll.cons ?_ ?_
    · intro r wx hR hx
      obtain ⟨h1, _⟩ := hx
      replace h1 : r (.tmp 1) = .pointer (some ⟨q, 0, none⟩) := h1
      intro gb hgb
      refine guard_u (C := (((true && (true)) && (((8 : Int) == 8))))) (b := ((true && (true)) && (((8 : Int) == 8)))) (want := true) hgb (want_t _) (fun hc => ?_) (fun hc => under_no hc)
      exact give_of (exec_loadW rowC rfl h1 (HB9.out.ext hR) rfl) ⟨Ext.refl _, under_yes hc⟩
    refine GoodAll.cons ?_ ?_
    · intro r wx hR hx
      obtain ⟨h1, h2, h3, _⟩ := hx
      replace h1 : r (.func 15) = .func (.func 15) #[] #[] := h1
      replace h2 : Under ((((true && (true)) && (((8 : Int) == 8))))) (.agg (KV coA sA)) wx (r (.tmp 44)) := h2
      replace h3 : r (.const (.int .i64 16)) = .int .i64 16 := h3
      intro gb hgb
      refine guard_u (C := (((true && (true)) && (((8 : Int) == 8))))) (b := ((true && (true)) && (((8 : Int) == 8)))) (want := true) hgb (want_t _) (fun hc => ?_) (fun hc => under_no hc)
      replace h2 := h2.get hc
      refine give_func #[.agg (KV coA sA), .int .i64 16] rfl h1 Tryd.call15 (by simp [h2, h3]) ?_
      refine (late_any (HA9.out.ext hR) 16 (by decide)).mono ?_
      rintro e wz ⟨rfl, hez⟩
      exact ⟨_, rfl, hez, under_yes hc⟩
    refine GoodAll.cons ?_ ?_
    · intro r wx hR hx
      obtain ⟨h1, h2, _⟩ := hx
      replace h1 : Under ((((true && (true)) && (((8 : Int) == 8))))) (.int .i64 (lateK coA 16)) wx (r (.tmp 45)) := h1
      replace h2 : r (.const (.int .i64 1)) = .int .i64 1 := h2
      intro gb hgb
      refine guard_u (C := (((true && (true)) && (((8 : Int) == 8))))) (b := ((true && (true)) && (((8 : Int) == 8)))) (want := true) hgb (want_t _) (fun hc => ?_) (fun hc => under_no hc)
      replace h1 := h1.get hc
      exact give_of (by simp [execOp, h1, h2, go_sem]) ⟨Ext.refl _, under_yes hc⟩
    refine GoodAll.cons ?_ ?_
    · intro r wx hR hx
      obtain ⟨h1, h2, h3, _⟩ := hx
      replace h1 : r (.tmp 43) = .bool ((true && (true)) && (((8 : Int) == 8))) := h1
      replace h2 : Under ((((true && (true)) && (((8 : Int) == 8))))) (.bool (((lateK coA 16) : Int) == (1 : Int))) wx (r (.tmp 46)) := h2
      replace h3 : r (.const (.bool false)) = .bool false := h3
      exact give_and rfl h3 h1 (fun hb => h2.get (by first | exact hb | (rw [hc, hb]; rfl) | (rw [hb]; rfl))) ⟨Ext.refl _, rfl⟩
    refine GoodAll.cons ?_ ?_
    · intro r wx hR hx
      obtain ⟨h1, _⟩ := hx
      replace h1 : r (.tmp 47) = .bool (((true && (true)) && (((8 : Int) == 8))) && ((((lateK coA 16) : Int) == (1 : Int)))) := h1
      exact give_move (.inr rfl) ⟨Ext.refl _, h1⟩
    exact GoodAll.nil
  · intro vs wE aE hR hold haE
    have hv : vs 15 = .bool (((true && (true)) && (((8 : Int) == 8))) && ((((lateK coA 16) : Int) == (1 : Int)))) := hold.at 15
    refine ‹∀ (a : Act) (w : World), Code.wp Tryd.prog Code.ret _ a w → _› _ _ ?_
    refine wp_ret ?_
    have hs : aE.tmps[0]? = some (.bool (((true && (true)) && (((8 : Int) == 8))) && ((((lateK coA 16) : Int) == (1 : Int))))) := by rw [haE, ← hv]; kernel_rfl
    have hdf : aE.defers = [] := by rw [haE]; exact putAll_defers _ _ _ _
    clear haE
    refine bodyPost_ret (v := .bool (((true && (true)) && (((8 : Int) == 8))) && ((((lateK coA 16) : Int) == (1 : Int))))) ?_ hdf ⟨congrArg (fun b : Bool => Ending.returned (.bool b)) (by decide), HW9.out.trans hR⟩
    simp [results, Tryd.results7, go_sem, hs]
end Tlv
end Go.Proofs.YtfhoielfekeihaaDoor

/- An argument that is a slice of numbers, opened. No condition of its own. -/
namespace Go.Proofs.YtfhoielfekeihaaDoor
open Go.RowKit Go.ChangeShapes

theorem nums_open {H : Type} {enc : TypeId × Value → H} {P : Program} {w : World} {base : Nat} {held : Bool} {fuel : Nat} {t e : TypeId} {k : IntKind} {v : Value} {x : DataW H × List MemPlace}
    (ht : P.underlying t = some (.slice e)) (he : P.underlying e = some (.int k)) (hc : P.cellsOf e = 1) (h : DataW.trod enc P w base (fun _ => true) held fuel t [v] = some x) :
    ∃ l, NumsAt k w v l ∧ ∀ z ∈ l, (Lit.int k z).wf = true := by
  rcases open_ints ht he hc h with ⟨hcs, _⟩ | ⟨a, len, cap, zs, hcs, _, hl, hm, hz, _, hcell, hwf⟩
  · simp at hcs
    subst hcs
    exact ⟨[], NumsAt.nothing _ _, by simp⟩
  · simp at hcs
    subst hcs
    exact ⟨_, NumsAt.of_row hl hm (by simpa using hz) hcell, fun z hz' => hwf z (List.mem_of_mem_take hz')⟩
end Go.Proofs.YtfhoielfekeihaaDoor

/- An argument that is a cookie, opened. No condition of its own. -/
namespace Go.Proofs.YtfhoielfekeihaaDoor
namespace Tlv
open Go Go.RowKit Go.ChangeShapes Go.WideShapes Go.ChangeAt
set_option linter.unusedVariables false
set_option linter.unusedSimpArgs false
set_option maxRecDepth 100000

theorem bytes_openK {H : Type} {enc : TypeId × Value → H} {w : World} {base : Nat} {held : Bool} {fuel : Nat} {v : Value} {x : DataW H × List MemPlace}
    (h : DataW.trod enc Tryd.prog w base (fun _ => true) held fuel 22 [v] = some x) : ∃ l, BytesAt w v l := by
  rcases open_ints Tryd.underlying22 Tryd.underlying5 (by kernel_rfl) h with ⟨hcs, _⟩ | ⟨y, l, c, zs, hcs, _, hl, hm, hz, hx, hcell, hwz⟩
  · simp at hcs
    subst hcs
    exact ⟨[], BytesAt.none _⟩
  · simp at hcs
    subst hcs
    exact ⟨_, BytesAt.of_row hl hm (by simpa using hz) hcell hwz⟩
theorem nums_openK {H : Type} {enc : TypeId × Value → H} {w : World} {base : Nat} {held : Bool} {fuel : Nat} {t e : TypeId} {k : IntKind} {v : Value} {x : DataW H × List MemPlace}
    (ht : Tryd.prog.underlying t = some (.slice e)) (he : Tryd.prog.underlying e = some (.int k)) (hc : Tryd.prog.cellsOf e = 1) (h : DataW.trod enc Tryd.prog w base (fun _ => true) held fuel t [v] = some x) :
    ∃ l, NumsAt k w v l ∧ (∀ z ∈ l, (Lit.int k z).wf = true) := by
  rcases open_ints ht he hc h with ⟨hcs, _⟩ | ⟨a, len, cap, zs, hcs, _, hl, hm, hz, hx, hcell, hwf⟩
  · simp at hcs
    subst hcs
    exact ⟨[], NumsAt.nothing _ _, by simp⟩
  · simp at hcs
    subst hcs
    exact ⟨_, NumsAt.of_row hl hm (by simpa using hz) hcell, fun z hz' => hwf z (List.mem_of_mem_take hz')⟩
theorem fieldT {H : Type} {enc : TypeId × Value → H} {w : World} {base : Nat} {held : Bool} {n : Nat} {cs : List Value} {xs : List (DataW H × List MemPlace)} {fs : Array Field}
    (hf : ∀ (i : Nat) (f : Field), fs[i]? = some f → DataW.trod enc Tryd.prog w base (fun _ => true) held n f.type ((cs.drop f.offset).take (Tryd.prog.cellsOf f.type)) = xs[i]?) (i t off k : Nat) (hfi : ∃ f, fs[i]? = some f ∧ f.type = t ∧ f.offset = off) (hk : Tryd.prog.cellsOf t = k) :
    DataW.trod enc Tryd.prog w base (fun _ => true) held n t ((cs.drop off).take k) = xs[i]? := by
  obtain ⟨f, h1, rfl, rfl⟩ := hfi
  have := hf i f h1
  rwa [hk] at this
theorem co_open {H : Type} {enc : TypeId × Value → H} {w : World} {base : Nat} {held : Bool} {fuel : Nat} {cs : List Value} {x : DataW H × List MemPlace} (h14 : cs.length = 14)
    (h : DataW.trod enc Tryd.prog w base (fun _ => true) held fuel 26 cs = some x) : ∃ c s, cs = (KV c s).toList ∧ CoAt w s c ∧ FitC c := by
  have k22 : Tryd.prog.cellsOf 23 = 1 := by kernel_rfl
  have k3 : Tryd.prog.cellsOf 3 = 1 := by kernel_rfl
  have kA : Tryd.prog.cellsOf 24 = 1 := by kernel_rfl
  have kB : Tryd.prog.cellsOf 22 = 1 := by kernel_rfl
  obtain ⟨xs, n, _, rfl, hl, hlen, hf⟩ := DataW.trod_struct Tryd.underlying26 h
  match xs, hlen, cs, h14 with
  | [y0, y1, y2, y3, y4, y5, y6, y7, y8, y9, y10, y11, y12, y13], _, [c0, c1, c2, c3, c4, c5, c6, c7, c8, c9, c10, c11, c12, c13], _ =>
    have t0 : DataW.trod enc Tryd.prog w base (fun _ => true) held n 3 [c0] = some y0 := by
      have := fieldT hf 0 3 0 1 ⟨_, rfl, rfl, rfl⟩ k3
      simpa using this
    have t1 : DataW.trod enc Tryd.prog w base (fun _ => true) held n 3 [c1] = some y1 := by
      have := fieldT hf 1 3 1 1 ⟨_, rfl, rfl, rfl⟩ k3
      simpa using this
    have t2 : DataW.trod enc Tryd.prog w base (fun _ => true) held n 23 [c2] = some y2 := by
      have := fieldT hf 2 23 2 1 ⟨_, rfl, rfl, rfl⟩ k22
      simpa using this
    have t3 : DataW.trod enc Tryd.prog w base (fun _ => true) held n 23 [c3] = some y3 := by
      have := fieldT hf 3 23 3 1 ⟨_, rfl, rfl, rfl⟩ k22
      simpa using this
    have t4 : DataW.trod enc Tryd.prog w base (fun _ => true) held n 23 [c4] = some y4 := by
      have := fieldT hf 4 23 4 1 ⟨_, rfl, rfl, rfl⟩ k22
      simpa using this
    have t5 : DataW.trod enc Tryd.prog w base (fun _ => true) held n 23 [c5] = some y5 := by
      have := fieldT hf 5 23 5 1 ⟨_, rfl, rfl, rfl⟩ k22
      simpa using this
    have t6 : DataW.trod enc Tryd.prog w base (fun _ => true) held n 3 [c6] = some y6 := by
      have := fieldT hf 6 3 6 1 ⟨_, rfl, rfl, rfl⟩ k3
      simpa using this
    have t7 : DataW.trod enc Tryd.prog w base (fun _ => true) held n 3 [c7] = some y7 := by
      have := fieldT hf 7 3 7 1 ⟨_, rfl, rfl, rfl⟩ k3
      simpa using this
    have t8 : DataW.trod enc Tryd.prog w base (fun _ => true) held n 3 [c8] = some y8 := by
      have := fieldT hf 8 3 8 1 ⟨_, rfl, rfl, rfl⟩ k3
      simpa using this
    have t9 : DataW.trod enc Tryd.prog w base (fun _ => true) held n 24 [c9] = some y9 := by
      have := fieldT hf 9 24 9 1 ⟨_, rfl, rfl, rfl⟩ kA
      simpa using this
    have t10 : DataW.trod enc Tryd.prog w base (fun _ => true) held n 22 [c10] = some y10 := by
      have := fieldT hf 10 22 10 1 ⟨_, rfl, rfl, rfl⟩ kB
      simpa using this
    have t11 : DataW.trod enc Tryd.prog w base (fun _ => true) held n 22 [c11] = some y11 := by
      have := fieldT hf 11 22 11 1 ⟨_, rfl, rfl, rfl⟩ kB
      simpa using this
    have t12 : DataW.trod enc Tryd.prog w base (fun _ => true) held n 23 [c12] = some y12 := by
      have := fieldT hf 12 23 12 1 ⟨_, rfl, rfl, rfl⟩ k22
      simpa using this
    have t13 : DataW.trod enc Tryd.prog w base (fun _ => true) held n 23 [c13] = some y13 := by
      have := fieldT hf 13 23 13 1 ⟨_, rfl, rfl, rfl⟩ k22
      simpa using this
    obtain ⟨n_made, e_made, _, w_made⟩ := DataW.trod_int Tryd.underlying3 t0
    obtain ⟨n_life, e_life, _, w_life⟩ := DataW.trod_int Tryd.underlying3 t1
    obtain ⟨n_mine, e_mine, _, w_mine⟩ := DataW.trod_int Tryd.underlying23 t2
    obtain ⟨n_peers, e_peers, _, w_peers⟩ := DataW.trod_int Tryd.underlying23 t3
    obtain ⟨n_mtsn, e_mtsn, _, w_mtsn⟩ := DataW.trod_int Tryd.underlying23 t4
    obtain ⟨n_ptsn, e_ptsn, _, w_ptsn⟩ := DataW.trod_int Tryd.underlying23 t5
    obtain ⟨n_win, e_win, _, w_win⟩ := DataW.trod_int Tryd.underlying3 t6
    obtain ⟨n_out, e_out, _, w_out⟩ := DataW.trod_int Tryd.underlying3 t7
    obtain ⟨n_inn, e_inn, _, w_inn⟩ := DataW.trod_int Tryd.underlying3 t8
    obtain ⟨n_addrs, g_addrs, v_addrs⟩ := nums_openK Tryd.underlying24 Tryd.underlying54 (by kernel_rfl) t9
    obtain ⟨a_addrs, k_addrs, f_addrs, _⟩ := g_addrs.form
    obtain ⟨n_mr, g_mr⟩ := bytes_openK t10
    obtain ⟨a_mr, k_mr, f_mr, _⟩ := g_mr.form
    obtain ⟨n_pr, g_pr⟩ := bytes_openK t11
    obtain ⟨a_pr, k_pr, f_pr, _⟩ := g_pr.form
    obtain ⟨n_tm, e_tm, _, w_tm⟩ := DataW.trod_int Tryd.underlying23 t12
    obtain ⟨n_tp, e_tp, _, w_tp⟩ := DataW.trod_int Tryd.underlying23 t13
    simp only [List.cons.injEq, and_true] at e_made e_life e_mine e_peers e_mtsn e_ptsn e_win e_out e_inn e_tm e_tp
    subst e_made e_life e_mine e_peers e_mtsn e_ptsn e_win e_out e_inn f_addrs f_mr f_pr e_tm e_tp
    have r_mine := of_u32 w_mine
    have r_peers := of_u32 w_peers
    have r_mtsn := of_u32 w_mtsn
    have r_ptsn := of_u32 w_ptsn
    have r_tm := of_u32 w_tm
    have r_tp := of_u32 w_tp
    refine ⟨⟨n_made, n_life, n_mine.toNat, n_peers.toNat, n_mtsn.toNat, n_ptsn.toNat, n_win, n_out, n_inn, n_addrs, n_mr, n_pr, n_tm.toNat, n_tp.toNat⟩, ⟨a_addrs, n_addrs.length, k_addrs, a_mr, n_mr.length, k_mr, a_pr, n_pr.length, k_pr⟩, ?_, ⟨g_addrs, g_mr, g_pr⟩, ⟨of_i64 w_made, of_i64 w_life, show n_mine.toNat < 4294967296 by omega, show n_peers.toNat < 4294967296 by omega, show n_mtsn.toNat < 4294967296 by omega, show n_ptsn.toNat < 4294967296 by omega, of_i64 w_win, of_i64 w_out, of_i64 w_inn, fun y hy => of_i64 (v_addrs y hy), show n_tm.toNat < 4294967296 by omega, show n_tp.toNat < 4294967296 by omega⟩⟩
    simp only [KV]
    rw [show ((n_mine.toNat : Nat) : Int) = n_mine by omega, show ((n_peers.toNat : Nat) : Int) = n_peers by omega, show ((n_mtsn.toNat : Nat) : Int) = n_mtsn by omega, show ((n_ptsn.toNat : Nat) : Int) = n_ptsn by omega, show ((n_tm.toNat : Nat) : Int) = n_tm by omega, show ((n_tp.toNat : Nat) : Int) = n_tp by omega]
/-- The cells of two secrets, a cookie and a bit. -/
def PV (u v : Value) (c : Co) (s : So) (n : Int) : Array Value := #[u, v, .int .i64 c.made, .int .i64 c.life, .int .u32 (c.mine : Int), .int .u32 (c.peers : Int), .int .u32 (c.mtsn : Int), .int .u32 (c.ptsn : Int), .int .i64 c.win, .int .i64 c.out, .int .i64 c.inn, .slice s.aA s.aN s.aC, .slice s.mA s.mN s.mC, .slice s.pA s.pN s.pC, .int .u32 (c.tm : Int), .int .u32 (c.tp : Int), .int .i64 n]
theorem sp_open {H : Type} {enc : TypeId × Value → H} {w : World} {base : Nat} {held : Bool} {fuel : Nat} {cs : List Value} {x : DataW H × List MemPlace} (h17 : cs.length = 17)
    (h : DataW.trod enc Tryd.prog w base (fun _ => true) held fuel 51 cs = some x) : ∃ u v K L c s n, cs = (PV u v c s n).toList ∧ BytesAt w u K ∧ BytesAt w v L ∧ CoAt w s c ∧ FitC c ∧ W64 n := by
  have k3 : Tryd.prog.cellsOf 3 = 1 := by kernel_rfl
  have kB : Tryd.prog.cellsOf 22 = 1 := by kernel_rfl
  have kC : Tryd.prog.cellsOf 26 = 14 := by kernel_rfl
  obtain ⟨xs, n, _, rfl, hl, hlen, hf⟩ := DataW.trod_struct Tryd.underlying51 h
  match xs, hlen, cs, h17 with
  | [y0, y1, y2, y3], _, [c0, c1, c2, c3, c4, c5, c6, c7, c8, c9, c10, c11, c12, c13, c14, c15, c16], _ =>
    have t0 : DataW.trod enc Tryd.prog w base (fun _ => true) held n 22 [c0] = some y0 := by
      have := fieldT hf 0 22 0 1 ⟨_, rfl, rfl, rfl⟩ kB
      simpa using this
    have t1 : DataW.trod enc Tryd.prog w base (fun _ => true) held n 22 [c1] = some y1 := by
      have := fieldT hf 1 22 1 1 ⟨_, rfl, rfl, rfl⟩ kB
      simpa using this
    have t2 : DataW.trod enc Tryd.prog w base (fun _ => true) held n 26 [c2, c3, c4, c5, c6, c7, c8, c9, c10, c11, c12, c13, c14, c15] = some y2 := by
      have := fieldT hf 2 26 2 14 ⟨_, rfl, rfl, rfl⟩ kC
      simpa using this
    have t3 : DataW.trod enc Tryd.prog w base (fun _ => true) held n 3 [c16] = some y3 := by
      have := fieldT hf 3 3 16 1 ⟨_, rfl, rfl, rfl⟩ k3
      simpa using this
    obtain ⟨K, hK⟩ := bytes_openK t0
    obtain ⟨L, hL⟩ := bytes_openK t1
    obtain ⟨c, s, e2, hc, hfc⟩ := co_open (by rfl) t2
    obtain ⟨m, e3, _, w3⟩ := DataW.trod_int Tryd.underlying3 t3
    simp only [List.cons.injEq, and_true] at e3
    subst e3
    refine ⟨c0, c1, K, L, c, s, m, ?_, hK, hL, hc, hfc, of_i64 w3⟩
    simp only [KV, List.cons.injEq, and_true] at e2
    simp only [PV]
    obtain ⟨rfl, rfl, rfl, rfl, rfl, rfl, rfl, rfl, rfl, rfl, rfl, rfl, rfl, rfl⟩ := e2
    rfl
end Tlv
end Go.Proofs.YtfhoielfekeihaaDoor

/- The law CookieSames walked: it answers true. Condition: the tables hold what the text lays. -/
namespace Go.Proofs.YtfhoielfekeihaaDoor
namespace Tlv
open Go Go.RowKit
set_option linter.unusedVariables false
set_option linter.unusedSimpArgs false
set_option maxRecDepth 100000


theorem bigK_small {c : Co} (h : bigK [] c = false) : SmallK c := by
  have := bigK_no h
  exact ⟨by omega, by omega, by omega⟩
set_option maxHeartbeats 8000000 in
theorem sames_walk {w : World} {c d : Co} {s u : So} (hT : Tabs w) (ha : CoAt w s c) (hb : CoAt w u d) :
    Calls Tryd.prog 6 #[.agg (KV c s), .agg (KV d u)] w fun e w' => e = .returned (.bool true) ∧ Ext w w' := by
  have HT : Hid (Tabs w) := hT
  have HA : Hid (CoAt w s c ∧ CoAt w u d) := ⟨ha, hb⟩
  clear hT ha hb
  cases hbc : bigK [] c with
  | true =>
    go_enter Tryd.func6, Tryd.ntmps6
    go_wp2_with (first
      | (have q := he2; clear q; go_at_call 7; refine (alive_any _ (HT.out.ext (he1.trans he2))).mono ?_; rintro e w3 ⟨rfl, he3⟩; have hb3 := hb1'.ext he3; have hd3 := hb2.ext he3; clear hb1' hb2)
      | (have q := he1; clear q; refine wl_box (C := KV d u) rfl rfl rfl ?_; intro w2 hb2 he2 hx; clear hx; have hb1' := hb1.ext he2; clear hb1)
      | (refine wl_box (C := KV c s) rfl rfl rfl ?_; intro w1 hb1 he1 hx; clear hx)
      | (refine wl_load rfl rowC2 rfl rfl hb3 rfl ?_)
      | (go_at_call 8; refine (large_any (BytesAt.none _) (HA.out.1.ext ((he1.trans he2).trans he3))).mono ?_; rintro e w4 ⟨rfl, he4⟩; rw [hbc]))
    go_ret
    exact ⟨rfl, ((he1.trans he2).trans he3).trans he4⟩
  | false =>
  cases hbd : bigK [] d with
  | true =>
    go_enter Tryd.func6, Tryd.ntmps6
    go_wp2_with (first
      | (have q := he2; clear q; go_at_call 7; refine (alive_any _ (HT.out.ext (he1.trans he2))).mono ?_; rintro e w3 ⟨rfl, he3⟩; have hb3 := hb1'.ext he3; have hd3 := hb2.ext he3; clear hb1' hb2)
      | (have q := he1; clear q; refine wl_box (C := KV d u) rfl rfl rfl ?_; intro w2 hb2 he2 hx; clear hx; have hb1' := hb1.ext he2; clear hb1)
      | (refine wl_box (C := KV c s) rfl rfl rfl ?_; intro w1 hb1 he1 hx; clear hx)
      | (have q := he4; clear q; go_at_call 8; refine (large_any (BytesAt.none _) ((HA.out.2.ext ((he1.trans he2).trans he3)).ext he4)).mono ?_; rintro e w5 ⟨rfl, he5⟩; rw [hbd])
      | (refine wl_load rfl rowC2 rfl rfl hb3 rfl ?_)
      | (go_at_call 8; refine (large_any (BytesAt.none _) (HA.out.1.ext ((he1.trans he2).trans he3))).mono ?_; rintro e w4 ⟨rfl, he4⟩; rw [hbc]; have hd4 := hd3.ext he4; have x0 := kv0 hd4; have x1 := kv1 hd4; have x2 := kv2 hd4; have x3 := kv3 hd4; have x4 := kv4 hd4; have x5 := kv5 hd4; have x6 := kv6 hd4; have x7 := kv7 hd4; have x8 := kv8 hd4; have x9 := kv9 hd4; have x10 := kv10 hd4; have x11 := kv11 hd4; have x12 := kv12 hd4; have x13 := kv13 hd4))
    go_ret
    exact ⟨rfl, (((he1.trans he2).trans he3).trans he4).trans he5⟩
  | false =>
    have HS1 : Hid (SmallK c) := bigK_small hbc
    have HS2 : Hid (SmallK d) := bigK_small hbd
    go_enter Tryd.func6, Tryd.ntmps6
    go_wp2_with (first
      | (have q := he2; clear q; go_at_call 7; refine (alive_any _ (HT.out.ext (he1.trans he2))).mono ?_; rintro e w3 ⟨rfl, he3⟩; have hb3 := hb1'.ext he3; have hd3 := hb2.ext he3; clear hb1' hb2)
      | (have q := he1; clear q; refine wl_box (C := KV d u) rfl rfl rfl ?_; intro w2 hb2 he2 hx; clear hx; have hb1' := hb1.ext he2; clear hb1)
      | (refine wl_box (C := KV c s) rfl rfl rfl ?_; intro w1 hb1 he1 hx; clear hx)
      | (have q := he4; clear q; go_at_call 8; refine (large_any (BytesAt.none _) ((HA.out.2.ext ((he1.trans he2).trans he3)).ext he4)).mono ?_; rintro e w5 ⟨rfl, he5⟩; rw [hbd]; clear x0 x1 x2 x3 x4 x5 x6 x7 x8 x9 x10 x11 x12 x13)
      | (refine wl_load rfl rowC2 rfl rfl hb3 rfl ?_)
      | (go_at_call 8; refine (large_any (BytesAt.none _) (HA.out.1.ext ((he1.trans he2).trans he3))).mono ?_; rintro e w4 ⟨rfl, he4⟩; rw [hbc]; have hd4 := hd3.ext he4; have x0 := kv0 hd4; have x1 := kv1 hd4; have x2 := kv2 hd4; have x3 := kv3 hd4; have x4 := kv4 hd4; have x5 := kv5 hd4; have x6 := kv6 hd4; have x7 := kv7 hd4; have x8 := kv8 hd4; have x9 := kv9 hd4; have x10 := kv10 hd4; have x11 := kv11 hd4; have x12 := kv12 hd4; have x13 := kv13 hd4))
    have HE5 : Hid (Ext w w5) := (((he1.trans he2).trans he3).trans he4).trans he5
    have HBB : Hid (Blk w5 w.heap.size (KV c s) 26 ∧ Blk w5 w1.heap.size (KV d u) 26) := ⟨(hb3.ext he4).ext he5, hd4.ext he5⟩
    clear hb3 hd3 hd4 he1 he2 he3 he4 he5
    have HB1x : ∀ {wx : World}, Ext w5.drew wx → Blk wx w.heap.size (KV c s) 26 := fun hx => HBB.out.1.ext ((Ext.drew _).trans hx)
    have HB2x : ∀ {wx : World}, Ext w5.drew wx → Blk wx w1.heap.size (KV d u) 26 := fun hx => HBB.out.2.ext ((Ext.drew _).trans hx)
    have HAx : ∀ {wx : World}, Ext w5.drew wx → CoAt wx s c := fun hx => HA.out.1.ext (HE5.out.trans ((Ext.drew _).trans hx))
    have HDx : ∀ {wx : World}, Ext w5.drew wx → CoAt wx u d := fun hx => HA.out.2.ext (HE5.out.trans ((Ext.drew _).trans hx))
    refine wp_region_facts (fun t => bif Nat.ble 13 t && Nat.ble t 27 then some (t - 13) else bif Nat.beq t 4 then some 15 else none) 28 Ext
      [Is (.agg (KV c s)),
       (fun wx v => ∃ z, v = .agg (KV c z) ∧ CoAt wx z c),
       Is (.agg (KV d u)),
       (fun wx v => ∃ z, v = .agg (KV d z) ∧ CoAt wx z d),
       Is (.bool (sameK c d)),
       Is (.agg (KV c s)),
       Is (.agg (KV d u)),
       Is (.bool (sameK c d)),
       Is (.bool true),
       Is (.bool true),
       Is (.agg (KV c s)),
       (fun wx v => ∃ z, v = .agg (KV c z) ∧ CoAt wx z c),
       Is (.agg (KV c s)),
       Is (.bool true),
       Is (.bool true),
       Is (.bool true)]
      rfl (by kernel_rfl) (by kernel_rfl) rfl Ext.refl (fun _ _ _ => Ext.trans) ?_ ?_ ?_
    · exact KeepAll.is (KeepAll.cons (fun _ _ _ hr h => by obtain ⟨z, e, hz⟩ := h; exact ⟨z, e, hz.ext hr⟩) (KeepAll.is (KeepAll.cons (fun _ _ _ hr h => by obtain ⟨z, e, hz⟩ := h; exact ⟨z, e, hz.ext hr⟩) (KeepAll.is (KeepAll.is (KeepAll.is (KeepAll.is (KeepAll.is (KeepAll.is (KeepAll.is (KeepAll.cons (fun _ _ _ hr h => by obtain ⟨z, e, hz⟩ := h; exact ⟨z, e, hz.ext hr⟩) (KeepAll.is (KeepAll.is (KeepAll.is (KeepAll.is (KeepAll.nil))))))))))))))))
    · refine GoodAll.cons ?_ ?_
      · intro r wx hR hx
        obtain ⟨h1, _⟩ := hx
        replace h1 : r (.tmp 2) = (.pointer (some ⟨w.heap.size, 0, none⟩)) := h1
        exact give_of (exec_loadW rowC2 rfl h1 (HB1x hR) rfl) ⟨Ext.refl _, rfl⟩
      refine GoodAll.cons ?_ ?_
      · intro r wx hR hx
        obtain ⟨h1, h2, _⟩ := hx
        replace h1 : r (.func 9) = .func (.func 9) #[] #[] := h1
        replace h2 : r (.tmp 13) = (.agg (KV c s)) := h2
        refine give_func #[.agg (KV c s)] rfl h1 Tryd.call9 (by simp [h2]) ?_
        refine (program_any (HAx hR) HS1.out).mono ?_
        rintro e w' ⟨z, rfl, ho, he⟩
        exact ⟨_, rfl, he, z, rfl, ho.at⟩
      refine GoodAll.cons ?_ ?_
      · intro r wx hR hx
        obtain ⟨h1, _⟩ := hx
        replace h1 : r (.tmp 3) = (.pointer (some ⟨w1.heap.size, 0, none⟩)) := h1
        exact give_of (exec_loadW rowC2 rfl h1 (HB2x hR) rfl) ⟨Ext.refl _, rfl⟩
      refine GoodAll.cons ?_ ?_
      · intro r wx hR hx
        obtain ⟨h1, h2, _⟩ := hx
        replace h1 : r (.func 9) = .func (.func 9) #[] #[] := h1
        replace h2 : r (.tmp 15) = (.agg (KV d u)) := h2
        refine give_func #[.agg (KV d u)] rfl h1 Tryd.call9 (by simp [h2]) ?_
        refine (program_any (HDx hR) HS2.out).mono ?_
        rintro e w' ⟨z, rfl, ho, he⟩
        exact ⟨_, rfl, he, z, rfl, ho.at⟩
      refine GoodAll.cons ?_ ?_
      · intro r wx hR hx
        obtain ⟨h1, h2, h3, _⟩ := hx
        replace h1 : r (.func 20) = .func (.func 20) #[] #[] := h1
        replace h2 : ((fun wx v => ∃ z, v = .agg (KV c z) ∧ CoAt wx z c) : Fact) wx (r (.tmp 14)) := h2
        replace h3 : ((fun wx v => ∃ z, v = .agg (KV d z) ∧ CoAt wx z d) : Fact) wx (r (.tmp 16)) := h3
        obtain ⟨z1, e1, hz1⟩ := h2
        obtain ⟨z2, e2, hz2⟩ := h3
        refine give_func #[.agg (KV c z1), .agg (KV d z2)] rfl h1 Tryd.call20 (by simp [e1, e2]) ?_
        refine (sameK_any hz1 hz2).mono ?_
        rintro e w' ⟨rfl, he⟩
        exact ⟨_, rfl, he, rfl⟩
      refine GoodAll.cons ?_ ?_
      · intro r wx hR hx
        obtain ⟨h1, _⟩ := hx
        replace h1 : r (.tmp 2) = (.pointer (some ⟨w.heap.size, 0, none⟩)) := h1
        exact give_of (exec_loadW rowC2 rfl h1 (HB1x hR) rfl) ⟨Ext.refl _, rfl⟩
      refine GoodAll.cons ?_ ?_
      · intro r wx hR hx
        obtain ⟨h1, _⟩ := hx
        replace h1 : r (.tmp 3) = (.pointer (some ⟨w1.heap.size, 0, none⟩)) := h1
        exact give_of (exec_loadW rowC2 rfl h1 (HB2x hR) rfl) ⟨Ext.refl _, rfl⟩
      refine GoodAll.cons ?_ ?_
      · intro r wx hR hx
        obtain ⟨h1, h2, h3, _⟩ := hx
        replace h1 : r (.func 13) = .func (.func 13) #[] #[] := h1
        replace h2 : r (.tmp 18) = (.agg (KV c s)) := h2
        replace h3 : r (.tmp 19) = (.agg (KV d u)) := h3
        refine give_func #[.agg (KV c s), .agg (KV d u)] rfl h1 Tryd.call13 (by simp [h2, h3]) ?_
        refine (refSame_any (HAx hR) (HDx hR)).mono ?_
        rintro e w' ⟨rfl, he⟩
        exact ⟨_, rfl, he, by rw [sameD_eq]; rfl⟩
      refine GoodAll.cons ?_ ?_
      · intro r wx hR hx
        obtain ⟨h1, h2, _⟩ := hx
        replace h1 : r (.tmp 17) = (.bool (sameK c d)) := h1
        replace h2 : r (.tmp 20) = (.bool (sameK c d)) := h2
        exact give_of (by simp [execOp, h1, h2, go_sem]) ⟨Ext.refl _, rfl⟩
      refine GoodAll.cons ?_ ?_
      · intro r wx hR hx
        obtain ⟨h1, _⟩ := hx
        replace h1 : r (.tmp 21) = (.bool true) := h1
        exact give_move (.inl rfl) ⟨Ext.refl _, h1⟩
      refine GoodAll.cons ?_ ?_
      · intro r wx hR hx
        obtain ⟨h1, _⟩ := hx
        replace h1 : r (.tmp 2) = (.pointer (some ⟨w.heap.size, 0, none⟩)) := h1
        intro gb hgb
        refine guard_in (b := gb) (want := true) hgb ?_
        exact give_of (exec_loadW rowC2 rfl h1 (HB1x hR) rfl) ⟨Ext.refl _, rfl⟩
      refine GoodAll.cons ?_ ?_
      · intro r wx hR hx
        obtain ⟨h1, h2, _⟩ := hx
        replace h1 : r (.func 9) = .func (.func 9) #[] #[] := h1
        replace h2 : r (.tmp 23) = (.agg (KV c s)) := h2
        intro gb hgb
        refine guard_in (b := gb) (want := true) hgb ?_
        refine give_func #[.agg (KV c s)] rfl h1 Tryd.call9 (by simp [h2]) ?_
        refine (program_any (HAx hR) HS1.out).mono ?_
        rintro e w' ⟨z, rfl, ho, he⟩
        exact ⟨_, rfl, he, z, rfl, ho.at⟩
      refine GoodAll.cons ?_ ?_
      · intro r wx hR hx
        obtain ⟨h1, _⟩ := hx
        replace h1 : r (.tmp 2) = (.pointer (some ⟨w.heap.size, 0, none⟩)) := h1
        intro gb hgb
        refine guard_in (b := gb) (want := true) hgb ?_
        exact give_of (exec_loadW rowC2 rfl h1 (HB1x hR) rfl) ⟨Ext.refl _, rfl⟩
      refine GoodAll.cons ?_ ?_
      · intro r wx hR hx
        obtain ⟨h1, h2, h3, _⟩ := hx
        replace h1 : r (.func 20) = .func (.func 20) #[] #[] := h1
        replace h2 : ((fun wx v => ∃ z, v = .agg (KV c z) ∧ CoAt wx z c) : Fact) wx (r (.tmp 24)) := h2
        replace h3 : r (.tmp 25) = (.agg (KV c s)) := h3
        intro gb hgb
        refine guard_in (b := gb) (want := true) hgb ?_
        obtain ⟨z1, e1, hz1⟩ := h2
        refine give_func #[.agg (KV c z1), .agg (KV c s)] rfl h1 Tryd.call20 (by simp [e1, h3]) ?_
        refine (sameK_any hz1 (HAx hR)).mono ?_
        rintro e w' ⟨rfl, he⟩
        exact ⟨_, rfl, he, by rw [(sameK_iff c c).2 rfl]; rfl⟩
      refine GoodAll.cons ?_ ?_
      · intro r wx hR hx
        obtain ⟨h1, h2, h3, _⟩ := hx
        replace h1 : r (.tmp 22) = (.bool true) := h1
        replace h2 : r (.tmp 26) = (.bool true) := h2
        replace h3 : r (.const (.bool false)) = .bool false := h3
        exact give_pick rfl h1 ⟨Ext.refl _, h2⟩
      refine GoodAll.cons ?_ ?_
      · intro r wx hR hx
        obtain ⟨h1, _⟩ := hx
        replace h1 : r (.tmp 27) = (.bool true) := h1
        exact give_move (.inr rfl) ⟨Ext.refl _, h1⟩
      exact GoodAll.nil
    · intro vs wE aE hR hold haE
      have hv : vs 15 = .bool true := hold.at 15
      refine ‹∀ (a : Act) (w : World), Code.wp Tryd.prog Code.ret _ a w → _› _ _ ?_
      refine wp_ret ?_
      have hs : aE.tmps[4]? = some (.bool true) := by rw [haE, ← hv]; kernel_rfl
      have hdf : aE.defers = [] := by rw [haE]; exact putAll_defers _ _ _ _
      clear haE
      refine bodyPost_ret (v := .bool true) ?_ hdf ⟨rfl, HE5.out.trans ((Ext.drew _).trans hR)⟩
      simp [results, Tryd.results6, go_sem, hs]
end Tlv
end Go.Proofs.YtfhoielfekeihaaDoor

/- From the rows' condition on the tables to their cells. Condition: the tables read as the program's text lays them. -/
namespace Go.Proofs.YtfhoielfekeihaaDoor
open Go Go.ChangeShapes Go.WideShapes Go.ChangeAt Go.RowKit
set_option maxRecDepth 100000

theorem gSq : Tryd.prog.globalNamed "weftline/sha.squareRoots" = some 0 := by kernel_rfl
theorem tSq : (Tryd.prog.globals[0]?).map (·.type) = some 111 := by kernel_rfl
theorem gCu : Tryd.prog.globalNamed "weftline/sha.cubeRoots" = some 2 := by kernel_rfl
theorem tCu : (Tryd.prog.globals[2]?).map (·.type) = some 122 := by kernel_rfl
theorem sq_all : ∀ k, k < 8 → ([1779033703, 3144134277, 1013904242, 2773480762, 1359893119, 2600822924, 528734635, 1541459225] : List Int).getD k 0 = (Sha.sqr.getD k 0 : Nat) := by decide
theorem cu_all : ∀ k, k < 64 → ([1116352408, 1899447441, 3049323471, 3921009573, 961987163, 1508970993, 2453635748, 2870763221, 3624381080, 310598401, 607225278, 1426881987, 1925078388, 2162078206, 2614888103, 3248222580, 3835390401, 4022224774, 264347078, 604807628, 770255983, 1249150122, 1555081692, 1996064986, 2554220882, 2821834349, 2952996808, 3210313671, 3336571891, 3584528711, 113926993, 338241895, 666307205, 773529912, 1294757372, 1396182291, 1695183700, 1986661051, 2177026350, 2456956037, 2730485921, 2820302411, 3259730800, 3345764771, 3516065817, 3600352804, 4094571909, 275423344, 430227734, 506948616, 659060556, 883997877, 958139571, 1322822218, 1537002063, 1747873779, 1955562222, 2024104815, 2227730452, 2361852424, 2428436474, 2756734187, 3204031479, 3329325298] : List Int).getD k 0 = (Sha.cub.getD k 0 : Nat) := by decide
theorem tabs_of2 {W : World} (h : laidMetH Tryd.prog Rows.cookieForgesRow.laid W) : Tabs W := by
  rw [MakeChecks.laidMetH_plain _ _ _ (by kernel_rfl)] at h
  obtain ⟨ps, ⟨g0, t0, cs0, f0, p0, q0, hg0, ht0, hv0, hd0, hr1, _⟩, _⟩ := h
  obtain ⟨g1, t1, cs1, f1, p1, q1, hg1, ht1, hv1, hd1, _⟩ := hr1
  obtain rfl := Option.some.inj (gSq.symm.trans hg0)
  obtain rfl := Option.some.inj (tSq.symm.trans ht0)
  obtain rfl := Option.some.inj (gCu.symm.trans hg1)
  obtain rfl := Option.some.inj (tCu.symm.trans ht1)
  refine ⟨fun k hk => ?_, fun k hk => ?_⟩
  · have h1 := ints_of_trod [1779033703, 3144134277, 1013904242, 2773480762, 1359893119, 2600822924, 528734635, 1541459225] Tryd.underlying111 Tryd.underlying23 (by kernel_rfl) hd0 k hk
    rw [World.var?_cell hg0 hv0 k, ← Array.getElem?_toList, h1, sq_all k hk]
  · have h1 := ints_of_trod [1116352408, 1899447441, 3049323471, 3921009573, 961987163, 1508970993, 2453635748, 2870763221, 3624381080, 310598401, 607225278, 1426881987, 1925078388, 2162078206, 2614888103, 3248222580, 3835390401, 4022224774, 264347078, 604807628, 770255983, 1249150122, 1555081692, 1996064986, 2554220882, 2821834349, 2952996808, 3210313671, 3336571891, 3584528711, 113926993, 338241895, 666307205, 773529912, 1294757372, 1396182291, 1695183700, 1986661051, 2177026350, 2456956037, 2730485921, 2820302411, 3259730800, 3345764771, 3516065817, 3600352804, 4094571909, 275423344, 430227734, 506948616, 659060556, 883997877, 958139571, 1322822218, 1537002063, 1747873779, 1955562222, 2024104815, 2227730452, 2361852424, 2428436474, 2756734187, 3204031479, 3329325298] Tryd.underlying122 Tryd.underlying23 (by kernel_rfl) hd1 k hk
    rw [World.var?_cell hg1 hv1 k, ← Array.getElem?_toList, h1, cu_all k hk]
end Go.Proofs.YtfhoielfekeihaaDoor

namespace Go.Proofs.YtfhoielfekeihaaDoor
open Go.ChangeShapes Go.WideShapes Go.ChangeAt Go.RowKit
open Go.ChangeMaps (open_string shut_string)
set_option linter.unusedVariables false
set_option linter.unusedSimpArgs false

theorem cookieSamesOwn : ownKnob Tryd.prog.godebug = none := by kernel_rfl
theorem cookieSamesLaidOut : laidOutB Tryd.prog = true := by kernel_rfl
theorem cookieSamesDoor (os : Os) (args : Array Value) : laidMetH Tryd.prog Rows.cookieSamesRow.laid ((World.doorLaid Tryd.prog 14 os).forCall (fun _ _ => 0) ⟨#[], args, []⟩).memory :=
  laidMetH_of_parts3 (fuel := 8) (laidMet_of_run' 8 (by kernel_rfl) (by kernel_rfl)) (by kernel_rfl) (by kernel_rfl)
set_option maxRecDepth 100000 in
theorem cookieSamesLifted (os : Os) (started : os.Started) (H : Type) (enc : TypeId × Value → H) :
    ReturnsInHanded {} Tryd.checked os 6 .any (fun w args => (Rows.cookieSamesSpec.pre enc Tryd.prog Tryd.f6 [] false w args ∧ laidMetH Tryd.prog Rows.cookieSamesRow.laid w) ∧ sizedMet enc Tryd.prog Tryd.f6 (OpenSpec.ofChange Rows.cookieSamesSpec) false w args)
      (Rows.cookieSamesSpec.post enc Tryd.prog Tryd.f6 false true false false) := by
  refine returnsInHanded_of_change_and (C := Tryd.checked) (X := fun w _ => laidMetH Tryd.prog Rows.cookieSamesRow.laid w) (fun _ _ _ hh h => h.of_heap hh) cookieSamesOwn started (by kernel_rfl) Tryd.func6
    (ChangeSpec.witness_shaped (enc := enc) (C := Tryd.checked) (os := os) (X := fun w _ => laidMetH Tryd.prog Rows.cookieSamesRow.laid w) false (World.doorLaid Tryd.prog 14 os) #[.agg (Tlv.KV Tlv.co0 Tlv.so0), .agg (Tlv.KV Tlv.co0 Tlv.so0)] 8 rfl (World.shaped_of_RefB (by kernel_rfl) (by kernel_rfl)) (by kernel_rfl) (by kernel_rfl) (by kernel_rfl) (cookieSamesDoor os _)) ?_
  intro W base args ds gs before hval0 hW _ _ hL _
  have hval : ∀ (j : Nat) t v, Tryd.f6.params[j]? = some t → args[j]? = some v → Value.okWide Tryd.prog W .any base t v := hval0
  have hW' := hW
  obtain ⟨p, q, hA0, hV, rfl, hfz, hnd⟩ := hW
  have hA : DataW.TrodAll enc Tryd.prog W 0 (fun _ => true) true Tryd.f6.params.toList args.toList ds p := hA0
  rw [Tryd.params6] at hA hval
  obtain ⟨v0, vs0, d0, ds0, p0, q0, hargs, rfl, rfl, h0, r0⟩ := trodAll_cons hA
  obtain ⟨v1, vs1, d1, ds1, p1, q1, rfl, rfl, rfl, h1, r1⟩ := trodAll_cons r0
  obtain ⟨rfl, rfl, rfl⟩ := trodAll_nil r1
  obtain rfl : args = #[v0, v1] := by cases args; simp_all
  obtain ⟨rfl, rfl⟩ := trodVars_none hV
  have k0 := h0
  have lt0 : ∀ x ∈ p0, x.block < W.heap.size := by obtain ⟨m, hm⟩ := k0; exact DataW.trod_lt m _ _ _ hm
  obtain ⟨cs0, rfl, hz0⟩ := okWide_struct Tryd.underlying26 (hval 0 26 v0 rfl rfl)
  obtain ⟨c0, s0, hc0, hk0, hf0⟩ : ∃ c s, cs0 = Tlv.KV c s ∧ Tlv.CoAt W s c ∧ Tlv.FitC c := by
    obtain ⟨fu, hfu⟩ := h0
    have hz : cs0.toList.length = 14 := by rw [Array.length_toList, hz0]; kernel_rfl
    obtain ⟨c, s, e, a, b⟩ := Tlv.co_open hz (by simpa [Value.cells] using hfu)
    exact ⟨c, s, Array.toList_inj.1 e, a, b⟩
  subst hc0
  have k1 := h1
  have lt1 : ∀ x ∈ p1, x.block < W.heap.size := by obtain ⟨m, hm⟩ := k1; exact DataW.trod_lt m _ _ _ hm
  obtain ⟨cs1, rfl, hz1⟩ := okWide_struct Tryd.underlying26 (hval 1 26 v1 rfl rfl)
  obtain ⟨c1, s1, hc1, hk1, hf1⟩ : ∃ c s, cs1 = Tlv.KV c s ∧ Tlv.CoAt W s c ∧ Tlv.FitC c := by
    obtain ⟨fu, hfu⟩ := h1
    have hz : cs1.toList.length = 14 := by rw [Array.length_toList, hz1]; kernel_rfl
    obtain ⟨c, s, e, a, b⟩ := Tlv.co_open hz (by simpa [Value.cells] using hfu)
    exact ⟨c, s, Array.toList_inj.1 e, a, b⟩
  subst hc1
  clear hA0 hval0
  have hT := tabs_of2 hL
  refine (Tlv.sames_walk hT hk0 hk1).mono fun e W' ⟨he, bel⟩ => ?_
  subst he
  exact ⟨_, rfl, _, _, _, [], _, [], hW', trodAll_mk1 (shut_bool Tryd.underlying4 _), (trodAll_cons_mk (Below.trod cookieSamesLaidOut (by kernel_rfl) (of_decide_eq_true (by kernel_rfl)) k0 bel lt0) (trodAll_cons_mk (Below.trod cookieSamesLaidOut (by kernel_rfl) (of_decide_eq_true (by kernel_rfl)) k1 bel lt1) (trodAll_mk0))), rfl, bel.frame _, fun h => by cases h⟩

theorem cookieSamesOver : Rows.cookieSamesRow.holds Tryd.pinned (OpenSpec.ofChange Rows.cookieSamesSpec) :=
  OpenClaim.holds_of_wide 6 Tryd.f6 rfl rfl rfl rfl rfl rfl rfl ⟨rfl, rfl, rfl, rfl, rfl⟩ rfl rfl rfl rfl rfl (by kernel_rfl) Tryd.func6 (by kernel_rfl)
    (of_decide_eq_true (by kernel_rfl)) (by unfold Func.isWrapper; first | (rw [if_pos (by decide +kernel)]; kernel_rfl) | (rw [if_neg (by decide +kernel)]; exact ⟨rfl, rfl⟩))
    (fun os started H enc _ => cookieSamesLifted os started H enc)

/-- THE STATEMENT. -/
theorem cookieSames_holds : Rows.CookieSamesCardSaid :=
  Claim7.holds_tied_plain_at .later [] [.data, .data] true (true, "658aee9203d4dfbb09f1f1ac9f759582c28b8d1a46754831244efaf4a78ddc61") true
    cookieSamesOver (fun _ h => by cases h) (by kernel_rfl) (fun _ h => by cases h) cookieSames_row_tie rfl ⟨rfl, rfl⟩ (by kernel_rfl) rfl
    (fun f fn hf hfn => by
      obtain rfl : f = 6 := Option.some.inj ((show Tryd.prog.funcNamed Rows.cookieSamesRow.func = some 6 by kernel_rfl).symm.trans hf) |>.symm
      obtain rfl : fn = Tryd.f6 := (Option.some.inj (Tryd.func6.symm.trans hfn)).symm
      exact ⟨by kernel_rfl, fun j t ht => by
        rw [Tryd.params6] at ht
        have hm : t ∈ [26, 26] := by simpa using Array.mem_of_getElem? ht
        have hall : ([26, 26].all fun u => !Tryd.prog.wantsStandIn u) = true := by kernel_rfl
        exact (show Tryd.prog.wantsStandIn t = false by simpa using List.all_eq_true.1 hall t hm)⟩)
    (by kernel_rfl)
#print axioms cookieSames_holds
end Go.Proofs.YtfhoielfekeihaaDoor
