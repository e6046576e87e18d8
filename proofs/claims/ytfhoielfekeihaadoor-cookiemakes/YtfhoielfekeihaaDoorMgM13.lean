/- For any secret, any cookie and any tick the law CookieMakes answers true and leaves its arguments as they were: which cookies are good and what a good cookie's bytes are is what the document says, and what was made is opened to the same cookie, just as long as it lives; what is not good is refused. Conditions: the package-level tables squareRoots, cubeRoots and the document's cube hold what the program's text lays (tied). -/
import Derived.Test.YtfhoielfekeihaaDoorMgM12
import Derived.Lib.SmallJoins
import Derived.SizedLaws
import Derived.Test.YtfhoielfekeihaaDoorRows
import Derived.WalkKit
import Derived.ProofKit
import Derived.OpenShut
import Derived.ShutString
import Derived.ChangeOld
import Derived.Below
import Derived.Test.YtfhoielfekeihaaDoorCards
import Derived.Test.YtfhoielfekeihaaDoorTie
import Derived.SevenTiedAt
import Derived.LaidMore
import Derived.Stop.Joined
/- The law's fixed fact: the chapter's example. Condition: the tables hold what the text lays. -/
namespace Go.Proofs.YtfhoielfekeihaaDoor
namespace Tlv
open Go Go.RowKit
set_option linter.unusedVariables false
set_option linter.unusedSimpArgs false
set_option maxRecDepth 100000


theorem is_anyE (n m : Int) (w : World) : Calls Tryd.prog 14 #[errV n, .int .i64 m] w fun e w' => e = .returned (.bool (n == m)) ∧ Ext w w' := by
  refine (is_any n m w).mono ?_
  rintro e w' ⟨rfl, hw⟩
  exact ⟨rfl, by rw [hw]; exact Ext.refl _⟩
theorem make_good {w : World} {kv : Value} {K : List Nat} {c : Co} {s : So} (hT : Tabs w) (hk : BytesAt w kv K) (hK : K.length ≤ 90000) (ha : CoAt w s c) (hf : FitC c) (hg : goodK c = true) :
    Calls Tryd.prog 10 #[kv, .agg (KV c s)] w fun e w' => Ext w w' ∧ ∃ a n cp, e = .returned (.tuple #[.slice a n cp, .nilIface]) ∧ n = (makeK K c).length ∧ OB w' w.heap.size (.slice a n cp) (makeK K c) := by
  refine (make_any hT hk hK ha hf).mono ?_
  rintro e w' ⟨he, ⟨h, _⟩ | ⟨_, h⟩⟩
  · rw [hg] at h; cases h
  · exact ⟨he, h⟩
theorem make_bad {w : World} {kv : Value} {K : List Nat} {c : Co} {s : So} (hT : Tabs w) (hk : BytesAt w kv K) (hK : K.length ≤ 90000) (ha : CoAt w s c) (hf : FitC c) (hg : goodK c = false) :
    Calls Tryd.prog 10 #[kv, .agg (KV c s)] w fun e w' => e = .returned (.tuple #[.slice none 0 0, errF]) ∧ Ext w w' := by
  refine (make_any hT hk hK ha hf).mono ?_
  rintro e w' ⟨he, ⟨_, h⟩ | ⟨h, _⟩⟩
  · exact ⟨h, he⟩
  · rw [hg] at h; cases h
theorem body_make (K : List Nat) (c : Co) : bodyB (makeK K c) = laidK c ∧ sealB (makeK K c) = Mac.tag K (laidK c) := by
  unfold bodyB sealB
  rw [makeK_len, Nat.add_sub_cancel]
  exact ⟨List.take_left' rfl, List.drop_left' rfl⟩
/-- What was made is opened. -/
theorem open_made {K : List Nat} {c : Co} {now : Int} (hg : goodK c = true) (hf : FitC c) : openE K (makeK K c) now = (if 0 < lateK c now then 8 else 0) ∧ readK (bodyB (makeK K c)) = c := by
  have h1 := body_make K c
  have h2 := read_laid hg hf
  have h3 : ¬ (makeK K c).length < 32 := by rw [makeK_len]; omega
  rw [openE_in h3 (by rw [h1.1, h1.2]), h1.1, h2.1, h2.2, hg]
  exact ⟨rfl, rfl⟩
def coA : Co := ⟨5, 10, 1, 2, 0, 0, 0, 1, 1, [3], [1], [2], 0, 0⟩
theorem goodA : goodK coA = true := by decide
theorem fitA : FitC coA := ⟨by decide, by decide, by decide, by decide, by decide, by decide, by decide, by decide, by decide, by decide, by decide, by decide⟩
theorem builtA (a b c : Nat) : Tryd.prog.built 29 [(0, .int .i64 5), (1, .int .i64 10), (2, .int .u32 1), (3, .int .u32 2), (7, .int .i64 1), (8, .int .i64 1), (9, .slice (some ⟨a, 0, none⟩) 1 1), (10, .slice (some ⟨b, 0, none⟩) 1 1), (11, .slice (some ⟨c, 0, none⟩) 1 1)] = some (KV coA ⟨some ⟨a, 0, none⟩, 1, 1, some ⟨b, 0, none⟩, 1, 1, some ⟨c, 0, none⟩, 1, 1⟩) := by kernel_rfl
set_option maxHeartbeats 8000000 in
theorem alive_any (w : World) (hT : Tabs w) : Calls Tryd.prog 7 #[] w fun e w' => e = .returned (.bool true) ∧ Ext w w' := by
  have HT : Hid (Tabs w) := hT
  clear hT
  obtain ⟨B, hB⟩ : ∃ B, B = makeK [115] coA := ⟨_, rfl⟩
  have HB : Hid (B = makeK [115] coA ∧ B.length ≤ 300 ∧ openE [115] B 15 = 0 ∧ openE [115] B 16 = 8) := ⟨hB, by rw [hB, makeK_len]; have := laidK_le goodA; omega, by rw [hB, (open_made goodA fitA).1]; decide, by rw [hB, (open_made goodA fitA).1]; decide⟩
  clear hB
  go_enter Tryd.func7, Tryd.ntmps7
  refine wp_seq_k (fun K0 hK => ?_)
  have HK0 := Stop.mk hK
  clear hK
  go_wp2
  refine HK0.go _ _ ?_
  clear HK0
  refine wp_seq_k (fun K1 hK => ?_)
  have HK1 := Stop.mk hK
  clear hK
  go_wp2_with (first
    | (refine stop_at 3 rfl ?_)
    | fail)
  refine ⟨?_⟩
  obtain ⟨sA, hsA⟩ : ∃ s : So, s = ⟨some ⟨w.heap.size, 0, none⟩, 1, 1, some ⟨w.heap.size + 1, 0, none⟩, 1, 1, some ⟨w.heap.size + 1 + 1, 0, none⟩, 1, 1⟩ := ⟨_, rfl⟩
  obtain ⟨w1, hw1⟩ : ∃ x, x = ((w.alloc (.cells #[.int .i64 3] 54)).alloc (.cells #[.int .u8 1] 5)).alloc (.cells #[.int .u8 2] 5) := ⟨_, rfl⟩
  have HA1 : Hid (CoAt w1 sA coA ∧ Ext w w1) := by
    subst hsA hw1
    refine ⟨⟨?_, ?_, ?_⟩, ((Ext.alloc _ _).trans (Ext.alloc _ _)).trans (Ext.alloc _ _)⟩
    · exact (NumsAt.one w 3 54 _ rfl).ext ((Ext.alloc _ _).trans (Ext.alloc _ _))
    · exact BytesAt.ext (bytes_of_nums (l := [1]) (NumsAt.one (w.alloc (.cells #[.int .i64 3] 54)) 1 5 _ (by simp)) (fun x hx => by simp at hx; omega)) (Ext.alloc _ _)
    · exact bytes_of_nums (l := [2]) (NumsAt.one ((w.alloc (.cells #[.int .i64 3] 54)).alloc (.cells #[.int .u8 1] 5)) 2 5 _ (by simp)) (fun x hx => by simp at hx; omega)
  rw [← hw1]
  clear hw1
  refine wl_buildC rfl rfl ?hv (builtA w.heap.size (w.heap.size + 1) (w.heap.size + 1 + 1)) ?hk
  case hv => first | kernel_rfl | (simp only [List.map_toArray, List.map_cons, List.map_nil]; rfl)
  rw [← hsA]
  clear hsA
  simp only [Act.put, List.setIfInBounds_toArray, List.set_cons_succ, List.set_cons_zero]
  go_wp2_with (first
    | (have q := hb2; clear q; refine wl_store (D := KV coA sA) rfl rowC rfl rfl rfl hb2 rfl rfl (KV.one _ _) ?_; intro w3 hb3 hk3 hx; clear hx)
    | (refine wl_alloc rfl rfl zeroC ?_; intro w2 hb2 he2 hx; clear hx))
  refine HK1.go _ _ ?_
  clear HK1
  have he3 := he2.of_but hk3 (fun k e => by subst e; exact Nat.le_refl _)
  have HA3 : Hid (CoAt w3 sA coA ∧ Ext w w3) := ⟨HA1.out.1.ext he3, HA1.out.2.trans he3⟩
  have HB3 : Hid (Blk w3 w1.heap.size (KV coA sA) 29) := hb3
  clear hb2 hk3 he2 he3 HA1 hb3
  obtain ⟨q, hq⟩ : ∃ q, q = w1.heap.size := ⟨_, rfl⟩
  rw [← hq] at HB3
  rw [← hq]
  clear hq
  refine wp_seq_k (fun K2 hK => ?_)
  have HK2 := Stop.mk hK
  clear hK
  go_wp2_with (first
    | (go_at_call 10; refine (make_good (HT.out.ext (HA3.out.2.trans hec)) hvc (by simp) (HA3.out.1.ext hec) fitA goodA).mono ?_; rintro e w4 ⟨he4', a4, n4, c4, rfl, hn4, ho4⟩; clear hn4; have he4 := hec.trans he4'; clear he4' hvc hec; rw [← HB.out.1] at ho4)
    | (refine wl_load rfl rowC rfl rfl (HB3.out.ext hec) rfl ?_)
    | (refine wl_conv [115] rfl rfl rfl (by simp) rfl rfl rfl (by intro x hx; simp at hx; omega) (by simp) ?_; intro wc3 hvc hec hx; clear hx))
  refine HK2.go _ _ ?_
  clear HK2
  have HO4 : Hid (BytesAt w4 (.slice a4 n4 c4) B ∧ Ext w w4 ∧ Ext w3 w4) := ⟨ho4.bytes, HA3.out.2.trans he4, he4⟩
  clear ho4 he4
  refine wp_seq_k (fun K3 hK => ?_)
  have HK3 := Stop.mk hK
  clear hK
  go_wp2_with (first
    | (have q := he5; clear q; refine wl_alloc rfl rfl zeroC ?_; intro w6a hb6a he6a hx; clear hx; refine wl_store (D := KV (openC [115] B 15) s5) rfl rowC rfl rfl rfl hb6a rfl rfl (KV.one _ _) ?_; intro w6b hb6b hk6b hx; clear hx; have he6b := he6a.of_but hk6b (fun k e => by subst e; exact Nat.le_refl _); clear hb6a he6a hk6b)
    | (go_at_call 17; refine (open_any (HT.out.ext (HO4.out.2.1.trans hec)) hvc (HO4.out.1.ext hec) (by simp) (by have := HB.out.2.1; omega) (by decide)).mono ?_; rintro e w5 ⟨he5', s5, rfl, ho5⟩; rw [HB.out.2.2.1, show errV 0 = .nilIface from rfl]; have he5 := hec.trans he5'; clear he5' ho5 hvc hec)
    | (refine wl_conv [115] rfl rfl rfl (by simp) rfl rfl rfl (by intro x hx; simp at hx; omega) (by simp) ?_; intro wc4 hvc hec hx; clear hx))
  refine HK3.go _ _ ?_
  clear HK3
  have HO6 : Hid (BytesAt w6b (.slice a4 n4 c4) B ∧ Ext w w6b ∧ Ext w3 w6b) := ⟨(HO4.out.1.ext he5).ext he6b, (HO4.out.2.1.trans he5).trans he6b, (HO4.out.2.2.trans he5).trans he6b⟩
  clear hb6b he6b he5 HO4
  refine wp_seq_k (fun K4 hK => ?_)
  have HK4 := Stop.mk hK
  clear hK
  go_wp2_with (first
    | (have q := he7; clear q; refine wl_alloc rfl rfl zeroC ?_; intro w8a hb8a he8a hx; clear hx; refine wl_store (D := KV (openC [115] B 16) s7) rfl rowC rfl rfl rfl hb8a rfl rfl (KV.one _ _) ?_; intro w8b hb8b hk8b hx; clear hx; have he8b := he8a.of_but hk8b (fun k e => by subst e; exact Nat.le_refl _); clear hb8a he8a hk8b)
    | (go_at_call 17; refine (open_any (HT.out.ext (HO6.out.2.1.trans hec)) hvc (HO6.out.1.ext hec) (by simp) (by have := HB.out.2.1; omega) (by decide)).mono ?_; rintro e w7 ⟨he7', s7, rfl, ho7⟩; rw [HB.out.2.2.2]; have he7 := hec.trans he7'; clear he7' ho7 hvc hec)
    | (refine wl_conv [115] rfl rfl rfl (by simp) rfl rfl rfl (by intro x hx; simp at hx; omega) (by simp) ?_; intro wc6 hvc hec hx; clear hx))
  refine HK4.go _ _ ?_
  clear HK4
  have HE9 : Hid (Ext w3 w8b) := (HO6.out.2.2.trans he7).trans he8b
  have HA9 : Hid (CoAt w8b sA coA) := HA3.out.1.ext HE9.out
  have HB9 : Hid (Blk w8b q (KV coA sA) 29) := HB3.out.ext HE9.out
  have HW9 : Hid (Ext w w8b) := HA3.out.2.trans HE9.out
  clear hb8b he8b he7 HO6
  refine wp_seq_k (fun K9 hK9 => ?_)
  refine wp_line (fun t => bif Nat.ble 33 t && Nat.ble t 47 then some (t - 33) else bif Nat.beq t 0 then some 15 else none) 48 Ext
    [Is (.nilIface),
     Is (.bool true),
     Is (.bool true),
     Under ((true)) (.nilIface),
     Under ((true)) (.bool true),
     Is (.bool (true && (true))),
     Is (.bool (true && (true))),
     Under (((true && (true)))) (errV 8),
     Under (((true && (true)))) (.bool ((8 : Int) == 8)),
     Is (.bool ((true && (true)) && (((8 : Int) == 8)))),
     Is (.bool ((true && (true)) && (((8 : Int) == 8)))),
     Under ((((true && (true)) && (((8 : Int) == 8))))) (.agg (KV coA sA)),
     Under ((((true && (true)) && (((8 : Int) == 8))))) (.int .i64 (lateK coA 16)),
     Under ((((true && (true)) && (((8 : Int) == 8))))) (.bool (((lateK coA 16) : Int) == (1 : Int))),
     Is (.bool (((true && (true)) && (((8 : Int) == 8))) && ((((lateK coA 16) : Int) == (1 : Int))))),
     Is (.bool (((true && (true)) && (((8 : Int) == 8))) && ((((lateK coA 16) : Int) == (1 : Int)))))]
    rfl (by kernel_rfl) rfl Ext.refl (fun _ _ _ => Ext.trans) (KeepAll.is (KeepAll.is (KeepAll.is (KeepAll.under (KeepAll.under (KeepAll.is (KeepAll.is (KeepAll.under (KeepAll.under (KeepAll.is (KeepAll.is (KeepAll.under (KeepAll.under (KeepAll.under (KeepAll.is (KeepAll.is (KeepAll.nil))))))))))))))))) ?_ ?_
  · refine GoodAll.cons ?_ ?_
    · intro r wx hR hx
      obtain ⟨h1, _⟩ := hx
      replace h1 : r (.tmp 3) = .nilIface := h1
      exact give_move (.inl rfl) ⟨Ext.refl _, h1⟩
    refine GoodAll.cons ?_ ?_
    · intro r wx hR hx
      obtain ⟨h1, h2, _⟩ := hx
      replace h1 : r (.tmp 33) = .nilIface := h1
      replace h2 : r (.const (.nilIface)) = .nilIface := h2
      exact give_of (exec_eql0 rfl h1 h2) ⟨Ext.refl _, rfl⟩
    refine GoodAll.cons ?_ ?_
    · intro r wx hR hx
      obtain ⟨h1, _⟩ := hx
      replace h1 : r (.tmp 34) = .bool true := h1
      exact give_move (.inl rfl) ⟨Ext.refl _, h1⟩
    refine GoodAll.cons ?_ ?_
    · intro r wx hR hx
      obtain ⟨h1, _⟩ := hx
      replace h1 : r (.tmp 5) = .nilIface := h1
      intro gb hgb
      refine guard_u (C := (true)) (b := true) (want := true) hgb (want_t _) (fun hc => ?_) (fun hc => under_no hc)
      exact give_move (.inl rfl) ⟨Ext.refl _, (h1.trans (under_yes hc))⟩
    refine GoodAll.cons ?_ ?_
    · intro r wx hR hx
      obtain ⟨h1, h2, _⟩ := hx
      replace h1 : Under ((true)) (.nilIface) wx (r (.tmp 36)) := h1
      replace h2 : r (.const (.nilIface)) = .nilIface := h2
      intro gb hgb
      refine guard_u (C := (true)) (b := true) (want := true) hgb (want_t _) (fun hc => ?_) (fun hc => under_no hc)
      replace h1 := h1.get hc
      exact give_of (exec_eql0 rfl h1 h2) ⟨Ext.refl _, under_yes hc⟩
    refine GoodAll.cons ?_ ?_
    · intro r wx hR hx
      obtain ⟨h1, h2, h3, _⟩ := hx
      replace h1 : r (.tmp 35) = .bool true := h1
      replace h2 : Under ((true)) (.bool true) wx (r (.tmp 37)) := h2
      replace h3 : r (.const (.bool false)) = .bool false := h3
      exact give_and rfl h3 h1 (fun hb => h2.get (by first | exact hb | (rw [hc, hb]; rfl) | (rw [hb]; rfl))) ⟨Ext.refl _, rfl⟩
    refine GoodAll.cons ?_ ?_
    · intro r wx hR hx
      obtain ⟨h1, _⟩ := hx
      replace h1 : r (.tmp 38) = .bool (true && (true)) := h1
      exact give_move (.inl rfl) ⟨Ext.refl _, h1⟩
    refine GoodAll.cons ?_ ?_
    · intro r wx hR hx
      obtain ⟨h1, _⟩ := hx
      replace h1 : r (.tmp 7) = errV 8 := h1
      intro gb hgb
      refine guard_u (C := ((true && (true)))) (b := (true && (true))) (want := true) hgb (want_t _) (fun hc => ?_) (fun hc => under_no hc)
      exact give_move (.inl rfl) ⟨Ext.refl _, (h1.trans (under_yes hc))⟩
    refine GoodAll.cons ?_ ?_
    · intro r wx hR hx
      obtain ⟨h1, h2, h3, _⟩ := hx
      replace h1 : r (.func 14) = .func (.func 14) #[] #[] := h1
      replace h2 : Under (((true && (true)))) (errV 8) wx (r (.tmp 40)) := h2
      replace h3 : r (.const (.int .i64 8)) = .int .i64 8 := h3
      intro gb hgb
      refine guard_u (C := ((true && (true)))) (b := (true && (true))) (want := true) hgb (want_t _) (fun hc => ?_) (fun hc => under_no hc)
      replace h2 := h2.get hc
      refine give_func #[errV 8, .int .i64 8] rfl h1 Tryd.call14 (by simp [h2, h3]) ?_
      refine (is_anyE _ _ _).mono ?_
      rintro e wz ⟨rfl, hez⟩
      exact ⟨_, rfl, hez, under_yes hc⟩
    refine GoodAll.cons ?_ ?_
    · intro r wx hR hx
      obtain ⟨h1, h2, h3, _⟩ := hx
      replace h1 : r (.tmp 39) = .bool (true && (true)) := h1
      replace h2 : Under (((true && (true)))) (.bool ((8 : Int) == 8)) wx (r (.tmp 41)) := h2
      replace h3 : r (.const (.bool false)) = .bool false := h3
      exact give_and rfl h3 h1 (fun hb => h2.get (by first | exact hb | (rw [hc, hb]; rfl) | (rw [hb]; rfl))) ⟨Ext.refl _, rfl⟩
    refine GoodAll.cons ?_ ?_
    · intro r wx hR hx
      obtain ⟨h1, _⟩ := hx
      replace h1 : r (.tmp 42) = .bool ((true && (true)) && (((8 : Int) == 8))) := h1
      exact give_move (.inl rfl) ⟨Ext.refl _, h1⟩
    refine GoodAll.cons ?_ ?_
    · intro r wx hR hx
      obtain ⟨h1, _⟩ := hx
      replace h1 : r (.tmp 1) = .pointer (some ⟨q, 0, none⟩) := h1
      intro gb hgb
      refine guard_u (C := (((true && (true)) && (((8 : Int) == 8))))) (b := ((true && (true)) && (((8 : Int) == 8)))) (want := true) hgb (want_t _) (fun hc => ?_) (fun hc => under_no hc)
      exact give_of (exec_loadW rowC rfl h1 (HB9.out.ext hR) rfl) ⟨Ext.refl _, under_yes hc⟩
    refine GoodAll.cons ?_ ?_
    · intro r wx hR hx
      obtain ⟨h1, h2, h3, _⟩ := hx
      replace h1 : r (.func 15) = .func (.func 15) #[] #[] := h1
      replace h2 : Under ((((true && (true)) && (((8 : Int) == 8))))) (.agg (KV coA sA)) wx (r (.tmp 44)) := h2
      replace h3 : r (.const (.int .i64 16)) = .int .i64 16 := h3
      intro gb hgb
      refine guard_u (C := (((true && (true)) && (((8 : Int) == 8))))) (b := ((true && (true)) && (((8 : Int) == 8)))) (want := true) hgb (want_t _) (fun hc => ?_) (fun hc => under_no hc)
      replace h2 := h2.get hc
      refine give_func #[.agg (KV coA sA), .int .i64 16] rfl h1 Tryd.call15 (by simp [h2, h3]) ?_
      refine (late_any (HA9.out.ext hR) 16 (by decide)).mono ?_
      rintro e wz ⟨rfl, hez⟩
      exact ⟨_, rfl, hez, under_yes hc⟩
    refine GoodAll.cons ?_ ?_
    · intro r wx hR hx
      obtain ⟨h1, h2, _⟩ := hx
      replace h1 : Under ((((true && (true)) && (((8 : Int) == 8))))) (.int .i64 (lateK coA 16)) wx (r (.tmp 45)) := h1
      replace h2 : r (.const (.int .i64 1)) = .int .i64 1 := h2
      intro gb hgb
      refine guard_u (C := (((true && (true)) && (((8 : Int) == 8))))) (b := ((true && (true)) && (((8 : Int) == 8)))) (want := true) hgb (want_t _) (fun hc => ?_) (fun hc => under_no hc)
      replace h1 := h1.get hc
      exact give_of (by simp [execOp, h1, h2, go_sem]) ⟨Ext.refl _, under_yes hc⟩
    refine GoodAll.cons ?_ ?_
    · intro r wx hR hx
      obtain ⟨h1, h2, h3, _⟩ := hx
      replace h1 : r (.tmp 43) = .bool ((true && (true)) && (((8 : Int) == 8))) := h1
      replace h2 : Under ((((true && (true)) && (((8 : Int) == 8))))) (.bool (((lateK coA 16) : Int) == (1 : Int))) wx (r (.tmp 46)) := h2
      replace h3 : r (.const (.bool false)) = .bool false := h3
      exact give_and rfl h3 h1 (fun hb => h2.get (by first | exact hb | (rw [hc, hb]; rfl) | (rw [hb]; rfl))) ⟨Ext.refl _, rfl⟩
    refine GoodAll.cons ?_ ?_
    · intro r wx hR hx
      obtain ⟨h1, _⟩ := hx
      replace h1 : r (.tmp 47) = .bool (((true && (true)) && (((8 : Int) == 8))) && ((((lateK coA 16) : Int) == (1 : Int)))) := h1
      exact give_move (.inr rfl) ⟨Ext.refl _, h1⟩
    exact GoodAll.nil
  · intro vs wE aE hR hold haE
    have hv : vs 15 = .bool (((true && (true)) && (((8 : Int) == 8))) && ((((lateK coA 16) : Int) == (1 : Int)))) := hold.at 15
    refine ‹∀ (a : Act) (w : World), Code.wp Tryd.prog Code.ret _ a w → _› _ _ ?_
    refine wp_ret ?_
    have hs : aE.tmps[0]? = some (.bool (((true && (true)) && (((8 : Int) == 8))) && ((((lateK coA 16) : Int) == (1 : Int))))) := by rw [haE, ← hv]; kernel_rfl
    have hdf : aE.defers = [] := by rw [haE]; exact putAll_defers _ _ _ _
    clear haE
    refine bodyPost_ret (v := .bool (((true && (true)) && (((8 : Int) == 8))) && ((((lateK coA 16) : Int) == (1 : Int))))) ?_ hdf ⟨congrArg (fun b : Bool => Ending.returned (.bool b)) (by decide), HW9.out.trans hR⟩
    simp [results, Tryd.results7, go_sem, hs]
end Tlv
end Go.Proofs.YtfhoielfekeihaaDoor

/- The law CookieMakes walked: it answers true. Condition: the tables hold what the text lays. -/
namespace Go.Proofs.YtfhoielfekeihaaDoor
namespace Tlv
open Go Go.RowKit
set_option linter.unusedVariables false
set_option linter.unusedSimpArgs false
set_option maxRecDepth 100000


theorem exec_neqS9 {r : Operand → Value} {o : Oper} {x y : Operand} {tt : TypeId} {w : World} {l : List Nat} (ho : o.op = .binOp .neq 9 x y tt) (hx : r x = .string (strOf l)) (hy : r y = .string (strOf l)) (hl : ∀ x ∈ l, x < 256) :
    (execOp r o).run Tryd.prog w = .ok (.value (.bool false)) w := by
  have := strOf_beq l l hl hl
  simp [execOp, ho, hx, hy, go_sem, this, bne]
theorem is_F (w : World) : Calls Tryd.prog 14 #[errF, .int .i64 2] w fun e w' => e = .returned (.bool true) ∧ Ext w w' := is_anyE 2 2 w
theorem late_sum {c : Co} {n : Int} (hg : goodK c = true) (hn : W64 n) : IntKind.i64.wrap (c.made + c.life) = c.made + c.life ∧ wrap64 (c.made + c.life) = c.made + c.life ∧ (c.made + c.life < n → IntKind.i64.wrap (n - c.made) = n - c.made ∧ wrap64 (n - c.made) = n - c.made ∧ IntKind.i64.wrap (n - c.made - c.life) = n - c.made - c.life ∧ wrap64 (n - c.made - c.life) = n - c.made - c.life) ∧ (lateK c n = if c.made + c.life < n then n - c.made - c.life else 0) := by
  have := goodK_nums hg
  unfold W64 at hn
  refine ⟨by rw [IntKind.wrap_i64]; omega, by unfold wrap64; omega, fun h => ⟨by rw [IntKind.wrap_i64]; omega, by unfold wrap64; omega, by rw [IntKind.wrap_i64]; omega, by unfold wrap64; omega⟩, ?_⟩
  unfold lateK
  rw [if_pos hg]
  split <;> split <;> omega
theorem late_pos9 {c : Co} {n : Int} (hg : goodK c = true) : 0 < lateK c n ↔ c.made + c.life < n := by
  unfold lateK
  rw [if_pos hg]
  split <;> omega
set_option maxHeartbeats 16000000 in
theorem makes_walk {w : World} {u : Value} {K : List Nat} {c : Co} {s : So} {n : Int} (hT : Tabs w) (hC : Cube w) (hu : BytesAt w u K) (hc : CoAt w s c) (hf : FitC c) (hn : W64 n) :
    Calls Tryd.prog 3 #[u, .agg (KV c s), .int .i64 n] w fun e w' => e = .returned (.bool true) ∧ Ext w w' := by
  have HT : Hid (Tabs w ∧ Cube w) := ⟨hT, hC⟩
  have HA : Hid (BytesAt w u K ∧ CoAt w s c) := ⟨hu, hc⟩
  have HF : Hid (FitC c) := hf
  have HN : Hid (W64 n) := hn
  obtain ⟨ka, kc, rfl, _, _⟩ := hu.form
  rename_i z1 z2
  clear z1 z2 hT hC hu hc hf hn
  cases hbk : bigK K c with
  | true =>
    go_enter Tryd.func3, Tryd.ntmps3
    go_wp2_with (first
      | (have q_ := hb2; clear q_; go_at_call 8; refine (large_any (HA.out.1.ext (he1.trans he2)) (HA.out.2.ext (he1.trans he2))).mono ?_; rintro e w3 ⟨rfl, he3⟩; rw [hbk]; have hb3 := hb2.ext he3)
      | (have q_ := hb2; clear q_; refine wl_load rfl rowC2 rfl rfl hb2 rfl ?_)
      | (go_at_call 7; refine (alive_any _ (HT.out.1.ext he1)).mono ?_; rintro e w2 ⟨rfl, he2⟩; have hb2 := hb1.ext he2)
      | (refine wl_box (C := KV c s) rfl rfl rfl ?_; intro w1 hb1 he1 hx; clear hx))
    go_ret
    exact ⟨rfl, (he1.trans he2).trans he3⟩
  | false =>
  have HLN : Hid (K.length ≤ 300) := (bigK_no hbk).1
  have HSM : Hid (SmallK c) := by have := bigK_no hbk; exact ⟨by omega, by omega, by omega⟩
  go_enter Tryd.func3, Tryd.ntmps3
  go_wp2_with (first
    | (have q_ := hz; clear q_; refine wl_alloc rfl rfl zeroC ?_; intro w5a hb5a he5a hx; clear hx; refine wl_store (D := KV c z) rfl rowC rfl rfl rfl hb5a rfl rfl (KV.one _ _) ?_; intro w5 hb5 hk5 hx; clear hx; have he5 := he5a.of_but hk5 (fun k e => by subst e; exact Nat.le_refl _); clear hb5a he5a hk5)
    | (have q_ := hb3; clear q_; go_at_call 9; refine (program_any (HA.out.2.ext ((he1.trans he2).trans he3)) HSM.out).mono ?_; rintro e w4 ⟨z, rfl, hz, he4⟩)
    | (have q_ := hb3; clear q_; refine wl_load rfl rowC2 rfl rfl hb3 rfl ?_)
    | (have q_ := hb2; clear q_; go_at_call 8; refine (large_any (HA.out.1.ext (he1.trans he2)) (HA.out.2.ext (he1.trans he2))).mono ?_; rintro e w3 ⟨rfl, he3⟩; rw [hbk]; have hb3 := hb2.ext he3)
    | (have q_ := hb2; clear q_; refine wl_load rfl rowC2 rfl rfl hb2 rfl ?_)
    | (go_at_call 7; refine (alive_any _ (HT.out.1.ext he1)).mono ?_; rintro e w2 ⟨rfl, he2⟩; have hb2 := hb1.ext he2)
    | (refine wl_box (C := KV c s) rfl rfl rfl ?_; intro w1 hb1 he1 hx; clear hx))
  have HE5 : Hid (Ext w w5) := (((he1.trans he2).trans he3).trans he4).trans he5
  have HB4 : Hid (Blk w5 w.heap.size (KV c s) 26) := (hb3.ext he4).ext he5
  have HB7 : Hid (Blk w5 w4.heap.size (KV c z) 29) := hb5
  have HZ : Hid (CoAt w5 z c) := (hz.ext he5).at
  clear hb1 hb2 hb3 hb5 hz he1 he2 he3 he4 he5
  obtain ⟨q4, hq4⟩ : ∃ q, q = w.heap.size := ⟨_, rfl⟩
  obtain ⟨q7, hq7⟩ : ∃ q, q = w4.heap.size := ⟨_, rfl⟩
  rw [← hq4] at HB4
  rw [← hq7] at HB7
  try rw [← hq4]
  try rw [← hq7]
  clear hq4 hq7
  have HSD : Hid (sameD c c = true) := show _ = _ by rw [sameD_eq]; exact (sameK_iff c c).2 rfl
  have HB7x : ∀ {wx : World}, Ext w5.drew wx → Blk wx q7 (KV c z) 29 := fun hx => HB7.out.ext ((Ext.drew _).trans hx)
  have HTx : ∀ {wx : World}, Ext w5.drew wx → Tabs wx := fun hx => HT.out.1.ext (HE5.out.trans ((Ext.drew _).trans hx))
  have HUx : ∀ {wx : World}, Ext w5.drew wx → BytesAt wx (.slice ka K.length kc) K := fun hx => HA.out.1.ext (HE5.out.trans ((Ext.drew _).trans hx))
  have HZx : ∀ {wx : World}, Ext w5.drew wx → CoAt wx z c := fun hx => HZ.out.ext ((Ext.drew _).trans hx)
  have HSx : ∀ {wx : World}, Ext w5.drew wx → w5.heap.size ≤ wx.heap.size := fun hx => ((Ext.drew w5).trans hx).size
  cases hgd : goodK c with
  | false =>
    have HGD : Hid (goodK c = false) := hgd
    have HL0 : Hid (lateK c n = 0) := show _ = _ by unfold lateK; rw [if_neg (by rw [hgd]; decide)]
    refine wp_region_facts (fun t => bif Nat.ble 20 t && Nat.ble t 24 then some (t - 20) else bif Nat.beq t 19 then some 5 else bif Nat.ble 25 t && Nat.ble t 26 then some (t - 19) else bif Nat.ble 8 t && Nat.ble t 9 then some (t - 0) else none) 107 Ext
      [(fun wx v => ∃ g, v = .slice (some ⟨g, 0, none⟩) 0 0 ∧ w5.heap.size ≤ g ∧ Blk wx g #[] 5),
       Is (.slice ka K.length kc),
       (fun wx v => BytesAt wx v K),
       Is (.agg (KV c z)),
       Is (.tuple #[.slice none 0 0, errF]),
       Is (.tuple #[.slice none 0 0, errF]),
       Is (.slice none 0 0),
       Is errF,
       Is (.slice none 0 0),
       Is errF]
      rfl (by kernel_rfl) (by kernel_rfl) rfl Ext.refl (fun _ _ _ => Ext.trans) ?_ ?_ ?_
    · exact KeepAll.cons (fun _ _ _ hr h => by obtain ⟨g, e, hg, hb⟩ := h; exact ⟨g, e, hg, hb.ext hr⟩) (KeepAll.is (KeepAll.cons (fun _ _ _ hr h => BytesAt.ext h hr) (KeepAll.is (KeepAll.is (KeepAll.is (KeepAll.is (KeepAll.is (KeepAll.is (KeepAll.is (KeepAll.nil))))))))))
    · refine GoodAll.cons ?_ ?_
      · intro r_ wx hR hx
        exact give_empty rfl numT8 ⟨Ext.alloc _ _, _, rfl, HSx hR, Blk.new _ _ _⟩
      refine GoodAll.cons ?_ ?_
      · intro r_ wx hR hx
        obtain ⟨h1, _⟩ := hx
        replace h1 : r_ (.tmp 0) = (.slice ka K.length kc) := h1
        exact give_move (.inl rfl) ⟨Ext.refl _, h1⟩
      refine GoodAll.cons ?_ ?_
      · intro r_ wx hR hx
        obtain ⟨h1, h2, _⟩ := hx
        replace h1 : ((fun wx v => ∃ g, v = .slice (some ⟨g, 0, none⟩) 0 0 ∧ w5.heap.size ≤ g ∧ Blk wx g #[] 5) : Fact) wx (r_ (.tmp 20)) := h1
        replace h2 : r_ (.tmp 21) = (.slice ka K.length kc) := h2
        obtain ⟨g, e, hg, hB⟩ := h1
        exact give_append numT8 rfl e h2 hg hB (nums_of_bytes (HUx hR)) (by decide) (by have := HLN.out; rw [ci_len]; omega) (fun ad cap w2 ho he => ⟨he, (obN ho (HUx hR).1).bytes⟩)
      refine GoodAll.cons ?_ ?_
      · intro r_ wx hR hx
        obtain ⟨h1, _⟩ := hx
        replace h1 : r_ (.tmp 7) = (.pointer (some ⟨q7, 0, none⟩)) := h1
        exact give_of (exec_loadW rowC rfl h1 (HB7x hR) rfl) ⟨Ext.refl _, rfl⟩
      refine GoodAll.cons ?_ ?_
      · intro r_ wx hR hx
        obtain ⟨h1, h2, h3, _⟩ := hx
        replace h1 : r_ (.func 10) = .func (.func 10) #[] #[] := h1
        replace h2 : ((fun wx v => BytesAt wx v K) : Fact) wx (r_ (.tmp 22)) := h2
        replace h3 : r_ (.tmp 23) = (.agg (KV c z)) := h3
        refine give_func #[r_ (.tmp 22), .agg (KV c z)] rfl h1 Tryd.call10 (by simp [h3]) ?_
        refine (make_bad (HTx hR) h2 (by have := HLN.out; omega) (HZx hR) HF.out HGD.out).mono ?_
        rintro e w' ⟨rfl, he⟩
        exact ⟨_, rfl, he, rfl⟩
      refine GoodAll.cons ?_ ?_
      · intro r_ wx hR hx
        obtain ⟨h1, _⟩ := hx
        replace h1 : r_ (.tmp 24) = (.tuple #[.slice none 0 0, errF]) := h1
        exact give_move (.inl rfl) ⟨Ext.refl _, h1⟩
      refine GoodAll.cons ?_ ?_
      · intro r_ wx hR hx
        obtain ⟨h1, _⟩ := hx
        replace h1 : r_ (.tmp 19) = (.tuple #[.slice none 0 0, errF]) := h1
        exact give_of (by simp [execOp, h1, go_sem]) ⟨Ext.refl _, rfl⟩
      refine GoodAll.cons ?_ ?_
      · intro r_ wx hR hx
        obtain ⟨h1, _⟩ := hx
        replace h1 : r_ (.tmp 19) = (.tuple #[.slice none 0 0, errF]) := h1
        exact give_of (by simp [execOp, h1, go_sem]) ⟨Ext.refl _, rfl⟩
      refine GoodAll.cons ?_ ?_
      · intro r_ wx hR hx
        obtain ⟨h1, _⟩ := hx
        replace h1 : r_ (.tmp 25) = (.slice none 0 0) := h1
        exact give_move (.inr rfl) ⟨Ext.refl _, h1⟩
      refine GoodAll.cons ?_ ?_
      · intro r_ wx hR hx
        obtain ⟨h1, _⟩ := hx
        replace h1 : r_ (.tmp 26) = errF := h1
        exact give_move (.inr rfl) ⟨Ext.refl _, h1⟩
      exact GoodAll.nil
    · intro vs w6 aY hR hold ha
      have hv1 : vs 1 = (.slice ka K.length kc) := hold.at 1
      have hv3 : vs 3 = (.agg (KV c z)) := hold.at 3
      have hv4 : vs 4 = (.tuple #[.slice none 0 0, errF]) := hold.at 4
      have hv5 : vs 5 = (.tuple #[.slice none 0 0, errF]) := hold.at 5
      have hv6 : vs 6 = (.slice none 0 0) := hold.at 6
      have hv7 : vs 7 = errF := hold.at 7
      have hv8 : vs 8 = (.slice none 0 0) := hold.at 8
      have hv9 : vs 9 = errF := hold.at 9
      have HB4c : Hid (Blk w6 q4 (KV c s) 26) := HB4.out.ext ((Ext.drew _).trans hR)
      have HB7c : Hid (Blk w6 q7 (KV c z) 29) := HB7.out.ext ((Ext.drew _).trans hR)
      have HZc : Hid (CoAt w6 z c) := HZ.out.ext ((Ext.drew _).trans hR)
      have HE6 : Hid (Ext w w6) := HE5.out.trans ((Ext.drew _).trans hR)
      have HAc : Hid (CoAt w6 s c) := HA.out.2.ext HE6.out
      simp only [putAll, Act.put, hv1, hv3, hv4, hv5, hv6, hv7, hv8, hv9, List.setIfInBounds_toArray, List.set_cons_succ, List.set_cons_zero] at ha
      subst ha
      clear hold hv1 hv3 hv4 hv5 hv6 hv7 hv8 hv9
      clear HB7x HTx HUx HZx HSx hR
      refine ‹∀ (a : Act) (w : World), Code.wp Tryd.prog _ _ a w → _› _ _ ?_
      go_wp2_with (first
        | (have q_ := he10; clear q_; go_at_call 15; refine (late_any (((HZc.out.ext (he7.trans he8)).ext he9).ext he10) n HN.out).mono ?_; rintro e w11 ⟨rfl, he11⟩; rw [HL0.out])
        | (have q_ := he9; clear q_; go_at_call 14; refine (is_F _).mono ?_; rintro e w10 ⟨rfl, he10⟩; have c0 := kv0 (((hb77.ext he8).ext he9).ext he10); have c1 := kv1 (((hb77.ext he8).ext he9).ext he10); have c2 := kv2 (((hb77.ext he8).ext he9).ext he10); have c3 := kv3 (((hb77.ext he8).ext he9).ext he10); have c4 := kv4 (((hb77.ext he8).ext he9).ext he10); have c5 := kv5 (((hb77.ext he8).ext he9).ext he10); have c6 := kv6 (((hb77.ext he8).ext he9).ext he10); have c7 := kv7 (((hb77.ext he8).ext he9).ext he10); have c8 := kv8 (((hb77.ext he8).ext he9).ext he10); have c9 := kv9 (((hb77.ext he8).ext he9).ext he10); have c10 := kv10 (((hb77.ext he8).ext he9).ext he10); have c11 := kv11 (((hb77.ext he8).ext he9).ext he10); have c12 := kv12 (((hb77.ext he8).ext he9).ext he10); have c13 := kv13 (((hb77.ext he8).ext he9).ext he10))
        | (have q_ := he8; clear q_; go_at_call 13; refine (refSame_any (HZc.out.ext (he7.trans he8)) (HAc.out.ext (he7.trans he8))).mono ?_; rintro e w9 ⟨rfl, he9⟩; rw [HSD.out]; clear c0 c1 c2 c3 c4 c5 c6 c7 c8 c9 c10 c11 c12 c13 d0 d1 d2 d3 d4 d5 d6 d7 d8 d9 d10 d11 d12 d13)
        | (have q_ := hb77; clear q_; go_at_call 12; refine (goodK_any (HZc.out.ext he7)).mono ?_; rintro e w8 ⟨rfl, he8⟩; rw [hgd]; have c0 := kv0 (hb77.ext he8); have c1 := kv1 (hb77.ext he8); have c2 := kv2 (hb77.ext he8); have c3 := kv3 (hb77.ext he8); have c4 := kv4 (hb77.ext he8); have c5 := kv5 (hb77.ext he8); have c6 := kv6 (hb77.ext he8); have c7 := kv7 (hb77.ext he8); have c8 := kv8 (hb77.ext he8); have c9 := kv9 (hb77.ext he8); have c10 := kv10 (hb77.ext he8); have c11 := kv11 (hb77.ext he8); have c12 := kv12 (hb77.ext he8); have c13 := kv13 (hb77.ext he8); have d0 := kv0 ((HB4c.out.ext he7).ext he8); have d1 := kv1 ((HB4c.out.ext he7).ext he8); have d2 := kv2 ((HB4c.out.ext he7).ext he8); have d3 := kv3 ((HB4c.out.ext he7).ext he8); have d4 := kv4 ((HB4c.out.ext he7).ext he8); have d5 := kv5 ((HB4c.out.ext he7).ext he8); have d6 := kv6 ((HB4c.out.ext he7).ext he8); have d7 := kv7 ((HB4c.out.ext he7).ext he8); have d8 := kv8 ((HB4c.out.ext he7).ext he8); have d9 := kv9 ((HB4c.out.ext he7).ext he8); have d10 := kv10 ((HB4c.out.ext he7).ext he8); have d11 := kv11 ((HB4c.out.ext he7).ext he8); have d12 := kv12 ((HB4c.out.ext he7).ext he8); have d13 := kv13 ((HB4c.out.ext he7).ext he8))
        | (have q_ := hb77; clear q_; refine wl_load rfl rowC rfl rfl hb77 rfl ?_)
        | (go_at_call 11; refine (refGood_any HAc.out).mono ?_; rintro e w7 ⟨rfl, he7⟩; rw [hgd]; have hb77 := HB7c.out.ext he7)
        | (refine wl_load rfl rowC2 rfl rfl HB4c.out rfl ?_))
      go_ret
      exact ⟨rfl, HE6.out.trans ((((he7.trans he8).trans he9).trans he10).trans he11)⟩
  | true =>
    have HGD : Hid (goodK c = true) := hgd
    obtain ⟨B, hB⟩ : ∃ B, B = makeK K c := ⟨_, rfl⟩
    have HMB : Hid (B = makeK K c) := hB
    have HBL : Hid (B.length ≤ 232) := show _ ≤ _ by rw [hB, makeK_len]; have := laidK_le hgd; omega
    clear hB
    refine wp_region_facts (fun t => bif Nat.ble 20 t && Nat.ble t 24 then some (t - 20) else bif Nat.beq t 19 then some 5 else bif Nat.ble 25 t && Nat.ble t 26 then some (t - 19) else bif Nat.ble 8 t && Nat.ble t 9 then some (t - 0) else none) 107 Ext
      [(fun wx v => ∃ g, v = .slice (some ⟨g, 0, none⟩) 0 0 ∧ w5.heap.size ≤ g ∧ Blk wx g #[] 5),
       Is (.slice ka K.length kc),
       (fun wx v => BytesAt wx v K),
       Is (.agg (KV c z)),
       (fun wx v => ∃ a m cp, v = .tuple #[.slice a m cp, .nilIface] ∧ m = B.length ∧ OB wx w5.heap.size (.slice a m cp) B),
       (fun wx v => ∃ a m cp, v = .tuple #[.slice a m cp, .nilIface] ∧ m = B.length ∧ OB wx w5.heap.size (.slice a m cp) B),
       (fun wx v => ∃ a m cp, v = .slice a m cp ∧ m = B.length ∧ OB wx w5.heap.size (.slice a m cp) B),
       Is .nilIface,
       (fun wx v => ∃ a m cp, v = .slice a m cp ∧ m = B.length ∧ OB wx w5.heap.size (.slice a m cp) B),
       Is .nilIface]
      rfl (by kernel_rfl) (by kernel_rfl) rfl Ext.refl (fun _ _ _ => Ext.trans) ?_ ?_ ?_
    · exact KeepAll.cons (fun _ _ _ hr h => by obtain ⟨g, e, hg, hb⟩ := h; exact ⟨g, e, hg, hb.ext hr⟩) (KeepAll.is (KeepAll.cons (fun _ _ _ hr h => BytesAt.ext h hr) (KeepAll.is (KeepAll.cons (fun _ _ _ hr h => by obtain ⟨a, m, cp, e, hm, ho⟩ := h; exact ⟨a, m, cp, e, hm, ho.ext hr⟩) (KeepAll.cons (fun _ _ _ hr h => by obtain ⟨a, m, cp, e, hm, ho⟩ := h; exact ⟨a, m, cp, e, hm, ho.ext hr⟩) (KeepAll.cons (fun _ _ _ hr h => by obtain ⟨a, m, cp, e, hm, ho⟩ := h; exact ⟨a, m, cp, e, hm, ho.ext hr⟩) (KeepAll.is (KeepAll.cons (fun _ _ _ hr h => by obtain ⟨a, m, cp, e, hm, ho⟩ := h; exact ⟨a, m, cp, e, hm, ho.ext hr⟩) (KeepAll.is (KeepAll.nil))))))))))
    · refine GoodAll.cons ?_ ?_
      · intro r_ wx hR hx
        exact give_empty rfl numT8 ⟨Ext.alloc _ _, _, rfl, HSx hR, Blk.new _ _ _⟩
      refine GoodAll.cons ?_ ?_
      · intro r_ wx hR hx
        obtain ⟨h1, _⟩ := hx
        replace h1 : r_ (.tmp 0) = (.slice ka K.length kc) := h1
        exact give_move (.inl rfl) ⟨Ext.refl _, h1⟩
      refine GoodAll.cons ?_ ?_
      · intro r_ wx hR hx
        obtain ⟨h1, h2, _⟩ := hx
        replace h1 : ((fun wx v => ∃ g, v = .slice (some ⟨g, 0, none⟩) 0 0 ∧ w5.heap.size ≤ g ∧ Blk wx g #[] 5) : Fact) wx (r_ (.tmp 20)) := h1
        replace h2 : r_ (.tmp 21) = (.slice ka K.length kc) := h2
        obtain ⟨g, e, hg, hB⟩ := h1
        exact give_append numT8 rfl e h2 hg hB (nums_of_bytes (HUx hR)) (by decide) (by have := HLN.out; rw [ci_len]; omega) (fun ad cap w2 ho he => ⟨he, (obN ho (HUx hR).1).bytes⟩)
      refine GoodAll.cons ?_ ?_
      · intro r_ wx hR hx
        obtain ⟨h1, _⟩ := hx
        replace h1 : r_ (.tmp 7) = (.pointer (some ⟨q7, 0, none⟩)) := h1
        exact give_of (exec_loadW rowC rfl h1 (HB7x hR) rfl) ⟨Ext.refl _, rfl⟩
      refine GoodAll.cons ?_ ?_
      · intro r_ wx hR hx
        obtain ⟨h1, h2, h3, _⟩ := hx
        replace h1 : r_ (.func 10) = .func (.func 10) #[] #[] := h1
        replace h2 : ((fun wx v => BytesAt wx v K) : Fact) wx (r_ (.tmp 22)) := h2
        replace h3 : r_ (.tmp 23) = (.agg (KV c z)) := h3
        refine give_func #[r_ (.tmp 22), .agg (KV c z)] rfl h1 Tryd.call10 (by simp [h3]) ?_
        refine (make_good (HTx hR) h2 (by have := HLN.out; omega) (HZx hR) HF.out HGD.out).mono ?_
        rintro e w' ⟨he, a, m, cp, rfl, hm, ho⟩
        exact ⟨_, rfl, he, a, m, cp, rfl, by rw [HMB.out]; exact hm, by rw [HMB.out]; exact ho.base (HSx hR)⟩
      refine GoodAll.cons ?_ ?_
      · intro r_ wx hR hx
        obtain ⟨h1, _⟩ := hx
        replace h1 : ((fun wx v => ∃ a m cp, v = .tuple #[.slice a m cp, .nilIface] ∧ m = B.length ∧ OB wx w5.heap.size (.slice a m cp) B) : Fact) wx (r_ (.tmp 24)) := h1
        exact give_move (.inl rfl) ⟨Ext.refl _, h1⟩
      refine GoodAll.cons ?_ ?_
      · intro r_ wx hR hx
        obtain ⟨h1, _⟩ := hx
        replace h1 : ((fun wx v => ∃ a m cp, v = .tuple #[.slice a m cp, .nilIface] ∧ m = B.length ∧ OB wx w5.heap.size (.slice a m cp) B) : Fact) wx (r_ (.tmp 19)) := h1
        obtain ⟨a, m, cp, e, hm, ho⟩ := h1
        exact give_of (by simp [execOp, e, go_sem]) ⟨Ext.refl _, a, m, cp, rfl, hm, ho⟩
      refine GoodAll.cons ?_ ?_
      · intro r_ wx hR hx
        obtain ⟨h1, _⟩ := hx
        replace h1 : ((fun wx v => ∃ a m cp, v = .tuple #[.slice a m cp, .nilIface] ∧ m = B.length ∧ OB wx w5.heap.size (.slice a m cp) B) : Fact) wx (r_ (.tmp 19)) := h1
        obtain ⟨a, m, cp, e, hm, ho⟩ := h1
        exact give_of (by simp [execOp, e, go_sem]) ⟨Ext.refl _, rfl⟩
      refine GoodAll.cons ?_ ?_
      · intro r_ wx hR hx
        obtain ⟨h1, _⟩ := hx
        replace h1 : ((fun wx v => ∃ a m cp, v = .slice a m cp ∧ m = B.length ∧ OB wx w5.heap.size (.slice a m cp) B) : Fact) wx (r_ (.tmp 25)) := h1
        exact give_move (.inr rfl) ⟨Ext.refl _, h1⟩
      refine GoodAll.cons ?_ ?_
      · intro r_ wx hR hx
        obtain ⟨h1, _⟩ := hx
        replace h1 : r_ (.tmp 26) = .nilIface := h1
        exact give_move (.inr rfl) ⟨Ext.refl _, h1⟩
      exact GoodAll.nil
    · intro vs w6 aY hR hold ha
      have hv1 : vs 1 = (.slice ka K.length kc) := hold.at 1
      have hv3 : vs 3 = (.agg (KV c z)) := hold.at 3
      have hv7 : vs 7 = .nilIface := hold.at 7
      have hv9 : vs 9 = .nilIface := hold.at 9
      have HB4c : Hid (Blk w6 q4 (KV c s) 26) := HB4.out.ext ((Ext.drew _).trans hR)
      have HB7c : Hid (Blk w6 q7 (KV c z) 29) := HB7.out.ext ((Ext.drew _).trans hR)
      have HZc : Hid (CoAt w6 z c) := HZ.out.ext ((Ext.drew _).trans hR)
      have HE6 : Hid (Ext w w6) := HE5.out.trans ((Ext.drew _).trans hR)
      have HAc : Hid (CoAt w6 s c) := HA.out.2.ext HE6.out
      obtain ⟨ba, bm, bc, e8, hbm, hob⟩ := hold.at 8
      simp only [putAll, Act.put, hv1, hv3, hv7, hv9, e8, List.setIfInBounds_toArray, List.set_cons_succ, List.set_cons_zero] at ha
      subst ha
      clear hold hv1 hv3 hv7 hv9
      have HBM : Hid (bm = B.length) := hbm
      have HOB6 : Hid (OB w6 w5.heap.size (.slice ba bm bc) B) := hob
      clear e8 hbm hob HB7x HTx HUx HZx HSx hR
      refine ‹∀ (a : Act) (w : World), Code.wp Tryd.prog _ _ a w → _› _ _ ?_
      go_wp2_with (first
        | (have q_ := he8; clear q_; go_at_call 13; refine (refSame_any (HZc.out.ext (he7.trans he8)) (HAc.out.ext (he7.trans he8))).mono ?_; rintro e w9 ⟨rfl, he9⟩; rw [HSD.out]; clear c0 c1 c2 c3 c4 c5 c6 c7 c8 c9 c10 c11 c12 c13 d0 d1 d2 d3 d4 d5 d6 d7 d8 d9 d10 d11 d12 d13)
        | (have q_ := hb77; clear q_; go_at_call 12; refine (goodK_any (HZc.out.ext he7)).mono ?_; rintro e w8 ⟨rfl, he8⟩; rw [hgd]; have c0 := kv0 (hb77.ext he8); have c1 := kv1 (hb77.ext he8); have c2 := kv2 (hb77.ext he8); have c3 := kv3 (hb77.ext he8); have c4 := kv4 (hb77.ext he8); have c5 := kv5 (hb77.ext he8); have c6 := kv6 (hb77.ext he8); have c7 := kv7 (hb77.ext he8); have c8 := kv8 (hb77.ext he8); have c9 := kv9 (hb77.ext he8); have c10 := kv10 (hb77.ext he8); have c11 := kv11 (hb77.ext he8); have c12 := kv12 (hb77.ext he8); have c13 := kv13 (hb77.ext he8); have d0 := kv0 ((HB4c.out.ext he7).ext he8); have d1 := kv1 ((HB4c.out.ext he7).ext he8); have d2 := kv2 ((HB4c.out.ext he7).ext he8); have d3 := kv3 ((HB4c.out.ext he7).ext he8); have d4 := kv4 ((HB4c.out.ext he7).ext he8); have d5 := kv5 ((HB4c.out.ext he7).ext he8); have d6 := kv6 ((HB4c.out.ext he7).ext he8); have d7 := kv7 ((HB4c.out.ext he7).ext he8); have d8 := kv8 ((HB4c.out.ext he7).ext he8); have d9 := kv9 ((HB4c.out.ext he7).ext he8); have d10 := kv10 ((HB4c.out.ext he7).ext he8); have d11 := kv11 ((HB4c.out.ext he7).ext he8); have d12 := kv12 ((HB4c.out.ext he7).ext he8); have d13 := kv13 ((HB4c.out.ext he7).ext he8))
        | (have q_ := hb77; clear q_; refine wl_load rfl rowC rfl rfl hb77 rfl ?_)
        | (go_at_call 11; refine (refGood_any HAc.out).mono ?_; rintro e w7 ⟨rfl, he7⟩; rw [hgd]; have hb77 := HB7c.out.ext he7)
        | (refine wl_load rfl rowC2 rfl rfl HB4c.out rfl ?_))
      have HE9 : Hid (Ext w w9) := HE6.out.trans ((he7.trans he8).trans he9)
      have HB4d : Hid (Blk w9 q4 (KV c s) 26) := HB4c.out.ext ((he7.trans he8).trans he9)
      have HB7d : Hid (Blk w9 q7 (KV c z) 29) := HB7c.out.ext ((he7.trans he8).trans he9)
      have HZd : Hid (CoAt w9 z c) := HZc.out.ext ((he7.trans he8).trans he9)
      have HOB9 : Hid (OB w9 w5.heap.size (.slice ba bm bc) B) := HOB6.out.ext ((he7.trans he8).trans he9)
      have HBA : Hid (∀ x ∈ B, x < 256) := HOB9.out.all
      clear he7 he8 he9 hb77
      have HCx : ∀ {wx : World}, Ext w9.drew wx → Cube wx := fun hx => HT.out.2.ext (HE9.out.trans ((Ext.drew _).trans hx))
      have HUx : ∀ {wx : World}, Ext w9.drew wx → BytesAt wx (.slice ka K.length kc) K := fun hx => HA.out.1.ext (HE9.out.trans ((Ext.drew _).trans hx))
      have HAx : ∀ {wx : World}, Ext w9.drew wx → CoAt wx s c := fun hx => HA.out.2.ext (HE9.out.trans ((Ext.drew _).trans hx))
      have HB4x : ∀ {wx : World}, Ext w9.drew wx → Blk wx q4 (KV c s) 26 := fun hx => HB4d.out.ext ((Ext.drew _).trans hx)
      have HBBx : ∀ {wx : World}, Ext w9.drew wx → BytesAt wx (.slice ba bm bc) B := fun hx => HOB9.out.bytes.ext ((Ext.drew _).trans hx)
      refine wp_region_facts (fun t => bif Nat.ble 54 t && Nat.ble t 64 then some (t - 54) else none) 107 Ext
        [Is (.nilIface),
         Is (.bool false),
         Is (.bool false),
         Is (.slice ba bm bc),
         Is (.string (strOf B)),
         Is (.slice ka K.length kc),
         Is (.agg (KV c s)),
         (fun wx v => BytesAt wx v B),
         Is (.string (strOf B)),
         Is (.bool false),
         Is (.bool false)]
        rfl (by kernel_rfl) (by kernel_rfl) rfl Ext.refl (fun _ _ _ => Ext.trans) ?_ ?_ ?_
      · exact KeepAll.is (KeepAll.is (KeepAll.is (KeepAll.is (KeepAll.is (KeepAll.is (KeepAll.is (KeepAll.cons (fun _ _ _ hr h => BytesAt.ext h hr) (KeepAll.is (KeepAll.is (KeepAll.is (KeepAll.nil)))))))))))
      · refine GoodAll.cons ?_ ?_
        · intro r_ wx hR hx
          obtain ⟨h1, _⟩ := hx
          replace h1 : r_ (.tmp 9) = (.nilIface) := h1
          exact give_move (.inl rfl) ⟨Ext.refl _, h1⟩
        refine GoodAll.cons ?_ ?_
        · intro r_ wx hR hx
          obtain ⟨h1, h2, _⟩ := hx
          replace h1 : r_ (.tmp 54) = (.nilIface) := h1
          replace h2 : r_ (.const (.nilIface)) = .nilIface := h2
          exact give_of (exec_neq0 rfl h1 h2) ⟨Ext.refl _, rfl⟩
        refine GoodAll.cons ?_ ?_
        · intro r_ wx hR hx
          obtain ⟨h1, _⟩ := hx
          replace h1 : r_ (.tmp 55) = (.bool false) := h1
          exact give_move (.inl rfl) ⟨Ext.refl _, h1⟩
        refine GoodAll.cons ?_ ?_
        · intro r_ wx hR hx
          obtain ⟨h1, _⟩ := hx
          replace h1 : r_ (.tmp 8) = (.slice ba bm bc) := h1
          intro gb hgb
          refine guard_in (b := gb) (want := false) hgb ?_
          exact give_move (.inl rfl) ⟨Ext.refl _, h1⟩
        refine GoodAll.cons ?_ ?_
        · intro r_ wx hR hx
          obtain ⟨h1, _⟩ := hx
          replace h1 : r_ (.tmp 57) = (.slice ba bm bc) := h1
          intro gb hgb
          refine guard_in (b := gb) (want := false) hgb ?_
          exact give_of (exec_string byteT strT rfl wx _ (by rw [h1]; exact HBBx hR)) ⟨Ext.refl _, rfl⟩
        refine GoodAll.cons ?_ ?_
        · intro r_ wx hR hx
          obtain ⟨h1, _⟩ := hx
          replace h1 : r_ (.tmp 0) = (.slice ka K.length kc) := h1
          intro gb hgb
          refine guard_in (b := gb) (want := false) hgb ?_
          exact give_move (.inl rfl) ⟨Ext.refl _, h1⟩
        refine GoodAll.cons ?_ ?_
        · intro r_ wx hR hx
          obtain ⟨h1, _⟩ := hx
          replace h1 : r_ (.tmp 4) = (.pointer (some ⟨q4, 0, none⟩)) := h1
          intro gb hgb
          refine guard_in (b := gb) (want := false) hgb ?_
          exact give_of (exec_loadW rowC2 rfl h1 (HB4x hR) rfl) ⟨Ext.refl _, rfl⟩
        refine GoodAll.cons ?_ ?_
        · intro r_ wx hR hx
          obtain ⟨h1, h2, h3, _⟩ := hx
          replace h1 : r_ (.func 16) = .func (.func 16) #[] #[] := h1
          replace h2 : r_ (.tmp 59) = (.slice ka K.length kc) := h2
          replace h3 : r_ (.tmp 60) = (.agg (KV c s)) := h3
          intro gb hgb
          refine guard_in (b := gb) (want := false) hgb ?_
          refine give_func #[.slice ka K.length kc, .agg (KV c s)] rfl h1 Tryd.call16 (by simp [h2, h3]) ?_
          refine (refMake_any (HCx hR) (HUx hR) (by have := HLN.out; omega) (HAx hR) HF.out HGD.out).mono ?_
          rintro e w' ⟨a, m, cp, rfl, hm, ho, he⟩
          exact ⟨_, rfl, he, by rw [HMB.out]; exact ho.bytes⟩
        refine GoodAll.cons ?_ ?_
        · intro r_ wx hR hx
          obtain ⟨h1, _⟩ := hx
          replace h1 : ((fun wx v => BytesAt wx v B) : Fact) wx (r_ (.tmp 61)) := h1
          intro gb hgb
          refine guard_in (b := gb) (want := false) hgb ?_
          exact give_of (exec_string byteT strT rfl wx _ h1) ⟨Ext.refl _, rfl⟩
        refine GoodAll.cons ?_ ?_
        · intro r_ wx hR hx
          obtain ⟨h1, h2, _⟩ := hx
          replace h1 : r_ (.tmp 58) = (.string (strOf B)) := h1
          replace h2 : r_ (.tmp 62) = (.string (strOf B)) := h2
          intro gb hgb
          refine guard_in (b := gb) (want := false) hgb ?_
          exact give_of (exec_neqS9 rfl h1 h2 HBA.out) ⟨Ext.refl _, rfl⟩
        refine GoodAll.cons ?_ ?_
        · intro r_ wx hR hx
          obtain ⟨h1, h2, h3, _⟩ := hx
          replace h1 : r_ (.tmp 56) = (.bool false) := h1
          replace h2 : r_ (.const (.bool true)) = .bool true := h2
          replace h3 : r_ (.tmp 63) = (.bool false) := h3
          exact give_pickF rfl h1 ⟨Ext.refl _, h3⟩
        exact GoodAll.nil
      · intro vs w12 aY hR hold ha
        have hv0 : vs 0 = (.nilIface) := hold.at 0
        have hv1 : vs 1 = (.bool false) := hold.at 1
        have hv2 : vs 2 = (.bool false) := hold.at 2
        have hv3 : vs 3 = (.slice ba bm bc) := hold.at 3
        have hv4 : vs 4 = (.string (strOf B)) := hold.at 4
        have hv5 : vs 5 = (.slice ka K.length kc) := hold.at 5
        have hv6 : vs 6 = (.agg (KV c s)) := hold.at 6
        have hv8 : vs 8 = (.string (strOf B)) := hold.at 8
        have hv9 : vs 9 = (.bool false) := hold.at 9
        have hv10 : vs 10 = (.bool false) := hold.at 10
        have HE12 : Hid (Ext w w12) := HE9.out.trans ((Ext.drew _).trans hR)
        have HB4e : Hid (Blk w12 q4 (KV c s) 26) := HB4d.out.ext ((Ext.drew _).trans hR)
        have HB7e : Hid (Blk w12 q7 (KV c z) 29) := HB7d.out.ext ((Ext.drew _).trans hR)
        have HZe : Hid (CoAt w12 z c) := HZd.out.ext ((Ext.drew _).trans hR)
        have HOBe : Hid (OB w12 w5.heap.size (.slice ba bm bc) B) := HOB9.out.ext ((Ext.drew _).trans hR)
        simp only [putAll, Act.put, hv0, hv1, hv2, hv3, hv4, hv5, hv6, hv8, hv9, hv10, List.setIfInBounds_toArray, List.set_cons_succ, List.set_cons_zero] at ha
        subst ha
        clear hold hv0 hv1 hv2 hv3 hv4 hv5 hv6 hv8 hv9 hv10
        clear HCx HUx HAx HB4x HBBx hR
        refine ‹∀ (a : Act) (w : World), Code.wp Tryd.prog _ _ a w → _› _ _ ?_
        have hls := late_sum (n := n) hgd HN.out
        have hlp := late_pos9 (n := n) hgd
        have hom := open_made (K := K) (now := n) hgd HF.out
        obtain ⟨S, hS⟩ : ∃ S, S = c.made + c.life := ⟨_, rfl⟩
        have hMS : c.made + c.life = S := hS.symm
        rw [hMS] at hls hlp
        have hw1 := hls.1
        have hw2 := hls.2.1
        have hlK := hls.2.2.2
        have hdd := hls.2.2.1
        clear hls hS
        obtain ⟨E1, hE1⟩ : ∃ x, x = openE K B n := ⟨_, rfl⟩
        obtain ⟨cc, hcc⟩ : ∃ x, x = openC K B n := ⟨_, rfl⟩
        have HE1 : Hid (E1 = openE K B n ∧ cc = openC K B n) := ⟨hE1, hcc⟩
        by_cases hlt : S < n
        · have hE8 : openE K B n = 8 := by rw [HMB.out, hom.1, if_pos (hlp.2 hlt)]
          have HE8 : Hid (openE K B n = 8) := hE8
          rw [if_pos hlt] at hlK
          obtain ⟨hW1a, hW1b, hW2a, hW2b⟩ := hdd hlt
          obtain ⟨D1, hD1e⟩ : ∃ x, x = n - c.made := ⟨_, rfl⟩
          rw [← hD1e] at hlK hW1a hW1b hW2a hW2b
          obtain ⟨D2, hD2e⟩ : ∃ x, x = D1 - c.life := ⟨_, rfl⟩
          rw [← hD2e] at hlK hW2a hW2b
          have hD1 : n - c.made = D1 := hD1e.symm
          have hD2 : D1 - c.life = D2 := hD2e.symm
          have hW1 : IntKind.i64.wrap D1 = D1 ∧ wrap64 D1 = D1 := ⟨hW1a, hW1b⟩
          have hW2 : IntKind.i64.wrap D2 = D2 ∧ wrap64 D2 = D2 := ⟨hW2a, hW2b⟩
          have HD : Hid (lateK c n = D2) := hlK
          have hd : decide (n > S) = true := decide_eq_true hlt
          have hd2 : decide (S < n) = true := decide_eq_true hlt
          have HDD : Hid ((n - c.made = D1 ∧ D1 - c.life = D2) ∧ (IntKind.i64.wrap D1 = D1 ∧ wrap64 D1 = D1) ∧ (IntKind.i64.wrap D2 = D2 ∧ wrap64 D2 = D2)) := ⟨⟨hD1, hD2⟩, hW1, hW2⟩
          clear hlK hdd hom hlp hE1 hcc hE8 hW1a hW1b hW2a hW2b hD1e hD2e hD1 hD2 hW1 hW2 hgd
          go_wp2_with (first
            | (have q_ := he13; clear q_; refine wl_alloc rfl rfl zeroC ?_; intro w14a hb14a he14a hx; clear hx; refine wl_store (D := KV (openC K B n) s9) rfl rowC rfl rfl rfl hb14a rfl rfl (KV.one _ _) ?_; intro w14 hb14 hk14 hx; clear hx; have he14 := he14a.of_but hk14 (fun k e => by subst e; exact Nat.le_refl _); clear hb14a he14a hk14; have x0 := kv0 ((HB4e.out.ext he13).ext he14); have x1 := kv1 ((HB4e.out.ext he13).ext he14))
            | (go_at_call 17; refine (open_any (HT.out.1.ext HE12.out) (HA.out.1.ext HE12.out) HOBe.out.bytes (by have := HLN.out; omega) (by have := HBL.out; omega) HN.out).mono ?_; rintro e w13 ⟨he13, s9, rfl, ho9⟩; rw [HE8.out]))
          have HE14 : Hid (Ext w w14) := (HE12.out.trans he13).trans he14
          have HB4f : Hid (Blk w14 q4 (KV c s) 26) := (HB4e.out.ext he13).ext he14
          have HB7f : Hid (Blk w14 q7 (KV c z) 29) := (HB7e.out.ext he13).ext he14
          have HZf : Hid (CoAt w14 z c) := (HZe.out.ext he13).ext he14
          obtain ⟨⟨hD1, hD2⟩, hW1, hW2⟩ := HDD.out
          clear x0 x1 hb14 he13 he14 ho9 hw1 hw2 hMS hd hd2 hlt
          have HZx : ∀ {wx : World}, Ext w14.drew wx → CoAt wx z c := fun hx => HZf.out.ext ((Ext.drew _).trans hx)
          have HB4x : ∀ {wx : World}, Ext w14.drew wx → Blk wx q4 (KV c s) 26 := fun hx => HB4f.out.ext ((Ext.drew _).trans hx)
          have HB7x : ∀ {wx : World}, Ext w14.drew wx → Blk wx q7 (KV c z) 29 := fun hx => HB7f.out.ext ((Ext.drew _).trans hx)
          refine wp_region_facts (fun t => bif Nat.ble 79 t && Nat.ble t 93 then some (t - 79) else bif Nat.beq t 6 then some 15 else none) 107 Ext
            [Is (errV 8),
             Is (.bool true),
             Is (.bool true),
             Is (.agg (KV c z)),
             Is (.int .i64 n),
             Is (.int .i64 D2),
             Is (.int .i64 n),
             Is (.pointer (some ⟨q4, 0, none⟩)),
             Is (.int .i64 c.made),
             Is (.int .i64 D1),
             Is (.pointer (some ⟨q4, 1, none⟩)),
             Is (.int .i64 c.life),
             Is (.int .i64 D2),
             Is (.bool true),
             Is (.bool true),
             Is (.bool true)]
            rfl (by kernel_rfl) (by kernel_rfl) rfl Ext.refl (fun _ _ _ => Ext.trans) ?_ ?_ ?_
          · exact KeepAll.is (KeepAll.is (KeepAll.is (KeepAll.is (KeepAll.is (KeepAll.is (KeepAll.is (KeepAll.is (KeepAll.is (KeepAll.is (KeepAll.is (KeepAll.is (KeepAll.is (KeepAll.is (KeepAll.is (KeepAll.is (KeepAll.nil))))))))))))))))
          · refine GoodAll.cons ?_ ?_
            · intro r_ wx hR hx
              obtain ⟨h1, _⟩ := hx
              replace h1 : r_ (.tmp 9) = (errV 8) := h1
              exact give_move (.inl rfl) ⟨Ext.refl _, h1⟩
            refine GoodAll.cons ?_ ?_
            · intro r_ wx hR hx
              obtain ⟨h1, h2, h3, _⟩ := hx
              replace h1 : r_ (.func 14) = .func (.func 14) #[] #[] := h1
              replace h2 : r_ (.tmp 79) = (errV 8) := h2
              replace h3 : r_ (.const (.int .i64 8)) = .int .i64 8 := h3
              refine give_func #[errV 8, .int .i64 8] rfl h1 Tryd.call14 (by simp [h2, h3]) ?_
              refine (is_anyE 8 8 _).mono ?_
              rintro e w' ⟨rfl, he⟩
              exact ⟨_, rfl, he, rfl⟩
            refine GoodAll.cons ?_ ?_
            · intro r_ wx hR hx
              obtain ⟨h1, _⟩ := hx
              replace h1 : r_ (.tmp 80) = (.bool true) := h1
              exact give_move (.inl rfl) ⟨Ext.refl _, h1⟩
            refine GoodAll.cons ?_ ?_
            · intro r_ wx hR hx
              obtain ⟨h1, _⟩ := hx
              replace h1 : r_ (.tmp 7) = (.pointer (some ⟨q7, 0, none⟩)) := h1
              intro gb hgb
              refine guard_in (b := gb) (want := true) hgb ?_
              exact give_of (exec_loadW rowC rfl h1 (HB7x hR) rfl) ⟨Ext.refl _, rfl⟩
            refine GoodAll.cons ?_ ?_
            · intro r_ wx hR hx
              obtain ⟨h1, _⟩ := hx
              replace h1 : r_ (.tmp 2) = (.int .i64 n) := h1
              intro gb hgb
              refine guard_in (b := gb) (want := true) hgb ?_
              exact give_move (.inl rfl) ⟨Ext.refl _, h1⟩
            refine GoodAll.cons ?_ ?_
            · intro r_ wx hR hx
              obtain ⟨h1, h2, h3, _⟩ := hx
              replace h1 : r_ (.func 15) = .func (.func 15) #[] #[] := h1
              replace h2 : r_ (.tmp 82) = (.agg (KV c z)) := h2
              replace h3 : r_ (.tmp 83) = (.int .i64 n) := h3
              intro gb hgb
              refine guard_in (b := gb) (want := true) hgb ?_
              refine give_func #[.agg (KV c z), .int .i64 n] rfl h1 Tryd.call15 (by simp [h2, h3]) ?_
              refine (late_any (HZx hR) n HN.out).mono ?_
              rintro e w' ⟨rfl, he⟩
              exact ⟨_, rfl, he, congrArg (Value.int .i64) HD.out⟩
            refine GoodAll.cons ?_ ?_
            · intro r_ wx hR hx
              obtain ⟨h1, _⟩ := hx
              replace h1 : r_ (.tmp 2) = (.int .i64 n) := h1
              intro gb hgb
              refine guard_in (b := gb) (want := true) hgb ?_
              exact give_move (.inl rfl) ⟨Ext.refl _, h1⟩
            refine GoodAll.cons ?_ ?_
            · intro r_ wx hR hx
              obtain ⟨h1, _⟩ := hx
              replace h1 : r_ (.tmp 4) = (.pointer (some ⟨q4, 0, none⟩)) := h1
              intro gb hgb
              refine guard_in (b := gb) (want := true) hgb ?_
              exact give_of (by simp [execOp, h1, go_sem]) ⟨Ext.refl _, rfl⟩
            refine GoodAll.cons ?_ ?_
            · intro r_ wx hR hx
              obtain ⟨h1, _⟩ := hx
              replace h1 : r_ (.tmp 86) = (.pointer (some ⟨q4, 0, none⟩)) := h1
              intro gb hgb
              refine guard_in (b := gb) (want := true) hgb ?_
              exact give_of (exec_get one3 rfl h1 (kv0 (HB4x hR))) ⟨Ext.refl _, rfl⟩
            refine GoodAll.cons ?_ ?_
            · intro r_ wx hR hx
              obtain ⟨h1, h2, _⟩ := hx
              replace h1 : r_ (.tmp 85) = (.int .i64 n) := h1
              replace h2 : r_ (.tmp 87) = (.int .i64 c.made) := h2
              intro gb hgb
              refine guard_in (b := gb) (want := true) hgb ?_
              exact give_of (by simp [execOp, h1, h2, hD1, hW1.1, hW1.2, go_sem]) ⟨Ext.refl _, rfl⟩
            refine GoodAll.cons ?_ ?_
            · intro r_ wx hR hx
              obtain ⟨h1, _⟩ := hx
              replace h1 : r_ (.tmp 4) = (.pointer (some ⟨q4, 0, none⟩)) := h1
              intro gb hgb
              refine guard_in (b := gb) (want := true) hgb ?_
              exact give_of (by simp [execOp, h1, go_sem]) ⟨Ext.refl _, rfl⟩
            refine GoodAll.cons ?_ ?_
            · intro r_ wx hR hx
              obtain ⟨h1, _⟩ := hx
              replace h1 : r_ (.tmp 89) = (.pointer (some ⟨q4, 1, none⟩)) := h1
              intro gb hgb
              refine guard_in (b := gb) (want := true) hgb ?_
              exact give_of (exec_get one3 rfl h1 (kv1 (HB4x hR))) ⟨Ext.refl _, rfl⟩
            refine GoodAll.cons ?_ ?_
            · intro r_ wx hR hx
              obtain ⟨h1, h2, _⟩ := hx
              replace h1 : r_ (.tmp 88) = (.int .i64 D1) := h1
              replace h2 : r_ (.tmp 90) = (.int .i64 c.life) := h2
              intro gb hgb
              refine guard_in (b := gb) (want := true) hgb ?_
              exact give_of (by simp [execOp, h1, h2, hD2, hW2.1, hW2.2, go_sem]) ⟨Ext.refl _, rfl⟩
            refine GoodAll.cons ?_ ?_
            · intro r_ wx hR hx
              obtain ⟨h1, h2, _⟩ := hx
              replace h1 : r_ (.tmp 84) = (.int .i64 D2) := h1
              replace h2 : r_ (.tmp 91) = (.int .i64 D2) := h2
              intro gb hgb
              refine guard_in (b := gb) (want := true) hgb ?_
              exact give_of (by simp [execOp, h1, h2, go_sem]) ⟨Ext.refl _, rfl⟩
            refine GoodAll.cons ?_ ?_
            · intro r_ wx hR hx
              obtain ⟨h1, h2, h3, _⟩ := hx
              replace h1 : r_ (.tmp 81) = (.bool true) := h1
              replace h2 : r_ (.tmp 92) = (.bool true) := h2
              replace h3 : r_ (.const (.bool false)) = .bool false := h3
              exact give_pick rfl h1 ⟨Ext.refl _, h2⟩
            refine GoodAll.cons ?_ ?_
            · intro r_ wx hR hx
              obtain ⟨h1, _⟩ := hx
              replace h1 : r_ (.tmp 93) = (.bool true) := h1
              exact give_move (.inr rfl) ⟨Ext.refl _, h1⟩
            exact GoodAll.nil
          · intro vs w16 aY hR hold ha
            have hv0 : vs 0 = (errV 8) := hold.at 0
            have hv1 : vs 1 = (.bool true) := hold.at 1
            have hv2 : vs 2 = (.bool true) := hold.at 2
            have hv3 : vs 3 = (.agg (KV c z)) := hold.at 3
            have hv4 : vs 4 = (.int .i64 n) := hold.at 4
            have hv5 : vs 5 = (.int .i64 D2) := hold.at 5
            have hv6 : vs 6 = (.int .i64 n) := hold.at 6
            have hv7 : vs 7 = (.pointer (some ⟨q4, 0, none⟩)) := hold.at 7
            have hv8 : vs 8 = (.int .i64 c.made) := hold.at 8
            have hv9 : vs 9 = (.int .i64 D1) := hold.at 9
            have hv10 : vs 10 = (.pointer (some ⟨q4, 1, none⟩)) := hold.at 10
            have hv11 : vs 11 = (.int .i64 c.life) := hold.at 11
            have hv12 : vs 12 = (.int .i64 D2) := hold.at 12
            have hv13 : vs 13 = (.bool true) := hold.at 13
            have hv14 : vs 14 = (.bool true) := hold.at 14
            have hv15 : vs 15 = (.bool true) := hold.at 15
            have HE16 : Hid (Ext w w16) := HE14.out.trans ((Ext.drew _).trans hR)
            simp only [putAll, Act.put, hv0, hv1, hv2, hv3, hv4, hv5, hv6, hv7, hv8, hv9, hv10, hv11, hv12, hv13, hv14, hv15, List.setIfInBounds_toArray, List.set_cons_succ, List.set_cons_zero] at ha
            subst ha
            clear hold hv0 hv1 hv2 hv3 hv4 hv5 hv6 hv7 hv8 hv9 hv10 hv11 hv12 hv13 hv14 hv15
            refine ‹∀ (a : Act) (w : World), Code.wp Tryd.prog _ _ a w → _› _ _ ?_
            go_wp2
            go_ret
            exact ⟨rfl, HE16.out⟩
        · have hE0 : openE K B n = 0 := by rw [HMB.out, hom.1, if_neg (fun h => hlt (hlp.1 h))]
          have HE0 : Hid (openE K B n = 0) := hE0
          have HC0 : Hid (openC K B n = c) := show _ = _ by rw [openC_yes hE0, HMB.out]; exact hom.2
          rw [if_neg hlt] at hlK
          have HL0 : Hid (lateK c n = 0) := hlK
          have hd : decide (n > S) = false := decide_eq_false hlt
          have hd2 : decide (S < n) = false := decide_eq_false hlt
          clear hlK hdd hom hlp hE1 hcc hE0 hgd
          go_wp2_with (first
            | (have q_ := he15; clear q_; go_at_call 15; refine (late_any (((HZe.out.ext he13).ext he14).ext he15) n HN.out).mono ?_; rintro e w16 ⟨rfl, he16⟩; rw [HL0.out])
            | (have q_ := he14; clear q_; go_at_call 13; refine (refSame_any ((ho9.ext he14).at) (((HA.out.2.ext HE12.out).ext he13).ext he14)).mono ?_; rintro e w15 ⟨rfl, he15⟩; rw [HSD.out]; clear g0 g1 g2 g3 g4 g5 g6 g7 g8 g9 g10 g11 g12 g13 d0 d1 d2 d3 d4 d5 d6 d7 d8 d9 d10 d11 d12 d13; have c0 := kv0 (((HB7e.out.ext he13).ext he14).ext he15); have c1 := kv1 (((HB7e.out.ext he13).ext he14).ext he15); have c2 := kv2 (((HB7e.out.ext he13).ext he14).ext he15); have c3 := kv3 (((HB7e.out.ext he13).ext he14).ext he15); have c4 := kv4 (((HB7e.out.ext he13).ext he14).ext he15); have c5 := kv5 (((HB7e.out.ext he13).ext he14).ext he15); have c6 := kv6 (((HB7e.out.ext he13).ext he14).ext he15); have c7 := kv7 (((HB7e.out.ext he13).ext he14).ext he15); have c8 := kv8 (((HB7e.out.ext he13).ext he14).ext he15); have c9 := kv9 (((HB7e.out.ext he13).ext he14).ext he15); have c10 := kv10 (((HB7e.out.ext he13).ext he14).ext he15); have c11 := kv11 (((HB7e.out.ext he13).ext he14).ext he15); have c12 := kv12 (((HB7e.out.ext he13).ext he14).ext he15); have c13 := kv13 (((HB7e.out.ext he13).ext he14).ext he15))
            | (refine wpList_of_run rfl (exec_eql0 rfl rfl rfl) ?_)
            | (have q_ := he13; clear q_; refine wl_alloc rfl rfl zeroC ?_; intro w14a hb14a he14a hx; clear hx; refine wl_store (D := KV c s9) rfl rowC rfl rfl rfl hb14a rfl rfl (KV.one _ _) ?_; intro w14 hb14 hk14 hx; clear hx; have he14 := he14a.of_but hk14 (fun k e => by subst e; exact Nat.le_refl _); clear hb14a he14a hk14; have g0 := kv0 hb14; have g1 := kv1 hb14; have g2 := kv2 hb14; have g3 := kv3 hb14; have g4 := kv4 hb14; have g5 := kv5 hb14; have g6 := kv6 hb14; have g7 := kv7 hb14; have g8 := kv8 hb14; have g9 := kv9 hb14; have g10 := kv10 hb14; have g11 := kv11 hb14; have g12 := kv12 hb14; have g13 := kv13 hb14; have d0 := kv0 ((HB4e.out.ext he13).ext he14); have d1 := kv1 ((HB4e.out.ext he13).ext he14); have d2 := kv2 ((HB4e.out.ext he13).ext he14); have d3 := kv3 ((HB4e.out.ext he13).ext he14); have d4 := kv4 ((HB4e.out.ext he13).ext he14); have d5 := kv5 ((HB4e.out.ext he13).ext he14); have d6 := kv6 ((HB4e.out.ext he13).ext he14); have d7 := kv7 ((HB4e.out.ext he13).ext he14); have d8 := kv8 ((HB4e.out.ext he13).ext he14); have d9 := kv9 ((HB4e.out.ext he13).ext he14); have d10 := kv10 ((HB4e.out.ext he13).ext he14); have d11 := kv11 ((HB4e.out.ext he13).ext he14); have d12 := kv12 ((HB4e.out.ext he13).ext he14); have d13 := kv13 ((HB4e.out.ext he13).ext he14))
            | (go_at_call 17; refine (open_any (HT.out.1.ext HE12.out) (HA.out.1.ext HE12.out) HOBe.out.bytes (by have := HLN.out; omega) (by have := HBL.out; omega) HN.out).mono ?_; rintro e w13 ⟨he13, s9, rfl, ho9⟩; rw [HE0.out, show errV 0 = .nilIface from rfl, HC0.out]; rw [HC0.out] at ho9))
          go_ret
          exact ⟨rfl, (((HE12.out.trans he13).trans he14).trans he15).trans he16⟩
end Tlv
end Go.Proofs.YtfhoielfekeihaaDoor

/- An argument that is a slice of numbers, opened. No condition of its own. -/
namespace Go.Proofs.YtfhoielfekeihaaDoor
open Go.RowKit Go.ChangeShapes

theorem nums_open {H : Type} {enc : TypeId × Value → H} {P : Program} {w : World} {base : Nat} {held : Bool} {fuel : Nat} {t e : TypeId} {k : IntKind} {v : Value} {x : DataW H × List MemPlace}
    (ht : P.underlying t = some (.slice e)) (he : P.underlying e = some (.int k)) (hc : P.cellsOf e = 1) (h : DataW.trod enc P w base (fun _ => true) held fuel t [v] = some x) :
    ∃ l, NumsAt k w v l ∧ ∀ z ∈ l, (Lit.int k z).wf = true := by
  rcases open_ints ht he hc h with ⟨hcs, _⟩ | ⟨a, len, cap, zs, hcs, _, hl, hm, hz, _, hcell, hwf⟩
  · simp at hcs
    subst hcs
    exact ⟨[], NumsAt.nothing _ _, by simp⟩
  · simp at hcs
    subst hcs
    exact ⟨_, NumsAt.of_row hl hm (by simpa using hz) hcell, fun z hz' => hwf z (List.mem_of_mem_take hz')⟩
end Go.Proofs.YtfhoielfekeihaaDoor

/- An argument that is a cookie, opened. No condition of its own. -/
namespace Go.Proofs.YtfhoielfekeihaaDoor
namespace Tlv
open Go Go.RowKit Go.ChangeShapes Go.WideShapes Go.ChangeAt
set_option linter.unusedVariables false
set_option linter.unusedSimpArgs false
set_option maxRecDepth 100000

theorem bytes_openK {H : Type} {enc : TypeId × Value → H} {w : World} {base : Nat} {held : Bool} {fuel : Nat} {v : Value} {x : DataW H × List MemPlace}
    (h : DataW.trod enc Tryd.prog w base (fun _ => true) held fuel 22 [v] = some x) : ∃ l, BytesAt w v l := by
  rcases open_ints Tryd.underlying22 Tryd.underlying5 (by kernel_rfl) h with ⟨hcs, _⟩ | ⟨y, l, c, zs, hcs, _, hl, hm, hz, hx, hcell, hwz⟩
  · simp at hcs
    subst hcs
    exact ⟨[], BytesAt.none _⟩
  · simp at hcs
    subst hcs
    exact ⟨_, BytesAt.of_row hl hm (by simpa using hz) hcell hwz⟩
theorem nums_openK {H : Type} {enc : TypeId × Value → H} {w : World} {base : Nat} {held : Bool} {fuel : Nat} {t e : TypeId} {k : IntKind} {v : Value} {x : DataW H × List MemPlace}
    (ht : Tryd.prog.underlying t = some (.slice e)) (he : Tryd.prog.underlying e = some (.int k)) (hc : Tryd.prog.cellsOf e = 1) (h : DataW.trod enc Tryd.prog w base (fun _ => true) held fuel t [v] = some x) :
    ∃ l, NumsAt k w v l ∧ (∀ z ∈ l, (Lit.int k z).wf = true) := by
  rcases open_ints ht he hc h with ⟨hcs, _⟩ | ⟨a, len, cap, zs, hcs, _, hl, hm, hz, hx, hcell, hwf⟩
  · simp at hcs
    subst hcs
    exact ⟨[], NumsAt.nothing _ _, by simp⟩
  · simp at hcs
    subst hcs
    exact ⟨_, NumsAt.of_row hl hm (by simpa using hz) hcell, fun z hz' => hwf z (List.mem_of_mem_take hz')⟩
theorem fieldT {H : Type} {enc : TypeId × Value → H} {w : World} {base : Nat} {held : Bool} {n : Nat} {cs : List Value} {xs : List (DataW H × List MemPlace)} {fs : Array Field}
    (hf : ∀ (i : Nat) (f : Field), fs[i]? = some f → DataW.trod enc Tryd.prog w base (fun _ => true) held n f.type ((cs.drop f.offset).take (Tryd.prog.cellsOf f.type)) = xs[i]?) (i t off k : Nat) (hfi : ∃ f, fs[i]? = some f ∧ f.type = t ∧ f.offset = off) (hk : Tryd.prog.cellsOf t = k) :
    DataW.trod enc Tryd.prog w base (fun _ => true) held n t ((cs.drop off).take k) = xs[i]? := by
  obtain ⟨f, h1, rfl, rfl⟩ := hfi
  have := hf i f h1
  rwa [hk] at this
theorem co_open {H : Type} {enc : TypeId × Value → H} {w : World} {base : Nat} {held : Bool} {fuel : Nat} {cs : List Value} {x : DataW H × List MemPlace} (h14 : cs.length = 14)
    (h : DataW.trod enc Tryd.prog w base (fun _ => true) held fuel 26 cs = some x) : ∃ c s, cs = (KV c s).toList ∧ CoAt w s c ∧ FitC c := by
  have k22 : Tryd.prog.cellsOf 23 = 1 := by kernel_rfl
  have k3 : Tryd.prog.cellsOf 3 = 1 := by kernel_rfl
  have kA : Tryd.prog.cellsOf 24 = 1 := by kernel_rfl
  have kB : Tryd.prog.cellsOf 22 = 1 := by kernel_rfl
  obtain ⟨xs, n, _, rfl, hl, hlen, hf⟩ := DataW.trod_struct Tryd.underlying26 h
  match xs, hlen, cs, h14 with
  | [y0, y1, y2, y3, y4, y5, y6, y7, y8, y9, y10, y11, y12, y13], _, [c0, c1, c2, c3, c4, c5, c6, c7, c8, c9, c10, c11, c12, c13], _ =>
    have t0 : DataW.trod enc Tryd.prog w base (fun _ => true) held n 3 [c0] = some y0 := by
      have := fieldT hf 0 3 0 1 ⟨_, rfl, rfl, rfl⟩ k3
      simpa using this
    have t1 : DataW.trod enc Tryd.prog w base (fun _ => true) held n 3 [c1] = some y1 := by
      have := fieldT hf 1 3 1 1 ⟨_, rfl, rfl, rfl⟩ k3
      simpa using this
    have t2 : DataW.trod enc Tryd.prog w base (fun _ => true) held n 23 [c2] = some y2 := by
      have := fieldT hf 2 23 2 1 ⟨_, rfl, rfl, rfl⟩ k22
      simpa using this
    have t3 : DataW.trod enc Tryd.prog w base (fun _ => true) held n 23 [c3] = some y3 := by
      have := fieldT hf 3 23 3 1 ⟨_, rfl, rfl, rfl⟩ k22
      simpa using this
    have t4 : DataW.trod enc Tryd.prog w base (fun _ => true) held n 23 [c4] = some y4 := by
      have := fieldT hf 4 23 4 1 ⟨_, rfl, rfl, rfl⟩ k22
      simpa using this
    have t5 : DataW.trod enc Tryd.prog w base (fun _ => true) held n 23 [c5] = some y5 := by
      have := fieldT hf 5 23 5 1 ⟨_, rfl, rfl, rfl⟩ k22
      simpa using this
    have t6 : DataW.trod enc Tryd.prog w base (fun _ => true) held n 3 [c6] = some y6 := by
      have := fieldT hf 6 3 6 1 ⟨_, rfl, rfl, rfl⟩ k3
      simpa using this
    have t7 : DataW.trod enc Tryd.prog w base (fun _ => true) held n 3 [c7] = some y7 := by
      have := fieldT hf 7 3 7 1 ⟨_, rfl, rfl, rfl⟩ k3
      simpa using this
    have t8 : DataW.trod enc Tryd.prog w base (fun _ => true) held n 3 [c8] = some y8 := by
      have := fieldT hf 8 3 8 1 ⟨_, rfl, rfl, rfl⟩ k3
      simpa using this
    have t9 : DataW.trod enc Tryd.prog w base (fun _ => true) held n 24 [c9] = some y9 := by
      have := fieldT hf 9 24 9 1 ⟨_, rfl, rfl, rfl⟩ kA
      simpa using this
    have t10 : DataW.trod enc Tryd.prog w base (fun _ => true) held n 22 [c10] = some y10 := by
      have := fieldT hf 10 22 10 1 ⟨_, rfl, rfl, rfl⟩ kB
      simpa using this
    have t11 : DataW.trod enc Tryd.prog w base (fun _ => true) held n 22 [c11] = some y11 := by
      have := fieldT hf 11 22 11 1 ⟨_, rfl, rfl, rfl⟩ kB
      simpa using this
    have t12 : DataW.trod enc Tryd.prog w base (fun _ => true) held n 23 [c12] = some y12 := by
      have := fieldT hf 12 23 12 1 ⟨_, rfl, rfl, rfl⟩ k22
      simpa using this
    have t13 : DataW.trod enc Tryd.prog w base (fun _ => true) held n 23 [c13] = some y13 := by
      have := fieldT hf 13 23 13 1 ⟨_, rfl, rfl, rfl⟩ k22
      simpa using this
    obtain ⟨n_made, e_made, _, w_made⟩ := DataW.trod_int Tryd.underlying3 t0
    obtain ⟨n_life, e_life, _, w_life⟩ := DataW.trod_int Tryd.underlying3 t1
    obtain ⟨n_mine, e_mine, _, w_mine⟩ := DataW.trod_int Tryd.underlying23 t2
    obtain ⟨n_peers, e_peers, _, w_peers⟩ := DataW.trod_int Tryd.underlying23 t3
    obtain ⟨n_mtsn, e_mtsn, _, w_mtsn⟩ := DataW.trod_int Tryd.underlying23 t4
    obtain ⟨n_ptsn, e_ptsn, _, w_ptsn⟩ := DataW.trod_int Tryd.underlying23 t5
    obtain ⟨n_win, e_win, _, w_win⟩ := DataW.trod_int Tryd.underlying3 t6
    obtain ⟨n_out, e_out, _, w_out⟩ := DataW.trod_int Tryd.underlying3 t7
    obtain ⟨n_inn, e_inn, _, w_inn⟩ := DataW.trod_int Tryd.underlying3 t8
    obtain ⟨n_addrs, g_addrs, v_addrs⟩ := nums_openK Tryd.underlying24 Tryd.underlying54 (by kernel_rfl) t9
    obtain ⟨a_addrs, k_addrs, f_addrs, _⟩ := g_addrs.form
    obtain ⟨n_mr, g_mr⟩ := bytes_openK t10
    obtain ⟨a_mr, k_mr, f_mr, _⟩ := g_mr.form
    obtain ⟨n_pr, g_pr⟩ := bytes_openK t11
    obtain ⟨a_pr, k_pr, f_pr, _⟩ := g_pr.form
    obtain ⟨n_tm, e_tm, _, w_tm⟩ := DataW.trod_int Tryd.underlying23 t12
    obtain ⟨n_tp, e_tp, _, w_tp⟩ := DataW.trod_int Tryd.underlying23 t13
    simp only [List.cons.injEq, and_true] at e_made e_life e_mine e_peers e_mtsn e_ptsn e_win e_out e_inn e_tm e_tp
    subst e_made e_life e_mine e_peers e_mtsn e_ptsn e_win e_out e_inn f_addrs f_mr f_pr e_tm e_tp
    have r_mine := of_u32 w_mine
    have r_peers := of_u32 w_peers
    have r_mtsn := of_u32 w_mtsn
    have r_ptsn := of_u32 w_ptsn
    have r_tm := of_u32 w_tm
    have r_tp := of_u32 w_tp
    refine ⟨⟨n_made, n_life, n_mine.toNat, n_peers.toNat, n_mtsn.toNat, n_ptsn.toNat, n_win, n_out, n_inn, n_addrs, n_mr, n_pr, n_tm.toNat, n_tp.toNat⟩, ⟨a_addrs, n_addrs.length, k_addrs, a_mr, n_mr.length, k_mr, a_pr, n_pr.length, k_pr⟩, ?_, ⟨g_addrs, g_mr, g_pr⟩, ⟨of_i64 w_made, of_i64 w_life, show n_mine.toNat < 4294967296 by omega, show n_peers.toNat < 4294967296 by omega, show n_mtsn.toNat < 4294967296 by omega, show n_ptsn.toNat < 4294967296 by omega, of_i64 w_win, of_i64 w_out, of_i64 w_inn, fun y hy => of_i64 (v_addrs y hy), show n_tm.toNat < 4294967296 by omega, show n_tp.toNat < 4294967296 by omega⟩⟩
    simp only [KV]
    rw [show ((n_mine.toNat : Nat) : Int) = n_mine by omega, show ((n_peers.toNat : Nat) : Int) = n_peers by omega, show ((n_mtsn.toNat : Nat) : Int) = n_mtsn by omega, show ((n_ptsn.toNat : Nat) : Int) = n_ptsn by omega, show ((n_tm.toNat : Nat) : Int) = n_tm by omega, show ((n_tp.toNat : Nat) : Int) = n_tp by omega]
/-- The cells of two secrets, a cookie and a bit. -/
def PV (u v : Value) (c : Co) (s : So) (n : Int) : Array Value := #[u, v, .int .i64 c.made, .int .i64 c.life, .int .u32 (c.mine : Int), .int .u32 (c.peers : Int), .int .u32 (c.mtsn : Int), .int .u32 (c.ptsn : Int), .int .i64 c.win, .int .i64 c.out, .int .i64 c.inn, .slice s.aA s.aN s.aC, .slice s.mA s.mN s.mC, .slice s.pA s.pN s.pC, .int .u32 (c.tm : Int), .int .u32 (c.tp : Int), .int .i64 n]
theorem sp_open {H : Type} {enc : TypeId × Value → H} {w : World} {base : Nat} {held : Bool} {fuel : Nat} {cs : List Value} {x : DataW H × List MemPlace} (h17 : cs.length = 17)
    (h : DataW.trod enc Tryd.prog w base (fun _ => true) held fuel 51 cs = some x) : ∃ u v K L c s n, cs = (PV u v c s n).toList ∧ BytesAt w u K ∧ BytesAt w v L ∧ CoAt w s c ∧ FitC c ∧ W64 n := by
  have k3 : Tryd.prog.cellsOf 3 = 1 := by kernel_rfl
  have kB : Tryd.prog.cellsOf 22 = 1 := by kernel_rfl
  have kC : Tryd.prog.cellsOf 26 = 14 := by kernel_rfl
  obtain ⟨xs, n, _, rfl, hl, hlen, hf⟩ := DataW.trod_struct Tryd.underlying51 h
  match xs, hlen, cs, h17 with
  | [y0, y1, y2, y3], _, [c0, c1, c2, c3, c4, c5, c6, c7, c8, c9, c10, c11, c12, c13, c14, c15, c16], _ =>
    have t0 : DataW.trod enc Tryd.prog w base (fun _ => true) held n 22 [c0] = some y0 := by
      have := fieldT hf 0 22 0 1 ⟨_, rfl, rfl, rfl⟩ kB
      simpa using this
    have t1 : DataW.trod enc Tryd.prog w base (fun _ => true) held n 22 [c1] = some y1 := by
      have := fieldT hf 1 22 1 1 ⟨_, rfl, rfl, rfl⟩ kB
      simpa using this
    have t2 : DataW.trod enc Tryd.prog w base (fun _ => true) held n 26 [c2, c3, c4, c5, c6, c7, c8, c9, c10, c11, c12, c13, c14, c15] = some y2 := by
      have := fieldT hf 2 26 2 14 ⟨_, rfl, rfl, rfl⟩ kC
      simpa using this
    have t3 : DataW.trod enc Tryd.prog w base (fun _ => true) held n 3 [c16] = some y3 := by
      have := fieldT hf 3 3 16 1 ⟨_, rfl, rfl, rfl⟩ k3
      simpa using this
    obtain ⟨K, hK⟩ := bytes_openK t0
    obtain ⟨L, hL⟩ := bytes_openK t1
    obtain ⟨c, s, e2, hc, hfc⟩ := co_open (by rfl) t2
    obtain ⟨m, e3, _, w3⟩ := DataW.trod_int Tryd.underlying3 t3
    simp only [List.cons.injEq, and_true] at e3
    subst e3
    refine ⟨c0, c1, K, L, c, s, m, ?_, hK, hL, hc, hfc, of_i64 w3⟩
    simp only [KV, List.cons.injEq, and_true] at e2
    simp only [PV]
    obtain ⟨rfl, rfl, rfl, rfl, rfl, rfl, rfl, rfl, rfl, rfl, rfl, rfl, rfl, rfl⟩ := e2
    rfl
end Tlv
end Go.Proofs.YtfhoielfekeihaaDoor

namespace Go.Proofs.YtfhoielfekeihaaDoor
open Go.ChangeShapes Go.WideShapes Go.ChangeAt Go.RowKit
open Go.ChangeMaps (open_string shut_string)
set_option linter.unusedVariables false
set_option linter.unusedSimpArgs false

theorem cookieMakesOwn : ownKnob Tryd.prog.godebug = none := by kernel_rfl
theorem cookieMakesLaidOut : laidOutB Tryd.prog = true := by kernel_rfl
theorem cookieMakesDoor (os : Os) (args : Array Value) : laidMetH Tryd.prog Rows.cookieMakesRow.laid ((World.doorLaid Tryd.prog 14 os).forCall (fun _ _ => 0) ⟨#[], args, []⟩).memory :=
  laidMetH_of_parts3 (fuel := 8) (laidMet_of_run' 8 (by kernel_rfl) (by kernel_rfl)) (by kernel_rfl) (by kernel_rfl)
set_option maxRecDepth 100000 in
theorem cookieMakesLifted (os : Os) (started : os.Started) (H : Type) (enc : TypeId × Value → H) :
    ReturnsInHanded {} Tryd.checked os 3 .any (fun w args => (Rows.cookieMakesSpec.pre enc Tryd.prog Tryd.f3 [] false w args ∧ laidMetH Tryd.prog Rows.cookieMakesRow.laid w) ∧ sizedMet enc Tryd.prog Tryd.f3 (OpenSpec.ofChange Rows.cookieMakesSpec) false w args)
      (Rows.cookieMakesSpec.post enc Tryd.prog Tryd.f3 false true false false) := by
  refine returnsInHanded_of_change_and (C := Tryd.checked) (X := fun w _ => laidMetH Tryd.prog Rows.cookieMakesRow.laid w) (fun _ _ _ hh h => h.of_heap hh) cookieMakesOwn started (by kernel_rfl) Tryd.func3
    (ChangeSpec.witness_shaped (enc := enc) (C := Tryd.checked) (os := os) (X := fun w _ => laidMetH Tryd.prog Rows.cookieMakesRow.laid w) false (World.doorLaid Tryd.prog 14 os) #[.slice none 0 0, .agg (Tlv.KV Tlv.co0 Tlv.so0), .int .i64 0] 8 rfl (World.shaped_of_RefB (by kernel_rfl) (by kernel_rfl)) (by kernel_rfl) (by kernel_rfl) (by kernel_rfl) (cookieMakesDoor os _)) ?_
  intro W base args ds gs before hval0 hW _ _ hL _
  have hval : ∀ (j : Nat) t v, Tryd.f3.params[j]? = some t → args[j]? = some v → Value.okWide Tryd.prog W .any base t v := hval0
  have hW' := hW
  obtain ⟨p, q, hA0, hV, rfl, hfz, hnd⟩ := hW
  have hA : DataW.TrodAll enc Tryd.prog W 0 (fun _ => true) true Tryd.f3.params.toList args.toList ds p := hA0
  rw [Tryd.params3] at hA hval
  obtain ⟨v0, vs0, d0, ds0, p0, q0, hargs, rfl, rfl, h0, r0⟩ := trodAll_cons hA
  obtain ⟨v1, vs1, d1, ds1, p1, q1, rfl, rfl, rfl, h1, r1⟩ := trodAll_cons r0
  obtain ⟨v2, vs2, d2, ds2, p2, q2, rfl, rfl, rfl, h2, r2⟩ := trodAll_cons r1
  obtain ⟨rfl, rfl, rfl⟩ := trodAll_nil r2
  obtain rfl : args = #[v0, v1, v2] := by cases args; simp_all
  obtain ⟨rfl, rfl⟩ := trodVars_none hV
  have k0 := h0
  have lt0 : ∀ x ∈ p0, x.block < W.heap.size := by obtain ⟨m, hm⟩ := k0; exact DataW.trod_lt m _ _ _ hm
  obtain ⟨a0, len0, cap0, rfl⟩ := okWide_slice Tryd.underlying22 (hval 0 22 v0 rfl rfl)
  obtain ⟨l0, w0⟩ : ∃ l, BytesAt W (.slice a0 len0 cap0) l := by
    obtain ⟨fuel, hf⟩ := h0
    rcases open_ints Tryd.underlying22 Tryd.underlying5 (by kernel_rfl) hf with ⟨hcs, _⟩ | ⟨x, l, c, zs, hcs, _, hl, hm, hz, _, hcell, hwz⟩
    · simp [Value.cells] at hcs
      obtain ⟨rfl, rfl, rfl⟩ := hcs
      exact ⟨[], BytesAt.none _⟩
    · simp [Value.cells] at hcs
      obtain ⟨rfl, rfl, rfl⟩ := hcs
      exact ⟨_, BytesAt.of_row hl hm (by simpa using hz) hcell hwz⟩
  have k1 := h1
  have lt1 : ∀ x ∈ p1, x.block < W.heap.size := by obtain ⟨m, hm⟩ := k1; exact DataW.trod_lt m _ _ _ hm
  obtain ⟨cs1, rfl, hz1⟩ := okWide_struct Tryd.underlying26 (hval 1 26 v1 rfl rfl)
  obtain ⟨c1, s1, hc1, hk1, hf1⟩ : ∃ c s, cs1 = Tlv.KV c s ∧ Tlv.CoAt W s c ∧ Tlv.FitC c := by
    obtain ⟨fu, hfu⟩ := h1
    have hz : cs1.toList.length = 14 := by rw [Array.length_toList, hz1]; kernel_rfl
    obtain ⟨c, s, e, a, b⟩ := Tlv.co_open hz (by simpa [Value.cells] using hfu)
    exact ⟨c, s, Array.toList_inj.1 e, a, b⟩
  subst hc1
  obtain ⟨a2, rfl, rfl, rfl, w2⟩ := open_int Tryd.underlying3 (hval 2 3 v2 rfl rfl) h2
  clear hA0 hval0
  have hT := tabs_of3 hL
  refine (Tlv.makes_walk hT.1 hT.2 w0 hk1 hf1 (of_i64 w2)).mono fun e W' ⟨he, bel⟩ => ?_
  subst he
  exact ⟨_, rfl, _, _, _, [], _, [], hW', trodAll_mk1 (shut_bool Tryd.underlying4 _), (trodAll_cons_mk (Below.trod cookieMakesLaidOut (by kernel_rfl) (of_decide_eq_true (by kernel_rfl)) k0 bel lt0) (trodAll_cons_mk (Below.trod cookieMakesLaidOut (by kernel_rfl) (of_decide_eq_true (by kernel_rfl)) k1 bel lt1) (trodAll_cons_mk (shut_int Tryd.underlying3 w2) (trodAll_mk0)))), rfl, bel.frame _, fun h => by cases h⟩

theorem cookieMakesOver : Rows.cookieMakesRow.holds Tryd.pinned (OpenSpec.ofChange Rows.cookieMakesSpec) :=
  OpenClaim.holds_of_wide 3 Tryd.f3 rfl rfl rfl rfl rfl rfl rfl ⟨rfl, rfl, rfl, rfl, rfl⟩ rfl rfl rfl rfl rfl (by kernel_rfl) Tryd.func3 (by kernel_rfl)
    (of_decide_eq_true (by kernel_rfl)) (by unfold Func.isWrapper; first | (rw [if_pos (by decide +kernel)]; kernel_rfl) | (rw [if_neg (by decide +kernel)]; exact ⟨rfl, rfl⟩))
    (fun os started H enc _ => cookieMakesLifted os started H enc)

/-- THE STATEMENT. -/
theorem cookieMakes_holds : Rows.CookieMakesCardSaid :=
  Claim7.holds_tied_plain_at .later [] [.data, .data, .data] true (true, "658aee9203d4dfbb09f1f1ac9f759582c28b8d1a46754831244efaf4a78ddc61") true
    cookieMakesOver (fun _ h => by cases h) (by kernel_rfl) (fun _ h => by cases h) cookieMakes_row_tie rfl ⟨rfl, rfl⟩ (by kernel_rfl) rfl
    (fun f fn hf hfn => by
      obtain rfl : f = 3 := Option.some.inj ((show Tryd.prog.funcNamed Rows.cookieMakesRow.func = some 3 by kernel_rfl).symm.trans hf) |>.symm
      obtain rfl : fn = Tryd.f3 := (Option.some.inj (Tryd.func3.symm.trans hfn)).symm
      exact ⟨by kernel_rfl, fun j t ht => by
        rw [Tryd.params3] at ht
        have hm : t ∈ [22, 26, 3] := by simpa using Array.mem_of_getElem? ht
        have hall : ([22, 26, 3].all fun u => !Tryd.prog.wantsStandIn u) = true := by kernel_rfl
        exact (show Tryd.prog.wantsStandIn t = false by simpa using List.all_eq_true.1 hall t hm)⟩)
    (by kernel_rfl)
#print axioms cookieMakes_holds
end Go.Proofs.YtfhoielfekeihaaDoor
