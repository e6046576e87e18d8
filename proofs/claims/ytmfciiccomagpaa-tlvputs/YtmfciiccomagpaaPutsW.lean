/- The law TlvPuts walked: it answers true. No condition of its own. -/
import Derived.Test.YtmfciiccomagpaaPutsK
namespace Go.Proofs.Ytmfciiccomagpaa
namespace Tlv
open Go Go.RowKit
set_option linter.unusedVariables false
set_option linter.unusedSimpArgs false
set_option maxRecDepth 100000


set_option maxHeartbeats 8000000 in
theorem puts_walk (v : Value) (T : List Th) (w : World) (hv : ThingsAt w v T) :
    Calls Try.prog 3 #[v] w fun e w' => e = .returned (.bool true) ∧ Ext w w' := by
  obtain ⟨hmx, a, cap, rfl, hc⟩ := id hv
  have HV : Hid (ThingsAt w (.slice a T.length cap) T) := hv
  have HC : Hid (∀ i t, T[i]? = some t → ∃ b off u, a = some ⟨b, off, none⟩ ∧ w.cell? ⟨b, off + i * 4, none⟩ = some (.int .i64 t.kind) ∧ w.cell? ⟨b, off + i * 4 + 1, none⟩ = some (.int .i64 t.size) ∧ w.cell? ⟨b, off + i * 4 + 2, none⟩ = some (.int .u64 (t.n : Int)) ∧ w.cell? ⟨b, off + i * 4 + 3, none⟩ = some u ∧ BytesAt w u t.b) := hc
  clear hc hv
  obtain ⟨n, hn⟩ : ∃ n, n = T.length := ⟨_, rfl⟩
  have HN : Hid (n = T.length) := hn
  rw [← hn] at hmx HV ⊢
  clear hn hmx
  cases hlg : longB T with
  | true =>
    go_enter Try.func3, Try.ntmps3
    go_wp2_with (first
      | (go_at_call 7; refine (alive_any _).mono ?_; rintro e w0 ⟨rfl, he0⟩)
      | (go_at_call 8; refine (long_any (HV.out.ext he0)).mono ?_; rintro e w1 ⟨he1, rfl⟩; rw [hlg]))
    go_ret
    exact ⟨rfl, he0.trans he1⟩
  | false =>
  have HLT : Hid (n ≤ 41 ∧ bsum T ≤ 3000) := ⟨by rw [HN.out]; exact (longB_of hlg).1, (longB_of hlg).2⟩
  have hn41 : n ≤ 41 := HLT.out.1
  go_enter Try.func3, Try.ntmps3
  go_wp2_with (first
    | (go_at_call 7; refine (alive_any _).mono ?_; rintro e w0 ⟨rfl, he0⟩)
    | (go_at_call 8; refine (long_any (HV.out.ext he0)).mono ?_; rintro e w1 ⟨he1, rfl⟩; rw [hlg])
    | (refine wl_box (C := #[.slice none 0 0]) rfl rfl rfl ?_; intro w2 hb2 he2 hx; clear hx))
  have HS : Hid (Ext w w1 ∧ PutsAt w1 (w2.alloc (.cells #[] 5)) w1.heap.size (.slice none 0 0) (.slice (some ⟨w2.heap.size, 0, none⟩) 0 0) [] []) := ⟨he0.trans he1, ⟨(OutAt.mk hb2 (OB.nil _ _) : OutAt w2 w1.heap.size w1.heap.size (.slice none 0 0) []).ext (Ext.alloc _ _), OB.lit0 w2 _ _ rfl he2.size, (fun k e => by cases e), he2.trans (Ext.alloc _ _), Nat.le_refl _⟩⟩
  clear he0 he1 hb2 he2
  go_loopg [4, 21] n (fun gm x t wr => ∃ (i : Nat) (v1 : Value) (wa : Option Addr) (wn wc : Nat), i ≤ n ∧ gm = n - i ∧ x = .slice wa wn wc ∧ t = .int .i64 (i : Int) ∧ Hid (PutsAt w1 wr w1.heap.size v1 (.slice wa wn wc) (puts (T.take i)) (puts (T.take i))))
  case atStart => exact ⟨0, _, _, _, _, Nat.zero_le _, rfl, rfl, rfl, HS.out.2⟩
  case round =>
    obtain ⟨i, v1, wa, wn, wc, hi, rfl, rfl, rfl, HR⟩ := hrel
    by_cases hlt : i < n
    · have hd : decide ((i : Int) < (n : Int)) = true := decide_eq_true (by omega)
      obtain ⟨p, hp⟩ : ∃ p, T[i]? = some p := ⟨T[i]'(by rw [← HN.out]; exact hlt), by simp⟩
      have HP : Hid (puts (T.take (i + 1)) = putT (puts (T.take i)) p) := show _ = _ by rw [take_th hp, puts_snoc]
      have HP2 : Hid (bsum (T.take (i + 1)) = bsum (T.take i) + p.b.length) := show _ = _ by rw [take_th hp, bsum_snoc]
      obtain ⟨b, off, u, rfl, hc0, hc1, hc2, hc3, hbu⟩ := HC.out i p hp
      clear hp
      have HEW : Hid (Ext w wr) := HS.out.1.trans HR.out.ext
      have c0 := HEW.out.cell hc0
      have c1 := HEW.out.cell hc1
      have c2 := HEW.out.cell hc2
      have c3 := HEW.out.cell hc3
      clear hc0 hc1 hc2 hc3
      obtain ⟨pk, ps, pn, pb⟩ := p
      obtain ⟨ua, uc, rfl, hum, _⟩ := hbu.form
      rename_i zz
      clear zz hum
      simp only at c0 c1 c2 c3 HP2 hbu
      obtain ⟨m, hm⟩ : ∃ m, m = pb.length := ⟨_, rfl⟩
      have HM : Hid (m = pb.length) := hm
      rw [← hm] at c3 HP2 hbu
      have HU : Hid (BytesAt w1 (.slice ua m uc) pb) := hbu.ext HS.out.1
      clear hm hbu
      by_cases h0 : pk = 0
      · subst h0
        have HPL : Hid ((puts (T.take i)).length ≤ 4000 ∧ m ≤ 3000 ∧ w1.heap.size ≤ wr.heap.size ∧ w1.heap.size < wr.heap.size) := ⟨by have h1 := puts_len T i (by have := HN.out; omega); have h2 := bsum_take T i; have h3 := HLT.out; omega, by have h1 := HP2.out; have h2 := bsum_take T (i + 1); have h3 := HLT.out; omega, HR.out.ext.size, HR.out.out.blk.lt⟩
        have HPI : Hid (puts (T.take (i + 1)) = puts (T.take i) ++ numB pn ps) := HP.out.trans (by unfold putT; rw [if_pos rfl])
        go_wp2_with (first
          | (refine wl_load4 rfl rowT rfl rfl c0 c1 c2 c3 ?_)
          | (refine wl_alloc rfl rfl zeroT ?_; intro w3 hb3 he3 hx; clear hx)
          | (refine wl_store (D := #[.int .i64 0, .int .i64 ps, .int .u64 (pn : Int), .slice ua m uc]) rfl rowT rfl rfl rfl hb3 rfl rfl (one_th _ _ _ _ rfl) ?_; intro w4 hb4 hk4 hx; clear hx; have d0 := hb4.cell 0; have d1 := hb4.cell 1; have d2 := hb4.cell 2; have d3 := hb4.cell 3; have d4 := (hb4.ext (Ext.alloc w4 (.cells #[] 5))).cell 3; have HE4 : Hid (Ext wr w4) := he3.of_but hk4 (fun q e => by subst e; exact Nat.le_refl _); have HB4 : Hid (Blk w4 wr.heap.size #[.int .i64 0, .int .i64 ps, .int .u64 (pn : Int), .slice ua m uc] 31) := hb4; clear hk4 he3 hb3 hb4)
          | (go_at_call 9; refine (outNum_any (HR.out.out.ext HE4.out) pn ps (by have := HPL.out; omega) (Nat.le_trans HPL.out.2.2.1 HE4.out.size)).mono ?_; rintro e w5 ⟨⟨y5, rfl⟩, v5, ho5, hm5⟩; have hb5 := hm5.blk (HR.out.out.ext HE4.out) HB4.out (by decide) (by have := HPL.out; omega); have e1 := hb5.cell 1; have e2 := hb5.cell 2; have H5 : Hid (PutsAt w1 w5 w1.heap.size v5 (.slice wa wn wc) (puts (T.take i) ++ numB pn ps) (puts (T.take i))) := (HR.out.more HE4.out).moved ho5 hm5; clear hb5 ho5 hm5)
          | (go_at_call 10; refine (refNum_any pn ps _).mono ?_; rintro e w6 ⟨ra, rn, rc, rfl, hrn, ho6, he6⟩; clear hrn)
          | (at_builtin; refine wl_app (v := .slice wa wn wc) (u := .slice ra rn rc) (base := w1.heap.size) rfl rfl rfl rfl (H5.out.want.ext he6) ho6.bytes (by have := HPL.out; have := numB_len pn ps; omega) (Nat.le_trans H5.out.ext.size he6.size) ?_; intro wa7 wn7 wc7 w7 hn7 ho7 hk7 hg7))
        have HQ : Hid (PutsAt w1 w7 w1.heap.size v5 (.slice wa7 wn7 wc7) (puts (T.take (i + 1))) (puts (T.take (i + 1)))) := by
          rw [HPI.out]
          exact (H5.out.more he6).wants ho7 hk7 hg7
        clear hn7 ho7 hk7 hg7 he6 ho6 H5 d0 d1 d2 d3 d4 e1 e2 c0 c1 c2 c3
        obtain ⟨l, hl⟩ : ∃ l, l = puts (T.take (i + 1)) := ⟨_, rfl⟩
        have HLL : Hid (l = puts (T.take (i + 1))) := hl
        rw [← hl] at HQ
        clear hl
        have HL9 : l.length ≤ 1000000 := by have h1 := puts_len T (i + 1) (by have := HN.out; omega); have h2 := bsum_take T (i + 1); have h3 := HLT.out; rw [← HLL.out] at h1; omega
        have HO : ∀ {wx : World}, Ext w7.drew wx → OutAt wx w1.heap.size w1.heap.size v5 l := fun hx => HQ.out.out.ext ((Ext.drew _).trans hx)
        have HW : ∀ {wx : World}, Ext w7.drew wx → BytesAt wx (.slice wa7 wn7 wc7) l := fun hx => (HQ.out.want.ext ((Ext.drew _).trans hx)).bytes
        refine wp_region_facts (fun t => bif Nat.ble 71 t && Nat.ble t 76 then some (t - 71) else none) 111 Ext
          [Is (.pointer (some ⟨w1.heap.size, 0, none⟩)),
           (fun w u => BytesAt w u l),
           Is (.string (strOf l)),
           Is (.slice wa7 wn7 wc7),
           Is (.string (strOf l)),
           Is (.bool false)]
          rfl (by kernel_rfl) (by kernel_rfl) rfl Ext.refl (fun _ _ _ => Ext.trans) ?_ ?_ ?_
        · exact KeepAll.is (KeepAll.cons (fun _ _ _ hr h => BytesAt.ext h hr) (KeepAll.is (KeepAll.is (KeepAll.is (KeepAll.is (KeepAll.nil))))))
        · refine GoodAll.cons ?_ ?_
          · intro r wx hR hx
            obtain ⟨h1, _⟩ := hx
            replace h1 : r (.tmp 3) = (.pointer (some ⟨w1.heap.size, 0, none⟩)) := h1
            exact give_move (.inl rfl) ⟨Ext.refl _, h1⟩
          refine GoodAll.cons ?_ ?_
          · intro r wx hR hx
            obtain ⟨h1, h2, _⟩ := hx
            replace h1 : r (.func 14) = .func (.func 14) #[] #[] := h1
            replace h2 : r (.tmp 71) = (.pointer (some ⟨w1.heap.size, 0, none⟩)) := h2
            refine give_func #[.pointer (some ⟨w1.heap.size, 0, none⟩)] rfl h1 Try.call14 (by simp [h2]) ?_
            refine (outBytes_any (HO hR) HL9).mono ?_
            rintro e w' ⟨a9, n9, c9, rfl, hn9, ho9, he9⟩
            exact ⟨_, rfl, he9, ho9.bytes⟩
          refine GoodAll.cons ?_ ?_
          · intro r wx hR hx
            obtain ⟨h1, _⟩ := hx
            replace h1 : ((fun w u => BytesAt w u l) : Fact) wx (r (.tmp 72)) := h1
            exact give_of (exec_string byteT strT rfl wx l h1) ⟨Ext.refl _, rfl⟩
          refine GoodAll.cons ?_ ?_
          · intro r wx hR hx
            obtain ⟨h1, _⟩ := hx
            replace h1 : r (.tmp 4) = (.slice wa7 wn7 wc7) := h1
            exact give_move (.inl rfl) ⟨Ext.refl _, h1⟩
          refine GoodAll.cons ?_ ?_
          · intro r wx hR hx
            obtain ⟨h1, _⟩ := hx
            replace h1 : r (.tmp 74) = (.slice wa7 wn7 wc7) := h1
            exact give_of (exec_string byteT strT rfl wx l (by rw [h1]; exact (HW hR))) ⟨Ext.refl _, rfl⟩
          refine GoodAll.cons ?_ ?_
          · intro r wx hR hx
            obtain ⟨h1, h2, _⟩ := hx
            replace h1 : r (.tmp 73) = (.string (strOf l)) := h1
            replace h2 : r (.tmp 75) = (.string (strOf l)) := h2
            exact give_of (by simp [execOp, h1, h2, go_sem]) ⟨Ext.refl _, rfl⟩
          exact GoodAll.nil
        · intro vs w9 a9 hR hold ha9
          have hv0 : vs 0 = (.pointer (some ⟨w1.heap.size, 0, none⟩)) := hold.at 0
          have hq1 := hold.at 1
          have hv2 : vs 2 = (.string (strOf l)) := hold.at 2
          have hv3 : vs 3 = (.slice wa7 wn7 wc7) := hold.at 3
          have hv4 : vs 4 = (.string (strOf l)) := hold.at 4
          have hv5 : vs 5 = (.bool false) := hold.at 5
          simp only [putAll, Act.put, hv0, hv2, hv3, hv4, hv5, List.setIfInBounds_toArray, List.set_cons_succ, List.set_cons_zero] at ha9
          subst ha9
          clear hold hv0 hv2 hv3 hv4 hv5
          have HR9 : Hid (Ext w7 w9) := (Ext.drew _).trans hR
          clear HO HW hR
          go_wp2
          go_roundg (n - (i + 1))
          case measure => omega
          case rel => exact ⟨i + 1, _, _, _, _, by omega, rfl, rfl, by simp, by rw [← HLL.out]; exact HQ.out.more HR9.out⟩
      by_cases h1 : pk = 1
      · subst h1
        clear h0
        have HPL : Hid ((puts (T.take i)).length ≤ 4000 ∧ m ≤ 3000 ∧ w1.heap.size ≤ wr.heap.size ∧ w1.heap.size < wr.heap.size) := ⟨by have h1 := puts_len T i (by have := HN.out; omega); have h2 := bsum_take T i; have h3 := HLT.out; omega, by have h1 := HP2.out; have h2 := bsum_take T (i + 1); have h3 := HLT.out; omega, HR.out.ext.size, HR.out.out.blk.lt⟩
        have HPI : Hid (puts (T.take (i + 1)) = puts (T.take i) ++ pb) := HP.out.trans (by unfold putT; rw [if_neg (show ¬ ((1 : Int) = 0) by decide), if_pos rfl])
        go_wp2_with (first
          | (refine wl_load4 rfl rowT rfl rfl c0 c1 c2 c3 ?_)
          | (refine wl_alloc rfl rfl zeroT ?_; intro w3 hb3 he3 hx; clear hx)
          | (refine wl_store (D := #[.int .i64 1, .int .i64 ps, .int .u64 (pn : Int), .slice ua m uc]) rfl rowT rfl rfl rfl hb3 rfl rfl (one_th _ _ _ _ rfl) ?_; intro w4 hb4 hk4 hx; clear hx; have d0 := hb4.cell 0; have d1 := hb4.cell 1; have d2 := hb4.cell 2; have d3 := hb4.cell 3; have d4 := (hb4.ext (Ext.alloc w4 (.cells #[] 5))).cell 3; have HE4 : Hid (Ext wr w4) := he3.of_but hk4 (fun q e => by subst e; exact Nat.le_refl _); have HB4 : Hid (Blk w4 wr.heap.size #[.int .i64 1, .int .i64 ps, .int .u64 (pn : Int), .slice ua m uc] 31) := hb4; clear hk4 he3 hb3 hb4)
          | (at_builtin; have q := H6; clear q; refine wl_app (v := .slice wa wn wc) (u := .slice ua m uc) (l := puts (T.take i)) (m := pb) (base := w1.heap.size) rfl rfl rfl rfl H6.out.1.want (HU.out.ext H6.out.1.ext) (by have := HPL.out; have := HM.out; omega) H6.out.1.ext.size ?_; intro wa7 wn7 wc7 w7 hn7 ho7 hk7 hg7)
          | (at_builtin; refine wl_app (l := []) (m := pb) (v := .slice (some ⟨w4.heap.size, 0, none⟩) 0 0) (u := .slice ua m uc) (base := w4.heap.size) rfl rfl rfl rfl (OB.lit0 w4 _ _ rfl (Nat.le_refl _)) (HU.out.ext (HR.out.ext.trans (HE4.out.trans (Ext.alloc _ _)))) (by have := HPL.out; have := HM.out; simp; omega) (by simp) ?_; intro oa on oc w5 hn5 ho5 hk5 hg5; rw [List.nil_append] at ho5; have HE5 : Hid (Ext w4 w5) := (Ext.alloc _ _).of_but hk5 (fun k e => by cases e; exact Nat.le_refl _); have hb5 := HB4.out.ext HE5.out; have f3 := hb5.cell 3; have HB5 : Hid (Blk w5 wr.heap.size #[.int .i64 1, .int .i64 ps, .int .u64 (pn : Int), .slice ua m uc] 31) := hb5; have HO5 : Hid (OB w5 w4.heap.size (.slice oa on oc) pb ∧ on = pb.length) := ⟨ho5, by rw [hn5.out]; simp⟩; clear hn5 ho5 hk5 hg5 hb5)
          | (go_at_call 11; refine (outPut_any (HR.out.out.ext (HE4.out.trans HE5.out)) HO5.out.1.bytes (by have := HPL.out; have := HM.out; omega) (Nat.le_trans HPL.out.2.2.1 (Nat.le_trans HE4.out.size HE5.out.size))).mono ?_; rintro e w6 ⟨⟨y6, rfl⟩, v6, ho6, hm6⟩; have hb6 := hm6.blk (HR.out.out.ext (HE4.out.trans HE5.out)) HB5.out (by decide) (by have := HPL.out; omega); have g3 := hb6.cell 3; have HM6 : Hid (OutAt w6 w1.heap.size w1.heap.size v6 (puts (T.take i) ++ pb) ∧ Moved w5 w6 w1.heap.size v1 v6) := ⟨ho6, hm6⟩; clear hb6 ho6 hm6; have H6 : Hid (PutsAt w1 w6 w1.heap.size v6 (.slice wa wn wc) (puts (T.take i) ++ pb) (puts (T.take i)) ∧ True ∧ KeepBut (fun k => k = w1.heap.size ∨ v1.ownBlock = some k) w5 w6) := ⟨(HR.out.more (HE4.out.trans HE5.out)).moved HM6.out.1 HM6.out.2, trivial, HM6.out.2.keep⟩))
        have HQ : PutsAt w1 w7 w1.heap.size v6 (.slice wa7 wn7 wc7) (puts (T.take (i + 1))) (puts (T.take (i + 1))) := by
          rw [HPI.out]
          exact H6.out.1.wants ho7 hk7 hg7
        have HBB : Hid (w1.heap.size ≤ w4.heap.size) := Nat.le_trans HPL.out.2.2.1 HE4.out.size
        have HEL : Hid (Else w7 w4.heap.size w1.heap.size v6 (.slice wa7 wn7 wc7) (.slice oa on oc) pb ∧ on = pb.length) := by
          have hv1 : ∀ k, v1.ownBlock = some k → k < w4.heap.size := fun k e => Nat.lt_of_lt_of_le (HR.out.out.own.lt e).2 HE4.out.size
          have hwv : ∀ k, (Value.slice wa wn wc).ownBlock = some k → k < w4.heap.size := fun k e => Nat.lt_of_lt_of_le (HR.out.want.lt e).2 HE4.out.size
          have h5 : ∀ k, (Value.slice oa on oc).ownBlock = some k → w4.heap.size ≤ k ∧ k < w5.heap.size := fun k e => HO5.out.1.lt e
          have o6 : OB w6 w4.heap.size (.slice oa on oc) pb := HO5.out.1.but HM6.out.2.keep (fun k e e2 => by
            rcases e2 with e2 | e2
            · exact HO5.out.1.ne (HR.out.out.ext (HE4.out.trans HE5.out)).blk (by decide) k e e2
            · have := hv1 k e2; have := h5 k e; omega)
          refine ⟨⟨o6.but hk7 (fun k e e2 => by have := hwv k e2; have := h5 k e; omega), fun k e e2 => ?_, fun k e e2 => ?_⟩, HO5.out.2⟩
          · rcases HM6.out.2.came k e2 with e3 | e3
            · have := hv1 k e3; have := h5 k e; omega
            · have := h5 k e; omega
          · rcases hg7 k e2 with e3 | e3
            · have := hwv k e3; have := h5 k e; omega
            · have := h5 k e; have := HM6.out.2.keep.size; omega
        have hon : on ≤ 3000 := by rw [HO5.out.2, ← HM.out]; exact HPL.out.2.1
        clear hn7 ho7 hk7 hg7 H6 HM6 HO5 HB5 d0 d1 d2 d3 d4 c0 c1 c2 c3 f3 g3
        have HQ0 : Hid (PutsAt w1 w7 w1.heap.size v6 (.slice wa7 wn7 wc7) (puts (T.take (i + 1))) (puts (T.take (i + 1)))) := HQ
        clear HQ
        go_loopg [61] on (fun gm t wr => ∃ (k : Nat) (m1 : List Nat), k ≤ on ∧ gm = on - k ∧ t = .int .i64 (k : Int) ∧ Hid (m1.length = on ∧ OB wr w4.heap.size (.slice oa on oc) m1 ∧ PutsAt w1 wr w1.heap.size v6 (.slice wa7 wn7 wc7) (puts (T.take (i + 1))) (puts (T.take (i + 1)))))
        case atStart => exact ⟨0, _, Nat.zero_le _, rfl, rfl, HEL.out.2.symm, HEL.out.1.own, HQ0.out⟩
        case round =>
          obtain ⟨k, m1, hk, rfl, rfl, HR2⟩ := hrel
          by_cases hlt2 : k < on
          · have hd2 : decide ((k : Int) < (on : Int)) = true := decide_eq_true (by omega)
            obtain ⟨q, rfl, hzz⟩ := HR2.out.2.1.some_of (by omega)
            clear hzz
            have hcq := HR2.out.2.1.cellAt k (by rw [HR2.out.1]; exact hlt2)
            obtain ⟨z, hz, hw1, hw2⟩ := plus8 _ (HR2.out.2.1.all.getD k)
            generalize m1.getD k 0 = y at *
            go_wp2_with (first
              | (refine wl_poke (z := z) (m := m1) (q := q) (j := k) rfl rfl (by first | rfl | go_simp) (by first | rfl | go_simp | simp [go_sem, hw1, hw2]) hz HR2.out.2.1 (by rw [HR2.out.1]; exact hlt2) ?_; intro w8 ho8 hk8))
            go_roundg (on - (k + 1))
            case measure => omega
            case rel => exact ⟨k + 1, _, by omega, rfl, by simp, by rw [List.length_set]; exact HR2.out.1, ho8, HR2.out.2.2.poke hk8 (Nat.le_trans HBB.out (HR2.out.2.1.lt rfl).1) (HR2.out.2.1.ne HR2.out.2.2.out.blk (by decide) q rfl).symm (HEL.out.1.offv q rfl) (HEL.out.1.offw q rfl)⟩
          · have hd2 : decide ((k : Int) < (on : Int)) = false := decide_eq_false (by omega)
            have HQ : Hid (PutsAt w1 wr w1.heap.size v6 (.slice wa7 wn7 wc7) (puts (T.take (i + 1))) (puts (T.take (i + 1)))) := HR2.out.2.2
            clear HR2 HEL HQ0
            go_wp2_with fail
            obtain ⟨l, hl⟩ : ∃ l, l = puts (T.take (i + 1)) := ⟨_, rfl⟩
            have HLL : Hid (l = puts (T.take (i + 1))) := hl
            rw [← hl] at HQ
            clear hl
            have HL9 : l.length ≤ 1000000 := by have h1 := puts_len T (i + 1) (by have := HN.out; omega); have h2 := bsum_take T (i + 1); have h3 := HLT.out; rw [← HLL.out] at h1; omega
            have HO : ∀ {wx : World}, Ext wr.drew wx → OutAt wx w1.heap.size w1.heap.size v6 l := fun hx => HQ.out.out.ext ((Ext.drew _).trans hx)
            have HW : ∀ {wx : World}, Ext wr.drew wx → BytesAt wx (.slice wa7 wn7 wc7) l := fun hx => (HQ.out.want.ext ((Ext.drew _).trans hx)).bytes
            refine wp_region_facts (fun t => bif Nat.ble 71 t && Nat.ble t 76 then some (t - 71) else none) 111 Ext
              [Is (.pointer (some ⟨w1.heap.size, 0, none⟩)),
               (fun w u => BytesAt w u l),
               Is (.string (strOf l)),
               Is (.slice wa7 wn7 wc7),
               Is (.string (strOf l)),
               Is (.bool false)]
              rfl (by kernel_rfl) (by kernel_rfl) rfl Ext.refl (fun _ _ _ => Ext.trans) ?_ ?_ ?_
            · exact KeepAll.is (KeepAll.cons (fun _ _ _ hr h => BytesAt.ext h hr) (KeepAll.is (KeepAll.is (KeepAll.is (KeepAll.is (KeepAll.nil))))))
            · refine GoodAll.cons ?_ ?_
              · intro r wx hR hx
                obtain ⟨h1, _⟩ := hx
                replace h1 : r (.tmp 3) = (.pointer (some ⟨w1.heap.size, 0, none⟩)) := h1
                exact give_move (.inl rfl) ⟨Ext.refl _, h1⟩
              refine GoodAll.cons ?_ ?_
              · intro r wx hR hx
                obtain ⟨h1, h2, _⟩ := hx
                replace h1 : r (.func 14) = .func (.func 14) #[] #[] := h1
                replace h2 : r (.tmp 71) = (.pointer (some ⟨w1.heap.size, 0, none⟩)) := h2
                refine give_func #[.pointer (some ⟨w1.heap.size, 0, none⟩)] rfl h1 Try.call14 (by simp [h2]) ?_
                refine (outBytes_any (HO hR) HL9).mono ?_
                rintro e w' ⟨a9, n9, c9, rfl, hn9, ho9, he9⟩
                exact ⟨_, rfl, he9, ho9.bytes⟩
              refine GoodAll.cons ?_ ?_
              · intro r wx hR hx
                obtain ⟨h1, _⟩ := hx
                replace h1 : ((fun w u => BytesAt w u l) : Fact) wx (r (.tmp 72)) := h1
                exact give_of (exec_string byteT strT rfl wx l h1) ⟨Ext.refl _, rfl⟩
              refine GoodAll.cons ?_ ?_
              · intro r wx hR hx
                obtain ⟨h1, _⟩ := hx
                replace h1 : r (.tmp 4) = (.slice wa7 wn7 wc7) := h1
                exact give_move (.inl rfl) ⟨Ext.refl _, h1⟩
              refine GoodAll.cons ?_ ?_
              · intro r wx hR hx
                obtain ⟨h1, _⟩ := hx
                replace h1 : r (.tmp 74) = (.slice wa7 wn7 wc7) := h1
                exact give_of (exec_string byteT strT rfl wx l (by rw [h1]; exact (HW hR))) ⟨Ext.refl _, rfl⟩
              refine GoodAll.cons ?_ ?_
              · intro r wx hR hx
                obtain ⟨h1, h2, _⟩ := hx
                replace h1 : r (.tmp 73) = (.string (strOf l)) := h1
                replace h2 : r (.tmp 75) = (.string (strOf l)) := h2
                exact give_of (by simp [execOp, h1, h2, go_sem]) ⟨Ext.refl _, rfl⟩
              exact GoodAll.nil
            · intro vs w9 a9 hR hold ha9
              have hv0 : vs 0 = (.pointer (some ⟨w1.heap.size, 0, none⟩)) := hold.at 0
              have hq1 := hold.at 1
              have hv2 : vs 2 = (.string (strOf l)) := hold.at 2
              have hv3 : vs 3 = (.slice wa7 wn7 wc7) := hold.at 3
              have hv4 : vs 4 = (.string (strOf l)) := hold.at 4
              have hv5 : vs 5 = (.bool false) := hold.at 5
              simp only [putAll, Act.put, hv0, hv2, hv3, hv4, hv5, List.setIfInBounds_toArray, List.set_cons_succ, List.set_cons_zero] at ha9
              subst ha9
              clear hold hv0 hv2 hv3 hv4 hv5
              have HR9 : Hid (Ext wr w9) := (Ext.drew _).trans hR
              clear HO HW hR
              go_wp2
              go_roundg (n - (i + 1))
              case measure => omega
              case rel => exact ⟨i + 1, _, _, _, _, by omega, rfl, rfl, by simp, by rw [← HLL.out]; exact HQ.out.more HR9.out⟩
      ·
        have HPL : Hid ((puts (T.take i)).length ≤ 4000 ∧ m ≤ 3000 ∧ w1.heap.size ≤ wr.heap.size ∧ w1.heap.size < wr.heap.size) := ⟨by have h1 := puts_len T i (by have := HN.out; omega); have h2 := bsum_take T i; have h3 := HLT.out; omega, by have h1 := HP2.out; have h2 := bsum_take T (i + 1); have h3 := HLT.out; omega, HR.out.ext.size, HR.out.out.blk.lt⟩
        have HPI : Hid (puts (T.take (i + 1)) = padB (puts (T.take i))) := HP.out.trans (by unfold putT; rw [if_neg h0, if_neg h1])
        have z0 : (pk == 0) = false := beq_false_of_ne h0
        have z1 : (pk == 1) = false := beq_false_of_ne h1
        have z2 : decide (pk = 0) = false := decide_eq_false h0
        have z3 : decide (pk = 1) = false := decide_eq_false h1
        clear h0 h1
        go_wp2_with (first
          | (refine wl_load4 rfl rowT rfl rfl c0 c1 c2 c3 ?_)
          | (refine wl_alloc rfl rfl zeroT ?_; intro w3 hb3 he3 hx; clear hx)
          | (refine wl_store (D := #[.int .i64 pk, .int .i64 ps, .int .u64 (pn : Int), .slice ua m uc]) rfl rowT rfl rfl rfl hb3 rfl rfl (one_th _ _ _ _ rfl) ?_; intro w4 hb4 hk4 hx; clear hx; have d0 := hb4.cell 0; have d1 := hb4.cell 1; have d2 := hb4.cell 2; have d3 := hb4.cell 3; have d4 := (hb4.ext (Ext.alloc w4 (.cells #[] 5))).cell 3; have HE4 : Hid (Ext wr w4) := he3.of_but hk4 (fun q e => by subst e; exact Nat.le_refl _); have HB4 : Hid (Blk w4 wr.heap.size #[.int .i64 pk, .int .i64 ps, .int .u64 (pn : Int), .slice ua m uc] 31) := hb4; clear hk4 he3 hb3 hb4)
          | (go_at_call 12; refine (outPad_any (HR.out.out.ext HE4.out) (by have := HPL.out; omega) (Nat.le_trans HPL.out.2.2.1 HE4.out.size)).mono ?_; rintro e w5 ⟨⟨y5, rfl⟩, v5, ho5, hm5⟩; have H5 : Hid (PutsAt w1 w5 w1.heap.size v5 (.slice wa wn wc) (padB (puts (T.take i))) (puts (T.take i))) := (HR.out.more HE4.out).moved ho5 hm5; clear ho5 hm5)
          | (go_at_call 13; refine (refPad_any H5.out.want.bytes (by have := HPL.out; omega)).mono ?_; rintro e w6 ⟨wa7, wn7, wc7, rfl, hrn, ho6, he6⟩; clear hrn))
        have HQ : Hid (PutsAt w1 w6 w1.heap.size v5 (.slice wa7 wn7 wc7) (puts (T.take (i + 1))) (puts (T.take (i + 1)))) := by
          rw [HPI.out]
          exact H5.out.anew ho6 he6
        clear he6 ho6 H5 d0 d1 d2 d3 d4 c0 c1 c2 c3
        obtain ⟨l, hl⟩ : ∃ l, l = puts (T.take (i + 1)) := ⟨_, rfl⟩
        have HLL : Hid (l = puts (T.take (i + 1))) := hl
        rw [← hl] at HQ
        clear hl
        have HL9 : l.length ≤ 1000000 := by have h1 := puts_len T (i + 1) (by have := HN.out; omega); have h2 := bsum_take T (i + 1); have h3 := HLT.out; rw [← HLL.out] at h1; omega
        have HO : ∀ {wx : World}, Ext w6.drew wx → OutAt wx w1.heap.size w1.heap.size v5 l := fun hx => HQ.out.out.ext ((Ext.drew _).trans hx)
        have HW : ∀ {wx : World}, Ext w6.drew wx → BytesAt wx (.slice wa7 wn7 wc7) l := fun hx => (HQ.out.want.ext ((Ext.drew _).trans hx)).bytes
        refine wp_region_facts (fun t => bif Nat.ble 71 t && Nat.ble t 76 then some (t - 71) else none) 111 Ext
          [Is (.pointer (some ⟨w1.heap.size, 0, none⟩)),
           (fun w u => BytesAt w u l),
           Is (.string (strOf l)),
           Is (.slice wa7 wn7 wc7),
           Is (.string (strOf l)),
           Is (.bool false)]
          rfl (by kernel_rfl) (by kernel_rfl) rfl Ext.refl (fun _ _ _ => Ext.trans) ?_ ?_ ?_
        · exact KeepAll.is (KeepAll.cons (fun _ _ _ hr h => BytesAt.ext h hr) (KeepAll.is (KeepAll.is (KeepAll.is (KeepAll.is (KeepAll.nil))))))
        · refine GoodAll.cons ?_ ?_
          · intro r wx hR hx
            obtain ⟨h1, _⟩ := hx
            replace h1 : r (.tmp 3) = (.pointer (some ⟨w1.heap.size, 0, none⟩)) := h1
            exact give_move (.inl rfl) ⟨Ext.refl _, h1⟩
          refine GoodAll.cons ?_ ?_
          · intro r wx hR hx
            obtain ⟨h1, h2, _⟩ := hx
            replace h1 : r (.func 14) = .func (.func 14) #[] #[] := h1
            replace h2 : r (.tmp 71) = (.pointer (some ⟨w1.heap.size, 0, none⟩)) := h2
            refine give_func #[.pointer (some ⟨w1.heap.size, 0, none⟩)] rfl h1 Try.call14 (by simp [h2]) ?_
            refine (outBytes_any (HO hR) HL9).mono ?_
            rintro e w' ⟨a9, n9, c9, rfl, hn9, ho9, he9⟩
            exact ⟨_, rfl, he9, ho9.bytes⟩
          refine GoodAll.cons ?_ ?_
          · intro r wx hR hx
            obtain ⟨h1, _⟩ := hx
            replace h1 : ((fun w u => BytesAt w u l) : Fact) wx (r (.tmp 72)) := h1
            exact give_of (exec_string byteT strT rfl wx l h1) ⟨Ext.refl _, rfl⟩
          refine GoodAll.cons ?_ ?_
          · intro r wx hR hx
            obtain ⟨h1, _⟩ := hx
            replace h1 : r (.tmp 4) = (.slice wa7 wn7 wc7) := h1
            exact give_move (.inl rfl) ⟨Ext.refl _, h1⟩
          refine GoodAll.cons ?_ ?_
          · intro r wx hR hx
            obtain ⟨h1, _⟩ := hx
            replace h1 : r (.tmp 74) = (.slice wa7 wn7 wc7) := h1
            exact give_of (exec_string byteT strT rfl wx l (by rw [h1]; exact (HW hR))) ⟨Ext.refl _, rfl⟩
          refine GoodAll.cons ?_ ?_
          · intro r wx hR hx
            obtain ⟨h1, h2, _⟩ := hx
            replace h1 : r (.tmp 73) = (.string (strOf l)) := h1
            replace h2 : r (.tmp 75) = (.string (strOf l)) := h2
            exact give_of (by simp [execOp, h1, h2, go_sem]) ⟨Ext.refl _, rfl⟩
          exact GoodAll.nil
        · intro vs w9 a9 hR hold ha9
          have hv0 : vs 0 = (.pointer (some ⟨w1.heap.size, 0, none⟩)) := hold.at 0
          have hq1 := hold.at 1
          have hv2 : vs 2 = (.string (strOf l)) := hold.at 2
          have hv3 : vs 3 = (.slice wa7 wn7 wc7) := hold.at 3
          have hv4 : vs 4 = (.string (strOf l)) := hold.at 4
          have hv5 : vs 5 = (.bool false) := hold.at 5
          simp only [putAll, Act.put, hv0, hv2, hv3, hv4, hv5, List.setIfInBounds_toArray, List.set_cons_succ, List.set_cons_zero] at ha9
          subst ha9
          clear hold hv0 hv2 hv3 hv4 hv5
          have HR9 : Hid (Ext w6 w9) := (Ext.drew _).trans hR
          clear HO HW hR
          go_wp2
          go_roundg (n - (i + 1))
          case measure => omega
          case rel => exact ⟨i + 1, _, _, _, _, by omega, rfl, rfl, by simp, by rw [← HLL.out]; exact HQ.out.more HR9.out⟩
    · have hd : decide ((i : Int) < (n : Int)) = false := decide_eq_false (by omega)
      have HT : Hid (T.take i = T) := List.take_of_length_le (by rw [← HN.out]; omega)
      rw [HT.out] at HR
      obtain ⟨l, hl⟩ : ∃ l, l = puts T := ⟨_, rfl⟩
      have HLL : Hid (l.length ≤ 4000) := show _ ≤ _ by
        have h1 := puts_len T T.length (Nat.le_refl _)
        rw [List.take_length] at h1
        have h2 := HLT.out
        have h3 := HN.out
        rw [hl]; omega
      rw [← hl] at HR
      clear hl
      have HEW : Hid (Ext w wr) := HS.out.1.trans HR.out.ext
      go_wp2_with (first
        | (go_at_call 14; refine (outBytes_any HR.out.out (by have := HLL.out; omega)).mono ?_; rintro e w3 ⟨ba, bn, bc, rfl, hbn, hob, heb⟩; have HOB : Hid (bn = l.length ∧ OB w3 wr.heap.size (.slice ba bn bc) l ∧ Ext wr w3) := ⟨hbn, hob, heb⟩; clear hbn hob heb))
      have HQ : PutsAt w1 w3 w1.heap.size v1 (.slice wa wn wc) l l := HR.out.more HOB.out.2.2
      have hbn : bn ≤ 4000 := by rw [HOB.out.1]; exact HLL.out
      have HEL : Hid (Else w3 wr.heap.size w1.heap.size v1 (.slice wa wn wc) (.slice ba bn bc) l ∧ bn = l.length) := ⟨⟨HOB.out.2.1, fun k e e2 => by have := (HR.out.out.own.lt e2).2; have := (HOB.out.2.1.lt e).1; omega, fun k e e2 => by have := (HR.out.want.lt e2).2; have := (HOB.out.2.1.lt e).1; omega⟩, HOB.out.1⟩
      have HBB : Hid (w1.heap.size ≤ wr.heap.size) := HR.out.ext.size
      clear HOB
      obtain ⟨B0, hB0⟩ : ∃ B0, B0 = wr.heap.size := ⟨_, rfl⟩
      rw [← hB0] at HEL HBB
      clear hB0
      have HQ0 : Hid (PutsAt w1 w3 w1.heap.size v1 (.slice wa wn wc) l l) := HQ
      clear HQ
      go_loopg [82] bn (fun gm t wr => ∃ (k : Nat) (m1 : List Nat), k ≤ bn ∧ gm = bn - k ∧ t = .int .i64 (k : Int) ∧ Hid (m1.length = bn ∧ OB wr B0 (.slice ba bn bc) m1 ∧ PutsAt w1 wr w1.heap.size v1 (.slice wa wn wc) l l))
      case atStart => exact ⟨0, _, Nat.zero_le _, rfl, rfl, HEL.out.2.symm, HEL.out.1.own, HQ0.out⟩
      case round =>
        obtain ⟨k, m1, hk, rfl, rfl, HR2⟩ := hrel
        by_cases hlt2 : k < bn
        · have hd2 : decide ((k : Int) < (bn : Int)) = true := decide_eq_true (by omega)
          obtain ⟨q, rfl, hzz⟩ := HR2.out.2.1.some_of (by omega)
          clear hzz
          have hcq := HR2.out.2.1.cellAt k (by rw [HR2.out.1]; exact hlt2)
          obtain ⟨z, hz, hw1, hw2⟩ := plus8 _ (HR2.out.2.1.all.getD k)
          generalize m1.getD k 0 = y at *
          go_wp2_with (first
            | (refine wl_poke (z := z) (m := m1) (q := q) (j := k) rfl rfl (by first | rfl | go_simp) (by first | rfl | go_simp | simp [go_sem, hw1, hw2]) hz HR2.out.2.1 (by rw [HR2.out.1]; exact hlt2) ?_; intro w8 ho8 hk8))
          go_roundg (bn - (k + 1))
          case measure => omega
          case rel => exact ⟨k + 1, _, by omega, rfl, by simp, by rw [List.length_set]; exact HR2.out.1, ho8, HR2.out.2.2.poke hk8 (Nat.le_trans HBB.out (HR2.out.2.1.lt rfl).1) (HR2.out.2.1.ne HR2.out.2.2.out.blk (by decide) q rfl).symm (HEL.out.1.offv q rfl) (HEL.out.1.offw q rfl)⟩
        · have hd2 : decide ((k : Int) < (bn : Int)) = false := decide_eq_false (by omega)
          go_wp2_with (first
            | (go_at_call 9; refine (outNum_nil _ _ _).mono ?_; rintro e w5 ⟨⟨y5, rfl⟩, hw⟩; subst w5)
            | (go_at_call 11; refine (outPut_nil _ _).mono ?_; rintro e w6 ⟨⟨y6, rfl⟩, hw⟩; subst w6)
            | (go_at_call 12; refine (outPad_nil _).mono ?_; rintro e w7 ⟨⟨y7, rfl⟩, hw⟩; subst w7))
          obtain ⟨wz, hwz⟩ : ∃ wz, wr.alloc (.cells #[.int .u8 1] 5) = wz := ⟨_, rfl⟩
          rw [hwz]
          have HQ : Hid (PutsAt w1 wz w1.heap.size v1 (.slice wa wn wc) l l) := by rw [← hwz]; exact HR2.out.2.2.more (Ext.alloc _ _)
          have HL9 : l.length ≤ 1000000 := by have := HLL.out; omega
          have HO : ∀ {wx : World}, Ext wz.drew wx → OutAt wx w1.heap.size w1.heap.size v1 l := fun hx => HQ.out.out.ext ((Ext.drew _).trans hx)
          have HW : ∀ {wx : World}, Ext wz.drew wx → BytesAt wx (.slice wa wn wc) l := fun hx => (HQ.out.want.ext ((Ext.drew _).trans hx)).bytes
          refine wp_region_facts (fun t => bif Nat.ble 99 t && Nat.ble t 110 then some (t - 99) else bif Nat.beq t 2 then some 12 else none) 111 Ext
            [Is (.pointer (some ⟨w1.heap.size, 0, none⟩)),
             (fun w u => BytesAt w u l),
             Is (.string (strOf l)),
             Is (.slice wa wn wc),
             Is (.string (strOf l)),
             Is (.bool true),
             Is (.bool true),
             Is (.pointer none),
             Is (.slice none 0 0),
             Is (.int .i64 0),
             Is (.bool true),
             Is (.bool true),
             Is (.bool true)]
            rfl (by kernel_rfl) (by kernel_rfl) rfl Ext.refl (fun _ _ _ => Ext.trans) ?_ ?_ ?_
          · exact KeepAll.is (KeepAll.cons (fun _ _ _ hr h => BytesAt.ext h hr) (KeepAll.is (KeepAll.is (KeepAll.is (KeepAll.is (KeepAll.is (KeepAll.is (KeepAll.is (KeepAll.is (KeepAll.is (KeepAll.is (KeepAll.is (KeepAll.nil)))))))))))))
          · refine GoodAll.cons ?_ ?_
            · intro r wx hR hx
              obtain ⟨h1, _⟩ := hx
              replace h1 : r (.tmp 3) = (.pointer (some ⟨w1.heap.size, 0, none⟩)) := h1
              exact give_move (.inl rfl) ⟨Ext.refl _, h1⟩
            refine GoodAll.cons ?_ ?_
            · intro r wx hR hx
              obtain ⟨h1, h2, _⟩ := hx
              replace h1 : r (.func 14) = .func (.func 14) #[] #[] := h1
              replace h2 : r (.tmp 99) = (.pointer (some ⟨w1.heap.size, 0, none⟩)) := h2
              refine give_func #[.pointer (some ⟨w1.heap.size, 0, none⟩)] rfl h1 Try.call14 (by simp [h2]) ?_
              refine (outBytes_any (HO hR) HL9).mono ?_
              rintro e w' ⟨a9, n9, c9, rfl, hn9, ho9, he9⟩
              exact ⟨_, rfl, he9, ho9.bytes⟩
            refine GoodAll.cons ?_ ?_
            · intro r wx hR hx
              obtain ⟨h1, _⟩ := hx
              replace h1 : ((fun w u => BytesAt w u l) : Fact) wx (r (.tmp 100)) := h1
              exact give_of (exec_string byteT strT rfl wx l h1) ⟨Ext.refl _, rfl⟩
            refine GoodAll.cons ?_ ?_
            · intro r wx hR hx
              obtain ⟨h1, _⟩ := hx
              replace h1 : r (.tmp 4) = (.slice wa wn wc) := h1
              exact give_move (.inl rfl) ⟨Ext.refl _, h1⟩
            refine GoodAll.cons ?_ ?_
            · intro r wx hR hx
              obtain ⟨h1, _⟩ := hx
              replace h1 : r (.tmp 102) = (.slice wa wn wc) := h1
              exact give_of (exec_string byteT strT rfl wx l (by rw [h1]; exact (HW hR))) ⟨Ext.refl _, rfl⟩
            refine GoodAll.cons ?_ ?_
            · intro r wx hR hx
              obtain ⟨h1, h2, _⟩ := hx
              replace h1 : r (.tmp 101) = (.string (strOf l)) := h1
              replace h2 : r (.tmp 103) = (.string (strOf l)) := h2
              exact give_of (by simp [execOp, h1, h2, go_sem]) ⟨Ext.refl _, rfl⟩
            refine GoodAll.cons ?_ ?_
            · intro r wx hR hx
              obtain ⟨h1, _⟩ := hx
              replace h1 : r (.tmp 104) = (.bool true) := h1
              exact give_move (.inl rfl) ⟨Ext.refl _, h1⟩
            refine GoodAll.cons ?_ ?_
            · intro r wx hR hx
              obtain ⟨h1, _⟩ := hx
              replace h1 : r (.tmp 11) = (.pointer none) := h1
              intro gb hgb
              refine guard_in (b := gb) (want := true) hgb ?_
              exact give_move (.inl rfl) ⟨Ext.refl _, h1⟩
            refine GoodAll.cons ?_ ?_
            · intro r wx hR hx
              obtain ⟨h1, h2, _⟩ := hx
              replace h1 : r (.func 14) = .func (.func 14) #[] #[] := h1
              replace h2 : r (.tmp 106) = (.pointer none) := h2
              intro gb hgb
              refine guard_in (b := gb) (want := true) hgb ?_
              refine give_func #[.pointer none] rfl h1 Try.call14 (by simp [h2]) ?_
              refine (outBytes_nil _).mono ?_
              rintro e w' ⟨rfl, hw⟩
              subst w'
              exact ⟨_, rfl, Ext.refl _, rfl⟩
            refine GoodAll.cons ?_ ?_
            · intro r wx hR hx
              obtain ⟨h1, _⟩ := hx
              replace h1 : r (.tmp 107) = (.slice none 0 0) := h1
              intro gb hgb
              refine guard_in (b := gb) (want := true) hgb ?_
              exact give_of (by simp [execOp, h1, go_sem]) ⟨Ext.refl _, rfl⟩
            refine GoodAll.cons ?_ ?_
            · intro r wx hR hx
              obtain ⟨h1, h2, _⟩ := hx
              replace h1 : r (.tmp 108) = (.int .i64 0) := h1
              replace h2 : r (.const (.int .i64 0)) = .int .i64 0 := h2
              intro gb hgb
              refine guard_in (b := gb) (want := true) hgb ?_
              exact give_of (by simp [execOp, h1, h2, go_sem]) ⟨Ext.refl _, rfl⟩
            refine GoodAll.cons ?_ ?_
            · intro r wx hR hx
              obtain ⟨h1, h2, h3, _⟩ := hx
              replace h1 : r (.tmp 105) = (.bool true) := h1
              replace h2 : r (.tmp 109) = (.bool true) := h2
              replace h3 : r (.const (.bool false)) = .bool false := h3
              exact give_pick rfl h1 ⟨Ext.refl _, h2⟩
            refine GoodAll.cons ?_ ?_
            · intro r wx hR hx
              obtain ⟨h1, _⟩ := hx
              replace h1 : r (.tmp 110) = (.bool true) := h1
              exact give_move (.inr rfl) ⟨Ext.refl _, h1⟩
            exact GoodAll.nil
          · intro vs w9 a9 hR hold ha9
            have hv0 : vs 0 = (.pointer (some ⟨w1.heap.size, 0, none⟩)) := hold.at 0
            have hq1 := hold.at 1
            have hv2 : vs 2 = (.string (strOf l)) := hold.at 2
            have hv3 : vs 3 = (.slice wa wn wc) := hold.at 3
            have hv4 : vs 4 = (.string (strOf l)) := hold.at 4
            have hv5 : vs 5 = (.bool true) := hold.at 5
            have hv6 : vs 6 = (.bool true) := hold.at 6
            have hv7 : vs 7 = (.pointer none) := hold.at 7
            have hv8 : vs 8 = (.slice none 0 0) := hold.at 8
            have hv9 : vs 9 = (.int .i64 0) := hold.at 9
            have hv10 : vs 10 = (.bool true) := hold.at 10
            have hv11 : vs 11 = (.bool true) := hold.at 11
            have hv12 : vs 12 = (.bool true) := hold.at 12
            simp only [putAll, Act.put, hv0, hv2, hv3, hv4, hv5, hv6, hv7, hv8, hv9, hv10, hv11, hv12, List.setIfInBounds_toArray, List.set_cons_succ, List.set_cons_zero] at ha9
            subst ha9
            clear hold hv0 hv2 hv3 hv4 hv5 hv6 hv7 hv8 hv9 hv10 hv11 hv12
            have HR9 : Hid (Ext w w9) := HS.out.1.trans (HQ.out.ext.trans ((Ext.drew _).trans hR))
            clear HO HW hR
            go_wp2
            go_ret
            exact ⟨rfl, HR9.out⟩
end Tlv
end Go.Proofs.Ytmfciiccomagpaa
