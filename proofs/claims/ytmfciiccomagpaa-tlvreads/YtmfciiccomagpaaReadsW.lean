/- The law TlvReads walked: it answers true. No condition of its own. -/
import Derived.Test.YtmfciiccomagpaaReadsK
namespace Go.Proofs.Ytmfciiccomagpaa
namespace Tlv
open Go Go.RowKit
set_option linter.unusedVariables false
set_option linter.unusedSimpArgs false
set_option maxRecDepth 100000


theorem xor1 (b : Nat) (h : b < 256) : ∃ z : Nat, z < 256 ∧ bits .xor .u8 (b : Int) 1 = (z : Int) :=
  ⟨b ^^^ 1, Nat.xor_lt_two_pow (n := 8) (by omega) (by omega), Go.u8_xor_nat b 1 h (by omega)⟩
set_option maxHeartbeats 8000000 in
theorem reads_walk (u v : Value) (B : List Nat) (T : List Th) (w : World) (hu : BytesAt w u B) (hv : ThingsAt w v T) :
    Calls Try.prog 4 #[u, v] w fun e w' => e = .returned (.bool true) ∧ Ext w w' := by
  obtain ⟨hmx, a, cap, rfl, hc⟩ := id hv
  have HV : Hid (ThingsAt w (.slice a T.length cap) T) := hv
  have HC : Hid (∀ i t, T[i]? = some t → ∃ b off u, a = some ⟨b, off, none⟩ ∧ w.cell? ⟨b, off + i * 4, none⟩ = some (.int .i64 t.kind) ∧ w.cell? ⟨b, off + i * 4 + 1, none⟩ = some (.int .i64 t.size) ∧ w.cell? ⟨b, off + i * 4 + 2, none⟩ = some (.int .u64 (t.n : Int)) ∧ w.cell? ⟨b, off + i * 4 + 3, none⟩ = some u ∧ BytesAt w u t.b) := hc
  clear hc hv
  obtain ⟨n, hn⟩ : ∃ n, n = T.length := ⟨_, rfl⟩
  have HN : Hid (n = T.length) := hn
  rw [← hn] at hmx HV ⊢
  clear hn hmx
  obtain ⟨va, vc, rfl, _, _⟩ := hu.form
  rename_i z1 z2
  clear z1 z2
  have HB0 : Hid (BytesAt w (.slice va B.length vc) B) := hu
  clear hu
  obtain ⟨vn, hvn⟩ : ∃ vn, vn = B.length := ⟨_, rfl⟩
  have HVN : Hid (vn = B.length) := hvn
  rw [← hvn] at HB0 ⊢
  clear hvn
  cases hlg : longB T with
  | true =>
    go_enter Try.func4, Try.ntmps4
    go_wp2_with (first
      | (go_at_call 7; refine (alive_any _).mono ?_; rintro e w0 ⟨rfl, he0⟩)
      | (go_at_call 8; refine (long_any (HV.out.ext he0)).mono ?_; rintro e w1 ⟨he1, rfl⟩; rw [hlg]))
    go_ret
    exact ⟨rfl, he0.trans he1⟩
  | false =>
  by_cases hbl : 3000 < vn
  · have hd1 : decide ((vn : Int) > 3000) = true := decide_eq_true (by omega)
    have hd2 : decide ((3000 : Int) < (vn : Int)) = true := decide_eq_true (by omega)
    go_enter Try.func4, Try.ntmps4
    go_wp2_with (first
      | (go_at_call 7; refine (alive_any _).mono ?_; rintro e w0 ⟨rfl, he0⟩)
      | (go_at_call 8; refine (long_any (HV.out.ext he0)).mono ?_; rintro e w1 ⟨he1, rfl⟩; rw [hlg]))
    go_ret
    exact ⟨rfl, he0.trans he1⟩
  have hd1 : decide ((vn : Int) > 3000) = false := decide_eq_false (by omega)
  have hd2 : decide ((3000 : Int) < (vn : Int)) = false := decide_eq_false (by omega)
  have HBL : Hid (B.length ≤ 1000000) := show _ ≤ _ by rw [← HVN.out]; omega
  have HLT : Hid (n ≤ 41) := by rw [HN.out]; exact (longB_of hlg).1
  have hn41 : n ≤ 41 := HLT.out
  have hvn3 : vn ≤ 3000 := by omega
  have hbv1 : (Value.slice va vn vc).oneCell' = true := rfl
  clear hbl
  go_enter Try.func4, Try.ntmps4
  go_wp2_with (first
    | (go_at_call 7; refine (alive_any _).mono ?_; rintro e w0 ⟨rfl, he0⟩)
    | (go_at_call 8; refine (long_any (HV.out.ext he0)).mono ?_; rintro e w1 ⟨he1, rfl⟩; rw [hlg])
    | (at_builtin; refine wl_app (l := []) (m := B) (v := .slice (some ⟨w1.heap.size, 0, none⟩) 0 0) (u := .slice va vn vc) (base := w1.heap.size) rfl rfl rfl rfl (OB.lit0 w1 _ _ rfl (Nat.le_refl _)) (HB0.out.ext ((he0.trans he1).trans (Ext.alloc _ _))) (by have := HVN.out; simp; omega) (by simp) ?_; intro oa on oc w2 hn2 ho2 hk2 hg2; rw [List.nil_append] at ho2; have HE2 : Hid (Ext w1 w2) := (Ext.alloc _ _).of_but hk2 (fun k e => by cases e; exact Nat.le_refl _); have HO2 : Hid (OB w2 w1.heap.size (.slice oa on oc) B ∧ on = B.length) := ⟨ho2, by rw [hn2.out]; simp⟩; clear hn2 ho2 hk2 hg2)
    | (go_at_call 15; refine (read_any HO2.out.1.bytes HBL.out).mono ?_; rintro e w3 ⟨g, bv, rfl, hg3, hi3, he3⟩; have H3 : Hid (w2.heap.size ≤ g ∧ InAt w3 w2.heap.size g bv B (some 0) ∧ Ext w2 w3) := ⟨hg3, hi3, he3⟩; clear hg3 hi3 he3)
    | (refine wl_alloc rfl rfl zeroI ?_; intro w4 hb4 he4 hx; clear hx)
    | (refine wl_store (D := #[.slice va vn vc, .int .i64 0, .bool false]) rfl rowI rfl rfl rfl hb4 rfl rfl (one_in _ _ _ hbv1) ?_; intro w5 hb5 hk5 hx; clear hx))
  have HW1 : Hid (Ext w w1) := he0.trans he1
  have HB : Hid (BytesAt w1 (.slice va vn vc) B) := HB0.out.ext HW1.out
  obtain ⟨jb, hjb⟩ : ∃ jb, jb = w3.heap.size := ⟨_, rfl⟩
  have hE5 : Ext w3 w5 := he4.of_but hk5 (fun k e => by subst e; exact Nat.le_refl _)
  have HS : Hid (ReadsAt w1 w5 g jb bv (.slice va vn vc) B (some 0) (some 0)) := by
    have h12 := HE2.out.size
    have h23 := H3.out.2.2.size
    have hgl := H3.out.2.1.lt
    refine ⟨⟨((H3.out.2.1.own.base h12).ext hE5), (H3.out.2.1.ext hE5).blk⟩, ⟨0, false, by rw [hjb]; exact hb5, Nat.zero_le _, rfl⟩, (HE2.out.trans H3.out.2.2).trans hE5, Nat.le_trans h12 H3.out.1, by omega, by omega, fun k e => ?_⟩
    have := (H3.out.2.1.own.lt e).2
    omega
  have HQO : Hid (OB w5 w1.heap.size (.slice oa on oc) B ∧ on = B.length ∧ (∀ q, (Value.slice oa on oc).ownBlock = some q → g ≠ q ∧ jb ≠ q ∧ bv.ownBlock ≠ some q ∧ w1.heap.size ≤ q)) := by
    refine ⟨HO2.out.1.ext (H3.out.2.2.trans hE5), HO2.out.2, fun q e => ?_⟩
    have h1 := HO2.out.1.lt e
    have h2 := H3.out.1
    have h3 := H3.out.2.2.size
    exact ⟨by omega, by omega, fun e2 => by have := (H3.out.2.1.own.lt e2).1; omega, h1.1⟩
  rw [← hjb]
  clear hjb hE5 hb4 he4 hb5 hk5 H3 HO2 HE2 he0 he1
  have hon : on ≤ 3000 := by rw [HQO.out.2.1, ← HVN.out]; exact hvn3
  try simp only [Act.put, List.setIfInBounds_toArray, List.set_cons_succ, List.set_cons_zero]
  go_loopg [36] on (fun gm t wr => ∃ (k : Nat) (m1 : List Nat), k ≤ on ∧ gm = on - k ∧ t = .int .i64 (k : Int) ∧ Hid (m1.length = on ∧ OB wr w1.heap.size (.slice oa on oc) m1 ∧ ReadsAt w1 wr g jb bv (.slice va vn vc) B (some 0) (some 0)))
  case atStart => exact ⟨0, B, Nat.zero_le _, rfl, rfl, HQO.out.2.1.symm, HQO.out.1, HS.out⟩
  case round =>
    obtain ⟨k, m1, hk, rfl, rfl, HR2⟩ := hrel
    by_cases hlt2 : k < on
    · have hd2 : decide ((k : Int) < (on : Int)) = true := decide_eq_true (by omega)
      obtain ⟨q, rfl, hzz⟩ := HR2.out.2.1.some_of (by omega)
      clear hzz
      have hcq := HR2.out.2.1.cellAt k (by rw [HR2.out.1]; exact hlt2)
      obtain ⟨z, hz, hw1⟩ := xor1 _ (HR2.out.2.1.all.getD k)
      generalize m1.getD k 0 = y at *
      go_wp2_with (first
        | (refine wl_poke (z := z) (m := m1) (q := q) (j := k) rfl rfl (by first | rfl | go_simp) (by first | rfl | go_simp | simp [go_sem, hw1]) hz HR2.out.2.1 (by rw [HR2.out.1]; exact hlt2) ?_; intro w8 ho8 hk8))
      go_roundg (on - (k + 1))
      case measure => omega
      case rel =>
        have hq := HQO.out.2.2 q rfl
        exact ⟨k + 1, _, by omega, rfl, by simp, by rw [List.length_set]; exact HR2.out.1, ho8, HR2.out.2.2.poke hk8 hq.2.2.2 hq.1 hq.2.1 hq.2.2.1⟩
    · have hd2 : decide ((k : Int) < (on : Int)) = false := decide_eq_false (by omega)
      have HS1 : Hid (ReadsAt w1 wr g jb bv (.slice va vn vc) B (some 0) (some 0)) := HR2.out.2.2
      clear HR2 HQO HS
      go_wp2_with fail
      go_loopg [48] n (fun gm t wr => ∃ (i : Nat), i ≤ n ∧ gm = n - i ∧ t = .int .i64 (i : Int) ∧ Hid (ReadsAt w1 wr g jb bv (.slice va vn vc) B (readsS B (T.take i)) (readsS B (T.take i))))
      case atStart => exact ⟨0, Nat.zero_le _, rfl, rfl, HS1.out⟩
      case round =>
        obtain ⟨i, hi, rfl, rfl, HR⟩ := hrel
        clear HS1
        by_cases hlt : i < n
        · have hd : decide ((i : Int) < (n : Int)) = true := decide_eq_true (by omega)
          obtain ⟨p, hp⟩ : ∃ p, T[i]? = some p := ⟨T[i]'(by rw [← HN.out]; exact hlt), by simp⟩
          have HP : Hid (readsS B (T.take (i + 1)) = readT B (readsS B (T.take i)) p) := show _ = _ by rw [take_th hp, readsS_snoc]
          obtain ⟨b, off, u, rfl, hc0, hc1, hc2, hc3, hbu⟩ := HC.out i p hp
          clear hp
          have HEW : Hid (Ext w wr) := HW1.out.trans HR.out.ext
          have c0 := HEW.out.cell hc0
          have c1 := HEW.out.cell hc1
          have c2 := HEW.out.cell hc2
          have c3 := HEW.out.cell hc3
          clear hc0 hc1 hc2 hc3
          obtain ⟨pk, ps, pn, pb⟩ := p
          obtain ⟨ua, uc, rfl, hum, _⟩ := hbu.form
          rename_i zz
          clear zz hum hbu
          simp only at c0 c1 c2 c3
          obtain ⟨m, hm⟩ : ∃ m, m = pb.length := ⟨_, rfl⟩
          rw [← hm] at c3
          clear hm
          generalize readsS B (T.take i) = s at *
          by_cases h0 : pk = 0
          · subst h0
            have HPI : Hid (readsS B (T.take (i + 1)) = (numS B s ps).1) := HP.out.trans (by unfold readT; rw [if_pos rfl])
            have HNX : Hid (∀ (x : Value) (w' : World), RefV x (.slice va vn vc) B s → Ext w1 w' → Calls Try.prog 16 #[x, .int .i64 ps] w' (NumIs w' (.slice va vn vc) B (numS B s ps))) := fun x w' hx he => refReadNum_any hx (HB.out.ext he) HBL.out ps
            have HNUM0 : Hid (∀ wx, InAt wx w1.heap.size g bv B s → Calls Try.prog 17 #[ptr g, .int .i64 ps] wx fun e w' => e = .returned (.int .u64 ((numS B s ps).2 : Nat)) ∧ InAt w' w1.heap.size g bv B (numS B s ps).1 ∧ KeepBut (· = g) wx w') := fun wx hi => inNum_any hi HBL.out ps
            clear HP
            obtain ⟨r1, r2, hr⟩ : ∃ r1 r2, numS B s ps = (r1, r2) := ⟨_, _, rfl⟩
            rw [hr] at HPI HNX HNUM0
            clear hr
            go_wp2_with (first
              | (refine wl_load4 rfl rowT rfl rfl c0 c1 c2 c3 ?_)
              | (refine wl_alloc rfl rfl zeroT ?_; intro w3 hb3 he3 hx; clear hx)
              | (refine wl_store (D := #[.int .i64 0, .int .i64 ps, .int .u64 (pn : Int), .slice ua m uc]) rfl rowT rfl rfl rfl hb3 rfl rfl (one_th _ _ _ _ rfl) ?_; intro w4 hb4 hk4 hx; clear hx; have d0 := hb4.cell 0; have d1 := hb4.cell 1; have HE4 : Hid (Ext wr w4) := he3.of_but hk4 (fun q e => by subst e; exact Nat.le_refl _); have HB4 : Hid (Blk w4 wr.heap.size #[.int .i64 0, .int .i64 ps, .int .u64 (pn : Int), .slice ua m uc] 31) := hb4; clear hk4 he3 hb3 hb4; obtain ⟨a0, b0, hjb, hrv⟩ := (HR.out.more HE4.out).ref; have HJ4 : Hid (Blk w4 jb #[.slice va vn vc, .int .i64 (a0 : Int), .bool b0] 40 ∧ RefV (.agg #[.slice va vn vc, .int .i64 (a0 : Int), .bool b0]) (.slice va vn vc) B s) := ⟨hjb, hrv⟩; clear hjb hrv)
              | (refine wl_load rfl rowI rfl rfl HJ4.out.1 rfl ?_)
              | (go_at_call 16; refine (HNX.out _ _ HJ4.out.2 (HR.out.ext.trans HE4.out)).mono ?_; rintro e w5 ⟨v5, rfl, ⟨a2, b2, rfl, ha2, hs2⟩, he5⟩; have HA2 : Hid (a2 ≤ B.length ∧ r1 = (if b2 = true then none else some a2)) := ⟨ha2, hs2⟩; clear ha2 hs2)
              | (refine wl_alloc rfl rfl zeroI ?_; intro w6 hb6 he6 hx; clear hx)
              | (refine wl_store (D := #[.slice va vn vc, .int .i64 (a2 : Int), .bool b2]) rfl rowI rfl rfl rfl hb6 rfl rfl (one_in _ _ _ hbv1) ?_; intro w7 hb7 hk7 hx; clear hx; have H7 : Hid (ReadsAt w1 w7 g jb bv (.slice va vn vc) B s s ∧ Blk w7 w5.heap.size #[.slice va vn vc, .int .i64 (a2 : Int), .bool b2] 40 ∧ Blk w7 wr.heap.size #[.int .i64 0, .int .i64 ps, .int .u64 (pn : Int), .slice ua m uc] 31 ∧ g < wr.heap.size ∧ jb < wr.heap.size ∧ wr.heap.size < w5.heap.size) := ⟨(HR.out.more HE4.out).more (he5.trans (he6.of_but hk7 (fun q e => by subst e; exact Nat.le_refl _))), hb7, ((HB4.out.ext he5).ext he6).but hk7 (show ¬ _ = _ by have := HB4.out.lt; have := he5.size; omega), HR.out.inn.lt, (by obtain ⟨_, _, hb0, _⟩ := HR.out.ref; exact hb0.lt), Nat.lt_of_lt_of_le HB4.out.lt he5.size⟩; clear hb6 he6 hb7 hk7 he5))
            have HNUM := HNUM0.out
            have HNB : ∀ {wx : World}, KB g jb w7.drew wx → Blk wx w5.heap.size #[.slice va vn vc, .int .i64 (a2 : Int), .bool b2] 40 := fun hx => H7.out.2.1.but (KB.drew hx) (by have := H7.out.2.2.2; omega)
            have HTB : ∀ {wx : World}, KB g jb w7.drew wx → wx.cell? ⟨wr.heap.size, 1, none⟩ = some (.int .i64 ps) := fun hx => (H7.out.2.2.1.but (KB.drew hx) (by have := H7.out.2.2.2; omega)).cell 1
            have hs0 : RdS w1 g jb bv (.slice va vn vc) B s r1 0 w7.drew := H7.out.1.more (Ext.drew _)
            have ha2 := HA2.out.1
            have hs2 := HA2.out.2
            refine wp_region_phased (fun t => bif Nat.ble 67 t && Nat.ble t 73 then some (t - 67) else bif Nat.beq t 11 then some 8 else none) 141 [4, 7] [2, 2, 2, 2, 2, 2, 2, 2, 2] (KB g jb) (RdS w1 g jb bv (.slice va vn vc) B s r1)
              [Is (.agg #[.slice va vn vc, .int .i64 (a2 : Int), .bool b2]),
               Is (.pointer (some ⟨g, 0, none⟩)),
               Is (.pointer (some ⟨wr.heap.size, 1, none⟩)),
               Is (.int .i64 ps),
               Is (.int .u64 (r2 : Int)),
               Is (.int .u64 (r2 : Int)),
               Is (.bool true),
               (fun _ _ => True),
               Is (.bool true)]
              rfl rfl (by kernel_rfl) rfl (by kernel_rfl) (by kernel_rfl) (by kernel_rfl) KB.refl (fun _ _ _ => KB.trans) hs0 ?_ ?_ ?_
            · exact KeepAll.is (KeepAll.is (KeepAll.is (KeepAll.is (KeepAll.is (KeepAll.is (KeepAll.is (KeepAll.cons (fun _ _ _ _ _ => trivial) (KeepAll.is (KeepAll.nil)))))))))
            · refine GoodHAll.reads 2 rfl rfl (fun k hk => ?_) ?_
              · intro r wx hR hS hx
                obtain ⟨h1, _⟩ := hx
                replace h1 : r (.tmp 12) = (.pointer (some ⟨w5.heap.size, 0, none⟩)) := h1
                exact give_of (exec_loadW rowI rfl h1 (HNB hR) rfl) ⟨KB.refl _, hS, rfl⟩
              refine GoodHAll.reads 2 rfl rfl (fun k hk => ?_) ?_
              · intro r wx hR hS hx
                obtain ⟨h1, _⟩ := hx
                replace h1 : r (.tmp 6) = (.pointer (some ⟨g, 0, none⟩)) := h1
                exact give_move (.inl rfl) ⟨KB.refl _, hS, h1⟩
              refine GoodHAll.reads 2 rfl rfl (fun k hk => ?_) ?_
              · intro r wx hR hS hx
                obtain ⟨h1, _⟩ := hx
                replace h1 : r (.tmp 10) = (.pointer (some ⟨wr.heap.size, 0, none⟩)) := h1
                exact give_of (by simp [execOp, h1, go_sem]) ⟨KB.refl _, hS, rfl⟩
              refine GoodHAll.reads 2 rfl rfl (fun k hk => ?_) ?_
              · intro r wx hR hS hx
                obtain ⟨h1, _⟩ := hx
                replace h1 : r (.tmp 69) = (.pointer (some ⟨wr.heap.size, 1, none⟩)) := h1
                exact give_of (by simp [execOp, h1, go_sem, HTB hR]) ⟨KB.refl _, hS, rfl⟩
              refine GoodHAll.writes 0 rfl rfl ?_ ?_
              · intro r wx hR hS hx
                obtain ⟨h1, h2, h3, _⟩ := hx
                replace h1 : r (.func 17) = .func (.func 17) #[] #[] := h1
                replace h2 : r (.tmp 68) = (.pointer (some ⟨g, 0, none⟩)) := h2
                replace h3 : r (.tmp 70) = (.int .i64 ps) := h3
                refine give_func #[.pointer (some ⟨g, 0, none⟩), .int .i64 ps] rfl h1 Try.call17 (by simp [h2, h3]) ?_
                refine (HNUM _ (ReadsAt.inn hS)).mono ?_
                rintro e w' ⟨rfl, hi, hk⟩
                exact ⟨_, rfl, KB.left hk, ReadsAt.moved hS hi hk, rfl⟩
              refine GoodHAll.reads 2 rfl rfl (fun k hk => ?_) ?_
              · intro r wx hR hS hx
                obtain ⟨h1, _⟩ := hx
                replace h1 : r (.tmp 13) = (.int .u64 (r2 : Int)) := h1
                exact give_move (.inl rfl) ⟨KB.refl _, hS, h1⟩
              refine GoodHAll.reads 2 rfl rfl (fun k hk => ?_) ?_
              · intro r wx hR hS hx
                obtain ⟨h1, h2, _⟩ := hx
                replace h1 : r (.tmp 71) = (.int .u64 (r2 : Int)) := h1
                replace h2 : r (.tmp 72) = (.int .u64 (r2 : Int)) := h2
                exact give_of (by simp [execOp, h1, h2, go_sem]) ⟨KB.refl _, hS, rfl⟩
              refine GoodHAll.writes 1 rfl rfl ?_ ?_
              · intro r wx hR hS hx
                obtain ⟨h1, h2, _⟩ := hx
                replace h1 : r (.tmp 7) = (.pointer (some ⟨jb, 0, none⟩)) := h1
                replace h2 : r (.tmp 67) = (.agg #[.slice va vn vc, .int .i64 (a2 : Int), .bool b2]) := h2
                obtain ⟨a0, b0, hb0, _⟩ := ReadsAt.ref hS
                exact give_skip (exec_store (off := 0) rowI rfl h1 h2 hb0 rfl (by simp) (one_in _ _ _ hbv1)) ⟨KB.right (KeepBut.row _ _ _), by rw [putIn_all _ _ (by simp)]; exact ReadsAt.boxed hS (hb0.row _) (KeepBut.row _ _ _) ha2 hs2, trivial⟩
              refine GoodHAll.reads 2 rfl rfl (fun k hk => ?_) ?_
              · intro r wx hR hS hx
                obtain ⟨h1, _⟩ := hx
                replace h1 : r (.tmp 73) = (.bool true) := h1
                exact give_move (.inr rfl) ⟨KB.refl _, hS, h1⟩
              exact GoodHAll.nil
            · intro vs w9 a9 hR hS hold ha9
              have hv0 : vs 0 = (.agg #[.slice va vn vc, .int .i64 (a2 : Int), .bool b2]) := hold.at 0
              have hv1 : vs 1 = (.pointer (some ⟨g, 0, none⟩)) := hold.at 1
              have hv2 : vs 2 = (.pointer (some ⟨wr.heap.size, 1, none⟩)) := hold.at 2
              have hv3 : vs 3 = (.int .i64 ps) := hold.at 3
              have hv4 : vs 4 = (.int .u64 (r2 : Int)) := hold.at 4
              have hv5 : vs 5 = (.int .u64 (r2 : Int)) := hold.at 5
              have hv6 : vs 6 = (.bool true) := hold.at 6
              have hv8 : vs 8 = (.bool true) := hold.at 8
              simp only [putAll, Act.put, hv0, hv1, hv2, hv3, hv4, hv5, hv6, hv8, List.setIfInBounds_toArray, List.set_cons_succ, List.set_cons_zero] at ha9
              subst ha9
              clear hold hv0 hv1 hv2 hv3 hv4 hv5 hv6 hv8
              have HQ : Hid (ReadsAt w1 w9 g jb bv (.slice va vn vc) B (readsS B (T.take (i + 1))) (readsS B (T.take (i + 1)))) := by rw [HPI.out]; exact hS
              clear hs0 HNB HTB HNUM ha2 hs2 hR hS c0 c1 c2 c3 d0 d1
              go_wp2_with fail
              obtain ⟨s2, hs2⟩ : ∃ s2, s2 = readsS B (T.take (i + 1)) := ⟨_, rfl⟩
              have HS2 : Hid (s2 = readsS B (T.take (i + 1))) := hs2
              rw [← hs2] at HQ
              clear hs2
              obtain ⟨a0, b0, hjb, hrv⟩ := HQ.out.ref
              obtain ⟨L, hL⟩ : ∃ L, leftS B s2 = L := ⟨_, rfl⟩
              obtain ⟨E, hE⟩ : ∃ E, endS B s2 = E := ⟨_, rfl⟩
              have HJB : ∀ {wx : World}, Ext w9.drew wx → Blk wx jb #[.slice va vn vc, .int .i64 (a0 : Int), .bool b0] 40 := fun hx => hjb.ext ((Ext.drew _).trans hx)
              have HLEFT : ∀ (wx : World), Ext w9.drew wx → Calls Try.prog 22 #[.pointer (some ⟨g, 0, none⟩)] wx fun e w' => e = .returned (.int .i64 (L : Nat)) ∧ Ext wx w' := fun wx hx => by rw [← hL]; exact left_any (HQ.out.inn.ext ((Ext.drew _).trans hx)) HBL.out
              have HEND : ∀ (wx : World), Ext w9.drew wx → Calls Try.prog 24 #[.pointer (some ⟨g, 0, none⟩)] wx fun e w' => e = .returned (endV E) ∧ Ext wx w' := fun wx hx => by rw [← hE]; exact end_any (HQ.out.inn.ext ((Ext.drew _).trans hx)) HBL.out
              have HRL : ∀ (wx : World), Ext w9.drew wx → Calls Try.prog 23 #[.agg #[.slice va vn vc, .int .i64 (a0 : Int), .bool b0]] wx fun e w' => e = .returned (.int .i64 (L : Nat)) ∧ Ext wx w' := fun wx hx => by rw [← hL]; exact refLeft_any hrv (HB.out.ext (HQ.out.ext.trans ((Ext.drew _).trans hx))) HBL.out
              have HRE : ∀ (wx : World), Ext w9.drew wx → Calls Try.prog 25 #[.agg #[.slice va vn vc, .int .i64 (a0 : Int), .bool b0]] wx fun e w' => e = .returned (.bool E) ∧ Ext wx w' := fun wx hx => by rw [← hE]; exact refEnd_any hrv (HB.out.ext (HQ.out.ext.trans ((Ext.drew _).trans hx))) HBL.out
              clear hL hE hrv hjb
              refine wp_region_facts (fun t => bif Nat.ble 92 t && Nat.ble t 108 then some (t - 92) else none) 141 Ext
                [Is (.bool true),
                 Is (.bool false),
                 Is (.bool false),
                 Is (.pointer (some ⟨g, 0, none⟩)),
                 Is (.int .i64 (L : Int)),
                 Is (.agg #[.slice va vn vc, .int .i64 (a0 : Int), .bool b0]),
                 Is (.int .i64 (L : Int)),
                 Is (.bool false),
                 Is (.bool false),
                 Is (.bool false),
                 Is (.pointer (some ⟨g, 0, none⟩)),
                 Is (endV E),
                 Is (.bool E),
                 Is (.agg #[.slice va vn vc, .int .i64 (a0 : Int), .bool b0]),
                 Is (.bool E),
                 Is (.bool false),
                 Is (.bool false)]
                rfl (by kernel_rfl) (by kernel_rfl) rfl Ext.refl (fun _ _ _ => Ext.trans) ?_ ?_ ?_
              · exact KeepAll.is (KeepAll.is (KeepAll.is (KeepAll.is (KeepAll.is (KeepAll.is (KeepAll.is (KeepAll.is (KeepAll.is (KeepAll.is (KeepAll.is (KeepAll.is (KeepAll.is (KeepAll.is (KeepAll.is (KeepAll.is (KeepAll.is (KeepAll.nil)))))))))))))))))
              · refine GoodAll.cons ?_ ?_
                · intro r wx hR hx
                  obtain ⟨h1, _⟩ := hx
                  replace h1 : r (.tmp 11) = (.bool true) := h1
                  exact give_move (.inl rfl) ⟨Ext.refl _, h1⟩
                refine GoodAll.cons ?_ ?_
                · intro r wx hR hx
                  obtain ⟨h1, _⟩ := hx
                  replace h1 : r (.tmp 92) = (.bool true) := h1
                  exact give_of (by simp [execOp, h1, go_sem]) ⟨Ext.refl _, rfl⟩
                refine GoodAll.cons ?_ ?_
                · intro r wx hR hx
                  obtain ⟨h1, _⟩ := hx
                  replace h1 : r (.tmp 93) = (.bool false) := h1
                  exact give_move (.inl rfl) ⟨Ext.refl _, h1⟩
                refine GoodAll.cons ?_ ?_
                · intro r wx hR hx
                  obtain ⟨h1, _⟩ := hx
                  replace h1 : r (.tmp 6) = (.pointer (some ⟨g, 0, none⟩)) := h1
                  intro gb hgb
                  refine guard_in (b := gb) (want := false) hgb ?_
                  exact give_move (.inl rfl) ⟨Ext.refl _, h1⟩
                refine GoodAll.cons ?_ ?_
                · intro r wx hR hx
                  obtain ⟨h1, h2, _⟩ := hx
                  replace h1 : r (.func 22) = .func (.func 22) #[] #[] := h1
                  replace h2 : r (.tmp 95) = (.pointer (some ⟨g, 0, none⟩)) := h2
                  intro gb hgb
                  refine guard_in (b := gb) (want := false) hgb ?_
                  refine give_func #[.pointer (some ⟨g, 0, none⟩)] rfl h1 Try.call22 (by simp [h2]) ?_
                  refine (HLEFT _ hR).mono ?_
                  rintro e w' ⟨rfl, he9⟩
                  exact ⟨_, rfl, he9, rfl⟩
                refine GoodAll.cons ?_ ?_
                · intro r wx hR hx
                  obtain ⟨h1, _⟩ := hx
                  replace h1 : r (.tmp 7) = (.pointer (some ⟨jb, 0, none⟩)) := h1
                  intro gb hgb
                  refine guard_in (b := gb) (want := false) hgb ?_
                  exact give_of (exec_loadW rowI rfl h1 (HJB hR) rfl) ⟨Ext.refl _, rfl⟩
                refine GoodAll.cons ?_ ?_
                · intro r wx hR hx
                  obtain ⟨h1, h2, _⟩ := hx
                  replace h1 : r (.func 23) = .func (.func 23) #[] #[] := h1
                  replace h2 : r (.tmp 97) = (.agg #[.slice va vn vc, .int .i64 (a0 : Int), .bool b0]) := h2
                  intro gb hgb
                  refine guard_in (b := gb) (want := false) hgb ?_
                  refine give_func #[.agg #[.slice va vn vc, .int .i64 (a0 : Int), .bool b0]] rfl h1 Try.call23 (by simp [h2]) ?_
                  refine (HRL _ hR).mono ?_
                  rintro e w' ⟨rfl, he9⟩
                  exact ⟨_, rfl, he9, rfl⟩
                refine GoodAll.cons ?_ ?_
                · intro r wx hR hx
                  obtain ⟨h1, h2, _⟩ := hx
                  replace h1 : r (.tmp 96) = (.int .i64 (L : Int)) := h1
                  replace h2 : r (.tmp 98) = (.int .i64 (L : Int)) := h2
                  intro gb hgb
                  refine guard_in (b := gb) (want := false) hgb ?_
                  exact give_of (by simp [execOp, h1, h2, go_sem]) ⟨Ext.refl _, rfl⟩
                refine GoodAll.cons ?_ ?_
                · intro r wx hR hx
                  obtain ⟨h1, h2, h3, _⟩ := hx
                  replace h1 : r (.tmp 94) = (.bool false) := h1
                  replace h2 : r (.const (.bool true)) = .bool true := h2
                  replace h3 : r (.tmp 99) = (.bool false) := h3
                  exact give_pickF rfl h1 ⟨Ext.refl _, h3⟩
                refine GoodAll.cons ?_ ?_
                · intro r wx hR hx
                  obtain ⟨h1, _⟩ := hx
                  replace h1 : r (.tmp 100) = (.bool false) := h1
                  exact give_move (.inl rfl) ⟨Ext.refl _, h1⟩
                refine GoodAll.cons ?_ ?_
                · intro r wx hR hx
                  obtain ⟨h1, _⟩ := hx
                  replace h1 : r (.tmp 6) = (.pointer (some ⟨g, 0, none⟩)) := h1
                  intro gb hgb
                  refine guard_in (b := gb) (want := false) hgb ?_
                  exact give_move (.inl rfl) ⟨Ext.refl _, h1⟩
                refine GoodAll.cons ?_ ?_
                · intro r wx hR hx
                  obtain ⟨h1, h2, _⟩ := hx
                  replace h1 : r (.func 24) = .func (.func 24) #[] #[] := h1
                  replace h2 : r (.tmp 102) = (.pointer (some ⟨g, 0, none⟩)) := h2
                  intro gb hgb
                  refine guard_in (b := gb) (want := false) hgb ?_
                  refine give_func #[.pointer (some ⟨g, 0, none⟩)] rfl h1 Try.call24 (by simp [h2]) ?_
                  refine (HEND _ hR).mono ?_
                  rintro e w' ⟨rfl, he9⟩
                  exact ⟨_, rfl, he9, rfl⟩
                refine GoodAll.cons ?_ ?_
                · intro r wx hR hx
                  obtain ⟨h1, h2, _⟩ := hx
                  replace h1 : r (.tmp 103) = (endV E) := h1
                  replace h2 : r (.const (.nilIface)) = .nilIface := h2
                  intro gb hgb
                  refine guard_in (b := gb) (want := false) hgb ?_
                  cases E <;> exact give_of (by simp [execOp, h1, h2, endV, errF, go_sem]) ⟨Ext.refl _, rfl⟩
                refine GoodAll.cons ?_ ?_
                · intro r wx hR hx
                  obtain ⟨h1, _⟩ := hx
                  replace h1 : r (.tmp 7) = (.pointer (some ⟨jb, 0, none⟩)) := h1
                  intro gb hgb
                  refine guard_in (b := gb) (want := false) hgb ?_
                  exact give_of (exec_loadW rowI rfl h1 (HJB hR) rfl) ⟨Ext.refl _, rfl⟩
                refine GoodAll.cons ?_ ?_
                · intro r wx hR hx
                  obtain ⟨h1, h2, _⟩ := hx
                  replace h1 : r (.func 25) = .func (.func 25) #[] #[] := h1
                  replace h2 : r (.tmp 105) = (.agg #[.slice va vn vc, .int .i64 (a0 : Int), .bool b0]) := h2
                  intro gb hgb
                  refine guard_in (b := gb) (want := false) hgb ?_
                  refine give_func #[.agg #[.slice va vn vc, .int .i64 (a0 : Int), .bool b0]] rfl h1 Try.call25 (by simp [h2]) ?_
                  refine (HRE _ hR).mono ?_
                  rintro e w' ⟨rfl, he9⟩
                  exact ⟨_, rfl, he9, rfl⟩
                refine GoodAll.cons ?_ ?_
                · intro r wx hR hx
                  obtain ⟨h1, h2, _⟩ := hx
                  replace h1 : r (.tmp 104) = (.bool E) := h1
                  replace h2 : r (.tmp 106) = (.bool E) := h2
                  intro gb hgb
                  refine guard_in (b := gb) (want := false) hgb ?_
                  cases E <;> exact give_of (by simp [execOp, h1, h2, go_sem]) ⟨Ext.refl _, rfl⟩
                refine GoodAll.cons ?_ ?_
                · intro r wx hR hx
                  obtain ⟨h1, h2, h3, _⟩ := hx
                  replace h1 : r (.tmp 101) = (.bool false) := h1
                  replace h2 : r (.const (.bool true)) = .bool true := h2
                  replace h3 : r (.tmp 107) = (.bool false) := h3
                  exact give_pickF rfl h1 ⟨Ext.refl _, h3⟩
                exact GoodAll.nil
              · intro vs w10 a9 hR hold ha9
                have hv0 : vs 0 = (.bool true) := hold.at 0
                have hv1 : vs 1 = (.bool false) := hold.at 1
                have hv2 : vs 2 = (.bool false) := hold.at 2
                have hv3 : vs 3 = (.pointer (some ⟨g, 0, none⟩)) := hold.at 3
                have hv4 : vs 4 = (.int .i64 (L : Int)) := hold.at 4
                have hv5 : vs 5 = (.agg #[.slice va vn vc, .int .i64 (a0 : Int), .bool b0]) := hold.at 5
                have hv6 : vs 6 = (.int .i64 (L : Int)) := hold.at 6
                have hv7 : vs 7 = (.bool false) := hold.at 7
                have hv8 : vs 8 = (.bool false) := hold.at 8
                have hv9 : vs 9 = (.bool false) := hold.at 9
                have hv10 : vs 10 = (.pointer (some ⟨g, 0, none⟩)) := hold.at 10
                have hv11 : vs 11 = (endV E) := hold.at 11
                have hv12 : vs 12 = (.bool E) := hold.at 12
                have hv13 : vs 13 = (.agg #[.slice va vn vc, .int .i64 (a0 : Int), .bool b0]) := hold.at 13
                have hv14 : vs 14 = (.bool E) := hold.at 14
                have hv15 : vs 15 = (.bool false) := hold.at 15
                have hv16 : vs 16 = (.bool false) := hold.at 16
                simp only [putAll, Act.put, hv0, hv1, hv2, hv3, hv4, hv5, hv6, hv7, hv8, hv9, hv10, hv11, hv12, hv13, hv14, hv15, hv16, List.setIfInBounds_toArray, List.set_cons_succ, List.set_cons_zero] at ha9
                subst ha9
                clear hold hv0 hv1 hv2 hv3 hv4 hv5 hv6 hv7 hv8 hv9 hv10 hv11 hv12 hv13 hv14 hv15 hv16
                have HR9 : Hid (Ext w9 w10) := (Ext.drew _).trans hR
                clear HJB HLEFT HEND HRL HRE hR
                go_wp2
                go_roundg (n - (i + 1))
                case measure => omega
                case rel => exact ⟨i + 1, by omega, rfl, by simp, by rw [← HS2.out]; exact HQ.out.more HR9.out⟩
          by_cases h1 : pk = 1
          · subst h1
            clear h0
            have HPI : Hid (readsS B (T.take (i + 1)) = (takeS B s ps).1) := HP.out.trans (by unfold readT; rw [if_neg (show ¬ ((1 : Int) = 0) by decide), if_pos rfl])
            have HNX : Hid (∀ (x : Value) (w' : World), RefV x (.slice va vn vc) B s → Ext w1 w' → Calls Try.prog 18 #[x, .int .i64 ps] w' (TakeIs w' (.slice va vn vc) B (takeS B s ps))) := fun x w' hx he => refTake_any hx (HB.out.ext he) HBL.out ps
            have HTAKE0 : Hid (∀ wx, InAt wx w1.heap.size g bv B s → Calls Try.prog 19 #[ptr g, .int .i64 ps] wx fun e w' => ∃ a m c, e = .returned (.slice a m c) ∧ m = (takeS B s ps).2.length ∧ OB w' wx.heap.size (.slice a m c) (takeS B s ps).2 ∧ InAt w' w1.heap.size g bv B (takeS B s ps).1 ∧ KeepBut (· = g) wx w') := fun wx hi => inTake_any hi HBL.out ps
            clear HP
            obtain ⟨r1, l, hr⟩ : ∃ r1 r2, takeS B s ps = (r1, r2) := ⟨_, _, rfl⟩
            rw [hr] at HPI HNX HTAKE0
            clear hr
            go_wp2_with (first
              | (refine wl_load4 rfl rowT rfl rfl c0 c1 c2 c3 ?_)
              | (refine wl_alloc rfl rfl zeroT ?_; intro w3 hb3 he3 hx; clear hx)
              | (refine wl_store (D := #[.int .i64 1, .int .i64 ps, .int .u64 (pn : Int), .slice ua m uc]) rfl rowT rfl rfl rfl hb3 rfl rfl (one_th _ _ _ _ rfl) ?_; intro w4 hb4 hk4 hx; clear hx; have d0 := hb4.cell 0; have d1 := hb4.cell 1; have HE4 : Hid (Ext wr w4) := he3.of_but hk4 (fun q e => by subst e; exact Nat.le_refl _); have HB4 : Hid (Blk w4 wr.heap.size #[.int .i64 1, .int .i64 ps, .int .u64 (pn : Int), .slice ua m uc] 31) := hb4; clear hk4 he3 hb3 hb4; obtain ⟨a0, b0, hjb, hrv⟩ := (HR.out.more HE4.out).ref; have HJ4 : Hid (Blk w4 jb #[.slice va vn vc, .int .i64 (a0 : Int), .bool b0] 40 ∧ RefV (.agg #[.slice va vn vc, .int .i64 (a0 : Int), .bool b0]) (.slice va vn vc) B s) := ⟨hjb, hrv⟩; clear hjb hrv)
              | (refine wl_load rfl rowI rfl rfl HJ4.out.1 rfl ?_)
              | (go_at_call 18; refine (HNX.out _ _ HJ4.out.2 (HR.out.ext.trans HE4.out)).mono ?_; rintro e w5 ⟨v5, ra, rn, rc, rfl, ⟨a2, b2, rfl, ha2, hs2⟩, hrn, hor, he5⟩; have HA2 : Hid (a2 ≤ B.length ∧ r1 = (if b2 = true then none else some a2)) := ⟨ha2, hs2⟩; have HOR : Hid (OB w5 w4.heap.size (.slice ra rn rc) l) := hor; have HE5 : Hid (Ext w4 w5) := he5; clear ha2 hs2 hrn hor)
              | (refine wl_alloc rfl rfl zeroI ?_; intro w6 hb6 he6 hx; clear hx)
              | (refine wl_store (D := #[.slice va vn vc, .int .i64 (a2 : Int), .bool b2]) rfl rowI rfl rfl rfl hb6 rfl rfl (one_in _ _ _ hbv1) ?_; intro w7 hb7 hk7 hx; clear hx; have H7 : Hid (ReadsAt w1 w7 g jb bv (.slice va vn vc) B s s ∧ Blk w7 w5.heap.size #[.slice va vn vc, .int .i64 (a2 : Int), .bool b2] 40 ∧ Blk w7 wr.heap.size #[.int .i64 1, .int .i64 ps, .int .u64 (pn : Int), .slice ua m uc] 31 ∧ g < wr.heap.size ∧ jb < wr.heap.size ∧ wr.heap.size < w5.heap.size) := ⟨(HR.out.more HE4.out).more (he5.trans (he6.of_but hk7 (fun q e => by subst e; exact Nat.le_refl _))), hb7, ((HB4.out.ext he5).ext he6).but hk7 (show ¬ _ = _ by have := HB4.out.lt; have := he5.size; omega), HR.out.inn.lt, (by obtain ⟨_, _, hb0, _⟩ := HR.out.ref; exact hb0.lt), Nat.lt_of_lt_of_le HB4.out.lt he5.size⟩; have HE7 : Hid (Ext w5 w7) := he6.of_but hk7 (fun q e => by subst e; exact Nat.le_refl _); clear hb6 he6 hb7 hk7 he5))
            have HTAKE := HTAKE0.out
            have HNB : ∀ {wx : World}, KB g jb w7.drew wx → Blk wx w5.heap.size #[.slice va vn vc, .int .i64 (a2 : Int), .bool b2] 40 := fun hx => H7.out.2.1.but (KB.drew hx) (by have := H7.out.2.2.2; omega)
            have HTB : ∀ {wx : World}, KB g jb w7.drew wx → wx.cell? ⟨wr.heap.size, 1, none⟩ = some (.int .i64 ps) := fun hx => (H7.out.2.2.1.but (KB.drew hx) (by have := H7.out.2.2.2; omega)).cell 1
            have hs0 : RdS w1 g jb bv (.slice va vn vc) B s r1 0 w7.drew := H7.out.1.more (Ext.drew _)
            have ha2 := HA2.out.1
            have hs2 := HA2.out.2
            have HW : ∀ {wx : World}, KB g jb w7.drew wx → BytesAt wx (.slice ra rn rc) l := fun hx => (BF.keep (BF.of (HOR.out.ext HE7.out) (by have := H7.out.2.2.2; have := HE4.out.size; omega) (by have := H7.out.2.2.2; have := HE4.out.size; omega)) (KB.drew hx)).1
            refine wp_region_phased (fun t => bif Nat.ble 83 t && Nat.ble t 91 then some (t - 83) else bif Nat.beq t 11 then some 10 else none) 141 [4, 9] [2, 2, 2, 2, 2, 2, 2, 2, 2, 2, 2] (KB g jb) (RdS w1 g jb bv (.slice va vn vc) B s r1)
              [Is (.agg #[.slice va vn vc, .int .i64 (a2 : Int), .bool b2]),
               Is (.pointer (some ⟨g, 0, none⟩)),
               Is (.pointer (some ⟨wr.heap.size, 1, none⟩)),
               Is (.int .i64 ps),
               (BF g jb l),
               Is (.string (strOf l)),
               Is (.slice ra rn rc),
               Is (.string (strOf l)),
               Is (.bool true),
               (fun _ _ => True),
               Is (.bool true)]
              rfl rfl (by kernel_rfl) rfl (by kernel_rfl) (by kernel_rfl) (by kernel_rfl) KB.refl (fun _ _ _ => KB.trans) hs0 ?_ ?_ ?_
            · exact KeepAll.is (KeepAll.is (KeepAll.is (KeepAll.is (KeepAll.cons (fun _ _ _ hr h => BF.keep h hr) (KeepAll.is (KeepAll.is (KeepAll.is (KeepAll.is (KeepAll.cons (fun _ _ _ _ _ => trivial) (KeepAll.is (KeepAll.nil)))))))))))
            · refine GoodHAll.reads 2 rfl rfl (fun k hk => ?_) ?_
              · intro r wx hR hS hx
                obtain ⟨h1, _⟩ := hx
                replace h1 : r (.tmp 14) = (.pointer (some ⟨w5.heap.size, 0, none⟩)) := h1
                exact give_of (exec_loadW rowI rfl h1 (HNB hR) rfl) ⟨KB.refl _, hS, rfl⟩
              refine GoodHAll.reads 2 rfl rfl (fun k hk => ?_) ?_
              · intro r wx hR hS hx
                obtain ⟨h1, _⟩ := hx
                replace h1 : r (.tmp 6) = (.pointer (some ⟨g, 0, none⟩)) := h1
                exact give_move (.inl rfl) ⟨KB.refl _, hS, h1⟩
              refine GoodHAll.reads 2 rfl rfl (fun k hk => ?_) ?_
              · intro r wx hR hS hx
                obtain ⟨h1, _⟩ := hx
                replace h1 : r (.tmp 10) = (.pointer (some ⟨wr.heap.size, 0, none⟩)) := h1
                exact give_of (by simp [execOp, h1, go_sem]) ⟨KB.refl _, hS, rfl⟩
              refine GoodHAll.reads 2 rfl rfl (fun k hk => ?_) ?_
              · intro r wx hR hS hx
                obtain ⟨h1, _⟩ := hx
                replace h1 : r (.tmp 85) = (.pointer (some ⟨wr.heap.size, 1, none⟩)) := h1
                exact give_of (by simp [execOp, h1, go_sem, HTB hR]) ⟨KB.refl _, hS, rfl⟩
              refine GoodHAll.writes 0 rfl rfl ?_ ?_
              · intro r wx hR hS hx
                obtain ⟨h1, h2, h3, _⟩ := hx
                replace h1 : r (.func 19) = .func (.func 19) #[] #[] := h1
                replace h2 : r (.tmp 84) = (.pointer (some ⟨g, 0, none⟩)) := h2
                replace h3 : r (.tmp 86) = (.int .i64 ps) := h3
                refine give_func #[.pointer (some ⟨g, 0, none⟩), .int .i64 ps] rfl h1 Try.call19 (by simp [h2, h3]) ?_
                refine (HTAKE _ (ReadsAt.inn hS)).mono ?_
                rintro e w' ⟨a9, n9, c9, rfl, hn9, ho9, hi, hk⟩
                exact ⟨_, rfl, KB.left hk, ReadsAt.moved hS hi hk, BF.of ho9 (ReadsAt.inn hS).lt (by obtain ⟨_, _, hb0, _⟩ := ReadsAt.ref hS; exact hb0.lt)⟩
              refine GoodHAll.reads 2 rfl rfl (fun k hk => ?_) ?_
              · intro r wx hR hS hx
                obtain ⟨h1, _⟩ := hx
                replace h1 : ((BF g jb l) : Fact) wx (r (.tmp 87)) := h1
                exact give_of (exec_string byteT strT rfl wx l h1.1) ⟨KB.refl _, hS, rfl⟩
              refine GoodHAll.reads 2 rfl rfl (fun k hk => ?_) ?_
              · intro r wx hR hS hx
                obtain ⟨h1, _⟩ := hx
                replace h1 : r (.tmp 15) = (.slice ra rn rc) := h1
                exact give_move (.inl rfl) ⟨KB.refl _, hS, h1⟩
              refine GoodHAll.reads 2 rfl rfl (fun k hk => ?_) ?_
              · intro r wx hR hS hx
                obtain ⟨h1, _⟩ := hx
                replace h1 : r (.tmp 89) = (.slice ra rn rc) := h1
                exact give_of (exec_string byteT strT rfl wx l (by rw [h1]; exact (HW hR))) ⟨KB.refl _, hS, rfl⟩
              refine GoodHAll.reads 2 rfl rfl (fun k hk => ?_) ?_
              · intro r wx hR hS hx
                obtain ⟨h1, h2, _⟩ := hx
                replace h1 : r (.tmp 88) = (.string (strOf l)) := h1
                replace h2 : r (.tmp 90) = (.string (strOf l)) := h2
                exact give_of (by simp [execOp, h1, h2, go_sem]) ⟨KB.refl _, hS, rfl⟩
              refine GoodHAll.writes 1 rfl rfl ?_ ?_
              · intro r wx hR hS hx
                obtain ⟨h1, h2, _⟩ := hx
                replace h1 : r (.tmp 7) = (.pointer (some ⟨jb, 0, none⟩)) := h1
                replace h2 : r (.tmp 83) = (.agg #[.slice va vn vc, .int .i64 (a2 : Int), .bool b2]) := h2
                obtain ⟨a0, b0, hb0, _⟩ := ReadsAt.ref hS
                exact give_skip (exec_store (off := 0) rowI rfl h1 h2 hb0 rfl (by simp) (one_in _ _ _ hbv1)) ⟨KB.right (KeepBut.row _ _ _), by rw [putIn_all _ _ (by simp)]; exact ReadsAt.boxed hS (hb0.row _) (KeepBut.row _ _ _) ha2 hs2, trivial⟩
              refine GoodHAll.reads 2 rfl rfl (fun k hk => ?_) ?_
              · intro r wx hR hS hx
                obtain ⟨h1, _⟩ := hx
                replace h1 : r (.tmp 91) = (.bool true) := h1
                exact give_move (.inr rfl) ⟨KB.refl _, hS, h1⟩
              exact GoodHAll.nil
            · intro vs w9 a9 hR hS hold ha9
              have hv0 : vs 0 = (.agg #[.slice va vn vc, .int .i64 (a2 : Int), .bool b2]) := hold.at 0
              have hv1 : vs 1 = (.pointer (some ⟨g, 0, none⟩)) := hold.at 1
              have hv2 : vs 2 = (.pointer (some ⟨wr.heap.size, 1, none⟩)) := hold.at 2
              have hv3 : vs 3 = (.int .i64 ps) := hold.at 3
              have hv5 : vs 5 = (.string (strOf l)) := hold.at 5
              have hv6 : vs 6 = (.slice ra rn rc) := hold.at 6
              have hv7 : vs 7 = (.string (strOf l)) := hold.at 7
              have hv8 : vs 8 = (.bool true) := hold.at 8
              have hv10 : vs 10 = (.bool true) := hold.at 10
              simp only [putAll, Act.put, hv0, hv1, hv2, hv3, hv5, hv6, hv7, hv8, hv10, List.setIfInBounds_toArray, List.set_cons_succ, List.set_cons_zero] at ha9
              subst ha9
              clear hold hv0 hv1 hv2 hv3 hv5 hv6 hv7 hv8 hv10
              have HQ : Hid (ReadsAt w1 w9 g jb bv (.slice va vn vc) B (readsS B (T.take (i + 1))) (readsS B (T.take (i + 1)))) := by rw [HPI.out]; exact hS
              clear hs0 HNB HTB HTAKE HW ha2 hs2 hR hS c0 c1 c2 c3 d0 d1
              go_wp2_with fail
              obtain ⟨s2, hs2⟩ : ∃ s2, s2 = readsS B (T.take (i + 1)) := ⟨_, rfl⟩
              have HS2 : Hid (s2 = readsS B (T.take (i + 1))) := hs2
              rw [← hs2] at HQ
              clear hs2
              obtain ⟨a0, b0, hjb, hrv⟩ := HQ.out.ref
              obtain ⟨L, hL⟩ : ∃ L, leftS B s2 = L := ⟨_, rfl⟩
              obtain ⟨E, hE⟩ : ∃ E, endS B s2 = E := ⟨_, rfl⟩
              have HJB : ∀ {wx : World}, Ext w9.drew wx → Blk wx jb #[.slice va vn vc, .int .i64 (a0 : Int), .bool b0] 40 := fun hx => hjb.ext ((Ext.drew _).trans hx)
              have HLEFT : ∀ (wx : World), Ext w9.drew wx → Calls Try.prog 22 #[.pointer (some ⟨g, 0, none⟩)] wx fun e w' => e = .returned (.int .i64 (L : Nat)) ∧ Ext wx w' := fun wx hx => by rw [← hL]; exact left_any (HQ.out.inn.ext ((Ext.drew _).trans hx)) HBL.out
              have HEND : ∀ (wx : World), Ext w9.drew wx → Calls Try.prog 24 #[.pointer (some ⟨g, 0, none⟩)] wx fun e w' => e = .returned (endV E) ∧ Ext wx w' := fun wx hx => by rw [← hE]; exact end_any (HQ.out.inn.ext ((Ext.drew _).trans hx)) HBL.out
              have HRL : ∀ (wx : World), Ext w9.drew wx → Calls Try.prog 23 #[.agg #[.slice va vn vc, .int .i64 (a0 : Int), .bool b0]] wx fun e w' => e = .returned (.int .i64 (L : Nat)) ∧ Ext wx w' := fun wx hx => by rw [← hL]; exact refLeft_any hrv (HB.out.ext (HQ.out.ext.trans ((Ext.drew _).trans hx))) HBL.out
              have HRE : ∀ (wx : World), Ext w9.drew wx → Calls Try.prog 25 #[.agg #[.slice va vn vc, .int .i64 (a0 : Int), .bool b0]] wx fun e w' => e = .returned (.bool E) ∧ Ext wx w' := fun wx hx => by rw [← hE]; exact refEnd_any hrv (HB.out.ext (HQ.out.ext.trans ((Ext.drew _).trans hx))) HBL.out
              clear hL hE hrv hjb
              refine wp_region_facts (fun t => bif Nat.ble 92 t && Nat.ble t 108 then some (t - 92) else none) 141 Ext
                [Is (.bool true),
                 Is (.bool false),
                 Is (.bool false),
                 Is (.pointer (some ⟨g, 0, none⟩)),
                 Is (.int .i64 (L : Int)),
                 Is (.agg #[.slice va vn vc, .int .i64 (a0 : Int), .bool b0]),
                 Is (.int .i64 (L : Int)),
                 Is (.bool false),
                 Is (.bool false),
                 Is (.bool false),
                 Is (.pointer (some ⟨g, 0, none⟩)),
                 Is (endV E),
                 Is (.bool E),
                 Is (.agg #[.slice va vn vc, .int .i64 (a0 : Int), .bool b0]),
                 Is (.bool E),
                 Is (.bool false),
                 Is (.bool false)]
                rfl (by kernel_rfl) (by kernel_rfl) rfl Ext.refl (fun _ _ _ => Ext.trans) ?_ ?_ ?_
              · exact KeepAll.is (KeepAll.is (KeepAll.is (KeepAll.is (KeepAll.is (KeepAll.is (KeepAll.is (KeepAll.is (KeepAll.is (KeepAll.is (KeepAll.is (KeepAll.is (KeepAll.is (KeepAll.is (KeepAll.is (KeepAll.is (KeepAll.is (KeepAll.nil)))))))))))))))))
              · refine GoodAll.cons ?_ ?_
                · intro r wx hR hx
                  obtain ⟨h1, _⟩ := hx
                  replace h1 : r (.tmp 11) = (.bool true) := h1
                  exact give_move (.inl rfl) ⟨Ext.refl _, h1⟩
                refine GoodAll.cons ?_ ?_
                · intro r wx hR hx
                  obtain ⟨h1, _⟩ := hx
                  replace h1 : r (.tmp 92) = (.bool true) := h1
                  exact give_of (by simp [execOp, h1, go_sem]) ⟨Ext.refl _, rfl⟩
                refine GoodAll.cons ?_ ?_
                · intro r wx hR hx
                  obtain ⟨h1, _⟩ := hx
                  replace h1 : r (.tmp 93) = (.bool false) := h1
                  exact give_move (.inl rfl) ⟨Ext.refl _, h1⟩
                refine GoodAll.cons ?_ ?_
                · intro r wx hR hx
                  obtain ⟨h1, _⟩ := hx
                  replace h1 : r (.tmp 6) = (.pointer (some ⟨g, 0, none⟩)) := h1
                  intro gb hgb
                  refine guard_in (b := gb) (want := false) hgb ?_
                  exact give_move (.inl rfl) ⟨Ext.refl _, h1⟩
                refine GoodAll.cons ?_ ?_
                · intro r wx hR hx
                  obtain ⟨h1, h2, _⟩ := hx
                  replace h1 : r (.func 22) = .func (.func 22) #[] #[] := h1
                  replace h2 : r (.tmp 95) = (.pointer (some ⟨g, 0, none⟩)) := h2
                  intro gb hgb
                  refine guard_in (b := gb) (want := false) hgb ?_
                  refine give_func #[.pointer (some ⟨g, 0, none⟩)] rfl h1 Try.call22 (by simp [h2]) ?_
                  refine (HLEFT _ hR).mono ?_
                  rintro e w' ⟨rfl, he9⟩
                  exact ⟨_, rfl, he9, rfl⟩
                refine GoodAll.cons ?_ ?_
                · intro r wx hR hx
                  obtain ⟨h1, _⟩ := hx
                  replace h1 : r (.tmp 7) = (.pointer (some ⟨jb, 0, none⟩)) := h1
                  intro gb hgb
                  refine guard_in (b := gb) (want := false) hgb ?_
                  exact give_of (exec_loadW rowI rfl h1 (HJB hR) rfl) ⟨Ext.refl _, rfl⟩
                refine GoodAll.cons ?_ ?_
                · intro r wx hR hx
                  obtain ⟨h1, h2, _⟩ := hx
                  replace h1 : r (.func 23) = .func (.func 23) #[] #[] := h1
                  replace h2 : r (.tmp 97) = (.agg #[.slice va vn vc, .int .i64 (a0 : Int), .bool b0]) := h2
                  intro gb hgb
                  refine guard_in (b := gb) (want := false) hgb ?_
                  refine give_func #[.agg #[.slice va vn vc, .int .i64 (a0 : Int), .bool b0]] rfl h1 Try.call23 (by simp [h2]) ?_
                  refine (HRL _ hR).mono ?_
                  rintro e w' ⟨rfl, he9⟩
                  exact ⟨_, rfl, he9, rfl⟩
                refine GoodAll.cons ?_ ?_
                · intro r wx hR hx
                  obtain ⟨h1, h2, _⟩ := hx
                  replace h1 : r (.tmp 96) = (.int .i64 (L : Int)) := h1
                  replace h2 : r (.tmp 98) = (.int .i64 (L : Int)) := h2
                  intro gb hgb
                  refine guard_in (b := gb) (want := false) hgb ?_
                  exact give_of (by simp [execOp, h1, h2, go_sem]) ⟨Ext.refl _, rfl⟩
                refine GoodAll.cons ?_ ?_
                · intro r wx hR hx
                  obtain ⟨h1, h2, h3, _⟩ := hx
                  replace h1 : r (.tmp 94) = (.bool false) := h1
                  replace h2 : r (.const (.bool true)) = .bool true := h2
                  replace h3 : r (.tmp 99) = (.bool false) := h3
                  exact give_pickF rfl h1 ⟨Ext.refl _, h3⟩
                refine GoodAll.cons ?_ ?_
                · intro r wx hR hx
                  obtain ⟨h1, _⟩ := hx
                  replace h1 : r (.tmp 100) = (.bool false) := h1
                  exact give_move (.inl rfl) ⟨Ext.refl _, h1⟩
                refine GoodAll.cons ?_ ?_
                · intro r wx hR hx
                  obtain ⟨h1, _⟩ := hx
                  replace h1 : r (.tmp 6) = (.pointer (some ⟨g, 0, none⟩)) := h1
                  intro gb hgb
                  refine guard_in (b := gb) (want := false) hgb ?_
                  exact give_move (.inl rfl) ⟨Ext.refl _, h1⟩
                refine GoodAll.cons ?_ ?_
                · intro r wx hR hx
                  obtain ⟨h1, h2, _⟩ := hx
                  replace h1 : r (.func 24) = .func (.func 24) #[] #[] := h1
                  replace h2 : r (.tmp 102) = (.pointer (some ⟨g, 0, none⟩)) := h2
                  intro gb hgb
                  refine guard_in (b := gb) (want := false) hgb ?_
                  refine give_func #[.pointer (some ⟨g, 0, none⟩)] rfl h1 Try.call24 (by simp [h2]) ?_
                  refine (HEND _ hR).mono ?_
                  rintro e w' ⟨rfl, he9⟩
                  exact ⟨_, rfl, he9, rfl⟩
                refine GoodAll.cons ?_ ?_
                · intro r wx hR hx
                  obtain ⟨h1, h2, _⟩ := hx
                  replace h1 : r (.tmp 103) = (endV E) := h1
                  replace h2 : r (.const (.nilIface)) = .nilIface := h2
                  intro gb hgb
                  refine guard_in (b := gb) (want := false) hgb ?_
                  cases E <;> exact give_of (by simp [execOp, h1, h2, endV, errF, go_sem]) ⟨Ext.refl _, rfl⟩
                refine GoodAll.cons ?_ ?_
                · intro r wx hR hx
                  obtain ⟨h1, _⟩ := hx
                  replace h1 : r (.tmp 7) = (.pointer (some ⟨jb, 0, none⟩)) := h1
                  intro gb hgb
                  refine guard_in (b := gb) (want := false) hgb ?_
                  exact give_of (exec_loadW rowI rfl h1 (HJB hR) rfl) ⟨Ext.refl _, rfl⟩
                refine GoodAll.cons ?_ ?_
                · intro r wx hR hx
                  obtain ⟨h1, h2, _⟩ := hx
                  replace h1 : r (.func 25) = .func (.func 25) #[] #[] := h1
                  replace h2 : r (.tmp 105) = (.agg #[.slice va vn vc, .int .i64 (a0 : Int), .bool b0]) := h2
                  intro gb hgb
                  refine guard_in (b := gb) (want := false) hgb ?_
                  refine give_func #[.agg #[.slice va vn vc, .int .i64 (a0 : Int), .bool b0]] rfl h1 Try.call25 (by simp [h2]) ?_
                  refine (HRE _ hR).mono ?_
                  rintro e w' ⟨rfl, he9⟩
                  exact ⟨_, rfl, he9, rfl⟩
                refine GoodAll.cons ?_ ?_
                · intro r wx hR hx
                  obtain ⟨h1, h2, _⟩ := hx
                  replace h1 : r (.tmp 104) = (.bool E) := h1
                  replace h2 : r (.tmp 106) = (.bool E) := h2
                  intro gb hgb
                  refine guard_in (b := gb) (want := false) hgb ?_
                  cases E <;> exact give_of (by simp [execOp, h1, h2, go_sem]) ⟨Ext.refl _, rfl⟩
                refine GoodAll.cons ?_ ?_
                · intro r wx hR hx
                  obtain ⟨h1, h2, h3, _⟩ := hx
                  replace h1 : r (.tmp 101) = (.bool false) := h1
                  replace h2 : r (.const (.bool true)) = .bool true := h2
                  replace h3 : r (.tmp 107) = (.bool false) := h3
                  exact give_pickF rfl h1 ⟨Ext.refl _, h3⟩
                exact GoodAll.nil
              · intro vs w10 a9 hR hold ha9
                have hv0 : vs 0 = (.bool true) := hold.at 0
                have hv1 : vs 1 = (.bool false) := hold.at 1
                have hv2 : vs 2 = (.bool false) := hold.at 2
                have hv3 : vs 3 = (.pointer (some ⟨g, 0, none⟩)) := hold.at 3
                have hv4 : vs 4 = (.int .i64 (L : Int)) := hold.at 4
                have hv5 : vs 5 = (.agg #[.slice va vn vc, .int .i64 (a0 : Int), .bool b0]) := hold.at 5
                have hv6 : vs 6 = (.int .i64 (L : Int)) := hold.at 6
                have hv7 : vs 7 = (.bool false) := hold.at 7
                have hv8 : vs 8 = (.bool false) := hold.at 8
                have hv9 : vs 9 = (.bool false) := hold.at 9
                have hv10 : vs 10 = (.pointer (some ⟨g, 0, none⟩)) := hold.at 10
                have hv11 : vs 11 = (endV E) := hold.at 11
                have hv12 : vs 12 = (.bool E) := hold.at 12
                have hv13 : vs 13 = (.agg #[.slice va vn vc, .int .i64 (a0 : Int), .bool b0]) := hold.at 13
                have hv14 : vs 14 = (.bool E) := hold.at 14
                have hv15 : vs 15 = (.bool false) := hold.at 15
                have hv16 : vs 16 = (.bool false) := hold.at 16
                simp only [putAll, Act.put, hv0, hv1, hv2, hv3, hv4, hv5, hv6, hv7, hv8, hv9, hv10, hv11, hv12, hv13, hv14, hv15, hv16, List.setIfInBounds_toArray, List.set_cons_succ, List.set_cons_zero] at ha9
                subst ha9
                clear hold hv0 hv1 hv2 hv3 hv4 hv5 hv6 hv7 hv8 hv9 hv10 hv11 hv12 hv13 hv14 hv15 hv16
                have HR9 : Hid (Ext w9 w10) := (Ext.drew _).trans hR
                clear HJB HLEFT HEND HRL HRE hR
                go_wp2
                go_roundg (n - (i + 1))
                case measure => omega
                case rel => exact ⟨i + 1, by omega, rfl, by simp, by rw [← HS2.out]; exact HQ.out.more HR9.out⟩
          ·
            have HPI : Hid (readsS B (T.take (i + 1)) = padS B s) := HP.out.trans (by unfold readT; rw [if_neg h0, if_neg h1])
            have z0 : (pk == 0) = false := beq_false_of_ne h0
            have z1 : (pk == 1) = false := beq_false_of_ne h1
            have z2 : decide (pk = 0) = false := decide_eq_false h0
            have z3 : decide (pk = 1) = false := decide_eq_false h1
            clear h0 h1
            have HPX : Hid (∀ (x : Value) (w' : World), RefV x (.slice va vn vc) B s → Ext w1 w' → Calls Try.prog 21 #[x] w' (PadIs w' (.slice va vn vc) B (padS B s))) := fun x w' hx he => refReadPad_any hx (HB.out.ext he) HBL.out
            have HPD : Hid (∀ wx, InAt wx w1.heap.size g bv B s → Calls Try.prog 20 #[ptr g] wx fun e w' => (∃ y, e = .returned y) ∧ InAt w' w1.heap.size g bv B (padS B s) ∧ KeepBut (· = g) wx w') := fun wx hi => inPad_any hi HBL.out
            clear HP
            generalize padS B s = r1 at *
            go_wp2_with (first
              | (refine wl_load4 rfl rowT rfl rfl c0 c1 c2 c3 ?_)
              | (refine wl_alloc rfl rfl zeroT ?_; intro w3 hb3 he3 hx; clear hx)
              | (refine wl_store (D := #[.int .i64 pk, .int .i64 ps, .int .u64 (pn : Int), .slice ua m uc]) rfl rowT rfl rfl rfl hb3 rfl rfl (one_th _ _ _ _ rfl) ?_; intro w4 hb4 hk4 hx; clear hx; have d0 := hb4.cell 0; have d1 := hb4.cell 1; have HE4 : Hid (Ext wr w4) := he3.of_but hk4 (fun q e => by subst e; exact Nat.le_refl _); have HB4 : Hid (Blk w4 wr.heap.size #[.int .i64 pk, .int .i64 ps, .int .u64 (pn : Int), .slice ua m uc] 31) := hb4; clear hk4 he3 hb3 hb4; obtain ⟨a0, b0, hjb, hrv⟩ := (HR.out.more HE4.out).ref; have HJ4 : Hid (Blk w4 jb #[.slice va vn vc, .int .i64 (a0 : Int), .bool b0] 40 ∧ RefV (.agg #[.slice va vn vc, .int .i64 (a0 : Int), .bool b0]) (.slice va vn vc) B s) := ⟨hjb, hrv⟩; clear hjb hrv)
              | (go_at_call 20; refine (HPD.out _ (HR.out.more HE4.out).inn).mono ?_; rintro e w5 ⟨⟨y5, rfl⟩, hi5, hk5⟩; have H5 : Hid (ReadsAt w1 w5 g jb bv (.slice va vn vc) B r1 s) := (HR.out.more HE4.out).moved hi5 hk5; have HJ5 : Hid (Blk w5 jb #[.slice va vn vc, .int .i64 (a0 : Int), .bool b0] 40) := HJ4.out.1.but hk5 (fun e => HR.out.ne e.symm); clear hi5 hk5)
              | (refine wl_load rfl rowI rfl rfl HJ5.out rfl ?_)
              | (go_at_call 21; refine (HPX.out _ _ HJ4.out.2 H5.out.ext).mono ?_; rintro e w6 ⟨v6, rfl, ⟨a2, b2, rfl, ha2, hs2⟩, he6⟩; have HA2 : Hid (a2 ≤ B.length ∧ r1 = (if b2 = true then none else some a2)) := ⟨ha2, hs2⟩; clear ha2 hs2)
              | (refine wl_store (D := #[.slice va vn vc, .int .i64 (a2 : Int), .bool b2]) rfl rowI rfl rfl rfl (HJ5.out.ext he6) rfl rfl (one_in _ _ _ hbv1) ?_; intro w7 hb7 hk7 hx; clear hx; have H7 : Hid (ReadsAt w1 w7 g jb bv (.slice va vn vc) B r1 r1) := (H5.out.more he6).boxed hb7 hk7 HA2.out.1 HA2.out.2; clear hb7 hk7 he6))
            have HQ : Hid (ReadsAt w1 w7 g jb bv (.slice va vn vc) B (readsS B (T.take (i + 1))) (readsS B (T.take (i + 1)))) := by rw [HPI.out]; exact H7.out
            clear H7 c0 c1 c2 c3 d0 d1
            obtain ⟨s2, hs2⟩ : ∃ s2, s2 = readsS B (T.take (i + 1)) := ⟨_, rfl⟩
            have HS2 : Hid (s2 = readsS B (T.take (i + 1))) := hs2
            rw [← hs2] at HQ
            clear hs2
            obtain ⟨a0, b0, hjb, hrv⟩ := HQ.out.ref
            obtain ⟨L, hL⟩ : ∃ L, leftS B s2 = L := ⟨_, rfl⟩
            obtain ⟨E, hE⟩ : ∃ E, endS B s2 = E := ⟨_, rfl⟩
            have HJB : ∀ {wx : World}, Ext w7.drew wx → Blk wx jb #[.slice va vn vc, .int .i64 (a0 : Int), .bool b0] 40 := fun hx => hjb.ext ((Ext.drew _).trans hx)
            have HLEFT : ∀ (wx : World), Ext w7.drew wx → Calls Try.prog 22 #[.pointer (some ⟨g, 0, none⟩)] wx fun e w' => e = .returned (.int .i64 (L : Nat)) ∧ Ext wx w' := fun wx hx => by rw [← hL]; exact left_any (HQ.out.inn.ext ((Ext.drew _).trans hx)) HBL.out
            have HEND : ∀ (wx : World), Ext w7.drew wx → Calls Try.prog 24 #[.pointer (some ⟨g, 0, none⟩)] wx fun e w' => e = .returned (endV E) ∧ Ext wx w' := fun wx hx => by rw [← hE]; exact end_any (HQ.out.inn.ext ((Ext.drew _).trans hx)) HBL.out
            have HRL : ∀ (wx : World), Ext w7.drew wx → Calls Try.prog 23 #[.agg #[.slice va vn vc, .int .i64 (a0 : Int), .bool b0]] wx fun e w' => e = .returned (.int .i64 (L : Nat)) ∧ Ext wx w' := fun wx hx => by rw [← hL]; exact refLeft_any hrv (HB.out.ext (HQ.out.ext.trans ((Ext.drew _).trans hx))) HBL.out
            have HRE : ∀ (wx : World), Ext w7.drew wx → Calls Try.prog 25 #[.agg #[.slice va vn vc, .int .i64 (a0 : Int), .bool b0]] wx fun e w' => e = .returned (.bool E) ∧ Ext wx w' := fun wx hx => by rw [← hE]; exact refEnd_any hrv (HB.out.ext (HQ.out.ext.trans ((Ext.drew _).trans hx))) HBL.out
            clear hL hE hrv hjb
            refine wp_region_facts (fun t => bif Nat.ble 92 t && Nat.ble t 108 then some (t - 92) else none) 141 Ext
              [Is (.bool true),
               Is (.bool false),
               Is (.bool false),
               Is (.pointer (some ⟨g, 0, none⟩)),
               Is (.int .i64 (L : Int)),
               Is (.agg #[.slice va vn vc, .int .i64 (a0 : Int), .bool b0]),
               Is (.int .i64 (L : Int)),
               Is (.bool false),
               Is (.bool false),
               Is (.bool false),
               Is (.pointer (some ⟨g, 0, none⟩)),
               Is (endV E),
               Is (.bool E),
               Is (.agg #[.slice va vn vc, .int .i64 (a0 : Int), .bool b0]),
               Is (.bool E),
               Is (.bool false),
               Is (.bool false)]
              rfl (by kernel_rfl) (by kernel_rfl) rfl Ext.refl (fun _ _ _ => Ext.trans) ?_ ?_ ?_
            · exact KeepAll.is (KeepAll.is (KeepAll.is (KeepAll.is (KeepAll.is (KeepAll.is (KeepAll.is (KeepAll.is (KeepAll.is (KeepAll.is (KeepAll.is (KeepAll.is (KeepAll.is (KeepAll.is (KeepAll.is (KeepAll.is (KeepAll.is (KeepAll.nil)))))))))))))))))
            · refine GoodAll.cons ?_ ?_
              · intro r wx hR hx
                obtain ⟨h1, _⟩ := hx
                replace h1 : r (.tmp 11) = (.bool true) := h1
                exact give_move (.inl rfl) ⟨Ext.refl _, h1⟩
              refine GoodAll.cons ?_ ?_
              · intro r wx hR hx
                obtain ⟨h1, _⟩ := hx
                replace h1 : r (.tmp 92) = (.bool true) := h1
                exact give_of (by simp [execOp, h1, go_sem]) ⟨Ext.refl _, rfl⟩
              refine GoodAll.cons ?_ ?_
              · intro r wx hR hx
                obtain ⟨h1, _⟩ := hx
                replace h1 : r (.tmp 93) = (.bool false) := h1
                exact give_move (.inl rfl) ⟨Ext.refl _, h1⟩
              refine GoodAll.cons ?_ ?_
              · intro r wx hR hx
                obtain ⟨h1, _⟩ := hx
                replace h1 : r (.tmp 6) = (.pointer (some ⟨g, 0, none⟩)) := h1
                intro gb hgb
                refine guard_in (b := gb) (want := false) hgb ?_
                exact give_move (.inl rfl) ⟨Ext.refl _, h1⟩
              refine GoodAll.cons ?_ ?_
              · intro r wx hR hx
                obtain ⟨h1, h2, _⟩ := hx
                replace h1 : r (.func 22) = .func (.func 22) #[] #[] := h1
                replace h2 : r (.tmp 95) = (.pointer (some ⟨g, 0, none⟩)) := h2
                intro gb hgb
                refine guard_in (b := gb) (want := false) hgb ?_
                refine give_func #[.pointer (some ⟨g, 0, none⟩)] rfl h1 Try.call22 (by simp [h2]) ?_
                refine (HLEFT _ hR).mono ?_
                rintro e w' ⟨rfl, he9⟩
                exact ⟨_, rfl, he9, rfl⟩
              refine GoodAll.cons ?_ ?_
              · intro r wx hR hx
                obtain ⟨h1, _⟩ := hx
                replace h1 : r (.tmp 7) = (.pointer (some ⟨jb, 0, none⟩)) := h1
                intro gb hgb
                refine guard_in (b := gb) (want := false) hgb ?_
                exact give_of (exec_loadW rowI rfl h1 (HJB hR) rfl) ⟨Ext.refl _, rfl⟩
              refine GoodAll.cons ?_ ?_
              · intro r wx hR hx
                obtain ⟨h1, h2, _⟩ := hx
                replace h1 : r (.func 23) = .func (.func 23) #[] #[] := h1
                replace h2 : r (.tmp 97) = (.agg #[.slice va vn vc, .int .i64 (a0 : Int), .bool b0]) := h2
                intro gb hgb
                refine guard_in (b := gb) (want := false) hgb ?_
                refine give_func #[.agg #[.slice va vn vc, .int .i64 (a0 : Int), .bool b0]] rfl h1 Try.call23 (by simp [h2]) ?_
                refine (HRL _ hR).mono ?_
                rintro e w' ⟨rfl, he9⟩
                exact ⟨_, rfl, he9, rfl⟩
              refine GoodAll.cons ?_ ?_
              · intro r wx hR hx
                obtain ⟨h1, h2, _⟩ := hx
                replace h1 : r (.tmp 96) = (.int .i64 (L : Int)) := h1
                replace h2 : r (.tmp 98) = (.int .i64 (L : Int)) := h2
                intro gb hgb
                refine guard_in (b := gb) (want := false) hgb ?_
                exact give_of (by simp [execOp, h1, h2, go_sem]) ⟨Ext.refl _, rfl⟩
              refine GoodAll.cons ?_ ?_
              · intro r wx hR hx
                obtain ⟨h1, h2, h3, _⟩ := hx
                replace h1 : r (.tmp 94) = (.bool false) := h1
                replace h2 : r (.const (.bool true)) = .bool true := h2
                replace h3 : r (.tmp 99) = (.bool false) := h3
                exact give_pickF rfl h1 ⟨Ext.refl _, h3⟩
              refine GoodAll.cons ?_ ?_
              · intro r wx hR hx
                obtain ⟨h1, _⟩ := hx
                replace h1 : r (.tmp 100) = (.bool false) := h1
                exact give_move (.inl rfl) ⟨Ext.refl _, h1⟩
              refine GoodAll.cons ?_ ?_
              · intro r wx hR hx
                obtain ⟨h1, _⟩ := hx
                replace h1 : r (.tmp 6) = (.pointer (some ⟨g, 0, none⟩)) := h1
                intro gb hgb
                refine guard_in (b := gb) (want := false) hgb ?_
                exact give_move (.inl rfl) ⟨Ext.refl _, h1⟩
              refine GoodAll.cons ?_ ?_
              · intro r wx hR hx
                obtain ⟨h1, h2, _⟩ := hx
                replace h1 : r (.func 24) = .func (.func 24) #[] #[] := h1
                replace h2 : r (.tmp 102) = (.pointer (some ⟨g, 0, none⟩)) := h2
                intro gb hgb
                refine guard_in (b := gb) (want := false) hgb ?_
                refine give_func #[.pointer (some ⟨g, 0, none⟩)] rfl h1 Try.call24 (by simp [h2]) ?_
                refine (HEND _ hR).mono ?_
                rintro e w' ⟨rfl, he9⟩
                exact ⟨_, rfl, he9, rfl⟩
              refine GoodAll.cons ?_ ?_
              · intro r wx hR hx
                obtain ⟨h1, h2, _⟩ := hx
                replace h1 : r (.tmp 103) = (endV E) := h1
                replace h2 : r (.const (.nilIface)) = .nilIface := h2
                intro gb hgb
                refine guard_in (b := gb) (want := false) hgb ?_
                cases E <;> exact give_of (by simp [execOp, h1, h2, endV, errF, go_sem]) ⟨Ext.refl _, rfl⟩
              refine GoodAll.cons ?_ ?_
              · intro r wx hR hx
                obtain ⟨h1, _⟩ := hx
                replace h1 : r (.tmp 7) = (.pointer (some ⟨jb, 0, none⟩)) := h1
                intro gb hgb
                refine guard_in (b := gb) (want := false) hgb ?_
                exact give_of (exec_loadW rowI rfl h1 (HJB hR) rfl) ⟨Ext.refl _, rfl⟩
              refine GoodAll.cons ?_ ?_
              · intro r wx hR hx
                obtain ⟨h1, h2, _⟩ := hx
                replace h1 : r (.func 25) = .func (.func 25) #[] #[] := h1
                replace h2 : r (.tmp 105) = (.agg #[.slice va vn vc, .int .i64 (a0 : Int), .bool b0]) := h2
                intro gb hgb
                refine guard_in (b := gb) (want := false) hgb ?_
                refine give_func #[.agg #[.slice va vn vc, .int .i64 (a0 : Int), .bool b0]] rfl h1 Try.call25 (by simp [h2]) ?_
                refine (HRE _ hR).mono ?_
                rintro e w' ⟨rfl, he9⟩
                exact ⟨_, rfl, he9, rfl⟩
              refine GoodAll.cons ?_ ?_
              · intro r wx hR hx
                obtain ⟨h1, h2, _⟩ := hx
                replace h1 : r (.tmp 104) = (.bool E) := h1
                replace h2 : r (.tmp 106) = (.bool E) := h2
                intro gb hgb
                refine guard_in (b := gb) (want := false) hgb ?_
                cases E <;> exact give_of (by simp [execOp, h1, h2, go_sem]) ⟨Ext.refl _, rfl⟩
              refine GoodAll.cons ?_ ?_
              · intro r wx hR hx
                obtain ⟨h1, h2, h3, _⟩ := hx
                replace h1 : r (.tmp 101) = (.bool false) := h1
                replace h2 : r (.const (.bool true)) = .bool true := h2
                replace h3 : r (.tmp 107) = (.bool false) := h3
                exact give_pickF rfl h1 ⟨Ext.refl _, h3⟩
              exact GoodAll.nil
            · intro vs w9 a9 hR hold ha9
              have hv0 : vs 0 = (.bool true) := hold.at 0
              have hv1 : vs 1 = (.bool false) := hold.at 1
              have hv2 : vs 2 = (.bool false) := hold.at 2
              have hv3 : vs 3 = (.pointer (some ⟨g, 0, none⟩)) := hold.at 3
              have hv4 : vs 4 = (.int .i64 (L : Int)) := hold.at 4
              have hv5 : vs 5 = (.agg #[.slice va vn vc, .int .i64 (a0 : Int), .bool b0]) := hold.at 5
              have hv6 : vs 6 = (.int .i64 (L : Int)) := hold.at 6
              have hv7 : vs 7 = (.bool false) := hold.at 7
              have hv8 : vs 8 = (.bool false) := hold.at 8
              have hv9 : vs 9 = (.bool false) := hold.at 9
              have hv10 : vs 10 = (.pointer (some ⟨g, 0, none⟩)) := hold.at 10
              have hv11 : vs 11 = (endV E) := hold.at 11
              have hv12 : vs 12 = (.bool E) := hold.at 12
              have hv13 : vs 13 = (.agg #[.slice va vn vc, .int .i64 (a0 : Int), .bool b0]) := hold.at 13
              have hv14 : vs 14 = (.bool E) := hold.at 14
              have hv15 : vs 15 = (.bool false) := hold.at 15
              have hv16 : vs 16 = (.bool false) := hold.at 16
              simp only [putAll, Act.put, hv0, hv1, hv2, hv3, hv4, hv5, hv6, hv7, hv8, hv9, hv10, hv11, hv12, hv13, hv14, hv15, hv16, List.setIfInBounds_toArray, List.set_cons_succ, List.set_cons_zero] at ha9
              subst ha9
              clear hold hv0 hv1 hv2 hv3 hv4 hv5 hv6 hv7 hv8 hv9 hv10 hv11 hv12 hv13 hv14 hv15 hv16
              have HR9 : Hid (Ext w7 w9) := (Ext.drew _).trans hR
              clear HJB HLEFT HEND HRL HRE hR
              go_wp2
              go_roundg (n - (i + 1))
              case measure => omega
              case rel => exact ⟨i + 1, by omega, rfl, by simp, by rw [← HS2.out]; exact HQ.out.more HR9.out⟩
        · have hd : decide ((i : Int) < (n : Int)) = false := decide_eq_false (by omega)
          generalize readsS B (T.take i) = s at *
          have HE1 : Hid (Calls Try.prog 24 #[ptr g] wr fun e w' => e = .returned (endV (endS B s)) ∧ Ext wr w') := end_any HR.out.inn HBL.out
          have HEW : Hid (Ext w wr) := HW1.out.trans HR.out.ext
          cases hE : endS B s with
          | true =>
            rw [hE] at HE1
            go_wp2_with (first
              | (go_at_call 24; refine HE1.out.mono ?_; rintro e w3 ⟨rfl, he3⟩; rw [show endV true = .nilIface from rfl]; clear HE1)
              | (go_at_call 20; refine (inPad_nil _).mono ?_; rintro e w5 ⟨⟨y5, rfl⟩, hw⟩; subst w5)
              | (go_at_call 17; refine (inNum_nil _).mono ?_; rintro e w5 ⟨rfl, hw⟩; subst w5)
              | (go_at_call 19; refine (inTake_nil _).mono ?_; rintro e w6 ⟨a6, c6, rfl, he6⟩)
              | (go_at_call 22; refine (left_nil _).mono ?_; rintro e w7 ⟨rfl, hw⟩; subst w7)
              | (go_at_call 24; refine (end_nil _).mono ?_; rintro e w7 ⟨rfl, hw⟩; subst w7)
              | (go_at_call 26; refine (isF _).mono ?_; rintro e w7 ⟨rfl, hw⟩; subst w7))
            go_ret
            exact ⟨rfl, (HEW.out.trans he3).trans he6⟩
          | false =>
            rw [hE] at HE1
            go_wp2_with (first
              | (go_at_call 24; refine HE1.out.mono ?_; rintro e w3 ⟨rfl, he3⟩; rw [show endV false = errF from rfl]; clear HE1)
              | (go_at_call 20; refine (inPad_nil _).mono ?_; rintro e w5 ⟨⟨y5, rfl⟩, hw⟩; subst w5)
              | (go_at_call 17; refine (inNum_nil _).mono ?_; rintro e w5 ⟨rfl, hw⟩; subst w5)
              | (go_at_call 19; refine (inTake_nil _).mono ?_; rintro e w6 ⟨a6, c6, rfl, he6⟩)
              | (go_at_call 22; refine (left_nil _).mono ?_; rintro e w7 ⟨rfl, hw⟩; subst w7)
              | (go_at_call 24; refine (end_nil _).mono ?_; rintro e w7 ⟨rfl, hw⟩; subst w7)
              | (go_at_call 26; refine (isF _).mono ?_; rintro e w7 ⟨rfl, hw⟩; subst w7))
            go_ret
            exact ⟨rfl, (HEW.out.trans he3).trans he6⟩
end Tlv
end Go.Proofs.Ytmfciiccomagpaa
