/- The law TlvWrites. No condition of its own. -/
import Derived.Test.YtmfciiccomagpaaRefW
namespace Go.Proofs.Ytmfciiccomagpaa
namespace Tlv
open Go Go.RowKit
set_option linter.unusedVariables false
set_option linter.unusedSimpArgs false
set_option maxRecDepth 100000


/-- What reads as these bytes. -/
def ReadsAs (l : List Nat) : World → Value → Prop := fun w v => BytesAt w v l
theorem ReadsAs.ext {l : List Nat} {a b : World} {v : Value} (h : ReadsAs l a v) (he : Ext a b) : ReadsAs l b v := BytesAt.ext h he
theorem all_snoc (A : List Par) (p : Par) : (A ++ [p]).all goodP = (A.all goodP && goodP p) := by simp
set_option maxHeartbeats 8000000 in
theorem writes_walk (v : Value) (kd : Int) (L : List Par) (w : World) (hv : ParsAt w v L) :
    Calls Try.prog 5 #[v, .int .i64 kd] w fun e w' => e = .returned (.bool true) ∧ Ext w w' := by
  obtain ⟨hmx, a, cap, rfl, hc⟩ := id hv
  have HC : Hid (∀ i p, L[i]? = some p → ∃ b off u, a = some ⟨b, off, none⟩ ∧ w.cell? ⟨b, off + i * 2, none⟩ = some (.int .i64 p.1) ∧ w.cell? ⟨b, off + i * 2 + 1, none⟩ = some u ∧ BytesAt w u p.2) := hc
  clear hc
  obtain ⟨n, hn⟩ : ∃ n, n = L.length := ⟨_, rfl⟩
  have HN : Hid (n = L.length) := hn
  rw [← hn] at hmx hv ⊢
  have HV : Hid (ParsAt w (.slice a n cap) L) := hv
  clear hn hv
  have hn63 : (n : Int) ≤ 9223372036854775807 := by unfold maxLen at hmx; omega
  clear hmx
  go_enter Try.func5, Try.ntmps5
  go_wp2_with (first
    | (go_at_call 7; refine (alive_any _).mono ?_; rintro e w1 ⟨rfl, he1⟩))
  go_loopg [5, 19] n (fun gm x t wr => ∃ (i : Nat) (gb : Bool), i ≤ n ∧ gm = n - i ∧ x = .bool gb ∧ t = .int .i64 (i : Int) ∧ i ≤ 13 ∧ Hid ((gb = (L.take i).all goodP ∧ ∀ p ∈ L.take i, p.2.length ≤ 5000) ∧ Ext w wr))
  case atStart => exact ⟨0, true, Nat.zero_le _, rfl, rfl, rfl, by decide, ⟨rfl, fun p hp => by cases hp⟩, he1⟩
  case round =>
    obtain ⟨i, gb, hi, rfl, rfl, rfl, hi13, HR⟩ := hrel
    by_cases hlt : i < n
    · have hd : decide ((i : Int) < (n : Int)) = true := decide_eq_true (by omega)
      obtain ⟨p, hp⟩ : ∃ p, L[i]? = some p := ⟨L[i]'(by rw [← HN.out]; exact hlt), by simp⟩
      have HP : Hid (L.take (i + 1) = L.take i ++ [p]) := take_getD hp
      obtain ⟨b, off, u, rfl, hc0, hc1, hbu⟩ := HC.out i p hp
      clear hp
      have c0 := HR.out.2.cell hc0
      have c1 := HR.out.2.cell hc1
      clear hc0 hc1
      obtain ⟨k, m⟩ := p
      obtain ⟨ua, uc, rfl, hum, _⟩ := hbu.form
      rename_i z2
      clear z2 hbu
      simp only at c0 c1 HP hum
      have hm63 : (m.length : Int) ≤ 9223372036854775807 := by unfold maxLen at hum; omega
      clear hum
      have LD : ∀ {w2 : World}, Blk w2 wr.heap.size #[.int .i64 k, .slice ua m.length uc] 59 → w2.cell? ⟨wr.heap.size, 0, none⟩ = some (.int .i64 k) ∧ w2.cell? ⟨wr.heap.size, 1, none⟩ = some (.slice ua m.length uc) := fun h => ⟨h.cell 0, h.cell 1⟩
      by_cases hi12 : 12 < i
      · have hd1 : decide ((i : Int) > 12) = true := decide_eq_true (by omega)
        go_wp2_with (first
          | (refine wl_loadP rfl rowP2 rfl rfl c0 c1 ?_)
          | (refine wl_alloc rfl rfl zeroP2 ?_; intro w2 hb2 he2 hx; clear hx)
          | (refine wl_store (D := #[.int .i64 k, .slice ua m.length uc]) rfl rowP2 rfl rfl rfl hb2 rfl rfl (one_par _ _ rfl) ?_; intro w3 hb3 hk3 hx; clear hx; have c3 := (LD hb3).1; have c4 := (LD hb3).2; have HE3 : Hid (Ext wr w3) := he2.of_but hk3 (fun q e => by subst e; exact Nat.le_refl _)))
        go_ret
        exact ⟨rfl, HR.out.2.trans HE3.out⟩
      have hd1 : decide ((i : Int) > 12) = false := decide_eq_false (by omega)
      by_cases hm5 : 5000 < m.length
      · have hd2 : decide ((m.length : Int) > 5000) = true := decide_eq_true (by omega)
        go_wp2_with (first
          | (refine wl_loadP rfl rowP2 rfl rfl c0 c1 ?_)
          | (refine wl_alloc rfl rfl zeroP2 ?_; intro w2 hb2 he2 hx; clear hx)
          | (refine wl_store (D := #[.int .i64 k, .slice ua m.length uc]) rfl rowP2 rfl rfl rfl hb2 rfl rfl (one_par _ _ rfl) ?_; intro w3 hb3 hk3 hx; clear hx; have c3 := (LD hb3).1; have c4 := (LD hb3).2; have HE3 : Hid (Ext wr w3) := he2.of_but hk3 (fun q e => by subst e; exact Nat.le_refl _)))
        go_ret
        exact ⟨rfl, HR.out.2.trans HE3.out⟩
      have hd2 : decide ((m.length : Int) > 5000) = false := decide_eq_false (by omega)
      have HG : Hid (∀ p ∈ L.take (i + 1), p.2.length ≤ 5000) := fun p hp => by
        rw [HP.out] at hp
        rcases List.mem_append.1 hp with hp | hp
        · exact HR.out.1.2 p hp
        · simp at hp; subst hp; simp only; omega
      cases gb with
      | true =>
        go_wp2_with (first
          | (refine wl_loadP rfl rowP2 rfl rfl c0 c1 ?_)
          | (refine wl_alloc rfl rfl zeroP2 ?_; intro w2 hb2 he2 hx; clear hx)
          | (refine wl_store (D := #[.int .i64 k, .slice ua m.length uc]) rfl rowP2 rfl rfl rfl hb2 rfl rfl (one_par _ _ rfl) ?_; intro w3 hb3 hk3 hx; clear hx; have c3 := (LD hb3).1; have c4 := (LD hb3).2; have HE3 : Hid (Ext wr w3) := he2.of_but hk3 (fun q e => by subst e; exact Nat.le_refl _))
          | (go_at_call 27; refine (good_any k ua uc m _).mono ?_; rintro e w4 ⟨rfl, he4⟩))
        go_roundg (n - (i + 1))
        case measure => omega
        case rel => exact ⟨i + 1, goodP (k, m), by omega, rfl, rfl, by simp, by omega, ⟨by rw [HP.out, all_snoc, ← HR.out.1.1]; rfl, HG.out⟩, (HR.out.2.trans HE3.out).trans he4⟩
      | false =>
        go_wp2_with (first
          | (refine wl_loadP rfl rowP2 rfl rfl c0 c1 ?_)
          | (refine wl_alloc rfl rfl zeroP2 ?_; intro w2 hb2 he2 hx; clear hx)
          | (refine wl_store (D := #[.int .i64 k, .slice ua m.length uc]) rfl rowP2 rfl rfl rfl hb2 rfl rfl (one_par _ _ rfl) ?_; intro w3 hb3 hk3 hx; clear hx; have c3 := (LD hb3).1; have c4 := (LD hb3).2; have HE3 : Hid (Ext wr w3) := he2.of_but hk3 (fun q e => by subst e; exact Nat.le_refl _)))
        go_roundg (n - (i + 1))
        case measure => omega
        case rel => exact ⟨i + 1, false, by omega, rfl, rfl, by simp, by omega, ⟨by rw [HP.out, all_snoc, ← HR.out.1.1]; rfl, HG.out⟩, HR.out.2.trans HE3.out⟩
    · have hd : decide ((i : Int) < (n : Int)) = false := decide_eq_false (by omega)
      have HT : Hid (L.take i = L) := List.take_of_length_le (by rw [← HN.out]; omega)
      rw [HT.out] at HR
      have hn13 : n ≤ 13 := by omega
      have hwl : (writeB L).length ≤ 78000 := by have h1 := writeB_len L HR.out.1.2; rw [← HN.out] at h1; omega
      cases gb with
      | true =>
        have hall : ∀ p ∈ L, goodP p = true := List.all_eq_true.1 HR.out.1.1.symm
        have HG : Hid ((∀ p ∈ L, p.2.length ≤ 5000) ∧ (writeB L).length ≤ 700000 ∧ (∀ p ∈ L, goodP p = true) ∧ readAll (writeB L) = some L ∧ (writeB L).length ≤ 78000) := ⟨HR.out.1.2, by omega, hall, readAll_write L hall, hwl⟩
        clear hall hwl
        by_cases hk0 : 0 ≤ kd
        · have d0 : decide (kd ≥ 0) = true := decide_eq_true hk0
          by_cases hk1 : kd ≤ 65535
          · have d1 : decide (kd ≤ 65535) = true := decide_eq_true hk1
            obtain ⟨q, hq⟩ : ∃ q : Int, q = kd / 16384 := ⟨_, rfl⟩
            have hq1 : kd / 16384 = q := hq.symm
            obtain ⟨Pb, hPb⟩ : ∃ x : Bool, x = decide (q ≥ 2) := ⟨_, rfl⟩
            obtain ⟨Rb, hRb⟩ : ∃ x : Bool, x = decide (q % 2 = 1) := ⟨_, rfl⟩
            have hP : actP kd = Pb := by unfold actP isKd; rw [hq1, hPb]; simp [hk0, hk1]
            have hR2 : actR kd = Rb := by unfold actR isKd; rw [hq1, hRb]; simp [hk0, hk1]
            have e1 : decide (q ≥ 2) = Pb := hPb.symm
            have e2 : decide (2 ≤ q) = Pb := hPb.symm
            have e3 : decide (q % 2 = 1) = Rb := hRb.symm
            have e4 : (q % 2 == 1) = Rb := by rw [hRb]; rfl
            have hq0 : 0 ≤ q ∧ q < 4 := by omega
            have hqa := hq0.1
            have hqb := hq0.2
            have hqt : kd.tdiv 16384 = q := by rw [Int.tdiv_eq_ediv_of_nonneg hk0]; exact hq1
            have hqm : q.tmod 2 = q % 2 := Int.tmod_eq_emod_of_nonneg hqa
            clear hq hq0 hPb hRb
            go_wp2_with (first
              | (go_at_call 28; refine (action_any _ _).mono ?_; rintro e w4 ⟨rfl, hw⟩; subst w4; rw [hP, hR2])
              | (go_at_call 30; refine (lawParams_any (HV.out.ext HR.out.2) (by rw [← HN.out]; omega) HG.out.1).mono ?_; rintro e w5 ⟨pv, rfl, hl5, he5⟩)
              | (go_at_call 29; refine (write_good hl5.pars HG.out.2.1 (by rw [← HN.out]; omega) HG.out.2.2.1).mono ?_; rintro e w6 ⟨he6, ba, bn, bc, rfl, hbn, ho6⟩; clear hbn)
              | (go_at_call 31; refine (params_some ho6.bytes (by have := HG.out.2.2.2.2; omega) HG.out.2.2.2.1).mono ?_; rintro e w7 ⟨he7, lv, rfl, hl7⟩))
            have HB : Hid (BytesAt w7.drew (.slice ba bn bc) (writeB L) ∧ ParsAt w7.drew (.slice a n cap) L ∧ OwnL 75 w7.drew w6.heap.size lv L ∧ (writeB L).length ≤ 700000 ∧ L.length ≤ 100000 ∧ ∀ p ∈ L, goodP p = true) := ⟨ho6.bytes.ext (he7.trans (Ext.drew _)), HV.out.ext (((HR.out.2.trans he5).trans he6).trans (he7.trans (Ext.drew _))), hl7.ext (Ext.drew _), HG.out.2.1, by rw [← HN.out]; omega, HG.out.2.2.1⟩
            have HEE : Hid (Ext w w7.drew) := ((HR.out.2.trans he5).trans he6).trans (he7.trans (Ext.drew _))
            clear hl5 he5 ho6 he6 he7 hl7
            refine wp_region_facts (fun t => bif Nat.ble 82 t && Nat.ble t 100 then some (t - 82) else bif Nat.beq t 4 then some 19 else none) 101 Ext
              [Is (.nilIface),
               Is (.bool true),
               Is (.bool true),
               Is (.nilIface),
               Is (.bool true),
               Is (.bool true),
               Is (.bool true),
               Is (.slice ba bn bc),
               Is (.string (strOf (writeB L))),
               Is (.slice a n cap),
               (ReadsAs (writeB L)),
               Is (.string (strOf (writeB L))),
               Is (.bool true),
               Is (.bool true),
               Is (.bool true),
               Is (lv),
               Is (.slice a n cap),
               Is (.bool true),
               Is (.bool true),
               Is (.bool true)]
              rfl (by kernel_rfl) (by kernel_rfl) rfl Ext.refl (fun _ _ _ => Ext.trans) ?_ ?_ ?_
            · exact KeepAll.is (KeepAll.is (KeepAll.is (KeepAll.is (KeepAll.is (KeepAll.is (KeepAll.is (KeepAll.is (KeepAll.is (KeepAll.is (KeepAll.cons (fun _ _ _ hR h => h.ext hR) (KeepAll.is (KeepAll.is (KeepAll.is (KeepAll.is (KeepAll.is (KeepAll.is (KeepAll.is (KeepAll.is (KeepAll.is (KeepAll.nil))))))))))))))))))))
            · refine GoodAll.cons ?_ ?_
              · intro r wx hR hx
                obtain ⟨h1, _⟩ := hx
                replace h1 : r (.tmp 12) = (.nilIface) := h1
                exact give_move (.inl rfl) ⟨Ext.refl _, h1⟩
              refine GoodAll.cons ?_ ?_
              · intro r wx hR hx
                obtain ⟨h1, h2, _⟩ := hx
                replace h1 : r (.tmp 82) = (.nilIface) := h1
                replace h2 : r (.const (.nilIface)) = .nilIface := h2
                exact give_of (by simp [execOp, h1, h2, go_sem]) ⟨Ext.refl _, rfl⟩
              refine GoodAll.cons ?_ ?_
              · intro r wx hR hx
                obtain ⟨h1, _⟩ := hx
                replace h1 : r (.tmp 83) = (.bool true) := h1
                exact give_move (.inl rfl) ⟨Ext.refl _, h1⟩
              refine GoodAll.cons ?_ ?_
              · intro r wx hR hx
                obtain ⟨h1, _⟩ := hx
                replace h1 : r (.tmp 14) = (.nilIface) := h1
                intro gb hgb
                refine guard_in (b := gb) (want := true) hgb ?_
                exact give_move (.inl rfl) ⟨Ext.refl _, h1⟩
              refine GoodAll.cons ?_ ?_
              · intro r wx hR hx
                obtain ⟨h1, h2, _⟩ := hx
                replace h1 : r (.tmp 85) = (.nilIface) := h1
                replace h2 : r (.const (.nilIface)) = .nilIface := h2
                intro gb hgb
                refine guard_in (b := gb) (want := true) hgb ?_
                exact give_of (by simp [execOp, h1, h2, go_sem]) ⟨Ext.refl _, rfl⟩
              refine GoodAll.cons ?_ ?_
              · intro r wx hR hx
                obtain ⟨h1, h2, h3, _⟩ := hx
                replace h1 : r (.tmp 84) = (.bool true) := h1
                replace h2 : r (.tmp 86) = (.bool true) := h2
                replace h3 : r (.const (.bool false)) = .bool false := h3
                exact give_pick rfl h1 ⟨Ext.refl _, h2⟩
              refine GoodAll.cons ?_ ?_
              · intro r wx hR hx
                obtain ⟨h1, _⟩ := hx
                replace h1 : r (.tmp 87) = (.bool true) := h1
                exact give_move (.inl rfl) ⟨Ext.refl _, h1⟩
              refine GoodAll.cons ?_ ?_
              · intro r wx hR hx
                obtain ⟨h1, _⟩ := hx
                replace h1 : r (.tmp 11) = (.slice ba bn bc) := h1
                intro gb hgb
                refine guard_in (b := gb) (want := true) hgb ?_
                exact give_move (.inl rfl) ⟨Ext.refl _, h1⟩
              refine GoodAll.cons ?_ ?_
              · intro r wx hR hx
                obtain ⟨h1, _⟩ := hx
                replace h1 : r (.tmp 89) = (.slice ba bn bc) := h1
                intro gb hgb
                refine guard_in (b := gb) (want := true) hgb ?_
                exact give_of (exec_string byteT strT rfl _ _ (by rw [h1]; exact HB.out.1.ext hR)) ⟨Ext.refl _, rfl⟩
              refine GoodAll.cons ?_ ?_
              · intro r wx hR hx
                obtain ⟨h1, _⟩ := hx
                replace h1 : r (.tmp 0) = (.slice a n cap) := h1
                intro gb hgb
                refine guard_in (b := gb) (want := true) hgb ?_
                exact give_move (.inl rfl) ⟨Ext.refl _, h1⟩
              refine GoodAll.cons ?_ ?_
              · intro r wx hR hx
                obtain ⟨h1, h2, _⟩ := hx
                replace h1 : r (.func 32) = .func (.func 32) #[] #[] := h1
                replace h2 : r (.tmp 91) = (.slice a n cap) := h2
                intro gb hgb
                refine guard_in (b := gb) (want := true) hgb ?_
                refine give_func #[.slice a n cap] rfl h1 Try.call32 (by simp [h2]) ?_
                refine (refWrite_any (HB.out.2.1.ext hR) HB.out.2.2.2.1 HB.out.2.2.2.2.1 HB.out.2.2.2.2.2).mono ?_
                rintro e w1 ⟨qa, qm, qc, rfl, hqo, hqe⟩
                exact ⟨_, rfl, hqe, hqo.bytes⟩
              refine GoodAll.cons ?_ ?_
              · intro r wx hR hx
                obtain ⟨h1, _⟩ := hx
                replace h1 : ((ReadsAs (writeB L)) : Fact) wx (r (.tmp 92)) := h1
                intro gb hgb
                refine guard_in (b := gb) (want := true) hgb ?_
                exact give_of (exec_string byteT strT rfl _ _ h1) ⟨Ext.refl _, rfl⟩
              refine GoodAll.cons ?_ ?_
              · intro r wx hR hx
                obtain ⟨h1, h2, _⟩ := hx
                replace h1 : r (.tmp 90) = (.string (strOf (writeB L))) := h1
                replace h2 : r (.tmp 93) = (.string (strOf (writeB L))) := h2
                intro gb hgb
                refine guard_in (b := gb) (want := true) hgb ?_
                exact give_of (by simp [execOp, h1, h2, go_sem]) ⟨Ext.refl _, rfl⟩
              refine GoodAll.cons ?_ ?_
              · intro r wx hR hx
                obtain ⟨h1, h2, h3, _⟩ := hx
                replace h1 : r (.tmp 88) = (.bool true) := h1
                replace h2 : r (.tmp 94) = (.bool true) := h2
                replace h3 : r (.const (.bool false)) = .bool false := h3
                exact give_pick rfl h1 ⟨Ext.refl _, h2⟩
              refine GoodAll.cons ?_ ?_
              · intro r wx hR hx
                obtain ⟨h1, _⟩ := hx
                replace h1 : r (.tmp 95) = (.bool true) := h1
                exact give_move (.inl rfl) ⟨Ext.refl _, h1⟩
              refine GoodAll.cons ?_ ?_
              · intro r wx hR hx
                obtain ⟨h1, _⟩ := hx
                replace h1 : r (.tmp 13) = (lv) := h1
                intro gb hgb
                refine guard_in (b := gb) (want := true) hgb ?_
                exact give_move (.inl rfl) ⟨Ext.refl _, h1⟩
              refine GoodAll.cons ?_ ?_
              · intro r wx hR hx
                obtain ⟨h1, _⟩ := hx
                replace h1 : r (.tmp 0) = (.slice a n cap) := h1
                intro gb hgb
                refine guard_in (b := gb) (want := true) hgb ?_
                exact give_move (.inl rfl) ⟨Ext.refl _, h1⟩
              refine GoodAll.cons ?_ ?_
              · intro r wx hR hx
                obtain ⟨h1, h2, h3, _⟩ := hx
                replace h1 : r (.func 33) = .func (.func 33) #[] #[] := h1
                replace h2 : r (.tmp 97) = (lv) := h2
                replace h3 : r (.tmp 98) = (.slice a n cap) := h3
                intro gb hgb
                refine guard_in (b := gb) (want := true) hgb ?_
                refine give_func #[lv, .slice a n cap] rfl h1 Try.call33 (by simp [h2, h3]) ?_
                refine (same_eq (HB.out.2.2.1.ext hR).pars (HB.out.2.1.ext hR)).mono ?_
                rintro e w1 ⟨rfl, hqe⟩
                exact ⟨_, rfl, hqe, rfl⟩
              refine GoodAll.cons ?_ ?_
              · intro r wx hR hx
                obtain ⟨h1, h2, h3, _⟩ := hx
                replace h1 : r (.tmp 96) = (.bool true) := h1
                replace h2 : r (.tmp 99) = (.bool true) := h2
                replace h3 : r (.const (.bool false)) = .bool false := h3
                exact give_pick rfl h1 ⟨Ext.refl _, h2⟩
              refine GoodAll.cons ?_ ?_
              · intro r wx hR hx
                obtain ⟨h1, _⟩ := hx
                replace h1 : r (.tmp 100) = (.bool true) := h1
                exact give_move (.inr rfl) ⟨Ext.refl _, h1⟩
              exact GoodAll.nil
            · intro vs w8 a8 hR hold ha8
              have hv0 : vs 0 = (.nilIface) := hold.at 0
              have hv1 : vs 1 = (.bool true) := hold.at 1
              have hv2 : vs 2 = (.bool true) := hold.at 2
              have hv3 : vs 3 = (.nilIface) := hold.at 3
              have hv4 : vs 4 = (.bool true) := hold.at 4
              have hv5 : vs 5 = (.bool true) := hold.at 5
              have hv6 : vs 6 = (.bool true) := hold.at 6
              have hv7 : vs 7 = (.slice ba bn bc) := hold.at 7
              have hv8 : vs 8 = (.string (strOf (writeB L))) := hold.at 8
              have hv9 : vs 9 = (.slice a n cap) := hold.at 9
              have hq10 := hold.at 10
              have hv11 : vs 11 = (.string (strOf (writeB L))) := hold.at 11
              have hv12 : vs 12 = (.bool true) := hold.at 12
              have hv13 : vs 13 = (.bool true) := hold.at 13
              have hv14 : vs 14 = (.bool true) := hold.at 14
              have hv15 : vs 15 = (lv) := hold.at 15
              have hv16 : vs 16 = (.slice a n cap) := hold.at 16
              have hv17 : vs 17 = (.bool true) := hold.at 17
              have hv18 : vs 18 = (.bool true) := hold.at 18
              have hv19 : vs 19 = (.bool true) := hold.at 19
              simp only [putAll, Act.put, hv0, hv1, hv2, hv3, hv4, hv5, hv6, hv7, hv8, hv9, hv11, hv12, hv13, hv14, hv15, hv16, hv17, hv18, hv19, List.setIfInBounds_toArray, List.set_cons_succ, List.set_cons_zero] at ha8
              generalize vs 10 = x10 at ha8
              subst ha8
              clear hold hv0 hv1 hv2 hv3 hv4 hv5 hv6 hv7 hv8 hv9 hv11 hv12 hv13 hv14 hv15 hv16 hv17 hv18 hv19 hq10
              go_wp2
              go_ret
              exact ⟨rfl, HEE.out.trans hR⟩
          · have d1 : decide (kd ≤ 65535) = false := decide_eq_false hk1
            have hP : actP kd = false := by unfold actP isKd; simp [hk1]
            have hR2 : actR kd = false := by unfold actR isKd; simp [hk1]
            go_wp2_with (first
              | (go_at_call 28; refine (action_any _ _).mono ?_; rintro e w4 ⟨rfl, hw⟩; subst w4; rw [hP, hR2])
              | (go_at_call 30; refine (lawParams_any (HV.out.ext HR.out.2) (by rw [← HN.out]; omega) HG.out.1).mono ?_; rintro e w5 ⟨pv, rfl, hl5, he5⟩)
              | (go_at_call 29; refine (write_good hl5.pars HG.out.2.1 (by rw [← HN.out]; omega) HG.out.2.2.1).mono ?_; rintro e w6 ⟨he6, ba, bn, bc, rfl, hbn, ho6⟩; clear hbn)
              | (go_at_call 31; refine (params_some ho6.bytes (by have := HG.out.2.2.2.2; omega) HG.out.2.2.2.1).mono ?_; rintro e w7 ⟨he7, lv, rfl, hl7⟩))
            have HB : Hid (BytesAt w7.drew (.slice ba bn bc) (writeB L) ∧ ParsAt w7.drew (.slice a n cap) L ∧ OwnL 75 w7.drew w6.heap.size lv L ∧ (writeB L).length ≤ 700000 ∧ L.length ≤ 100000 ∧ ∀ p ∈ L, goodP p = true) := ⟨ho6.bytes.ext (he7.trans (Ext.drew _)), HV.out.ext (((HR.out.2.trans he5).trans he6).trans (he7.trans (Ext.drew _))), hl7.ext (Ext.drew _), HG.out.2.1, by rw [← HN.out]; omega, HG.out.2.2.1⟩
            have HEE : Hid (Ext w w7.drew) := ((HR.out.2.trans he5).trans he6).trans (he7.trans (Ext.drew _))
            clear hl5 he5 ho6 he6 he7 hl7
            refine wp_region_facts (fun t => bif Nat.ble 82 t && Nat.ble t 100 then some (t - 82) else bif Nat.beq t 4 then some 19 else none) 101 Ext
              [Is (.nilIface),
               Is (.bool true),
               Is (.bool true),
               Is (.nilIface),
               Is (.bool true),
               Is (.bool true),
               Is (.bool true),
               Is (.slice ba bn bc),
               Is (.string (strOf (writeB L))),
               Is (.slice a n cap),
               (ReadsAs (writeB L)),
               Is (.string (strOf (writeB L))),
               Is (.bool true),
               Is (.bool true),
               Is (.bool true),
               Is (lv),
               Is (.slice a n cap),
               Is (.bool true),
               Is (.bool true),
               Is (.bool true)]
              rfl (by kernel_rfl) (by kernel_rfl) rfl Ext.refl (fun _ _ _ => Ext.trans) ?_ ?_ ?_
            · exact KeepAll.is (KeepAll.is (KeepAll.is (KeepAll.is (KeepAll.is (KeepAll.is (KeepAll.is (KeepAll.is (KeepAll.is (KeepAll.is (KeepAll.cons (fun _ _ _ hR h => h.ext hR) (KeepAll.is (KeepAll.is (KeepAll.is (KeepAll.is (KeepAll.is (KeepAll.is (KeepAll.is (KeepAll.is (KeepAll.is (KeepAll.nil))))))))))))))))))))
            · refine GoodAll.cons ?_ ?_
              · intro r wx hR hx
                obtain ⟨h1, _⟩ := hx
                replace h1 : r (.tmp 12) = (.nilIface) := h1
                exact give_move (.inl rfl) ⟨Ext.refl _, h1⟩
              refine GoodAll.cons ?_ ?_
              · intro r wx hR hx
                obtain ⟨h1, h2, _⟩ := hx
                replace h1 : r (.tmp 82) = (.nilIface) := h1
                replace h2 : r (.const (.nilIface)) = .nilIface := h2
                exact give_of (by simp [execOp, h1, h2, go_sem]) ⟨Ext.refl _, rfl⟩
              refine GoodAll.cons ?_ ?_
              · intro r wx hR hx
                obtain ⟨h1, _⟩ := hx
                replace h1 : r (.tmp 83) = (.bool true) := h1
                exact give_move (.inl rfl) ⟨Ext.refl _, h1⟩
              refine GoodAll.cons ?_ ?_
              · intro r wx hR hx
                obtain ⟨h1, _⟩ := hx
                replace h1 : r (.tmp 14) = (.nilIface) := h1
                intro gb hgb
                refine guard_in (b := gb) (want := true) hgb ?_
                exact give_move (.inl rfl) ⟨Ext.refl _, h1⟩
              refine GoodAll.cons ?_ ?_
              · intro r wx hR hx
                obtain ⟨h1, h2, _⟩ := hx
                replace h1 : r (.tmp 85) = (.nilIface) := h1
                replace h2 : r (.const (.nilIface)) = .nilIface := h2
                intro gb hgb
                refine guard_in (b := gb) (want := true) hgb ?_
                exact give_of (by simp [execOp, h1, h2, go_sem]) ⟨Ext.refl _, rfl⟩
              refine GoodAll.cons ?_ ?_
              · intro r wx hR hx
                obtain ⟨h1, h2, h3, _⟩ := hx
                replace h1 : r (.tmp 84) = (.bool true) := h1
                replace h2 : r (.tmp 86) = (.bool true) := h2
                replace h3 : r (.const (.bool false)) = .bool false := h3
                exact give_pick rfl h1 ⟨Ext.refl _, h2⟩
              refine GoodAll.cons ?_ ?_
              · intro r wx hR hx
                obtain ⟨h1, _⟩ := hx
                replace h1 : r (.tmp 87) = (.bool true) := h1
                exact give_move (.inl rfl) ⟨Ext.refl _, h1⟩
              refine GoodAll.cons ?_ ?_
              · intro r wx hR hx
                obtain ⟨h1, _⟩ := hx
                replace h1 : r (.tmp 11) = (.slice ba bn bc) := h1
                intro gb hgb
                refine guard_in (b := gb) (want := true) hgb ?_
                exact give_move (.inl rfl) ⟨Ext.refl _, h1⟩
              refine GoodAll.cons ?_ ?_
              · intro r wx hR hx
                obtain ⟨h1, _⟩ := hx
                replace h1 : r (.tmp 89) = (.slice ba bn bc) := h1
                intro gb hgb
                refine guard_in (b := gb) (want := true) hgb ?_
                exact give_of (exec_string byteT strT rfl _ _ (by rw [h1]; exact HB.out.1.ext hR)) ⟨Ext.refl _, rfl⟩
              refine GoodAll.cons ?_ ?_
              · intro r wx hR hx
                obtain ⟨h1, _⟩ := hx
                replace h1 : r (.tmp 0) = (.slice a n cap) := h1
                intro gb hgb
                refine guard_in (b := gb) (want := true) hgb ?_
                exact give_move (.inl rfl) ⟨Ext.refl _, h1⟩
              refine GoodAll.cons ?_ ?_
              · intro r wx hR hx
                obtain ⟨h1, h2, _⟩ := hx
                replace h1 : r (.func 32) = .func (.func 32) #[] #[] := h1
                replace h2 : r (.tmp 91) = (.slice a n cap) := h2
                intro gb hgb
                refine guard_in (b := gb) (want := true) hgb ?_
                refine give_func #[.slice a n cap] rfl h1 Try.call32 (by simp [h2]) ?_
                refine (refWrite_any (HB.out.2.1.ext hR) HB.out.2.2.2.1 HB.out.2.2.2.2.1 HB.out.2.2.2.2.2).mono ?_
                rintro e w1 ⟨qa, qm, qc, rfl, hqo, hqe⟩
                exact ⟨_, rfl, hqe, hqo.bytes⟩
              refine GoodAll.cons ?_ ?_
              · intro r wx hR hx
                obtain ⟨h1, _⟩ := hx
                replace h1 : ((ReadsAs (writeB L)) : Fact) wx (r (.tmp 92)) := h1
                intro gb hgb
                refine guard_in (b := gb) (want := true) hgb ?_
                exact give_of (exec_string byteT strT rfl _ _ h1) ⟨Ext.refl _, rfl⟩
              refine GoodAll.cons ?_ ?_
              · intro r wx hR hx
                obtain ⟨h1, h2, _⟩ := hx
                replace h1 : r (.tmp 90) = (.string (strOf (writeB L))) := h1
                replace h2 : r (.tmp 93) = (.string (strOf (writeB L))) := h2
                intro gb hgb
                refine guard_in (b := gb) (want := true) hgb ?_
                exact give_of (by simp [execOp, h1, h2, go_sem]) ⟨Ext.refl _, rfl⟩
              refine GoodAll.cons ?_ ?_
              · intro r wx hR hx
                obtain ⟨h1, h2, h3, _⟩ := hx
                replace h1 : r (.tmp 88) = (.bool true) := h1
                replace h2 : r (.tmp 94) = (.bool true) := h2
                replace h3 : r (.const (.bool false)) = .bool false := h3
                exact give_pick rfl h1 ⟨Ext.refl _, h2⟩
              refine GoodAll.cons ?_ ?_
              · intro r wx hR hx
                obtain ⟨h1, _⟩ := hx
                replace h1 : r (.tmp 95) = (.bool true) := h1
                exact give_move (.inl rfl) ⟨Ext.refl _, h1⟩
              refine GoodAll.cons ?_ ?_
              · intro r wx hR hx
                obtain ⟨h1, _⟩ := hx
                replace h1 : r (.tmp 13) = (lv) := h1
                intro gb hgb
                refine guard_in (b := gb) (want := true) hgb ?_
                exact give_move (.inl rfl) ⟨Ext.refl _, h1⟩
              refine GoodAll.cons ?_ ?_
              · intro r wx hR hx
                obtain ⟨h1, _⟩ := hx
                replace h1 : r (.tmp 0) = (.slice a n cap) := h1
                intro gb hgb
                refine guard_in (b := gb) (want := true) hgb ?_
                exact give_move (.inl rfl) ⟨Ext.refl _, h1⟩
              refine GoodAll.cons ?_ ?_
              · intro r wx hR hx
                obtain ⟨h1, h2, h3, _⟩ := hx
                replace h1 : r (.func 33) = .func (.func 33) #[] #[] := h1
                replace h2 : r (.tmp 97) = (lv) := h2
                replace h3 : r (.tmp 98) = (.slice a n cap) := h3
                intro gb hgb
                refine guard_in (b := gb) (want := true) hgb ?_
                refine give_func #[lv, .slice a n cap] rfl h1 Try.call33 (by simp [h2, h3]) ?_
                refine (same_eq (HB.out.2.2.1.ext hR).pars (HB.out.2.1.ext hR)).mono ?_
                rintro e w1 ⟨rfl, hqe⟩
                exact ⟨_, rfl, hqe, rfl⟩
              refine GoodAll.cons ?_ ?_
              · intro r wx hR hx
                obtain ⟨h1, h2, h3, _⟩ := hx
                replace h1 : r (.tmp 96) = (.bool true) := h1
                replace h2 : r (.tmp 99) = (.bool true) := h2
                replace h3 : r (.const (.bool false)) = .bool false := h3
                exact give_pick rfl h1 ⟨Ext.refl _, h2⟩
              refine GoodAll.cons ?_ ?_
              · intro r wx hR hx
                obtain ⟨h1, _⟩ := hx
                replace h1 : r (.tmp 100) = (.bool true) := h1
                exact give_move (.inr rfl) ⟨Ext.refl _, h1⟩
              exact GoodAll.nil
            · intro vs w8 a8 hR hold ha8
              have hv0 : vs 0 = (.nilIface) := hold.at 0
              have hv1 : vs 1 = (.bool true) := hold.at 1
              have hv2 : vs 2 = (.bool true) := hold.at 2
              have hv3 : vs 3 = (.nilIface) := hold.at 3
              have hv4 : vs 4 = (.bool true) := hold.at 4
              have hv5 : vs 5 = (.bool true) := hold.at 5
              have hv6 : vs 6 = (.bool true) := hold.at 6
              have hv7 : vs 7 = (.slice ba bn bc) := hold.at 7
              have hv8 : vs 8 = (.string (strOf (writeB L))) := hold.at 8
              have hv9 : vs 9 = (.slice a n cap) := hold.at 9
              have hq10 := hold.at 10
              have hv11 : vs 11 = (.string (strOf (writeB L))) := hold.at 11
              have hv12 : vs 12 = (.bool true) := hold.at 12
              have hv13 : vs 13 = (.bool true) := hold.at 13
              have hv14 : vs 14 = (.bool true) := hold.at 14
              have hv15 : vs 15 = (lv) := hold.at 15
              have hv16 : vs 16 = (.slice a n cap) := hold.at 16
              have hv17 : vs 17 = (.bool true) := hold.at 17
              have hv18 : vs 18 = (.bool true) := hold.at 18
              have hv19 : vs 19 = (.bool true) := hold.at 19
              simp only [putAll, Act.put, hv0, hv1, hv2, hv3, hv4, hv5, hv6, hv7, hv8, hv9, hv11, hv12, hv13, hv14, hv15, hv16, hv17, hv18, hv19, List.setIfInBounds_toArray, List.set_cons_succ, List.set_cons_zero] at ha8
              generalize vs 10 = x10 at ha8
              subst ha8
              clear hold hv0 hv1 hv2 hv3 hv4 hv5 hv6 hv7 hv8 hv9 hv11 hv12 hv13 hv14 hv15 hv16 hv17 hv18 hv19 hq10
              go_wp2
              go_ret
              exact ⟨rfl, HEE.out.trans hR⟩
        · have d0 : decide (kd ≥ 0) = false := decide_eq_false hk0
          have hP : actP kd = false := by unfold actP isKd; simp [hk0]
          have hR2 : actR kd = false := by unfold actR isKd; simp [hk0]
          go_wp2_with (first
            | (go_at_call 28; refine (action_any _ _).mono ?_; rintro e w4 ⟨rfl, hw⟩; subst w4; rw [hP, hR2])
            | (go_at_call 30; refine (lawParams_any (HV.out.ext HR.out.2) (by rw [← HN.out]; omega) HG.out.1).mono ?_; rintro e w5 ⟨pv, rfl, hl5, he5⟩)
            | (go_at_call 29; refine (write_good hl5.pars HG.out.2.1 (by rw [← HN.out]; omega) HG.out.2.2.1).mono ?_; rintro e w6 ⟨he6, ba, bn, bc, rfl, hbn, ho6⟩; clear hbn)
            | (go_at_call 31; refine (params_some ho6.bytes (by have := HG.out.2.2.2.2; omega) HG.out.2.2.2.1).mono ?_; rintro e w7 ⟨he7, lv, rfl, hl7⟩))
          have HB : Hid (BytesAt w7.drew (.slice ba bn bc) (writeB L) ∧ ParsAt w7.drew (.slice a n cap) L ∧ OwnL 75 w7.drew w6.heap.size lv L ∧ (writeB L).length ≤ 700000 ∧ L.length ≤ 100000 ∧ ∀ p ∈ L, goodP p = true) := ⟨ho6.bytes.ext (he7.trans (Ext.drew _)), HV.out.ext (((HR.out.2.trans he5).trans he6).trans (he7.trans (Ext.drew _))), hl7.ext (Ext.drew _), HG.out.2.1, by rw [← HN.out]; omega, HG.out.2.2.1⟩
          have HEE : Hid (Ext w w7.drew) := ((HR.out.2.trans he5).trans he6).trans (he7.trans (Ext.drew _))
          clear hl5 he5 ho6 he6 he7 hl7
          refine wp_region_facts (fun t => bif Nat.ble 82 t && Nat.ble t 100 then some (t - 82) else bif Nat.beq t 4 then some 19 else none) 101 Ext
            [Is (.nilIface),
             Is (.bool true),
             Is (.bool true),
             Is (.nilIface),
             Is (.bool true),
             Is (.bool true),
             Is (.bool true),
             Is (.slice ba bn bc),
             Is (.string (strOf (writeB L))),
             Is (.slice a n cap),
             (ReadsAs (writeB L)),
             Is (.string (strOf (writeB L))),
             Is (.bool true),
             Is (.bool true),
             Is (.bool true),
             Is (lv),
             Is (.slice a n cap),
             Is (.bool true),
             Is (.bool true),
             Is (.bool true)]
            rfl (by kernel_rfl) (by kernel_rfl) rfl Ext.refl (fun _ _ _ => Ext.trans) ?_ ?_ ?_
          · exact KeepAll.is (KeepAll.is (KeepAll.is (KeepAll.is (KeepAll.is (KeepAll.is (KeepAll.is (KeepAll.is (KeepAll.is (KeepAll.is (KeepAll.cons (fun _ _ _ hR h => h.ext hR) (KeepAll.is (KeepAll.is (KeepAll.is (KeepAll.is (KeepAll.is (KeepAll.is (KeepAll.is (KeepAll.is (KeepAll.is (KeepAll.nil))))))))))))))))))))
          · refine GoodAll.cons ?_ ?_
            · intro r wx hR hx
              obtain ⟨h1, _⟩ := hx
              replace h1 : r (.tmp 12) = (.nilIface) := h1
              exact give_move (.inl rfl) ⟨Ext.refl _, h1⟩
            refine GoodAll.cons ?_ ?_
            · intro r wx hR hx
              obtain ⟨h1, h2, _⟩ := hx
              replace h1 : r (.tmp 82) = (.nilIface) := h1
              replace h2 : r (.const (.nilIface)) = .nilIface := h2
              exact give_of (by simp [execOp, h1, h2, go_sem]) ⟨Ext.refl _, rfl⟩
            refine GoodAll.cons ?_ ?_
            · intro r wx hR hx
              obtain ⟨h1, _⟩ := hx
              replace h1 : r (.tmp 83) = (.bool true) := h1
              exact give_move (.inl rfl) ⟨Ext.refl _, h1⟩
            refine GoodAll.cons ?_ ?_
            · intro r wx hR hx
              obtain ⟨h1, _⟩ := hx
              replace h1 : r (.tmp 14) = (.nilIface) := h1
              intro gb hgb
              refine guard_in (b := gb) (want := true) hgb ?_
              exact give_move (.inl rfl) ⟨Ext.refl _, h1⟩
            refine GoodAll.cons ?_ ?_
            · intro r wx hR hx
              obtain ⟨h1, h2, _⟩ := hx
              replace h1 : r (.tmp 85) = (.nilIface) := h1
              replace h2 : r (.const (.nilIface)) = .nilIface := h2
              intro gb hgb
              refine guard_in (b := gb) (want := true) hgb ?_
              exact give_of (by simp [execOp, h1, h2, go_sem]) ⟨Ext.refl _, rfl⟩
            refine GoodAll.cons ?_ ?_
            · intro r wx hR hx
              obtain ⟨h1, h2, h3, _⟩ := hx
              replace h1 : r (.tmp 84) = (.bool true) := h1
              replace h2 : r (.tmp 86) = (.bool true) := h2
              replace h3 : r (.const (.bool false)) = .bool false := h3
              exact give_pick rfl h1 ⟨Ext.refl _, h2⟩
            refine GoodAll.cons ?_ ?_
            · intro r wx hR hx
              obtain ⟨h1, _⟩ := hx
              replace h1 : r (.tmp 87) = (.bool true) := h1
              exact give_move (.inl rfl) ⟨Ext.refl _, h1⟩
            refine GoodAll.cons ?_ ?_
            · intro r wx hR hx
              obtain ⟨h1, _⟩ := hx
              replace h1 : r (.tmp 11) = (.slice ba bn bc) := h1
              intro gb hgb
              refine guard_in (b := gb) (want := true) hgb ?_
              exact give_move (.inl rfl) ⟨Ext.refl _, h1⟩
            refine GoodAll.cons ?_ ?_
            · intro r wx hR hx
              obtain ⟨h1, _⟩ := hx
              replace h1 : r (.tmp 89) = (.slice ba bn bc) := h1
              intro gb hgb
              refine guard_in (b := gb) (want := true) hgb ?_
              exact give_of (exec_string byteT strT rfl _ _ (by rw [h1]; exact HB.out.1.ext hR)) ⟨Ext.refl _, rfl⟩
            refine GoodAll.cons ?_ ?_
            · intro r wx hR hx
              obtain ⟨h1, _⟩ := hx
              replace h1 : r (.tmp 0) = (.slice a n cap) := h1
              intro gb hgb
              refine guard_in (b := gb) (want := true) hgb ?_
              exact give_move (.inl rfl) ⟨Ext.refl _, h1⟩
            refine GoodAll.cons ?_ ?_
            · intro r wx hR hx
              obtain ⟨h1, h2, _⟩ := hx
              replace h1 : r (.func 32) = .func (.func 32) #[] #[] := h1
              replace h2 : r (.tmp 91) = (.slice a n cap) := h2
              intro gb hgb
              refine guard_in (b := gb) (want := true) hgb ?_
              refine give_func #[.slice a n cap] rfl h1 Try.call32 (by simp [h2]) ?_
              refine (refWrite_any (HB.out.2.1.ext hR) HB.out.2.2.2.1 HB.out.2.2.2.2.1 HB.out.2.2.2.2.2).mono ?_
              rintro e w1 ⟨qa, qm, qc, rfl, hqo, hqe⟩
              exact ⟨_, rfl, hqe, hqo.bytes⟩
            refine GoodAll.cons ?_ ?_
            · intro r wx hR hx
              obtain ⟨h1, _⟩ := hx
              replace h1 : ((ReadsAs (writeB L)) : Fact) wx (r (.tmp 92)) := h1
              intro gb hgb
              refine guard_in (b := gb) (want := true) hgb ?_
              exact give_of (exec_string byteT strT rfl _ _ h1) ⟨Ext.refl _, rfl⟩
            refine GoodAll.cons ?_ ?_
            · intro r wx hR hx
              obtain ⟨h1, h2, _⟩ := hx
              replace h1 : r (.tmp 90) = (.string (strOf (writeB L))) := h1
              replace h2 : r (.tmp 93) = (.string (strOf (writeB L))) := h2
              intro gb hgb
              refine guard_in (b := gb) (want := true) hgb ?_
              exact give_of (by simp [execOp, h1, h2, go_sem]) ⟨Ext.refl _, rfl⟩
            refine GoodAll.cons ?_ ?_
            · intro r wx hR hx
              obtain ⟨h1, h2, h3, _⟩ := hx
              replace h1 : r (.tmp 88) = (.bool true) := h1
              replace h2 : r (.tmp 94) = (.bool true) := h2
              replace h3 : r (.const (.bool false)) = .bool false := h3
              exact give_pick rfl h1 ⟨Ext.refl _, h2⟩
            refine GoodAll.cons ?_ ?_
            · intro r wx hR hx
              obtain ⟨h1, _⟩ := hx
              replace h1 : r (.tmp 95) = (.bool true) := h1
              exact give_move (.inl rfl) ⟨Ext.refl _, h1⟩
            refine GoodAll.cons ?_ ?_
            · intro r wx hR hx
              obtain ⟨h1, _⟩ := hx
              replace h1 : r (.tmp 13) = (lv) := h1
              intro gb hgb
              refine guard_in (b := gb) (want := true) hgb ?_
              exact give_move (.inl rfl) ⟨Ext.refl _, h1⟩
            refine GoodAll.cons ?_ ?_
            · intro r wx hR hx
              obtain ⟨h1, _⟩ := hx
              replace h1 : r (.tmp 0) = (.slice a n cap) := h1
              intro gb hgb
              refine guard_in (b := gb) (want := true) hgb ?_
              exact give_move (.inl rfl) ⟨Ext.refl _, h1⟩
            refine GoodAll.cons ?_ ?_
            · intro r wx hR hx
              obtain ⟨h1, h2, h3, _⟩ := hx
              replace h1 : r (.func 33) = .func (.func 33) #[] #[] := h1
              replace h2 : r (.tmp 97) = (lv) := h2
              replace h3 : r (.tmp 98) = (.slice a n cap) := h3
              intro gb hgb
              refine guard_in (b := gb) (want := true) hgb ?_
              refine give_func #[lv, .slice a n cap] rfl h1 Try.call33 (by simp [h2, h3]) ?_
              refine (same_eq (HB.out.2.2.1.ext hR).pars (HB.out.2.1.ext hR)).mono ?_
              rintro e w1 ⟨rfl, hqe⟩
              exact ⟨_, rfl, hqe, rfl⟩
            refine GoodAll.cons ?_ ?_
            · intro r wx hR hx
              obtain ⟨h1, h2, h3, _⟩ := hx
              replace h1 : r (.tmp 96) = (.bool true) := h1
              replace h2 : r (.tmp 99) = (.bool true) := h2
              replace h3 : r (.const (.bool false)) = .bool false := h3
              exact give_pick rfl h1 ⟨Ext.refl _, h2⟩
            refine GoodAll.cons ?_ ?_
            · intro r wx hR hx
              obtain ⟨h1, _⟩ := hx
              replace h1 : r (.tmp 100) = (.bool true) := h1
              exact give_move (.inr rfl) ⟨Ext.refl _, h1⟩
            exact GoodAll.nil
          · intro vs w8 a8 hR hold ha8
            have hv0 : vs 0 = (.nilIface) := hold.at 0
            have hv1 : vs 1 = (.bool true) := hold.at 1
            have hv2 : vs 2 = (.bool true) := hold.at 2
            have hv3 : vs 3 = (.nilIface) := hold.at 3
            have hv4 : vs 4 = (.bool true) := hold.at 4
            have hv5 : vs 5 = (.bool true) := hold.at 5
            have hv6 : vs 6 = (.bool true) := hold.at 6
            have hv7 : vs 7 = (.slice ba bn bc) := hold.at 7
            have hv8 : vs 8 = (.string (strOf (writeB L))) := hold.at 8
            have hv9 : vs 9 = (.slice a n cap) := hold.at 9
            have hq10 := hold.at 10
            have hv11 : vs 11 = (.string (strOf (writeB L))) := hold.at 11
            have hv12 : vs 12 = (.bool true) := hold.at 12
            have hv13 : vs 13 = (.bool true) := hold.at 13
            have hv14 : vs 14 = (.bool true) := hold.at 14
            have hv15 : vs 15 = (lv) := hold.at 15
            have hv16 : vs 16 = (.slice a n cap) := hold.at 16
            have hv17 : vs 17 = (.bool true) := hold.at 17
            have hv18 : vs 18 = (.bool true) := hold.at 18
            have hv19 : vs 19 = (.bool true) := hold.at 19
            simp only [putAll, Act.put, hv0, hv1, hv2, hv3, hv4, hv5, hv6, hv7, hv8, hv9, hv11, hv12, hv13, hv14, hv15, hv16, hv17, hv18, hv19, List.setIfInBounds_toArray, List.set_cons_succ, List.set_cons_zero] at ha8
            generalize vs 10 = x10 at ha8
            subst ha8
            clear hold hv0 hv1 hv2 hv3 hv4 hv5 hv6 hv7 hv8 hv9 hv11 hv12 hv13 hv14 hv15 hv16 hv17 hv18 hv19 hq10
            go_wp2
            go_ret
            exact ⟨rfl, HEE.out.trans hR⟩
      | false =>
        have HG : Hid ((∀ p ∈ L, p.2.length ≤ 5000) ∧ (writeB L).length ≤ 700000 ∧ ¬ ∀ p ∈ L, goodP p = true) := ⟨HR.out.1.2, by omega, fun h => by
          have := List.all_eq_true.2 h
          rw [← HR.out.1.1] at this
          cases this⟩
        clear hwl
        by_cases hk0 : 0 ≤ kd
        · have d0 : decide (kd ≥ 0) = true := decide_eq_true hk0
          by_cases hk1 : kd ≤ 65535
          · have d1 : decide (kd ≤ 65535) = true := decide_eq_true hk1
            obtain ⟨q, hq⟩ : ∃ q : Int, q = kd / 16384 := ⟨_, rfl⟩
            have hq1 : kd / 16384 = q := hq.symm
            obtain ⟨Pb, hPb⟩ : ∃ x : Bool, x = decide (q ≥ 2) := ⟨_, rfl⟩
            obtain ⟨Rb, hRb⟩ : ∃ x : Bool, x = decide (q % 2 = 1) := ⟨_, rfl⟩
            have hP : actP kd = Pb := by unfold actP isKd; rw [hq1, hPb]; simp [hk0, hk1]
            have hR2 : actR kd = Rb := by unfold actR isKd; rw [hq1, hRb]; simp [hk0, hk1]
            have e1 : decide (q ≥ 2) = Pb := hPb.symm
            have e2 : decide (2 ≤ q) = Pb := hPb.symm
            have e3 : decide (q % 2 = 1) = Rb := hRb.symm
            have e4 : (q % 2 == 1) = Rb := by rw [hRb]; rfl
            have hq0 : 0 ≤ q ∧ q < 4 := by omega
            have hqa := hq0.1
            have hqb := hq0.2
            have hqt : kd.tdiv 16384 = q := by rw [Int.tdiv_eq_ediv_of_nonneg hk0]; exact hq1
            have hqm : q.tmod 2 = q % 2 := Int.tmod_eq_emod_of_nonneg hqa
            clear hq hq0 hPb hRb
            go_wp2_with (first
              | (go_at_call 28; refine (action_any _ _).mono ?_; rintro e w4 ⟨rfl, hw⟩; subst w4; rw [hP, hR2])
              | (go_at_call 30; refine (lawParams_any (HV.out.ext HR.out.2) (by rw [← HN.out]; omega) HG.out.1).mono ?_; rintro e w5 ⟨pv, rfl, hl5, he5⟩)
              | (go_at_call 29; refine (write_bad hl5.pars HG.out.2.1 (by rw [← HN.out]; omega) HG.out.2.2).mono ?_; rintro e w6 ⟨he6, rfl⟩)
              | (go_at_call 26; refine (isF _).mono ?_; rintro e w7 ⟨rfl, hw⟩; subst w7))
            go_ret
            exact ⟨rfl, (HR.out.2.trans he5).trans he6⟩
          · have d1 : decide (kd ≤ 65535) = false := decide_eq_false hk1
            have hP : actP kd = false := by unfold actP isKd; simp [hk1]
            have hR2 : actR kd = false := by unfold actR isKd; simp [hk1]
            go_wp2_with (first
              | (go_at_call 28; refine (action_any _ _).mono ?_; rintro e w4 ⟨rfl, hw⟩; subst w4; rw [hP, hR2])
              | (go_at_call 30; refine (lawParams_any (HV.out.ext HR.out.2) (by rw [← HN.out]; omega) HG.out.1).mono ?_; rintro e w5 ⟨pv, rfl, hl5, he5⟩)
              | (go_at_call 29; refine (write_bad hl5.pars HG.out.2.1 (by rw [← HN.out]; omega) HG.out.2.2).mono ?_; rintro e w6 ⟨he6, rfl⟩)
              | (go_at_call 26; refine (isF _).mono ?_; rintro e w7 ⟨rfl, hw⟩; subst w7))
            go_ret
            exact ⟨rfl, (HR.out.2.trans he5).trans he6⟩
        · have d0 : decide (kd ≥ 0) = false := decide_eq_false hk0
          have hP : actP kd = false := by unfold actP isKd; simp [hk0]
          have hR2 : actR kd = false := by unfold actR isKd; simp [hk0]
          go_wp2_with (first
            | (go_at_call 28; refine (action_any _ _).mono ?_; rintro e w4 ⟨rfl, hw⟩; subst w4; rw [hP, hR2])
            | (go_at_call 30; refine (lawParams_any (HV.out.ext HR.out.2) (by rw [← HN.out]; omega) HG.out.1).mono ?_; rintro e w5 ⟨pv, rfl, hl5, he5⟩)
            | (go_at_call 29; refine (write_bad hl5.pars HG.out.2.1 (by rw [← HN.out]; omega) HG.out.2.2).mono ?_; rintro e w6 ⟨he6, rfl⟩)
            | (go_at_call 26; refine (isF _).mono ?_; rintro e w7 ⟨rfl, hw⟩; subst w7))
          go_ret
          exact ⟨rfl, (HR.out.2.trans he5).trans he6⟩
end Tlv
end Go.Proofs.Ytmfciiccomagpaa
