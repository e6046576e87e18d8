/- Parameters written, as the document does. No condition of its own. -/
import Derived.Test.YtmfciiccomagpaaPar6
import Derived.Test.YtmfciiccomagpaaRef7
namespace Go.Proofs.Ytmfciiccomagpaa
namespace Tlv
open Go Go.RowKit
set_option linter.unusedVariables false
set_option linter.unusedSimpArgs false
set_option maxRecDepth 100000


theorem numBe2 (N : Nat) : numB N 2 = be N 2 := rfl
/-- A slice of the own that reads as these bytes. -/
def NumV (N0 : Nat) (l : List Nat) : World → Value → Prop := fun w v => ∃ a c, v = .slice a l.length c ∧ OB w N0 v l
theorem NumV.turn {N0 : Nat} {l K Z : List Nat} {a b : World} {v : Value} (h : NumV N0 l a v) (hR : Turns N0 K Z a b) (hp : l <+: K ++ Z) : NumV N0 l b v := by
  obtain ⟨x, c, e, ho⟩ := h
  exact ⟨x, c, e, hR.ob ho hp⟩
theorem NumV.turnK {N0 : Nat} {l K Z : List Nat} {a b : World} {v : Value} (h : NumV N0 l a v) (hR : Turns N0 K Z a b) (hp : l.length ≤ K.length) : NumV N0 l b v := by
  obtain ⟨x, c, e, ho⟩ := h
  exact ⟨x, c, e, hR.obK ho hp⟩
theorem parB_pad (k : Int) (m : List Nat) : parB (k, m) = padB ((be k.toNat 2 ++ be (m.length + 4) 2) ++ m) := by
  rw [padB_app (by rw [List.length_append, be_len, be_len])]
  rfl
set_option maxHeartbeats 4000000 in
theorem refWrite_any {w : World} {v : Value} {L : List Par} (hv : ParsAt w v L) (hlen : (writeB L).length ≤ 700000) (hL : L.length ≤ 100000) (hg : ∀ p ∈ L, goodP p = true) :
    Calls Try.prog 32 #[v] w fun e w' => ∃ a n c, e = .returned (.slice a n c) ∧ OB w' w.heap.size (.slice a n c) (writeB L) ∧ Ext w w' := by
  obtain ⟨_, a, c, rfl, hc⟩ := hv
  have HC : Hid (∀ i p, L[i]? = some p → ∃ b off u, a = some ⟨b, off, none⟩ ∧ w.cell? ⟨b, off + i * 2, none⟩ = some (.int .i64 p.1) ∧ w.cell? ⟨b, off + i * 2 + 1, none⟩ = some u ∧ BytesAt w u p.2) := hc
  have HL : Hid ((writeB L).length ≤ 700000 ∧ ∀ p ∈ L, goodP p = true) := ⟨hlen, hg⟩
  clear hc hlen hg
  obtain ⟨n, hn⟩ : ∃ n, n = L.length := ⟨_, rfl⟩
  have HN : Hid (n = L.length) := hn
  rw [← hn] at hL ⊢
  clear hn
  go_enter Try.func32, Try.ntmps32
  go_wp2
  go_loopg [3, 4] n (fun gm x t wr => ∃ (i : Nat) (oa : Option Addr) (on oc : Nat), i ≤ n ∧ gm = n - i ∧ x = .slice oa on oc ∧ t = .int .i64 (i : Int) ∧ Hid (OB wr w.heap.size (.slice oa on oc) (writeB (L.take i)) ∧ Ext w wr))
  case atStart => exact ⟨0, none, 0, 0, Nat.zero_le _, rfl, rfl, rfl, OB.nil _ _, Ext.refl _⟩
  case round =>
    obtain ⟨i, oa, on, oc, hi, rfl, rfl, rfl, HR⟩ := hrel
    by_cases hlt : i < n
    · have hd : decide ((i : Int) < (n : Int)) = true := decide_eq_true (by omega)
      have hd2 : decide (i < n) = true := decide_eq_true hlt
      obtain ⟨p, hp⟩ : ∃ p, L[i]? = some p := ⟨L[i]'(by rw [← HN.out]; exact hlt), by simp⟩
      have hgp := HL.out.2 p (List.mem_of_getElem? hp)
      have HP : Hid (writeB (L.take (i + 1)) = writeB (L.take i) ++ parB p) := show _ = _ by rw [take_getD hp, writeB_snoc]
      obtain ⟨b, off, u, rfl, hc0, hc1, hbu⟩ := HC.out i p hp
      clear hp
      obtain ⟨k, m⟩ := p
      obtain ⟨K, rfl⟩ : ∃ K : Nat, k = (K : Int) := ⟨k.toNat, by have := (goodP_iff (k, m)).1 hgp; simp only at this; omega⟩
      have hK : K < 65536 := by have := (goodP_iff ((K : Int), m)).1 hgp; simp only at this; omega
      have hm4 : m.length ≤ 4000 := ((goodP_iff ((K : Int), m)).1 hgp).2.2
      clear hgp
      obtain ⟨ua, uc, rfl, _, _⟩ := hbu.form
      rename_i z1 z2
      clear z1 z2
      simp only at hc0 hc1 hbu HP
      obtain ⟨um, hum⟩ : ∃ q, q = m.length := ⟨_, rfl⟩
      obtain ⟨m4, hm⟩ : ∃ q, q = um + 4 := ⟨_, rfl⟩
      have HP2 : Hid (writeB (L.take (i + 1)) = writeB (L.take i) ++ padB ((be K 2 ++ be m4 2) ++ m)) := show _ = _ by rw [HP.out, parB_pad, hm, hum]; rfl
      have HM : Hid (um = m.length ∧ um ≤ 4000) := ⟨hum, by omega⟩
      have hE0 : Ext w wr.drew := HR.out.2.trans (Ext.drew _)
      have c0 := hE0.cell hc0
      have c1 := hE0.cell hc1
      rw [← hum] at c1 hbu
      have HU : Hid (BytesAt w (.slice ua um uc) m) := hbu
      have z4 : (um : Int) + 4 = (m4 : Int) := by omega
      have zw4 : IntKind.i64.wrap (m4 : Int) = (m4 : Int) := by rw [IntKind.wrap_i64]; omega
      have cvK : IntKind.u64.wrap (K : Int) = (K : Int) := by rw [IntKind.wrap_u64]; exact Int.emod_eq_of_lt (by omega) (by omega)
      have cvM : IntKind.u64.wrap (m4 : Int) = (m4 : Int) := by rw [IntKind.wrap_u64]; exact Int.emod_eq_of_lt (by omega) (by omega)
      have cvK2 : (K : Int) % 18446744073709551616 = (K : Int) := Int.emod_eq_of_lt (by omega) (by omega)
      have cvM2 : (m4 : Int) % 18446744073709551616 = (m4 : Int) := Int.emod_eq_of_lt (by omega) (by omega)
      have hin : (i : Int) < (n : Int) := by omega
      clear hc0 hc1 hbu hum hm HP hm4
      go_wp2_with fail
      refine wp_region_facts (fun t => bif Nat.ble 12 t && Nat.ble t 28 then some (t - 12) else bif Nat.beq t 5 then some 17 else none) 40 (Turns wr.drew.heap.size (be K 2) (be m4 2))
        [Is (.slice (some ⟨b, off, none⟩) n c),
         Is (.int .i64 (i : Int)),
         Is (.pointer (some ⟨b, off + i * 2, none⟩)),
         Is (.pointer (some ⟨b, off + i * 2, none⟩)),
         Is (.int .i64 (K : Int)),
         Is (.int .u64 (K : Int)),
         (NumV wr.drew.heap.size (be K 2)),
         Is (.slice (some ⟨b, off, none⟩) n c),
         Is (.int .i64 (i : Int)),
         Is (.pointer (some ⟨b, off + i * 2, none⟩)),
         Is (.pointer (some ⟨b, off + i * 2 + 1, none⟩)),
         Is (.slice ua um uc),
         Is (.int .i64 (um : Int)),
         Is (.int .i64 (m4 : Int)),
         Is (.int .u64 (m4 : Int)),
         (NumV wr.drew.heap.size (be m4 2)),
         (NumV wr.drew.heap.size (be K 2 ++ be m4 2)),
         (NumV wr.drew.heap.size (be K 2 ++ be m4 2))]
        rfl (by kernel_rfl) (by kernel_rfl) rfl Turns.refl (fun _ _ _ => Turns.trans) ?_ ?_ ?_
      · exact KeepAll.is (KeepAll.is (KeepAll.is (KeepAll.is (KeepAll.is (KeepAll.is (KeepAll.cons (fun _ _ _ hR h => h.turn hR (List.prefix_append _ _)) (KeepAll.is (KeepAll.is (KeepAll.is (KeepAll.is (KeepAll.is (KeepAll.is (KeepAll.is (KeepAll.is (KeepAll.cons (fun _ _ _ hR h => h.turnK hR (by rw [be_len, be_len]; exact Nat.le_refl _)) (KeepAll.cons (fun _ _ _ hR h => h.turn hR (List.prefix_refl _)) (KeepAll.cons (fun _ _ _ hR h => h.turn hR (List.prefix_refl _)) (KeepAll.nil))))))))))))))))))
      · refine GoodAll.cons ?_ ?_
        · intro r wx hR hx
          obtain ⟨h1, _⟩ := hx
          replace h1 : r (.tmp 0) = (.slice (some ⟨b, off, none⟩) n c) := h1
          exact give_move (.inl rfl) ⟨Turns.refl _, h1⟩
        refine GoodAll.cons ?_ ?_
        · intro r wx hR hx
          obtain ⟨h1, _⟩ := hx
          replace h1 : r (.tmp 4) = (.int .i64 (i : Int)) := h1
          exact give_move (.inl rfl) ⟨Turns.refl _, h1⟩
        refine GoodAll.cons ?_ ?_
        · intro r wx hR hx
          obtain ⟨h1, h2, _⟩ := hx
          replace h1 : r (.tmp 12) = (.slice (some ⟨b, off, none⟩) n c) := h1
          replace h2 : r (.tmp 13) = (.int .i64 (i : Int)) := h2
          exact give_of (by simp [execOp, h1, h2, hin, go_sem]) ⟨Turns.refl _, rfl⟩
        refine GoodAll.cons ?_ ?_
        · intro r wx hR hx
          obtain ⟨h1, _⟩ := hx
          replace h1 : r (.tmp 14) = (.pointer (some ⟨b, off + i * 2, none⟩)) := h1
          exact give_of (by simp [execOp, h1, go_sem]) ⟨Turns.refl _, rfl⟩
        refine GoodAll.cons ?_ ?_
        · intro r wx hR hx
          obtain ⟨h1, _⟩ := hx
          replace h1 : r (.tmp 15) = (.pointer (some ⟨b, off + i * 2, none⟩)) := h1
          exact give_of (exec_get one3 rfl h1 ((hR.ext (Nat.le_refl _)).cell c0)) ⟨Turns.refl _, rfl⟩
        refine GoodAll.cons ?_ ?_
        · intro r wx hR hx
          obtain ⟨h1, _⟩ := hx
          replace h1 : r (.tmp 16) = (.int .i64 (K : Int)) := h1
          exact give_of (by simp [execOp, h1, cvK, cvK2, go_sem]) ⟨Turns.refl _, rfl⟩
        refine GoodAll.cons ?_ ?_
        · intro r wx hR hx
          obtain ⟨h1, h2, h3, _⟩ := hx
          replace h1 : r (.func 10) = .func (.func 10) #[] #[] := h1
          replace h2 : r (.tmp 17) = (.int .u64 (K : Int)) := h2
          replace h3 : r (.const (.int .i64 2)) = .int .i64 2 := h3
          refine give_func #[.int .u64 (K : Int), .int .i64 2] rfl h1 Try.call10 (by simp [h2, h3]) ?_
          refine (refNum_any K 2 _).mono ?_
          rintro e w1 ⟨qa, qm, qc, rfl, hqm, hqo, hqe⟩
          rw [numBe2] at hqm hqo
          subst hqm
          exact ⟨_, rfl, Turns.of_ext hqe, _, _, rfl, hqo.base hR.size⟩
        refine GoodAll.cons ?_ ?_
        · intro r wx hR hx
          obtain ⟨h1, _⟩ := hx
          replace h1 : r (.tmp 0) = (.slice (some ⟨b, off, none⟩) n c) := h1
          exact give_move (.inl rfl) ⟨Turns.refl _, h1⟩
        refine GoodAll.cons ?_ ?_
        · intro r wx hR hx
          obtain ⟨h1, _⟩ := hx
          replace h1 : r (.tmp 4) = (.int .i64 (i : Int)) := h1
          exact give_move (.inl rfl) ⟨Turns.refl _, h1⟩
        refine GoodAll.cons ?_ ?_
        · intro r wx hR hx
          obtain ⟨h1, h2, _⟩ := hx
          replace h1 : r (.tmp 19) = (.slice (some ⟨b, off, none⟩) n c) := h1
          replace h2 : r (.tmp 20) = (.int .i64 (i : Int)) := h2
          exact give_of (by simp [execOp, h1, h2, hin, go_sem]) ⟨Turns.refl _, rfl⟩
        refine GoodAll.cons ?_ ?_
        · intro r wx hR hx
          obtain ⟨h1, _⟩ := hx
          replace h1 : r (.tmp 21) = (.pointer (some ⟨b, off + i * 2, none⟩)) := h1
          exact give_of (by simp [execOp, h1, go_sem]) ⟨Turns.refl _, rfl⟩
        refine GoodAll.cons ?_ ?_
        · intro r wx hR hx
          obtain ⟨h1, _⟩ := hx
          replace h1 : r (.tmp 22) = (.pointer (some ⟨b, off + i * 2 + 1, none⟩)) := h1
          exact give_of (exec_get oneS rfl h1 ((hR.ext (Nat.le_refl _)).cell c1)) ⟨Turns.refl _, rfl⟩
        refine GoodAll.cons ?_ ?_
        · intro r wx hR hx
          obtain ⟨h1, _⟩ := hx
          replace h1 : r (.tmp 23) = (.slice ua um uc) := h1
          exact give_of (by simp [execOp, h1, go_sem]) ⟨Turns.refl _, rfl⟩
        refine GoodAll.cons ?_ ?_
        · intro r wx hR hx
          obtain ⟨h1, h2, _⟩ := hx
          replace h1 : r (.tmp 24) = (.int .i64 (um : Int)) := h1
          replace h2 : r (.const (.int .i64 4)) = .int .i64 4 := h2
          exact give_of (by simp [execOp, h1, h2, z4, zw4, go_sem]) ⟨Turns.refl _, rfl⟩
        refine GoodAll.cons ?_ ?_
        · intro r wx hR hx
          obtain ⟨h1, _⟩ := hx
          replace h1 : r (.tmp 25) = (.int .i64 (m4 : Int)) := h1
          exact give_of (by simp [execOp, h1, cvM, cvM2, go_sem]) ⟨Turns.refl _, rfl⟩
        refine GoodAll.cons ?_ ?_
        · intro r wx hR hx
          obtain ⟨h1, h2, h3, _⟩ := hx
          replace h1 : r (.func 10) = .func (.func 10) #[] #[] := h1
          replace h2 : r (.tmp 26) = (.int .u64 (m4 : Int)) := h2
          replace h3 : r (.const (.int .i64 2)) = .int .i64 2 := h3
          refine give_func #[.int .u64 (m4 : Int), .int .i64 2] rfl h1 Try.call10 (by simp [h2, h3]) ?_
          refine (refNum_any m4 2 _).mono ?_
          rintro e w1 ⟨qa, qm, qc, rfl, hqm, hqo, hqe⟩
          rw [numBe2] at hqm hqo
          subst hqm
          exact ⟨_, rfl, Turns.of_ext hqe, _, _, rfl, hqo.base hR.size⟩
        refine GoodAll.cons ?_ ?_
        · intro r wx hR hx
          obtain ⟨h1, h2, _⟩ := hx
          replace h1 : ((NumV wr.drew.heap.size (be K 2)) : Fact) wx (r (.tmp 18)) := h1
          replace h2 : ((NumV wr.drew.heap.size (be m4 2)) : Fact) wx (r (.tmp 27)) := h2
          obtain ⟨xa, xc, xe, xo⟩ := h1
          obtain ⟨ya, yc, ye, yo⟩ := h2
          obtain ⟨ad, cap, w2, hr, ho2, ht⟩ := run_appT wx wr.drew.heap.size 26 _ _ (be K 2) (be m4 2) xo yo.bytes (by rw [be_len, be_len]; decide) hR.size
          exact give_of (exec_run rfl rfl rfl hr) ⟨ht, _, _, rfl, ho2⟩
        refine GoodAll.cons ?_ ?_
        · intro r wx hR hx
          obtain ⟨h1, _⟩ := hx
          replace h1 : ((NumV wr.drew.heap.size (be K 2 ++ be m4 2)) : Fact) wx (r (.tmp 28)) := h1
          exact give_move (.inr rfl) ⟨Turns.refl _, h1⟩
        exact GoodAll.nil
      · intro vs w1 a1 hR hold ha1
        have hv0 : vs 0 = (.slice (some ⟨b, off, none⟩) n c) := hold.at 0
        have hv1 : vs 1 = (.int .i64 (i : Int)) := hold.at 1
        have hv2 : vs 2 = (.pointer (some ⟨b, off + i * 2, none⟩)) := hold.at 2
        have hv3 : vs 3 = (.pointer (some ⟨b, off + i * 2, none⟩)) := hold.at 3
        have hv4 : vs 4 = (.int .i64 (K : Int)) := hold.at 4
        have hv5 : vs 5 = (.int .u64 (K : Int)) := hold.at 5
        have hq6 := hold.at 6
        have hv7 : vs 7 = (.slice (some ⟨b, off, none⟩) n c) := hold.at 7
        have hv8 : vs 8 = (.int .i64 (i : Int)) := hold.at 8
        have hv9 : vs 9 = (.pointer (some ⟨b, off + i * 2, none⟩)) := hold.at 9
        have hv10 : vs 10 = (.pointer (some ⟨b, off + i * 2 + 1, none⟩)) := hold.at 10
        have hv11 : vs 11 = (.slice ua um uc) := hold.at 11
        have hv12 : vs 12 = (.int .i64 (um : Int)) := hold.at 12
        have hv13 : vs 13 = (.int .i64 (m4 : Int)) := hold.at 13
        have hv14 : vs 14 = (.int .u64 (m4 : Int)) := hold.at 14
        have hq15 := hold.at 15
        have hq16 := hold.at 16
        have hq17 := hold.at 17
        obtain ⟨ba, bc, e17, ho17⟩ := hq17
        simp only [putAll, Act.put, e17, hv0, hv1, hv2, hv3, hv4, hv5, hv7, hv8, hv9, hv10, hv11, hv12, hv13, hv14, List.setIfInBounds_toArray, List.set_cons_succ, List.set_cons_zero] at ha1
        generalize vs 6 = x6 at ha1
        generalize vs 15 = x15 at ha1
        generalize vs 16 = x16 at ha1
        subst ha1
        have HE1 : Hid (Ext wr w1 ∧ OB w1 wr.heap.size (.slice ba (be K 2 ++ be m4 2).length bc) (be K 2 ++ be m4 2)) := ⟨(Ext.drew _).trans (hR.ext (Nat.le_refl _)), by rw [← e17]; exact ho17⟩
        have c2 := (hR.ext (Nat.le_refl _)).cell c1
        clear hold hq6 hq15 hq16 e17 ho17 hv0 hv1 hv2 hv3 hv4 hv5 hv7 hv8 hv9 hv10 hv11 hv12 hv13 hv14 hR c0 c1 cvK cvM cvK2 cvM2 z4 zw4
        have HH4 : Hid ((be K 2 ++ be m4 2).length = 4) := show _ = _ by rw [List.length_append, be_len, be_len]
        generalize be K 2 ++ be m4 2 = H4 at *
        obtain ⟨bn, hbn⟩ : ∃ q, q = H4.length := ⟨_, rfl⟩
        rw [← hbn] at HE1 ⊢
        clear hbn
        go_wp2_with (first
          | (at_builtin; have q := he3; clear q; refine wl_app (l := writeB (L.take i)) (m := padB (H4 ++ m)) (v := .slice oa on oc) (u := .slice pa pn pc) (base := w.heap.size) rfl rfl rfl rfl (HR.out.1.ext (HE2.out.trans he3)) ho3.bytes (by have h1 := writeB_take L i; have h2 := HL.out.1; have h3 := HH4.out; have h4 := HM.out; have h5 := pads_lt (H4 ++ m).length; rw [padB_len, List.length_append]; rw [List.length_append] at h5; omega) (Nat.le_trans HR.out.2.size (HE2.out.trans he3).size) ?_; intro ad4 n4 cap4 w4 hn4 ho4 hk4 hg4)
          | (at_builtin; refine wl_app (l := H4) (m := m) (v := .slice ba bn bc) (u := .slice ua um uc) (base := wr.heap.size) rfl rfl rfl rfl HE1.out.2 (HU.out.ext (HR.out.2.trans HE1.out.1)) (by have := HH4.out; have := HM.out; omega) HE1.out.1.size ?_; intro ad2 n2 cap2 w2 hn2 ho2 hk2 hg2; have HE2 : Hid (Ext wr w2) := HE1.out.1.of_but hk2 (fun k e => (HE1.out.2.lt e).1); clear hn2 hk2 hg2)
          | (go_at_call 13; refine (refPad_any ho2.bytes (by have := HH4.out; have := HM.out; rw [List.length_append]; omega)).mono ?_; rintro e w3 ⟨pa, pn, pc, rfl, hpn, ho3, he3⟩; clear hpn))
        go_roundg (n - (i + 1))
        case measure => omega
        case rel => exact ⟨i + 1, _, _, _, by omega, rfl, rfl, by simp, by rw [HP2.out]; exact ho4, (HR.out.2.trans (HE2.out.trans he3)).of_but hk4 (fun k e => (HR.out.1.lt e).1)⟩
    · have hd : decide ((i : Int) < (n : Int)) = false := decide_eq_false (by omega)
      have hd2 : decide (i < n) = false := decide_eq_false hlt
      have HT : Hid (L.take i = L) := List.take_of_length_le (by rw [← HN.out]; omega)
      rw [HT.out] at HR
      go_wp2
      go_ret
      exact ⟨_, _, _, rfl, HR.out.1, HR.out.2⟩
end Tlv
end Go.Proofs.Ytmfciiccomagpaa
