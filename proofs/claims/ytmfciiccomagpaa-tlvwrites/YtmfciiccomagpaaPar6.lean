/- Parameters of the document made the program's. No condition of its own. -/
import Derived.Test.YtmfciiccomagpaaAct6
namespace Go.Proofs.Ytmfciiccomagpaa
namespace Tlv
open Go Go.RowKit
set_option linter.unusedVariables false
set_option linter.unusedSimpArgs false
set_option maxRecDepth 100000


theorem OwnL.lit0 {e : TypeId} (w : World) (base b : Nat) (hb : b = w.heap.size) (hbase : base ≤ w.heap.size) : OwnL e (w.alloc (.cells #[] e)) base (.slice (some ⟨b, 0, none⟩) 0 0) [] := by
  subst hb
  have := World.ownsRow_lit (base := base) (e := e) (size := 2) w #[] 0 hbase (by simp) (by simp)
  exact ⟨[], rfl, by simpa [pc] using this, fun m hm => by cases hm⟩
set_option maxHeartbeats 4000000 in
theorem lawParams_any {w : World} {v : Value} {L : List Par} (hv : ParsAt w v L) (hL : L.length ≤ 13) (hl5 : ∀ p ∈ L, p.2.length ≤ 5000) :
    Calls Try.prog 30 #[v] w fun e w' => ∃ lv, e = .returned lv ∧ OwnL 75 w' w.heap.size lv L ∧ Ext w w' := by
  obtain ⟨_, a, cap, rfl, hc⟩ := hv
  have HC : Hid (∀ i p, L[i]? = some p → ∃ b off u, a = some ⟨b, off, none⟩ ∧ w.cell? ⟨b, off + i * 2, none⟩ = some (.int .i64 p.1) ∧ w.cell? ⟨b, off + i * 2 + 1, none⟩ = some u ∧ BytesAt w u p.2) := hc
  have HL : Hid (∀ p ∈ L, p.2.length ≤ 5000) := hl5
  clear hc hl5
  obtain ⟨n, hn⟩ : ∃ n, n = L.length := ⟨_, rfl⟩
  have HN : Hid (n = L.length) := hn
  rw [← hn] at hL ⊢
  clear hn
  go_enter Try.func30, Try.ntmps30
  go_wp2
  go_loopg [3, 9] n (fun gm x t wr => ∃ (i : Nat) (oa : Option Addr) (on oc : Nat), i ≤ n ∧ gm = n - i ∧ x = .slice oa on oc ∧ t = .int .i64 (i : Int) ∧ Hid (on = i ∧ OwnL 75 wr w.heap.size (.slice oa on oc) (L.take i) ∧ Ext w wr))
  case atStart => exact ⟨0, _, _, _, Nat.zero_le _, rfl, rfl, rfl, rfl, OwnL.lit0 w _ _ rfl (Nat.le_refl _), Ext.alloc _ _⟩
  case round =>
    obtain ⟨i, oa, on, oc, hi, rfl, rfl, rfl, HR⟩ := hrel
    by_cases hlt : i < n
    · have hd : decide ((i : Int) < (n : Int)) = true := decide_eq_true (by omega)
      obtain ⟨p, hp⟩ : ∃ p, L[i]? = some p := ⟨L[i]'(by rw [← HN.out]; exact hlt), by simp⟩
      have HP : Hid (L.take (i + 1) = L.take i ++ [p] ∧ p.2.length ≤ 5000) := ⟨take_getD hp, HL.out p (List.mem_of_getElem? hp)⟩
      obtain ⟨b, off, u, rfl, hc0, hc1, hbu⟩ := HC.out i p hp
      clear hp
      have c0' := HR.out.2.2.cell hc0
      have c1' := HR.out.2.2.cell hc1
      clear hc0 hc1
      obtain ⟨k, m⟩ := p
      obtain ⟨ua, uc, rfl, _, _⟩ := hbu.form
      rename_i z1 z2
      clear z1 z2
      simp only at c0' c1' hbu HP
      obtain ⟨um, hum⟩ : ∃ q, q = m.length := ⟨_, rfl⟩
      rw [← hum] at c1' hbu
      have HU : Hid (BytesAt w (.slice ua um uc) m) := hbu
      clear hbu hum
      obtain ⟨pb, hpb⟩ : ∃ q, q = wr.heap.size := ⟨_, rfl⟩
      go_wp2_with (first
        | (refine wl_loadP rfl rowP2 rfl rfl c0' c1' ?_)
        | (refine wl_alloc rfl rfl zeroP2 ?_; intro w2 hb2 he2 hx; clear hx)
        | (refine wl_store (D := #[.int .i64 k, .slice ua um uc]) rfl rowP2 rfl rfl rfl hb2 rfl rfl (one_par _ _ rfl) ?_; intro w3 hb3 hk3 hx; clear hx; have HE3 : Hid (Ext wr w3) := he2.of_but hk3 (fun q e => by subst e; exact Nat.le_refl _)))
      rw [← hpb] at hb3 ⊢
      clear hb2 he2 hk3 c0' c1'
      obtain ⟨W0, hW0⟩ : ∃ W0, W0 = w3.drew := ⟨_, rfl⟩
      have hE0 : Ext w W0 := by rw [hW0]; exact (HR.out.2.2.trans HE3.out).trans (Ext.drew _)
      have c0 : W0.cell? ⟨pb, 0, none⟩ = some (.int .i64 k) := by rw [hW0]; exact (hb3.ext (Ext.drew _)).cell 0
      have c1 : W0.cell? ⟨pb, 1, none⟩ = some (.slice ua um uc) := by rw [hW0]; exact (hb3.ext (Ext.drew _)).cell 1
      have hL0 : OwnL 75 W0 w.heap.size (.slice oa on oc) (L.take i) := by rw [hW0]; exact HR.out.2.1.ext (HE3.out.trans (Ext.drew _))
      obtain ⟨W1, hW1⟩ : ∃ W1, W0.alloc (.cells #[] 5) = W1 := ⟨_, rfl⟩
      have hE1 : Ext W0 W1 := by rw [← hW1]; exact Ext.alloc _ _
      have hO1 : OB W1 w.heap.size (.slice (some ⟨W0.heap.size, 0, none⟩) 0 0) [] := by rw [← hW1]; exact OB.lit0 W0 _ _ rfl hE0.size
      obtain ⟨ba, bc, W2, hrun1, ho2, hk2, _⟩ := run_appB W1 w.heap.size 26 (.slice (some ⟨W0.heap.size, 0, none⟩) 0 0) (.slice ua um uc) [] m hO1 (HU.out.ext (hE0.trans hE1)) (by have := HP.out.2; simp; omega) (Nat.le_trans hE0.size hE1.size)
      rw [List.nil_append] at hrun1 ho2
      obtain ⟨bn, hbn⟩ : ∃ bn, bn = m.length := ⟨_, rfl⟩
      rw [← hbn] at hrun1 ho2
      have hE2 : Ext W0 W2 := hE1.of_but hk2 (fun k e => by cases e; exact Nat.le_refl _)
      obtain ⟨W3, hW3⟩ : ∃ W3, W2.alloc (.cells #[.int .i64 k, .slice ba bn bc] 75) = W3 := ⟨_, rfl⟩
      have hE3 : Ext W2 W3 := by rw [← hW3]; exact Ext.alloc _ _
      have hL3 := hL0.ext (hE2.trans hE3)
      have hLn : (L.take i).length ≤ 100000 := by rw [List.length_take]; omega
      have hLi : (L.take i).length = i := by rw [List.length_take, ← HN.out]; omega
      obtain ⟨oa2, oc2, W4, hrun2, ho4, hk4, _⟩ := run_pushP parT W3 w.heap.size 65 W2.heap.size (.slice oa on oc) (.slice ba bn bc) (L.take i) k m hL3 (by rw [← hW3]; exact cellNew _ _ _ _ _ _ rfl) (by rw [← hW3]; exact cellNew _ _ _ _ _ _ rfl) (ho2.ext hE3) hLn (Nat.le_trans hE0.size (hE2.trans hE3).size)
      obtain ⟨on2, hon2⟩ : ∃ q, q = (L.take i).length + 1 := ⟨_, rfl⟩
      rw [← hon2] at hrun2 ho4
      have hE4 : Ext w W4 := (hE0.trans (hE2.trans hE3)).of_but hk4 (fun k e => (hL3.lt e).1)
      have hk4' : ∀ q, (Value.slice oa on oc).ownBlock = some q → q ≠ pb := fun q e h => by
        obtain ⟨_, C, hC⟩ := HR.out.2.1.lt e
        have := hC.lt
        omega
      have hE24 : W4.cell? ⟨pb, 0, none⟩ = some (.int .i64 k) ∧ W4.cell? ⟨pb, 1, none⟩ = some (.slice ua um uc) := by
        have hb4 : Blk W4 pb #[.int .i64 k, .slice ua um uc] 59 := by
          have h0 : Blk W0 pb #[.int .i64 k, .slice ua um uc] 59 := by rw [hW0]; exact hb3.ext (Ext.drew _)
          exact (h0.ext (hE2.trans hE3)).but hk4 (fun e => hk4' _ e rfl)
        exact ⟨hb4.cell 0, hb4.cell 1⟩
      have HCC : ∀ q, (ws6 W0 W1 W2 W2 W3 W4 q).cell? ⟨pb, 0, none⟩ = some (.int .i64 k) ∧ (ws6 W0 W1 W2 W2 W3 W4 q).cell? ⟨pb, 1, none⟩ = some (.slice ua um uc) := fun q => by
        match q with
        | 0 => exact ⟨c0, c1⟩
        | 1 => exact ⟨hE1.cell c0, hE1.cell c1⟩
        | 2 => exact ⟨hE2.cell c0, hE2.cell c1⟩
        | 3 => exact ⟨hE2.cell c0, hE2.cell c1⟩
        | 4 => exact ⟨(hE2.trans hE3).cell c0, (hE2.trans hE3).cell c1⟩
        | q + 5 => exact hE24
      have hs0 : ws6 W0 W1 W2 W2 W3 W4 0 = w3.drew := hW0
      refine wp_region_stagedL (fun t => bif Nat.ble 13 t && Nat.ble t 22 then some (t - 13) else none) 25 [3, 6, 7, 8, 9] (ws6 W0 W1 W2 W2 W3 W4)
        [(fun v => v = (.slice oa on oc)),
         (fun v => v = (.pointer (some ⟨pb, 0, none⟩))),
         (fun v => v = (.int .i64 k)),
         (fun v => v = (.slice (some ⟨W0.heap.size, 0, none⟩) 0 0)),
         (fun v => v = (.pointer (some ⟨pb, 1, none⟩))),
         (fun v => v = (.slice ua um uc)),
         (fun v => v = (.slice ba bn bc)),
         (fun v => v = (.agg #[.int .i64 k, .slice ba bn bc])),
         (fun v => v = (.slice (some ⟨W2.heap.size, 0, none⟩) 1 1)),
         (fun v => v = (.slice oa2 on2 oc2))]
        (by intro h; cases h) 22 9 3 rfl rfl rfl rfl (by kernel_rfl) (by kernel_rfl) rfl (by kernel_rfl) (by kernel_rfl) (by kernel_rfl) hs0 ?_ ?_
      · refine GoodSAll.reads rfl (fun k hk => ?_) ?_
        · intro r hx
          obtain ⟨h1, _⟩ := hx
          replace h1 : r (.tmp 3) = (.slice oa on oc) := h1
          exact give_move (.inl rfl) ⟨rfl, h1⟩
        refine GoodSAll.reads rfl (fun k hk => ?_) ?_
        · intro r hx
          obtain ⟨h1, _⟩ := hx
          replace h1 : r (.tmp 5) = (.pointer (some ⟨pb, 0, none⟩)) := h1
          exact give_of (by simp [execOp, h1, go_sem]) ⟨rfl, rfl⟩
        refine GoodSAll.reads rfl (fun k hk => ?_) ?_
        · intro r hx
          obtain ⟨h1, _⟩ := hx
          replace h1 : r (.tmp 14) = (.pointer (some ⟨pb, 0, none⟩)) := h1
          exact give_of (exec_get one3 rfl h1 (HCC _).1) ⟨rfl, rfl⟩
        refine GoodSAll.writes 0 rfl rfl ?_ ?_
        · intro r hx
          exact give_of (by simp [execOp, go_sem]; exact ⟨rfl, rfl⟩) ⟨hW1, rfl⟩
        refine GoodSAll.reads rfl (fun k hk => ?_) ?_
        · intro r hx
          obtain ⟨h1, _⟩ := hx
          replace h1 : r (.tmp 5) = (.pointer (some ⟨pb, 0, none⟩)) := h1
          exact give_of (by simp [execOp, h1, go_sem]) ⟨rfl, rfl⟩
        refine GoodSAll.reads rfl (fun k hk => ?_) ?_
        · intro r hx
          obtain ⟨h1, _⟩ := hx
          replace h1 : r (.tmp 17) = (.pointer (some ⟨pb, 1, none⟩)) := h1
          exact give_of (exec_get oneS rfl h1 (HCC _).2) ⟨rfl, rfl⟩
        refine GoodSAll.writes 1 rfl rfl ?_ ?_
        · intro r hx
          obtain ⟨h1, h2, _⟩ := hx
          replace h1 : r (.tmp 16) = (.slice (some ⟨W0.heap.size, 0, none⟩) 0 0) := h1
          replace h2 : r (.tmp 18) = (.slice ua um uc) := h2
          exact give_of (exec_run rfl h1 h2 hrun1) ⟨rfl, rfl⟩
        refine GoodSAll.writes 2 rfl rfl ?_ ?_
        · intro r hx
          obtain ⟨h1, h2, _⟩ := hx
          replace h1 : r (.tmp 15) = (.int .i64 k) := h1
          replace h2 : r (.tmp 19) = (.slice ba bn bc) := h2
          exact give_of (by simp [execOp, h1, h2, go_sem]; rfl) ⟨rfl, rfl⟩
        refine GoodSAll.writes 3 rfl rfl ?_ ?_
        · intro r hx
          obtain ⟨h1, _⟩ := hx
          replace h1 : r (.tmp 20) = (.agg #[.int .i64 k, .slice ba bn bc]) := h1
          exact give_of (by simp [execOp, h1, go_sem]; exact ⟨rfl, rfl⟩) ⟨hW3, rfl⟩
        refine GoodSAll.writes 4 rfl rfl ?_ ?_
        · intro r hx
          obtain ⟨h1, h2, _⟩ := hx
          replace h1 : r (.tmp 13) = (.slice oa on oc) := h1
          replace h2 : r (.tmp 21) = (.slice (some ⟨W2.heap.size, 0, none⟩) 1 1) := h2
          exact give_of (exec_runP rfl h1 h2 hrun2) ⟨rfl, rfl⟩
        exact GoodSAll.nil
      · intro vs a' hold ha'
        have hv0 : vs 0 = (.slice oa on oc) := hold 0 (by simp)
        have hv1 : vs 1 = (.pointer (some ⟨pb, 0, none⟩)) := hold 1 (by simp)
        have hv2 : vs 2 = (.int .i64 k) := hold 2 (by simp)
        have hv3 : vs 3 = (.slice (some ⟨W0.heap.size, 0, none⟩) 0 0) := hold 3 (by simp)
        have hv4 : vs 4 = (.pointer (some ⟨pb, 1, none⟩)) := hold 4 (by simp)
        have hv5 : vs 5 = (.slice ua um uc) := hold 5 (by simp)
        have hv6 : vs 6 = (.slice ba bn bc) := hold 6 (by simp)
        have hv7 : vs 7 = (.agg #[.int .i64 k, .slice ba bn bc]) := hold 7 (by simp)
        have hv8 : vs 8 = (.slice (some ⟨W2.heap.size, 0, none⟩) 1 1) := hold 8 (by simp)
        have hv9 : vs 9 = (.slice oa2 on2 oc2) := hold 9 (by simp)
        simp only [List.dropLast_cons_cons, List.dropLast_singleton, putAll, Act.put, hv0, hv1, hv2, hv3, hv4, hv5, hv6, hv7, hv8, hv9, List.setIfInBounds_toArray, List.set_cons_succ, List.set_cons_zero] at ha'
        rw [hv9]
        subst ha'
        clear hold hv0 hv1 hv2 hv3 hv4 hv5 hv6 hv7 hv8 hv9
        rw [show ws6 W0 W1 W2 W2 W3 W4 [3, 6, 7, 8, 9].length = W4 from rfl]
        have HQ : Hid (on2 = i + 1 ∧ OwnL 75 W4 w.heap.size (.slice oa2 on2 oc2) (L.take (i + 1)) ∧ Ext w W4) := ⟨by rw [hon2, hLi], by rw [HP.out.1]; exact ho4, hE4⟩
        clear HCC hE24 hk4' hs0 hE4 hon2 hrun2 ho4 hk4 hLn hLi hL3 hE3 hW3 hE2 hbn hrun1 ho2 hk2 hO1 hE1 hW1 hL0 hE0 hW0 c0 c1 hb3
        go_wp2
        go_roundg (n - (i + 1))
        case measure => omega
        case rel => exact ⟨i + 1, _, _, _, by omega, rfl, rfl, by simp, HQ.out⟩
    · have hd : decide ((i : Int) < (n : Int)) = false := decide_eq_false (by omega)
      have HT : Hid (L.take i = L) := List.take_of_length_le (by rw [← HN.out]; omega)
      go_wp2
      go_ret
      exact ⟨_, rfl, by have := HR.out.2.1; rwa [HT.out] at this, HR.out.2.2⟩
end Tlv
end Go.Proofs.Ytmfciiccomagpaa
