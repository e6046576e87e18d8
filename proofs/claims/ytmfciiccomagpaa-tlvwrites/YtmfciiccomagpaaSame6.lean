/- The same parameters. No condition of its own. -/
import Derived.Test.YtmfciiccomagpaaRefP
namespace Go.Proofs.Ytmfciiccomagpaa
namespace Tlv
open Go Go.RowKit
set_option linter.unusedVariables false
set_option linter.unusedSimpArgs false
set_option maxRecDepth 100000


set_option maxHeartbeats 4000000 in
theorem same_eq {w : World} {v1 v2 : Value} {L : List Par} (h1 : ParsAt w v1 L) (h2 : ParsAt w v2 L) :
    Calls Try.prog 33 #[v1, v2] w fun e w' => e = .returned (.bool true) ∧ Ext w w' := by
  obtain ⟨hm, a1, c1, rfl, hc1⟩ := h1
  obtain ⟨_, a2, c2, rfl, hc2⟩ := h2
  rename_i z1
  clear z1
  have HC : Hid ((∀ i p, L[i]? = some p → ∃ b off u, a1 = some ⟨b, off, none⟩ ∧ w.cell? ⟨b, off + i * 2, none⟩ = some (.int .i64 p.1) ∧ w.cell? ⟨b, off + i * 2 + 1, none⟩ = some u ∧ BytesAt w u p.2) ∧ (∀ i p, L[i]? = some p → ∃ b off u, a2 = some ⟨b, off, none⟩ ∧ w.cell? ⟨b, off + i * 2, none⟩ = some (.int .i64 p.1) ∧ w.cell? ⟨b, off + i * 2 + 1, none⟩ = some u ∧ BytesAt w u p.2)) := ⟨hc1, hc2⟩
  clear hc1 hc2
  obtain ⟨n, hn⟩ : ∃ n, n = L.length := ⟨_, rfl⟩
  have HN : Hid (n = L.length) := hn
  rw [← hn] at hm ⊢
  clear hn
  have hn63 : (n : Int) ≤ 9223372036854775807 := by unfold maxLen at hm; omega
  clear hm
  go_enter Try.func33, Try.ntmps33
  go_wp2
  go_loopg [13] n (fun gm t wr => ∃ i : Nat, i ≤ n ∧ gm = n - i ∧ t = .int .i64 (i : Int) ∧ Hid (Ext w wr))
  case atStart => exact ⟨0, Nat.zero_le _, rfl, rfl, Ext.refl _⟩
  case round =>
    obtain ⟨i, hi, rfl, rfl, HR⟩ := hrel
    by_cases hlt : i < n
    · have hd : decide ((i : Int) < (n : Int)) = true := decide_eq_true (by omega)
      obtain ⟨p, hp⟩ : ∃ p, L[i]? = some p := ⟨L[i]'(by rw [← HN.out]; exact hlt), by simp⟩
      obtain ⟨b1, o1, u1, rfl, x1, y1, hu1⟩ := HC.out.1 i p hp
      obtain ⟨b2, o2, u2, rfl, x2, y2, hu2⟩ := HC.out.2 i p hp
      clear hp
      obtain ⟨k, m⟩ := p
      simp only at x1 x2 hu1 hu2
      go_wp2_with fail
      have hE0 : Ext w wr.drew := HR.out.trans (Ext.drew _)
      have ca1 := hE0.cell x1
      have ca2 := hE0.cell x2
      have cb1 := hE0.cell y1
      have cb2 := hE0.cell y2
      have HU : Hid (BytesAt wr.drew u1 m ∧ BytesAt wr.drew u2 m) := ⟨hu1.ext hE0, hu2.ext hE0⟩
      have hin : (i : Int) < (n : Int) := by omega
      clear x1 x2 y1 y2 hu1 hu2
      refine wp_region_facts (fun t => bif Nat.ble 16 t && Nat.ble t 41 then some (t - 16) else none) 43 Ext
        [Is (.slice (some ⟨b1, o1, none⟩) n c1),
         Is (.int .i64 (i : Int)),
         Is (.pointer (some ⟨b1, o1 + i * 2, none⟩)),
         Is (.pointer (some ⟨b1, o1 + i * 2, none⟩)),
         Is (.int .i64 k),
         Is (.slice (some ⟨b2, o2, none⟩) n c2),
         Is (.int .i64 (i : Int)),
         Is (.pointer (some ⟨b2, o2 + i * 2, none⟩)),
         Is (.pointer (some ⟨b2, o2 + i * 2, none⟩)),
         Is (.int .i64 k),
         Is (.bool false),
         Is (.bool false),
         Is (.slice (some ⟨b1, o1, none⟩) n c1),
         Is (.int .i64 (i : Int)),
         Is (.pointer (some ⟨b1, o1 + i * 2, none⟩)),
         Is (.pointer (some ⟨b1, o1 + i * 2 + 1, none⟩)),
         Is u1,
         Is (.string (strOf m)),
         Is (.slice (some ⟨b2, o2, none⟩) n c2),
         Is (.int .i64 (i : Int)),
         Is (.pointer (some ⟨b2, o2 + i * 2, none⟩)),
         Is (.pointer (some ⟨b2, o2 + i * 2 + 1, none⟩)),
         Is u2,
         Is (.string (strOf m)),
         Is (.bool false),
         Is (.bool false)]
        rfl (by kernel_rfl) (by kernel_rfl) rfl Ext.refl (fun _ _ _ => Ext.trans) ?_ ?_ ?_
      · exact KeepAll.is (KeepAll.is (KeepAll.is (KeepAll.is (KeepAll.is (KeepAll.is (KeepAll.is (KeepAll.is (KeepAll.is (KeepAll.is (KeepAll.is (KeepAll.is (KeepAll.is (KeepAll.is (KeepAll.is (KeepAll.is (KeepAll.is (KeepAll.is (KeepAll.is (KeepAll.is (KeepAll.is (KeepAll.is (KeepAll.is (KeepAll.is (KeepAll.is (KeepAll.is (KeepAll.nil))))))))))))))))))))))))))
      · refine GoodAll.cons ?_ ?_
        · intro r wx hR hx
          obtain ⟨h1, _⟩ := hx
          replace h1 : r (.tmp 0) = (.slice (some ⟨b1, o1, none⟩) n c1) := h1
          exact give_move (.inl rfl) ⟨Ext.refl _, h1⟩
        refine GoodAll.cons ?_ ?_
        · intro r wx hR hx
          obtain ⟨h1, _⟩ := hx
          replace h1 : r (.tmp 5) = (.int .i64 (i : Int)) := h1
          exact give_move (.inl rfl) ⟨Ext.refl _, h1⟩
        refine GoodAll.cons ?_ ?_
        · intro r wx hR hx
          obtain ⟨h1, h2, _⟩ := hx
          replace h1 : r (.tmp 16) = (.slice (some ⟨b1, o1, none⟩) n c1) := h1
          replace h2 : r (.tmp 17) = (.int .i64 (i : Int)) := h2
          exact give_of (by simp [execOp, h1, h2, hin, go_sem]) ⟨Ext.refl _, rfl⟩
        refine GoodAll.cons ?_ ?_
        · intro r wx hR hx
          obtain ⟨h1, _⟩ := hx
          replace h1 : r (.tmp 18) = (.pointer (some ⟨b1, o1 + i * 2, none⟩)) := h1
          exact give_of (by simp [execOp, h1, go_sem]) ⟨Ext.refl _, rfl⟩
        refine GoodAll.cons ?_ ?_
        · intro r wx hR hx
          obtain ⟨h1, _⟩ := hx
          replace h1 : r (.tmp 19) = (.pointer (some ⟨b1, o1 + i * 2, none⟩)) := h1
          exact give_of (exec_get one3 rfl h1 (hR.cell ca1)) ⟨Ext.refl _, rfl⟩
        refine GoodAll.cons ?_ ?_
        · intro r wx hR hx
          obtain ⟨h1, _⟩ := hx
          replace h1 : r (.tmp 1) = (.slice (some ⟨b2, o2, none⟩) n c2) := h1
          exact give_move (.inl rfl) ⟨Ext.refl _, h1⟩
        refine GoodAll.cons ?_ ?_
        · intro r wx hR hx
          obtain ⟨h1, _⟩ := hx
          replace h1 : r (.tmp 5) = (.int .i64 (i : Int)) := h1
          exact give_move (.inl rfl) ⟨Ext.refl _, h1⟩
        refine GoodAll.cons ?_ ?_
        · intro r wx hR hx
          obtain ⟨h1, h2, _⟩ := hx
          replace h1 : r (.tmp 21) = (.slice (some ⟨b2, o2, none⟩) n c2) := h1
          replace h2 : r (.tmp 22) = (.int .i64 (i : Int)) := h2
          exact give_of (by simp [execOp, h1, h2, hin, go_sem]) ⟨Ext.refl _, rfl⟩
        refine GoodAll.cons ?_ ?_
        · intro r wx hR hx
          obtain ⟨h1, _⟩ := hx
          replace h1 : r (.tmp 23) = (.pointer (some ⟨b2, o2 + i * 2, none⟩)) := h1
          exact give_of (by simp [execOp, h1, go_sem]) ⟨Ext.refl _, rfl⟩
        refine GoodAll.cons ?_ ?_
        · intro r wx hR hx
          obtain ⟨h1, _⟩ := hx
          replace h1 : r (.tmp 24) = (.pointer (some ⟨b2, o2 + i * 2, none⟩)) := h1
          exact give_of (exec_get one3 rfl h1 (hR.cell ca2)) ⟨Ext.refl _, rfl⟩
        refine GoodAll.cons ?_ ?_
        · intro r wx hR hx
          obtain ⟨h1, h2, _⟩ := hx
          replace h1 : r (.tmp 20) = (.int .i64 k) := h1
          replace h2 : r (.tmp 25) = (.int .i64 k) := h2
          exact give_of (by simp [execOp, h1, h2, go_sem]) ⟨Ext.refl _, rfl⟩
        refine GoodAll.cons ?_ ?_
        · intro r wx hR hx
          obtain ⟨h1, _⟩ := hx
          replace h1 : r (.tmp 26) = (.bool false) := h1
          exact give_move (.inl rfl) ⟨Ext.refl _, h1⟩
        refine GoodAll.cons ?_ ?_
        · intro r wx hR hx
          obtain ⟨h1, _⟩ := hx
          replace h1 : r (.tmp 0) = (.slice (some ⟨b1, o1, none⟩) n c1) := h1
          intro gb hgb
          refine guard_in (b := gb) (want := false) hgb ?_
          exact give_move (.inl rfl) ⟨Ext.refl _, h1⟩
        refine GoodAll.cons ?_ ?_
        · intro r wx hR hx
          obtain ⟨h1, _⟩ := hx
          replace h1 : r (.tmp 5) = (.int .i64 (i : Int)) := h1
          intro gb hgb
          refine guard_in (b := gb) (want := false) hgb ?_
          exact give_move (.inl rfl) ⟨Ext.refl _, h1⟩
        refine GoodAll.cons ?_ ?_
        · intro r wx hR hx
          obtain ⟨h1, h2, _⟩ := hx
          replace h1 : r (.tmp 28) = (.slice (some ⟨b1, o1, none⟩) n c1) := h1
          replace h2 : r (.tmp 29) = (.int .i64 (i : Int)) := h2
          intro gb hgb
          refine guard_in (b := gb) (want := false) hgb ?_
          exact give_of (by simp [execOp, h1, h2, hin, go_sem]) ⟨Ext.refl _, rfl⟩
        refine GoodAll.cons ?_ ?_
        · intro r wx hR hx
          obtain ⟨h1, _⟩ := hx
          replace h1 : r (.tmp 30) = (.pointer (some ⟨b1, o1 + i * 2, none⟩)) := h1
          intro gb hgb
          refine guard_in (b := gb) (want := false) hgb ?_
          exact give_of (by simp [execOp, h1, go_sem]) ⟨Ext.refl _, rfl⟩
        refine GoodAll.cons ?_ ?_
        · intro r wx hR hx
          obtain ⟨h1, _⟩ := hx
          replace h1 : r (.tmp 31) = (.pointer (some ⟨b1, o1 + i * 2 + 1, none⟩)) := h1
          intro gb hgb
          refine guard_in (b := gb) (want := false) hgb ?_
          exact give_of (exec_get oneS rfl h1 (hR.cell cb1)) ⟨Ext.refl _, rfl⟩
        refine GoodAll.cons ?_ ?_
        · intro r wx hR hx
          obtain ⟨h1, _⟩ := hx
          replace h1 : r (.tmp 32) = u1 := h1
          intro gb hgb
          refine guard_in (b := gb) (want := false) hgb ?_
          exact give_of (exec_string byteT strT rfl _ m (by rw [h1]; exact HU.out.1.ext hR)) ⟨Ext.refl _, rfl⟩
        refine GoodAll.cons ?_ ?_
        · intro r wx hR hx
          obtain ⟨h1, _⟩ := hx
          replace h1 : r (.tmp 1) = (.slice (some ⟨b2, o2, none⟩) n c2) := h1
          intro gb hgb
          refine guard_in (b := gb) (want := false) hgb ?_
          exact give_move (.inl rfl) ⟨Ext.refl _, h1⟩
        refine GoodAll.cons ?_ ?_
        · intro r wx hR hx
          obtain ⟨h1, _⟩ := hx
          replace h1 : r (.tmp 5) = (.int .i64 (i : Int)) := h1
          intro gb hgb
          refine guard_in (b := gb) (want := false) hgb ?_
          exact give_move (.inl rfl) ⟨Ext.refl _, h1⟩
        refine GoodAll.cons ?_ ?_
        · intro r wx hR hx
          obtain ⟨h1, h2, _⟩ := hx
          replace h1 : r (.tmp 34) = (.slice (some ⟨b2, o2, none⟩) n c2) := h1
          replace h2 : r (.tmp 35) = (.int .i64 (i : Int)) := h2
          intro gb hgb
          refine guard_in (b := gb) (want := false) hgb ?_
          exact give_of (by simp [execOp, h1, h2, hin, go_sem]) ⟨Ext.refl _, rfl⟩
        refine GoodAll.cons ?_ ?_
        · intro r wx hR hx
          obtain ⟨h1, _⟩ := hx
          replace h1 : r (.tmp 36) = (.pointer (some ⟨b2, o2 + i * 2, none⟩)) := h1
          intro gb hgb
          refine guard_in (b := gb) (want := false) hgb ?_
          exact give_of (by simp [execOp, h1, go_sem]) ⟨Ext.refl _, rfl⟩
        refine GoodAll.cons ?_ ?_
        · intro r wx hR hx
          obtain ⟨h1, _⟩ := hx
          replace h1 : r (.tmp 37) = (.pointer (some ⟨b2, o2 + i * 2 + 1, none⟩)) := h1
          intro gb hgb
          refine guard_in (b := gb) (want := false) hgb ?_
          exact give_of (exec_get oneS rfl h1 (hR.cell cb2)) ⟨Ext.refl _, rfl⟩
        refine GoodAll.cons ?_ ?_
        · intro r wx hR hx
          obtain ⟨h1, _⟩ := hx
          replace h1 : r (.tmp 38) = u2 := h1
          intro gb hgb
          refine guard_in (b := gb) (want := false) hgb ?_
          exact give_of (exec_string byteT strT rfl _ m (by rw [h1]; exact HU.out.2.ext hR)) ⟨Ext.refl _, rfl⟩
        refine GoodAll.cons ?_ ?_
        · intro r wx hR hx
          obtain ⟨h1, h2, _⟩ := hx
          replace h1 : r (.tmp 33) = (.string (strOf m)) := h1
          replace h2 : r (.tmp 39) = (.string (strOf m)) := h2
          intro gb hgb
          refine guard_in (b := gb) (want := false) hgb ?_
          exact give_of (by simp [execOp, h1, h2, go_sem]) ⟨Ext.refl _, rfl⟩
        refine GoodAll.cons ?_ ?_
        · intro r wx hR hx
          obtain ⟨h1, h2, h3, _⟩ := hx
          replace h1 : r (.tmp 27) = (.bool false) := h1
          replace h2 : r (.const (.bool true)) = .bool true := h2
          replace h3 : r (.tmp 40) = (.bool false) := h3
          exact give_pickF rfl h1 ⟨Ext.refl _, h3⟩
        exact GoodAll.nil
      · intro vs w1 a1 hR hold ha1
        have hv0 : vs 0 = (.slice (some ⟨b1, o1, none⟩) n c1) := hold.at 0
        have hv1 : vs 1 = (.int .i64 (i : Int)) := hold.at 1
        have hv2 : vs 2 = (.pointer (some ⟨b1, o1 + i * 2, none⟩)) := hold.at 2
        have hv3 : vs 3 = (.pointer (some ⟨b1, o1 + i * 2, none⟩)) := hold.at 3
        have hv4 : vs 4 = (.int .i64 k) := hold.at 4
        have hv5 : vs 5 = (.slice (some ⟨b2, o2, none⟩) n c2) := hold.at 5
        have hv6 : vs 6 = (.int .i64 (i : Int)) := hold.at 6
        have hv7 : vs 7 = (.pointer (some ⟨b2, o2 + i * 2, none⟩)) := hold.at 7
        have hv8 : vs 8 = (.pointer (some ⟨b2, o2 + i * 2, none⟩)) := hold.at 8
        have hv9 : vs 9 = (.int .i64 k) := hold.at 9
        have hv10 : vs 10 = (.bool false) := hold.at 10
        have hv11 : vs 11 = (.bool false) := hold.at 11
        have hv12 : vs 12 = (.slice (some ⟨b1, o1, none⟩) n c1) := hold.at 12
        have hv13 : vs 13 = (.int .i64 (i : Int)) := hold.at 13
        have hv14 : vs 14 = (.pointer (some ⟨b1, o1 + i * 2, none⟩)) := hold.at 14
        have hv15 : vs 15 = (.pointer (some ⟨b1, o1 + i * 2 + 1, none⟩)) := hold.at 15
        have hv16 : vs 16 = u1 := hold.at 16
        have hv17 : vs 17 = (.string (strOf m)) := hold.at 17
        have hv18 : vs 18 = (.slice (some ⟨b2, o2, none⟩) n c2) := hold.at 18
        have hv19 : vs 19 = (.int .i64 (i : Int)) := hold.at 19
        have hv20 : vs 20 = (.pointer (some ⟨b2, o2 + i * 2, none⟩)) := hold.at 20
        have hv21 : vs 21 = (.pointer (some ⟨b2, o2 + i * 2 + 1, none⟩)) := hold.at 21
        have hv22 : vs 22 = u2 := hold.at 22
        have hv23 : vs 23 = (.string (strOf m)) := hold.at 23
        have hv24 : vs 24 = (.bool false) := hold.at 24
        have hv25 : vs 25 = (.bool false) := hold.at 25
        simp only [putAll, Act.put, hv0, hv1, hv2, hv3, hv4, hv5, hv6, hv7, hv8, hv9, hv10, hv11, hv12, hv13, hv14, hv15, hv16, hv17, hv18, hv19, hv20, hv21, hv22, hv23, hv24, hv25, List.setIfInBounds_toArray, List.set_cons_succ, List.set_cons_zero] at ha1
        subst ha1
        have HE : Hid (Ext w w1) := hE0.trans hR
        clear hold hv0 hv1 hv2 hv3 hv4 hv5 hv6 hv7 hv8 hv9 hv10 hv11 hv12 hv13 hv14 hv15 hv16 hv17 hv18 hv19 hv20 hv21 hv22 hv23 hv24 hv25 ca1 ca2 cb1 cb2 HU hR hE0
        go_wp2
        go_roundg (n - (i + 1))
        case measure => omega
        case rel => exact ⟨i + 1, by omega, rfl, by simp, HE.out⟩
    · have hd : decide ((i : Int) < (n : Int)) = false := decide_eq_false (by omega)
      go_wp2
      go_ret
      exact ⟨rfl, HR.out⟩
end Tlv
end Go.Proofs.Ytmfciiccomagpaa
