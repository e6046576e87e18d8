/- What is next of a reader. No condition of its own. -/
import Derived.Test.YtmfciiccomagpaaTlv3
namespace Go.Proofs.Ytmfciiccomagpaa
namespace Tlv
open Go Go.RowKit
set_option linter.unusedVariables false
set_option linter.unusedSimpArgs false
set_option maxRecDepth 100000

/-- What 'next' leaves. -/
def NextIs (w : World) (base g : Nat) (bv : Value) (B : List Nat) (r : Option Nat × List Nat) (e : Ending) (w' : World) : Prop :=
  ∃ a n c, e = .returned (.slice a n c) ∧ n = r.2.length ∧ BytesAt w' (.slice a n c) r.2 ∧ (∀ k, blockOf (.slice a n c) = some k → bv.ownBlock = some k) ∧ InAt w' base g bv B r.1 ∧ KeepBut (· = g) w w'
theorem next_none {w w' : World} {base g : Nat} {bv : Value} {B : List Nat} (h : InAt w' base g bv B none) (hk : KeepBut (· = g) w w') : NextIs w base g bv B (none, []) (.returned (.slice none 0 0)) w' :=
  ⟨none, 0, 0, rfl, rfl, BytesAt.none _, (fun k hk => by cases hk), h, hk⟩

set_option maxHeartbeats 4000000 in
theorem next_any {w : World} {base g : Nat} {bv : Value} {B : List Nat} {s : Option Nat} (h : InAt w base g bv B s) (hB : B.length ≤ 1000000) (n : Int) :
    Calls Try.prog 39 #[ptr g, .int .i64 n] w (NextIs w base g bv B (takeS B s n)) := by
  have H : Hid (InAt w base g bv B s ∧ B.length ≤ 1000000) := ⟨h, hB⟩
  by_cases h0 : n < 0
  · have hd : decide (n < 0) = true := decide_eq_true h0
    have hT : takeS B s n = (none, []) := by
      cases s with
      | none => rfl
      | some a => exact takeS_no (by omega)
    rw [hT]
    clear h hB
    go_enter Try.func39, Try.ntmps39
    go_wp2_with (first
      | (go_at_call 38; refine (fail_any H.out.1).mono ?_; rintro e w2 ⟨⟨y, rfl⟩, hi2, hk2⟩; obtain ⟨_, a2, b2, hb2, ha2, hs2⟩ := id hi2; have c2 := hb2.cell 2; have hbt : b2 = true := (by cases b2 with | true => rfl | false => cases hs2); subst hbt; clear hs2 ha2))
    go_ret
    exact next_none hi2 hk2
  · have hd : decide (n < 0) = false := decide_eq_false h0
    by_cases h1 : (leftS B s : Int) < n
    · have hd1 : decide (n > (leftS B s : Int)) = true := decide_eq_true h1
      have hT : takeS B s n = (none, []) := by
        cases s with
        | none => rfl
        | some a =>
          have := h.inB a rfl
          unfold leftS at h1
          exact takeS_no (by simp only at h1; omega)
      rw [hT]
      clear h hB
      obtain ⟨L, hL⟩ : ∃ L, leftS B s = L := ⟨_, rfl⟩
      rw [hL] at hd1 h1
      go_enter Try.func39, Try.ntmps39
      go_wp2_with (first
        | (go_at_call 22; refine (left_any H.out.1 H.out.2).mono ?_; rintro e w1 ⟨rfl, he1⟩; rw [hL])
        | (go_at_call 38; refine (fail_any (H.out.1.ext he1)).mono ?_; rintro e w2 ⟨⟨y, rfl⟩, hi2, hk2⟩; obtain ⟨_, a2, b2, hb2, ha2, hs2⟩ := id hi2; have c2 := hb2.cell 2; have hbt : b2 = true := (by cases b2 with | true => rfl | false => cases hs2); subst hbt; clear hs2 ha2))
      go_ret
      exact next_none hi2 ((KeepBut.ext he1).trans hk2)
    · have hd1 : decide (n > (leftS B s : Int)) = false := decide_eq_false h1
      obtain ⟨ba, bc, rfl⟩ := h.own.form
      obtain ⟨_, a, b, HB, ha, hs⟩ := id h
      cases b with
      | true =>
        have hs' : s = none := hs
        subst hs'
        clear h hB hs
        obtain ⟨L, hL⟩ : ∃ L, leftS B none = L := ⟨_, rfl⟩
        rw [hL] at hd1 h1
        go_enter Try.func39, Try.ntmps39
        go_wp2_with (first
          | (go_at_call 22; refine (left_any H.out.1 H.out.2).mono ?_; rintro e w1 ⟨rfl, he1⟩; rw [hL]; have c2 := (HB.ext he1).cell 2))
        go_ret
        exact next_none (H.out.1.ext he1) (KeepBut.ext he1)
      | false =>
        have hs' : s = some a := hs
        subst hs'
        have hn2 : n ≤ (B.length : Int) - (a : Int) := by
          unfold leftS at h1; simp only at h1; omega
        obtain ⟨m, rfl⟩ : ∃ m : Nat, n = (m : Int) := ⟨n.toNat, by omega⟩
        rw [takeS_yes (by omega) hn2, Int.toNat_natCast]
        obtain ⟨a2, ha2⟩ : ∃ a2, a2 = a + m := ⟨_, rfl⟩
        have HA : Hid (a2 = a + m ∧ a2 ≤ B.length ∧ B.length ≤ bc ∧ bc ≤ maxLen) := ⟨ha2, by omega, by
          obtain ⟨x, y, e, hx⟩ := h.own.bytes.form
          cases e
          exact hx.1⟩
        have hadd : IntKind.i64.wrap ((a : Int) + (m : Int)) = (a2 : Int) := by rw [IntKind.wrap_i64]; omega
        have hadd3 : wrap64 (a2 : Int) = (a2 : Int) := by unfold wrap64; omega
        have hadd2 : (a : Int) + (m : Int) = (a2 : Int) := by omega
        rw [← ha2]
        clear h hs ha2 hB
        obtain ⟨L, hL⟩ : ∃ L, leftS B (some a) = L := ⟨_, rfl⟩
        rw [hL] at hd1 h1
        go_enter Try.func39, Try.ntmps39
        go_wp2_with (first
          | (go_at_call 22; refine (left_any H.out.1 H.out.2).mono ?_; rintro e w1 ⟨rfl, he1⟩; rw [hL]; have c1 := (HB.ext he1).cell 1; have c2 := (HB.ext he1).cell 2)
          | (refine wl_set (v := .int .i64 (a2 : Int)) rfl one3 rfl rfl (by first | rfl | go_simp | simp [go_sem, hadd, hadd2, hadd3]) rfl rfl (HB.ext he1) (by simp) ?_; intro w2 hb2 hk2 hx; clear hx))
        have HB7 : Blk w2.drew g #[.slice ba B.length bc, .int .i64 (a2 : Int), .bool false] 80 := hb2
        have ha12 : a ≤ a2 := by have := HA.out; omega
        have ha2c : a2 ≤ bc := by have := HA.out; omega
        clear c1 c2
        refine wp_region_facts (fun t => bif Nat.ble 36 t && Nat.ble t 45 then some (t - 36) else bif Nat.beq t 4 then some 10 else none) 46 Ext
          [Is (.pointer (some ⟨g, 0, none⟩)),
           Is (.pointer (some ⟨g, 0, none⟩)),
           Is (.pointer (some ⟨g, 0, none⟩)),
           Is (.slice ba B.length bc),
           Is (.int .i64 (a : Int)),
           Is (.pointer (some ⟨g, 0, none⟩)),
           Is (.pointer (some ⟨g, 0, none⟩)),
           Is (.pointer (some ⟨g, 1, none⟩)),
           Is (.int .i64 (a2 : Int)),
           Is (sliced ba a a2 bc 1),
           Is (sliced ba a a2 bc 1)]
          rfl (by kernel_rfl) (by kernel_rfl) rfl Ext.refl (fun _ _ _ => Ext.trans) ?_ ?_ ?_
        · exact KeepAll.is (KeepAll.is (KeepAll.is (KeepAll.is (KeepAll.is (KeepAll.is (KeepAll.is (KeepAll.is (KeepAll.is (KeepAll.is (KeepAll.is (KeepAll.nil)))))))))))
        · refine GoodAll.cons ?_ ?_
          · intro r wx hR hx
            obtain ⟨h1, _⟩ := hx
            replace h1 : r (.tmp 0) = (.pointer (some ⟨g, 0, none⟩)) := h1
            exact give_move (.inl rfl) ⟨Ext.refl _, h1⟩
          refine GoodAll.cons ?_ ?_
          · intro r wx hR hx
            obtain ⟨h1, _⟩ := hx
            replace h1 : r (.tmp 36) = (.pointer (some ⟨g, 0, none⟩)) := h1
            exact give_of (by simp [execOp, h1, go_sem]) ⟨Ext.refl _, rfl⟩
          refine GoodAll.cons ?_ ?_
          · intro r wx hR hx
            obtain ⟨h1, _⟩ := hx
            replace h1 : r (.tmp 37) = (.pointer (some ⟨g, 0, none⟩)) := h1
            exact give_of (by simp [execOp, h1, go_sem]) ⟨Ext.refl _, rfl⟩
          refine GoodAll.cons ?_ ?_
          · intro r wx hR hx
            obtain ⟨h1, _⟩ := hx
            replace h1 : r (.tmp 38) = (.pointer (some ⟨g, 0, none⟩)) := h1
            exact give_of (exec_get oneS rfl h1 ((HB7.ext hR).cell 0)) ⟨Ext.refl _, rfl⟩
          refine GoodAll.cons ?_ ?_
          · intro r wx hR hx
            obtain ⟨h1, _⟩ := hx
            replace h1 : r (.tmp 5) = (.int .i64 (a : Int)) := h1
            exact give_move (.inl rfl) ⟨Ext.refl _, h1⟩
          refine GoodAll.cons ?_ ?_
          · intro r wx hR hx
            obtain ⟨h1, _⟩ := hx
            replace h1 : r (.tmp 0) = (.pointer (some ⟨g, 0, none⟩)) := h1
            exact give_move (.inl rfl) ⟨Ext.refl _, h1⟩
          refine GoodAll.cons ?_ ?_
          · intro r wx hR hx
            obtain ⟨h1, _⟩ := hx
            replace h1 : r (.tmp 41) = (.pointer (some ⟨g, 0, none⟩)) := h1
            exact give_of (by simp [execOp, h1, go_sem]) ⟨Ext.refl _, rfl⟩
          refine GoodAll.cons ?_ ?_
          · intro r wx hR hx
            obtain ⟨h1, _⟩ := hx
            replace h1 : r (.tmp 42) = (.pointer (some ⟨g, 0, none⟩)) := h1
            exact give_of (by simp [execOp, h1, go_sem]) ⟨Ext.refl _, rfl⟩
          refine GoodAll.cons ?_ ?_
          · intro r wx hR hx
            obtain ⟨h1, _⟩ := hx
            replace h1 : r (.tmp 43) = (.pointer (some ⟨g, 1, none⟩)) := h1
            exact give_of (exec_get one3 rfl h1 ((HB7.ext hR).cell 1)) ⟨Ext.refl _, rfl⟩
          refine GoodAll.cons ?_ ?_
          · intro r wx hR hx
            obtain ⟨h1, h2, h3, _⟩ := hx
            replace h1 : r (.tmp 39) = (.slice ba B.length bc) := h1
            replace h2 : r (.tmp 40) = (.int .i64 (a : Int)) := h2
            replace h3 : r (.tmp 44) = (.int .i64 (a2 : Int)) := h3
            exact give_of (exec_slice_lh byteT rfl _ ba B.length bc a a2 .i64 .i64 h1 h2 h3 ha12 ha2c) ⟨Ext.refl _, rfl⟩
          refine GoodAll.cons ?_ ?_
          · intro r wx hR hx
            obtain ⟨h1, _⟩ := hx
            replace h1 : r (.tmp 45) = (sliced ba a a2 bc 1) := h1
            exact give_move (.inr rfl) ⟨Ext.refl _, h1⟩
          exact GoodAll.nil
        · intro vs w3 a3 hR hold ha3
          have hv0 : vs 0 = (.pointer (some ⟨g, 0, none⟩)) := hold.at 0
          have hv1 : vs 1 = (.pointer (some ⟨g, 0, none⟩)) := hold.at 1
          have hv2 : vs 2 = (.pointer (some ⟨g, 0, none⟩)) := hold.at 2
          have hv3 : vs 3 = (.slice ba B.length bc) := hold.at 3
          have hv4 : vs 4 = (.int .i64 (a : Int)) := hold.at 4
          have hv5 : vs 5 = (.pointer (some ⟨g, 0, none⟩)) := hold.at 5
          have hv6 : vs 6 = (.pointer (some ⟨g, 0, none⟩)) := hold.at 6
          have hv7 : vs 7 = (.pointer (some ⟨g, 1, none⟩)) := hold.at 7
          have hv8 : vs 8 = (.int .i64 (a2 : Int)) := hold.at 8
          have hv9 : vs 9 = (sliced ba a a2 bc 1) := hold.at 9
          have hv10 : vs 10 = (sliced ba a a2 bc 1) := hold.at 10
          simp only [putAll, Act.put, hv0, hv1, hv2, hv3, hv4, hv5, hv6, hv7, hv8, hv9, hv10, List.setIfInBounds_toArray, List.set_cons_succ, List.set_cons_zero] at ha3
          subst ha3
          clear hold hv0 hv1 hv2 hv3 hv4 hv5 hv6 hv7 hv8 hv9 hv10
          obtain ⟨sa, hsf, hsb⟩ := sliced_form ba a a2 bc
          rw [hsf]
          have HE : Hid (Ext w2 w3) := (Ext.drew _).trans hR
          have HN : Hid (NextIs w base g (.slice ba B.length bc) B (some a2, (B.drop a).take m) (.returned (.slice sa (a2 - a) (bc - a))) w3) := by
            have hi2 := (H.out.1.ext he1).set (b := false) hk2 hb2 HA.out.2.1
            refine ⟨_, _, _, rfl, ?_, ?_, fun k hk => ?_, hi2.ext HE.out, ((KeepBut.ext he1).trans hk2).trans (KeepBut.ext HE.out)⟩
            · have := HA.out; rw [List.length_take, List.length_drop]; omega
            · have := hi2.own.bytes.sliced a a2 ha12 HA.out.2.1
              rw [hsf, List.drop_take, show a2 - a = m by have := HA.out; omega] at this
              have := this.ext HE.out
              rwa [show a2 - a = m by have := HA.out; omega]
            · rw [← blockOf_own]; exact hsb k hk _ _
          clear hsb hsf
          generalize a2 - a = x at *
          generalize bc - a = y at *
          go_wp2
          go_ret
          exact HN.out
end Tlv
end Go.Proofs.Ytmfciiccomagpaa
