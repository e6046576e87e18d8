/- A reader: what is left, what is next. No condition of its own. -/
import Derived.Test.YtmfciiccomagpaaTlv2
namespace Go.Proofs.Ytmfciiccomagpaa
namespace Tlv
open Go Go.RowKit
set_option linter.unusedVariables false
set_option linter.unusedSimpArgs false
set_option maxRecDepth 100000


/-- A reader in memory: its block, its bytes' slice, its bytes, its place (or wrong). -/
structure InAt (w : World) (base g : Nat) (bv : Value) (B : List Nat) (s : Option Nat) : Prop where
  own : OB w base bv B
  blk : ∃ (a : Nat) (b : Bool), Blk w g #[bv, .int .i64 (a : Int), .bool b] 80 ∧ a ≤ B.length ∧ s = (if b = true then none else some a)
theorem InAt.ext {w w' : World} {base g : Nat} {bv : Value} {B : List Nat} {s : Option Nat} (h : InAt w base g bv B s) (he : Ext w w') : InAt w' base g bv B s := by
  obtain ⟨h1, a, b, hb, h2⟩ := h
  exact ⟨h1.ext he, a, b, hb.ext he, h2⟩
theorem InAt.lt {w : World} {base g : Nat} {bv : Value} {B : List Nat} {s : Option Nat} (h : InAt w base g bv B s) : g < w.heap.size := by
  obtain ⟨_, a, b, hb, _⟩ := h
  exact hb.lt
theorem InAt.ne {w : World} {base g : Nat} {bv : Value} {B : List Nat} {s : Option Nat} (h : InAt w base g bv B s) : ∀ k, bv.ownBlock = some k → k ≠ g := by
  obtain ⟨h1, a, b, hb, _⟩ := h
  exact h1.ne hb (by decide)
theorem InAt.inB {w : World} {base g : Nat} {bv : Value} {B : List Nat} {s : Option Nat} (h : InAt w base g bv B s) : InB B s := by
  obtain ⟨_, a, b, _, ha, rfl⟩ := h
  intro x hx
  cases b <;> simp at hx
  omega
theorem InAt.but {S : Nat → Prop} {w w' : World} {base g : Nat} {bv : Value} {B : List Nat} {s : Option Nat} (h : InAt w base g bv B s) (hk : KeepBut S w w') (hg : ¬ S g) (hn : ∀ k, bv.ownBlock = some k → ¬ S k) : InAt w' base g bv B s := by
  obtain ⟨h1, a, b, hb, h2⟩ := h
  exact ⟨h1.but hk hn, a, b, hb.but hk hg, h2⟩
/-- Its block stored anew. -/
theorem InAt.set {w w' : World} {base g : Nat} {bv : Value} {B : List Nat} {s : Option Nat} (h : InAt w base g bv B s) (hk : KeepBut (· = g) w w') {a : Nat} {b : Bool} (hb : Blk w' g #[bv, .int .i64 (a : Int), .bool b] 80) (ha : a ≤ B.length) : InAt w' base g bv B (if b = true then none else some a) :=
  ⟨h.own.but hk h.ne, a, b, hb, ha, rfl⟩

set_option maxHeartbeats 2000000 in
theorem left_any {w : World} {base g : Nat} {bv : Value} {B : List Nat} {s : Option Nat} (h : InAt w base g bv B s) (hB : B.length ≤ 1000000) :
    Calls Try.prog 22 #[ptr g] w fun e w' => e = .returned (.int .i64 (leftS B s : Nat)) ∧ Ext w w' := by
  obtain ⟨ba, bc, rfl⟩ := h.own.form
  obtain ⟨_, a, b, HB, ha, rfl⟩ := h
  have c0 := HB.cell 0
  have c1 := HB.cell 1
  have c2 := HB.cell 2
  cases b with
  | true =>
    go_enter Try.func22, Try.ntmps22
    go_wp2
    go_ret
    exact ⟨rfl, Ext.refl _⟩
  | false =>
    have hsub : IntKind.i64.wrap ((B.length : Int) - (a : Int)) = ((B.length - a : Nat) : Int) := by rw [IntKind.wrap_i64]; omega
    go_enter Try.func22, Try.ntmps22
    go_wp2_with fail
    have HB0 : Blk w.drew g #[.slice ba B.length bc, .int .i64 (a : Int), .bool false] 80 := HB
    refine wp_region_facts (fun t => bif Nat.ble 11 t && Nat.ble t 20 then some (t - 11) else bif Nat.beq t 2 then some 10 else none) 21 Ext
      [Is (.pointer (some ⟨g, 0, none⟩)),
       Is (.pointer (some ⟨g, 0, none⟩)),
       Is (.pointer (some ⟨g, 0, none⟩)),
       Is (.slice ba B.length bc),
       Is (.int .i64 (B.length : Int)),
       Is (.pointer (some ⟨g, 0, none⟩)),
       Is (.pointer (some ⟨g, 0, none⟩)),
       Is (.pointer (some ⟨g, 1, none⟩)),
       Is (.int .i64 (a : Int)),
       Is (.int .i64 ((B.length - a : Nat) : Int)),
       Is (.int .i64 ((B.length - a : Nat) : Int))]
      rfl (by kernel_rfl) (by kernel_rfl) rfl Ext.refl (fun _ _ _ => Ext.trans) ?_ ?_ ?_
    · exact KeepAll.is (KeepAll.is (KeepAll.is (KeepAll.is (KeepAll.is (KeepAll.is (KeepAll.is (KeepAll.is (KeepAll.is (KeepAll.is (KeepAll.is (KeepAll.nil)))))))))))
    · refine GoodAll.cons ?_ ?_
      · intro r wx hR hx
        obtain ⟨h1, _⟩ := hx
        replace h1 : r (.tmp 0) = (.pointer (some ⟨g, 0, none⟩)) := h1
        exact give_move (.inl rfl) ⟨Ext.refl _, h1⟩
      refine GoodAll.cons ?_ ?_
      · intro r wx hR hx
        obtain ⟨h1, _⟩ := hx
        replace h1 : r (.tmp 11) = (.pointer (some ⟨g, 0, none⟩)) := h1
        exact give_of (by simp [execOp, h1, go_sem]) ⟨Ext.refl _, rfl⟩
      refine GoodAll.cons ?_ ?_
      · intro r wx hR hx
        obtain ⟨h1, _⟩ := hx
        replace h1 : r (.tmp 12) = (.pointer (some ⟨g, 0, none⟩)) := h1
        exact give_of (by simp [execOp, h1, go_sem]) ⟨Ext.refl _, rfl⟩
      refine GoodAll.cons ?_ ?_
      · intro r wx hR hx
        obtain ⟨h1, _⟩ := hx
        replace h1 : r (.tmp 13) = (.pointer (some ⟨g, 0, none⟩)) := h1
        exact give_of (exec_get oneS rfl h1 ((HB0.ext hR).cell 0)) ⟨Ext.refl _, rfl⟩
      refine GoodAll.cons ?_ ?_
      · intro r wx hR hx
        obtain ⟨h1, _⟩ := hx
        replace h1 : r (.tmp 14) = (.slice ba B.length bc) := h1
        exact give_of (by simp [execOp, h1, go_sem]) ⟨Ext.refl _, rfl⟩
      refine GoodAll.cons ?_ ?_
      · intro r wx hR hx
        obtain ⟨h1, _⟩ := hx
        replace h1 : r (.tmp 0) = (.pointer (some ⟨g, 0, none⟩)) := h1
        exact give_move (.inl rfl) ⟨Ext.refl _, h1⟩
      refine GoodAll.cons ?_ ?_
      · intro r wx hR hx
        obtain ⟨h1, _⟩ := hx
        replace h1 : r (.tmp 16) = (.pointer (some ⟨g, 0, none⟩)) := h1
        exact give_of (by simp [execOp, h1, go_sem]) ⟨Ext.refl _, rfl⟩
      refine GoodAll.cons ?_ ?_
      · intro r wx hR hx
        obtain ⟨h1, _⟩ := hx
        replace h1 : r (.tmp 17) = (.pointer (some ⟨g, 0, none⟩)) := h1
        exact give_of (by simp [execOp, h1, go_sem]) ⟨Ext.refl _, rfl⟩
      refine GoodAll.cons ?_ ?_
      · intro r wx hR hx
        obtain ⟨h1, _⟩ := hx
        replace h1 : r (.tmp 18) = (.pointer (some ⟨g, 1, none⟩)) := h1
        exact give_of (exec_get one3 rfl h1 ((HB0.ext hR).cell 1)) ⟨Ext.refl _, rfl⟩
      refine GoodAll.cons ?_ ?_
      · intro r wx hR hx
        obtain ⟨h1, h2, _⟩ := hx
        replace h1 : r (.tmp 15) = (.int .i64 (B.length : Int)) := h1
        replace h2 : r (.tmp 19) = (.int .i64 (a : Int)) := h2
        exact give_of (by simp [execOp, h1, h2, hsub, go_sem]) ⟨Ext.refl _, rfl⟩
      refine GoodAll.cons ?_ ?_
      · intro r wx hR hx
        obtain ⟨h1, _⟩ := hx
        replace h1 : r (.tmp 20) = (.int .i64 ((B.length - a : Nat) : Int)) := h1
        exact give_move (.inr rfl) ⟨Ext.refl _, h1⟩
      exact GoodAll.nil
    · intro vs w1 a1 hR hold ha1
      have hv0 : vs 0 = (.pointer (some ⟨g, 0, none⟩)) := hold.at 0
      have hv1 : vs 1 = (.pointer (some ⟨g, 0, none⟩)) := hold.at 1
      have hv2 : vs 2 = (.pointer (some ⟨g, 0, none⟩)) := hold.at 2
      have hv3 : vs 3 = (.slice ba B.length bc) := hold.at 3
      have hv4 : vs 4 = (.int .i64 (B.length : Int)) := hold.at 4
      have hv5 : vs 5 = (.pointer (some ⟨g, 0, none⟩)) := hold.at 5
      have hv6 : vs 6 = (.pointer (some ⟨g, 0, none⟩)) := hold.at 6
      have hv7 : vs 7 = (.pointer (some ⟨g, 1, none⟩)) := hold.at 7
      have hv8 : vs 8 = (.int .i64 (a : Int)) := hold.at 8
      have hv9 : vs 9 = (.int .i64 ((B.length - a : Nat) : Int)) := hold.at 9
      have hv10 : vs 10 = (.int .i64 ((B.length - a : Nat) : Int)) := hold.at 10
      simp only [putAll, Act.put, hv0, hv1, hv2, hv3, hv4, hv5, hv6, hv7, hv8, hv9, hv10, List.setIfInBounds_toArray, List.set_cons_succ, List.set_cons_zero] at ha1
      subst ha1
      clear hold hv0 hv1 hv2 hv3 hv4 hv5 hv6 hv7 hv8 hv9 hv10
      go_wp2
      go_ret
      exact ⟨rfl, (Ext.drew _).trans hR⟩
theorem left_nil (w : World) : Calls Try.prog 22 #[.pointer none] w fun e w' => e = .returned (.int .i64 0) ∧ w' = w := by
  go_enter Try.func22, Try.ntmps22
  go_wp2
  go_ret
  exact ⟨rfl, rfl⟩
set_option maxHeartbeats 1000000 in
theorem fail_any {w : World} {base g : Nat} {bv : Value} {B : List Nat} {s : Option Nat} (h : InAt w base g bv B s) :
    Calls Try.prog 38 #[ptr g] w fun e w' => (∃ y, e = .returned y) ∧ InAt w' base g bv B none ∧ KeepBut (· = g) w w' := by
  obtain ⟨_, a, b, HB, ha, _⟩ := id h
  have H : Hid (InAt w base g bv B s ∧ a ≤ B.length) := ⟨h, ha⟩
  clear h ha
  go_enter Try.func38, Try.ntmps38
  go_wp2_with (first
    | (refine wl_set (v := .bool true) rfl one4 rfl rfl rfl rfl rfl HB (by simp) ?_; intro w2 hb2 hk2 hx; clear hx))
  go_end0
  exact ⟨⟨_, rfl⟩, H.out.1.set (b := true) hk2 hb2 H.out.2, hk2⟩
theorem fail_nil (w : World) : Calls Try.prog 38 #[.pointer none] w fun e w' => (∃ y, e = .returned y) ∧ w' = w := by
  go_enter Try.func38, Try.ntmps38
  go_wp2
  go_end0
  exact ⟨⟨_, rfl⟩, rfl⟩
end Tlv
end Go.Proofs.Ytmfciiccomagpaa
