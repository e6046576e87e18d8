/- The law ShaCopies walked: it answers true. Condition: the tables hold what the text lays. -/
import Derived.Test.YtebnaffkgeiomaaDoorAlive
namespace Go.Proofs.YtebnaffkgeiomaaDoor
open Go Go.RowKit
set_option linter.unusedVariables false
set_option linter.unusedSimpArgs false
set_option maxRecDepth 100000

set_option maxHeartbeats 4000000 in
theorem copies_short (va vb vc : Value) (la lb lc : List Nat) (w : World) (hT : Tabs w) (ha : BytesAt w va la) (hb : BytesAt w vb lb) (hc : BytesAt w vc lc) (h1 : la.length ≤ 300) (h2 : lb.length ≤ 300) (h3 : lc.length ≤ 300) :
    Calls Tryd.prog 5 #[va, vb, vc] w fun e w' => e = .returned (.bool true) ∧ Ext w w' := by
  have HA : Hid (BytesAt w va la ∧ BytesAt w vb lb ∧ BytesAt w vc lc ∧ Tabs w ∧ 2 < w.heap.size) := ⟨ha, hb, hc, hT, hT.two⟩
  have HLN : Hid (la.length ≤ 300 ∧ lb.length ≤ 300 ∧ lc.length ≤ 300) := ⟨h1, h2, h3⟩
  obtain ⟨aa, ca, rfl, _, _⟩ := ha.form
  obtain ⟨ab, cb, rfl, _, _⟩ := hb.form
  obtain ⟨ac, cc, rfl, _, _⟩ := hc.form
  clear ha hb hc hT
  rename_i z1 z2 z3 z4 z5 z6
  clear z1 z2 z3 z4 z5 z6
  obtain ⟨D1, hD1⟩ : ∃ D, D = Sha.dgst (la ++ lb) := ⟨_, rfl⟩
  obtain ⟨D2, hD2⟩ : ∃ D, D = Sha.dgst (la ++ lc) := ⟨_, rfl⟩
  obtain ⟨D3, hD3⟩ : ∃ D, D = Sha.dgst [] := ⟨_, rfl⟩
  have q1 := run_eqlA (D := D1) (by rw [hD1]; exact dgst_len _) (by rw [hD1]; exact dgst_all _)
  have q2 := run_eqlA (D := D2) (by rw [hD2]; exact dgst_len _) (by rw [hD2]; exact dgst_all _)
  have q3 := run_eqlA (D := D3) (by rw [hD3]; exact dgst_len _) (by rw [hD3]; exact dgst_all _)
  have p1 := run_guardA (D := D1) .eql
  have p2 := run_guardA (D := D2) .eql
  have p3 := run_guardA (D := D3) .eql
  have HD1 : Hid (D1 = Sha.dgst (la ++ lb)) := hD1
  have HD2 : Hid (D2 = Sha.dgst (la ++ lc)) := hD2
  have HD3 : Hid (D3 = Sha.dgst []) := hD3
  clear hD1 hD2 hD3
  have i1 : decide ((la.length : Int) > 300) = false := decide_eq_false (by omega)
  have i2 : decide ((lb.length : Int) > 300) = false := decide_eq_false (by omega)
  have i3 : decide ((lc.length : Int) > 300) = false := decide_eq_false (by omega)
  go_enter Tryd.func5, Tryd.ntmps5
  go_wp2_with (first
    | (go_at_call 6; refine (alive_any _ HA.out.2.2.2.1).mono ?_; rintro e w1 ⟨rfl, he1⟩)
    | (go_at_call 9; refine (begin_any _ (HA.out.2.2.2.1.ext he1)).mono ?_; rintro e w2 ⟨rfl, hS2, he2⟩)
    | (go_at_call_of 10 (Value.pointer none); refine (add_nil _ _).mono ?_; rintro e wx ⟨⟨x, rfl⟩, hx⟩; subst wx)
    | (go_at_call 10; refine (add_any (HA.out.2.2.2.1.ext HE5.out) hS5 (HA.out.2.2.1.ext HE5.out) (HA.out.2.2.1.off he1.size) (by have := HA.out; have := he1.size; omega) (by have := HLN.out; simp; omega)).mono ?_; rintro e w6 ⟨⟨x, rfl⟩, hS6, hk6⟩; have HE6 : Hid (Ext w w6) := HE5.out.of_but hk6 (fun k e => by subst e; exact he1.size); have hd6 : StateAt w6 w3.heap.size (la ++ lb) := hd5.but hk6 (Nat.ne_of_gt hlt3))
    | (go_at_call 10; refine (add_any (HA.out.2.2.2.1.ext HE4.out) hS4 (HA.out.2.1.ext HE4.out) (HA.out.2.1.off HE3.out.size) (by have := HA.out; have := HE3.out.size; omega) (by have := HLN.out; simp; omega)).mono ?_; rintro e w5 ⟨⟨x, rfl⟩, hd5, hk5⟩; have HE5 : Hid (Ext w w5) := HE4.out.of_but hk5 (fun k e => by subst e; exact HE3.out.size); have hlt3 := hS3.blk.lt; have hS5 : StateAt w5 w1.heap.size la := (hS3.ext he4).but hk5 (Nat.ne_of_lt hlt3))
    | (go_at_call 10; refine (add_any (HA.out.2.2.2.1.ext (he1.trans he2)) hS2 (HA.out.1.ext (he1.trans he2)) (HA.out.1.off he1.size) (by have := HA.out; have := he1.size; omega) (by have := HLN.out; simp; omega)).mono ?_; rintro e w3 ⟨⟨x, rfl⟩, hS3, hk3⟩; rw [List.nil_append] at hS3; have HE3 : Hid (Ext w w3) := (he1.trans he2).of_but hk3 (fun k e => by subst e; exact he1.size))
    | (go_at_call_of 12 (Value.pointer none); refine (copy_nil _).mono ?_; rintro e wx ⟨rfl, hx⟩; subst wx)
    | (go_at_call 12; refine (copy_any hS3).mono ?_; rintro e w4 ⟨rfl, hS4, he4⟩; have HE4 : Hid (Ext w w4) := HE3.out.trans he4)
    | (go_at_call_of 11 (Value.pointer none); refine (stSum_nil (HA.out.2.2.2.1.ext HE10.out)).mono ?_; rintro e w11 ⟨rfl, he11⟩; rw [← HD3.out])
    | (go_at_call 11; refine (stSum_any (HA.out.2.2.2.1.ext HE8.out) hS8 (by have := HLN.out; simp; omega)).mono ?_; rintro e w9 ⟨rfl, he9⟩; rw [← HD2.out])
    | (go_at_call 11; refine (stSum_any (HA.out.2.2.2.1.ext HE6.out) hd6 (by have := HLN.out; simp; omega)).mono ?_; rintro e w7 ⟨rfl, he7⟩; rw [← HD1.out])
    | (go_at_call_of 7 (Value.slice none 0 0); refine (sum_any (ls := []) (HA.out.2.2.2.1.ext (HE10.out.trans he11)) (PartsOf.empty _) (by simp)).mono ?_; rintro e w12 ⟨rfl, he12⟩; rw [show ([] : List (List Nat)).flatten = [] by rfl, ← HD3.out])
    | (go_at_call 7; refine (sum_any (ls := [la, lc]) (HA.out.2.2.2.1.ext ((HE8.out.trans he9).trans (Ext.alloc _ _))) (PartsOf.two w9 _ rfl (HA.out.1.ext (HE8.out.trans he9)) (HA.out.2.2.1.ext (HE8.out.trans he9))) (by have := HLN.out; simp; omega)).mono ?_; rintro e w10 ⟨rfl, he10⟩; rw [show [la, lc].flatten = la ++ lc by simp, ← HD2.out]; have HE10 : Hid (Ext w w10) := ((HE8.out.trans he9).trans (Ext.alloc _ _)).trans he10)
    | (go_at_call 7; refine (sum_any (ls := [la, lb]) (HA.out.2.2.2.1.ext ((HE6.out.trans he7).trans (Ext.alloc _ _))) (PartsOf.two w7 _ rfl (HA.out.1.ext (HE6.out.trans he7)) (HA.out.2.1.ext (HE6.out.trans he7))) (by have := HLN.out; simp; omega)).mono ?_; rintro e w8 ⟨rfl, he8⟩; rw [show [la, lb].flatten = la ++ lb by simp, ← HD1.out]; have HE8 : Hid (Ext w w8) := ((HE6.out.trans he7).trans (Ext.alloc _ _)).trans he8; have hS8 := ((hS6.ext he7).ext (Ext.alloc _ _)).ext he8))
  go_ret
  exact ⟨rfl, (HE10.out.trans he11).trans he12⟩

set_option maxHeartbeats 1000000 in
theorem copies_long (a b c : Option Addr) (ca cb cc n1 n2 n3 : Nat) (w : World) (hT : Tabs w) (h1 : n1 ≤ maxLen) (h2 : n2 ≤ maxLen) (h3 : n3 ≤ maxLen) (hl : 300 < n1 ∨ (n1 ≤ 300 ∧ 300 < n2) ∨ (n1 ≤ 300 ∧ n2 ≤ 300 ∧ 300 < n3)) :
    Calls Tryd.prog 5 #[.slice a n1 ca, .slice b n2 cb, .slice c n3 cc] w fun e w' => e = .returned (.bool true) ∧ Ext w w' := by
  unfold maxLen at h1 h2 h3
  have HT : Hid (Tabs w) := hT
  clear hT
  rcases hl with hl | ⟨hl, hl2⟩ | ⟨hl, hl2, hl3⟩
  all_goals
    go_enter Tryd.func5, Tryd.ntmps5
    go_wp2_with (go_at_call 6; refine (alive_any _ HT.out).mono ?_; rintro e w' ⟨rfl, hb⟩)
    go_ret
    exact ⟨rfl, hb⟩

theorem copies_any (va vb vc : Value) (la lb lc : List Nat) (w : World) (hT : Tabs w) (ha : BytesAt w va la) (hb : BytesAt w vb lb) (hc : BytesAt w vc lc) :
    Calls Tryd.prog 5 #[va, vb, vc] w fun e w' => e = .returned (.bool true) ∧ Below w.heap.size w w' := by
  by_cases h : la.length ≤ 300 ∧ lb.length ≤ 300 ∧ lc.length ≤ 300
  · exact copies_short va vb vc la lb lc w hT ha hb hc h.1 h.2.1 h.2.2
  · obtain ⟨a, ca, rfl, _, _⟩ := ha.form
    obtain ⟨b, cb, rfl, _, _⟩ := hb.form
    obtain ⟨c, cc, rfl, _, _⟩ := hc.form
    exact copies_long a b c ca cb cc _ _ _ w hT ha.2.1 hb.2.1 hc.2.1 (by omega)
end Go.Proofs.YtebnaffkgeiomaaDoor
