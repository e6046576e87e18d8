/- The law RowCuts walked: it answers true. No condition of its own. -/
import Derived.Test.YtbongjdflnefmaaMine
namespace Go.Proofs.Ytbongjdflnefmaa
open Go.RowKit
set_option linter.unusedVariables false
set_option linter.unusedSimpArgs false
set_option maxRecDepth 100000

section
variable {B : Nat} {w : World} {b : Nat} {f m : Int} {L : List Int} {k : Nat}
theorem Mine.len_cut (h : Mine B w b ((f + k) % 4294967296) m (L.drop k)) (hk : k ≤ L.length) : Calls Try.prog 18 #[rowP b] w fun e w' => e = .returned (.int .i64 ((L.length : Int) - k)) ∧ w' = w := by
  have := h.len
  rw [List.length_drop, show ((L.length - k : Nat) : Int) = L.length - k by omega] at this
  exact this
theorem Mine.next_cut (h : Mine B w b ((f + k) % 4294967296) m (L.drop k)) (hk : k ≤ L.length) : Calls Try.prog 17 #[rowP b] w fun e w' => e = .returned (.int .u32 ((f + L.length) % 4294967296)) ∧ w' = w := by
  have := h.next
  rw [List.length_drop, show Ser.step ((f + k) % 4294967296) ((L.length - k : Nat) : Int) = (f + L.length) % 4294967296 by unfold Ser.step; omega] at this
  exact this
theorem Mine.at_lt (h : Mine B w b ((f + k) % 4294967296) m (L.drop k)) (hL : L.length ≤ 1024) (i : Nat) (hi : i < k) (hk : k ≤ L.length) : Calls Try.prog 23 #[rowP b, .int .u32 ((f + i) % 4294967296)] w fun e w' => e = .returned (.tuple #[.int .i64 0, .bool false]) ∧ ∃ q, w' = w.drewN q := by
  have h1 := h.at_ _ (mod32 (f + i))
  have h2 : ¬ Ser.far ((f + k) % 4294967296) ((f + i) % 4294967296) < ((L.drop k).length : Int) := by rw [List.length_drop]; unfold Ser.far; omega
  unfold rowGet at h1
  rw [if_neg h2, decide_eq_false h2] at h1
  exact h1
theorem Mine.at_ge (h : Mine B w b ((f + k) % 4294967296) m (L.drop k)) (hL : L.length ≤ 1024) (i : Nat) (hi : k ≤ i) (hk : i < L.length) {x : Int} (hx : L.getD i 0 = x) : Calls Try.prog 23 #[rowP b, .int .u32 ((f + i) % 4294967296)] w fun e w' => e = .returned (.tuple #[.int .i64 x, .bool true]) ∧ ∃ q, w' = w.drewN q := by
  have h1 := h.at_ _ (mod32 (f + i))
  have h3 : Ser.far ((f + k) % 4294967296) ((f + i) % 4294967296) = (i - k : Nat) := by unfold Ser.far; omega
  have h2 : Ser.far ((f + k) % 4294967296) ((f + i) % 4294967296) < ((L.drop k).length : Int) := by rw [List.length_drop, h3]; omega
  unfold rowGet at h1
  rw [if_pos h2, decide_eq_true h2, h3, Int.toNat_natCast] at h1
  rw [← hx, show L.getD i 0 = (L.drop k).getD (i - k) 0 by simp [List.getD_eq_getElem?_getD, List.getElem?_drop, show k + (i - k) = i by omega]]
  exact h1
end

set_option maxHeartbeats 4000000 in
theorem cuts_any (f m k0 : Int) (u : Value) (l : List Int) (w : World) (hf : Of 4294967296 f) (hm : W64 m) (hu : NumsAt .i64 w u l) (hl : ∀ x ∈ l, W64 x) (hk0 : W64 k0) :
    Calls Try.prog 6 #[.agg #[.int .u32 f, .int .i64 m], u, .int .i64 k0] w fun e w' => e = .returned (.bool true) ∧ Ext w w' := by
  have HV : Hid (NumsAt .i64 w u l) := hu
  have HL : Hid (∀ x ∈ l, W64 x) := hl
  obtain ⟨a, cap, rfl, hcap, hcell⟩ := hu.form
  have hmx : cap ≤ 9223372036854775807 := by have := hcap.2; unfold maxLen at this; omega
  clear hu hcell hl
  by_cases hmo : m < 1 ∨ 1024 < m
  · go_enter Try.func6, Try.ntmps6
    go_wp2_with (first
     | (go_at_call 8
        refine (alive_any _).mono ?_
        rintro e w1 ⟨rfl, he1⟩
        have c0 : w1.cell? ⟨w.heap.size, 0, none⟩ = some (.int .u32 f) := he1.cell (cellNew w _ 24 (0, 0) w.heap.size 0 rfl)
        have c1 : w1.cell? ⟨w.heap.size, 1, none⟩ = some (.int .i64 m) := he1.cell (cellNew w _ 24 (0, 0) w.heap.size 1 rfl)
        have hE1 : Ext w w1 := (Ext.alloc _ _).trans he1
        have hlt1 : w.heap.size < w1.heap.size := by have := he1.size; simp at this; omega
        clear he1)
     | (go_at_call 9; refine (new_out _ _ _ hf hm hmo).mono ?_; rintro e w2 ⟨rfl, rfl⟩))
    go_ret
    exact ⟨rfl, hE1⟩
  have hm1 : 1 ≤ m ∧ m ≤ 1024 := by omega
  by_cases hl60 : 60 < l.length
  · have hd0 : decide (60 < (l.length : Int)) = true := decide_eq_true (by omega)
    go_enter Try.func6, Try.ntmps6
    go_wp2_with (first
     | (go_at_call 8
        refine (alive_any _).mono ?_
        rintro e w1 ⟨rfl, he1⟩
        have c0 : w1.cell? ⟨w.heap.size, 0, none⟩ = some (.int .u32 f) := he1.cell (cellNew w _ 24 (0, 0) w.heap.size 0 rfl)
        have c1 : w1.cell? ⟨w.heap.size, 1, none⟩ = some (.int .i64 m) := he1.cell (cellNew w _ 24 (0, 0) w.heap.size 1 rfl)
        have hE1 : Ext w w1 := (Ext.alloc _ _).trans he1
        have hlt1 : w.heap.size < w1.heap.size := by have := he1.size; simp at this; omega
        clear he1)
     | (go_at_call 9
        refine (new_mine _ _ _ hf hm1).mono ?_
        rintro e w2 ⟨rfl, hr2, he2⟩
        have HR2 : Hid (Mine _ _ _ _ _ _) := hr2
        have d0 := he2.cell c0
        have d1 := he2.cell c1
        have hE2 : Ext w w2 := hE1.trans he2
        clear he2 hr2 c0 c1))
    go_ret
    exact ⟨rfl, hE2⟩
  have hd0 : decide (60 < (l.length : Int)) = false := decide_eq_false (by omega)
  go_enter Try.func6, Try.ntmps6
  go_wp2_with (first
     | (go_at_call 8
        refine (alive_any _).mono ?_
        rintro e w1 ⟨rfl, he1⟩
        have c0 : w1.cell? ⟨w.heap.size, 0, none⟩ = some (.int .u32 f) := he1.cell (cellNew w _ 24 (0, 0) w.heap.size 0 rfl)
        have c1 : w1.cell? ⟨w.heap.size, 1, none⟩ = some (.int .i64 m) := he1.cell (cellNew w _ 24 (0, 0) w.heap.size 1 rfl)
        have hE1 : Ext w w1 := (Ext.alloc _ _).trans he1
        have hlt1 : w.heap.size < w1.heap.size := by have := he1.size; simp at this; omega
        clear he1)
     | (go_at_call 9
        refine (new_mine _ _ _ hf hm1).mono ?_
        rintro e w2 ⟨rfl, hr2, he2⟩
        have HR2 : Hid (Mine _ _ _ _ _ _) := hr2
        have d0 := he2.cell c0
        have d1 := he2.cell c1
        have hE2 : Ext w w2 := hE1.trans he2
        clear he2 hr2 c0 c1))
  go_loopg [36] l.length (fun g s wr => ∃ i : Nat, i ≤ l.length ∧ g = l.length - i ∧ s = .int .i64 i ∧ Hid (Mine w1.heap.size wr w1.heap.size f m ((l.take i).take m.toNat)) ∧ Hid (Below w1.heap.size w2 wr))
  case atStart => exact ⟨0, by omega, rfl, rfl, by simpa using HR2, Below.refl _ _⟩
  case round =>
    obtain ⟨i, hi, rfl, rfl, HM, HB⟩ := hrel
    have HN : Hid (NumsAt .i64 wr (.slice a l.length cap) l) := HV.out.via fun k _ hk => (HB.out.block k (by omega)).trans (hE2.block k hk)
    by_cases hlt : i < l.length
    · obtain ⟨g1, o1, rfl, e1⟩ := HN.out.cellAt i hlt
      have HP : Hid (pushed m ((l.take i).take m.toNat) (l.getD i 0) = (l.take (i + 1)).take m.toNat) := pushed_take m l i hlt
      have hx : W64 (l.getD i 0) := HL.out _ (getD_mem l 0 i hlt)
      generalize l.getD i 0 = x at *
      have hlt' : (i : Int) < (l.length : Int) := by omega
      go_wp2_with (first
        | (go_at_call 13
           refine (HM.out.push_any x hx).mono ?_
           rintro e w3 ⟨n1, n2, rfl, h1, h2⟩))
      go_roundg (l.length - (i + 1))
      case measure => omega
      case rel => exact ⟨i + 1, by omega, rfl, by simp, HP.out ▸ h1, Below.trans HB.out h2⟩
    · obtain rfl : i = l.length := by omega
      rw [List.take_length] at HM
      have hlt' : decide ((l.length : Int) < (l.length : Int)) = false := decide_eq_false (by omega)
      obtain ⟨L, hL⟩ : ∃ L, l.take m.toNat = L := ⟨_, rfl⟩
      rw [hL] at HM
      have hLl : L.length ≤ 60 := by rw [← hL]; simp; omega
      obtain ⟨k, hkl, hk, hk2⟩ := pick_lt k0 (L.length + 1) (by omega) (by omega)
      rw [Int.natCast_add, Int.natCast_one] at hk hk2
      have hk1 := far_step hf k (by omega)
      have D0 := Below.cellAt HB.out d0 hlt1
      have HLi : Hid (∀ i, i < L.length → L.getD i 0 = l.getD i 0 ∧ i < l.length) := fun i hi => by
        rw [← hL] at hi ⊢
        exact ⟨getD_take l _ i hi, by simp at hi; omega⟩
      go_wp2_with (first
        | (go_at_call 18
           refine (HM.out.len).mono ?_
           rintro e w' ⟨rfl, rfl⟩)
        | (go_at_call 16
           refine (HM.out.cut _ k (mod32 _) hk1 (by omega)).mono ?_
           rintro e w3 ⟨u3, rfl, h3, h1, h2⟩
           have HM3 : Hid (Mine _ _ _ _ _ _) := h1
           have HB3 : Hid (Below _ _ _) := Below.trans HB.out h2
           have E0 := Below.cellAt HB3.out d0 hlt1
           have HN3 : Hid (NumsAt .i64 w3 (.slice a l.length cap) l) := HV.out.via fun k _ hk => (HB3.out.block k (by omega)).trans (hE2.block k hk)
           obtain ⟨a3, c3, e3, hc3⟩ := h3.nums.form
           rw [List.length_take, Nat.min_eq_left (by omega)] at e3
           subst e3
           have HU3 : Hid (NumsAt .i64 w3 (.slice a3 k c3) (L.take k)) := h3.nums
           have hc3m : k ≤ c3 := by have := hc3.1.1; simp at this; omega
           clear h1 h2 h3 HM HB D0 HN hc3))
      have hkL : k ≤ L.length := by omega
      go_quiet (first
        | (go_at_call 18; refine Calls.quiet_of_same ((HM3.out.ext (Ext.drewN _ _)).len_cut hkL))
        | (go_at_call 15; refine Calls.quiet_of_same ((HM3.out.ext (Ext.drewN _ _)).from_))
        | (go_at_call 17; refine Calls.quiet_of_same ((HM3.out.ext (Ext.drewN _ _)).next_cut hkL)))
      go_wp2_with fail
      go_loopg [103] L.length (fun g s wr => (∃ q, wr = w3.drewN q) ∧ ∃ i : Nat, i ≤ L.length ∧ g = L.length - i ∧ s = .int .i64 i)
      case atStart => exact ⟨⟨_, rfl⟩, 0, by omega, rfl, rfl⟩
      case round =>
        obtain ⟨⟨q, rfl⟩, i, hi, rfl, rfl⟩ := hrel
        by_cases hlt : i < L.length
        · obtain ⟨hv, hil⟩ := HLi.out i hlt
          obtain ⟨g1, o1, rfl, e1⟩ := HN3.out.cellAt i hil
          have hlt' : (i : Int) < (L.length : Int) := by omega
          have hil' : (i : Int) < (l.length : Int) := by omega
          by_cases hik : i < k
          · obtain ⟨g2, o2, rfl, e2⟩ := HU3.out.cellAt i (by simp; omega)
            rw [getD_take _ _ _ (by simp; omega), hv] at e2
            have hik1 : decide ((i : Int) < (k : Int)) = true := decide_eq_true (by omega)
            have hik3 : (i : Int) < (k : Int) := by omega
            have hik2 : decide (k ≤ i) = false := decide_eq_false (by omega)
            have hik4 : decide ((i : Int) ≥ (k : Int)) = false := decide_eq_false (by omega)
            clear hv
            generalize l.getD i 0 = y at *
            go_wp2_with (first
              | (go_at_call 23
                 refine ((HM3.out.ext (Ext.drewN _ _)).at_lt (by omega) i hik hkL).mono ?_
                 rintro e w6 ⟨rfl, q', rfl⟩))
            go_quiet (fail)
            go_wp2
            go_roundg (L.length - (i + 1))
            case measure => omega
            case rel => exact ⟨⟨_, rfl⟩, i + 1, by omega, rfl, by simp⟩
          · have HX : Hid (L.getD i 0 = l.getD i 0) := hv
            clear hv
            have hik1 : decide ((i : Int) < (k : Int)) = false := decide_eq_false (by omega)
            have hik2 : decide ((k : Int) ≤ (i : Int)) = true := decide_eq_true (by omega)
            have hik4 : decide ((i : Int) ≥ (k : Int)) = true := decide_eq_true (by omega)
            have hik5 : ¬ (i : Int) < (k : Int) := by omega
            generalize l.getD i 0 = y at *
            go_wp2_with (first
              | (go_at_call 23
                 refine ((HM3.out.ext (Ext.drewN _ _)).at_ge (by omega) i (by omega) hlt HX.out).mono ?_
                 rintro e w6 ⟨rfl, q', rfl⟩))
            go_quiet (fail)
            go_wp2
            go_roundg (L.length - (i + 1))
            case measure => omega
            case rel => exact ⟨⟨_, rfl⟩, i + 1, by omega, rfl, by simp⟩
        · obtain rfl : i = L.length := by omega
          have hlt' : decide ((L.length : Int) < (L.length : Int)) = false := decide_eq_false (by omega)
          go_wp2
          go_ret
          exact ⟨rfl, (Ext.on hE2 HB3.out (by omega)).trans (Ext.drewN _ _)⟩
end Go.Proofs.Ytbongjdflnefmaa
