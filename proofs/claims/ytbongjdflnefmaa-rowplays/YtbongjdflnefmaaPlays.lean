/- The law RowPlays walked: it answers true. No condition of its own. -/
import Derived.Test.YtbongjdflnefmaaGoes
import Derived.Test.YtbongjdflnefmaaActsOpen
namespace Go.Proofs.Ytbongjdflnefmaa
open Go.RowKit
set_option linter.unusedVariables false
set_option linter.unusedSimpArgs false
set_option maxRecDepth 100000

set_option maxHeartbeats 4000000 in
theorem plays_any (f m : Int) (sv : Value) (n : Nat) (K J X : Nat → Int) (w : World) (hf : Of 4294967296 f) (hm : W64 m) (hs : ActsAt w sv n K J X) :
    Calls Try.prog 3 #[.agg #[.int .u32 f, .int .i64 m], sv] w fun e w' => e = .returned (.bool true) ∧ Ext w w' := by
  have HS : Hid (ActsAt w sv n K J X) := hs
  obtain ⟨sa, sc, rfl, hsc, hscm⟩ := hs.form
  have hsm : sc ≤ 9223372036854775807 := by unfold maxLen at hscm; omega
  clear hs
  by_cases h60 : 60 < n
  · have hd0 : decide (60 < (n : Int)) = true := decide_eq_true (by omega)
    go_enter Try.func3, Try.ntmps3
    go_wp2_with (first
     | (go_at_call 8
        refine (alive_any _).mono ?_
        rintro e w1 ⟨rfl, he1⟩
        have c0 : w1.cell? ⟨w.heap.size, 0, none⟩ = some (.int .u32 f) := he1.cell (cellNew w _ 24 (0, 0) w.heap.size 0 rfl)
        have c1 : w1.cell? ⟨w.heap.size, 1, none⟩ = some (.int .i64 m) := he1.cell (cellNew w _ 24 (0, 0) w.heap.size 1 rfl)
        have hE1 : Ext w w1 := (Ext.alloc _ _).trans he1
        have hlt1 : w.heap.size < w1.heap.size := by have := he1.size; simp at this; omega
        clear he1))
    go_ret
    exact ⟨rfl, hE1⟩
  have hd0 : decide (60 < (n : Int)) = false := decide_eq_false (by omega)
  by_cases hmo : m < 1 ∨ 1024 < m
  · rcases hmo with hlo | hhi
    · have hd1 : decide (m < 1) = true := decide_eq_true hlo
      go_enter Try.func3, Try.ntmps3
      go_wp2_with (first
       | (go_at_call 8
          refine (alive_any _).mono ?_
          rintro e w1 ⟨rfl, he1⟩
          have c0 : w1.cell? ⟨w.heap.size, 0, none⟩ = some (.int .u32 f) := he1.cell (cellNew w _ 24 (0, 0) w.heap.size 0 rfl)
          have c1 : w1.cell? ⟨w.heap.size, 1, none⟩ = some (.int .i64 m) := he1.cell (cellNew w _ 24 (0, 0) w.heap.size 1 rfl)
          have hE1 : Ext w w1 := (Ext.alloc _ _).trans he1
          have hlt1 : w.heap.size < w1.heap.size := by have := he1.size; simp at this; omega
          clear he1)
       | (go_at_call 9; refine (new_out _ _ _ hf hm (.inl hlo)).mono ?_; rintro e w2 ⟨rfl, rfl⟩)
       | (go_at_call 10; refine (is_err 1 1 _ (by omega) (by omega) (by omega)).mono ?_; rintro e w' ⟨rfl, rfl⟩))
      go_ret
      exact ⟨rfl, hE1⟩
    · have hd1 : decide (m < 1) = false := decide_eq_false (by omega)
      have hd2 : decide (1024 < m) = true := decide_eq_true hhi
      go_enter Try.func3, Try.ntmps3
      go_wp2_with (first
       | (go_at_call 8
          refine (alive_any _).mono ?_
          rintro e w1 ⟨rfl, he1⟩
          have c0 : w1.cell? ⟨w.heap.size, 0, none⟩ = some (.int .u32 f) := he1.cell (cellNew w _ 24 (0, 0) w.heap.size 0 rfl)
          have c1 : w1.cell? ⟨w.heap.size, 1, none⟩ = some (.int .i64 m) := he1.cell (cellNew w _ 24 (0, 0) w.heap.size 1 rfl)
          have hE1 : Ext w w1 := (Ext.alloc _ _).trans he1
          have hlt1 : w.heap.size < w1.heap.size := by have := he1.size; simp at this; omega
          clear he1)
       | (go_at_call 9; refine (new_out _ _ _ hf hm (.inr hhi)).mono ?_; rintro e w2 ⟨rfl, rfl⟩)
       | (go_at_call 10; refine (is_err 1 1 _ (by omega) (by omega) (by omega)).mono ?_; rintro e w' ⟨rfl, rfl⟩))
      go_ret
      exact ⟨rfl, hE1⟩
  have hm1 : 1 ≤ m ∧ m ≤ 1024 := by omega
  have hd1 : decide (m < 1) = false := decide_eq_false (by omega)
  have hd2 : decide (1024 < m) = false := decide_eq_false (by omega)
  have hd3 : decide (m > 1024) = false := decide_eq_false (by omega)
  go_enter Try.func3, Try.ntmps3
  go_wp2_with (first
     | (go_at_call 8
        refine (alive_any _).mono ?_
        rintro e w1 ⟨rfl, he1⟩
        have c0 : w1.cell? ⟨w.heap.size, 0, none⟩ = some (.int .u32 f) := he1.cell (cellNew w _ 24 (0, 0) w.heap.size 0 rfl)
        have c1 : w1.cell? ⟨w.heap.size, 1, none⟩ = some (.int .i64 m) := he1.cell (cellNew w _ 24 (0, 0) w.heap.size 1 rfl)
        have hE1 : Ext w w1 := (Ext.alloc _ _).trans he1
        have hlt1 : w.heap.size < w1.heap.size := by have := he1.size; simp at this; omega
        clear he1)
     | (go_at_call 9
        refine (new_any _ _ _ hf hm1).mono ?_
        rintro e w2 ⟨rfl, hr2, he2⟩
        have HR2 : Hid (RowAt _ _ _ _ _ _) := hr2
        have d0 := he2.cell c0
        have d1 := he2.cell c1
        have hE2 : Ext w w2 := hE1.trans he2
        have HE12 : Hid (Ext w1 w2) := he2
        clear he2 hr2 c0 c1)
     | (go_at_call 11
        refine (play_any HR2.out (NumsAt.nothing _ _) (fun g hg => by cases hg) (HS.out.ext hE2) (fun hn g hg hft => by
          have h1 := HS.out.lt hn g hg
          rcases hft with h2 | h2
          · omega
          · cases h2)).mono ?_
        rintro e w3 ⟨f', l', v', u', rfl, r3, m3, n3, _⟩
        have HE3 : Hid (Ext w w3) := Ext.on hE2 (m3.below (B := w1.heap.size) (Nat.le_refl _) (fun g hg => by cases hg) HE12.out.size) (by omega)
        obtain ⟨a3, c3, rfl, _⟩ := n3.form
        have HR3 : Hid (RowAt _ _ _ _ _ _) := r3
        have HN3 : Hid (NumsAt _ _ _ _) := n3
        clear r3 m3 n3 d0 d1)
     | (go_at_call 12
        refine (goes_any (HR3.out.ext (Ext.alloc _ _)) (HN3.out.ext (Ext.alloc _ _))).mono ?_
        rintro e w5 ⟨rfl, he5⟩))
  go_ret
  exact ⟨rfl, (HE3.out.trans (Ext.alloc _ _)).trans he5⟩
end Go.Proofs.Ytbongjdflnefmaa
