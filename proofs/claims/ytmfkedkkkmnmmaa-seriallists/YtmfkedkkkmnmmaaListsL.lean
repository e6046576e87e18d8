/- The law SerialLists walked, for long lists: it answers true. No condition of its own. -/
import Derived.Test.YtmfkedkkkmnmmaaRSort
import Derived.Test.YtmfkedkkkmnmmaaSame
import Derived.Test.YtmfkedkkkmnmmaaSort
import Derived.Test.YtmfkedkkkmnmmaaPush
import Derived.Test.YtmfkedkkkmnmmaaTwoPush
import Derived.Test.YtmfkedkkkmnmmaaLoops
import Derived.Test.YtmfkedkkkmnmmaaAlive
namespace Go.Proofs.Ytmfkedkkkmnmmaa
open Go.RowKit Go.Shelf
set_option linter.unusedVariables false
set_option linter.unusedSimpArgs false
attribute [local go_sem] Oper.semAt_some

set_option maxRecDepth 100000 in
set_option maxHeartbeats 4000000 in
theorem lists_long (f : Int) (v : Value) (l : List Int) (n : Int) (w : World) (hf : Of 4294967296 f) (hv : NumsAt .u32 w v l) (hl : ∀ x ∈ l, Of 4294967296 x) (hn : W64 n) (hbig : 60 < l.length ∨ l.length ≤ 60 ∧ 200 < n) :
    CallsIn Fence.wide 5 Try.prog 5 #[.int .u32 f, v, .int .i64 n] w fun e W' => e = .returned (.bool true) ∧ Below w.heap.size w W' := by
  have HV : Hid (NumsAt .u32 w v l) := hv
  obtain ⟨a, cap, rfl, hcap, hcell⟩ := hv.form
  have HC : Hid (∀ j, j < l.length → ∃ b off, a = some ⟨b, off, none⟩ ∧ w.cell? ⟨b, off + j, none⟩ = some (.int .u32 (l.getD j 0))) := hcell
  have HL : Hid (∀ x ∈ l, Of 4294967296 x) := hl
  clear hv hcell hl
  have hro : Fence.wide.round = none := rfl
  have hF : ∀ k, Fence.wide.fn k := fun _ => trivial
  have hF8 : Fence.wide.fn 8 := trivial
  have hF23 : Fence.wide.fn 23 := trivial
  have hF24 : Fence.wide.fn 24 := trivial
  have hF25 : Fence.wide.fn 25 := trivial
  have hF26 : Fence.wide.fn 26 := trivial
  have hF27 : Fence.wide.fn 27 := trivial
  have hF28 : Fence.wide.fn 28 := trivial
  have hF29 : Fence.wide.fn 29 := trivial
  have hF14 : Fence.wide.fn 14 := trivial
  obtain ⟨b, hb0⟩ : ∃ b, w.heap.size = b := ⟨_, rfl⟩
  refine callsIn_of_wp_marks Try.func5 rfl (hF 5) ?_ hro
  simp only [Try.ntmps5, List.size_toArray, List.length_cons, List.length_nil, Nat.reduceAdd, Nat.reduceSub, Array.replicate_succ, Array.replicate_zero, List.push_toArray, List.append_toArray, List.nil_append, List.cons_append]
  obtain ⟨W1, hW1⟩ : ∃ W1, (w.alloc (.cells #[.int .u32 f] 22)).alloc (.cells #[.bool false] 4) = W1 := ⟨_, rfl⟩
  have hE1 : Ext w W1 := by rw [← hW1]; exact (Ext.alloc _ _).trans (Ext.alloc _ _)
  have hsz1 : W1.heap.size = b + 2 := by rw [← hW1]; simp [hb0]
  have B0 : Boxed W1 b 22 (.int .u32 f) := by
    have := (Boxed.new w 22 (.int .u32 f)).alloc (.cells #[.bool false] 4)
    rw [hb0] at this; rw [← hW1]; exact this
  have B1 : Boxed W1 (b + 1) 4 (.bool false) := by
    have := Boxed.new (w.alloc (.cells #[.int .u32 f] 22)) 4 (.bool false)
    rw [World.size_alloc, hb0] at this; rw [← hW1]; exact this
  gi_wp2_with fail
  clear hW1
  refine (callsIn_wide.2 (alive_any _)).mono ?_
  rintro e w' ⟨rfl, rfl⟩
  have hc1 := B1.cell
  have hf1 := B1.frozen
  rcases hbig with h60 | ⟨h60, h200⟩
  · have hd1 : decide (60 < (l.length : Int)) = true := decide_eq_true (by omega)
    gi_wp2
    have hc2 := (B1.set (.bool true)).cell
    refine ⟨.bool true, ?_, rfl, ?_⟩
    · simp [results, Try.f5, go_sem, hc2]
    · rw [← hb0] at *; exact hE1.below.setCell (p := ⟨w.heap.size + 1, 0, none⟩) (by simp) _
  · have hd1 : decide (60 < (l.length : Int)) = false := decide_eq_false (by omega)
    have hd2 : decide (200 < n) = true := decide_eq_true h200
    gi_wp2
    have hc2 := (B1.set (.bool true)).cell
    refine ⟨.bool true, ?_, rfl, ?_⟩
    · simp [results, Try.f5, go_sem, hc2]
    · rw [← hb0] at *; exact hE1.below.setCell (p := ⟨w.heap.size + 1, 0, none⟩) (by simp) _
end Go.Proofs.Ytmfkedkkkmnmmaa
