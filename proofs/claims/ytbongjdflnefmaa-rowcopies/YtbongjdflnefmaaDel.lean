/- slices.Delete at the head of a slice of one's own. No condition of its own. -/
import Derived.Test.YtbongjdflnefmaaLays
import Derived.Test.YtbongjdflnefmaaRow
import Derived.Sort.OwnSortedInts
namespace Go.Proofs.Ytbongjdflnefmaa
open Go.RowKit Go.Sort
set_option linter.unusedVariables false
set_option linter.unusedSimpArgs false
set_option maxRecDepth 100000

theorem del_zero (a : Option Addr) (n c : Nat) (w : World) (hn : n ≤ c) (hc : c ≤ maxLen) (ha : a = none → n = 0 ∧ c = 0) :
    Calls Try.prog 44 #[.slice a n c, .int .i64 0, .int .i64 0] w fun e w' => e = .returned (.slice a n c) ∧ w' = w := by
  have hc' : c ≤ 9223372036854775807 := hc
  cases a with
  | none =>
    obtain ⟨rfl, rfl⟩ := ha rfl
    go_enter Try.func44, Try.ntmps44
    go_wp2
    go_ret
    exact ⟨rfl, rfl⟩
  | some x =>
    clear ha hc
    go_enter Try.func44, Try.ntmps44
    go_wp2
    go_ret
    exact ⟨rfl, rfl⟩

theorem del_own {w : World} {g cap : Nat} {l : List Int} (h : OwnN .i64 w 0 3 (.slice (some ⟨g, 0, none⟩) l.length cap) l) (k : Nat) (hk : k ≤ l.length) :
    Calls Try.prog 44 #[.slice (some ⟨g, 0, none⟩) l.length cap, .int .i64 (0 : Nat), .int .i64 k] w fun e w' => e = .returned (.slice (some ⟨g, 0, none⟩) (l.length - k) cap) ∧ OwnN .i64 w' 0 3 (.slice (some ⟨g, 0, none⟩) (l.length - k) cap) (l.drop k) ∧ w.grownBy w' (some g) := by
  rcases h.1.2 with ⟨h0, _⟩ | ⟨g', cap', cur, h0, hb, hg, hnc, hcm, hcs, ht⟩
  · cases h0
  cases h0
  rw [Nat.mul_one] at ht hcs
  have hH : Holds (Value.int .i64) w g 0 l.toArray := holds_of_blockI hg ht
  refine (Any.slices_Delete_int Try.delL g 0 cap 0 k l w hH hnc (by unfold maxLen at hcm; omega) (by omega) hk).mono ?_
  rintro e w' ⟨rfl, q, rfl⟩
  have hown := ownsRow_sortedI (w := w) (base := 0) (g := g) (cap := cap) (n := q) (e := 3) (os := #[]) (cur := cur) (ss := l) (ts := l.take 0 ++ l.drop k ++ List.replicate (k - 0) 0) (by simp; omega) hb hg hnc hcm (by omega)
  have hgr := grownBy_sortedI (w := w) (g := g) (n := q) (os := #[]) (l.take 0 ++ l.drop k ++ List.replicate (k - 0) 0).toArray
  rw [grow_empty] at hown hgr
  refine ⟨by simp, ⟨?_, by have := h.2; simp; omega⟩, hgr⟩
  rcases hown.2 with ⟨h0, _⟩ | ⟨g', cap', cur', h0, hb', hg', hnc', hcm', hcs', ht'⟩
  · cases h0
  cases h0
  refine ⟨by simp, .inr ⟨g, cap, cur', by simp, hb', hg', by simp; omega, hcm, hcs', ?_⟩⟩
  have e1 := congrArg (List.take (l.length - k)) ht'
  rw [List.take_take] at e1
  simp only [List.length_drop, Nat.mul_one] at e1 ⊢
  rw [show min (l.length - k) l.length = l.length - k by omega] at e1
  rw [e1]
  simp [List.take_append]
end Go.Proofs.Ytbongjdflnefmaa
