/- A row, and a list of one's own beside it: what the calls make of the row leaves the list, and the other way round. No condition of its own. -/
import Derived.Test.YtbongjdflnefmaaMine
namespace Go.Proofs.Ytbongjdflnefmaa
open Go.RowKit
set_option linter.unusedVariables false
set_option linter.unusedSimpArgs false
set_option maxRecDepth 100000

def Pair (B : Nat) (w : World) (b : Nat) (f m : Int) (L : List Int) (u : Value) (K : List Int) : Prop :=
  ∃ v, RowAt w b v f m L ∧ B ≤ b ∧ (∀ g, v.ownBlock = some g → B ≤ g) ∧ OwnN .i64 w B 3 u K ∧ ∀ g, u.ownBlock = some g → ¬ Foot b v g
section
variable {B b : Nat} {w w' : World} {f f' m : Int} {L L' K K' : List Int} {u u' v v' : Value}
theorem Pair.mine (h : Pair B w b f m L u K) : Mine B w b f m L := by
  obtain ⟨v, h1, h2, h3, _⟩ := h
  exact ⟨v, h1, h2, h3⟩
theorem Pair.own (h : Pair B w b f m L u K) : OwnN .i64 w B 3 u K := by
  obtain ⟨v, _, _, _, h4, _⟩ := h
  exact h4
theorem Pair.ext (h : Pair B w b f m L u K) (he : Ext w w') : Pair B w' b f m L u K := by
  obtain ⟨v, h1, h2, h3, h4, h5⟩ := h
  exact ⟨v, h1.ext he, h2, h3, h4.ext he, h5⟩
theorem Pair.step (h1 : RowAt w b v f m L) (h2 : B ≤ b) (h3 : ∀ g, v.ownBlock = some g → B ≤ g) (h4 : OwnN .i64 w B 3 u K) (h5 : ∀ g, u.ownBlock = some g → ¬ Foot b v g) (hr : RowAt w' b v' f' m L') (hm : Moves b v v' w w') : Pair B w' b f' m L' u K ∧ Below B w w' := by
  have hlt : B ≤ w.heap.size := by have := h1.lt; omega
  refine ⟨⟨v', hr, h2, fun g hg => ?_, h4.mono_via hm.keep h5, fun g hg => ?_⟩, hm.below h2 h3 hlt⟩
  · rcases hm.own g hg with h | h
    · exact h3 g h
    · omega
  · rintro (rfl | h)
    · exact h5 g hg (.inl rfl)
    · rcases hm.own g h with h | h
      · exact h5 g hg (.inr h)
      · have := (h4.lt hg).2; omega
theorem Pair.push (h : Pair B w b f m L u K) (x : Int) (hx : W64 x) (hroom : (L.length : Int) < m) : Calls Try.prog 13 #[rowP b, .int .i64 x] w fun e w' => e = .returned (.tuple #[.int .u32 (Ser.step f L.length), .nilIface]) ∧ Pair B w' b f m (L ++ [x]) u K ∧ Below B w w' := by
  obtain ⟨v, h1, h2, h3, h4, h5⟩ := h
  refine (push_any h1 x hx hroom).mono ?_
  rintro e w' ⟨rfl, v', h6, h7⟩
  exact ⟨rfl, Pair.step h1 h2 h3 h4 h5 h6 h7⟩
theorem Pair.push_full (h : Pair B w b f m L u K) (x : Int) (hx : W64 x) (hfull : (L.length : Int) = m) : Calls Try.prog 13 #[rowP b, .int .i64 x] w fun e w' => e = .returned (.tuple #[.int .u32 0, .iface 33 (.int .i64 3)]) ∧ Pair B w' b f m L u K ∧ Below B w w' := by
  have H := h
  obtain ⟨v, h1, h2, h3, h4, h5⟩ := h
  refine (Go.Proofs.Ytbongjdflnefmaa.push_full h1 x hx hfull).mono ?_
  rintro e w' ⟨rfl, q, rfl⟩
  exact ⟨rfl, H.ext (Ext.drewN _ _), (Ext.drewN _ _).below_of (by have := h1.lt; omega)⟩
theorem Pair.pop {x : Int} (h : Pair B w b f m (x :: L) u K) : Calls Try.prog 14 #[rowP b] w fun e w' => e = .returned (.tuple #[.int .i64 x, .nilIface]) ∧ Pair B w' b (Ser.step f 1) m L u K ∧ Below B w w' := by
  obtain ⟨v, h1, h2, h3, h4, h5⟩ := h
  refine (pop_any h1).mono ?_
  rintro e w' ⟨rfl, v', h6, h7⟩
  exact ⟨rfl, Pair.step h1 h2 h3 h4 h5 h6 h7⟩
theorem Pair.cut (h : Pair B w b f m L u K) (n : Int) (k : Nat) (hn : Of 4294967296 n) (hk : Ser.far f n = k) (hin : k ≤ L.length) : Calls Try.prog 16 #[rowP b, .int .u32 n] w fun e w' => ∃ r, e = .returned (.tuple #[r, .nilIface]) ∧ OwnN .i64 w' w.heap.size 3 r (L.take k) ∧ Pair B w' b n m (L.drop k) u K ∧ Below B w w' := by
  obtain ⟨v, h1, h2, h3, h4, h5⟩ := h
  refine (cut_any h1 n k hn hk hin).mono ?_
  rintro e w' ⟨r, v', rfl, h6, h7, h8, _⟩
  exact ⟨r, rfl, h6, Pair.step h1 h2 h3 h4 h5 h7 h8⟩
/-- The list beside the row has grown. -/
theorem Pair.grown {o : Obj} {N : Nat} (h : Pair B w b f m L u K) (hg : (w.alloc o).grownBy w' u.ownBlock) (ho : OwnN .i64 w' B 3 u' K') (hu : u'.ownBlock = u.ownBlock ∨ u'.ownBlock = some N) (hN : w.heap.size ≤ N) : Pair B w' b f m L u' K' ∧ Below B w w' := by
  obtain ⟨v, h1, h2, h3, h4, h5⟩ := h
  have hblk : ∀ k, k < w.heap.size → some k ≠ u.ownBlock → w'.heap[k]? = w.heap[k]? := fun k hk hne => (hg.block k (by simp; omega) hne).trans (Below.heap_alloc _ _ _ hk)
  have hsz : w.heap.size ≤ w'.heap.size := Nat.le_trans (by simp) hg.size
  refine ⟨⟨v, h1.via (hblk b h1.lt fun e => h5 b e.symm (.inl rfl)) (fun g hgv => hblk g (h1.own.lt hgv).2 fun e => h5 g e.symm (.inr hgv)), h2, h3, ho, fun g hg2 => ?_⟩, ⟨hg.os, hg.tape, hg.output, hsz, fun k hk => hblk k (by have := h1.lt; omega) fun e => by have := (h4.lt e.symm).1; omega⟩⟩
  rcases hu with hu | hu
  · rw [hu] at hg2; exact h5 g hg2
  · rw [hu] at hg2
    cases hg2
    rintro (h | h)
    · have := h1.lt; omega
    · have := (h1.own.lt h).2; omega
end
end Go.Proofs.Ytbongjdflnefmaa
