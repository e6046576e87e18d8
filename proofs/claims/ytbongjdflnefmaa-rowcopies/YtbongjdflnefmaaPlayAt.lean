/- A row and the document's own, side by side: what an act leaves. No condition of its own. -/
import Derived.Test.YtbongjdflnefmaaActs
namespace Go.Proofs.Ytbongjdflnefmaa
open Go.RowKit
set_option linter.unusedVariables false
set_option linter.unusedSimpArgs false
set_option maxRecDepth 100000

/-- A row and the document's list of the same things, apart. -/
structure PlayAt (w : World) (b : Nat) (v : Value) (m : Int) (wr : World) (f : Int) (l : List Int) (v' u : Value) : Prop where
  row : RowAt wr b v' f m l
  mov : Moves b v v' w wr
  nums : NumsAt .i64 wr u l
  apart : ∀ g, blockOf u = some g → g < wr.heap.size ∧ (g ≠ w.heap.size ∧ g ≠ w.heap.size + 1) ∧ ¬ Foot b v' g
/-- The heap stays, but that one block may be put. -/
structure Puts (B : Nat) (o : Obj) (W W' : World) : Prop where
  os : W'.os = W.os
  tape : W'.tape = W.tape
  output : W'.output = W.output
  size : W'.heap.size = W.heap.size
  block : ∀ k, k ≠ B → W'.heap[k]? = W.heap[k]?
  it : W'.heap[B]? = W.heap[B]? ∨ W'.heap[B]? = some o
theorem Puts.refl {B : Nat} {o : Obj} (W : World) : Puts B o W W := ⟨rfl, rfl, rfl, rfl, fun _ _ => rfl, .inl rfl⟩
theorem Puts.trans {B : Nat} {o : Obj} {a b c : World} (h : Puts B o a b) (k : Puts B o b c) : Puts B o a c :=
  ⟨k.os.trans h.os, k.tape.trans h.tape, k.output.trans h.output, k.size.trans h.size, fun i hi => (k.block i hi).trans (h.block i hi), by
    rcases k.it with k1 | k1
    · rcases h.it with h1 | h1
      · exact .inl (k1.trans h1)
      · exact .inr (k1.trans h1)
    · exact .inr k1⟩
theorem Puts.drewN {B : Nat} {o : Obj} (W : World) (q : Nat) : Puts B o W (W.drewN q) := ⟨rfl, rfl, rfl, rfl, fun _ _ => rfl, .inl rfl⟩
theorem Puts.cell {B : Nat} {o : Obj} {W W' : World} (h : Puts B o W W') {k j : Nat} (hk : k ≠ B) : W'.cell? ⟨k, j, none⟩ = W.cell? ⟨k, j, none⟩ := World.cell?_of_block (h.block k hk)
theorem Puts.nums {B : Nat} {o : Obj} {W W' : World} (h : Puts B o W W') {u : Value} {l : List Int} (hu : NumsAt .i64 W u l) (hB : ∀ g, blockOf u = some g → g ≠ B) : NumsAt .i64 W' u l := hu.via fun k hk _ => h.block k (hB k hk)
/-- Three cells stored make the block whole. -/
theorem Puts.store {B t : Nat} {x0 x1 x2 y0 y1 y2 : Value} {W : World} (h : W.heap[B]? = some (.cells #[x0, x1, x2] t (0, 0))) :
    Puts B (.cells #[y0, y1, y2] t (0, 0)) W (((W.setCell ⟨B, 0, none⟩ y0).setCell ⟨B, 1, none⟩ y1).setCell ⟨B, 2, none⟩ y2) ∧ (((W.setCell ⟨B, 0, none⟩ y0).setCell ⟨B, 1, none⟩ y1).setCell ⟨B, 2, none⟩ y2).heap[B]? = some (.cells #[y0, y1, y2] t (0, 0)) := by
  have h3 : (((W.setCell ⟨B, 0, none⟩ y0).setCell ⟨B, 1, none⟩ y1).setCell ⟨B, 2, none⟩ y2).heap[B]? = some (.cells #[y0, y1, y2] t (0, 0)) := by
    rw [block_set (block_set (block_set h 0 y0) 1 y1) 2 y2]
    rfl
  exact ⟨⟨rfl, rfl, rfl, by simp, fun k hk => by rw [block_other hk, block_other hk, block_other hk], .inr h3⟩, h3⟩

theorem RowAt.notfoot {w : World} {b : Nat} {v : Value} {f m : Int} {l : List Int} (h : RowAt w b v f m l) {k t : Nat} {C : Array Value} {fr : Nat × Nat} (hk : w.heap[k]? = some (.cells C t fr)) (h1 : t ≠ 65) (h2 : t ≠ 3) : ¬ Foot b v k := by
  rintro (rfl | h3)
  · rw [h.blk] at hk; simp at hk; exact h1 hk.2.1.symm
  · rcases h.own.1.2 with ⟨rfl, _⟩ | ⟨g, cap, cur, rfl, _, hg, _⟩
    · cases h3
    · simp [Value.ownBlock] at h3
      subst h3
      rw [hg] at hk; simp at hk; exact h2 hk.2.1.symm

section
variable {w wr w2 w3 : World} {b : Nat} {v v' v'' u u2 : Value} {m f f2 : Int} {l l2 : List Int}
theorem PlayAt.made (h : PlayAt w b v m wr f l v' u) (hs : w.heap.size + 1 < wr.heap.size) (r2 : RowAt w2 b v'' f2 m l2) (m2 : Moves b v' v'' wr w2) (hn : NumsAt .i64 w3 u2 l2) (hc : Came w2 w3 u u2) (he : Ext w2 w3) : PlayAt w b v m w3 f2 l2 v'' u2 := by
  refine ⟨r2.ext he, h.mov.trans (m2.trans (Moves.of_ext he)), hn, fun g hg => ?_⟩
  rcases hc g hg with h1 | h1
  · obtain ⟨h2, h3, h4⟩ := h.apart g h1
    refine ⟨Nat.lt_of_lt_of_le h2 (Nat.le_trans m2.keep.size he.size), h3, ?_⟩
    rintro (h5 | h5)
    · exact h4 (.inl h5)
    · rcases m2.own g h5 with h6 | h6
      · exact h4 (.inr h6)
      · omega
  · refine ⟨h1.2, by have := m2.keep.size; constructor <;> omega, ?_⟩
    rintro (h5 | h5)
    · have := r2.lt; omega
    · have := (r2.own.lt h5).2; omega
theorem PlayAt.numsMid (h : PlayAt w b v m wr f l v' u) (m2 : Moves b v' v'' wr w2) : NumsAt .i64 w2 u l := m2.nums h.nums fun g hg => (h.apart g hg).2.2
theorem PlayAt.puts {o : Obj} (h : PlayAt w b v m wr f l v' u) (hb : b < w.heap.size) (hf : ¬ Foot b v' w.heap.size) (hp : Puts w.heap.size o wr w2) : PlayAt w b v m w2 f l v' u := by
  refine ⟨h.row.via (hp.block b (by omega)) (fun g hg => hp.block g (fun e => hf (.inr (e ▸ hg)))), ?_, hp.nums h.nums (fun g hg => (h.apart g hg).2.1.1), fun g hg => by rw [hp.size]; exact h.apart g hg⟩
  refine ⟨⟨hp.os.trans h.mov.keep.os, hp.tape.trans h.mov.keep.tape, hp.output.trans h.mov.keep.output, by rw [hp.size]; exact h.mov.keep.size, fun k hk hn => (hp.block k (by omega)).trans (h.mov.keep.block k hk hn)⟩, h.mov.own⟩
theorem PlayAt.ext (h : PlayAt w b v m wr f l v' u) (he : Ext wr w2) : PlayAt w b v m w2 f l v' u :=
  ⟨h.row.ext he, h.mov.trans (Moves.of_ext he), h.nums.ext he, fun g hg => ⟨Nat.lt_of_lt_of_le (h.apart g hg).1 he.size, (h.apart g hg).2⟩⟩
/-- A block that is neither the row's nor the list's has turned. -/
theorem PlayAt.other {r : Option Nat} (h : PlayAt w b v m wr f l v' u) (hg : wr.grownBy w2 r) (hr : ∀ g, r = some g → w.heap.size ≤ g ∧ ¬ Foot b v' g ∧ ∀ k, blockOf u = some k → k ≠ g) : PlayAt w b v m w2 f l v' u := by
  refine ⟨h.row.via (hg.block b h.row.lt (fun e => (hr b e.symm).2.1 (.inl rfl))) (fun k hk => hg.block k (h.row.own.lt hk).2 (fun e => (hr k e.symm).2.1 (.inr hk))), ?_, h.nums.via (fun k hk hlt => hg.block k hlt (fun e => (hr k e.symm).2.2 k hk rfl)), fun k hk => ⟨Nat.lt_of_lt_of_le (h.apart k hk).1 hg.size, (h.apart k hk).2⟩⟩
  exact ⟨⟨hg.os.trans h.mov.keep.os, hg.tape.trans h.mov.keep.tape, hg.output.trans h.mov.keep.output, Nat.le_trans h.mov.keep.size hg.size, fun k hk hn => (hg.block k (Nat.lt_of_lt_of_le hk h.mov.keep.size) (fun e => by have := (hr k e.symm).1; omega)).trans (h.mov.keep.block k hk hn)⟩, h.mov.own⟩
theorem grown_trans {a c d : World} {r : Option Nat} (h : a.grownBy c r) (k : c.grownBy d r) : a.grownBy d r :=
  ⟨k.os.trans h.os, k.tape.trans h.tape, k.output.trans h.output, Nat.le_trans h.size k.size, fun i hi hn => (k.block i (Nat.lt_of_lt_of_le hi h.size) hn).trans (h.block i hi hn)⟩
theorem block_grown {r : Option Nat} {k : Nat} {o : Obj} (hg : w2.grownBy w3 r) (h : w2.heap[k]? = some o) (hr : ∀ g, r = some g → g ≠ k) : w3.heap[k]? = some o :=
  (hg.block k (Array.getElem?_eq_some_iff.1 h).1 (fun e => hr k e.symm rfl)).trans h
/-- What a cut answers lies apart from the row and from the document's list. -/
theorem cut_apart {o u3 : Value} {L : List Int} {A : Obj} (h : PlayAt w b v m wr f l v' u) (hs : w.heap.size < wr.heap.size) (ho : OwnN .i64 w2 (wr.alloc A).heap.size 3 o L) (hv : v''.ownBlock = v'.ownBlock) (hc : Came w2 w3 u u3) : ∀ g, o.ownBlock = some g → wr.heap.size < g ∧ ¬ Foot b v'' g ∧ ∀ k, blockOf u3 = some k → k ≠ g := by
  intro g hg
  have h1 := ho.lt hg
  simp at h1
  refine ⟨by omega, ?_, fun k hk => ?_⟩
  · rintro (h2 | h2)
    · have := h.row.lt; omega
    · rw [hv] at h2; have := (h.row.own.lt h2).2; omega
  · rcases hc k hk with h2 | h2
    · have := (h.apart k h2).1; omega
    · omega
theorem mid_boxes {B1 : Nat} {A C0 C1 : Array Value} (hrow : RowAt wr b v' f m l) {B0 : Nat} (hb0 : wr.heap[B0]? = some (.cells C0 36 (0, 0))) (hb1 : wr.heap[B1]? = some (.cells C1 36 (0, 0))) (m2 : Moves b v' v'' (wr.alloc (.cells A 68 (0, 0))) w2) :
    w2.heap[B0]? = some (.cells C0 36 (0, 0)) ∧ w2.heap[B1]? = some (.cells C1 36 (0, 0)) ∧ w2.heap[wr.heap.size]? = some (.cells A 68 (0, 0)) ∧ wr.heap.size < w2.heap.size := by
  have hR := hrow.ext (Ext.alloc wr (.cells A 68 (0, 0)))
  have key : ∀ (k t : Nat) (C : Array Value), (wr.alloc (.cells A 68 (0, 0))).heap[k]? = some (Obj.cells C t (0, 0)) → t ≠ 65 → t ≠ 3 → w2.heap[k]? = some (Obj.cells C t (0, 0)) := fun k t C hk h1 h2 =>
    (m2.keep.block k (Array.getElem?_eq_some_iff.1 hk).1 (hR.notfoot hk h1 h2)).trans hk
  refine ⟨key _ _ _ ((Below.heap_alloc _ _ _ (Array.getElem?_eq_some_iff.1 hb0).1).trans hb0) (by decide) (by decide), key _ _ _ ((Below.heap_alloc _ _ _ (Array.getElem?_eq_some_iff.1 hb1).1).trans hb1) (by decide) (by decide), key _ _ _ Array.getElem?_push_size (by decide) (by decide), ?_⟩
  have := m2.keep.size
  simp at this
  omega
theorem cells3 {k t : Nat} {x0 x1 x2 : Value} {fr : Nat × Nat} (h : w.heap[k]? = some (.cells #[x0, x1, x2] t fr)) : w.cell? ⟨k, 0, none⟩ = some x0 ∧ w.cell? ⟨k, 1, none⟩ = some x1 ∧ w.cell? ⟨k, 2, none⟩ = some x2 := ⟨cell_of_block h 0, cell_of_block h 1, cell_of_block h 2⟩
theorem block_ext {k : Nat} {o : Obj} (he : Ext w2 w3) (h : w2.heap[k]? = some o) : w3.heap[k]? = some o := (he.block k (Array.getElem?_eq_some_iff.1 h).1).trans h
end
end Go.Proofs.Ytbongjdflnefmaa
