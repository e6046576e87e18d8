/- Blocks as they lie: cells of a block, stores, boxes that are kept; slices of numbers cut; a block that is put. No condition of its own. -/
import Derived.Test.YtmfciiccomagpaaKeep
namespace Go.Proofs.Ytmfciiccomagpaa
open Go.RowKit
set_option linter.unusedVariables false
set_option linter.unusedSimpArgs false

theorem cell_of_block {w : World} {b t : Nat} {C : Array Value} {fr : Nat × Nat} (h : w.heap[b]? = some (.cells C t fr)) (j : Nat) : w.cell? ⟨b, j, none⟩ = C[j]? := by
  simp [World.cell?, h]
theorem frozen_of_block {w : World} {b t : Nat} {C : Array Value} (h : w.heap[b]? = some (.cells C t (0, 0))) (j : Nat) : w.frozen? ⟨b, j, none⟩ = false := by
  simp [World.frozen?, h]
theorem block_set {w : World} {b t : Nat} {C : Array Value} {fr : Nat × Nat} (h : w.heap[b]? = some (.cells C t fr)) (j : Nat) (x : Value) : (w.setCell ⟨b, j, none⟩ x).heap[b]? = some (.cells (C.setIfInBounds j x) t fr) := by
  simp [World.setCell, Array.getElem?_modify, h]
theorem block_other {w : World} {b g : Nat} (hne : g ≠ b) (j : Nat) (x : Value) : (w.setCell ⟨b, j, none⟩ x).heap[g]? = w.heap[g]? := by
  simp [World.setCell, Array.getElem?_modify, Ne.symm hne]
theorem sliced_zero (a : Option Addr) (k c : Nat) : sliced a 0 k c 1 = .slice a k c := by
  have e1 : ∀ x : Addr, x.add 0 = x := fun x => by unfold Addr.add; simp
  unfold sliced
  cases a <;> simp [e1]
theorem exec_slice_hN {P : Program} {t e : TypeId} {q8 : IntKind} {by8 : Nat} (hT : NumT P t e q8 by8) {r : Operand → Value} {o : Oper} {x h : Operand} (ho : o.op = .slice t x none (some h) none) (w : World) (a : Option Addr) (n c k : Nat) (q : IntKind) (h1 : r x = .slice a n c) (h2 : r h = .int q (k : Int)) (hk : k ≤ c) :
    (execOp r o).run P w = .ok (.value (sliced a 0 k c 1)) w := by
  obtain ⟨i, hi, _, _, _⟩ := hT.ex
  have hk' : (k : Int) ≤ c := by omega
  simp [execOp, ho, h1, h2, Instr.sliceAt, Instr.slice, run_underlying hT.ut, Instr.sliceBounds, run_sliceBound, sizeOf, typeInfo, hi, hk', sliced]
theorem exec_slice_lN {P : Program} {t e : TypeId} {q8 : IntKind} {by8 : Nat} (hT : NumT P t e q8 by8) {r : Operand → Value} {o : Oper} {x lo : Operand} (ho : o.op = .slice t x (some lo) none none) (w : World) (a : Option Addr) (n c k : Nat) (q : IntKind) (h1 : r x = .slice a n c) (h2 : r lo = .int q (k : Int)) (hk : k ≤ n) :
    (execOp r o).run P w = .ok (.value (sliced a k n c 1)) w := by
  obtain ⟨i, hi, _, hs, _⟩ := hT.ex
  have hk' : (k : Int) ≤ n := by omega
  simp [execOp, ho, h1, h2, Instr.sliceAt, Instr.slice, run_underlying hT.ut, Instr.sliceBounds, run_sliceBound, sizeOf, typeInfo, hi, hs, hk', sliced]
/-- An operation whose run is known, in a plain region. -/
theorem wpList_of_run {P : Program} {w w' : World} {ops : Array Oper} {rest : List Oper} {o : Oper} {a : Act} {Q : Exit → Act → World → Prop} {v : Value} (hgd : o.guard = none) (hrun : (execOp a.eval o).run P w = .ok (.value v) w') (h : wpList P ops Q rest (a.put o.dst v) w') : wpList P ops Q (o :: rest) a w := by
  refine wpList_plain hgd fun K hK => ?_
  unfold Oper.wp
  rw [hrun]
  exact hK _ _ h
theorem Ext.drewN (w : World) (q : Nat) : Ext w (w.drewN q) := ⟨rfl, rfl, rfl, Nat.le_refl _, fun _ _ => rfl⟩
theorem grown_of_alloc {w w1 : World} {q : Nat} {o : Obj} {r : Option Nat} (h : ((w.drewN q).alloc o).grownBy w1 r) : w.grownBy w1 r :=
  ⟨h.os, h.tape, h.output, Nat.le_trans (by simp) h.size, fun k hk hne => (h.block k (by simp; omega) hne).trans (Below.heap_alloc _ _ _ hk)⟩
theorem own_or {v v' : Value} {N S : Nat} (h : v'.ownBlock = v.ownBlock ∨ v'.ownBlock = some N) (hN : S ≤ N) : ∀ g, v'.ownBlock = some g → v.ownBlock = some g ∨ S ≤ g := by
  intro g hg
  rcases h with h | h
  · exact .inl (h ▸ hg)
  · rw [h] at hg; cases hg; exact .inr hN
theorem OwnN.mono_via {k : IntKind} {w w' : World} {base : Nat} {e : TypeId} {v : Value} {l : List Int} {S : Nat → Prop} (h : OwnN k w base e v l) (hk : KeepBut S w w') (hn : ∀ g, v.ownBlock = some g → ¬ S g) : OwnN k w' base e v l :=
  h.via fun g hg => hk.block g (h.lt hg).2 (hn g hg)
theorem NumsAt.cellAt {k : IntKind} {w : World} {a : Option Addr} {n c : Nat} {l : List Int} (h : NumsAt k w (.slice a n c) l) (j : Nat) (hj : j < l.length) : ∃ b off, a = some ⟨b, off, none⟩ ∧ w.cell? ⟨b, off + j, none⟩ = some (.int k (l.getD j 0)) := by
  obtain ⟨a', c', e, _, hc⟩ := h.form
  cases e
  exact hc j hj
theorem Ext.below_of {B : Nat} {w w' : World} (h : Ext w w') (hB : B ≤ w.heap.size) : Below B w w' := Below.mono h hB
/-- Where a slice lies: where another lay, or in new memory. -/
def Came (w w' : World) (u u' : Value) : Prop := ∀ g, blockOf u' = some g → blockOf u = some g ∨ (w.heap.size ≤ g ∧ g < w'.heap.size)
theorem Came.same (w w' : World) (u : Value) : Came w w' u u := fun g hg => .inl hg
theorem sliced_form (a : Option Addr) (lo hi c : Nat) : ∃ a2, sliced a lo hi c 1 = .slice a2 (hi - lo) (c - lo) ∧ ∀ g, blockOf (.slice a2 (hi - lo) (c - lo)) = some g → ∀ n c', blockOf (.slice a n c') = some g := by
  unfold sliced
  refine ⟨_, rfl, ?_⟩
  intro g hg n c'
  cases a with
  | none => split at hg <;> simp [blockOf] at hg
  | some x =>
    split at hg
    · exact hg
    · simp [blockOf, add_block] at hg ⊢; exact hg
theorem blockOf_own (v : Value) : blockOf v = v.ownBlock := by unfold blockOf Value.ownBlock; rfl
theorem blockOf_len (a : Option Addr) (n c n' c' : Nat) : blockOf (.slice a n c) = blockOf (.slice a n' c') := by cases a <;> rfl
theorem boxes_kept {w w1 : World} {o1 o2 o3 : Obj} {r : Option Nat} (hg : (((w.alloc o1).alloc o2).alloc o3).grownBy w1 r) (hr : ∀ k, r = some k → w.heap.size + 2 ≤ k) :
    w1.heap[w.heap.size]? = some o1 ∧ w1.heap[w.heap.size + 1]? = some o2 ∧ Ext w w1 ∧ w.heap.size + 3 ≤ w1.heap.size := by
  have hsz := hg.size
  simp at hsz
  refine ⟨?_, ?_, ⟨hg.os, hg.tape, hg.output, by omega, fun k hk => ?_⟩, by omega⟩
  · rw [hg.block w.heap.size (by simp; omega) (fun e => by have := hr _ e.symm; omega), Below.heap_alloc _ _ _ (by simp; omega), Below.heap_alloc _ _ _ (by simp)]
    exact Array.getElem?_push_size
  · rw [hg.block (w.heap.size + 1) (by simp) (fun e => by have := hr _ e.symm; omega), Below.heap_alloc _ _ _ (by simp)]
    have : ((w.alloc o1).alloc o2).heap[(w.alloc o1).heap.size]? = some o2 := Array.getElem?_push_size
    rwa [show (w.alloc o1).heap.size = w.heap.size + 1 by simp] at this
  · rw [hg.block k (by simp; omega) (fun e => by have := hr _ e.symm; omega), Below.heap_alloc _ _ _ (by simp; omega), Below.heap_alloc _ _ _ (by simp; omega), Below.heap_alloc _ _ _ hk]
theorem box_on {w1 w2 : World} {o : Obj} {r : Option Nat} {k : Nat} (hg : (w1.alloc o).grownBy w2 r) (hk : k < w1.heap.size) (hr : some k ≠ r) : w2.heap[k]? = w1.heap[k]? :=
  (hg.block k (by simp; omega) hr).trans (Below.heap_alloc _ _ _ hk)

section
variable {w w1 : World} {o1 o2 : Obj}
theorem two_ext (h : Ext ((w.alloc o1).alloc o2) w1) : Ext w w1 := ((Ext.alloc _ _).trans (Ext.alloc _ _)).trans h
theorem two_sz (h : Ext ((w.alloc o1).alloc o2) w1) : w.heap.size + 2 ≤ w1.heap.size := by have := h.size; simp at this; omega
theorem two_b0 (h : Ext ((w.alloc o1).alloc o2) w1) : w1.heap[w.heap.size]? = some o1 := by
  rw [h.block w.heap.size (by simp; omega), Below.heap_alloc _ _ _ (by simp)]
  exact Array.getElem?_push_size
theorem two_b1 (h : Ext ((w.alloc o1).alloc o2) w1) : w1.heap[w.heap.size + 1]? = some o2 := by
  rw [h.block (w.heap.size + 1) (by simp)]
  have : ((w.alloc o1).alloc o2).heap[(w.alloc o1).heap.size]? = some o2 := Array.getElem?_push_size
  rwa [show (w.alloc o1).heap.size = w.heap.size + 1 by simp] at this
end
/-- The heap stays, but that one block may be put. -/
structure Puts (B : Nat) (o : Obj) (W W' : World) : Prop where
  os : W'.os = W.os
  tape : W'.tape = W.tape
  output : W'.output = W.output
  size : W'.heap.size = W.heap.size
  block : ∀ k, k ≠ B → W'.heap[k]? = W.heap[k]?
  it : W'.heap[B]? = W.heap[B]? ∨ W'.heap[B]? = some o
theorem Puts.refl {B : Nat} {o : Obj} (W : World) : Puts B o W W := ⟨rfl, rfl, rfl, rfl, fun _ _ => rfl, .inl rfl⟩
theorem Puts.trans {B : Nat} {o : Obj} {a b c : World} (h : Puts B o a b) (k : Puts B o b c) : Puts B o a c :=
  ⟨k.os.trans h.os, k.tape.trans h.tape, k.output.trans h.output, k.size.trans h.size, fun i hi => (k.block i hi).trans (h.block i hi), by
    rcases k.it with k1 | k1
    · rcases h.it with h1 | h1
      · exact .inl (k1.trans h1)
      · exact .inr (k1.trans h1)
    · exact .inr k1⟩
theorem Puts.drewN {B : Nat} {o : Obj} (W : World) (q : Nat) : Puts B o W (W.drewN q) := ⟨rfl, rfl, rfl, rfl, fun _ _ => rfl, .inl rfl⟩
theorem Puts.cell {B : Nat} {o : Obj} {W W' : World} (h : Puts B o W W') {k j : Nat} (hk : k ≠ B) : W'.cell? ⟨k, j, none⟩ = W.cell? ⟨k, j, none⟩ := World.cell?_of_block (h.block k hk)
theorem Puts.nums {B : Nat} {o : Obj} {W W' : World} (h : Puts B o W W') {u : Value} {l : List Int} (hu : NumsAt .i64 W u l) (hB : ∀ g, blockOf u = some g → g ≠ B) : NumsAt .i64 W' u l := hu.via fun k hk _ => h.block k (hB k hk)
/-- Three cells stored make the block whole. -/
theorem Puts.store {B t : Nat} {x0 x1 x2 y0 y1 y2 : Value} {W : World} (h : W.heap[B]? = some (.cells #[x0, x1, x2] t (0, 0))) :
    Puts B (.cells #[y0, y1, y2] t (0, 0)) W (((W.setCell ⟨B, 0, none⟩ y0).setCell ⟨B, 1, none⟩ y1).setCell ⟨B, 2, none⟩ y2) ∧ (((W.setCell ⟨B, 0, none⟩ y0).setCell ⟨B, 1, none⟩ y1).setCell ⟨B, 2, none⟩ y2).heap[B]? = some (.cells #[y0, y1, y2] t (0, 0)) := by
  have h3 : (((W.setCell ⟨B, 0, none⟩ y0).setCell ⟨B, 1, none⟩ y1).setCell ⟨B, 2, none⟩ y2).heap[B]? = some (.cells #[y0, y1, y2] t (0, 0)) := by
    rw [block_set (block_set (block_set h 0 y0) 1 y1) 2 y2]
    rfl
  exact ⟨⟨rfl, rfl, rfl, by simp, fun k hk => by rw [block_other hk, block_other hk, block_other hk], .inr h3⟩, h3⟩

section
variable {w w2 w3 : World}
theorem grown_trans {a c d : World} {r : Option Nat} (h : a.grownBy c r) (k : c.grownBy d r) : a.grownBy d r :=
  ⟨k.os.trans h.os, k.tape.trans h.tape, k.output.trans h.output, Nat.le_trans h.size k.size, fun i hi hn => (k.block i (Nat.lt_of_lt_of_le hi h.size) hn).trans (h.block i hi hn)⟩
theorem block_grown {r : Option Nat} {k : Nat} {o : Obj} (hg : w2.grownBy w3 r) (h : w2.heap[k]? = some o) (hr : ∀ g, r = some g → g ≠ k) : w3.heap[k]? = some o :=
  (hg.block k (Array.getElem?_eq_some_iff.1 h).1 (fun e => hr k e.symm rfl)).trans h
theorem cells3 {k t : Nat} {x0 x1 x2 : Value} {fr : Nat × Nat} (h : w.heap[k]? = some (.cells #[x0, x1, x2] t fr)) : w.cell? ⟨k, 0, none⟩ = some x0 ∧ w.cell? ⟨k, 1, none⟩ = some x1 ∧ w.cell? ⟨k, 2, none⟩ = some x2 := ⟨cell_of_block h 0, cell_of_block h 1, cell_of_block h 2⟩
theorem block_ext {k : Nat} {o : Obj} (he : Ext w2 w3) (h : w2.heap[k]? = some o) : w3.heap[k]? = some o := (he.block k (Array.getElem?_eq_some_iff.1 h).1).trans h
end
end Go.Proofs.Ytmfciiccomagpaa
