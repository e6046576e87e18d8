/- Texts of the seat, one behind the other. No condition of its own. -/
import Derived.Test.YtigocaconkbalaaMs1
import Derived.RangeFuncBox
import Derived.Deep.MidRow
import Derived.Laws.CopyRow
import Derived.Laws.Tables
import Derived.TacticsIn
import Derived.BigQuiet
import Derived.Deep.LoopGhost
import Derived.Deep.Strs
import Derived.Lib.SlBytesConst
import Derived.Test.YtigocaconkbalaaProg
import Derived.Deep.OwnRows
set_option linter.unusedVariables false
set_option linter.unusedSimpArgs false
set_option maxHeartbeats 32000000
set_option maxRecDepth 100000
namespace Go.Proofs.Ytigocaconkbalaa
open Go Go.RowKit
structure KeepBut (S : Nat → Prop) (w w' : World) : Prop where
 os : w'.os = w.os
 tape : w'.tape = w.tape
 output : w'.output = w.output
 size : w.heap.size ≤ w'.heap.size
 block : ∀ k, k < w.heap.size → ¬ S k → w'.heap[k]? = w.heap[k]?
theorem KeepBut.refl (S : Nat → Prop) (w : World) : KeepBut S w w := ⟨rfl, rfl, rfl, Nat.le_refl _, fun _ _ _ => rfl⟩
theorem KeepBut.trans {S : Nat → Prop} {a b c : World} (h : KeepBut S a b) (k : KeepBut S b c) : KeepBut S a c :=
 ⟨k.os.trans h.os, k.tape.trans h.tape, k.output.trans h.output, Nat.le_trans h.size k.size, fun i hi hn => (k.block i (Nat.lt_of_lt_of_le hi h.size) hn).trans (h.block i hi hn)⟩
theorem KeepBut.grown {S : Nat → Prop} {w w' : World} {row : Option Nat} (h : w.grownBy w' row) (hr : ∀ r, row = some r → S r) : KeepBut S w w' :=
 ⟨h.os, h.tape, h.output, h.size, fun k hk hn => h.block k hk (fun e => hn (hr k e.symm))⟩
theorem OwnN.base {k : IntKind} {w : World} {base base' : Nat} {e : TypeId} {v : Value} {l : List Int} (h : OwnN k w base e v l) (hb : base' ≤ base) : OwnN k w base' e v l := by
 refine ⟨⟨h.1.1, ?_⟩, h.2⟩
 rcases h.1.2 with h0 | ⟨g, cap, cur, h1, h2, h3⟩
 ·
  exact .inl h0
 ·
  exact .inr ⟨g, cap, cur, h1, by omega, h3⟩
theorem OwnN.via {k : IntKind} {w w' : World} {base : Nat} {e : TypeId} {v : Value} {l : List Int} (h : OwnN k w base e v l) (hb : ∀ g, v.ownBlock = some g → w'.heap[g]? = w.heap[g]?) : OwnN k w' base e v l := by
 refine ⟨⟨h.1.1, ?_⟩, h.2⟩
 rcases h.1.2 with h0 | ⟨g, cap, cur, h1, h2, h3, h4⟩
 ·
  exact .inl h0
 ·
  refine .inr ⟨g, cap, cur, h1, h2, ?_, h4⟩
  rw [hb g (by rw [h1]; rfl)]; exact h3
def KpR (lo hi : Nat) (W W' : World) : Prop := ∀ k, lo ≤ k → k < hi → W'.heap[k]? = W.heap[k]?
theorem KpR.t {lo hi : Nat} {A B C : World} (h : KpR lo hi A B) (k : KpR lo hi B C) : KpR lo hi A C := fun i h1 h2 => (k i h1 h2).trans (h i h1 h2)
theorem KpR.b {lo hi : Nat} {w : World} (hn : hi ≤ w.heap.size) (W : World) (l : Nat) (o o' : Obj) (hl : w.heap.size ≤ l) (_ : W.heap[l]? = some o) (_ : o.isCells = false) (_ : o.isWalk = false) : KpR lo hi W (W.putObj l o') :=
 fun i _ h2 => World.putObj_heap_other (by omega)
theorem KpR.box {lo hi B : Nat} {W W' : World} {t : TypeId} {v : Value} (h : KpR lo hi W W') (h1 : lo ≤ B) (h2 : B < hi) (hb : Boxed W B t v) : Boxed W' B t v := (h B h1 h2).trans hb
theorem KpR.refl (lo hi : Nat) (W : World) : KpR lo hi W W := fun _ _ _ => rfl
theorem KpR.grown {lo hi : Nat} {W W' : World} {row : Option Nat} (hg : W.grownBy W' row) (hs : hi ≤ W.heap.size) (hr : ∀ r, row = some r → r < lo ∨ hi ≤ r) : KpR lo hi W W' := fun i h1 h2 => hg.block i (by omega) (fun e => by have := hr i e.symm; omega)
end Go.Proofs.Ytigocaconkbalaa
namespace Go.Proofs.Ytigocaconkbalaa
open Go.RowKit
theorem cell_of_block {w : World} {b t : Nat} {C : Array Value} {fr : Nat × Nat} (h : w.heap[b]? = some (.cells C t fr)) (j : Nat) : w.cell? ⟨b, j, none⟩ = C[j]? := by
 simp [World.cell?, h]
theorem frozen_of_block {w : World} {b t : Nat} {C : Array Value} (h : w.heap[b]? = some (.cells C t (0, 0))) (j : Nat) : w.frozen? ⟨b, j, none⟩ = false := by
 simp [World.frozen?, h]
theorem block_set {w : World} {b t : Nat} {C : Array Value} {fr : Nat × Nat} (h : w.heap[b]? = some (.cells C t fr)) (j : Nat) (x : Value) : (w.setCell ⟨b, j, none⟩ x).heap[b]? = some (.cells (C.setIfInBounds j x) t fr) := by
 simp [World.setCell, Array.getElem?_modify, h]
theorem block_other {w : World} {b g : Nat} (hne : g ≠ b) (j : Nat) (x : Value) : (w.setCell ⟨b, j, none⟩ x).heap[g]? = w.heap[g]? := by
 simp [World.setCell, Array.getElem?_modify, Ne.symm hne]
theorem sliced_zero (a : Option Addr) (k c : Nat) : sliced a 0 k c 1 = .slice a k c := by
 have e1 : ∀ x : Addr, x.add 0 = x := fun x => by unfold Addr.add; simp
 unfold sliced
 cases a <;> simp [e1]
theorem wpList_of_run {P : Program} {w w' : World} {ops : Array Oper} {rest : List Oper} {o : Oper} {a : Act} {Q : Exit → Act → World → Prop} {v : Value} (hgd : o.guard = none) (hrun : (execOp a.eval o).run P w = .ok (.value v) w') (h : wpList P ops Q rest (a.put o.dst v) w') : wpList P ops Q (o :: rest) a w := by
 refine wpList_plain hgd fun K hK => ?_
 unfold Oper.wp
 rw [hrun]
 exact hK _ _ h
theorem Ext.drewN (w : World) (q : Nat) : Ext w (w.drewN q) := ⟨rfl, rfl, rfl, Nat.le_refl _, fun _ _ => rfl⟩
theorem OwnN.mono_via {k : IntKind} {w w' : World} {base : Nat} {e : TypeId} {v : Value} {l : List Int} {S : Nat → Prop} (h : OwnN k w base e v l) (hk : KeepBut S w w') (hn : ∀ g, v.ownBlock = some g → ¬ S g) : OwnN k w' base e v l :=
 h.via fun g hg => hk.block g (h.lt hg).2 (hn g hg)
theorem NumsAt.cellAt {k : IntKind} {w : World} {a : Option Addr} {n c : Nat} {l : List Int} (h : NumsAt k w (.slice a n c) l) (j : Nat) (hj : j < l.length) : ∃ b off, a = some ⟨b, off, none⟩ ∧ w.cell? ⟨b, off + j, none⟩ = some (.int k (l.getD j 0)) := by
 obtain ⟨a', c', e, _, hc⟩ := h.form
 cases e
 exact hc j hj
def Came (w w' : World) (u u' : Value) : Prop := ∀ g, blockOf u' = some g → blockOf u = some g ∨ (w.heap.size ≤ g ∧ g < w'.heap.size)
theorem Came.same (w w' : World) (u : Value) : Came w w' u u := fun g hg => .inl hg
theorem sliced_form (a : Option Addr) (lo hi c : Nat) : ∃ a2, sliced a lo hi c 1 = .slice a2 (hi - lo) (c - lo) ∧ ∀ g, blockOf (.slice a2 (hi - lo) (c - lo)) = some g → ∀ n c', blockOf (.slice a n c') = some g := by
 unfold sliced
 refine ⟨_, rfl, ?_⟩
 intro g hg n c'
 cases a with
 | none => split at hg <;> simp [blockOf] at hg
 | some x =>
  split at hg
  ·
   exact hg
  ·
   simp [blockOf, add_block] at hg ⊢; exact hg
theorem blockOf_own (v : Value) : blockOf v = v.ownBlock := by unfold blockOf Value.ownBlock; rfl
section
variable {w w1 : World} {o1 o2 : Obj}
end
structure Puts (B : Nat) (o : Obj) (W W' : World) : Prop where
 os : W'.os = W.os
 tape : W'.tape = W.tape
 output : W'.output = W.output
 size : W'.heap.size = W.heap.size
 block : ∀ k, k ≠ B → W'.heap[k]? = W.heap[k]?
 it : W'.heap[B]? = W.heap[B]? ∨ W'.heap[B]? = some o
theorem Puts.refl {B : Nat} {o : Obj} (W : World) : Puts B o W W := ⟨rfl, rfl, rfl, rfl, fun _ _ => rfl, .inl rfl⟩
theorem Puts.trans {B : Nat} {o : Obj} {a b c : World} (h : Puts B o a b) (k : Puts B o b c) : Puts B o a c :=
 ⟨k.os.trans h.os, k.tape.trans h.tape, k.output.trans h.output, k.size.trans h.size, fun i hi => (k.block i hi).trans (h.block i hi), by
  rcases k.it with k1 | k1
  ·
   rcases h.it with h1 | h1
   ·
    exact .inl (k1.trans h1)
   ·
    exact .inr (k1.trans h1)
  ·
   exact .inr k1⟩
theorem Puts.drewN {B : Nat} {o : Obj} (W : World) (q : Nat) : Puts B o W (W.drewN q) := ⟨rfl, rfl, rfl, rfl, fun _ _ => rfl, .inl rfl⟩
theorem Puts.cell {B : Nat} {o : Obj} {W W' : World} (h : Puts B o W W') {k j : Nat} (hk : k ≠ B) : W'.cell? ⟨k, j, none⟩ = W.cell? ⟨k, j, none⟩ := World.cell?_of_block (h.block k hk)
theorem Puts.nums {B : Nat} {o : Obj} {W W' : World} (h : Puts B o W W') {u : Value} {l : List Int} (hu : NumsAt .i64 W u l) (hB : ∀ g, blockOf u = some g → g ≠ B) : NumsAt .i64 W' u l := hu.via fun k hk _ => h.block k (hB k hk)
theorem Puts.store {B t : Nat} {x0 x1 x2 y0 y1 y2 : Value} {W : World} (h : W.heap[B]? = some (.cells #[x0, x1, x2] t (0, 0))) :
  Puts B (.cells #[y0, y1, y2] t (0, 0)) W (((W.setCell ⟨B, 0, none⟩ y0).setCell ⟨B, 1, none⟩ y1).setCell ⟨B, 2, none⟩ y2) ∧ (((W.setCell ⟨B, 0, none⟩ y0).setCell ⟨B, 1, none⟩ y1).setCell ⟨B, 2, none⟩ y2).heap[B]? = some (.cells #[y0, y1, y2] t (0, 0)) := by
 have h3 : (((W.setCell ⟨B, 0, none⟩ y0).setCell ⟨B, 1, none⟩ y1).setCell ⟨B, 2, none⟩ y2).heap[B]? = some (.cells #[y0, y1, y2] t (0, 0)) := by
  rw [block_set (block_set (block_set h 0 y0) 1 y1) 2 y2]
  rfl
 exact ⟨⟨rfl, rfl, rfl, by simp, fun k hk => by rw [block_other hk, block_other hk, block_other hk], .inr h3⟩, h3⟩
section
variable {w w2 w3 : World}
theorem block_ext {k : Nat} {o : Obj} (he : Ext w2 w3) (h : w2.heap[k]? = some o) : w3.heap[k]? = some o := (he.block k (Array.getElem?_eq_some_iff.1 h).1).trans h
end
end Go.Proofs.Ytigocaconkbalaa
namespace Go.Proofs.Ytigocaconkbalaa
open Go Go.RowKit Go.Shelf
theorem Boxed.drew {W : World} {B : Nat} {t : TypeId} {v : Value} (h : Boxed W B t v) : Boxed W.drew B t v := h
variable {F : Fence} {n : Nat} {P : Program}
end Go.Proofs.Ytigocaconkbalaa
namespace Go.Proofs.Ytigocaconkbalaa
open Go Go.RowKit Go.Shelf
section
variable {P : Program}
structure KeepAbove (B : Nat) (W W' : World) : Prop where
 size : W.heap.size ≤ W'.heap.size
 same : ∀ k, B ≤ k → k < W.heap.size → W'.heap[k]? = W.heap[k]?
theorem KeepAbove.trans {B : Nat} {a b c : World} (h : KeepAbove B a b) (k : KeepAbove B b c) : KeepAbove B a c :=
 ⟨Nat.le_trans h.size k.size, fun i hB hi => (k.same i hB (Nat.lt_of_lt_of_le hi h.size)).trans (h.same i hB hi)⟩
theorem KeepAbove.refl (B : Nat) (W : World) : KeepAbove B W W := ⟨Nat.le_refl _, fun _ _ _ => rfl⟩
theorem KeepAbove.mono {B B' : Nat} {W W' : World} (h : KeepAbove B W W') (hB : B ≤ B') : KeepAbove B' W W' := ⟨h.size, fun k hk hlt => h.same k (by omega) hlt⟩
theorem KeepAbove.put (W : World) {B l : Nat} (o : Obj) (h : l < B) : KeepAbove B W (W.putObj l o) := ⟨by simp, fun k hB _ => World.putObj_heap_other (by omega)⟩
theorem KeepAbove.from {B : Nat} {W W' : World} (h : KeepAbove B W W') : KeepsFrom B W W' := ⟨h.size, fun k o hB hk _ => (h.same k hB (Array.getElem?_eq_some_iff.1 hk).1).trans hk⟩
structure Books (B : Nat) (r : Loop) (W : World) : Prop where
 d : W.heap[B]? = some (.deferred (some []))
 l : W.heap[B + 1]? = some (.loop r)
theorem Books.kept {B : Nat} {r : Loop} {W W' : World} {row : Option Nat} (h : Books B r W) (hg : W.grownBy W' row) (hr : ∀ k, row = some k → B + 2 ≤ k) : Books B r W' :=
 ⟨(hg.block B (Array.getElem?_eq_some_iff.1 h.d).1 (fun e => by have := hr B e.symm; omega)).trans h.d, (hg.block (B + 1) (Array.getElem?_eq_some_iff.1 h.l).1 (fun e => by have := hr _ e.symm; omega)).trans h.l⟩
theorem Books.put {B : Nat} {r r' : Loop} {W : World} (h : Books B r W) : Books B r' (W.putObj (B + 1) (.loop r')) :=
 ⟨(World.putObj_heap_other (by omega)).trans h.d, World.putObj_heap_same (Array.getElem?_eq_some_iff.1 h.l).1⟩
theorem Books.others {B : Nat} {r : Loop} {W W' : World} (h : Books B r W) (hk : KeepAbove B W W') : Books B r W' := ⟨(hk.same _ (by omega) (Array.getElem?_eq_some_iff.1 h.d).1).trans h.d, (hk.same _ (by omega) (Array.getElem?_eq_some_iff.1 h.l).1).trans h.l⟩
end
def KpS (S : Nat → Prop) (W W' : World) : Prop := ∀ k, S k → W'.heap[k]? = W.heap[k]?
theorem KpS.t {S : Nat → Prop} {A B C : World} (h : KpS S A B) (k : KpS S B C) : KpS S A C := fun i hi => (k i hi).trans (h i hi)
theorem KpS.refl (S : Nat → Prop) (W : World) : KpS S W W := fun _ _ => rfl
end Go.Proofs.Ytigocaconkbalaa
namespace Go.Proofs.Ytigocaconkbalaa
open Go Go.RowKit
def Blk (w : World) (g : Nat) (C : Array Value) (t : TypeId) : Prop := w.heap[g]? = some (.cells C t (0, 0))
theorem Blk.lt {w : World} {g t : Nat} {C : Array Value} (h : Blk w g C t) : g < w.heap.size := (Array.getElem?_eq_some_iff.1 h).1
theorem Blk.ext {w w' : World} {g t : Nat} {C : Array Value} (h : Blk w g C t) (he : Ext w w') : Blk w' g C t := block_ext he h
theorem Blk.but {S : Nat → Prop} {w w' : World} {g t : Nat} {C : Array Value} (h : Blk w g C t) (hk : KeepBut S w w') (hn : ¬ S g) : Blk w' g C t := (hk.block g h.lt hn).trans h
theorem Blk.of {w w' : World} {g t : Nat} {C : Array Value} (h : Blk w g C t) (e : w'.heap[g]? = w.heap[g]?) : Blk w' g C t := e.trans h
theorem Blk.cell {w : World} {g t : Nat} {C : Array Value} (h : Blk w g C t) (j : Nat) : w.cell? ⟨g, j, none⟩ = C[j]? := cell_of_block h j
theorem Blk.frozen {w : World} {g t : Nat} {C : Array Value} (h : Blk w g C t) (j : Nat) : w.frozen? ⟨g, j, none⟩ = false := frozen_of_block h j
theorem Blk.new (w : World) (C : Array Value) (t : TypeId) : Blk (w.alloc (.cells C t)) w.heap.size C t := Array.getElem?_push_size
theorem Blk.set {w : World} {g t : Nat} {C : Array Value} (h : Blk w g C t) (j : Nat) (x : Value) : Blk (w.setCell ⟨g, j, none⟩ x) g (C.setIfInBounds j x) t := block_set h j x
theorem Blk.other {w : World} {g b t : Nat} {C : Array Value} (h : Blk w g C t) (hn : g ≠ b) (j : Nat) (x : Value) : Blk (w.setCell ⟨b, j, none⟩ x) g C t := (block_other hn j x).trans h
theorem Blk.drewN {w : World} {g t : Nat} {C : Array Value} (h : Blk w g C t) (q : Nat) : Blk (w.drewN q) g C t := h
theorem Ext.set {w0 w : World} (h : Ext w0 w) {b : Nat} (hb : w0.heap.size ≤ b) (j : Nat) (x : Value) : Ext w0 (w.setCell ⟨b, j, none⟩ x) :=
 ⟨h.os, h.tape, h.output, by have := h.size; simp; omega, fun k hk => (block_other (by omega) j x).trans (h.block k hk)⟩
structure RowT (P : Program) (t : TypeId) (n : Nat) : Prop where
 d : ∃ d, P.underlying t = some d ∧ d.isRow = true
 s : (P.info? t).map (·.size) = some n
theorem exec_box {P : Program} {r : Operand → Value} {o : Oper} {t : TypeId} {x : Operand} {C : Array Value} (w : World) (ho : o.op = .box t x) (hx : r x = .agg C) :
  (execOp r o).run P w = .ok (.value (.pointer (some ⟨w.heap.size, 0, none⟩))) (w.alloc (.cells C t)) := by
 simp [execOp, ho, hx, Instr.box, newVar, newRow, Value.cells, go_sem]
theorem exec_alloc {P : Program} {r : Operand → Value} {o : Oper} {t : TypeId} {C : Array Value} (w : World) (ho : o.op = .alloc t) (hz : (P.info? t).bind (·.zero) = some (.agg C)) :
  (execOp r o).run P w = .ok (.value (.pointer (some ⟨w.heap.size, 0, none⟩))) (w.alloc (.cells C t)) := by
 cases hq : P.info? t with
 | none => simp [hq] at hz
 | some i =>
  have hz' : i.zero = some (.agg C) := by simpa [hq] using hz
  simp [execOp, ho, Instr.alloc, zeroValue, typeInfo, hq, hz', newVar, newRow, Value.cells, go_sem]
theorem exec_load {P : Program} {r : Operand → Value} {o : Oper} {t : TypeId} {n : Nat} (hT : RowT P t n) {x : Operand} {g off T : Nat} {C : Array Value} {w : World} (ho : o.op = .load t x) (hx : r x = .pointer (some ⟨g, off, none⟩)) (hB : Blk w g C T) (L : List Value) (hL : ∀ j v, L[j]? = some v → C[off + j]? = some v) (hn : L.length = n) :
  (execOp r o).run P w = .ok (.value (.agg L.toArray)) w := by
 obtain ⟨d, hu, hd⟩ := hT.d
 have := run_loadVar_mid (P := P) w g off t L d (fun j v hv => by rw [hB.cell]; exact hL j v hv) hu hd (by rw [hn]; exact hT.s)
 simp only [execOp, ho, hx, Instr.loadAt, Instr.sureAddr, Sem.run_bind, Sem.run_pure, Result.andThen_ok, this]
theorem exec_loadW {P : Program} {r : Operand → Value} {o : Oper} {t : TypeId} {n : Nat} (hT : RowT P t n) {x : Operand} {g T : Nat} {C : Array Value} {w : World} (ho : o.op = .load t x) (hx : r x = .pointer (some ⟨g, 0, none⟩)) (hB : Blk w g C T) (hn : C.size = n) :
  (execOp r o).run P w = .ok (.value (.agg C)) w := by
 have := exec_load hT ho hx hB C.toList (fun j v hv => by rw [Nat.zero_add]; simpa using hv) (by simpa using hn)
 simpa using this
def putIn (C : Array Value) (off : Nat) (D : List Value) : Array Value := (C.toList.take off ++ D ++ C.toList.drop (off + D.length)).toArray
theorem exec_store {P : Program} {r : Operand → Value} {o : Oper} {t : TypeId} {n : Nat} (hT : RowT P t n) {x y : Operand} {g off T : Nat} {C D : Array Value} {w : World} (ho : o.op = .store t x y) (hx : r x = .pointer (some ⟨g, off, none⟩)) (hy : r y = .agg D) (hB : Blk w g C T) (hn : D.size = n) (hf : off + n ≤ C.size) (h1 : ∀ v ∈ D.toList, v.oneCell' = true) :
  (execOp r o).run P w = .ok .skip (w.setRow g (putIn C off D.toList)) := by
 have := run_storeCells_at P g off T D.toList 0 C w hB (by simp; omega) h1
 cases hq : P.info? t with
 | none => have := hT.s; simp [hq] at this
 | some i =>
  have hs : D.size = i.size := by have := hT.s; simp [hq] at this; omega
  simp only [Nat.add_zero] at this
  simp [execOp, ho, hx, hy, Instr.storeAt, Instr.sureAddr, storeVar, sizeOf, typeInfo, hq, Value.cells, hs, this, putIn]
theorem putIn_all (C D : Array Value) (h : C.size = D.size) : putIn C 0 D.toList = D := by
 unfold putIn
 rw [List.take_zero, List.nil_append, List.drop_eq_nil_of_le (by simp; omega)]
 simp
theorem Blk.row {w : World} {g T : Nat} {C : Array Value} (h : Blk w g C T) (D : Array Value) : Blk (w.setRow g D) g D T := setRow_heap w g C D T (0, 0) h
theorem Blk.rowO {w : World} {g b T : Nat} {C : Array Value} (h : Blk w g C T) (hn : g ≠ b) (D : Array Value) : Blk (w.setRow b D) g C T := (setRow_other w b g D hn).trans h
theorem KeepBut.row (w : World) (g : Nat) (D : Array Value) : KeepBut (· = g) w (w.setRow g D) := ⟨rfl, rfl, rfl, by simp, fun k _ hk => setRow_other w g k D hk⟩
theorem KeepBut.ext {S : Nat → Prop} {w w' : World} (h : Ext w w') : KeepBut S w w' := ⟨h.os, h.tape, h.output, h.size, fun k hk _ => h.block k hk⟩
theorem Ext.of_but {S : Nat → Prop} {w0 w w' : World} (h : Ext w0 w) (hk : KeepBut S w w') (hS : ∀ k, S k → w0.heap.size ≤ k) : Ext w0 w' :=
 ⟨hk.os.trans h.os, hk.tape.trans h.tape, hk.output.trans h.output, Nat.le_trans h.size hk.size, fun k hk' => (hk.block k (Nat.lt_of_lt_of_le hk' h.size) (fun hs => by have := hS k hs; omega)).trans (h.block k hk')⟩
section
variable {P : Program} {w : World} {ops : Array Oper} {rest : List Oper} {o : Oper} {a : Act} {Q : Exit → Act → World → Prop}
theorem wl_box (hgd : o.guard = none) {t : TypeId} {x : Operand} {C : Array Value} (ho : o.op = .box t x) (hx : a.eval x = .agg C)
  (h : ∀ w', Blk w' w.heap.size C t → Ext w w' → w'.heap.size = w.heap.size + 1 → wpList P ops Q rest (a.put o.dst (.pointer (some ⟨w.heap.size, 0, none⟩))) w') : wpList P ops Q (o :: rest) a w :=
 wpList_of_run hgd (exec_box w ho hx) (h _ (Blk.new _ _ _) (Ext.alloc _ _) (by simp))
theorem wl_alloc (hgd : o.guard = none) {t : TypeId} {C : Array Value} (ho : o.op = .alloc t) (hz : (P.info? t).bind (·.zero) = some (.agg C))
  (h : ∀ w', Blk w' w.heap.size C t → Ext w w' → w'.heap.size = w.heap.size + 1 → wpList P ops Q rest (a.put o.dst (.pointer (some ⟨w.heap.size, 0, none⟩))) w') : wpList P ops Q (o :: rest) a w :=
 wpList_of_run hgd (exec_alloc w ho hz) (h _ (Blk.new _ _ _) (Ext.alloc _ _) (by simp))
theorem wl_load (hgd : o.guard = none) {t : TypeId} {n : Nat} (hT : RowT P t n) {x : Operand} {g T : Nat} {C : Array Value} (ho : o.op = .load t x) (hx : a.eval x = .pointer (some ⟨g, 0, none⟩)) (hB : Blk w g C T) (hn : C.size = n)
  (h : wpList P ops Q rest (a.put o.dst (.agg C)) w) : wpList P ops Q (o :: rest) a w :=
 wpList_of_run hgd (exec_loadW hT ho hx hB hn) h
theorem wl_loadM (hgd : o.guard = none) {t : TypeId} {n : Nat} (hT : RowT P t n) {x : Operand} {g off T : Nat} {C : Array Value} (ho : o.op = .load t x) (hx : a.eval x = .pointer (some ⟨g, off, none⟩)) (hB : Blk w g C T) (L : List Value) (hL : ∀ j v, L[j]? = some v → C[off + j]? = some v) (hn : L.length = n)
  (h : wpList P ops Q rest (a.put o.dst (.agg L.toArray)) w) : wpList P ops Q (o :: rest) a w :=
 wpList_of_run hgd (exec_load hT ho hx hB L hL hn) h
theorem wpList_of_skip {w' : World} (hgd : o.guard = none) (hrun : (execOp a.eval o).run P w = .ok .skip w') (h : wpList P ops Q rest (a.put o.dst undef) w') : wpList P ops Q (o :: rest) a w := by
 refine wpList_plain hgd fun K hK => ?_
 unfold Oper.wp
 rw [hrun]
 exact hK _ _ h
theorem wl_store (hgd : o.guard = none) {t : TypeId} {n : Nat} (hT : RowT P t n) {x y : Operand} {g T : Nat} {C D : Array Value} (ho : o.op = .store t x y) (hx : a.eval x = .pointer (some ⟨g, 0, none⟩)) (hy : a.eval y = .agg D) (hB : Blk w g C T) (hn : D.size = n) (hf : C.size = n) (h1 : ∀ v ∈ D.toList, v.oneCell' = true)
  (h : ∀ w', Blk w' g D T → KeepBut (· = g) w w' → w'.heap.size = w.heap.size → wpList P ops Q rest (a.put o.dst undef) w') : wpList P ops Q (o :: rest) a w := by
 refine wpList_of_skip hgd (exec_store hT ho hx hy hB hn (by omega) h1) ?_
 rw [putIn_all C D (by omega)]
 exact h _ (hB.row D) (KeepBut.row _ _ _) (by simp)
theorem wl_storeM (hgd : o.guard = none) {t : TypeId} {n : Nat} (hT : RowT P t n) {x y : Operand} {g off T : Nat} {C D : Array Value} (ho : o.op = .store t x y) (hx : a.eval x = .pointer (some ⟨g, off, none⟩)) (hy : a.eval y = .agg D) (hB : Blk w g C T) (hn : D.size = n) (hf : off + n ≤ C.size) (h1 : ∀ v ∈ D.toList, v.oneCell' = true)
  (h : ∀ w', Blk w' g (putIn C off D.toList) T → KeepBut (· = g) w w' → w'.heap.size = w.heap.size → wpList P ops Q rest (a.put o.dst undef) w') : wpList P ops Q (o :: rest) a w := by
 refine wpList_of_skip hgd (exec_store hT ho hx hy hB hn hf h1) ?_
 exact h _ (hB.row _) (KeepBut.row _ _ _) (by simp)
end
section
variable {F : Fence} {n : Nat} {P : Program} {ops : Array Oper} {Q : Exit → Act → World → Prop} {a : Act} {w : World} {rest : List Oper} {o : Oper}
end
structure OneT (P : Program) (t : TypeId) : Prop where
 d : ∃ d, P.underlying t = some d ∧ d.isRow = false
 s : (P.info? t).map (·.size) = some 1
theorem exec_set {P : Program} {r : Operand → Value} {o : Oper} {t : TypeId} (hT : OneT P t) {x y : Operand} {g j T : Nat} {C : Array Value} {v : Value} {w : World} (ho : o.op = .store t x y) (hx : r x = .pointer (some ⟨g, j, none⟩)) (hy : r y = v) (hv : v.cells = #[v]) (h1 : v.oneCell' = true) (hB : Blk w g C T) (hj : j < C.size) :
  (execOp r o).run P w = .ok .skip (w.setCell ⟨g, j, none⟩ v) := by
 have hc : w.cell? ⟨g, j, none⟩ = some C[j] := by rw [hB.cell]; simp [hj]
 have hs := run_store P w ⟨g, j, none⟩ v .plain h1
 rw [hc] at hs
 simp [hB.frozen] at hs
 have ha : (⟨g, j, none⟩ : Addr).add 0 = ⟨g, j, none⟩ := by rw [add_plain]; rfl
 cases hq : P.info? t with
 | none => have := hT.s; simp [hq] at this
 | some i =>
  have hs' : i.size = 1 := by have := hT.s; simp [hq] at this; omega
  simp [execOp, ho, hx, hy, Instr.storeAt, Instr.sureAddr, storeVar, sizeOf, typeInfo, hq, hv, hs', storeCells, ha, hs]
theorem exg {P : Program} {r : Operand → Value} {o : Oper} {t : TypeId} (hT : OneT P t) {x : Operand} {g j : Nat} {v : Value} {w : World} (ho : o.op = .load t x) (hx : r x = .pointer (some ⟨g, j, none⟩)) (hc : w.cell? ⟨g, j, none⟩ = some v) :
  (execOp r o).run P w = .ok (.value v) w := by
 obtain ⟨d, hd, hr⟩ := hT.d
 have hagg : (isAgg t).run P w = .ok false w := by
  unfold isAgg
  rw [Sem.run_bind, run_underlying hd w]
  cases d <;> simp_all
 simp [execOp, ho, hx, Instr.loadAt, Instr.sureAddr, loadVar, hagg, hc]
section
variable {P : Program} {w : World} {ops : Array Oper} {rest : List Oper} {o : Oper} {a : Act} {Q : Exit → Act → World → Prop}
theorem wl_set (hgd : o.guard = none) {t : TypeId} (hT : OneT P t) {x y : Operand} {g j T : Nat} {C : Array Value} {v : Value} (ho : o.op = .store t x y) (hx : a.eval x = .pointer (some ⟨g, j, none⟩)) (hy : a.eval y = v) (hv : v.cells = #[v]) (h1 : v.oneCell' = true) (hB : Blk w g C T) (hj : j < C.size)
  (h : ∀ w', Blk w' g (C.setIfInBounds j v) T → KeepBut (· = g) w w' → w'.heap.size = w.heap.size → wpList P ops Q rest (a.put o.dst undef) w') : wpList P ops Q (o :: rest) a w :=
 wpList_of_skip hgd (exec_set hT ho hx hy hv h1 hB hj) (h _ (hB.set j v) ⟨rfl, rfl, rfl, by simp, fun k _ hk => block_other hk j v⟩ (by simp))
end
theorem KeepBut.below {S : Nat → Prop} {w w' : World} {B : Nat} (h : KeepBut S w w') (hs : ∀ k, S k → B ≤ k) (hB : B ≤ w.heap.size) : Below B w w' :=
 ⟨h.os, h.tape, h.output, h.size, fun k hk => h.block k (by omega) (fun e => by have := hs k e; omega)⟩
section
variable {F : Fence} {n : Nat} {P : Program} {ops : Array Oper} {Q : Exit → Act → World → Prop} {a : Act} {w : World} {rest : List Oper} {o : Oper}
end
def bA (L : List Nat) : Array Value := (cellsB L).toArray
end Go.Proofs.Ytigocaconkbalaa
namespace Go.Proofs.Ytigocaconkbalaa
open Go
section
variable {P : Program} {mk : Tmp → Option Nat} {ops : List Oper} {a0 : Act} {R : World → World → Prop} {V : Nat → World → Value → Prop} {w0 : World} {Q : Exit → Act → World → Prop} {n : Nat}
theorem getD_false2 {l : Array Bool} {i : Nat} (h : l.getD i true = false) : l.getD i false = false := by
 have hlt : i < l.size := by
  rcases Nat.lt_or_ge i l.size with h' | h'
  ·
   exact h'
  ·
   simp [Array.getElem?_eq_none h'] at h
 simpa [hlt] using h
end
end Go.Proofs.Ytigocaconkbalaa
namespace Go.Proofs.Ytigocaconkbalaa
open Go
def comesB (ops : List Oper) (o : Oper) (i : Nat) : Bool := afterB o i || (List.range ops.length).any fun j => match ops[j]? with | none => false | some oj => afterB o j && afterB oj i
theorem comes_spec {ops : List Oper} {o : Oper} {i : Nat} (h : comesB ops o i = true) : afterB o i = true ∨ ∃ (j : Nat) (oj : Oper), ops[j]? = some oj ∧ afterB o j = true ∧ afterB oj i = true := by
 unfold comesB at h
 rw [Bool.or_eq_true] at h
 rcases h with h | h
 ·
  exact .inl h
 ·
  obtain ⟨j, _, h2⟩ := List.any_eq_true.1 h
  cases hoj : ops[j]? with
  | none => rw [hoj] at h2; cases h2
  | some oj =>
   rw [hoj] at h2
   simp only [Bool.and_eq_true] at h2
   exact .inr ⟨j, oj, hoj, h2.1, h2.2⟩
section
variable {P : Program} {mk : Tmp → Option Nat} {ops : List Oper} {a0 : Act} {V : Nat → Value → Prop} {Q : Exit → Act → World → Prop} {n : Nat}
theorem chain_any (hsh : shapeB mk ops n = true) (hn : a0.tmps.size = n) (wr : List Nat) (Ws : Nat → World)
  (hinj : ∀ i j, i < wr.length → j < wr.length → wr.getD i 0 = wr.getD j 0 → i = j)
  (hch : ∀ j o, j + 1 < wr.length → ops[wr.getD (j + 1) 0]? = some o → afterB o (wr.getD j 0) = true)
  (hG : ∀ i o, ops[i]? = some o → (∀ j, j < wr.length → wr.getD j 0 ≠ i) → ∀ k, k ≤ wr.length → (∀ (j : Nat) oj, j < k → ops[wr.getD j 0]? = some oj → comesB ops oj i = false) → GoodS P mk a0 V i o (Ws k) (Ws k))
  (hWr : ∀ k o, k < wr.length → ops[wr.getD k 0]? = some o → GoodS P mk a0 V (wr.getD k 0) o (Ws k) (Ws (k + 1)))
  (hQ : ∀ a w, (∀ listed, SInv ops a0 V wr Ws (Array.replicate ops.length listed) a w → listed = true → Q .normal a w)) :
  ∀ (fuel : Nat) (listed : Array Bool) (a : Act) (w : World), listed.size = ops.length → listed.countP (· == false) ≤ fuel → (∀ (j : Nat) oj, ops[j]? = some oj → listed.getD j false = true → ∀ e ∈ oj.after, Region.binds .any e = true → listed.getD e.on false = true) → SInv ops a0 V wr Ws listed a w → wpAny P .any ops.toArray Q fuel listed a w := by
 have ready_nil : ∀ (listed : Array Bool), listed.size = ops.length → Region.ready .any ops.toArray listed = [] → listed = Array.replicate ops.length true := by
  intro listed hs hr
  have key : ∀ i, i < ops.length → listed.getD i false = true := by
   intro i
   induction i using Nat.strongRecOn with
   | _ i ih =>
    intro hi
    cases hb : listed.getD i false with
    | true => rfl
    | false =>
     exfalso
     have ho : ops[i]? = some ops[i] := by simp [hi]
     have : i ∈ Region.ready .any ops.toArray listed := by
      rw [mem_ready]
      refine ⟨by simpa [hs, hi] using hb, ops[i], by simp [hi], fun e he hbi => ?_⟩
      have hsp := shape_spec hsh ho
      simp only [shapeOneB, Bool.and_eq_true] at hsp
      have h5 := Array.all_eq_true_iff_forall_mem.1 hsp.2 e he
      simp [hbi] at h5
      exact ih e.on h5 (by omega)
     rw [hr] at this
     cases this
  apply Array.ext
  ·
   simp [hs]
  ·
   intro i h1 h2
   have := key i (by omega)
   simpa [h1] using this
 have fin : ∀ (listed : Array Bool) (a : Act) (w : World), listed.size = ops.length → SInv ops a0 V wr Ws listed a w → Region.ready .any ops.toArray listed = [] → Q .normal a w := by
  intro listed a w hs hI hr
  have := ready_nil listed hs hr
  subst this
  exact hQ a w true hI rfl
 intro fuel
 induction fuel with
 | zero =>
  intro listed a w hs hc hcl hI
  have hr : Region.ready .any ops.toArray listed = [] := by
   cases hr : Region.ready .any ops.toArray listed with
   | nil => rfl
   | cons j js =>
    exfalso
    have hj : j ∈ Region.ready .any ops.toArray listed := by rw [hr]; simp
    have h0 := (mem_ready.1 hj).1
    have hlt : j < listed.size := by
     rcases Nat.lt_or_ge j listed.size with h | h
     ·
      exact h
     ·
      simp [Array.getElem?_eq_none h] at h0
    have h1 : listed.countP (· == false) = 0 := by omega
    rw [Array.countP_eq_zero] at h1
    have h2 : listed[j] = false := by simpa [hlt] using h0
    have := h1 listed[j] (Array.getElem_mem hlt)
    simp [h2] at this
  exact ⟨hr, fin listed a w hs hI hr⟩
 | succ fuel ih =>
  intro listed a w hs hc hcl hI
  refine ⟨fin listed a w hs hI, fun i hi => ?_⟩
  obtain ⟨hl, o, ho', hall⟩ := mem_ready.1 hi
  have ho : ops[i]? = some o := by simpa using ho'
  obtain ⟨hB, k, hk, rfl, hst⟩ := hI
  have hfacts := factsOf_mk (hB.facts hsh ho hall)
  -- the world behind it, and what is owed
  obtain ⟨k', hk', hg, hst'⟩ : ∃ k', k' ≤ wr.length ∧ GoodS P mk a0 V i o (Ws k) (Ws k') ∧ ∀ j, j < wr.length → (listed.setIfInBounds i true).getD (wr.getD j 0) false = decide (j < k') := by
   by_cases hw : ∃ j, j < wr.length ∧ wr.getD j 0 = i
   ·
    obtain ⟨j, hj, hji⟩ := hw
    have hnl : listed.getD (wr.getD j 0) false = false := by rw [hji]; exact getD_false hl
    have hjk : ¬ j < k := by
     intro h
     rw [hst j hj, decide_eq_true h] at hnl
     cases hnl
    have hkj : j = k := by
     rcases Nat.lt_or_ge k j with h | h
     ·
      exfalso
      obtain ⟨j', rfl⟩ : ∃ j', j = j' + 1 := ⟨j - 1, by omega⟩
      have ha := hch j' o hj (by rw [hji]; exact ho)
      obtain ⟨e, he, hb, hon⟩ := after_spec ha
      have h2 := hall e he hb
      rw [hon, hst j' (by omega)] at h2
      have : j' < k := of_decide_eq_true h2
      omega
     ·
      omega
    subst hkj
    refine ⟨j + 1, by omega, by rw [← hji]; exact hWr j o hj (by rw [hji]; exact ho), fun j2 hj2 => ?_⟩
    by_cases e : j2 = j
    ·
     subst e
     rw [hji, getD_set_self hl]
     exact (decide_eq_true (by omega)).symm
    ·
     rw [getD_set_ne false (fun h => e (hinj j2 j hj2 hj (by rw [← h, hji]))), hst j2 hj2]
     congr 1
     simp only [eq_iff_iff]; omega
   ·
    have hne : ∀ j, j < wr.length → wr.getD j 0 ≠ i := fun j hj e => hw ⟨j, hj, e⟩
    refine ⟨k, hk, hG i o ho hne k hk (fun j oj hj hoj => ?_), fun j hj => by rw [getD_set_ne false (hne j hj).symm, hst j hj]⟩
    cases hcm : comesB ops oj i with
    | false => rfl
    | true =>
     exfalso
     have hlj : listed.getD (wr.getD j 0) false = true := by rw [hst j (by omega), decide_eq_true hj]
     have hli := getD_false hl
     rcases comes_spec hcm with h1 | ⟨j2, o2, ho2, h1, h2⟩
     ·
      obtain ⟨e, he, hb, rfl⟩ := after_spec h1
      have := hcl _ oj hoj hlj e he hb
      rw [hli] at this; cases this
     ·
      obtain ⟨e, he, hb, rfl⟩ := after_spec h1
      have h3 := hcl _ oj hoj hlj e he hb
      obtain ⟨e2, he2, hb2, rfl⟩ := after_spec h2
      have := hcl _ o2 ho2 h3 e2 he2 hb2
      rw [hli] at this; cases this
  have hg := hg a.eval hfacts
  unfold wpOp
  simp only [ho']
  have next : ∀ v w', w' = Ws k' ∧ V i v → wpAny P .any ops.toArray Q fuel (listed.setIfInBounds i true) (a.put o.dst v) w' := fun v w' ⟨h1, h2⟩ => by
   subst h1
   exact ih _ _ _ (by simp [hs]) (count_set hl hc) (fun j oj hoj hlj e he hb => by
     have keep : ∀ x, listed.getD x false = true → (listed.setIfInBounds i true).getD x false = true := fun x hx => by
      by_cases e' : i = x
      ·
       subst e'; exact absurd (getD_false hl) (by rw [hx]; simp)
      ·
       rw [getD_set_ne false e']; exact hx
     by_cases e' : i = j
     ·
      subst e'
      rw [ho] at hoj; cases hoj
      exact keep _ (hall e he hb)
     ·
      rw [getD_set_ne false e'] at hlj
      exact keep _ (hcl j oj hoj hlj e he hb)) ⟨hB.put hsh hn (fun _ _ _ _ _ h => h) (fun _ _ _ _ _ => trivial) ho hl trivial h2, k', hk', rfl, hst'⟩
  cases hgd : o.guard with
  | none =>
   simp only [hgd] at hg
   simp only [Region.wanted, hgd, if_true]
   exact .inl (give_wp hg next)
  | some gw =>
   obtain ⟨g, want⟩ := gw
   simp only [hgd] at hg
   have hsp := shape_spec hsh ho
   simp only [shapeOneB, hgd, Bool.and_eq_true] at hsp
   obtain ⟨e, he, hb, rfl⟩ := after_spec hsp.1.1.2.1
   obtain ⟨d, hd⟩ := Option.isSome_iff_exists.1 hsp.1.1.2.2
   obtain ⟨og, hog, hdg⟩ := Option.bind_eq_some_iff.1 hd
   obtain ⟨v, h3, h4⟩ := hB.done e.on og hog (hall e he hb)
   have hv := h3 d hdg
   have hy : yielded ops.toArray a.tmps e.on = asBool v := by
    unfold yielded
    simp only [List.getElem?_toArray, hog, Option.bind_some, hdg, hv]
    cases v <;> rfl
   have := hg v h4
   simp only [Region.wanted, hgd, hy]
   split
   ·
    rename_i hw
    rw [if_pos hw] at this
    exact .inl (give_wp this next)
   ·
    rename_i hw
    rw [if_neg hw] at this
    exact next _ _ ⟨this.1.symm, this.2⟩
end
def boundB (ops : List Oper) (wr ub : List Nat) : Bool := (List.range ops.length).all fun i => decide (wr.length ≤ ub.getD i 0) || match ops[wr.getD (ub.getD i 0) 0]? with | none => false | some oj => comesB ops oj i
def GoodCAll (P : Program) (mk : Tmp → Option Nat) (a0 : Act) (V : Nat → Value → Prop) (wr ub : List Nat) (Ws : Nat → World) : Nat → List Oper → Prop
 | _, [] => True
 | i, o :: l => (if wr.contains i then GoodS P mk a0 V i o (Ws (wr.idxOf i)) (Ws (wr.idxOf i + 1)) else ∀ k, k ≤ ub.getD i 0 → GoodS P mk a0 V i o (Ws k) (Ws k)) ∧ GoodCAll P mk a0 V wr ub Ws (i + 1) l
theorem GoodCAll.at {P : Program} {mk : Tmp → Option Nat} {a0 : Act} {V : Nat → Value → Prop} {wr ub : List Nat} {Ws : Nat → World} : ∀ {ops : List Oper} {s : Nat}, GoodCAll P mk a0 V wr ub Ws s ops → ∀ i o, ops[i]? = some o → (if wr.contains (s + i) then GoodS P mk a0 V (s + i) o (Ws (wr.idxOf (s + i))) (Ws (wr.idxOf (s + i) + 1)) else ∀ k, k ≤ ub.getD (s + i) 0 → GoodS P mk a0 V (s + i) o (Ws k) (Ws k))
 | [], _, _, i, o, ho => by simp at ho
 | _ :: _, s, h, 0, o, ho => by simp at ho; subst ho; exact h.1
 | _ :: l, s, h, i + 1, o, ho => by
  have := GoodCAll.at (ops := l) h.2 i o (by simpa using ho)
  rwa [show s + 1 + i = s + (i + 1) by omega] at this
theorem GoodCAll.nil {P : Program} {mk : Tmp → Option Nat} {a0 : Act} {V : Nat → Value → Prop} {wr ub : List Nat} {Ws : Nat → World} {i : Nat} : GoodCAll P mk a0 V wr ub Ws i [] := trivial
theorem GoodCAll.reads {P : Program} {mk : Tmp → Option Nat} {a0 : Act} {V : Nat → Value → Prop} {wr ub : List Nat} {Ws : Nat → World} {i : Nat} {o : Oper} {l : List Oper} (u : Nat) (hc : wr.contains i = false) (hu : ub.getD i 0 = u) (h : ∀ k, k ≤ u → GoodS P mk a0 V i o (Ws k) (Ws k)) (hl : GoodCAll P mk a0 V wr ub Ws (i + 1) l) : GoodCAll P mk a0 V wr ub Ws i (o :: l) :=
 ⟨by rw [if_neg (by rw [hc]; simp), hu]; exact h, hl⟩
theorem GoodCAll.writes {P : Program} {mk : Tmp → Option Nat} {a0 : Act} {V : Nat → Value → Prop} {wr ub : List Nat} {Ws : Nat → World} {i : Nat} {o : Oper} {l : List Oper} (k : Nat) (hc : wr.contains i = true) (hk : wr.idxOf i = k) (h : GoodS P mk a0 V i o (Ws k) (Ws (k + 1))) (hl : GoodCAll P mk a0 V wr ub Ws (i + 1) l) : GoodCAll P mk a0 V wr ub Ws i (o :: l) :=
 ⟨by rw [if_pos hc, hk]; exact h, hl⟩
theorem wp_region_chain {P : Program} {ops : List Oper} {a0 : Act} {Q : Exit → Act → World → Prop} {id : Nat} {w : World} (mk : Tmp → Option Nat) (n : Nat) (wr ub : List Nat) (Ws : Nat → World) (Vs : List (Value → Prop))
  (hlen : Vs.length = ops.length) (hm : P.follows .mixedOrders = true) (hsh : shapeB mk ops n = true) (hn : a0.tmps.size = n) (hch : chainB ops wr = true) (ho : onceB wr = true) (hub : boundB ops wr ub = true) (hW0 : Ws 0 = w.drew)
  (hG : GoodCAll P mk a0 (fun i => Vs.getD i fun _ => True) wr ub Ws 0 ops)
  (hQ : ∀ (vs : Nat → Value) (a' : Act), (∀ i, i < Vs.length → (Vs.getD i fun _ => True) (vs i)) → a' = putAll vs ops 0 a0 → Q .normal a' (Ws wr.length)) :
  (Code.region id ops.toArray true).wp P Q a0 w := by
 refine wp_region_any hm ?_
 have hidx : ∀ i, i < wr.length → wr.idxOf (wr.getD i 0) = i := fun i hi => by
  have := List.all_eq_true.1 ho i (List.mem_range.2 hi)
  simpa using this
 have hmem : ∀ i, i < wr.length → wr.contains (wr.getD i 0) = true := fun i hi => by
  rw [List.contains_iff_mem]; simp [List.getD_eq_getElem?_getD, hi]
 have h := chain_any (P := P) (ops := ops) (a0 := a0) (V := fun i => Vs.getD i fun _ => True) (Q := Q) (n := n) hsh hn wr Ws
  (fun i j hi hj e => by rw [← hidx i hi, e, hidx j hj])
  (fun j o hj hoj => by
   have := List.all_eq_true.1 hch (j + 1) (List.mem_range.2 hj)
   rw [hoj] at this
   simpa using this)
  (fun i o hio hne k hk hcm => by
   have := hG.at i o hio
   rw [Nat.zero_add, if_neg (by
    rw [List.contains_iff_mem]
    intro hm'
    obtain ⟨j, hj, e⟩ := List.getElem_of_mem hm'
    exact hne j hj (by simp [List.getD_eq_getElem?_getD, hj, e]))] at this
   refine this k ?_
   have hil : i < ops.length := by
    rcases Nat.lt_or_ge i ops.length with h' | h'
    ·
     exact h'
    ·
     simp [List.getElem?_eq_none h'] at hio
   have hb := List.all_eq_true.1 hub i (List.mem_range.2 hil)
   rcases Bool.or_eq_true _ _ ▸ hb with hb | hb
   ·
    have := of_decide_eq_true hb; omega
   ·
    cases hoj : ops[wr.getD (ub.getD i 0) 0]? with
    | none => rw [hoj] at hb; cases hb
    | some oj =>
     rw [hoj] at hb
     rcases Nat.lt_or_ge (ub.getD i 0) k with h | h
     ·
      have := hcm _ oj h hoj
      have hb2 : comesB ops oj i = true := hb
      rw [this] at hb2; cases hb2
     ·
      exact h)
  (fun k o hk hko => by
   have := hG.at _ o hko
   rw [Nat.zero_add, if_pos (hmem k hk), hidx k hk] at this
   exact this)
  (fun a w' l hI hl => by
   subst hl
   obtain ⟨hB, k, hk, rfl, hst⟩ := hI
   obtain ⟨vs, rfl, hv⟩ := hB.whole hsh hn
   have hkl : k = wr.length := by
    rcases Nat.lt_or_ge k wr.length with h | h
    ·
     exfalso
     have := hst k h
     rw [decide_eq_false (by omega)] at this
     have hlt : wr.getD k 0 < ops.length := by
      have h2 := List.all_eq_true.1 hch k (List.mem_range.2 h)
      rcases Nat.lt_or_ge (wr.getD k 0) ops.length with h' | h'
      ·
       exact h'
      ·
       rw [List.getElem?_eq_none h'] at h2; cases h2
     generalize wr.getD k 0 = q at *
     simp [hlt] at this
    ·
     omega
   subst hkl
   exact hQ vs _ (fun i hi => hv i (by omega)) rfl)
  ops.length (Array.replicate ops.length false) a0 w.drew (by simp) (by
   have := Array.countP_le_size (p := (· == false)) (xs := Array.replicate ops.length false)
   simpa using this) (fun j oj hoj hlj => by
    exfalso
    by_cases h : j < ops.length <;> simp [h] at hlj) ⟨⟨trivial, rfl, rfl, fun _ _ => rfl, fun i o hi hl => by
    exfalso
    by_cases h : i < ops.length <;> simp [h] at hl⟩, 0, Nat.zero_le _, hW0.symm, fun j hj => by
     rw [decide_eq_false (by omega)]
     generalize wr.getD j 0 = q
     by_cases h : q < ops.length <;> simp [h]⟩
 simpa using h
end Go.Proofs.Ytigocaconkbalaa
namespace Go.Proofs.Ytigocaconkbalaa
namespace Tlv
open Go Go.RowKit
theorem byteT : ByteT Try.prog 24 5 := ⟨Try.underlying24, Try.underlying5, by kernel_rfl, by kernel_rfl⟩
theorem numT8 : NumT Try.prog 24 5 .u8 1 := ⟨Try.underlying24, Try.underlying5, by kernel_rfl⟩
theorem one5 : OneT Try.prog 5 := ⟨⟨_, Try.underlying5, rfl⟩, by kernel_rfl⟩
theorem one3 : OneT Try.prog 3 := ⟨⟨_, Try.underlying3, rfl⟩, by kernel_rfl⟩
theorem one4 : OneT Try.prog 4 := ⟨⟨_, Try.underlying4, rfl⟩, by kernel_rfl⟩
theorem oneS : OneT Try.prog 24 := ⟨⟨_, Try.underlying24, rfl⟩, by kernel_rfl⟩
theorem nums_of_bytes {w : World} {v : Value} {l : List Nat} (h : BytesAt w v l) : NumsAt .u8 w v (ci l) := by
 obtain ⟨h1, h2, ⟨rfl, rfl⟩ | ⟨ad, cap, rfl, h4, h5, hc⟩⟩ := h
 ·
  exact NumsAt.nothing _ _
 ·
  refine ⟨by rw [ci_len]; exact h2, .inr ⟨ad, cap, by rw [ci_len], by rw [ci_len]; exact h4, h5, fun j hj => ?_⟩⟩
  rw [ci_len] at hj
  rw [hc j hj, ci_get]
theorem bytes_of_nums {w : World} {v : Value} {l : List Nat} (h : NumsAt .u8 w v (ci l)) (hl : AllB l) : BytesAt w v l := by
 obtain ⟨h2, h3⟩ := h
 rw [ci_len] at h2
 refine ⟨hl, h2, ?_⟩
 rcases h3 with ⟨h0, rfl⟩ | ⟨ad, cap, rfl, h4, h5, hc⟩
 ·
  have : l.length = 0 := by rw [← ci_len l, h0]; rfl
  exact .inl ⟨List.eq_nil_of_length_eq_zero this, rfl⟩
 ·
  rw [ci_len] at h4
  refine .inr ⟨ad, cap, by rw [ci_len], h4, h5, fun j hj => ?_⟩
  rw [hc j (by rw [ci_len]; exact hj), ci_get]
structure OB (w : World) (base : Nat) (v : Value) (l : List Nat) : Prop where
 own : OwnN .u8 w base 5 v (ci l)
 all : AllB l
theorem OB.bytes {w : World} {base : Nat} {v : Value} {l : List Nat} (h : OB w base v l) : BytesAt w v l := bytes_of_nums h.own.nums h.all
theorem OB.nil (w : World) (base : Nat) : OB w base (.slice none 0 0) [] := ⟨OwnN.nil _ _ _ _, fun x hx => by cases hx⟩
theorem OB.ext {w w' : World} {base : Nat} {v : Value} {l : List Nat} (h : OB w base v l) (he : Ext w w') : OB w' base v l := ⟨h.own.ext he, h.all⟩
theorem OB.but {S : Nat → Prop} {w w' : World} {base : Nat} {v : Value} {l : List Nat} (h : OB w base v l) (hk : KeepBut S w w') (hn : ∀ g, v.ownBlock = some g → ¬ S g) : OB w' base v l := ⟨h.own.mono_via hk hn, h.all⟩
theorem OB.base {w : World} {base base' : Nat} {v : Value} {l : List Nat} (h : OB w base v l) (hb : base' ≤ base) : OB w base' v l := ⟨h.own.base hb, h.all⟩
theorem OB.lt {w : World} {base : Nat} {v : Value} {l : List Nat} (h : OB w base v l) {g : Nat} (hg : v.ownBlock = some g) : base ≤ g ∧ g < w.heap.size := h.own.lt hg
theorem OB.form {w : World} {base : Nat} {v : Value} {l : List Nat} (h : OB w base v l) : ∃ a cap, v = .slice a l.length cap := by
 obtain ⟨a, cap, e, _⟩ := h.own.slice
 rw [ci_len] at e
 exact ⟨a, cap, e⟩
theorem OB.lit0 (w : World) (base b : Nat) (hb : b = w.heap.size) (hbase : base ≤ w.heap.size) : OB (w.alloc (.cells #[] 5)) base (.slice (some ⟨b, 0, none⟩) 0 0) [] := ⟨OwnN.lit0 .u8 w base 5 b hb hbase, fun x hx => by cases hx⟩
theorem OB.ne {w : World} {base g t : Nat} {C : Array Value} {v : Value} {l : List Nat} (h : OB w base v l) (hb : Blk w g C t) (ht : t ≠ 5) : ∀ k, v.ownBlock = some k → k ≠ g := by
 rintro k hk rfl
 rcases h.own.1.2 with ⟨rfl, _⟩ | ⟨g', cap, cur, rfl, _, hg, _⟩
 ·
  cases hk
 ·
  cases hk
  unfold Blk at hb
  rw [hb] at hg
  simp only [Option.some.injEq, Obj.cells.injEq, and_true] at hg
  exact ht hg.2
theorem run_appB (w : World) (base ty : Nat) (v x : Value) (l m : List Nat) (hv : OB w base v l) (hx : BytesAt w x m) (hlen : l.length + m.length ≤ 1000000) (hbase : base ≤ w.heap.size) :
  ∃ ad cap w', (Builtin.append_ #[24, 24] ty #[v, x]).run Try.prog w = .ok (.slice ad (l ++ m).length cap) w' ∧ OB w' base (.slice ad (l ++ m).length cap) (l ++ m) ∧ KeepBut (fun k => v.ownBlock = some k) w w' ∧ ∀ g, (Value.slice ad (l ++ m).length cap).ownBlock = some g → v.ownBlock = some g ∨ g = w.heap.size := by
 obtain ⟨v', w', hr, h1, h2, h3⟩ := run_append_nums numT8 w base ty v x (ci l) (ci m) hv.own (nums_of_bytes hx) (by rw [ci_len, ci_len]; omega) (by rw [ci_len, ci_len]; omega) hbase
 rw [← ci_app] at h1
 have hb : OB w' base v' (l ++ m) := ⟨h1, hv.all.app hx.1⟩
 obtain ⟨ad, cap, rfl⟩ := hb.form
 refine ⟨ad, cap, w', hr, hb, KeepBut.grown h2 (fun r e => e), fun g hg => ?_⟩
 rcases h3 with h3 | h3
 ·
  exact .inl (by rw [← h3]; exact hg)
 ·
  rw [h3] at hg; cases hg; exact .inr rfl
theorem exec_appB {r : Operand → Value} {o : Oper} {s x : Operand} (ho : o.op = .call { callee := .builtin .append, args := #[s, x], argTypes := #[24, 24] }) {w : World} {base : Nat} {v u : Value} {l m : List Nat} (hs : r s = v) (hxx : r x = u) (hv : OB w base v l) (hx : BytesAt w u m) (hlen : l.length + m.length ≤ 1000000) (hbase : base ≤ w.heap.size) :
  ∃ ad cap w', (execOp r o).run Try.prog w = .ok (.value (.slice ad (l ++ m).length cap)) w' ∧ OB w' base (.slice ad (l ++ m).length cap) (l ++ m) ∧ KeepBut (fun k => v.ownBlock = some k) w w' ∧ ∀ g, (Value.slice ad (l ++ m).length cap).ownBlock = some g → v.ownBlock = some g ∨ g = w.heap.size := by
 obtain ⟨ad, cap, w', hr, h1, h2, h3⟩ := run_appB w base o.type v u l m hv hx hlen hbase
 refine ⟨ad, cap, w', ?_, h1, h2, h3⟩
 simp only [execOp, ho, resolve, invoke, builtin, Sem.run_bind, Sem.run_pure, Result.andThen_ok, List.map_toArray, List.map_cons, List.map_nil, hs, hxx, hr]
theorem wl_app {w : World} {ops : Array Oper} {rest : List Oper} {o : Oper} {a : Act} {Q : Exit → Act → World → Prop} (hgd : o.guard = none) {s x : Operand} (ho : o.op = .call { callee := .builtin .append, args := #[s, x], argTypes := #[24, 24] })
  {base : Nat} {v u : Value} {l m : List Nat} (hs : a.eval s = v) (hxx : a.eval x = u) (hv : OB w base v l) (hx : BytesAt w u m) (hlen : l.length + m.length ≤ 1000000) (hbase : base ≤ w.heap.size)
  (h : ∀ ad n cap w', Hid (n = (l ++ m).length) → OB w' base (.slice ad n cap) (l ++ m) → KeepBut (fun k => v.ownBlock = some k) w w' → (∀ g, (Value.slice ad n cap).ownBlock = some g → v.ownBlock = some g ∨ g = w.heap.size) → wpList Try.prog ops Q rest (a.put o.dst (.slice ad n cap)) w') : wpList Try.prog ops Q (o :: rest) a w := by
 obtain ⟨ad, cap, w', hr, h1, h2, h3⟩ := exec_appB (r := a.eval) ho hs hxx hv hx hlen hbase
 exact wpList_of_run hgd hr (h ad _ cap w' rfl h1 h2 h3)
theorem keep_new {S : Nat → Prop} {w w1 w2 : World} {g : Nat} (h : KeepBut S w w1) (k : KeepBut (· = g) w1 w2) (hg : w.heap.size ≤ g) : KeepBut S w w2 :=
 ⟨k.os.trans h.os, k.tape.trans h.tape, k.output.trans h.output, Nat.le_trans h.size k.size, fun j hj hn => (k.block j (Nat.lt_of_lt_of_le hj h.size) (fun e => by subst e; omega)).trans (h.block j hj hn)⟩
theorem keep_none {w w' : World} (h : KeepBut (fun k => (Value.slice none 0 0).ownBlock = some k) w w') : Ext w w' := ⟨h.os, h.tape, h.output, h.size, fun k hk => h.block k hk (fun e => by cases e)⟩
theorem copied_any {w : World} {v : Value} {l : List Nat} (hv : BytesAt w v l) (hl : l.length ≤ 1000000) :
  Calls Try.prog 68 #[v] w fun e w' => ∃ a n c, e = .returned (.slice a n c) ∧ n = l.length ∧ OB w' w.heap.size (.slice a n c) l ∧ Ext w w' := by
 have HV : Hid (BytesAt w v l ∧ l.length ≤ 1000000) := ⟨hv, hl⟩
 clear hv hl
 go_enter Try.func68, Try.ntmps68
 go_wp2_with (first
  | (at_builtin; refine wl_app rfl rfl rfl rfl (OB.nil _ w.heap.size) HV.out.1 (by have := HV.out.2; simp; omega) (Nat.le_refl _) ?_; intro ad n cap w1 hn1 ho1 hk1 hg1; rw [List.nil_append] at ho1))
 go_ret
 exact ⟨_, _, _, rfl, by rw [hn1.out, List.nil_append], ho1, keep_none hk1⟩
theorem isSize_any (n : Int) (w : World) : Calls Try.prog 66 #[.int .i64 n] w fun e w' => e = .returned (.bool (isSz n)) ∧ w' = w := by
 go_enter Try.func66, Try.ntmps66
 by_cases h1 : n = 1
 ·
  subst h1
  go_wp2
  go_ret
  exact ⟨rfl, rfl⟩
 ·
  by_cases h2 : n = 2
  ·
   subst h2
   go_wp2
   go_ret
   exact ⟨rfl, rfl⟩
  ·
   by_cases h4 : n = 4
   ·
    subst h4
    go_wp2
    go_ret
    exact ⟨rfl, rfl⟩
   ·
    have d1 : (n == 1) = false := by simpa using h1
    have d2 : (n == 2) = false := by simpa using h2
    have d4 : (n == 4) = false := by simpa using h4
    have e1 : decide (n = 1) = false := decide_eq_false h1
    have e2 : decide (n = 2) = false := decide_eq_false h2
    have e4 : decide (n = 4) = false := decide_eq_false h4
    go_wp2
    go_ret
    exact ⟨by unfold isSz; rw [d1, d2, d4]; simp, rfl⟩
def isKd (n : Int) : Bool := decide (0 ≤ n) && decide (n ≤ 65535)
theorem isKind_any (n : Int) (w : World) : Calls Try.prog 97 #[.int .i64 n] w fun e w' => e = .returned (.bool (isKd n)) ∧ w' = w := by
 go_enter Try.func97, Try.ntmps97
 by_cases h1 : 0 ≤ n
 ·
  have d1 : decide (n ≥ 0) = true := decide_eq_true h1
  go_wp2
  go_ret
  exact ⟨by unfold isKd; simp [h1], rfl⟩
 ·
  have d1 : decide (n ≥ 0) = false := decide_eq_false h1
  go_wp2
  go_ret
  exact ⟨by unfold isKd; rw [decide_eq_false (by omega : ¬ 0 ≤ n)]; rfl, rfl⟩
theorem padding_any (n : Nat) (hn : n ≤ 1000000) (w : World) : Calls Try.prog 67 #[.int .i64 (n : Int)] w fun e w' => e = .returned (.int .i64 (pads n : Int)) ∧ w' = w := by
 go_enter Try.func67, Try.ntmps67
 go_wp2
 go_ret
 exact ⟨ret_int (by unfold pads; omega), rfl⟩
abbrev ptr (g : Nat) : Value := .pointer (some ⟨g, 0, none⟩)
structure OutAt (w : World) (base g : Nat) (v : Value) (l : List Nat) : Prop where
 blk : Blk w g #[v] 74
 own : OB w base v l
structure Moved (w w' : World) (g : Nat) (v v' : Value) : Prop where
 keep : KeepBut (fun k => k = g ∨ v.ownBlock = some k) w w'
 came : ∀ k, v'.ownBlock = some k → v.ownBlock = some k ∨ w.heap.size ≤ k
theorem Moved.refl (w : World) (g : Nat) (v : Value) : Moved w w g v v := ⟨KeepBut.refl _ _, fun k h => .inl h⟩
theorem Moved.trans {a b c : World} {g : Nat} {u v x : Value} (h : Moved a b g u v) (k : Moved b c g v x) : Moved a c g u x := by
 refine ⟨⟨k.keep.os.trans h.keep.os, k.keep.tape.trans h.keep.tape, k.keep.output.trans h.keep.output, Nat.le_trans h.keep.size k.keep.size, fun i hi hn => ?_⟩, fun i hi => ?_⟩
 ·
  refine (k.keep.block i (Nat.lt_of_lt_of_le hi h.keep.size) ?_).trans (h.keep.block i hi hn)
  rintro (rfl | e)
  ·
   exact hn (.inl rfl)
  ·
   rcases h.came i e with e | e
   ·
    exact hn (.inr e)
   ·
    omega
 ·
  rcases k.came i hi with e | e
  ·
   exact h.came i e
  ·
   exact .inr (Nat.le_trans h.keep.size e)
theorem Moved.ext {a b : World} (h : Ext a b) (g : Nat) (v : Value) : Moved a b g v v := ⟨KeepBut.ext h, fun k e => .inl e⟩
theorem OutAt.ne {w : World} {base g : Nat} {v : Value} {l : List Nat} (h : OutAt w base g v l) : ∀ k, v.ownBlock = some k → k ≠ g := h.own.ne h.blk (by decide)
theorem OutAt.ext {w w' : World} {base g : Nat} {v : Value} {l : List Nat} (h : OutAt w base g v l) (he : Ext w w') : OutAt w' base g v l := ⟨h.blk.ext he, h.own.ext he⟩
theorem OutAt.but {S : Nat → Prop} {w w' : World} {base g : Nat} {v : Value} {l : List Nat} (h : OutAt w base g v l) (hk : KeepBut S w w') (hg : ¬ S g) (hn : ∀ k, v.ownBlock = some k → ¬ S k) : OutAt w' base g v l := ⟨h.blk.but hk hg, h.own.but hk hn⟩
theorem OutAt.len {w : World} {base g : Nat} {v : Value} {l : List Nat} (h : OutAt w base g v l) : ∃ a c, v = .slice a l.length c := h.own.form
theorem OutAt.put {w w' w'' : World} {base g : Nat} {v v' : Value} {l m : List Nat} (h : OutAt w base g v l) (ho : OB w' base v' m) (hk : KeepBut (fun k => v.ownBlock = some k) w w') (hg : ∀ k, v'.ownBlock = some k → v.ownBlock = some k ∨ k = w.heap.size) (hb : Blk w'' g #[v'] 74) (hs : KeepBut (· = g) w' w'') : OutAt w'' base g v' m ∧ Moved w w'' g v v' := by
 have hgl := h.blk.lt
 refine ⟨⟨hb, ho.but hs (fun k e => ?_)⟩, ⟨⟨hs.os.trans hk.os, hs.tape.trans hk.tape, hs.output.trans hk.output, Nat.le_trans hk.size hs.size, fun i hi hn => ?_⟩, fun k e => (hg k e).imp id (fun e => Nat.le_of_eq e.symm)⟩⟩
 ·
  rcases hg k e with e1 | e1
  ·
   exact h.ne k e1
  ·
   subst e1; exact (Nat.ne_of_lt hgl).symm
 ·
  exact (hs.block i (Nat.lt_of_lt_of_le hi hk.size) (fun e => hn (.inl e))).trans (hk.block i hi (fun e => hn (.inr e)))
theorem outPut_any {w : World} {base g : Nat} {v x : Value} {l m : List Nat} (h : OutAt w base g v l) (hx : BytesAt w x m) (hl : l.length + m.length ≤ 1000000) (hbase : base ≤ w.heap.size) :
  Calls Try.prog 29 #[ptr g, x] w fun e w' => (∃ y, e = .returned y) ∧ ∃ v', OutAt w' base g v' (l ++ m) ∧ Moved w w' g v v' := by
 have H : Hid (OutAt w base g v l ∧ BytesAt w x m ∧ l.length + m.length ≤ 1000000 ∧ base ≤ w.heap.size) := ⟨h, hx, hl, hbase⟩
 have hc : w.cell? ⟨g, 0, none⟩ = some v := h.blk.cell 0
 clear h hx hl hbase
 go_enter Try.func29, Try.ntmps29
 go_wp2_with (first
  | (at_builtin; refine wl_app (v := v) (u := x) rfl rfl rfl rfl H.out.1.own H.out.2.1 H.out.2.2.1 H.out.2.2.2 ?_; intro ad n cap w1 hn1 ho1 hk1 hg1)
  | (refine wl_set (v := .slice ad n cap) rfl oneS rfl rfl rfl rfl rfl (H.out.1.blk.but hk1 (fun e => H.out.1.ne _ e rfl)) (by simp) ?_; intro w2 hb2 hk2 hx; clear hx))
 go_end0
 have hp := H.out.1.put ho1 hk1 hg1 hb2 hk2
 exact ⟨⟨_, rfl⟩, _, hp.1, hp.2⟩
theorem exec_run {r : Operand → Value} {o : Oper} {s x : Operand} (ho : o.op = .call { callee := .builtin .append, args := #[s, x], argTypes := #[24, 24] }) {w w' : World} {v u z : Value} (hs : r s = v) (hx : r x = u) (hr : (Builtin.append_ #[24, 24] o.type #[v, u]).run Try.prog w = .ok z w') : (execOp r o).run Try.prog w = .ok (.value z) w' := by
 simp only [execOp, ho, resolve, invoke, builtin, Sem.run_bind, Sem.run_pure, Result.andThen_ok, List.map_toArray, List.map_cons, List.map_nil, hs, hx, hr]
def ws4 (a b c d : World) : Nat → World
 | 0 => a
 | 1 => b
 | 2 => c
 | _ => d
def dn (n S k : Nat) : List Nat := (be n S).take (S - k)
theorem be_get (n : Nat) : ∀ S i, i < S → (be n S).getD i 0 = n / 256 ^ (S - 1 - i) % 256
 | 0, i, h => by omega
 | S + 1, 0, _ => by rw [be, List.getD_cons_zero]; rfl
 | S + 1, i + 1, h => by
  rw [be, List.getD_cons_succ, be_get n S i (by omega)]
  congr 3; omega
theorem dn_start (n S : Nat) : dn n S S = [] := by simp [dn]
theorem dn_end (n S : Nat) : dn n S 0 = be n S := by unfold dn; rw [List.take_of_length_le (by rw [be_len]; omega)]
theorem dn_succ (n S j : Nat) (h : j < S) : dn n S j = dn n S (j + 1) ++ [n / 256 ^ j % 256] := by
 unfold dn
 rw [show S - j = (S - (j + 1)) + 1 by omega, take_next _ 0 _ (by rw [be_len]; omega), be_get n S _ (by omega)]
 congr 5; omega
theorem dn_len (n S k : Nat) : (dn n S k).length ≤ S := by unfold dn; rw [List.length_take, be_len]; omega
theorem pow_bytes (j : Nat) : (256 : Nat) ^ j = 2 ^ (8 * j) := by rw [Nat.pow_mul]
theorem outNum_loop {w : World} {base g : Nat} {v : Value} {l : List Nat} (h : OutAt w base g v l) (N S : Nat) (hS : S ≤ 8) (hsz : isSz (S : Int) = true) (hl : l.length ≤ 900000) (hbase : base ≤ w.heap.size) :
  Calls Try.prog 27 #[ptr g, .int .u64 (N : Int), .int .i64 (S : Int)] w fun e w' => (∃ y, e = .returned y) ∧ ∃ v', OutAt w' base g v' (l ++ be N S) ∧ Moved w w' g v v' := by
 have H : Hid (OutAt w base g v l ∧ l.length ≤ 900000 ∧ base ≤ w.heap.size ∧ S ≤ 8 ∧ g < w.heap.size) := ⟨h, hl, hbase, hS, h.blk.lt⟩
 have hS1 : 1 ≤ S := by rcases (isSz_iff _).1 hsz with e | e | e | e <;> omega
 have hw1 : IntKind.i64.wrap ((S : Int) - 1) = (S : Int) - 1 := by rw [IntKind.wrap_i64]; omega
 clear h hl hbase
 go_enter Try.func27, Try.ntmps27
 go_wp2_with (first
  | (go_at_call 66; refine (isSize_any _ _).mono ?_; rintro e w1 ⟨rfl, hw⟩; subst w1; rw [hsz]))
 go_loopg [6] S (fun gm s wr => ∃ (k : Nat) (v1 : Value), k ≤ S ∧ gm = k ∧ s = .int .i64 ((k : Int) - 1) ∧ Hid (OutAt wr base g v1 (l ++ dn N S k) ∧ Moved w wr g v v1))
 case atStart => exact ⟨S, v, Nat.le_refl _, rfl, by first | rfl | simp [hw1], by rw [dn_start, List.append_nil]; exact H.out.1, Moved.refl _ _ _⟩
 case round =>
  obtain ⟨k, v1, hk, hgk, rfl, HR⟩ := hrel
  subst gk
  cases k with
  | zero =>
   have hd : decide ((((0 : Nat) : Int) - 1) ≥ 0) = false := rfl
   go_wp2
   go_end0
   refine ⟨⟨_, rfl⟩, v1, ?_, HR.out.2⟩
   have := HR.out.1
   rwa [dn_end] at this
  | succ j =>
   have hj1 : ((j + 1 : Nat) : Int) - 1 = (j : Int) := by omega
   rw [hj1]
   have hd : decide ((j : Int) ≥ 0) = true := decide_eq_true (by omega)
   go_wp2_with fail
   have HJ : Hid (j < S ∧ S ≤ 8) := ⟨by omega, hS⟩
   obtain ⟨q, hq⟩ : ∃ q, q = 8 * j := ⟨_, rfl⟩
   obtain ⟨y, hy⟩ : ∃ y, y = N / 256 ^ j := ⟨_, rfl⟩
   obtain ⟨b, hb⟩ : ∃ b, b = y % 256 := ⟨_, rfl⟩
   have m8 : (8 : Int) * (j : Int) = (q : Int) := by omega
   have wq : IntKind.i64.wrap (q : Int) = (q : Int) := by rw [IntKind.wrap_i64]; omega
   have hq64 : (q : Int) ≤ 64 := by omega
   have my : (N : Int) / 2 ^ q = (y : Int) := by rw [hy, pow_bytes, ← hq]; simp
   have mb : (y : Int) % 256 = (b : Int) := by omega
   have mw : IntKind.u8.wrap (y : Int) = (b : Int) := by rw [IntKind.wrap_u8]; exact mb
   have HD : Hid (dn N S j = dn N S (j + 1) ++ [b]) := show _ = _ by rw [hb, hy]; exact dn_succ N S j HJ.out.1
   have hb8 : b < 256 := by omega
   obtain ⟨W0, hW0⟩ : ∃ W0, W0 = wr.drew := ⟨_, rfl⟩
   have HO0 : OutAt W0 base g v1 (l ++ dn N S (j + 1)) := by rw [hW0]; exact HR.out.1.ext (Ext.drew _)
   have hM0 : Moved w W0 g v v1 := by rw [hW0]; exact HR.out.2.trans (Moved.ext (Ext.drew _) _ _)
   obtain ⟨W1, hW1⟩ : ∃ W1, W0.alloc (.cells #[.int .u8 (b : Int)] 5) = W1 := ⟨_, rfl⟩
   have hE1 : Ext W0 W1 := by rw [← hW1]; exact Ext.alloc _ _
   have hN1 : BytesAt W1 (.slice (some ⟨W0.heap.size, 0, none⟩) 1 1) [b] := by
    rw [← hW1]
    exact bytes_of_nums (NumsAt.one W0 (b : Int) 5 _ rfl) (fun x hx => by simp at hx; omega)
   obtain ⟨ad, cap, W2, hrun1, ho2, hk2, hg2⟩ := run_appB W1 base 24 v1 (.slice (some ⟨W0.heap.size, 0, none⟩) 1 1) (l ++ dn N S (j + 1)) [b] (HO0.own.ext hE1) hN1 (by have := H.out; have := dn_len N S (j + 1); simp; omega) (Nat.le_trans H.out.2.2.1 (Nat.le_trans hM0.keep.size hE1.size))
   obtain ⟨nn, hnn⟩ : ∃ nn, nn = ((l ++ dn N S (j + 1)) ++ [b]).length := ⟨_, rfl⟩
   rw [← hnn] at hrun1 ho2 hg2
   have hB2 : Blk W2 g #[v1] 74 := (HO0.blk.ext hE1).but hk2 (fun e => HO0.ne _ e rfl)
   have hc0 : W0.cell? ⟨g, 0, none⟩ = some v1 := HO0.blk.cell 0
   have hc1 : W1.cell? ⟨g, 0, none⟩ = some v1 := (HO0.blk.ext hE1).cell 0
   obtain ⟨W3, hW3⟩ : ∃ W3, W2.setCell ⟨g, 0, none⟩ (.slice ad nn cap) = W3 := ⟨_, rfl⟩
   have hs0 : ws4 W0 W1 W2 W3 0 = wr.drew := hW0
   refine wp_region_chain (fun t => bif Nat.ble 20 t && Nat.ble t 33 then some (t - 20) else none) 34 [10, 11, 14] [3, 3, 3, 3, 1, 3, 3, 3, 3, 3, 3, 3, 3, 3, 3] (ws4 W0 W1 W2 W3)
    [(fun v => v = (.pointer (some ⟨g, 0, none⟩))),
     (fun v => v = (.pointer (some ⟨g, 0, none⟩))),
     (fun v => v = (.pointer (some ⟨g, 0, none⟩))),
     (fun v => v = (.pointer (some ⟨g, 0, none⟩))),
     (fun v => v = v1),
     (fun v => v = (.int .u64 (N : Int))),
     (fun v => v = (.int .i64 (j : Int))),
     (fun v => v = (.int .i64 (q : Int))),
     (fun v => v = (.int .u64 (y : Int))),
     (fun v => v = (.int .u8 (b : Int))),
     (fun v => v = (.slice (some ⟨W0.heap.size, 0, none⟩) 1 1)),
     (fun v => v = (.slice ad nn cap)),
     (fun v => v = (.pointer (some ⟨g, 0, none⟩))),
     (fun v => v = (.pointer (some ⟨g, 0, none⟩))),
     (fun v => v = undef)]
    rfl (by kernel_rfl) (by kernel_rfl) rfl (by kernel_rfl) (by kernel_rfl) (by kernel_rfl) hs0 ?_ ?_
   ·
    refine GoodCAll.reads 3 rfl rfl (fun k hk => ?_) ?_
    ·
     intro r hx
     obtain ⟨h1, _⟩ := hx
     replace h1 : r (.tmp 0) = (.pointer (some ⟨g, 0, none⟩)) := h1
     exact give_move (.inl rfl) ⟨rfl, h1⟩
    refine GoodCAll.reads 3 rfl rfl (fun k hk => ?_) ?_
    ·
     intro r hx
     obtain ⟨h1, _⟩ := hx
     replace h1 : r (.tmp 0) = (.pointer (some ⟨g, 0, none⟩)) := h1
     exact give_move (.inl rfl) ⟨rfl, h1⟩
    refine GoodCAll.reads 3 rfl rfl (fun k hk => ?_) ?_
    ·
     intro r hx
     obtain ⟨h1, _⟩ := hx
     replace h1 : r (.tmp 21) = (.pointer (some ⟨g, 0, none⟩)) := h1
     exact gvo (by simp [execOp, h1, go_sem]) ⟨rfl, rfl⟩
    refine GoodCAll.reads 3 rfl rfl (fun k hk => ?_) ?_
    ·
     intro r hx
     obtain ⟨h1, _⟩ := hx
     replace h1 : r (.tmp 22) = (.pointer (some ⟨g, 0, none⟩)) := h1
     exact gvo (by simp [execOp, h1, go_sem]) ⟨rfl, rfl⟩
    refine GoodCAll.reads 1 rfl rfl (fun k hk => ?_) ?_
    ·
     intro r hx
     obtain ⟨h1, _⟩ := hx
     replace h1 : r (.tmp 23) = (.pointer (some ⟨g, 0, none⟩)) := h1
     have hk2 : k = 0 ∨ k = 1 := by omega
     rcases hk2 with rfl | rfl
     ·
      exact gvo (exg oneS rfl h1 hc0) ⟨rfl, rfl⟩
     ·
      exact gvo (exg oneS rfl h1 hc1) ⟨rfl, rfl⟩
    refine GoodCAll.reads 3 rfl rfl (fun k hk => ?_) ?_
    ·
     intro r hx
     obtain ⟨h1, _⟩ := hx
     replace h1 : r (.tmp 1) = (.int .u64 (N : Int)) := h1
     exact give_move (.inl rfl) ⟨rfl, h1⟩
    refine GoodCAll.reads 3 rfl rfl (fun k hk => ?_) ?_
    ·
     intro r hx
     obtain ⟨h1, _⟩ := hx
     replace h1 : r (.tmp 6) = (.int .i64 (j : Int)) := h1
     exact give_move (.inl rfl) ⟨rfl, h1⟩
    refine GoodCAll.reads 3 rfl rfl (fun k hk => ?_) ?_
    ·
     intro r hx
     obtain ⟨h1, h2, _⟩ := hx
     replace h1 : r (.const (.int .i64 8)) = .int .i64 8 := h1
     replace h2 : r (.tmp 26) = (.int .i64 (j : Int)) := h2
     exact gvo (by simp [execOp, h1, h2, m8, wq, go_sem]) ⟨rfl, rfl⟩
    refine GoodCAll.reads 3 rfl rfl (fun k hk => ?_) ?_
    ·
     intro r hx
     obtain ⟨h1, h2, _⟩ := hx
     replace h1 : r (.tmp 25) = (.int .u64 (N : Int)) := h1
     replace h2 : r (.tmp 27) = (.int .i64 (q : Int)) := h2
     exact gvo (by simp [execOp, h1, h2, hq64, my, go_sem]) ⟨rfl, rfl⟩
    refine GoodCAll.reads 3 rfl rfl (fun k hk => ?_) ?_
    ·
     intro r hx
     obtain ⟨h1, _⟩ := hx
     replace h1 : r (.tmp 28) = (.int .u64 (y : Int)) := h1
     exact gvo (by simp [execOp, h1, mb, mw, go_sem]) ⟨rfl, rfl⟩
    refine GoodCAll.writes 0 rfl rfl ?_ ?_
    ·
     intro r hx
     obtain ⟨h1, _⟩ := hx
     replace h1 : r (.tmp 29) = (.int .u8 (b : Int)) := h1
     exact gvo (by simp [execOp, h1, go_sem]; exact ⟨rfl, rfl⟩) ⟨hW1, rfl⟩
    refine GoodCAll.writes 1 rfl rfl ?_ ?_
    ·
     intro r hx
     obtain ⟨h1, h2, _⟩ := hx
     replace h1 : r (.tmp 24) = v1 := h1
     replace h2 : r (.tmp 30) = (.slice (some ⟨W0.heap.size, 0, none⟩) 1 1) := h2
     exact gvo (exec_run rfl h1 h2 hrun1) ⟨rfl, rfl⟩
    refine GoodCAll.reads 3 rfl rfl (fun k hk => ?_) ?_
    ·
     intro r hx
     obtain ⟨h1, _⟩ := hx
     replace h1 : r (.tmp 20) = (.pointer (some ⟨g, 0, none⟩)) := h1
     exact gvo (by simp [execOp, h1, go_sem]) ⟨rfl, rfl⟩
    refine GoodCAll.reads 3 rfl rfl (fun k hk => ?_) ?_
    ·
     intro r hx
     obtain ⟨h1, _⟩ := hx
     replace h1 : r (.tmp 32) = (.pointer (some ⟨g, 0, none⟩)) := h1
     exact gvo (by simp [execOp, h1, go_sem]) ⟨rfl, rfl⟩
    refine GoodCAll.writes 2 rfl rfl ?_ ?_
    ·
     intro r hx
     obtain ⟨h1, h2, _⟩ := hx
     replace h1 : r (.tmp 33) = (.pointer (some ⟨g, 0, none⟩)) := h1
     replace h2 : r (.tmp 31) = (.slice ad nn cap) := h2
     exact give_skip (exec_set oneS rfl h1 h2 rfl rfl hB2 (by simp)) ⟨hW3, rfl⟩
    exact GoodCAll.nil
   ·
    intro vs a' hold ha'
    have hv0 : vs 0 = (.pointer (some ⟨g, 0, none⟩)) := hold 0 (by simp)
    have hv1 : vs 1 = (.pointer (some ⟨g, 0, none⟩)) := hold 1 (by simp)
    have hv2 : vs 2 = (.pointer (some ⟨g, 0, none⟩)) := hold 2 (by simp)
    have hv3 : vs 3 = (.pointer (some ⟨g, 0, none⟩)) := hold 3 (by simp)
    have hv4 : vs 4 = v1 := hold 4 (by simp)
    have hv5 : vs 5 = (.int .u64 (N : Int)) := hold 5 (by simp)
    have hv6 : vs 6 = (.int .i64 (j : Int)) := hold 6 (by simp)
    have hv7 : vs 7 = (.int .i64 (q : Int)) := hold 7 (by simp)
    have hv8 : vs 8 = (.int .u64 (y : Int)) := hold 8 (by simp)
    have hv9 : vs 9 = (.int .u8 (b : Int)) := hold 9 (by simp)
    have hv10 : vs 10 = (.slice (some ⟨W0.heap.size, 0, none⟩) 1 1) := hold 10 (by simp)
    have hv11 : vs 11 = (.slice ad nn cap) := hold 11 (by simp)
    have hv12 : vs 12 = (.pointer (some ⟨g, 0, none⟩)) := hold 12 (by simp)
    have hv13 : vs 13 = (.pointer (some ⟨g, 0, none⟩)) := hold 13 (by simp)
    simp only [putAll, Act.put, hv0, hv1, hv2, hv3, hv4, hv5, hv6, hv7, hv8, hv9, hv10, hv11, hv12, hv13, List.setIfInBounds_toArray, List.set_cons_succ, List.set_cons_zero] at ha'
    subst ha'
    clear hold hv0 hv1 hv2 hv3 hv4 hv5 hv6 hv7 hv8 hv9 hv10 hv11 hv12 hv13
    have hst : Blk W3 g #[.slice ad nn cap] 74 := by rw [← hW3]; exact hB2.set 0 _
    have hp := (HO0.ext hE1).put ho2 hk2 hg2 hst (by rw [← hW3]; exact ⟨rfl, rfl, rfl, by simp, fun k _ hk => block_other hk 0 _⟩)
    have HP : Hid (OutAt W3 base g (.slice ad nn cap) (l ++ dn N S j) ∧ Moved w W3 g v (.slice ad nn cap)) := ⟨by rw [HD.out, ← List.append_assoc]; exact hp.1, hM0.trans ((Moved.ext hE1 _ _).trans hp.2)⟩
    have hw2 : IntKind.i64.wrap ((j : Int) - 1) = (j : Int) - 1 := by rw [IntKind.wrap_i64]; omega
    rw [show ws4 W0 W1 W2 W3 [10, 11, 14].length = W3 from rfl]
    clear hp hst hs0 hc0 hc1 hB2 hnn hrun1 ho2 hg2 hk2 hN1 hE1 hW1 hM0 HO0 hW0 hb8 mw mb my hq64 wq m8 hb hy hq hW3
    go_wp2
    go_roundg j
    case measure => omega
    case rel => exact ⟨j, _, by omega, rfl, by first | rfl | simp [hw2], HP.out.1, HP.out.2⟩
theorem outNum_any {w : World} {base g : Nat} {v : Value} {l : List Nat} (h : OutAt w base g v l) (N : Nat) (n : Int) (hl : l.length ≤ 900000) (hbase : base ≤ w.heap.size) :
  Calls Try.prog 27 #[ptr g, .int .u64 (N : Int), .int .i64 n] w fun e w' => (∃ y, e = .returned y) ∧ ∃ v', OutAt w' base g v' (l ++ numB N n) ∧ Moved w w' g v v' := by
 cases hs : isSz n with
 | true =>
  obtain ⟨S, rfl, hS⟩ : ∃ S : Nat, n = (S : Int) ∧ S ≤ 8 := by
   rcases (isSz_iff n).1 hs with rfl | rfl | rfl | rfl
   ·
    exact ⟨1, rfl, by decide⟩
   ·
    exact ⟨2, rfl, by decide⟩
   ·
    exact ⟨4, rfl, by decide⟩
   ·
    exact ⟨8, rfl, by decide⟩
  have e : numB N (S : Int) = be N S := by unfold numB; rw [if_pos hs]; rfl
  rw [e]
  exact outNum_loop h N S hS hs hl hbase
 | false =>
  have e : numB N n = [] := by unfold numB; rw [hs]; rfl
  rw [e, List.append_nil]
  have H : Hid (OutAt w base g v l) := h
  clear h hl hbase e
  go_enter Try.func27, Try.ntmps27
  go_wp2_with (first
   | (go_at_call 66; refine (isSize_any _ _).mono ?_; rintro e w1 ⟨rfl, hw⟩; subst w1; rw [hs]))
  refine bodyPost_ret (results_none rfl _ _ _) rfl ?_
  exact ⟨⟨_, rfl⟩, v, H.out, Moved.refl _ _ _⟩
theorem wl_make {w : World} {ops : Array Oper} {rest : List Oper} {o : Oper} {a : Act} {Q : Exit → Act → World → Prop} (hgd : o.guard = none) {x y : Operand} (ho : o.op = .makeSlice 24 x y) {n : Nat} (hx : a.eval x = .int .i64 (n : Int)) (hy : a.eval y = .int .i64 (n : Int)) (hn : n ≤ 1000)
  (h : ∀ w', BytesAt w' (.slice (some ⟨w.heap.size, 0, none⟩) n n) (List.replicate n 0) → Ext w w' → wpList Try.prog ops Q rest (a.put o.dst (.slice (some ⟨w.heap.size, 0, none⟩) n n)) w') : wpList Try.prog ops Q (o :: rest) a w := by
 have hr := run_make_row' (P := Try.prog) 24 5 (.int .u8 0) 1 Try.underlying24 (by kernel_rfl) rfl .i64 .i64 n (by omega) (by omega) w
 refine wpList_of_run hgd (by simp only [execOp, ho, hx, hy, Sem.run_bind, hr, Result.andThen_ok]; rfl) (h _ ?_ (Ext.alloc _ _))
 refine ⟨zeros_all _, by unfold maxLen; simp; omega, .inr ⟨⟨w.heap.size, 0, none⟩, n, by simp, by simp, by unfold maxLen; omega, fun j hj => ?_⟩⟩
 rw [add_plain, Nat.zero_add, cellNew _ _ _ _ _ _ rfl]
 simp at hj
 simp [madeCells, hj, Nat.mod_one, List.getD_eq_getElem?_getD]
theorem outPad_any {w : World} {base g : Nat} {v : Value} {l : List Nat} (h : OutAt w base g v l) (hl : l.length ≤ 900000) (hbase : base ≤ w.heap.size) :
  Calls Try.prog 30 #[ptr g] w fun e w' => (∃ y, e = .returned y) ∧ ∃ v', OutAt w' base g v' (padB l) ∧ Moved w w' g v v' := by
 obtain ⟨a, c, rfl⟩ := h.len
 have H : Hid (OutAt w base g (.slice a l.length c) l ∧ l.length ≤ 900000 ∧ base ≤ w.heap.size) := ⟨h, hl, hbase⟩
 have hc : w.cell? ⟨g, 0, none⟩ = some (.slice a l.length c) := h.blk.cell 0
 clear h hl hbase
 go_enter Try.func30, Try.ntmps30
 go_wp2_with (first
  | (go_at_call 67; refine (padding_any l.length (by have := H.out; omega) _).mono ?_; rintro e w1 ⟨rfl, hw⟩; subst w1)
  | (refine wl_make (n := pads l.length) rfl rfl rfl rfl (by have := pads_lt l.length; omega) ?_; intro w2 hb2 he2)
  | (go_at_call 29; refine (outPut_any (H.out.1.ext he2) hb2 (by have := H.out; have := pads_lt l.length; simp; omega) (Nat.le_trans H.out.2.2 he2.size)).mono ?_; rintro e w3 ⟨⟨y, rfl⟩, v3, ho3, hm3⟩))
 go_end0
 exact ⟨⟨_, rfl⟩, v3, ho3, (Moved.ext he2 _ _).trans hm3⟩
theorem outBytes_any {w : World} {base g : Nat} {v : Value} {l : List Nat} (h : OutAt w base g v l) (hl : l.length ≤ 1000000) :
  Calls Try.prog 31 #[ptr g] w fun e w' => ∃ a n c, e = .returned (.slice a n c) ∧ n = l.length ∧ OB w' w.heap.size (.slice a n c) l ∧ Ext w w' := by
 have H : Hid (OutAt w base g v l ∧ l.length ≤ 1000000) := ⟨h, hl⟩
 have hc : w.cell? ⟨g, 0, none⟩ = some v := h.blk.cell 0
 clear h hl
 go_enter Try.func31, Try.ntmps31
 go_wp2_with (first
  | (go_at_call 68; refine (copied_any H.out.1.own.bytes H.out.2).mono ?_; rintro e w1 ⟨a, n, c, rfl, hn, ho1, he1⟩; have HN : Hid (n = l.length) := hn; clear hn))
 go_ret
 exact ⟨_, _, _, rfl, HN.out, ho1, he1⟩
structure InAt (w : World) (base g : Nat) (bv : Value) (B : List Nat) (s : Option Nat) : Prop where
 own : OB w base bv B
 blk : ∃ (a : Nat) (b : Bool), Blk w g #[bv, .int .i64 (a : Int), .bool b] 126 ∧ a ≤ B.length ∧ s = (if b = true then none else some a)
theorem InAt.ext {w w' : World} {base g : Nat} {bv : Value} {B : List Nat} {s : Option Nat} (h : InAt w base g bv B s) (he : Ext w w') : InAt w' base g bv B s := by
 obtain ⟨h1, a, b, hb, h2⟩ := h
 exact ⟨h1.ext he, a, b, hb.ext he, h2⟩
theorem InAt.lt {w : World} {base g : Nat} {bv : Value} {B : List Nat} {s : Option Nat} (h : InAt w base g bv B s) : g < w.heap.size := by
 obtain ⟨_, a, b, hb, _⟩ := h
 exact hb.lt
theorem InAt.ne {w : World} {base g : Nat} {bv : Value} {B : List Nat} {s : Option Nat} (h : InAt w base g bv B s) : ∀ k, bv.ownBlock = some k → k ≠ g := by
 obtain ⟨h1, a, b, hb, _⟩ := h
 exact h1.ne hb (by decide)
theorem InAt.inB {w : World} {base g : Nat} {bv : Value} {B : List Nat} {s : Option Nat} (h : InAt w base g bv B s) : InB B s := by
 obtain ⟨_, a, b, _, ha, rfl⟩ := h
 intro x hx
 cases b <;> simp at hx
 omega
theorem InAt.but {S : Nat → Prop} {w w' : World} {base g : Nat} {bv : Value} {B : List Nat} {s : Option Nat} (h : InAt w base g bv B s) (hk : KeepBut S w w') (hg : ¬ S g) (hn : ∀ k, bv.ownBlock = some k → ¬ S k) : InAt w' base g bv B s := by
 obtain ⟨h1, a, b, hb, h2⟩ := h
 exact ⟨h1.but hk hn, a, b, hb.but hk hg, h2⟩
theorem InAt.set {w w' : World} {base g : Nat} {bv : Value} {B : List Nat} {s : Option Nat} (h : InAt w base g bv B s) (hk : KeepBut (· = g) w w') {a : Nat} {b : Bool} (hb : Blk w' g #[bv, .int .i64 (a : Int), .bool b] 126) (ha : a ≤ B.length) : InAt w' base g bv B (if b = true then none else some a) :=
 ⟨h.own.but hk h.ne, a, b, hb, ha, rfl⟩
theorem left_any {w : World} {base g : Nat} {bv : Value} {B : List Nat} {s : Option Nat} (h : InAt w base g bv B s) (hB : B.length ≤ 1000000) :
  Calls Try.prog 49 #[ptr g] w fun e w' => e = .returned (.int .i64 (leftS B s : Nat)) ∧ Ext w w' := by
 obtain ⟨ba, bc, rfl⟩ := h.own.form
 obtain ⟨_, a, b, HB, ha, rfl⟩ := h
 have c0 := HB.cell 0
 have c1 := HB.cell 1
 have c2 := HB.cell 2
 cases b with
 | true =>
  go_enter Try.func49, Try.ntmps49
  go_wp2
  go_ret
  exact ⟨rfl, Ext.refl _⟩
 | false =>
  have hsub : IntKind.i64.wrap ((B.length : Int) - (a : Int)) = ((B.length - a : Nat) : Int) := by rw [IntKind.wrap_i64]; omega
  go_enter Try.func49, Try.ntmps49
  go_wp2_with fail
  have HB0 : Blk w.drew g #[.slice ba B.length bc, .int .i64 (a : Int), .bool false] 126 := HB
  refine wp_region_facts (fun t => bif Nat.ble 11 t && Nat.ble t 20 then some (t - 11) else bif Nat.beq t 2 then some 10 else none) 21 Ext
   [Is (.pointer (some ⟨g, 0, none⟩)),
    Is (.pointer (some ⟨g, 0, none⟩)),
    Is (.pointer (some ⟨g, 0, none⟩)),
    Is (.slice ba B.length bc),
    Is (.int .i64 (B.length : Int)),
    Is (.pointer (some ⟨g, 0, none⟩)),
    Is (.pointer (some ⟨g, 0, none⟩)),
    Is (.pointer (some ⟨g, 1, none⟩)),
    Is (.int .i64 (a : Int)),
    Is (.int .i64 ((B.length - a : Nat) : Int)),
    Is (.int .i64 ((B.length - a : Nat) : Int))]
   rfl (by kernel_rfl) (by kernel_rfl) rfl Ext.refl (fun _ _ _ => Ext.trans) ?_ ?_ ?_
  ·
   exact Ks (Ks (Ks (Ks (Ks (Ks (Ks (Ks (Ks (Ks (Ks (KeepAll.nil)))))))))))
  ·
   refine Gc ?_ ?_
   ·
    rintro r wx hR ⟨h1, _⟩
    replace h1 : r (.tmp 0) = (.pointer (some ⟨g, 0, none⟩)) := h1
    exact give_move (.inl rfl) ⟨Ext.refl _, h1⟩
   refine Gc ?_ ?_
   ·
    rintro r wx hR ⟨h1, _⟩
    replace h1 : r (.tmp 11) = (.pointer (some ⟨g, 0, none⟩)) := h1
    exact gvo (by simp [execOp, h1, go_sem]) ⟨Ext.refl _, rfl⟩
   refine Gc ?_ ?_
   ·
    rintro r wx hR ⟨h1, _⟩
    replace h1 : r (.tmp 12) = (.pointer (some ⟨g, 0, none⟩)) := h1
    exact gvo (by simp [execOp, h1, go_sem]) ⟨Ext.refl _, rfl⟩
   refine Gc ?_ ?_
   ·
    rintro r wx hR ⟨h1, _⟩
    replace h1 : r (.tmp 13) = (.pointer (some ⟨g, 0, none⟩)) := h1
    exact gvo (exg oneS rfl h1 ((HB0.ext hR).cell 0)) ⟨Ext.refl _, rfl⟩
   refine Gc ?_ ?_
   ·
    rintro r wx hR ⟨h1, _⟩
    replace h1 : r (.tmp 14) = (.slice ba B.length bc) := h1
    exact gvo (by simp [execOp, h1, go_sem]) ⟨Ext.refl _, rfl⟩
   refine Gc ?_ ?_
   ·
    rintro r wx hR ⟨h1, _⟩
    replace h1 : r (.tmp 0) = (.pointer (some ⟨g, 0, none⟩)) := h1
    exact give_move (.inl rfl) ⟨Ext.refl _, h1⟩
   refine Gc ?_ ?_
   ·
    rintro r wx hR ⟨h1, _⟩
    replace h1 : r (.tmp 16) = (.pointer (some ⟨g, 0, none⟩)) := h1
    exact gvo (by simp [execOp, h1, go_sem]) ⟨Ext.refl _, rfl⟩
   refine Gc ?_ ?_
   ·
    rintro r wx hR ⟨h1, _⟩
    replace h1 : r (.tmp 17) = (.pointer (some ⟨g, 0, none⟩)) := h1
    exact gvo (by simp [execOp, h1, go_sem]) ⟨Ext.refl _, rfl⟩
   refine Gc ?_ ?_
   ·
    rintro r wx hR ⟨h1, _⟩
    replace h1 : r (.tmp 18) = (.pointer (some ⟨g, 1, none⟩)) := h1
    exact gvo (exg one3 rfl h1 ((HB0.ext hR).cell 1)) ⟨Ext.refl _, rfl⟩
   refine Gc ?_ ?_
   ·
    rintro r wx hR ⟨h1, h2, _⟩
    replace h1 : r (.tmp 15) = (.int .i64 (B.length : Int)) := h1
    replace h2 : r (.tmp 19) = (.int .i64 (a : Int)) := h2
    exact gvo (by simp [execOp, h1, h2, hsub, go_sem]) ⟨Ext.refl _, rfl⟩
   refine Gc ?_ ?_
   ·
    rintro r wx hR ⟨h1, _⟩
    replace h1 : r (.tmp 20) = (.int .i64 ((B.length - a : Nat) : Int)) := h1
    exact give_move (.inr rfl) ⟨Ext.refl _, h1⟩
   exact GoodAll.nil
  ·
   intro vs w1 a1 hR hold ha1
   have hv0 : vs 0 = (.pointer (some ⟨g, 0, none⟩)) := hold.at 0
   have hv1 : vs 1 = (.pointer (some ⟨g, 0, none⟩)) := hold.at 1
   have hv2 : vs 2 = (.pointer (some ⟨g, 0, none⟩)) := hold.at 2
   have hv3 : vs 3 = (.slice ba B.length bc) := hold.at 3
   have hv4 : vs 4 = (.int .i64 (B.length : Int)) := hold.at 4
   have hv5 : vs 5 = (.pointer (some ⟨g, 0, none⟩)) := hold.at 5
   have hv6 : vs 6 = (.pointer (some ⟨g, 0, none⟩)) := hold.at 6
   have hv7 : vs 7 = (.pointer (some ⟨g, 1, none⟩)) := hold.at 7
   have hv8 : vs 8 = (.int .i64 (a : Int)) := hold.at 8
   have hv9 : vs 9 = (.int .i64 ((B.length - a : Nat) : Int)) := hold.at 9
   have hv10 : vs 10 = (.int .i64 ((B.length - a : Nat) : Int)) := hold.at 10
   simp only [putAll, Act.put, hv0, hv1, hv2, hv3, hv4, hv5, hv6, hv7, hv8, hv9, hv10, List.setIfInBounds_toArray, List.set_cons_succ, List.set_cons_zero] at ha1
   subst ha1
   clear hold hv0 hv1 hv2 hv3 hv4 hv5 hv6 hv7 hv8 hv9 hv10
   go_wp2
   go_ret
   exact ⟨rfl, (Ext.drew _).trans hR⟩
theorem fail_any {w : World} {base g : Nat} {bv : Value} {B : List Nat} {s : Option Nat} (h : InAt w base g bv B s) :
  Calls Try.prog 76 #[ptr g] w fun e w' => (∃ y, e = .returned y) ∧ InAt w' base g bv B none ∧ KeepBut (· = g) w w' := by
 obtain ⟨_, a, b, HB, ha, _⟩ := id h
 have H : Hid (InAt w base g bv B s ∧ a ≤ B.length) := ⟨h, ha⟩
 clear h ha
 go_enter Try.func76, Try.ntmps76
 go_wp2_with (first
  | (refine wl_set (v := .bool true) rfl one4 rfl rfl rfl rfl rfl HB (by simp) ?_; intro w2 hb2 hk2 hx; clear hx))
 go_end0
 exact ⟨⟨_, rfl⟩, H.out.1.set (b := true) hk2 hb2 H.out.2, hk2⟩
def NextIs (w : World) (base g : Nat) (bv : Value) (B : List Nat) (r : Option Nat × List Nat) (e : Ending) (w' : World) : Prop :=
 ∃ a n c, e = .returned (.slice a n c) ∧ n = r.2.length ∧ BytesAt w' (.slice a n c) r.2 ∧ (∀ k, blockOf (.slice a n c) = some k → bv.ownBlock = some k) ∧ InAt w' base g bv B r.1 ∧ KeepBut (· = g) w w'
theorem next_none {w w' : World} {base g : Nat} {bv : Value} {B : List Nat} (h : InAt w' base g bv B none) (hk : KeepBut (· = g) w w') : NextIs w base g bv B (none, []) (.returned (.slice none 0 0)) w' :=
 ⟨none, 0, 0, rfl, rfl, BytesAt.none _, (fun k hk => by cases hk), h, hk⟩
theorem next_any {w : World} {base g : Nat} {bv : Value} {B : List Nat} {s : Option Nat} (h : InAt w base g bv B s) (hB : B.length ≤ 1000000) (n : Int) :
  Calls Try.prog 77 #[ptr g, .int .i64 n] w (NextIs w base g bv B (takeS B s n)) := by
 have H : Hid (InAt w base g bv B s ∧ B.length ≤ 1000000) := ⟨h, hB⟩
 by_cases h0 : n < 0
 ·
  have hd : decide (n < 0) = true := decide_eq_true h0
  have hT : takeS B s n = (none, []) := by
   cases s with
   | none => rfl
   | some a => exact takeS_no (by omega)
  rw [hT]
  clear h hB
  go_enter Try.func77, Try.ntmps77
  go_wp2_with (first
   | (go_at_call 76; refine (fail_any H.out.1).mono ?_; rintro e w2 ⟨⟨y, rfl⟩, hi2, hk2⟩; obtain ⟨_, a2, b2, hb2, ha2, hs2⟩ := id hi2; have c2 := hb2.cell 2; have hbt : b2 = true := (by cases b2 with | true => rfl | false => cases hs2); subst hbt; clear hs2 ha2))
  go_ret
  exact next_none hi2 hk2
 ·
  have hd : decide (n < 0) = false := decide_eq_false h0
  by_cases h1 : (leftS B s : Int) < n
  ·
   have hd1 : decide (n > (leftS B s : Int)) = true := decide_eq_true h1
   have hT : takeS B s n = (none, []) := by
    cases s with
    | none => rfl
    | some a =>
     have := h.inB a rfl
     unfold leftS at h1
     exact takeS_no (by simp only at h1; omega)
   rw [hT]
   clear h hB
   obtain ⟨L, hL⟩ : ∃ L, leftS B s = L := ⟨_, rfl⟩
   rw [hL] at hd1 h1
   go_enter Try.func77, Try.ntmps77
   go_wp2_with (first
    | (go_at_call 49; refine (left_any H.out.1 H.out.2).mono ?_; rintro e w1 ⟨rfl, he1⟩; rw [hL])
    | (go_at_call 76; refine (fail_any (H.out.1.ext he1)).mono ?_; rintro e w2 ⟨⟨y, rfl⟩, hi2, hk2⟩; obtain ⟨_, a2, b2, hb2, ha2, hs2⟩ := id hi2; have c2 := hb2.cell 2; have hbt : b2 = true := (by cases b2 with | true => rfl | false => cases hs2); subst hbt; clear hs2 ha2))
   go_ret
   exact next_none hi2 ((KeepBut.ext he1).trans hk2)
  ·
   have hd1 : decide (n > (leftS B s : Int)) = false := decide_eq_false h1
   obtain ⟨ba, bc, rfl⟩ := h.own.form
   obtain ⟨_, a, b, HB, ha, hs⟩ := id h
   cases b with
   | true =>
    have hs' : s = none := hs
    subst hs'
    clear h hB hs
    obtain ⟨L, hL⟩ : ∃ L, leftS B none = L := ⟨_, rfl⟩
    rw [hL] at hd1 h1
    go_enter Try.func77, Try.ntmps77
    go_wp2_with (first
     | (go_at_call 49; refine (left_any H.out.1 H.out.2).mono ?_; rintro e w1 ⟨rfl, he1⟩; rw [hL]; have c2 := (HB.ext he1).cell 2))
    go_ret
    exact next_none (H.out.1.ext he1) (KeepBut.ext he1)
   | false =>
    have hs' : s = some a := hs
    subst hs'
    have hn2 : n ≤ (B.length : Int) - (a : Int) := by
     unfold leftS at h1; simp only at h1; omega
    obtain ⟨m, rfl⟩ : ∃ m : Nat, n = (m : Int) := ⟨n.toNat, by omega⟩
    rw [takeS_yes (by omega) hn2, Int.toNat_natCast]
    obtain ⟨a2, ha2⟩ : ∃ a2, a2 = a + m := ⟨_, rfl⟩
    have HA : Hid (a2 = a + m ∧ a2 ≤ B.length ∧ B.length ≤ bc ∧ bc ≤ maxLen) := ⟨ha2, by omega, by
     obtain ⟨x, y, e, hx⟩ := h.own.bytes.form
     cases e
     exact hx.1⟩
    have hadd : IntKind.i64.wrap ((a : Int) + (m : Int)) = (a2 : Int) := by rw [IntKind.wrap_i64]; omega
    have hadd3 : wrap64 (a2 : Int) = (a2 : Int) := by unfold wrap64; omega
    have hadd2 : (a : Int) + (m : Int) = (a2 : Int) := by omega
    rw [← ha2]
    clear h hs ha2 hB
    obtain ⟨L, hL⟩ : ∃ L, leftS B (some a) = L := ⟨_, rfl⟩
    rw [hL] at hd1 h1
    go_enter Try.func77, Try.ntmps77
    go_wp2_with (first
     | (go_at_call 49; refine (left_any H.out.1 H.out.2).mono ?_; rintro e w1 ⟨rfl, he1⟩; rw [hL]; have c1 := (HB.ext he1).cell 1; have c2 := (HB.ext he1).cell 2)
     | (refine wl_set (v := .int .i64 (a2 : Int)) rfl one3 rfl rfl (by first | rfl | go_simp | simp [go_sem, hadd, hadd2, hadd3]) rfl rfl (HB.ext he1) (by simp) ?_; intro w2 hb2 hk2 hx; clear hx))
    have HB7 : Blk w2.drew g #[.slice ba B.length bc, .int .i64 (a2 : Int), .bool false] 126 := hb2
    have ha12 : a ≤ a2 := by have := HA.out; omega
    have ha2c : a2 ≤ bc := by have := HA.out; omega
    clear c1 c2
    refine wp_region_facts (fun t => bif Nat.ble 36 t && Nat.ble t 45 then some (t - 36) else bif Nat.beq t 4 then some 10 else none) 46 Ext
     [Is (.pointer (some ⟨g, 0, none⟩)),
      Is (.pointer (some ⟨g, 0, none⟩)),
      Is (.pointer (some ⟨g, 0, none⟩)),
      Is (.slice ba B.length bc),
      Is (.int .i64 (a : Int)),
      Is (.pointer (some ⟨g, 0, none⟩)),
      Is (.pointer (some ⟨g, 0, none⟩)),
      Is (.pointer (some ⟨g, 1, none⟩)),
      Is (.int .i64 (a2 : Int)),
      Is (sliced ba a a2 bc 1),
      Is (sliced ba a a2 bc 1)]
     rfl (by kernel_rfl) (by kernel_rfl) rfl Ext.refl (fun _ _ _ => Ext.trans) ?_ ?_ ?_
    ·
     exact Ks (Ks (Ks (Ks (Ks (Ks (Ks (Ks (Ks (Ks (Ks (KeepAll.nil)))))))))))
    ·
     refine Gc ?_ ?_
     ·
      rintro r wx hR ⟨h1, _⟩
      replace h1 : r (.tmp 0) = (.pointer (some ⟨g, 0, none⟩)) := h1
      exact give_move (.inl rfl) ⟨Ext.refl _, h1⟩
     refine Gc ?_ ?_
     ·
      rintro r wx hR ⟨h1, _⟩
      replace h1 : r (.tmp 36) = (.pointer (some ⟨g, 0, none⟩)) := h1
      exact gvo (by simp [execOp, h1, go_sem]) ⟨Ext.refl _, rfl⟩
     refine Gc ?_ ?_
     ·
      rintro r wx hR ⟨h1, _⟩
      replace h1 : r (.tmp 37) = (.pointer (some ⟨g, 0, none⟩)) := h1
      exact gvo (by simp [execOp, h1, go_sem]) ⟨Ext.refl _, rfl⟩
     refine Gc ?_ ?_
     ·
      rintro r wx hR ⟨h1, _⟩
      replace h1 : r (.tmp 38) = (.pointer (some ⟨g, 0, none⟩)) := h1
      exact gvo (exg oneS rfl h1 ((HB7.ext hR).cell 0)) ⟨Ext.refl _, rfl⟩
     refine Gc ?_ ?_
     ·
      rintro r wx hR ⟨h1, _⟩
      replace h1 : r (.tmp 5) = (.int .i64 (a : Int)) := h1
      exact give_move (.inl rfl) ⟨Ext.refl _, h1⟩
     refine Gc ?_ ?_
     ·
      rintro r wx hR ⟨h1, _⟩
      replace h1 : r (.tmp 0) = (.pointer (some ⟨g, 0, none⟩)) := h1
      exact give_move (.inl rfl) ⟨Ext.refl _, h1⟩
     refine Gc ?_ ?_
     ·
      rintro r wx hR ⟨h1, _⟩
      replace h1 : r (.tmp 41) = (.pointer (some ⟨g, 0, none⟩)) := h1
      exact gvo (by simp [execOp, h1, go_sem]) ⟨Ext.refl _, rfl⟩
     refine Gc ?_ ?_
     ·
      rintro r wx hR ⟨h1, _⟩
      replace h1 : r (.tmp 42) = (.pointer (some ⟨g, 0, none⟩)) := h1
      exact gvo (by simp [execOp, h1, go_sem]) ⟨Ext.refl _, rfl⟩
     refine Gc ?_ ?_
     ·
      rintro r wx hR ⟨h1, _⟩
      replace h1 : r (.tmp 43) = (.pointer (some ⟨g, 1, none⟩)) := h1
      exact gvo (exg one3 rfl h1 ((HB7.ext hR).cell 1)) ⟨Ext.refl _, rfl⟩
     refine Gc ?_ ?_
     ·
      rintro r wx hR ⟨h1, h2, h3, _⟩
      replace h1 : r (.tmp 39) = (.slice ba B.length bc) := h1
      replace h2 : r (.tmp 40) = (.int .i64 (a : Int)) := h2
      replace h3 : r (.tmp 44) = (.int .i64 (a2 : Int)) := h3
      exact gvo (exec_slice_lh byteT rfl _ ba B.length bc a a2 .i64 .i64 h1 h2 h3 ha12 ha2c) ⟨Ext.refl _, rfl⟩
     refine Gc ?_ ?_
     ·
      rintro r wx hR ⟨h1, _⟩
      replace h1 : r (.tmp 45) = (sliced ba a a2 bc 1) := h1
      exact give_move (.inr rfl) ⟨Ext.refl _, h1⟩
     exact GoodAll.nil
    ·
     intro vs w3 a3 hR hold ha3
     have hv0 : vs 0 = (.pointer (some ⟨g, 0, none⟩)) := hold.at 0
     have hv1 : vs 1 = (.pointer (some ⟨g, 0, none⟩)) := hold.at 1
     have hv2 : vs 2 = (.pointer (some ⟨g, 0, none⟩)) := hold.at 2
     have hv3 : vs 3 = (.slice ba B.length bc) := hold.at 3
     have hv4 : vs 4 = (.int .i64 (a : Int)) := hold.at 4
     have hv5 : vs 5 = (.pointer (some ⟨g, 0, none⟩)) := hold.at 5
     have hv6 : vs 6 = (.pointer (some ⟨g, 0, none⟩)) := hold.at 6
     have hv7 : vs 7 = (.pointer (some ⟨g, 1, none⟩)) := hold.at 7
     have hv8 : vs 8 = (.int .i64 (a2 : Int)) := hold.at 8
     have hv9 : vs 9 = (sliced ba a a2 bc 1) := hold.at 9
     have hv10 : vs 10 = (sliced ba a a2 bc 1) := hold.at 10
     simp only [putAll, Act.put, hv0, hv1, hv2, hv3, hv4, hv5, hv6, hv7, hv8, hv9, hv10, List.setIfInBounds_toArray, List.set_cons_succ, List.set_cons_zero] at ha3
     subst ha3
     clear hold hv0 hv1 hv2 hv3 hv4 hv5 hv6 hv7 hv8 hv9 hv10
     obtain ⟨sa, hsf, hsb⟩ := sliced_form ba a a2 bc
     rw [hsf]
     have HE : Hid (Ext w2 w3) := (Ext.drew _).trans hR
     have HN : Hid (NextIs w base g (.slice ba B.length bc) B (some a2, (B.drop a).take m) (.returned (.slice sa (a2 - a) (bc - a))) w3) := by
      have hi2 := (H.out.1.ext he1).set (b := false) hk2 hb2 HA.out.2.1
      refine ⟨_, _, _, rfl, ?_, ?_, fun k hk => ?_, hi2.ext HE.out, ((KeepBut.ext he1).trans hk2).trans (KeepBut.ext HE.out)⟩
      ·
       have := HA.out; rw [List.length_take, List.length_drop]; omega
      ·
       have := hi2.own.bytes.sliced a a2 ha12 HA.out.2.1
       rw [hsf, List.drop_take, show a2 - a = m by have := HA.out; omega] at this
       have := this.ext HE.out
       rwa [show a2 - a = m by have := HA.out; omega]
      ·
       rw [← blockOf_own]; exact hsb k hk _ _
     clear hsb hsf
     generalize a2 - a = x at *
     generalize bc - a = y at *
     go_wp2
     go_ret
     exact HN.out
theorem bytes_but {S : Nat → Prop} {w w' : World} {v : Value} {l : List Nat} (h : BytesAt w v l) (hk : KeepBut S w w') (hn : ∀ k, blockOf v = some k → ¬ S k) : BytesAt w' v l :=
 bytes_of_nums ((nums_of_bytes h).via fun b hb hlt => hk.block b hlt (hn b hb)) h.1
theorem takeS_8 {B : List Nat} {s : Option Nat} {n : Int} (h : n ≤ 8) : (takeS B s n).2.length ≤ 8 := by
 unfold takeS
 cases s with
 | none => simp
 | some a =>
  simp only
  split
  ·
   rw [List.length_take]; omega
  ·
   simp
theorem or_byte (x b : Nat) (hx : x * 256 < 18446744073709551616) (hb : b < 256) : bits .or .u64 ((x * 256 : Nat) : Int) (b : Int) = ((256 * x + b : Nat) : Int) := by
 rw [u64_or_nat _ _ hx (by omega)]
 congr 1
 have := Nat.two_pow_add_eq_or_of_lt (i := 8) (by simpa using hb) x
 rw [show (2 : Nat) ^ 8 = 256 from rfl] at this
 rw [Nat.mul_comm x 256, ← this]
theorem val_take {l : List Nat} (h : AllB l) (hl : l.length ≤ 8) {k : Nat} (hk : k < l.length) : val (l.take k) * 256 < 18446744073709551616 := by
 have := val_lt (h.take k) 7 (by rw [List.length_take]; omega)
 simp at this
 omega
theorem inNum_any {w : World} {base g : Nat} {bv : Value} {B : List Nat} {s : Option Nat} (h : InAt w base g bv B s) (hB : B.length ≤ 1000000) (n : Int) :
  Calls Try.prog 40 #[ptr g, .int .i64 n] w fun e w' => e = .returned (.int .u64 ((numS B s n).2 : Nat)) ∧ InAt w' base g bv B (numS B s n).1 ∧ KeepBut (· = g) w w' := by
 have H : Hid (InAt w base g bv B s ∧ B.length ≤ 1000000) := ⟨h, hB⟩
 cases hs : isSz n with
 | false =>
  have e : numS B s n = (none, 0) := by unfold numS; rw [hs]; rfl
  rw [e]
  clear h hB e
  go_enter Try.func40, Try.ntmps40
  go_wp2_with (first
   | (go_at_call 66; refine (isSize_any _ _).mono ?_; rintro e w1 ⟨rfl, hw⟩; subst w1; rw [hs])
   | (go_at_call 76; refine (fail_any H.out.1).mono ?_; rintro e w2 ⟨⟨y, rfl⟩, hi2, hk2⟩))
  go_ret
  exact ⟨rfl, hi2, hk2⟩
 | true =>
  have e : numS B s n = ((takeS B s n).1, val (takeS B s n).2) := by unfold numS; rw [hs]; rfl
  rw [e]
  have HA : Hid (AllB (takeS B s n).2 ∧ (takeS B s n).2.length ≤ 8) := ⟨takeS_all h.own.all s n, takeS_8 (by rcases (isSz_iff n).1 hs with e | e | e | e <;> omega)⟩
  have HX : Hid (Calls Try.prog 77 #[ptr g, .int .i64 n] w (NextIs w base g bv B (takeS B s n))) := next_any h hB n
  clear h hB e H
  generalize takeS B s n = r at *
  go_enter Try.func40, Try.ntmps40
  go_wp2_with (first
   | (go_at_call 66; refine (isSize_any _ _).mono ?_; rintro e w1 ⟨rfl, hw⟩; subst w1; rw [hs])
   | (go_at_call 77; refine HX.out.mono ?_; rintro e w2 ⟨sa, sn, sc, rfl, hsn, hb2, hbl2, hi2, hk2⟩; have HN : Hid (sn = r.2.length) := hsn; clear hsn hbl2))
  obtain ⟨_, _, e3, _, hcell⟩ := hb2.form
  have HL : Hid (∀ j, j < sn → ∃ b off, sa = some ⟨b, off, none⟩ ∧ w2.cell? ⟨b, off + j, none⟩ = some (.int .u8 (r.2.getD j 0 : Nat))) := fun j hj => by
   cases e3
   exact hcell j (by rw [← HN.out]; exact hj)
  have hsn8 : sn ≤ 8 := by rw [HN.out]; exact HA.out.2
  have HI : Hid (InAt w2 base g bv B r.1 ∧ KeepBut (· = g) w w2) := ⟨hi2, hk2⟩
  clear e3 hcell hb2 hi2 hk2
  go_loopg [5, 17] sn (fun gm x t wr => ∃ k : Nat, k ≤ sn ∧ gm = sn - k ∧ x = .int .u64 (val (r.2.take k) : Nat) ∧ t = .int .i64 (k : Int) ∧ wr = w2)
  case atStart => exact ⟨0, Nat.zero_le _, rfl, rfl, rfl, rfl⟩
  case round =>
   obtain ⟨k, hk, rfl, rfl, rfl, hw⟩ := hrel
   subst wr
   by_cases hlt : k < sn
   ·
    have hd : decide ((k : Int) < (sn : Int)) = true := decide_eq_true (by omega)
    obtain ⟨b, off, rfl, hc⟩ := HL.out k hlt
    have hkr : k < r.2.length := by rw [← HN.out]; exact hlt
    have HV : Hid (val (r.2.take (k + 1)) = 256 * val (r.2.take k) + r.2.getD k 0) := show _ = _ by rw [take_next r.2 0 k hkr, val_snoc]
    have hk8 : k < 8 := by omega
    have hx := val_take HA.out.1 HA.out.2 hkr
    have hb8 := HA.out.1.getD k
    generalize r.2.getD k 0 = b8 at *
    generalize val (r.2.take k) = x at *
    obtain ⟨q, hq⟩ : ∃ q, q = 256 * x + b8 := ⟨_, rfl⟩
    obtain ⟨p, hp⟩ : ∃ p, p = x * 256 := ⟨_, rfl⟩
    have ho : bits .or .u64 (p : Int) (b8 : Int) = (q : Int) := by rw [hp, hq]; exact or_byte x b8 hx hb8
    have hw1 : IntKind.u64.wrap (p : Int) = (p : Int) := by rw [IntKind.wrap_u64]; omega
    have hw2 : (p : Int) % 18446744073709551616 = (p : Int) := by omega
    have hw3 : (x : Int) * 256 = (p : Int) := by omega
    rw [← hq] at HV
    clear hp hq hx
    clear hkr
    go_wp2
    go_roundg (sn - (k + 1))
    case measure => omega
    case rel => exact ⟨k + 1, by omega, rfl, by rw [HV.out], by simp, rfl⟩
   ·
    have hd : decide ((k : Int) < (sn : Int)) = false := decide_eq_false (by omega)
    obtain rfl : k = sn := by omega
    have HT : Hid (r.2.take k = r.2) := List.take_of_length_le (by rw [HN.out]; exact Nat.le_refl _)
    go_wp2
    go_ret
    exact ⟨by rw [HT.out]; rfl, HI.out.1, HI.out.2⟩
theorem inTake_any {w : World} {base g : Nat} {bv : Value} {B : List Nat} {s : Option Nat} (h : InAt w base g bv B s) (hB : B.length ≤ 1000000) (n : Int) :
  Calls Try.prog 41 #[ptr g, .int .i64 n] w fun e w' => ∃ a m c, e = .returned (.slice a m c) ∧ m = (takeS B s n).2.length ∧ OB w' w.heap.size (.slice a m c) (takeS B s n).2 ∧ InAt w' base g bv B (takeS B s n).1 ∧ KeepBut (· = g) w w' := by
 have H : Hid (InAt w base g bv B s ∧ B.length ≤ 1000000) := ⟨h, hB⟩
 have HL : Hid ((takeS B s n).2.length ≤ B.length) := takeS_len B s n
 have HX : Hid (Calls Try.prog 77 #[ptr g, .int .i64 n] w (NextIs w base g bv B (takeS B s n))) := next_any h hB n
 clear h hB
 generalize takeS B s n = r at *
 go_enter Try.func41, Try.ntmps41
 go_wp2_with (first
  | (go_at_call 77; refine HX.out.mono ?_; rintro e w2 ⟨sa, sn, sc, rfl, hsn, hb2, hbl2, hi2, hk2⟩; have HN : Hid (sn = r.2.length) := hsn; clear hsn hbl2)
  | (go_at_call 68; refine (copied_any hb2 (Nat.le_trans HL.out H.out.2)).mono ?_; rintro e w3 ⟨a, m, c, rfl, hm, ho3, he3⟩; have HM : Hid (m = r.2.length) := hm; clear hm))
 go_ret
 exact ⟨_, _, _, rfl, HM.out, ho3.base hk2.size, hi2.ext he3, hk2.trans (KeepBut.ext he3)⟩
def zst (r : Option Nat × List Nat) (k : Nat) : Option Nat := if allZ (r.2.take k) = true then r.1 else none
theorem zst_bad {r : Option Nat × List Nat} {k : Nat} (hk : k < r.2.length) (h : r.2.getD k 0 ≠ 0) : zst r (k + 1) = none := by
 unfold zst; rw [take_next r.2 0 k hk, allZ_snoc, beq_false_of_ne h]; simp
theorem zst_ok {r : Option Nat × List Nat} {k : Nat} (hk : k < r.2.length) (h : r.2.getD k 0 = 0) : zst r (k + 1) = zst r k := by
 unfold zst; rw [take_next r.2 0 k hk, allZ_snoc, h]; simp
theorem zst_end {r : Option Nat × List Nat} {k : Nat} (hk : r.2.length ≤ k) : zst r k = if allZ r.2 = true then r.1 else none := by
 unfold zst; rw [List.take_of_length_le hk]
theorem takeS_n {B : List Nat} {s : Option Nat} {n : Nat} : (takeS B s (n : Int)).2.length ≤ n := by
 unfold takeS
 cases s with
 | none => simp
 | some a =>
  simp only
  split
  ·
   rw [List.length_take]; omega
  ·
   simp
theorem inPad_any {w : World} {base g : Nat} {bv : Value} {B : List Nat} {s : Option Nat} (h : InAt w base g bv B s) (hB : B.length ≤ 1000000) :
  Calls Try.prog 48 #[ptr g] w fun e w' => (∃ y, e = .returned y) ∧ InAt w' base g bv B (padS B s) ∧ KeepBut (· = g) w w' := by
 obtain ⟨_, a, b, HB, ha, hs⟩ := id h
 have c1 := HB.cell 1
 have HP : Hid (a ≤ 1000000) := Nat.le_trans ha hB
 have HX : Hid (Calls Try.prog 77 #[ptr g, .int .i64 ((pads a : Nat) : Int)] w (NextIs w base g bv B (takeS B s (pads a : Nat)))) := next_any h hB _
 have HE : Hid ((if allZ (takeS B s (pads a : Nat)).2 = true then (takeS B s (pads a : Nat)).1 else none) = padS B s) := by
  cases b with
  | true => have hs' : s = none := hs; subst hs'; exact (rfl : (none : Option Nat) = none)
  | false => have hs' : s = some a := hs; subst hs'; exact (padS_some B a).symm
 have HL : Hid ((takeS B s (pads a : Nat)).2.length ≤ 3) := Nat.le_trans takeS_n (by have := pads_lt a; omega)
 have HNE : Hid (∀ k, bv.ownBlock = some k → k ≠ g) := h.ne
 clear h hB HB ha hs
 generalize takeS B s (pads a : Nat) = r at *
 go_enter Try.func48, Try.ntmps48
 go_wp2_with (first
  | (go_at_call 67; refine (padding_any a HP.out _).mono ?_; rintro e w1 ⟨rfl, hw⟩; subst w1)
  | (go_at_call 77; refine HX.out.mono ?_; rintro e w2 ⟨sa, sn, sc, rfl, hsn, hb2, hbl2, hi2, hk2⟩; have HN : Hid (sn = r.2.length) := hsn; clear hsn))
 have hsn3 : sn ≤ 3 := by rw [HN.out]; exact HL.out
 have HI : Hid (InAt w2 base g bv B r.1 ∧ KeepBut (· = g) w w2 ∧ BytesAt w2 (.slice sa sn sc) r.2 ∧ ∀ k, blockOf (.slice sa sn sc) = some k → k ≠ g) := ⟨hi2, hk2, hb2, fun k hk => HNE.out k (hbl2 k hk)⟩
 clear hb2 hi2 hk2 hbl2 c1
 go_loopg [14] sn (fun gm t wr => ∃ k : Nat, k ≤ sn ∧ gm = sn - k ∧ t = .int .i64 (k : Int) ∧ Hid (InAt wr base g bv B (zst r k) ∧ KeepBut (· = g) w wr ∧ BytesAt wr (.slice sa sn sc) r.2))
 case atStart => exact ⟨0, Nat.zero_le _, rfl, rfl, HI.out.1, HI.out.2.1, HI.out.2.2.1⟩
 case round =>
  obtain ⟨k, hk, rfl, rfl, HR⟩ := hrel
  by_cases hlt : k < sn
  ·
   have hd : decide ((k : Int) < (sn : Int)) = true := decide_eq_true (by omega)
   have hkr : k < r.2.length := by rw [← HN.out]; exact hlt
   obtain ⟨x, y, e3, _, hcell⟩ := HR.out.2.2.form
   obtain ⟨bb, off, rfl, hc⟩ := hcell k hkr
   have e4 : sa = some ⟨bb, off, none⟩ := by simp only [Value.slice.injEq] at e3; exact e3.1
   subst e4
   clear e3 hcell
   have hk3 : k < 3 := by omega
   by_cases hz : r.2.getD k 0 = 0
   ·
    rw [hz] at hc
    have HZ : Hid (zst r (k + 1) = zst r k) := zst_ok hkr hz
    clear hkr hz
    have hc' : wr.cell? ⟨bb, off + k, none⟩ = some (.int .u8 0) := hc
    clear hc
    go_wp2
    go_roundg (sn - (k + 1))
    case measure => omega
    case rel => exact ⟨k + 1, by omega, rfl, by simp, by rw [HZ.out]; exact HR.out.1, HR.out.2.1, HR.out.2.2⟩
   ·
    have HZ : Hid (zst r (k + 1) = none) := zst_bad hkr hz
    generalize r.2.getD k 0 = z at *
    have hd2 : decide ((z : Int) = 0) = false := decide_eq_false (by omega)
    have hd3 : ((z : Int) == 0) = false := by simpa using hz
    clear hkr
    go_wp2_with (first
     | (go_at_call 76; refine (fail_any HR.out.1).mono ?_; rintro e w4 ⟨⟨y4, rfl⟩, hi4, hk4⟩))
    go_roundg (sn - (k + 1))
    case measure => omega
    case rel => exact ⟨k + 1, by omega, rfl, by simp, by rw [HZ.out]; exact hi4, HR.out.2.1.trans hk4, bytes_but HR.out.2.2 hk4 HI.out.2.2.2⟩
  ·
   have hd : decide ((k : Int) < (sn : Int)) = false := decide_eq_false (by omega)
   have HZ : Hid (zst r k = padS B s) := (zst_end (by rw [← HN.out]; omega)).trans HE.out
   go_wp2
   go_end0
   exact ⟨⟨_, rfl⟩, by rw [← HZ.out]; exact HR.out.1, HR.out.2.1⟩
abbrev errF : Value := .iface 49 (.int .i64 2)
def endV (b : Bool) : Value := if b = true then .nilIface else errF
theorem end_any {w : World} {base g : Nat} {bv : Value} {B : List Nat} {s : Option Nat} (h : InAt w base g bv B s) (hB : B.length ≤ 1000000) :
  Calls Try.prog 50 #[ptr g] w fun e w' => e = .returned (endV (endS B s)) ∧ Ext w w' := by
 obtain ⟨_, a, b, HB, ha, hs⟩ := id h
 have HX : Hid (Calls Try.prog 49 #[ptr g] w fun e w' => e = .returned (.int .i64 (leftS B s : Nat)) ∧ Ext w w') := left_any h hB
 have c2 := HB.cell 2
 cases b with
 | true =>
  have hs' : s = none := hs
  subst hs'
  clear h hB ha hs
  go_enter Try.func50, Try.ntmps50
  go_wp2
  go_ret
  exact ⟨rfl, Ext.refl _⟩
 | false =>
  have hs' : s = some a := hs
  have he : endS B s = (leftS B s == 0) := by rw [hs']; rfl
  rw [he]
  clear h hB HB ha hs hs' he
  generalize leftS B s = L at *
  by_cases hL : L = 0
  ·
   subst hL
   go_enter Try.func50, Try.ntmps50
   go_wp2_with (first
    | (go_at_call 49; refine HX.out.mono ?_; rintro e w1 ⟨rfl, he1⟩))
   go_ret
   exact ⟨rfl, he1⟩
  ·
   have hd : decide ((L : Int) > 0) = true := decide_eq_true (by omega)
   have HL : Hid ((L == 0) = false) := beq_false_of_ne hL
   go_enter Try.func50, Try.ntmps50
   go_wp2_with (first
    | (go_at_call 49; refine HX.out.mono ?_; rintro e w1 ⟨rfl, he1⟩))
   go_ret
   exact ⟨by rw [HL.out]; rfl, he1⟩
theorem assertF (W : World) : (Instr.typeAssert errF 41 49 true).run Try.prog W = .ok (.tuple #[.int .i64 2, .bool true]) W := by kernel_rfl
theorem errNum_f (w : World) : Calls Try.prog 21 #[errF] w fun e w' => e = .returned (.int .i64 2) ∧ w' = w := by
 have ha := assertF w
 go_enter Try.func21, Try.ntmps21
 go_wp2
 go_ret
 exact ⟨rfl, rfl⟩
theorem isF (w : World) : Calls Try.prog 15 #[errF, .int .i64 2] w fun e w' => e = .returned (.bool true) ∧ w' = w := by
 go_enter Try.func15, Try.ntmps15
 go_wp2_with (first
  | (go_at_call 21; refine (errNum_f _).mono ?_; rintro e w1 ⟨rfl, hw⟩; subst w1))
 go_ret
 exact ⟨rfl, rfl⟩
theorem read_any {w : World} {v : Value} {B : List Nat} (hv : BytesAt w v B) (hB : B.length ≤ 1000000) :
  Calls Try.prog 39 #[v] w fun e w' => ∃ g bv, e = .returned (ptr g) ∧ w.heap.size ≤ g ∧ InAt w' w.heap.size g bv B (some 0) ∧ Ext w w' := by
 have H : Hid (BytesAt w v B ∧ B.length ≤ 1000000) := ⟨hv, hB⟩
 clear hv hB
 go_enter Try.func39, Try.ntmps39
 go_wp2_with (first
  | (go_at_call 68; refine (copied_any H.out.1 H.out.2).mono ?_; rintro e w1 ⟨a, n, c, rfl, hn, ho1, he1⟩; have HN : Hid (n = B.length) := hn; clear hn)
  | (refine wl_box (C := #[.slice a n c, .int .i64 0, .bool false]) rfl rfl rfl ?_; intro w2 hb2 he2 hx; clear hx))
 go_ret
 exact ⟨_, _, rfl, he1.size, ⟨ho1.ext he2, 0, false, hb2, Nat.zero_le _, rfl⟩, he1.trans he2⟩
theorem rowP : RowT Try.prog 138 2 := ⟨⟨_, Try.underlying138, rfl⟩, by kernel_rfl⟩
theorem zeroP : (Try.prog.info? 138).bind (·.zero) = some (.agg #[.int .i64 0, .slice none 0 0]) := by kernel_rfl
theorem one_par (k : Int) (u : Value) (hu : u.oneCell' = true) : ∀ v ∈ (#[Value.int .i64 k, u] : Array Value).toList, v.oneCell' = true := by
 intro v hv
 simp at hv
 rcases hv with rfl | rfl
 ·
  rfl
 ·
  exact hu
theorem numS2_lt {B : List Nat} (h : AllB B) (s : Option Nat) : (numS B s 2).2 < 65536 := by
 cases s with
 | none => rw [numS_none]; decide
 | some a =>
  by_cases ha : a + 2 ≤ B.length
  ·
   rw [numS2_yes ha]
   have := h.getD a
   have := h.getD (a + 1)
   simp only; omega
  ·
   rw [numS2_no (by omega)]; decide
theorem param_any {w : World} {base g : Nat} {bv : Value} {B : List Nat} {s : Option Nat} (h : InAt w base g bv B s) (hB : B.length ≤ 1000000) :
  Calls Try.prog 102 #[ptr g] w fun e w' => ∃ u, e = .returned (.agg #[.int .i64 (paramS B s).2.1, u]) ∧ OB w' w.heap.size u (paramS B s).2.2 ∧ InAt w' base g bv B (paramS B s).1 ∧ KeepBut (· = g) w w' := by
 obtain ⟨r1, hr1⟩ : ∃ r, r = numS B s 2 := ⟨_, rfl⟩
 obtain ⟨r2, hr2⟩ : ∃ r, r = numS B r1.1 2 := ⟨_, rfl⟩
 obtain ⟨s3, hs3⟩ : ∃ x, x = (if (4000 : Int) < (r2.2 : Int) - 4 then none else r2.1) := ⟨_, rfl⟩
 obtain ⟨r4, hr4⟩ : ∃ r, r = takeS B s3 ((r2.2 : Int) - 4) := ⟨_, rfl⟩
 have HE : Hid (paramS B s = (padS B r4.1, ((r1.2 : Int), r4.2))) := by
  show _ = _
  unfold paramS
  rw [hr4, hs3, hr2, hr1]
 rw [HE.out]
 have l1 : r1.2 < 65536 := by rw [hr1]; exact numS2_lt h.own.all s
 have l2 : r2.2 < 65536 := by rw [hr2]; exact numS2_lt h.own.all _
 have HH : Hid (InAt w base g bv B s ∧ B.length ≤ 1000000 ∧ g < w.heap.size) := ⟨h, hB, h.lt⟩
 have H1 : Hid (r1 = numS B s 2) := hr1
 have H2 : Hid (r2 = numS B r1.1 2) := hr2
 have H3 : Hid (s3 = (if (4000 : Int) < (r2.2 : Int) - 4 then none else r2.1)) := hs3
 have H4 : Hid (r4 = takeS B s3 ((r2.2 : Int) - 4)) := hr4
 clear h hB hr1 hr2 hs3 hr4
 have w1x : IntKind.i64.wrap (r1.2 : Int) = (r1.2 : Int) := by rw [IntKind.wrap_i64]; omega
 have w2x : IntKind.i64.wrap (r2.2 : Int) = (r2.2 : Int) := by rw [IntKind.wrap_i64]; omega
 have w3x : IntKind.i64.wrap ((r2.2 : Int) - 4) = (r2.2 : Int) - 4 := by rw [IntKind.wrap_i64]; omega
 obtain ⟨x1, hx1⟩ : ∃ x, x = r1.2 := ⟨_, rfl⟩
 obtain ⟨x2, hx2⟩ : ∃ x, x = r2.2 := ⟨_, rfl⟩
 have HX : Hid (x1 = r1.2 ∧ x2 = r2.2) := ⟨hx1, hx2⟩
 rw [← hx1] at l1 w1x
 rw [← hx2] at l2 w2x w3x H3 H4
 clear hx1 hx2
 obtain ⟨d, hd⟩ : ∃ d : Int, d = (x2 : Int) - 4 := ⟨_, rfl⟩
 have HD : Hid (d = (x2 : Int) - 4) := hd
 have hd2 : (x2 : Int) - 4 = d := hd.symm
 rw [hd2] at w3x H3 H4
 have w4x : wrap64 d = d := by unfold wrap64; omega
 clear hd
 by_cases hbig : 4000 < d
 ·
  have hdb : decide (d > 4000) = true := decide_eq_true hbig
  have HS3 : Hid (s3 = none) := show _ = _ by rw [H3.out, if_pos hbig]
  clear hbig
  go_enter Try.func102, Try.ntmps102
  go_wp2_with (first
   | (refine wl_alloc rfl rfl zeroP ?_; intro w1 hb1 he1 hx; clear hx; have HP : Hid (Blk w1 w.heap.size #[.int .i64 0, .slice none 0 0] 138 ∧ Ext w w1) := ⟨hb1, he1⟩; clear hb1 he1)
   | (go_at_call 40; have q := hk2; clear q; refine (inNum_any hi2 HH.out.2.1 2).mono ?_; rintro e w3 ⟨rfl, hi3, hk3⟩; rw [← H2.out] at hi3 ⊢; rw [← HX.out.2])
   | (go_at_call 40; refine (inNum_any (HH.out.1.ext HP.out.2) HH.out.2.1 2).mono ?_; rintro e w2 ⟨rfl, hi2, hk2⟩; rw [← H1.out] at hi2 ⊢; rw [← HX.out.1])
   | (go_at_call 76; refine (fail_any hi3).mono ?_; rintro e w4 ⟨⟨y4, rfl⟩, hi4, hk4⟩; rw [← HS3.out] at hi4)
   | (go_at_call 41; refine (inTake_any hi4 HH.out.2.1 d).mono ?_; rintro e w5 ⟨a5, m5, c5, rfl, hm5, ho5, hi5, hk5⟩; rw [← H4.out] at hi5 ho5; have HM : Hid (m5 = r4.2.length) := (show _ = _ by rw [H4.out]; exact hm5); clear hm5)
   | (go_at_call 48; refine (inPad_any hi5 HH.out.2.1).mono ?_; rintro e w6 ⟨⟨y6, rfl⟩, hi6, hk6⟩)
   | (have hb6 := (((((HP.out.1.but hk2 (show ¬ _ = _ by have := HH.out.2.2; omega)).but hk3 (show ¬ _ = _ by have := HH.out.2.2; omega)).but hk4 (show ¬ _ = _ by have := HH.out.2.2; omega)).but hk5 (show ¬ _ = _ by have := HH.out.2.2; omega)).but hk6 (show ¬ _ = _ by have := HH.out.2.2; omega)); refine wl_store (D := #[.int .i64 (x1 : Int), .slice a5 m5 c5]) rfl rowP rfl rfl rfl hb6 rfl rfl (one_par _ _ rfl) ?_; intro w7 hb7 hk7 hx; clear hx))
  refine bodyPost_ret (v := .agg #[.int .i64 (x1 : Int), .slice a5 m5 c5]) (results_cell_row (fn := Try.f102) (p := 2) (by rfl) _ _ w.heap.size 138 _ (0, 0) _ rfl hb7 Try.underlying138 rfl rfl) rfl ?_
  have hk := (((KeepBut.ext HP.out.2).trans hk2).trans hk3)
  replace hk := hk.trans hk4
  have ho6 := (ho5.base hk.size).but hk6 (fun k e => by have := (ho5.lt e).1; have := HH.out.2.2; have := hk.size; show ¬ _ = _; omega)
  exact ⟨_, by rw [HX.out.1], ho6.but hk7 (ho6.ne hb6 (by decide)), hi6.but hk7 (show ¬ _ = _ by have := HH.out.2.2; omega) (hi6.own.ne hb6 (by decide)), keep_new ((hk.trans hk5).trans hk6) hk7 (Nat.le_refl _)⟩
 ·
  have hdb : decide (d > 4000) = false := decide_eq_false hbig
  have HS3 : Hid (s3 = r2.1) := show _ = _ by rw [H3.out, if_neg hbig]
  clear hbig
  go_enter Try.func102, Try.ntmps102
  go_wp2_with (first
   | (refine wl_alloc rfl rfl zeroP ?_; intro w1 hb1 he1 hx; clear hx; have HP : Hid (Blk w1 w.heap.size #[.int .i64 0, .slice none 0 0] 138 ∧ Ext w w1) := ⟨hb1, he1⟩; clear hb1 he1)
   | (go_at_call 40; have q := hk2; clear q; refine (inNum_any hi2 HH.out.2.1 2).mono ?_; rintro e w3 ⟨rfl, hi3, hk3⟩; rw [← H2.out] at hi3 ⊢; rw [← HX.out.2]; rw [← HS3.out] at hi3)
   | (go_at_call 40; refine (inNum_any (HH.out.1.ext HP.out.2) HH.out.2.1 2).mono ?_; rintro e w2 ⟨rfl, hi2, hk2⟩; rw [← H1.out] at hi2 ⊢; rw [← HX.out.1])
   | (go_at_call 41; refine (inTake_any hi3 HH.out.2.1 d).mono ?_; rintro e w5 ⟨a5, m5, c5, rfl, hm5, ho5, hi5, hk5⟩; rw [← H4.out] at hi5 ho5; have HM : Hid (m5 = r4.2.length) := (show _ = _ by rw [H4.out]; exact hm5); clear hm5)
   | (go_at_call 48; refine (inPad_any hi5 HH.out.2.1).mono ?_; rintro e w6 ⟨⟨y6, rfl⟩, hi6, hk6⟩)
   | (have hb6 := ((((HP.out.1.but hk2 (show ¬ _ = _ by have := HH.out.2.2; omega)).but hk3 (show ¬ _ = _ by have := HH.out.2.2; omega)).but hk5 (show ¬ _ = _ by have := HH.out.2.2; omega)).but hk6 (show ¬ _ = _ by have := HH.out.2.2; omega)); refine wl_store (D := #[.int .i64 (x1 : Int), .slice a5 m5 c5]) rfl rowP rfl rfl rfl hb6 rfl rfl (one_par _ _ rfl) ?_; intro w7 hb7 hk7 hx; clear hx))
  refine bodyPost_ret (v := .agg #[.int .i64 (x1 : Int), .slice a5 m5 c5]) (results_cell_row (fn := Try.f102) (p := 2) (by rfl) _ _ w.heap.size 138 _ (0, 0) _ rfl hb7 Try.underlying138 rfl rfl) rfl ?_
  have hk := (((KeepBut.ext HP.out.2).trans hk2).trans hk3)
  have ho6 := (ho5.base hk.size).but hk6 (fun k e => by have := (ho5.lt e).1; have := HH.out.2.2; have := hk.size; show ¬ _ = _; omega)
  exact ⟨_, by rw [HX.out.1], ho6.but hk7 (ho6.ne hb6 (by decide)), hi6.but hk7 (show ¬ _ = _ by have := HH.out.2.2; omega) (hi6.own.ne hb6 (by decide)), keep_new ((hk.trans hk5).trans hk6) hk7 (Nat.le_refl _)⟩
end Tlv
end Go.Proofs.Ytigocaconkbalaa
