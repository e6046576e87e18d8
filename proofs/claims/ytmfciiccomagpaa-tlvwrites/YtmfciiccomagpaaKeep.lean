/- What a loop keeps but for some blocks; slices of the call's own in their boxes. No condition of its own. -/
import Derived.Test.YtmfciiccomagpaaRelyP
import Derived.Test.YtmfciiccomagpaaPush
import Derived.Test.YtmfciiccomagpaaStage
import Derived.RangeFuncBox
namespace Go.Proofs.Ytmfciiccomagpaa
open Go Go.RowKit
set_option linter.unusedVariables false

/-- All that lay but the blocks of S lies as it lay. -/
structure KeepBut (S : Nat → Prop) (w w' : World) : Prop where
  os : w'.os = w.os
  tape : w'.tape = w.tape
  output : w'.output = w.output
  size : w.heap.size ≤ w'.heap.size
  block : ∀ k, k < w.heap.size → ¬ S k → w'.heap[k]? = w.heap[k]?
theorem KeepBut.refl (S : Nat → Prop) (w : World) : KeepBut S w w := ⟨rfl, rfl, rfl, Nat.le_refl _, fun _ _ _ => rfl⟩
theorem KeepBut.trans {S : Nat → Prop} {a b c : World} (h : KeepBut S a b) (k : KeepBut S b c) : KeepBut S a c :=
  ⟨k.os.trans h.os, k.tape.trans h.tape, k.output.trans h.output, Nat.le_trans h.size k.size, fun i hi hn => (k.block i (Nat.lt_of_lt_of_le hi h.size) hn).trans (h.block i hi hn)⟩
theorem KeepBut.grown {S : Nat → Prop} {w w' : World} {row : Option Nat} (h : w.grownBy w' row) (hr : ∀ r, row = some r → S r) : KeepBut S w w' :=
  ⟨h.os, h.tape, h.output, h.size, fun k hk hn => h.block k hk (fun e => hn (hr k e.symm))⟩

theorem nums_kept {w w' : World} {row : Option Nat} {v : Value} {l : List Int} (h : NumsAt .i64 w v l) (hg : w.grownBy w' row) (hb : ∀ g, blockOf v = some g → some g ≠ row) : NumsAt .i64 w' v l :=
  h.via fun b hv hlt => hg.block b hlt (hb b hv)
theorem own_kept {w w' : World} {row : Option Nat} {base g n c : Nat} {e : TypeId} {l : List Int} (h : OwnN .i64 w base e (.slice (some ⟨g, 0, none⟩) n c) l) (hg : w.grownBy w' row) (hb : some g ≠ row) : OwnN .i64 w' base e (.slice (some ⟨g, 0, none⟩) n c) l :=
  h.kept hg (.inr (by simpa [Value.ownBlock] using hb))

theorem OwnN.base {k : IntKind} {w : World} {base base' : Nat} {e : TypeId} {v : Value} {l : List Int} (h : OwnN k w base e v l) (hb : base' ≤ base) : OwnN k w base' e v l := by
  refine ⟨⟨h.1.1, ?_⟩, h.2⟩
  rcases h.1.2 with h0 | ⟨g, cap, cur, h1, h2, h3⟩
  · exact .inl h0
  · exact .inr ⟨g, cap, cur, h1, by omega, h3⟩
theorem OwnN.one_of {k : IntKind} {w : World} {base : Nat} {e : TypeId} {v : Value} {l : List Int} {x : Int} (h : OwnN k w base e v (l ++ [x])) : ∃ g c, v = .slice (some ⟨g, 0, none⟩) (l.length + 1) c ∧ base ≤ g ∧ g < w.heap.size := by
  obtain ⟨a, c, e1, h1, h2⟩ := h.slice
  cases a with
  | none => have := (h1 rfl).1; simp at this
  | some z =>
    obtain ⟨g, rfl, h3, h4⟩ := h2 z rfl
    exact ⟨g, c, by simpa using e1, h3, h4⟩
theorem own_other {W : World} {row : Option Nat} (hr : ∀ r, row = some r → ∃ o : Obj, W.heap[r]? = some o ∧ o.isCells = false) {base g n c : Nat} {e : TypeId} {l : List Int} (h : OwnN .i64 W base e (.slice (some ⟨g, 0, none⟩) n c) l) : some g ≠ row := by
  intro e1
  obtain ⟨o, ho, hc⟩ := hr g e1.symm
  rcases h.1.2 with ⟨h0, _⟩ | ⟨g', cap, cur, h0, _, hg, _⟩
  · cases h0
  · cases h0
    rw [hg] at ho; cases ho; cases hc
theorem boxed_not_own {W : World} {B base g n c : Nat} {v : Value} {l : List Int} (hb : Boxed W B 40 v) (h : OwnN .i64 W base 3 (.slice (some ⟨g, 0, none⟩) n c) l) : g ≠ B := by
  rintro rfl
  rcases h.1.2 with ⟨h0, _⟩ | ⟨g', cap, cur, h0, _, hg, _⟩
  · cases h0
  · cases h0
    rw [show W.heap[g]? = _ from hb] at hg
    simp at hg
theorem fold1 (T : Array Value) (i : Tmp) (u : Value) : (#[i].zip #[u]).foldl (fun t (p, w) => t.setIfInBounds p w) T = T.setIfInBounds i u := by simp
theorem fold2 (T : Array Value) (i j : Tmp) (u v : Value) : (#[i, j].zip #[u, v]).foldl (fun t (p, w) => t.setIfInBounds p w) T = (T.setIfInBounds i u).setIfInBounds j v := by simp
theorem OwnN.via {k : IntKind} {w w' : World} {base : Nat} {e : TypeId} {v : Value} {l : List Int} (h : OwnN k w base e v l) (hb : ∀ g, v.ownBlock = some g → w'.heap[g]? = w.heap[g]?) : OwnN k w' base e v l := by
  refine ⟨⟨h.1.1, ?_⟩, h.2⟩
  rcases h.1.2 with h0 | ⟨g, cap, cur, h1, h2, h3, h4⟩
  · exact .inl h0
  · refine .inr ⟨g, cap, cur, h1, h2, ?_, h4⟩
    rw [hb g (by rw [h1]; rfl)]; exact h3
/-- What an iterator's round must keep: the blocks from lo up to hi. -/
def KpR (lo hi : Nat) (W W' : World) : Prop := ∀ k, lo ≤ k → k < hi → W'.heap[k]? = W.heap[k]?
theorem KpR.t {lo hi : Nat} {A B C : World} (h : KpR lo hi A B) (k : KpR lo hi B C) : KpR lo hi A C := fun i h1 h2 => (k i h1 h2).trans (h i h1 h2)
theorem KpR.b {lo hi : Nat} {w : World} (hn : hi ≤ w.heap.size) (W : World) (l : Nat) (o o' : Obj) (hl : w.heap.size ≤ l) (_ : W.heap[l]? = some o) (_ : o.isCells = false) (_ : o.isWalk = false) : KpR lo hi W (W.putObj l o') :=
  fun i _ h2 => World.putObj_heap_other (by omega)
theorem KpR.box {lo hi B : Nat} {W W' : World} {t : TypeId} {v : Value} (h : KpR lo hi W W') (h1 : lo ≤ B) (h2 : B < hi) (hb : Boxed W B t v) : Boxed W' B t v := (h B h1 h2).trans hb
theorem KpR.refl (lo hi : Nat) (W : World) : KpR lo hi W W := fun _ _ _ => rfl
theorem KpR.grown {lo hi : Nat} {W W' : World} {row : Option Nat} (hg : W.grownBy W' row) (hs : hi ≤ W.heap.size) (hr : ∀ r, row = some r → r < lo ∨ hi ≤ r) : KpR lo hi W W' := fun i h1 h2 => hg.block i (by omega) (fun e => by have := hr i e.symm; omega)

end Go.Proofs.Ytmfciiccomagpaa
