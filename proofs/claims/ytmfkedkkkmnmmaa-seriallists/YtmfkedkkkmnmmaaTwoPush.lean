/- Two slices of the call's own, each in a variable's box, each put one number behind, in a statement that draws its order: what each operation needs and leaves. No condition of its own. -/
import Derived.Test.YtmfkedkkkmnmmaaRelyP
import Derived.Test.YtmfkedkkkmnmmaaPush
import Derived.Test.YtmfkedkkkmnmmaaStage
import Derived.RangeFuncBox
namespace Go.Proofs.Ytmfkedkkkmnmmaa
open Go Go.RowKit
set_option linter.unusedVariables false

/-- All that lay but the blocks of S lies as it lay. -/
structure KeepBut (S : Nat → Prop) (w w' : World) : Prop where
  os : w'.os = w.os
  tape : w'.tape = w.tape
  output : w'.output = w.output
  size : w.heap.size ≤ w'.heap.size
  block : ∀ k, k < w.heap.size → ¬ S k → w'.heap[k]? = w.heap[k]?
theorem KeepBut.refl (S : Nat → Prop) (w : World) : KeepBut S w w := ⟨rfl, rfl, rfl, Nat.le_refl _, fun _ _ _ => rfl⟩
theorem KeepBut.trans {S : Nat → Prop} {a b c : World} (h : KeepBut S a b) (k : KeepBut S b c) : KeepBut S a c :=
  ⟨k.os.trans h.os, k.tape.trans h.tape, k.output.trans h.output, Nat.le_trans h.size k.size, fun i hi hn => (k.block i (Nat.lt_of_lt_of_le hi h.size) hn).trans (h.block i hi hn)⟩
theorem KeepBut.grown {S : Nat → Prop} {w w' : World} {row : Option Nat} (h : w.grownBy w' row) (hr : ∀ r, row = some r → S r) : KeepBut S w w' :=
  ⟨h.os, h.tape, h.output, h.size, fun k hk hn => h.block k hk (fun e => hn (hr k e.symm))⟩

structure Spots where
  p : Nat
  gF : Nat
  gM : Nat
  N : Nat
  cF : Nat
  cM : Nat
  F : List Int
  M : List Int
  x : Int
  k : Int
def Spots.vf (s : Spots) : Value := .slice (some ⟨s.gF, 0, none⟩) s.F.length s.cF
def Spots.vm (s : Spots) : Value := .slice (some ⟨s.gM, 0, none⟩) s.M.length s.cM
structure Spots.Ok (s : Spots) : Prop where
  f : s.gF < s.N
  m : s.gM < s.N
  b : s.p + 3 < s.N
  fm : s.gF ≠ s.gM
  f2 : s.gF ≠ s.p + 2
  f3 : s.gF ≠ s.p + 3
  m2 : s.gM ≠ s.p + 2
  m3 : s.gM ≠ s.p + 3
  lF : s.F.length ≤ 1000
  lM : s.M.length ≤ 1000
def Spots.S (s : Spots) (j : Nat) : Prop := j = s.gF ∨ j = s.gM ∨ j = s.p + 2 ∨ j = s.p + 3
def Spots.row (s : Spots) : Nat → Option Nat
  | 4 => some s.gF
  | 8 => some s.gM
  | 9 => some (s.p + 2)
  | 10 => some (s.p + 3)
  | _ => none
def Spots.U (s : Spots) : Nat → World → Prop
  | 0 => fun w => Boxed w (s.p + 2) 40 s.vf
  | 3 => fun w => s.N ≤ w.heap.size
  | 4 => fun w => OwnN .i64 w s.p 3 s.vf s.F ∧ s.N ≤ w.heap.size
  | 5 => fun w => Boxed w (s.p + 3) 40 s.vm
  | 7 => fun w => s.N ≤ w.heap.size
  | 8 => fun w => OwnN .i64 w s.p 3 s.vm s.M ∧ s.N ≤ w.heap.size
  | 9 => fun w => Boxed w (s.p + 2) 40 s.vf
  | 10 => fun w => Boxed w (s.p + 3) 40 s.vm
  | _ => fun _ => True
def Spots.V (s : Spots) : Nat → FactP
  | 0 => fun _ v _ => v = s.vf
  | 1 => fun _ v _ => v = .int .u32 s.x
  | 2 => fun _ v _ => v = .int .i64 s.x
  | 3 => fun w v _ => NumsAt .i64 w v [s.x] ∧ ∀ g, blockOf v = some g → s.N ≤ g ∧ g < w.heap.size
  | 4 => fun w v _ => ∃ g c, v = .slice (some ⟨g, 0, none⟩) (s.F.length + 1) c ∧ OwnN .i64 w s.p 3 v (s.F ++ [s.x]) ∧ (g = s.gF ∨ s.N ≤ g)
  | 5 => fun _ v _ => v = s.vm
  | 6 => fun _ v _ => v = .int .i64 s.k
  | 7 => fun w v _ => NumsAt .i64 w v [s.k] ∧ ∀ g, blockOf v = some g → s.N ≤ g ∧ g < w.heap.size
  | 8 => fun w v _ => ∃ g c, v = .slice (some ⟨g, 0, none⟩) (s.M.length + 1) c ∧ OwnN .i64 w s.p 3 v (s.M ++ [s.k]) ∧ (g = s.gM ∨ s.N ≤ g)
  | 9 => fun w _ ρ => Boxed w (s.p + 2) 40 (ρ (.tmp 72))
  | 10 => fun w _ ρ => Boxed w (s.p + 3) 40 (ρ (.tmp 76))
  | _ => fun _ _ _ => True

theorem Spots.row_S (s : Spots) (i : Nat) (r : Nat) (h : s.row i = some r) : s.S r := by
  unfold Spots.row at h
  unfold Spots.S
  split at h <;> simp at h <;> omega
theorem Spots.row_cases (s : Spots) (j : Nat) : s.row j = none ∨ (j = 4 ∧ s.row j = some s.gF) ∨ (j = 8 ∧ s.row j = some s.gM) ∨ (j = 9 ∧ s.row j = some (s.p + 2)) ∨ (j = 10 ∧ s.row j = some (s.p + 3)) := by
  unfold Spots.row
  split <;> simp
theorem Spots.row_ne (s : Spots) (j g : Nat) (h4 : j = 4 → g ≠ s.gF) (h8 : j = 8 → g ≠ s.gM) (h9 : j = 9 → g ≠ s.p + 2) (h10 : j = 10 → g ≠ s.p + 3) : some g ≠ s.row j := by
  rcases s.row_cases j with h | ⟨e, h⟩ | ⟨e, h⟩ | ⟨e, h⟩ | ⟨e, h⟩ <;> rw [h] <;> simp
  · exact h4 e
  · exact h8 e
  · exact h9 e
  · exact h10 e
theorem Spots.fresh_ne (s : Spots) (ok : s.Ok) (j g : Nat) (h : s.N ≤ g) : some g ≠ s.row j := by
  have := ok.f; have := ok.m; have := ok.b
  exact s.row_ne j g (by omega) (by omega) (by omega) (by omega)
theorem nums_kept {w w' : World} {row : Option Nat} {v : Value} {l : List Int} (h : NumsAt .i64 w v l) (hg : w.grownBy w' row) (hb : ∀ g, blockOf v = some g → some g ≠ row) : NumsAt .i64 w' v l :=
  h.via fun b hv hlt => hg.block b hlt (hb b hv)
theorem own_kept {w w' : World} {row : Option Nat} {base g n c : Nat} {e : TypeId} {l : List Int} (h : OwnN .i64 w base e (.slice (some ⟨g, 0, none⟩) n c) l) (hg : w.grownBy w' row) (hb : some g ≠ row) : OwnN .i64 w' base e (.slice (some ⟨g, 0, none⟩) n c) l :=
  h.kept hg (.inr (by simpa [Value.ownBlock] using hb))

theorem Spots.keepV (s : Spots) (ok : s.Ok) (i j : Nat) (w w' : World) (v : Value) (ρ : Operand → Value) (hij : i ≠ j) (hg : w.grownBy w' (s.row j)) (h : s.V i w v ρ) : s.V i w' v ρ := by
  have o1 := ok.f; have o2 := ok.m; have o3 := ok.b; have o4 := ok.fm; have o5 := ok.f2; have o6 := ok.f3; have o7 := ok.m2; have o8 := ok.m3
  unfold Spots.V at h ⊢
  split at h <;> try exact h
  · exact ⟨nums_kept h.1 hg fun g hb => s.fresh_ne ok j g (h.2 g hb).1, fun g hb => ⟨(h.2 g hb).1, Nat.lt_of_lt_of_le (h.2 g hb).2 hg.size⟩⟩
  · obtain ⟨g, c, rfl, ho, hh⟩ := h
    refine ⟨g, c, rfl, own_kept ho hg ?_, hh⟩
    rcases hh with rfl | hh
    · exact s.row_ne j _ (by omega) (by omega) (by omega) (by omega)
    · exact s.fresh_ne ok j g hh
  · exact ⟨nums_kept h.1 hg fun g hb => s.fresh_ne ok j g (h.2 g hb).1, fun g hb => ⟨(h.2 g hb).1, Nat.lt_of_lt_of_le (h.2 g hb).2 hg.size⟩⟩
  · obtain ⟨g, c, rfl, ho, hh⟩ := h
    refine ⟨g, c, rfl, own_kept ho hg ?_, hh⟩
    rcases hh with rfl | hh
    · exact s.row_ne j _ (by omega) (by omega) (by omega) (by omega)
    · exact s.fresh_ne ok j g hh
  · exact h.kept hg (s.row_ne j _ (by omega) (by omega) (by omega) (by omega))
  · exact h.kept hg (s.row_ne j _ (by omega) (by omega) (by omega) (by omega))

theorem Spots.keepU (s : Spots) (ok : s.Ok) (ops : List Oper) (h9 : ∀ oj, ops[9]? = some oj → afterB oj 0 = true) (h10 : ∀ oj, ops[10]? = some oj → afterB oj 5 = true)
    (i j : Nat) (oj : Oper) (w w' : World) (hj : ops[j]? = some oj) (haf : afterB oj i = false) (hij : i ≠ j) (hg : w.grownBy w' (s.row j)) (h : s.U i w) : s.U i w' := by
  have o1 := ok.f; have o2 := ok.m; have o3 := ok.b; have o4 := ok.fm; have o5 := ok.f2; have o6 := ok.f3; have o7 := ok.m2; have o8 := ok.m3
  unfold Spots.U at h ⊢
  split at h <;> try exact h
  · refine Boxed.kept h hg (s.row_ne j _ (by omega) (by omega) (fun e => ?_) (by omega))
    subst e
    rw [h9 oj hj] at haf; cases haf
  · exact Nat.le_trans h hg.size
  · exact ⟨own_kept h.1 hg (s.row_ne j _ (by omega) (by omega) (by omega) (by omega)), Nat.le_trans h.2 hg.size⟩
  · refine Boxed.kept h hg (s.row_ne j _ (by omega) (by omega) (by omega) (fun e => ?_))
    subst e
    rw [h10 oj hj] at haf; cases haf
  · exact Nat.le_trans h hg.size
  · exact ⟨own_kept h.1 hg (s.row_ne j _ (by omega) (by omega) (by omega) (by omega)), Nat.le_trans h.2 hg.size⟩
  · exact Boxed.kept h hg (s.row_ne j _ (by omega) (by omega) (by omega) (by omega))
  · exact Boxed.kept h hg (s.row_ne j _ (by omega) (by omega) (by omega) (by omega))

theorem Spots.frame (s : Spots) (ops : List Oper) (h9 : ∀ oj, ops[9]? = some oj → Operand.tmp 72 ∈ oj.op.operands.toList) (h10 : ∀ oj, ops[10]? = some oj → Operand.tmp 76 ∈ oj.op.operands.toList)
    (j : Nat) (oj : Oper) (w : World) (v : Value) (ρ ρ' : Operand → Value) (hj : ops[j]? = some oj) (he : ∀ x ∈ oj.op.operands.toList, ρ x = ρ' x) (h : s.V j w v ρ) : s.V j w v ρ' := by
  unfold Spots.V at h ⊢
  split at h <;> try exact h
  · rw [← he _ (h9 oj hj)]; exact h
  · rw [← he _ (h10 oj hj)]; exact h

theorem OwnN.base {k : IntKind} {w : World} {base base' : Nat} {e : TypeId} {v : Value} {l : List Int} (h : OwnN k w base e v l) (hb : base' ≤ base) : OwnN k w base' e v l := by
  refine ⟨⟨h.1.1, ?_⟩, h.2⟩
  rcases h.1.2 with h0 | ⟨g, cap, cur, h1, h2, h3⟩
  · exact .inl h0
  · exact .inr ⟨g, cap, cur, h1, by omega, h3⟩
theorem OwnN.one_of {k : IntKind} {w : World} {base : Nat} {e : TypeId} {v : Value} {l : List Int} {x : Int} (h : OwnN k w base e v (l ++ [x])) : ∃ g c, v = .slice (some ⟨g, 0, none⟩) (l.length + 1) c ∧ base ≤ g ∧ g < w.heap.size := by
  obtain ⟨a, c, e1, h1, h2⟩ := h.slice
  cases a with
  | none => have := (h1 rfl).1; simp at this
  | some z =>
    obtain ⟨g, rfl, h3, h4⟩ := h2 z rfl
    exact ⟨g, c, by simpa using e1, h3, h4⟩
theorem own_other {W : World} {row : Option Nat} (hr : ∀ r, row = some r → ∃ o : Obj, W.heap[r]? = some o ∧ o.isCells = false) {base g n c : Nat} {e : TypeId} {l : List Int} (h : OwnN .i64 W base e (.slice (some ⟨g, 0, none⟩) n c) l) : some g ≠ row := by
  intro e1
  obtain ⟨o, ho, hc⟩ := hr g e1.symm
  rcases h.1.2 with ⟨h0, _⟩ | ⟨g', cap, cur, h0, _, hg, _⟩
  · cases h0
  · cases h0
    rw [hg] at ho; cases ho; cases hc
theorem boxed_not_own {W : World} {B base g n c : Nat} {v : Value} {l : List Int} (hb : Boxed W B 40 v) (h : OwnN .i64 W base 3 (.slice (some ⟨g, 0, none⟩) n c) l) : g ≠ B := by
  rintro rfl
  rcases h.1.2 with ⟨h0, _⟩ | ⟨g', cap, cur, h0, _, hg, _⟩
  · cases h0
  · cases h0
    rw [show W.heap[g]? = _ from hb] at hg
    simp at hg
theorem fold1 (T : Array Value) (i : Tmp) (u : Value) : (#[i].zip #[u]).foldl (fun t (p, w) => t.setIfInBounds p w) T = T.setIfInBounds i u := by simp
theorem fold2 (T : Array Value) (i j : Tmp) (u v : Value) : (#[i, j].zip #[u, v]).foldl (fun t (p, w) => t.setIfInBounds p w) T = (T.setIfInBounds i u).setIfInBounds j v := by simp
theorem OwnN.via {k : IntKind} {w w' : World} {base : Nat} {e : TypeId} {v : Value} {l : List Int} (h : OwnN k w base e v l) (hb : ∀ g, v.ownBlock = some g → w'.heap[g]? = w.heap[g]?) : OwnN k w' base e v l := by
  refine ⟨⟨h.1.1, ?_⟩, h.2⟩
  rcases h.1.2 with h0 | ⟨g, cap, cur, h1, h2, h3, h4⟩
  · exact .inl h0
  · refine .inr ⟨g, cap, cur, h1, h2, ?_, h4⟩
    rw [hb g (by rw [h1]; rfl)]; exact h3
/-- What the loop over the runs keeps: the two slices in their boxes. -/
structure Pairs (W6 W : World) (p : Nat) (F M : List Int) (gF cF gM cM : Nat) : Prop where
  keep : KeepBut (fun k => p ≤ k ∧ k < p + 4) W6 W
  bF : Boxed W (p + 2) 40 (.slice (some ⟨gF, 0, none⟩) F.length cF)
  bM : Boxed W (p + 3) 40 (.slice (some ⟨gM, 0, none⟩) M.length cM)
  oF : OwnN .i64 W p 3 (.slice (some ⟨gF, 0, none⟩) F.length cF) F
  oM : OwnN .i64 W p 3 (.slice (some ⟨gM, 0, none⟩) M.length cM) M
  ne : gF ≠ gM
  pF : gF = p ∨ W6.heap.size ≤ gF
  pM : gM = p + 1 ∨ W6.heap.size ≤ gM
theorem Pairs.own {W6 A B : World} {p : Nat} {F M : List Int} {gF cF gM cM : Nat} {row : Option Nat} (h : Pairs W6 A p F M gF cF gM cM) (hg : A.grownBy B row) (hr : ∀ r, row = some r → W6.heap.size ≤ r ∧ ∃ o : Obj, A.heap[r]? = some o ∧ o.isCells = false) (hp : p + 4 ≤ W6.heap.size) : Pairs W6 B p F M gF cF gM cM :=
  have hr2 : ∀ r, row = some r → ∃ o : Obj, A.heap[r]? = some o ∧ o.isCells = false := fun r e => (hr r e).2
  have nb : ∀ {B : Nat} {v : Value}, Boxed A B 40 v → some B ≠ row := fun {B v} hb e => by
    obtain ⟨o, ho, hc⟩ := hr2 B e.symm
    rw [show A.heap[B]? = _ from hb] at ho; cases ho; cases hc
  ⟨⟨hg.os.trans h.keep.os, hg.tape.trans h.keep.tape, hg.output.trans h.keep.output, Nat.le_trans h.keep.size hg.size, fun k hk hn => (hg.block k (Nat.lt_of_lt_of_le hk h.keep.size) (fun e => by have := (hr k e.symm).1; omega)).trans (h.keep.block k hk hn)⟩,
    h.bF.kept hg (nb h.bF), h.bM.kept hg (nb h.bM), own_kept h.oF hg (own_other hr2 h.oF), own_kept h.oM hg (own_other hr2 h.oM), h.ne, h.pF, h.pM⟩
end Go.Proofs.Ytmfkedkkkmnmmaa
