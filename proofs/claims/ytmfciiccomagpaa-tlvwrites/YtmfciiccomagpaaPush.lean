/- One number put behind a slice of the call's own: in place, or in a new block. No condition of its own. -/
import Derived.Test.YtmfciiccomagpaaNums
import Derived.ArgAppend
namespace Go.Proofs.Ytmfciiccomagpaa
open Go.RowKit
set_option linter.unusedVariables false

theorem OwnN.lit0 (k : IntKind) (w : World) (base : Nat) (e : TypeId) (b : Nat) (hb : b = w.heap.size) (hbase : base ≤ w.heap.size) : OwnN k (w.alloc (.cells #[] e)) base e (.slice (some ⟨b, 0, none⟩) 0 0) [] := by
  subst hb
  have := World.ownsRow_lit (base := base) (e := e) (size := 1) w #[] 0 hbase (by simp) (by simp)
  exact ⟨by simpa using this, by simp⟩

/-- One number put behind, to the block. -/
theorem run_push {P : Program} {t e : TypeId} {k : IntKind} {by8 : Nat} (hT : NumT P t e k by8) (w : World) (base ty g cap : Nat) (u : Value) (l : List Int) (x : Int) (hv : OwnN k w base e (.slice (some ⟨g, 0, none⟩) l.length cap) l) (hu : NumsAt k w u [x])
    (hlen : (l.length + 1) * by8 ≤ 140737488355328) (hlen2 : l.length + 1 ≤ 140737488355328) :
    ∃ v' w', (Builtin.append_ #[t, t] ty #[.slice (some ⟨g, 0, none⟩) l.length cap, u]).run P w = .ok v' w' ∧
      ((v' = .slice (some ⟨g, 0, none⟩) (l.length + 1) cap ∧ OwnN k w' base e v' (l ++ [x]) ∧ w.grownBy w' (some g)) ∨ (OwnN k w' w.heap.size e v' (l ++ [x]) ∧ w.grownBy w' none)) := by
  obtain ⟨i, hi, hz, hs, hby⟩ := hT.ex
  obtain ⟨_, ⟨h0, _⟩ | ⟨ad, c, rfl, _, _, hc⟩⟩ := hu
  · cases h0
  have hnews : ∀ j v, ([Value.int k x] : List Value)[j]? = some v → w.cell? (ad.add j) = some v := fun j v hj => by
    cases j with
    | zero => simp at hj; subst hj; simpa using hc 0 (by simp)
    | succ j => simp at hj
  by_cases hf : l.length + 1 ≤ cap
  · obtain ⟨w', hr, h1, h2⟩ := run_append_fits (P := P) w base t ty e i 1 hT.ut hi hs g l.length cap (l.map (Value.int k)) hv.1 ad 1 c [.int k x] (by simp) hnews (by simp [Value.oneCell']) hf
    exact ⟨_, w', hr, .inl ⟨rfl, ⟨by simpa using h1, by simp [maxLen]; omega⟩, h2⟩⟩
  · obtain ⟨v', w', hr, h1, h2⟩ := run_append_arg_grows (P := P) w t ty e i (.int k 0) 1 by8 hT.ut hi hz hs hby rfl (by omega) ⟨g, 0, none⟩ l.length cap (l.map (Value.int k)) (by simp) (fun j v hj => by
      have hjl : j < l.length := by
        have := (List.getElem?_eq_some_iff.1 hj).1
        simpa using this
      rw [add_plain, Nat.zero_add, hv.1.cellAt j (by omega)]; exact hj) ad 1 c [.int k x] (by simp) hnews (by omega) (by unfold maxLen; omega) hlen
    exact ⟨v', w', hr, .inr ⟨⟨by simpa using h1, by simp [maxLen]; omega⟩, h2⟩⟩

/-- What a loop that puts numbers behind a slice keeps: all that lay, but the slice's first block. -/
theorem grown_push {W3 wr w' : World} {c : Nat} {o : Obj} {v : Value} (h : W3.grownBy wr (some c)) (hb : ∀ g, v.ownBlock = some g → g = c ∨ W3.heap.size ≤ g) (hg : (wr.alloc o).grownBy w' v.ownBlock) : W3.grownBy w' (some c) := by
  refine ⟨hg.os.trans h.os, hg.tape.trans h.tape, hg.output.trans h.output, Nat.le_trans h.size (Nat.le_trans (by simp) hg.size), fun k hk hne => ?_⟩
  have hk2 : k < wr.heap.size := Nat.lt_of_lt_of_le hk h.size
  rw [hg.block k (by simp; omega) (fun e => by
    rcases hb k e.symm with h' | h'
    · exact hne (by rw [h'])
    · omega), Below.heap_alloc _ _ _ hk2]
  exact h.block k hk hne
theorem own_push {W3 : World} {c N : Nat} {v v' : Value} (hb : ∀ g, v.ownBlock = some g → g = c ∨ W3.heap.size ≤ g) (h4 : v'.ownBlock = v.ownBlock ∨ v'.ownBlock = some N) (hN : W3.heap.size ≤ N) : ∀ g, v'.ownBlock = some g → g = c ∨ W3.heap.size ≤ g := by
  intro g hg
  rcases h4 with h4 | h4
  · rw [h4] at hg; exact hb g hg
  · rw [h4] at hg; cases hg; exact .inr hN
theorem ext_row {w1 wr : World} {o : Obj} {c : Nat} (hc : c = w1.heap.size) (hg : (w1.alloc o).grownBy wr (some c)) : Ext w1 wr :=
  ⟨hg.os, hg.tape, hg.output, Nat.le_trans (by simp) hg.size, fun k hk => (hg.block k (by simp; omega) (by simp; omega)).trans (Below.heap_alloc _ _ _ hk)⟩
end Go.Proofs.Ytmfciiccomagpaa
