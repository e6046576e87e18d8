/- Slices of numbers in memory: what reads as a list of numbers, what append makes of it; what a loop over an iterator keeps. No condition of its own. -/
import Derived.Test.YtmfciiccomagpaaWords
import Derived.RangeFuncNested
import Derived.RangeFuncBox
import Derived.RangeFuncBound
import Derived.RangeFuncCalls
import Derived.RangeFuncLeaves
import Derived.Shelf.Abstract
import Derived.Shelf.RegionOpen
import Derived.OwnWalkIn
import Derived.TacticsInMore
import Derived.LoopNIn
import Derived.LoopIn
namespace Go.Proofs.Ytmfciiccomagpaa
open Go.RowKit Go.Shelf
set_option linter.unusedVariables false
set_option linter.unusedSimpArgs false

/-- A slice that reads as these numbers. -/
def NumsAt (k : IntKind) (w : World) (v : Value) (l : List Int) : Prop :=
  l.length ≤ maxLen ∧ ((l = [] ∧ v = .slice none 0 0) ∨
    ∃ ad cap, v = .slice (some ad) l.length cap ∧ l.length ≤ cap ∧ cap ≤ maxLen ∧ ∀ j, j < l.length → w.cell? (ad.add j) = some (.int k (l.getD j 0)))

def blockOf : Value → Option Nat
  | .slice (some ad) _ _ => some ad.block
  | _ => none
theorem add_block (a : Addr) (j : Nat) : (a.add j).block = a.block := by unfold Addr.add; split <;> rfl
/-- It reads so wherever its block lies as it lay. -/
theorem NumsAt.via {k : IntKind} {w w' : World} {v : Value} {l : List Int} (h : NumsAt k w v l) (hb : ∀ b, blockOf v = some b → b < w.heap.size → w'.heap[b]? = w.heap[b]?) : NumsAt k w' v l := by
  obtain ⟨h2, h3⟩ := h
  refine ⟨h2, h3.imp id ?_⟩
  rintro ⟨ad, cap, rfl, h4, h5, hc⟩
  refine ⟨ad, cap, rfl, h4, h5, fun j hj => ?_⟩
  have h0 := hc j hj
  have hlt := cell_lt h0
  rw [add_block] at hlt
  refine (World.cell?_of_block ?_).trans h0
  rw [add_block]
  exact hb _ rfl hlt
theorem NumsAt.ext {k : IntKind} {w w' : World} {v : Value} {l : List Int} (h : NumsAt k w v l) (he : Ext w w') : NumsAt k w' v l := h.via fun b _ hb => he.block b hb
theorem NumsAt.nothing (k : IntKind) (w : World) : NumsAt k w (.slice none 0 0) [] := ⟨by simp, .inl ⟨rfl, rfl⟩⟩
theorem NumsAt.form {k : IntKind} {w : World} {v : Value} {l : List Int} (h : NumsAt k w v l) :
    ∃ a cap, v = .slice a l.length cap ∧ (l.length ≤ cap ∧ cap ≤ maxLen) ∧ ∀ j, j < l.length → ∃ b off, a = some ⟨b, off, none⟩ ∧ w.cell? ⟨b, off + j, none⟩ = some (.int k (l.getD j 0)) := by
  obtain ⟨_, ⟨rfl, rfl⟩ | ⟨ad, cap, rfl, h4, h5, hc⟩⟩ := h
  · exact ⟨.none, 0, rfl, ⟨by simp, by simp⟩, fun j hj => by simp at hj⟩
  · refine ⟨some ad, cap, rfl, ⟨h4, h5⟩, fun j hj => ?_⟩
    obtain ⟨b, off, spot⟩ := ad
    have h0 := hc 0 (by omega)
    have hs : spot = .none := by simpa [Addr.add] using World.cell?_spot h0
    subst hs
    refine ⟨b, off, rfl, ?_⟩
    have := hc j hj
    rwa [add_plain] at this
/-- Out of a row of the argument's. -/
theorem NumsAt.of_row {k : IntKind} {w : World} {x : Addr} {len cap : Nat} {zs : List Int} (hl : len ≤ cap) (hm : cap ≤ maxLen) (hz : zs.length = cap) (hc : ∀ i, i < zs.length → w.cell? (x.add i) = some (.int k (zs.getD i 0))) :
    NumsAt k w (.slice (some x) len cap) (zs.take len) := by
  have hlen : (zs.take len).length = len := by simp; omega
  refine ⟨by omega, .inr ⟨x, cap, by rw [hlen], by omega, hm, fun j hj => ?_⟩⟩
  rw [hlen] at hj
  rw [hc j (by omega)]
  simp [List.getD_eq_getElem?_getD, hj]
/-- A part of it. -/
theorem NumsAt.sliced {k : IntKind} {w : World} {a : Option Addr} {n c : Nat} {l : List Int} (h : NumsAt k w (.slice a n c) l) (lo hi : Nat) (h1 : lo ≤ hi) (h2 : hi ≤ l.length) : NumsAt k w (Go.sliced a lo hi c 1) ((l.take hi).drop lo) := by
  obtain ⟨hm, h3 | ⟨ad, cap, e1, hle, hcm, hc⟩⟩ := h
  · obtain ⟨rfl, e1⟩ := h3
    simp only [Value.slice.injEq] at e1
    obtain ⟨rfl, rfl, rfl⟩ := e1
    simp at h2
    obtain rfl : hi = 0 := h2
    obtain rfl : lo = 0 := by omega
    exact ⟨by simp, .inl ⟨rfl, rfl⟩⟩
  · simp only [Value.slice.injEq] at e1
    obtain ⟨rfl, rfl, rfl⟩ := e1
    refine ⟨by simp; omega, .inr ⟨if c = lo then ad else ad.add lo, c - lo, ?_, by simp; omega, by omega, fun j hj => ?_⟩⟩
    · simp only [Go.sliced, List.length_drop, List.length_take, Nat.mul_one, Option.map_some]
      rw [show min hi l.length = hi by omega]
      split <;> rfl
    · simp only [List.length_drop, List.length_take] at hj
      rw [if_neg (by omega)]
      have h0 := hc (lo + j) (by omega)
      have e2 : (ad.add lo).add j = ad.add (lo + j) := by
        unfold Addr.add
        by_cases hl : lo = 0 <;> by_cases hj0 : j = 0 <;> simp [hl, hj0, Nat.add_assoc]
      rw [e2, h0]
      simp [List.getD_eq_getElem?_getD, List.getElem?_drop, show lo + j < hi by omega]

/-- What is known of a slice's type and its elements'. -/
structure NumT (P : Program) (t e : TypeId) (k : IntKind) (by8 : Nat) : Prop where
  ut : P.underlying t = some (.slice e)
  ue : P.underlying e = some (.int k)
  info : (P.info? e).map (fun i => (i.zero, i.size, i.bytes)) = some (some (.int k 0), 1, by8)
theorem NumT.ex {P : Program} {t e : TypeId} {k : IntKind} {by8 : Nat} (h : NumT P t e k by8) : ∃ i, P.info? e = some i ∧ i.zero = some (.int k 0) ∧ i.size = 1 ∧ i.bytes = by8 := by
  obtain ⟨i, hi, h2⟩ := Option.map_eq_some_iff.1 h.info
  simp only [Prod.mk.injEq] at h2
  exact ⟨i, hi, h2.1, h2.2.1, h2.2.2⟩

/-- A slice of numbers in a block of the call's own (or none). -/
def OwnN (k : IntKind) (w : World) (base : Nat) (e : TypeId) (v : Value) (l : List Int) : Prop := w.ownsRow base e 1 v l.length (l.map (Value.int k)) ∧ l.length ≤ maxLen
theorem OwnN.nil (k : IntKind) (w : World) (base : Nat) (e : TypeId) : OwnN k w base e (.slice none 0 0) [] := ⟨World.ownsRow_nil _ _ _ _, by simp⟩
theorem OwnN.slice {k : IntKind} {w : World} {base : Nat} {e : TypeId} {v : Value} {l : List Int} (h : OwnN k w base e v l) : ∃ a cap, v = .slice a l.length cap ∧ (a = .none → l = [] ∧ cap = 0) ∧ (∀ x, a = some x → ∃ g, x = ⟨g, 0, .none⟩ ∧ base ≤ g ∧ g < w.heap.size) := by
  rcases h.1.2 with ⟨rfl, h0⟩ | ⟨g, cap, cur, rfl, hb, hg, _⟩
  · have : l = [] := List.eq_nil_of_length_eq_zero h0
    subst this
    exact ⟨.none, 0, rfl, fun _ => ⟨rfl, rfl⟩, fun x hx => by cases hx⟩
  · exact ⟨_, _, rfl, (fun h => by cases h), (fun x hx => by cases hx; exact ⟨g, rfl, hb, (Array.getElem?_eq_some_iff.1 hg).1⟩)⟩
theorem OwnN.nums {k : IntKind} {w : World} {base : Nat} {e : TypeId} {v : Value} {l : List Int} (h : OwnN k w base e v l) : NumsAt k w v l := by
  refine ⟨h.2, ?_⟩
  rcases h.1.2 with ⟨rfl, h0⟩ | ⟨g, cap, cur, rfl, hb, hg, hnc, hcm, _⟩
  · exact .inl ⟨List.eq_nil_of_length_eq_zero h0, rfl⟩
  · refine .inr ⟨⟨g, 0, .none⟩, cap, rfl, hnc, hcm, fun j hj => ?_⟩
    have := h.1.cellAt j (by omega)
    rw [add_plain, Nat.zero_add, this]
    simp [List.getD_eq_getElem?_getD, hj]
theorem OwnN.kept {k : IntKind} {w w' : World} {base : Nat} {e : TypeId} {v : Value} {l : List Int} {row : Option Nat} (h : OwnN k w base e v l) (hg : w.grownBy w' row) (hne : v.ownBlock = .none ∨ v.ownBlock ≠ row) : OwnN k w' base e v l := ⟨h.1.kept hg hne, h.2⟩
theorem OwnN.ext {k : IntKind} {w w' : World} {base : Nat} {e : TypeId} {v : Value} {l : List Int} (h : OwnN k w base e v l) (he : Ext w w') : OwnN k w' base e v l :=
  h.kept (row := .none) ⟨he.os, he.tape, he.output, he.size, fun j hj _ => he.block j hj⟩ (by
    rcases h.1.2 with ⟨rfl, _⟩ | ⟨g, cap, cur, rfl, _⟩
    · exact .inl rfl
    · exact .inr (by simp [Value.ownBlock]))

/-- append onto a slice of the call's own, of whatever reads as numbers. -/
theorem run_append_nums {P : Program} {t e : TypeId} {k : IntKind} {by8 : Nat} (hT : NumT P t e k by8) (w : World) (base ty : Nat) (v x : Value) (l m : List Int) (hv : OwnN k w base e v l) (hx : NumsAt k w x m)
    (hlen : (l.length + m.length) * by8 ≤ 140737488355328) (hlen2 : l.length + m.length ≤ 140737488355328) (hbase : base ≤ w.heap.size) :
    ∃ v' w', (Builtin.append_ #[t, t] ty #[v, x]).run P w = .ok v' w' ∧ OwnN k w' base e v' (l ++ m) ∧ w.grownBy w' v.ownBlock ∧ (v'.ownBlock = v.ownBlock ∨ v'.ownBlock = some w.heap.size) := by
  obtain ⟨i, hi, hz, hs, hby⟩ := hT.ex
  obtain ⟨hm2, hx⟩ := hx
  rcases hx with ⟨rfl, rfl⟩ | ⟨ad, c, rfl, _, _, hc⟩
  · refine ⟨_, w, run_append_owned_none w base t ty e i 1 hT.ut hi _ _ _ hv.1, ?_, World.grownBy.refl _ _, .inl rfl⟩
    rw [List.append_nil]; exact hv
  · obtain ⟨v', w', hr, h2, h3, h4, h5⟩ := run_append_own_at (P := P) w base t ty e i (.int k 0) 1 by8 hT.ut hi hz hs hby rfl (by omega) v l.length (l.map (Value.int k)) hv.1 ad m.length c (m.map (Value.int k)) (by simp)
      (fun j u hu => by
        rw [List.getElem?_map] at hu
        obtain ⟨y, hy, rfl⟩ := Option.map_eq_some_iff.1 hu
        have hj : j < m.length := (List.getElem?_eq_some_iff.1 hy).1
        rw [hc j hj]
        simp [List.getD_eq_getElem?_getD, hy])
      (fun u hu => by
        obtain ⟨y, _, rfl⟩ := List.mem_map.1 hu
        rfl) (by unfold maxLen; omega) hlen hbase
    refine ⟨v', w', hr, ⟨by simpa using h2, by simp [maxLen]; omega⟩, h3, h5⟩

/-- The same at the operation, in a plain region. -/
theorem wpList_append_nums {P : Program} {t e : TypeId} {k : IntKind} {by8 : Nat} (hT : NumT P t e k by8) {w : World} {ops : Array Oper} {rest : List Oper} {o : Oper} {a : Act} {Q : Exit → Act → World → Prop} (hgd : o.guard = none) (s x : Operand)
    (ho : o.op = .call { callee := .builtin .append, args := #[s, x], argTypes := #[t, t] }) (base : Nat) (l m : List Int) (hv : OwnN k w base e (a.eval s) l) (hx : NumsAt k w (a.eval x) m)
    (hlen : (l.length + m.length) * by8 ≤ 140737488355328) (hlen2 : l.length + m.length ≤ 140737488355328) (hbase : base ≤ w.heap.size)
    (h : ∀ ad cap w', OwnN k w' base e (.slice ad (l ++ m).length cap) (l ++ m) → w.grownBy w' (a.eval s).ownBlock → ((Value.slice ad (l ++ m).length cap).ownBlock = (a.eval s).ownBlock ∨ (Value.slice ad (l ++ m).length cap).ownBlock = some w.heap.size) → wpList P ops Q rest (a.put o.dst (.slice ad (l ++ m).length cap)) w') : wpList P ops Q (o :: rest) a w := by
  refine wpList_plain hgd fun K hK => ?_
  obtain ⟨v', w', hr, h2, h3, h4⟩ := run_append_nums hT w base o.type _ _ l m hv hx hlen hlen2 hbase
  obtain ⟨ad, cap, rfl, _⟩ := h2.slice
  unfold Oper.wp
  simp only [execOp, ho, resolve, invoke, builtin, Sem.run_bind, Sem.run_pure, Result.andThen_ok, List.map_toArray, List.map_cons, List.map_nil, hr]
  exact hK _ _ (h ad cap w' h2 h3 h4)

/-- The same inside a fence. -/
theorem wpListIn_append_nums {F : Fence} {n : Nat} {P : Program} {t e : TypeId} {k : IntKind} {by8 : Nat} (hT : NumT P t e k by8) {w : World} {ops : Array Oper} {rest : List Oper} {o : Oper} {a : Act} {Q : Exit → Act → World → Prop} (hgd : o.guard = none) (s x : Operand)
    (ho : o.op = .call { callee := .builtin .append, args := #[s, x], argTypes := #[t, t] }) (base : Nat) (l m : List Int) (hv : OwnN k w base e (a.eval s) l) (hx : NumsAt k w (a.eval x) m)
    (hlen : (l.length + m.length) * by8 ≤ 140737488355328) (hlen2 : l.length + m.length ≤ 140737488355328) (hbase : base ≤ w.heap.size)
    (h : ∀ ad cap w', OwnN k w' base e (.slice ad (l ++ m).length cap) (l ++ m) → w.grownBy w' (a.eval s).ownBlock → ((Value.slice ad (l ++ m).length cap).ownBlock = (a.eval s).ownBlock ∨ (Value.slice ad (l ++ m).length cap).ownBlock = some w.heap.size) → wpListIn F n P ops Q rest (a.put o.dst (.slice ad (l ++ m).length cap)) w') : wpListIn F n P ops Q (o :: rest) a w := by
  refine wpListIn_plain hgd fun K hK' => ?_
  obtain ⟨v', w', hrun, h2, h3, h4⟩ := run_append_nums hT w base o.type _ _ l m hv hx hlen hlen2 hbase
  obtain ⟨ad, cap, rfl, _⟩ := h2.slice
  unfold Oper.wpIn
  refine ⟨?_, ?_⟩
  · simp [Oper.about, ho, resolve, Target.leads, Sem.run_pure]
  · rw [Oper.semAt_plain F _ _ (by rw [ho]; intro c hc'; cases hc')]
    simp only [execOp, ho, resolve, invoke, builtin, Sem.run_bind, Sem.run_pure, Result.andThen_ok, List.map_toArray, List.map_cons, List.map_nil, hrun]
    exact hK' _ _ (h ad cap w' h2 h3 h4)

/-- Two slices of the call's own, in two blocks. -/
def Apart (u v : Value) : Prop := ∀ g, u.ownBlock = some g → v.ownBlock ≠ some g
theorem Apart.symm {u v : Value} (h : Apart u v) : Apart v u := fun g hg hu => h g hu hg
theorem OwnN.lt {k : IntKind} {w : World} {base : Nat} {e : TypeId} {v : Value} {l : List Int} (h : OwnN k w base e v l) {g : Nat} (hg : v.ownBlock = some g) : base ≤ g ∧ g < w.heap.size := by
  rcases h.1.2 with ⟨rfl, _⟩ | ⟨g', cap, cur, rfl, hb, hgb, _⟩
  · simp [Value.ownBlock] at hg
  · simp [Value.ownBlock] at hg
    subst hg
    exact ⟨hb, (Array.getElem?_eq_some_iff.1 hgb).1⟩
theorem Apart.grown {u u' v : Value} {N : Nat} (h : Apart u v) (hv : ∀ g, v.ownBlock = some g → g < N) (h4 : u'.ownBlock = u.ownBlock ∨ u'.ownBlock = some N) : Apart u' v := fun g hg hvg => by
  rcases h4 with h4 | h4
  · rw [h4] at hg; exact h g hg hvg
  · rw [h4] at hg; cases hg; have := hv _ hvg; omega
theorem OwnN.keptA {k : IntKind} {w w' : World} {base : Nat} {e : TypeId} {u v : Value} {l : List Int} (h : OwnN k w base e v l) (hg : w.grownBy w' u.ownBlock) (ha : Apart u v) : OwnN k w' base e v l := by
  refine h.kept hg ?_
  cases hv : v.ownBlock with
  | none => exact .inl rfl
  | some g => exact .inr (fun e' => ha g e'.symm hv)
theorem NumsAt.one {k : IntKind} (w : World) (x : Int) (t b : Nat) (hb : b = w.heap.size) : NumsAt k (w.alloc (.cells #[.int k x] t)) (.slice (some ⟨b, 0, none⟩) 1 1) [x] := by
  refine ⟨by simp [maxLen], .inr ⟨⟨b, 0, none⟩, 1, rfl, by simp, by simp [maxLen], fun j hj => ?_⟩⟩
  obtain rfl : j = 0 := by simp at hj; exact hj
  rw [add_plain, cellNew _ _ _ _ _ _ hb]
  rfl
theorem OwnN.stored {k : IntKind} {w : World} {base g n c : Nat} {e : TypeId} {l : List Int} (h : OwnN k w base e (.slice (some ⟨g, 0, none⟩) n c) l) (j : Nat) (x : Int) : OwnN k (w.setCell ⟨g, j, none⟩ (.int k x)) base e (.slice (some ⟨g, 0, none⟩) n c) (l.set j x) ∧ w.grownBy (w.setCell ⟨g, j, none⟩ (.int k x)) (some g) := by
  have hn : n = l.length := by
    obtain ⟨a, c', e1, _⟩ := h.slice
    simp only [Value.slice.injEq] at e1
    exact e1.2.1
  subst hn
  have hs := h.1.stored j (.int k x)
  refine ⟨⟨?_, by simpa using h.2⟩, hs.2⟩
  rw [List.length_set, List.map_set]
  exact hs.1
theorem OwnN.below {k : IntKind} {w w0 w' : World} {base : Nat} {e : TypeId} {v : Value} {l : List Int} (h : OwnN k w base e v l) (hb : Below base w0 w) (hg : w.grownBy w' v.ownBlock) (hs : base ≤ w.heap.size) : Below base w0 w' :=
  hb.grown hg hs (fun j ej => (h.lt ej).1)
end Go.Proofs.Ytmfciiccomagpaa
