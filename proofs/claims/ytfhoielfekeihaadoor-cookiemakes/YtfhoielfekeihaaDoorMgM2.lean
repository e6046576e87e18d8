/- Texts of the seat, one behind the other. No condition of its own. -/
import Derived.Test.YtfhoielfekeihaaDoorMgM1
import Derived.RangeFuncNested
import Derived.RangeFuncBox
import Derived.RangeFuncBound
import Derived.RangeFuncCalls
import Derived.RangeFuncLeaves
import Derived.Shelf.Abstract
import Derived.Shelf.RegionOpen
import Derived.OwnWalkIn
import Derived.TacticsInMore
import Derived.LoopNIn
import Derived.LoopIn
import Derived.ArgAppend
import Derived.Deep.MidRow
import Derived.Laws.CopyRow
import Derived.Laws.Tables
import Derived.TacticsIn
/- Slices of numbers in memory: what reads as a list of numbers, what append makes of it; what a loop over an iterator keeps. No condition of its own. -/
namespace Go.Proofs.YtfhoielfekeihaaDoor
open Go.RowKit Go.Shelf
set_option linter.unusedVariables false
set_option linter.unusedSimpArgs false

/-- A slice that reads as these numbers. -/
def NumsAt (k : IntKind) (w : World) (v : Value) (l : List Int) : Prop :=
  l.length ≤ maxLen ∧ ((l = [] ∧ v = .slice none 0 0) ∨
    ∃ ad cap, v = .slice (some ad) l.length cap ∧ l.length ≤ cap ∧ cap ≤ maxLen ∧ ∀ j, j < l.length → w.cell? (ad.add j) = some (.int k (l.getD j 0)))

def blockOf : Value → Option Nat
  | .slice (some ad) _ _ => some ad.block
  | _ => none
theorem add_block (a : Addr) (j : Nat) : (a.add j).block = a.block := by unfold Addr.add; split <;> rfl
/-- It reads so wherever its block lies as it lay. -/
theorem NumsAt.via {k : IntKind} {w w' : World} {v : Value} {l : List Int} (h : NumsAt k w v l) (hb : ∀ b, blockOf v = some b → b < w.heap.size → w'.heap[b]? = w.heap[b]?) : NumsAt k w' v l := by
  obtain ⟨h2, h3⟩ := h
  refine ⟨h2, h3.imp id ?_⟩
  rintro ⟨ad, cap, rfl, h4, h5, hc⟩
  refine ⟨ad, cap, rfl, h4, h5, fun j hj => ?_⟩
  have h0 := hc j hj
  have hlt := cell_lt h0
  rw [add_block] at hlt
  refine (World.cell?_of_block ?_).trans h0
  rw [add_block]
  exact hb _ rfl hlt
theorem NumsAt.ext {k : IntKind} {w w' : World} {v : Value} {l : List Int} (h : NumsAt k w v l) (he : Ext w w') : NumsAt k w' v l := h.via fun b _ hb => he.block b hb
theorem NumsAt.nothing (k : IntKind) (w : World) : NumsAt k w (.slice none 0 0) [] := ⟨by simp, .inl ⟨rfl, rfl⟩⟩
theorem NumsAt.form {k : IntKind} {w : World} {v : Value} {l : List Int} (h : NumsAt k w v l) :
    ∃ a cap, v = .slice a l.length cap ∧ (l.length ≤ cap ∧ cap ≤ maxLen) ∧ ∀ j, j < l.length → ∃ b off, a = some ⟨b, off, none⟩ ∧ w.cell? ⟨b, off + j, none⟩ = some (.int k (l.getD j 0)) := by
  obtain ⟨_, ⟨rfl, rfl⟩ | ⟨ad, cap, rfl, h4, h5, hc⟩⟩ := h
  · exact ⟨.none, 0, rfl, ⟨by simp, by simp⟩, fun j hj => by simp at hj⟩
  · refine ⟨some ad, cap, rfl, ⟨h4, h5⟩, fun j hj => ?_⟩
    obtain ⟨b, off, spot⟩ := ad
    have h0 := hc 0 (by omega)
    have hs : spot = .none := by simpa [Addr.add] using World.cell?_spot h0
    subst hs
    refine ⟨b, off, rfl, ?_⟩
    have := hc j hj
    rwa [add_plain] at this
/-- Out of a row of the argument's. -/
theorem NumsAt.of_row {k : IntKind} {w : World} {x : Addr} {len cap : Nat} {zs : List Int} (hl : len ≤ cap) (hm : cap ≤ maxLen) (hz : zs.length = cap) (hc : ∀ i, i < zs.length → w.cell? (x.add i) = some (.int k (zs.getD i 0))) :
    NumsAt k w (.slice (some x) len cap) (zs.take len) := by
  have hlen : (zs.take len).length = len := by simp; omega
  refine ⟨by omega, .inr ⟨x, cap, by rw [hlen], by omega, hm, fun j hj => ?_⟩⟩
  rw [hlen] at hj
  rw [hc j (by omega)]
  simp [List.getD_eq_getElem?_getD, hj]
/-- A part of it. -/
theorem NumsAt.sliced {k : IntKind} {w : World} {a : Option Addr} {n c : Nat} {l : List Int} (h : NumsAt k w (.slice a n c) l) (lo hi : Nat) (h1 : lo ≤ hi) (h2 : hi ≤ l.length) : NumsAt k w (Go.sliced a lo hi c 1) ((l.take hi).drop lo) := by
  obtain ⟨hm, h3 | ⟨ad, cap, e1, hle, hcm, hc⟩⟩ := h
  · obtain ⟨rfl, e1⟩ := h3
    simp only [Value.slice.injEq] at e1
    obtain ⟨rfl, rfl, rfl⟩ := e1
    simp at h2
    obtain rfl : hi = 0 := h2
    obtain rfl : lo = 0 := by omega
    exact ⟨by simp, .inl ⟨rfl, rfl⟩⟩
  · simp only [Value.slice.injEq] at e1
    obtain ⟨rfl, rfl, rfl⟩ := e1
    refine ⟨by simp; omega, .inr ⟨if c = lo then ad else ad.add lo, c - lo, ?_, by simp; omega, by omega, fun j hj => ?_⟩⟩
    · simp only [Go.sliced, List.length_drop, List.length_take, Nat.mul_one, Option.map_some]
      rw [show min hi l.length = hi by omega]
      split <;> rfl
    · simp only [List.length_drop, List.length_take] at hj
      rw [if_neg (by omega)]
      have h0 := hc (lo + j) (by omega)
      have e2 : (ad.add lo).add j = ad.add (lo + j) := by
        unfold Addr.add
        by_cases hl : lo = 0 <;> by_cases hj0 : j = 0 <;> simp [hl, hj0, Nat.add_assoc]
      rw [e2, h0]
      simp [List.getD_eq_getElem?_getD, List.getElem?_drop, show lo + j < hi by omega]

/-- What is known of a slice's type and its elements'. -/
structure NumT (P : Program) (t e : TypeId) (k : IntKind) (by8 : Nat) : Prop where
  ut : P.underlying t = some (.slice e)
  ue : P.underlying e = some (.int k)
  info : (P.info? e).map (fun i => (i.zero, i.size, i.bytes)) = some (some (.int k 0), 1, by8)
theorem NumT.ex {P : Program} {t e : TypeId} {k : IntKind} {by8 : Nat} (h : NumT P t e k by8) : ∃ i, P.info? e = some i ∧ i.zero = some (.int k 0) ∧ i.size = 1 ∧ i.bytes = by8 := by
  obtain ⟨i, hi, h2⟩ := Option.map_eq_some_iff.1 h.info
  simp only [Prod.mk.injEq] at h2
  exact ⟨i, hi, h2.1, h2.2.1, h2.2.2⟩

/-- A slice of numbers in a block of the call's own (or none). -/
def OwnN (k : IntKind) (w : World) (base : Nat) (e : TypeId) (v : Value) (l : List Int) : Prop := w.ownsRow base e 1 v l.length (l.map (Value.int k)) ∧ l.length ≤ maxLen
theorem OwnN.nil (k : IntKind) (w : World) (base : Nat) (e : TypeId) : OwnN k w base e (.slice none 0 0) [] := ⟨World.ownsRow_nil _ _ _ _, by simp⟩
theorem OwnN.slice {k : IntKind} {w : World} {base : Nat} {e : TypeId} {v : Value} {l : List Int} (h : OwnN k w base e v l) : ∃ a cap, v = .slice a l.length cap ∧ (a = .none → l = [] ∧ cap = 0) ∧ (∀ x, a = some x → ∃ g, x = ⟨g, 0, .none⟩ ∧ base ≤ g ∧ g < w.heap.size) := by
  rcases h.1.2 with ⟨rfl, h0⟩ | ⟨g, cap, cur, rfl, hb, hg, _⟩
  · have : l = [] := List.eq_nil_of_length_eq_zero h0
    subst this
    exact ⟨.none, 0, rfl, fun _ => ⟨rfl, rfl⟩, fun x hx => by cases hx⟩
  · exact ⟨_, _, rfl, (fun h => by cases h), (fun x hx => by cases hx; exact ⟨g, rfl, hb, (Array.getElem?_eq_some_iff.1 hg).1⟩)⟩
theorem OwnN.nums {k : IntKind} {w : World} {base : Nat} {e : TypeId} {v : Value} {l : List Int} (h : OwnN k w base e v l) : NumsAt k w v l := by
  refine ⟨h.2, ?_⟩
  rcases h.1.2 with ⟨rfl, h0⟩ | ⟨g, cap, cur, rfl, hb, hg, hnc, hcm, _⟩
  · exact .inl ⟨List.eq_nil_of_length_eq_zero h0, rfl⟩
  · refine .inr ⟨⟨g, 0, .none⟩, cap, rfl, hnc, hcm, fun j hj => ?_⟩
    have := h.1.cellAt j (by omega)
    rw [add_plain, Nat.zero_add, this]
    simp [List.getD_eq_getElem?_getD, hj]
theorem OwnN.kept {k : IntKind} {w w' : World} {base : Nat} {e : TypeId} {v : Value} {l : List Int} {row : Option Nat} (h : OwnN k w base e v l) (hg : w.grownBy w' row) (hne : v.ownBlock = .none ∨ v.ownBlock ≠ row) : OwnN k w' base e v l := ⟨h.1.kept hg hne, h.2⟩
theorem OwnN.ext {k : IntKind} {w w' : World} {base : Nat} {e : TypeId} {v : Value} {l : List Int} (h : OwnN k w base e v l) (he : Ext w w') : OwnN k w' base e v l :=
  h.kept (row := .none) ⟨he.os, he.tape, he.output, he.size, fun j hj _ => he.block j hj⟩ (by
    rcases h.1.2 with ⟨rfl, _⟩ | ⟨g, cap, cur, rfl, _⟩
    · exact .inl rfl
    · exact .inr (by simp [Value.ownBlock]))

/-- append onto a slice of the call's own, of whatever reads as numbers. -/
theorem run_append_nums {P : Program} {t e : TypeId} {k : IntKind} {by8 : Nat} (hT : NumT P t e k by8) (w : World) (base ty : Nat) (v x : Value) (l m : List Int) (hv : OwnN k w base e v l) (hx : NumsAt k w x m)
    (hlen : (l.length + m.length) * by8 ≤ 140737488355328) (hlen2 : l.length + m.length ≤ 140737488355328) (hbase : base ≤ w.heap.size) :
    ∃ v' w', (Builtin.append_ #[t, t] ty #[v, x]).run P w = .ok v' w' ∧ OwnN k w' base e v' (l ++ m) ∧ w.grownBy w' v.ownBlock ∧ (v'.ownBlock = v.ownBlock ∨ v'.ownBlock = some w.heap.size) := by
  obtain ⟨i, hi, hz, hs, hby⟩ := hT.ex
  obtain ⟨hm2, hx⟩ := hx
  rcases hx with ⟨rfl, rfl⟩ | ⟨ad, c, rfl, _, _, hc⟩
  · refine ⟨_, w, run_append_owned_none w base t ty e i 1 hT.ut hi _ _ _ hv.1, ?_, World.grownBy.refl _ _, .inl rfl⟩
    rw [List.append_nil]; exact hv
  · obtain ⟨v', w', hr, h2, h3, h4, h5⟩ := run_append_own_at (P := P) w base t ty e i (.int k 0) 1 by8 hT.ut hi hz hs hby rfl (by omega) v l.length (l.map (Value.int k)) hv.1 ad m.length c (m.map (Value.int k)) (by simp)
      (fun j u hu => by
        rw [List.getElem?_map] at hu
        obtain ⟨y, hy, rfl⟩ := Option.map_eq_some_iff.1 hu
        have hj : j < m.length := (List.getElem?_eq_some_iff.1 hy).1
        rw [hc j hj]
        simp [List.getD_eq_getElem?_getD, hy])
      (fun u hu => by
        obtain ⟨y, _, rfl⟩ := List.mem_map.1 hu
        rfl) (by unfold maxLen; omega) hlen hbase
    refine ⟨v', w', hr, ⟨by simpa using h2, by simp [maxLen]; omega⟩, h3, h5⟩

/-- The same at the operation, in a plain region. -/
theorem wpList_append_nums {P : Program} {t e : TypeId} {k : IntKind} {by8 : Nat} (hT : NumT P t e k by8) {w : World} {ops : Array Oper} {rest : List Oper} {o : Oper} {a : Act} {Q : Exit → Act → World → Prop} (hgd : o.guard = none) (s x : Operand)
    (ho : o.op = .call { callee := .builtin .append, args := #[s, x], argTypes := #[t, t] }) (base : Nat) (l m : List Int) (hv : OwnN k w base e (a.eval s) l) (hx : NumsAt k w (a.eval x) m)
    (hlen : (l.length + m.length) * by8 ≤ 140737488355328) (hlen2 : l.length + m.length ≤ 140737488355328) (hbase : base ≤ w.heap.size)
    (h : ∀ ad cap w', OwnN k w' base e (.slice ad (l ++ m).length cap) (l ++ m) → w.grownBy w' (a.eval s).ownBlock → ((Value.slice ad (l ++ m).length cap).ownBlock = (a.eval s).ownBlock ∨ (Value.slice ad (l ++ m).length cap).ownBlock = some w.heap.size) → wpList P ops Q rest (a.put o.dst (.slice ad (l ++ m).length cap)) w') : wpList P ops Q (o :: rest) a w := by
  refine wpList_plain hgd fun K hK => ?_
  obtain ⟨v', w', hr, h2, h3, h4⟩ := run_append_nums hT w base o.type _ _ l m hv hx hlen hlen2 hbase
  obtain ⟨ad, cap, rfl, _⟩ := h2.slice
  unfold Oper.wp
  simp only [execOp, ho, resolve, invoke, builtin, Sem.run_bind, Sem.run_pure, Result.andThen_ok, List.map_toArray, List.map_cons, List.map_nil, hr]
  exact hK _ _ (h ad cap w' h2 h3 h4)

/-- The same inside a fence. -/
theorem wpListIn_append_nums {F : Fence} {n : Nat} {P : Program} {t e : TypeId} {k : IntKind} {by8 : Nat} (hT : NumT P t e k by8) {w : World} {ops : Array Oper} {rest : List Oper} {o : Oper} {a : Act} {Q : Exit → Act → World → Prop} (hgd : o.guard = none) (s x : Operand)
    (ho : o.op = .call { callee := .builtin .append, args := #[s, x], argTypes := #[t, t] }) (base : Nat) (l m : List Int) (hv : OwnN k w base e (a.eval s) l) (hx : NumsAt k w (a.eval x) m)
    (hlen : (l.length + m.length) * by8 ≤ 140737488355328) (hlen2 : l.length + m.length ≤ 140737488355328) (hbase : base ≤ w.heap.size)
    (h : ∀ ad cap w', OwnN k w' base e (.slice ad (l ++ m).length cap) (l ++ m) → w.grownBy w' (a.eval s).ownBlock → ((Value.slice ad (l ++ m).length cap).ownBlock = (a.eval s).ownBlock ∨ (Value.slice ad (l ++ m).length cap).ownBlock = some w.heap.size) → wpListIn F n P ops Q rest (a.put o.dst (.slice ad (l ++ m).length cap)) w') : wpListIn F n P ops Q (o :: rest) a w := by
  refine wpListIn_plain hgd fun K hK' => ?_
  obtain ⟨v', w', hrun, h2, h3, h4⟩ := run_append_nums hT w base o.type _ _ l m hv hx hlen hlen2 hbase
  obtain ⟨ad, cap, rfl, _⟩ := h2.slice
  unfold Oper.wpIn
  refine ⟨?_, ?_⟩
  · simp [Oper.about, ho, resolve, Target.leads, Sem.run_pure]
  · rw [Oper.semAt_plain F _ _ (by rw [ho]; intro c hc'; cases hc')]
    simp only [execOp, ho, resolve, invoke, builtin, Sem.run_bind, Sem.run_pure, Result.andThen_ok, List.map_toArray, List.map_cons, List.map_nil, hrun]
    exact hK' _ _ (h ad cap w' h2 h3 h4)

/-- Two slices of the call's own, in two blocks. -/
def Apart (u v : Value) : Prop := ∀ g, u.ownBlock = some g → v.ownBlock ≠ some g
theorem Apart.symm {u v : Value} (h : Apart u v) : Apart v u := fun g hg hu => h g hu hg
theorem OwnN.lt {k : IntKind} {w : World} {base : Nat} {e : TypeId} {v : Value} {l : List Int} (h : OwnN k w base e v l) {g : Nat} (hg : v.ownBlock = some g) : base ≤ g ∧ g < w.heap.size := by
  rcases h.1.2 with ⟨rfl, _⟩ | ⟨g', cap, cur, rfl, hb, hgb, _⟩
  · simp [Value.ownBlock] at hg
  · simp [Value.ownBlock] at hg
    subst hg
    exact ⟨hb, (Array.getElem?_eq_some_iff.1 hgb).1⟩
theorem Apart.grown {u u' v : Value} {N : Nat} (h : Apart u v) (hv : ∀ g, v.ownBlock = some g → g < N) (h4 : u'.ownBlock = u.ownBlock ∨ u'.ownBlock = some N) : Apart u' v := fun g hg hvg => by
  rcases h4 with h4 | h4
  · rw [h4] at hg; exact h g hg hvg
  · rw [h4] at hg; cases hg; have := hv _ hvg; omega
theorem OwnN.keptA {k : IntKind} {w w' : World} {base : Nat} {e : TypeId} {u v : Value} {l : List Int} (h : OwnN k w base e v l) (hg : w.grownBy w' u.ownBlock) (ha : Apart u v) : OwnN k w' base e v l := by
  refine h.kept hg ?_
  cases hv : v.ownBlock with
  | none => exact .inl rfl
  | some g => exact .inr (fun e' => ha g e'.symm hv)
theorem NumsAt.one {k : IntKind} (w : World) (x : Int) (t b : Nat) (hb : b = w.heap.size) : NumsAt k (w.alloc (.cells #[.int k x] t)) (.slice (some ⟨b, 0, none⟩) 1 1) [x] := by
  refine ⟨by simp [maxLen], .inr ⟨⟨b, 0, none⟩, 1, rfl, by simp, by simp [maxLen], fun j hj => ?_⟩⟩
  obtain rfl : j = 0 := by simp at hj; exact hj
  rw [add_plain, cellNew _ _ _ _ _ _ hb]
  rfl
theorem OwnN.stored {k : IntKind} {w : World} {base g n c : Nat} {e : TypeId} {l : List Int} (h : OwnN k w base e (.slice (some ⟨g, 0, none⟩) n c) l) (j : Nat) (x : Int) : OwnN k (w.setCell ⟨g, j, none⟩ (.int k x)) base e (.slice (some ⟨g, 0, none⟩) n c) (l.set j x) ∧ w.grownBy (w.setCell ⟨g, j, none⟩ (.int k x)) (some g) := by
  have hn : n = l.length := by
    obtain ⟨a, c', e1, _⟩ := h.slice
    simp only [Value.slice.injEq] at e1
    exact e1.2.1
  subst hn
  have hs := h.1.stored j (.int k x)
  refine ⟨⟨?_, by simpa using h.2⟩, hs.2⟩
  rw [List.length_set, List.map_set]
  exact hs.1
theorem OwnN.below {k : IntKind} {w w0 w' : World} {base : Nat} {e : TypeId} {v : Value} {l : List Int} (h : OwnN k w base e v l) (hb : Below base w0 w) (hg : w.grownBy w' v.ownBlock) (hs : base ≤ w.heap.size) : Below base w0 w' :=
  hb.grown hg hs (fun j ej => (h.lt ej).1)
end Go.Proofs.YtfhoielfekeihaaDoor

/- One number put behind a slice of the call's own: in place, or in a new block. No condition of its own. -/
namespace Go.Proofs.YtfhoielfekeihaaDoor
open Go.RowKit
set_option linter.unusedVariables false

theorem OwnN.lit0 (k : IntKind) (w : World) (base : Nat) (e : TypeId) (b : Nat) (hb : b = w.heap.size) (hbase : base ≤ w.heap.size) : OwnN k (w.alloc (.cells #[] e)) base e (.slice (some ⟨b, 0, none⟩) 0 0) [] := by
  subst hb
  have := World.ownsRow_lit (base := base) (e := e) (size := 1) w #[] 0 hbase (by simp) (by simp)
  exact ⟨by simpa using this, by simp⟩

/-- One number put behind, to the block. -/
theorem run_push {P : Program} {t e : TypeId} {k : IntKind} {by8 : Nat} (hT : NumT P t e k by8) (w : World) (base ty g cap : Nat) (u : Value) (l : List Int) (x : Int) (hv : OwnN k w base e (.slice (some ⟨g, 0, none⟩) l.length cap) l) (hu : NumsAt k w u [x])
    (hlen : (l.length + 1) * by8 ≤ 140737488355328) (hlen2 : l.length + 1 ≤ 140737488355328) :
    ∃ v' w', (Builtin.append_ #[t, t] ty #[.slice (some ⟨g, 0, none⟩) l.length cap, u]).run P w = .ok v' w' ∧
      ((v' = .slice (some ⟨g, 0, none⟩) (l.length + 1) cap ∧ OwnN k w' base e v' (l ++ [x]) ∧ w.grownBy w' (some g)) ∨ (OwnN k w' w.heap.size e v' (l ++ [x]) ∧ w.grownBy w' none)) := by
  obtain ⟨i, hi, hz, hs, hby⟩ := hT.ex
  obtain ⟨_, ⟨h0, _⟩ | ⟨ad, c, rfl, _, _, hc⟩⟩ := hu
  · cases h0
  have hnews : ∀ j v, ([Value.int k x] : List Value)[j]? = some v → w.cell? (ad.add j) = some v := fun j v hj => by
    cases j with
    | zero => simp at hj; subst hj; simpa using hc 0 (by simp)
    | succ j => simp at hj
  by_cases hf : l.length + 1 ≤ cap
  · obtain ⟨w', hr, h1, h2⟩ := run_append_fits (P := P) w base t ty e i 1 hT.ut hi hs g l.length cap (l.map (Value.int k)) hv.1 ad 1 c [.int k x] (by simp) hnews (by simp [Value.oneCell']) hf
    exact ⟨_, w', hr, .inl ⟨rfl, ⟨by simpa using h1, by simp [maxLen]; omega⟩, h2⟩⟩
  · obtain ⟨v', w', hr, h1, h2⟩ := run_append_arg_grows (P := P) w t ty e i (.int k 0) 1 by8 hT.ut hi hz hs hby rfl (by omega) ⟨g, 0, none⟩ l.length cap (l.map (Value.int k)) (by simp) (fun j v hj => by
      have hjl : j < l.length := by
        have := (List.getElem?_eq_some_iff.1 hj).1
        simpa using this
      rw [add_plain, Nat.zero_add, hv.1.cellAt j (by omega)]; exact hj) ad 1 c [.int k x] (by simp) hnews (by omega) (by unfold maxLen; omega) hlen
    exact ⟨v', w', hr, .inr ⟨⟨by simpa using h1, by simp [maxLen]; omega⟩, h2⟩⟩

/-- What a loop that puts numbers behind a slice keeps: all that lay, but the slice's first block. -/
theorem grown_push {W3 wr w' : World} {c : Nat} {o : Obj} {v : Value} (h : W3.grownBy wr (some c)) (hb : ∀ g, v.ownBlock = some g → g = c ∨ W3.heap.size ≤ g) (hg : (wr.alloc o).grownBy w' v.ownBlock) : W3.grownBy w' (some c) := by
  refine ⟨hg.os.trans h.os, hg.tape.trans h.tape, hg.output.trans h.output, Nat.le_trans h.size (Nat.le_trans (by simp) hg.size), fun k hk hne => ?_⟩
  have hk2 : k < wr.heap.size := Nat.lt_of_lt_of_le hk h.size
  rw [hg.block k (by simp; omega) (fun e => by
    rcases hb k e.symm with h' | h'
    · exact hne (by rw [h'])
    · omega), Below.heap_alloc _ _ _ hk2]
  exact h.block k hk hne
theorem own_push {W3 : World} {c N : Nat} {v v' : Value} (hb : ∀ g, v.ownBlock = some g → g = c ∨ W3.heap.size ≤ g) (h4 : v'.ownBlock = v.ownBlock ∨ v'.ownBlock = some N) (hN : W3.heap.size ≤ N) : ∀ g, v'.ownBlock = some g → g = c ∨ W3.heap.size ≤ g := by
  intro g hg
  rcases h4 with h4 | h4
  · rw [h4] at hg; exact hb g hg
  · rw [h4] at hg; cases hg; exact .inr hN
theorem ext_row {w1 wr : World} {o : Obj} {c : Nat} (hc : c = w1.heap.size) (hg : (w1.alloc o).grownBy wr (some c)) : Ext w1 wr :=
  ⟨hg.os, hg.tape, hg.output, Nat.le_trans (by simp) hg.size, fun k hk => (hg.block k (by simp; omega) (by simp; omega)).trans (Below.heap_alloc _ _ _ hk)⟩
end Go.Proofs.YtfhoielfekeihaaDoor

/- A law on regions that draw their order and write: the writers stand in one chain, every other operation yields the same in each of the worlds between them. No condition of its own. -/
namespace Go.Proofs.YtfhoielfekeihaaDoor
open Go

/-- What is owed for operation number i, from world w to world w'. -/
def GoodS (P : Program) (mk : Tmp → Option Nat) (a0 : Act) (V : Nat → Value → Prop) (i : Nat) (o : Oper) (w w' : World) : Prop :=
  ∀ (r : Operand → Value), factsOf mk a0 (fun j _ v => V j v) r w o.op.operands.toList →
    match o.guard with
    | none => give P (fun v x => x = w' ∧ V i v) ((execOp r o).run P w)
    | some (g, want) => ∀ b, V g b → if asBool b == some want then give P (fun v x => x = w' ∧ V i v) ((execOp r o).run P w) else (w' = w ∧ V i undef)

section
variable {P : Program} {mk : Tmp → Option Nat} {ops : List Oper} {a0 : Act} {V : Nat → Value → Prop} {Q : Exit → Act → World → Prop} {n : Nat}

def SInv (ops : List Oper) (a0 : Act) (V : Nat → Value → Prop) (wr : List Nat) (Ws : Nat → World) (listed : Array Bool) (a : Act) (w : World) : Prop :=
  Inv ops a0 (fun _ _ => True) (fun j _ v => V j v) (Ws 0) listed a w ∧ ∃ k, k ≤ wr.length ∧ w = Ws k ∧ ∀ j, j < wr.length → listed.getD (wr.getD j 0) false = decide (j < k)

theorem getD_set_self {l : Array Bool} {i : Nat} (h : l.getD i true = false) : (l.setIfInBounds i true).getD i false = true := by
  have hlt : i < l.size := by
    rcases Nat.lt_or_ge i l.size with h' | h'
    · exact h'
    · simp [Array.getElem?_eq_none h'] at h
  simp [hlt]
theorem getD_false {l : Array Bool} {i : Nat} (h : l.getD i true = false) : l.getD i false = false := by
  have hlt : i < l.size := by
    rcases Nat.lt_or_ge i l.size with h' | h'
    · exact h'
    · simp [Array.getElem?_eq_none h'] at h
  simpa [hlt] using h

theorem staged_any (hsh : shapeB mk ops n = true) (hn : a0.tmps.size = n) (wr : List Nat) (Ws : Nat → World)
    (hinj : ∀ i j, i < wr.length → j < wr.length → wr.getD i 0 = wr.getD j 0 → i = j)
    (hch : ∀ j o, j + 1 < wr.length → ops[wr.getD (j + 1) 0]? = some o → afterB o (wr.getD j 0) = true)
    (hG : ∀ i o, ops[i]? = some o → (∀ j, j < wr.length → wr.getD j 0 ≠ i) → ∀ k, k ≤ wr.length → GoodS P mk a0 V i o (Ws k) (Ws k))
    (hWr : ∀ k o, k < wr.length → ops[wr.getD k 0]? = some o → GoodS P mk a0 V (wr.getD k 0) o (Ws k) (Ws (k + 1)))
    (hQ : ∀ a w, (∀ listed, SInv ops a0 V wr Ws (Array.replicate ops.length listed) a w → listed = true → Q .normal a w)) :
    ∀ (fuel : Nat) (listed : Array Bool) (a : Act) (w : World), listed.size = ops.length → listed.countP (· == false) ≤ fuel → SInv ops a0 V wr Ws listed a w → wpAny P .any ops.toArray Q fuel listed a w := by
  have ready_nil : ∀ (listed : Array Bool), listed.size = ops.length → Region.ready .any ops.toArray listed = [] → listed = Array.replicate ops.length true := by
    intro listed hs hr
    have key : ∀ i, i < ops.length → listed.getD i false = true := by
      intro i
      induction i using Nat.strongRecOn with
      | _ i ih =>
        intro hi
        cases hb : listed.getD i false with
        | true => rfl
        | false =>
          exfalso
          have ho : ops[i]? = some ops[i] := by simp [hi]
          have : i ∈ Region.ready .any ops.toArray listed := by
            rw [mem_ready]
            refine ⟨by simpa [hs, hi] using hb, ops[i], by simp [hi], fun e he hbi => ?_⟩
            have hsp := shape_spec hsh ho
            simp only [shapeOneB, Bool.and_eq_true] at hsp
            have h5 := Array.all_eq_true_iff_forall_mem.1 hsp.2 e he
            simp [hbi] at h5
            exact ih e.on h5 (by omega)
          rw [hr] at this
          cases this
    apply Array.ext
    · simp [hs]
    · intro i h1 h2
      have := key i (by omega)
      simpa [h1] using this
  have fin : ∀ (listed : Array Bool) (a : Act) (w : World), listed.size = ops.length → SInv ops a0 V wr Ws listed a w → Region.ready .any ops.toArray listed = [] → Q .normal a w := by
    intro listed a w hs hI hr
    have := ready_nil listed hs hr
    subst this
    exact hQ a w true hI rfl
  intro fuel
  induction fuel with
  | zero =>
    intro listed a w hs hc hI
    have hr : Region.ready .any ops.toArray listed = [] := by
      cases hr : Region.ready .any ops.toArray listed with
      | nil => rfl
      | cons j js =>
        exfalso
        have hj : j ∈ Region.ready .any ops.toArray listed := by rw [hr]; simp
        have h0 := (mem_ready.1 hj).1
        have hlt : j < listed.size := by
          rcases Nat.lt_or_ge j listed.size with h | h
          · exact h
          · simp [Array.getElem?_eq_none h] at h0
        have h1 : listed.countP (· == false) = 0 := by omega
        rw [Array.countP_eq_zero] at h1
        have h2 : listed[j] = false := by simpa [hlt] using h0
        have := h1 listed[j] (Array.getElem_mem hlt)
        simp [h2] at this
    exact ⟨hr, fin listed a w hs hI hr⟩
  | succ fuel ih =>
    intro listed a w hs hc hI
    refine ⟨fin listed a w hs hI, fun i hi => ?_⟩
    obtain ⟨hl, o, ho', hall⟩ := mem_ready.1 hi
    have ho : ops[i]? = some o := by simpa using ho'
    obtain ⟨hB, k, hk, rfl, hst⟩ := hI
    have hfacts := factsOf_mk (hB.facts hsh ho hall)
    -- the world behind it, and what is owed
    obtain ⟨k', hk', hg, hst'⟩ : ∃ k', k' ≤ wr.length ∧ GoodS P mk a0 V i o (Ws k) (Ws k') ∧ ∀ j, j < wr.length → (listed.setIfInBounds i true).getD (wr.getD j 0) false = decide (j < k') := by
      by_cases hw : ∃ j, j < wr.length ∧ wr.getD j 0 = i
      · obtain ⟨j, hj, hji⟩ := hw
        have hnl : listed.getD (wr.getD j 0) false = false := by rw [hji]; exact getD_false hl
        have hjk : ¬ j < k := by
          intro h
          rw [hst j hj, decide_eq_true h] at hnl
          cases hnl
        have hkj : j = k := by
          rcases Nat.lt_or_ge k j with h | h
          · exfalso
            obtain ⟨j', rfl⟩ : ∃ j', j = j' + 1 := ⟨j - 1, by omega⟩
            have ha := hch j' o hj (by rw [hji]; exact ho)
            obtain ⟨e, he, hb, hon⟩ := after_spec ha
            have h2 := hall e he hb
            rw [hon, hst j' (by omega)] at h2
            have : j' < k := of_decide_eq_true h2
            omega
          · omega
        subst hkj
        refine ⟨j + 1, by omega, by rw [← hji]; exact hWr j o hj (by rw [hji]; exact ho), fun j2 hj2 => ?_⟩
        by_cases e : j2 = j
        · subst e
          rw [hji, getD_set_self hl]
          exact (decide_eq_true (by omega)).symm
        · rw [getD_set_ne false (fun h => e (hinj j2 j hj2 hj (by rw [← h, hji]))), hst j2 hj2]
          congr 1
          simp only [eq_iff_iff]; omega
      · have hne : ∀ j, j < wr.length → wr.getD j 0 ≠ i := fun j hj e => hw ⟨j, hj, e⟩
        exact ⟨k, hk, hG i o ho hne k hk, fun j hj => by rw [getD_set_ne false (hne j hj).symm, hst j hj]⟩
    have hg := hg a.eval hfacts
    unfold wpOp
    simp only [ho']
    have next : ∀ v w', w' = Ws k' ∧ V i v → wpAny P .any ops.toArray Q fuel (listed.setIfInBounds i true) (a.put o.dst v) w' := fun v w' ⟨h1, h2⟩ => by
      subst h1
      exact ih _ _ _ (by simp [hs]) (count_set hl hc) ⟨hB.put hsh hn (fun _ _ _ _ _ h => h) (fun _ _ _ _ _ => trivial) ho hl trivial h2, k', hk', rfl, hst'⟩
    cases hgd : o.guard with
    | none =>
      simp only [hgd] at hg
      simp only [Region.wanted, hgd, if_true]
      exact .inl (give_wp hg next)
    | some gw =>
      obtain ⟨g, want⟩ := gw
      simp only [hgd] at hg
      have hsp := shape_spec hsh ho
      simp only [shapeOneB, hgd, Bool.and_eq_true] at hsp
      obtain ⟨e, he, hb, rfl⟩ := after_spec hsp.1.1.2.1
      obtain ⟨d, hd⟩ := Option.isSome_iff_exists.1 hsp.1.1.2.2
      obtain ⟨og, hog, hdg⟩ := Option.bind_eq_some_iff.1 hd
      obtain ⟨v, h3, h4⟩ := hB.done e.on og hog (hall e he hb)
      have hv := h3 d hdg
      have hy : yielded ops.toArray a.tmps e.on = asBool v := by
        unfold yielded
        simp only [List.getElem?_toArray, hog, Option.bind_some, hdg, hv]
        cases v <;> rfl
      have := hg v h4
      simp only [Region.wanted, hgd, hy]
      split
      · rename_i hw
        rw [if_pos hw] at this
        exact .inl (give_wp this next)
      · rename_i hw
        rw [if_neg hw] at this
        exact next _ _ ⟨this.1.symm, this.2⟩
end

def GoodSAll (P : Program) (mk : Tmp → Option Nat) (a0 : Act) (V : Nat → Value → Prop) (wr : List Nat) (Ws : Nat → World) : Nat → List Oper → Prop
  | _, [] => True
  | i, o :: l => (if wr.contains i then GoodS P mk a0 V i o (Ws (wr.idxOf i)) (Ws (wr.idxOf i + 1)) else ∀ k, k ≤ wr.length → GoodS P mk a0 V i o (Ws k) (Ws k)) ∧ GoodSAll P mk a0 V wr Ws (i + 1) l
theorem GoodSAll.at {P : Program} {mk : Tmp → Option Nat} {a0 : Act} {V : Nat → Value → Prop} {wr : List Nat} {Ws : Nat → World} : ∀ {ops : List Oper} {s : Nat}, GoodSAll P mk a0 V wr Ws s ops → ∀ i o, ops[i]? = some o → (if wr.contains (s + i) then GoodS P mk a0 V (s + i) o (Ws (wr.idxOf (s + i))) (Ws (wr.idxOf (s + i) + 1)) else ∀ k, k ≤ wr.length → GoodS P mk a0 V (s + i) o (Ws k) (Ws k))
  | [], _, _, i, o, ho => by simp at ho
  | _ :: _, s, h, 0, o, ho => by simp at ho; subst ho; exact h.1
  | _ :: l, s, h, i + 1, o, ho => by
    have := GoodSAll.at (ops := l) h.2 i o (by simpa using ho)
    rwa [show s + 1 + i = s + (i + 1) by omega] at this
theorem GoodSAll.nil {P : Program} {mk : Tmp → Option Nat} {a0 : Act} {V : Nat → Value → Prop} {wr : List Nat} {Ws : Nat → World} {i : Nat} : GoodSAll P mk a0 V wr Ws i [] := trivial
theorem GoodSAll.reads {P : Program} {mk : Tmp → Option Nat} {a0 : Act} {V : Nat → Value → Prop} {wr : List Nat} {Ws : Nat → World} {i : Nat} {o : Oper} {l : List Oper} (hc : wr.contains i = false) (h : ∀ k, k ≤ wr.length → GoodS P mk a0 V i o (Ws k) (Ws k)) (hl : GoodSAll P mk a0 V wr Ws (i + 1) l) : GoodSAll P mk a0 V wr Ws i (o :: l) :=
  ⟨by rw [if_neg (by rw [hc]; simp)]; exact h, hl⟩
theorem GoodSAll.writes {P : Program} {mk : Tmp → Option Nat} {a0 : Act} {V : Nat → Value → Prop} {wr : List Nat} {Ws : Nat → World} {i : Nat} {o : Oper} {l : List Oper} (k : Nat) (hc : wr.contains i = true) (hk : wr.idxOf i = k) (h : GoodS P mk a0 V i o (Ws k) (Ws (k + 1))) (hl : GoodSAll P mk a0 V wr Ws (i + 1) l) : GoodSAll P mk a0 V wr Ws i (o :: l) :=
  ⟨by rw [if_pos hc, hk]; exact h, hl⟩

theorem give_skip {P : Program} {K : Value → World → Prop} {r : Operand → Value} {w : World} {o : Oper} {w' : World} (h : (execOp r o).run P w = .ok .skip w') (hk : K undef w') : give P K ((execOp r o).run P w) := by rw [h]; exact hk
/-- The writers stand in one chain, a closed fact. -/
def chainB (ops : List Oper) (wr : List Nat) : Bool := (List.range wr.length).all fun j => match ops[wr.getD j 0]? with | none => false | some o => j == 0 || afterB o (wr.getD (j - 1) 0)
def onceB (wr : List Nat) : Bool := (List.range wr.length).all fun i => wr.idxOf (wr.getD i 0) == i

/-- THE LAW. -/
theorem wp_region_staged {P : Program} {ops : List Oper} {a0 : Act} {Q : Exit → Act → World → Prop} {id : Nat} {w : World} (mk : Tmp → Option Nat) (n : Nat) (wr : List Nat) (Ws : Nat → World) (Vs : List (Value → Prop))
    (hlen : Vs.length = ops.length) (hm : P.follows .mixedOrders = true) (hsh : shapeB mk ops n = true) (hn : a0.tmps.size = n) (hch : chainB ops wr = true) (ho : onceB wr = true) (hW0 : Ws 0 = w.drew)
    (hG : GoodSAll P mk a0 (fun i => Vs.getD i fun _ => True) wr Ws 0 ops)
    (hQ : ∀ (vs : Nat → Value) (a' : Act), (∀ i, i < Vs.length → (Vs.getD i fun _ => True) (vs i)) → a' = putAll vs ops 0 a0 → Q .normal a' (Ws wr.length)) :
    (Code.region id ops.toArray true).wp P Q a0 w := by
  refine wp_region_any hm ?_
  have hidx : ∀ i, i < wr.length → wr.idxOf (wr.getD i 0) = i := fun i hi => by
    have := List.all_eq_true.1 ho i (List.mem_range.2 hi)
    simpa using this
  have hmem : ∀ i, i < wr.length → wr.contains (wr.getD i 0) = true := fun i hi => by
    rw [List.contains_iff_mem]; simp [List.getD_eq_getElem?_getD, hi]
  have h := staged_any (P := P) (ops := ops) (a0 := a0) (V := fun i => Vs.getD i fun _ => True) (Q := Q) (n := n) hsh hn wr Ws
    (fun i j hi hj e => by rw [← hidx i hi, e, hidx j hj])
    (fun j o hj hoj => by
      have := List.all_eq_true.1 hch (j + 1) (List.mem_range.2 hj)
      rw [hoj] at this
      simpa using this)
    (fun i o hio hne k hk => by
      have := hG.at i o hio
      rw [Nat.zero_add, if_neg (by
        rw [List.contains_iff_mem]
        intro hm'
        obtain ⟨j, hj, e⟩ := List.getElem_of_mem hm'
        exact hne j hj (by simp [List.getD_eq_getElem?_getD, hj, e]))] at this
      exact this k hk)
    (fun k o hk hko => by
      have := hG.at _ o hko
      rw [Nat.zero_add, if_pos (hmem k hk), hidx k hk] at this
      exact this)
    (fun a w' l hI hl => by
      subst hl
      obtain ⟨hB, k, hk, rfl, hst⟩ := hI
      obtain ⟨vs, rfl, hv⟩ := hB.whole hsh hn
      have hkl : k = wr.length := by
        rcases Nat.lt_or_ge k wr.length with h | h
        · exfalso
          have := hst k h
          rw [decide_eq_false (by omega)] at this
          have hlt : wr.getD k 0 < ops.length := by
            have h2 := List.all_eq_true.1 hch k (List.mem_range.2 h)
            rcases Nat.lt_or_ge (wr.getD k 0) ops.length with h' | h'
            · exact h'
            · rw [List.getElem?_eq_none h'] at h2; cases h2
          generalize wr.getD k 0 = q at *
          simp [hlt] at this
        · omega
      subst hkl
      exact hQ vs _ (fun i hi => hv i (by omega)) rfl)
    ops.length (Array.replicate ops.length false) a0 w.drew (by simp) (by
      have := Array.countP_le_size (p := (· == false)) (xs := Array.replicate ops.length false)
      simpa using this) ⟨⟨trivial, rfl, rfl, fun _ _ => rfl, fun i o hi hl => by
        exfalso
        by_cases h : i < ops.length <;> simp [h] at hl⟩, 0, Nat.zero_le _, hW0.symm, fun j hj => by
          rw [decide_eq_false (by omega)]
          generalize wr.getD j 0 = q
          by_cases h : q < ops.length <;> simp [h]⟩
  simpa using h
end Go.Proofs.YtfhoielfekeihaaDoor

/- What a loop keeps but for some blocks; slices of the call's own in their boxes. No condition of its own. -/
namespace Go.Proofs.YtfhoielfekeihaaDoor
open Go Go.RowKit
set_option linter.unusedVariables false

/-- All that lay but the blocks of S lies as it lay. -/
structure KeepBut (S : Nat → Prop) (w w' : World) : Prop where
  os : w'.os = w.os
  tape : w'.tape = w.tape
  output : w'.output = w.output
  size : w.heap.size ≤ w'.heap.size
  block : ∀ k, k < w.heap.size → ¬ S k → w'.heap[k]? = w.heap[k]?
theorem KeepBut.refl (S : Nat → Prop) (w : World) : KeepBut S w w := ⟨rfl, rfl, rfl, Nat.le_refl _, fun _ _ _ => rfl⟩
theorem KeepBut.trans {S : Nat → Prop} {a b c : World} (h : KeepBut S a b) (k : KeepBut S b c) : KeepBut S a c :=
  ⟨k.os.trans h.os, k.tape.trans h.tape, k.output.trans h.output, Nat.le_trans h.size k.size, fun i hi hn => (k.block i (Nat.lt_of_lt_of_le hi h.size) hn).trans (h.block i hi hn)⟩
theorem KeepBut.grown {S : Nat → Prop} {w w' : World} {row : Option Nat} (h : w.grownBy w' row) (hr : ∀ r, row = some r → S r) : KeepBut S w w' :=
  ⟨h.os, h.tape, h.output, h.size, fun k hk hn => h.block k hk (fun e => hn (hr k e.symm))⟩

theorem nums_kept {w w' : World} {row : Option Nat} {v : Value} {l : List Int} (h : NumsAt .i64 w v l) (hg : w.grownBy w' row) (hb : ∀ g, blockOf v = some g → some g ≠ row) : NumsAt .i64 w' v l :=
  h.via fun b hv hlt => hg.block b hlt (hb b hv)
theorem own_kept {w w' : World} {row : Option Nat} {base g n c : Nat} {e : TypeId} {l : List Int} (h : OwnN .i64 w base e (.slice (some ⟨g, 0, none⟩) n c) l) (hg : w.grownBy w' row) (hb : some g ≠ row) : OwnN .i64 w' base e (.slice (some ⟨g, 0, none⟩) n c) l :=
  h.kept hg (.inr (by simpa [Value.ownBlock] using hb))

theorem OwnN.base {k : IntKind} {w : World} {base base' : Nat} {e : TypeId} {v : Value} {l : List Int} (h : OwnN k w base e v l) (hb : base' ≤ base) : OwnN k w base' e v l := by
  refine ⟨⟨h.1.1, ?_⟩, h.2⟩
  rcases h.1.2 with h0 | ⟨g, cap, cur, h1, h2, h3⟩
  · exact .inl h0
  · exact .inr ⟨g, cap, cur, h1, by omega, h3⟩
theorem OwnN.one_of {k : IntKind} {w : World} {base : Nat} {e : TypeId} {v : Value} {l : List Int} {x : Int} (h : OwnN k w base e v (l ++ [x])) : ∃ g c, v = .slice (some ⟨g, 0, none⟩) (l.length + 1) c ∧ base ≤ g ∧ g < w.heap.size := by
  obtain ⟨a, c, e1, h1, h2⟩ := h.slice
  cases a with
  | none => have := (h1 rfl).1; simp at this
  | some z =>
    obtain ⟨g, rfl, h3, h4⟩ := h2 z rfl
    exact ⟨g, c, by simpa using e1, h3, h4⟩
theorem own_other {W : World} {row : Option Nat} (hr : ∀ r, row = some r → ∃ o : Obj, W.heap[r]? = some o ∧ o.isCells = false) {base g n c : Nat} {e : TypeId} {l : List Int} (h : OwnN .i64 W base e (.slice (some ⟨g, 0, none⟩) n c) l) : some g ≠ row := by
  intro e1
  obtain ⟨o, ho, hc⟩ := hr g e1.symm
  rcases h.1.2 with ⟨h0, _⟩ | ⟨g', cap, cur, h0, _, hg, _⟩
  · cases h0
  · cases h0
    rw [hg] at ho; cases ho; cases hc
theorem boxed_not_own {W : World} {B base g n c : Nat} {v : Value} {l : List Int} (hb : Boxed W B 40 v) (h : OwnN .i64 W base 3 (.slice (some ⟨g, 0, none⟩) n c) l) : g ≠ B := by
  rintro rfl
  rcases h.1.2 with ⟨h0, _⟩ | ⟨g', cap, cur, h0, _, hg, _⟩
  · cases h0
  · cases h0
    rw [show W.heap[g]? = _ from hb] at hg
    simp at hg
theorem fold1 (T : Array Value) (i : Tmp) (u : Value) : (#[i].zip #[u]).foldl (fun t (p, w) => t.setIfInBounds p w) T = T.setIfInBounds i u := by simp
theorem fold2 (T : Array Value) (i j : Tmp) (u v : Value) : (#[i, j].zip #[u, v]).foldl (fun t (p, w) => t.setIfInBounds p w) T = (T.setIfInBounds i u).setIfInBounds j v := by simp
theorem OwnN.via {k : IntKind} {w w' : World} {base : Nat} {e : TypeId} {v : Value} {l : List Int} (h : OwnN k w base e v l) (hb : ∀ g, v.ownBlock = some g → w'.heap[g]? = w.heap[g]?) : OwnN k w' base e v l := by
  refine ⟨⟨h.1.1, ?_⟩, h.2⟩
  rcases h.1.2 with h0 | ⟨g, cap, cur, h1, h2, h3, h4⟩
  · exact .inl h0
  · refine .inr ⟨g, cap, cur, h1, h2, ?_, h4⟩
    rw [hb g (by rw [h1]; rfl)]; exact h3
/-- What an iterator's round must keep: the blocks from lo up to hi. -/
def KpR (lo hi : Nat) (W W' : World) : Prop := ∀ k, lo ≤ k → k < hi → W'.heap[k]? = W.heap[k]?
theorem KpR.t {lo hi : Nat} {A B C : World} (h : KpR lo hi A B) (k : KpR lo hi B C) : KpR lo hi A C := fun i h1 h2 => (k i h1 h2).trans (h i h1 h2)
theorem KpR.b {lo hi : Nat} {w : World} (hn : hi ≤ w.heap.size) (W : World) (l : Nat) (o o' : Obj) (hl : w.heap.size ≤ l) (_ : W.heap[l]? = some o) (_ : o.isCells = false) (_ : o.isWalk = false) : KpR lo hi W (W.putObj l o') :=
  fun i _ h2 => World.putObj_heap_other (by omega)
theorem KpR.box {lo hi B : Nat} {W W' : World} {t : TypeId} {v : Value} (h : KpR lo hi W W') (h1 : lo ≤ B) (h2 : B < hi) (hb : Boxed W B t v) : Boxed W' B t v := (h B h1 h2).trans hb
theorem KpR.refl (lo hi : Nat) (W : World) : KpR lo hi W W := fun _ _ _ => rfl
theorem KpR.grown {lo hi : Nat} {W W' : World} {row : Option Nat} (hg : W.grownBy W' row) (hs : hi ≤ W.heap.size) (hr : ∀ r, row = some r → r < lo ∨ hi ≤ r) : KpR lo hi W W' := fun i h1 h2 => hg.block i (by omega) (fun e => by have := hr i e.symm; omega)

end Go.Proofs.YtfhoielfekeihaaDoor

/- Blocks as they lie: cells of a block, stores, boxes that are kept; slices of numbers cut; a block that is put. No condition of its own. -/
namespace Go.Proofs.YtfhoielfekeihaaDoor
open Go.RowKit
set_option linter.unusedVariables false
set_option linter.unusedSimpArgs false

theorem cell_of_block {w : World} {b t : Nat} {C : Array Value} {fr : Nat × Nat} (h : w.heap[b]? = some (.cells C t fr)) (j : Nat) : w.cell? ⟨b, j, none⟩ = C[j]? := by
  simp [World.cell?, h]
theorem frozen_of_block {w : World} {b t : Nat} {C : Array Value} (h : w.heap[b]? = some (.cells C t (0, 0))) (j : Nat) : w.frozen? ⟨b, j, none⟩ = false := by
  simp [World.frozen?, h]
theorem block_set {w : World} {b t : Nat} {C : Array Value} {fr : Nat × Nat} (h : w.heap[b]? = some (.cells C t fr)) (j : Nat) (x : Value) : (w.setCell ⟨b, j, none⟩ x).heap[b]? = some (.cells (C.setIfInBounds j x) t fr) := by
  simp [World.setCell, Array.getElem?_modify, h]
theorem block_other {w : World} {b g : Nat} (hne : g ≠ b) (j : Nat) (x : Value) : (w.setCell ⟨b, j, none⟩ x).heap[g]? = w.heap[g]? := by
  simp [World.setCell, Array.getElem?_modify, Ne.symm hne]
theorem sliced_zero (a : Option Addr) (k c : Nat) : sliced a 0 k c 1 = .slice a k c := by
  have e1 : ∀ x : Addr, x.add 0 = x := fun x => by unfold Addr.add; simp
  unfold sliced
  cases a <;> simp [e1]
theorem exec_slice_hN {P : Program} {t e : TypeId} {q8 : IntKind} {by8 : Nat} (hT : NumT P t e q8 by8) {r : Operand → Value} {o : Oper} {x h : Operand} (ho : o.op = .slice t x none (some h) none) (w : World) (a : Option Addr) (n c k : Nat) (q : IntKind) (h1 : r x = .slice a n c) (h2 : r h = .int q (k : Int)) (hk : k ≤ c) :
    (execOp r o).run P w = .ok (.value (sliced a 0 k c 1)) w := by
  obtain ⟨i, hi, _, _, _⟩ := hT.ex
  have hk' : (k : Int) ≤ c := by omega
  simp [execOp, ho, h1, h2, Instr.sliceAt, Instr.slice, run_underlying hT.ut, Instr.sliceBounds, run_sliceBound, sizeOf, typeInfo, hi, hk', sliced]
theorem exec_slice_lN {P : Program} {t e : TypeId} {q8 : IntKind} {by8 : Nat} (hT : NumT P t e q8 by8) {r : Operand → Value} {o : Oper} {x lo : Operand} (ho : o.op = .slice t x (some lo) none none) (w : World) (a : Option Addr) (n c k : Nat) (q : IntKind) (h1 : r x = .slice a n c) (h2 : r lo = .int q (k : Int)) (hk : k ≤ n) :
    (execOp r o).run P w = .ok (.value (sliced a k n c 1)) w := by
  obtain ⟨i, hi, _, hs, _⟩ := hT.ex
  have hk' : (k : Int) ≤ n := by omega
  simp [execOp, ho, h1, h2, Instr.sliceAt, Instr.slice, run_underlying hT.ut, Instr.sliceBounds, run_sliceBound, sizeOf, typeInfo, hi, hs, hk', sliced]
/-- An operation whose run is known, in a plain region. -/
theorem wpList_of_run {P : Program} {w w' : World} {ops : Array Oper} {rest : List Oper} {o : Oper} {a : Act} {Q : Exit → Act → World → Prop} {v : Value} (hgd : o.guard = none) (hrun : (execOp a.eval o).run P w = .ok (.value v) w') (h : wpList P ops Q rest (a.put o.dst v) w') : wpList P ops Q (o :: rest) a w := by
  refine wpList_plain hgd fun K hK => ?_
  unfold Oper.wp
  rw [hrun]
  exact hK _ _ h
theorem Ext.drewN (w : World) (q : Nat) : Ext w (w.drewN q) := ⟨rfl, rfl, rfl, Nat.le_refl _, fun _ _ => rfl⟩
theorem grown_of_alloc {w w1 : World} {q : Nat} {o : Obj} {r : Option Nat} (h : ((w.drewN q).alloc o).grownBy w1 r) : w.grownBy w1 r :=
  ⟨h.os, h.tape, h.output, Nat.le_trans (by simp) h.size, fun k hk hne => (h.block k (by simp; omega) hne).trans (Below.heap_alloc _ _ _ hk)⟩
theorem own_or {v v' : Value} {N S : Nat} (h : v'.ownBlock = v.ownBlock ∨ v'.ownBlock = some N) (hN : S ≤ N) : ∀ g, v'.ownBlock = some g → v.ownBlock = some g ∨ S ≤ g := by
  intro g hg
  rcases h with h | h
  · exact .inl (h ▸ hg)
  · rw [h] at hg; cases hg; exact .inr hN
theorem OwnN.mono_via {k : IntKind} {w w' : World} {base : Nat} {e : TypeId} {v : Value} {l : List Int} {S : Nat → Prop} (h : OwnN k w base e v l) (hk : KeepBut S w w') (hn : ∀ g, v.ownBlock = some g → ¬ S g) : OwnN k w' base e v l :=
  h.via fun g hg => hk.block g (h.lt hg).2 (hn g hg)
theorem NumsAt.cellAt {k : IntKind} {w : World} {a : Option Addr} {n c : Nat} {l : List Int} (h : NumsAt k w (.slice a n c) l) (j : Nat) (hj : j < l.length) : ∃ b off, a = some ⟨b, off, none⟩ ∧ w.cell? ⟨b, off + j, none⟩ = some (.int k (l.getD j 0)) := by
  obtain ⟨a', c', e, _, hc⟩ := h.form
  cases e
  exact hc j hj
theorem Ext.below_of {B : Nat} {w w' : World} (h : Ext w w') (hB : B ≤ w.heap.size) : Below B w w' := Below.mono h hB
/-- Where a slice lies: where another lay, or in new memory. -/
def Came (w w' : World) (u u' : Value) : Prop := ∀ g, blockOf u' = some g → blockOf u = some g ∨ (w.heap.size ≤ g ∧ g < w'.heap.size)
theorem Came.same (w w' : World) (u : Value) : Came w w' u u := fun g hg => .inl hg
theorem sliced_form (a : Option Addr) (lo hi c : Nat) : ∃ a2, sliced a lo hi c 1 = .slice a2 (hi - lo) (c - lo) ∧ ∀ g, blockOf (.slice a2 (hi - lo) (c - lo)) = some g → ∀ n c', blockOf (.slice a n c') = some g := by
  unfold sliced
  refine ⟨_, rfl, ?_⟩
  intro g hg n c'
  cases a with
  | none => split at hg <;> simp [blockOf] at hg
  | some x =>
    split at hg
    · exact hg
    · simp [blockOf, add_block] at hg ⊢; exact hg
theorem blockOf_own (v : Value) : blockOf v = v.ownBlock := by unfold blockOf Value.ownBlock; rfl
theorem blockOf_len (a : Option Addr) (n c n' c' : Nat) : blockOf (.slice a n c) = blockOf (.slice a n' c') := by cases a <;> rfl
theorem boxes_kept {w w1 : World} {o1 o2 o3 : Obj} {r : Option Nat} (hg : (((w.alloc o1).alloc o2).alloc o3).grownBy w1 r) (hr : ∀ k, r = some k → w.heap.size + 2 ≤ k) :
    w1.heap[w.heap.size]? = some o1 ∧ w1.heap[w.heap.size + 1]? = some o2 ∧ Ext w w1 ∧ w.heap.size + 3 ≤ w1.heap.size := by
  have hsz := hg.size
  simp at hsz
  refine ⟨?_, ?_, ⟨hg.os, hg.tape, hg.output, by omega, fun k hk => ?_⟩, by omega⟩
  · rw [hg.block w.heap.size (by simp; omega) (fun e => by have := hr _ e.symm; omega), Below.heap_alloc _ _ _ (by simp; omega), Below.heap_alloc _ _ _ (by simp)]
    exact Array.getElem?_push_size
  · rw [hg.block (w.heap.size + 1) (by simp) (fun e => by have := hr _ e.symm; omega), Below.heap_alloc _ _ _ (by simp)]
    have : ((w.alloc o1).alloc o2).heap[(w.alloc o1).heap.size]? = some o2 := Array.getElem?_push_size
    rwa [show (w.alloc o1).heap.size = w.heap.size + 1 by simp] at this
  · rw [hg.block k (by simp; omega) (fun e => by have := hr _ e.symm; omega), Below.heap_alloc _ _ _ (by simp; omega), Below.heap_alloc _ _ _ (by simp; omega), Below.heap_alloc _ _ _ hk]
theorem box_on {w1 w2 : World} {o : Obj} {r : Option Nat} {k : Nat} (hg : (w1.alloc o).grownBy w2 r) (hk : k < w1.heap.size) (hr : some k ≠ r) : w2.heap[k]? = w1.heap[k]? :=
  (hg.block k (by simp; omega) hr).trans (Below.heap_alloc _ _ _ hk)

section
variable {w w1 : World} {o1 o2 : Obj}
theorem two_ext (h : Ext ((w.alloc o1).alloc o2) w1) : Ext w w1 := ((Ext.alloc _ _).trans (Ext.alloc _ _)).trans h
theorem two_sz (h : Ext ((w.alloc o1).alloc o2) w1) : w.heap.size + 2 ≤ w1.heap.size := by have := h.size; simp at this; omega
theorem two_b0 (h : Ext ((w.alloc o1).alloc o2) w1) : w1.heap[w.heap.size]? = some o1 := by
  rw [h.block w.heap.size (by simp; omega), Below.heap_alloc _ _ _ (by simp)]
  exact Array.getElem?_push_size
theorem two_b1 (h : Ext ((w.alloc o1).alloc o2) w1) : w1.heap[w.heap.size + 1]? = some o2 := by
  rw [h.block (w.heap.size + 1) (by simp)]
  have : ((w.alloc o1).alloc o2).heap[(w.alloc o1).heap.size]? = some o2 := Array.getElem?_push_size
  rwa [show (w.alloc o1).heap.size = w.heap.size + 1 by simp] at this
end
/-- The heap stays, but that one block may be put. -/
structure Puts (B : Nat) (o : Obj) (W W' : World) : Prop where
  os : W'.os = W.os
  tape : W'.tape = W.tape
  output : W'.output = W.output
  size : W'.heap.size = W.heap.size
  block : ∀ k, k ≠ B → W'.heap[k]? = W.heap[k]?
  it : W'.heap[B]? = W.heap[B]? ∨ W'.heap[B]? = some o
theorem Puts.refl {B : Nat} {o : Obj} (W : World) : Puts B o W W := ⟨rfl, rfl, rfl, rfl, fun _ _ => rfl, .inl rfl⟩
theorem Puts.trans {B : Nat} {o : Obj} {a b c : World} (h : Puts B o a b) (k : Puts B o b c) : Puts B o a c :=
  ⟨k.os.trans h.os, k.tape.trans h.tape, k.output.trans h.output, k.size.trans h.size, fun i hi => (k.block i hi).trans (h.block i hi), by
    rcases k.it with k1 | k1
    · rcases h.it with h1 | h1
      · exact .inl (k1.trans h1)
      · exact .inr (k1.trans h1)
    · exact .inr k1⟩
theorem Puts.drewN {B : Nat} {o : Obj} (W : World) (q : Nat) : Puts B o W (W.drewN q) := ⟨rfl, rfl, rfl, rfl, fun _ _ => rfl, .inl rfl⟩
theorem Puts.cell {B : Nat} {o : Obj} {W W' : World} (h : Puts B o W W') {k j : Nat} (hk : k ≠ B) : W'.cell? ⟨k, j, none⟩ = W.cell? ⟨k, j, none⟩ := World.cell?_of_block (h.block k hk)
theorem Puts.nums {B : Nat} {o : Obj} {W W' : World} (h : Puts B o W W') {u : Value} {l : List Int} (hu : NumsAt .i64 W u l) (hB : ∀ g, blockOf u = some g → g ≠ B) : NumsAt .i64 W' u l := hu.via fun k hk _ => h.block k (hB k hk)
/-- Three cells stored make the block whole. -/
theorem Puts.store {B t : Nat} {x0 x1 x2 y0 y1 y2 : Value} {W : World} (h : W.heap[B]? = some (.cells #[x0, x1, x2] t (0, 0))) :
    Puts B (.cells #[y0, y1, y2] t (0, 0)) W (((W.setCell ⟨B, 0, none⟩ y0).setCell ⟨B, 1, none⟩ y1).setCell ⟨B, 2, none⟩ y2) ∧ (((W.setCell ⟨B, 0, none⟩ y0).setCell ⟨B, 1, none⟩ y1).setCell ⟨B, 2, none⟩ y2).heap[B]? = some (.cells #[y0, y1, y2] t (0, 0)) := by
  have h3 : (((W.setCell ⟨B, 0, none⟩ y0).setCell ⟨B, 1, none⟩ y1).setCell ⟨B, 2, none⟩ y2).heap[B]? = some (.cells #[y0, y1, y2] t (0, 0)) := by
    rw [block_set (block_set (block_set h 0 y0) 1 y1) 2 y2]
    rfl
  exact ⟨⟨rfl, rfl, rfl, by simp, fun k hk => by rw [block_other hk, block_other hk, block_other hk], .inr h3⟩, h3⟩

section
variable {w w2 w3 : World}
theorem grown_trans {a c d : World} {r : Option Nat} (h : a.grownBy c r) (k : c.grownBy d r) : a.grownBy d r :=
  ⟨k.os.trans h.os, k.tape.trans h.tape, k.output.trans h.output, Nat.le_trans h.size k.size, fun i hi hn => (k.block i (Nat.lt_of_lt_of_le hi h.size) hn).trans (h.block i hi hn)⟩
theorem block_grown {r : Option Nat} {k : Nat} {o : Obj} (hg : w2.grownBy w3 r) (h : w2.heap[k]? = some o) (hr : ∀ g, r = some g → g ≠ k) : w3.heap[k]? = some o :=
  (hg.block k (Array.getElem?_eq_some_iff.1 h).1 (fun e => hr k e.symm rfl)).trans h
theorem cells3 {k t : Nat} {x0 x1 x2 : Value} {fr : Nat × Nat} (h : w.heap[k]? = some (.cells #[x0, x1, x2] t fr)) : w.cell? ⟨k, 0, none⟩ = some x0 ∧ w.cell? ⟨k, 1, none⟩ = some x1 ∧ w.cell? ⟨k, 2, none⟩ = some x2 := ⟨cell_of_block h 0, cell_of_block h 1, cell_of_block h 2⟩
theorem block_ext {k : Nat} {o : Obj} (he : Ext w2 w3) (h : w2.heap[k]? = some o) : w3.heap[k]? = some o := (he.block k (Array.getElem?_eq_some_iff.1 h).1).trans h
end
end Go.Proofs.YtfhoielfekeihaaDoor

/- Loops over an iterator that may be left by a break: both ways out come together; what of memory such a loop keeps. No condition of its own. -/
namespace Go.Proofs.YtfhoielfekeihaaDoor
open Go Go.RowKit Go.Shelf

theorem grown_through {W0 A B : World} {x row : Option Nat} (h : W0.grownBy A x) (hg : A.grownBy B row) (hr : ∀ r, row = some r → W0.heap.size ≤ r) : W0.grownBy B x :=
  ⟨hg.os.trans h.os, hg.tape.trans h.tape, hg.output.trans h.output, Nat.le_trans h.size hg.size, fun k hk hne => (hg.block k (Nat.lt_of_lt_of_le hk h.size) (fun e => by have := hr k e.symm; omega)).trans (h.block k hk hne)⟩
theorem grown_same {W0 A B : World} {x : Option Nat} (h : W0.grownBy A x) (hg : A.grownBy B x) : W0.grownBy B x :=
  ⟨hg.os.trans h.os, hg.tape.trans h.tape, hg.output.trans h.output, Nat.le_trans h.size hg.size, fun k hk hne => (hg.block k (Nat.lt_of_lt_of_le hk h.size) hne).trans (h.block k hk hne)⟩
theorem Boxed.drew {W : World} {B : Nat} {t : TypeId} {v : Value} (h : Boxed W B t v) : Boxed W.drew B t v := h
theorem boxed_other {W : World} {row : Option Nat} (hr : ∀ r, row = some r → ∃ o : Obj, W.heap[r]? = some o ∧ o.isCells = false) {B : Nat} {t : TypeId} {v : Value} (h : Boxed W B t v) : some B ≠ row := by
  intro e
  obtain ⟨o, ho, hc⟩ := hr B e.symm
  rw [show W.heap[B]? = _ from h] at ho; cases ho; cases hc

variable {F : Fence} {n : Nat} {P : Program}
/-- A loop over an iterator that runs out or is left by a break. -/
theorem wpIn_rangeFunc_merge {α : Type} {g : Operand} {ps : Array Tmp} {assign body : Code} {Q : Exit → Act → World → Prop} {a : Act} {w : World}
    (hro : F.round = none) (h1 : 1 ≤ n) {gf : Nat} {lb : Array Value} (hg : a.eval g = .func (.func gf) #[] lb) (hFg : F.fn gf) (eg : ∀ args w, (callFunc gf args).run P w = .ok (.enter gf args) w)
    {encs : α → Array Value} {Kp : World → World → Prop} {S Sp : List α → Prop} {N : Nat} {w0 : World} (hseq : SeqStopsK F (n - 1) P gf lb encs Kp S Sp N w0)
    (hKt : ∀ {A B C : World}, Kp A B → Kp B C → Kp A C) (hKb : ∀ (W : World) (l : Nat) (o o' : Obj), w.heap.size ≤ l → W.heap[l]? = some o → o.isCells = false → o.isWalk = false → Kp W (W.putObj l o')) (hb0 : Below w0.heap.size w0 w) (hps : ∀ x, (encs x).size = ps.size)
    (id0 : Nat) (I Ix : List α → World → Prop) (hI : OwnFrom w.heap.size I) (hIx : OwnFrom w.heap.size Ix) (h0 : I [] w) (a₁ : α → Act) (M : World → Prop)
    (hassign : ∀ (l : Nat) (x : α) (W : World) (K : Act → World → Prop), K (a₁ x) W →
      assign.wpIn (F.inRound l) (n - 1 - 1) P (Exit.then K (fun _ _ _ => False)) { tmps := (ps.zip (encs x)).foldl (fun t (p, v) => t.setIfInBounds p v) a.tmps, defers := [] } W)
    (hbody : ∀ (l : Nat) (pre : List α) (x : α) (W : World), I pre W → pre.length < N → body.wpIn (F.inRound l) (n - 1 - 1) P (ownPostK Kp I (fun c p W' => c = .exit id0 ∧ Ix p W') (pre ++ [x]) W) (a₁ x) W)
    (hM1 : ∀ xs W, S xs → I xs W → M W) (hM2 : ∀ pre W, Sp pre → Ix pre W → M W) (hQx : ∀ a' W, Q .normal a' W → Q (.exit id0) a' W)
    (hfin : ∀ (D : Nat) (W : World), w.heap.size ≤ D → M W → W.heap[D]? = some (.deferred (some [])) → Q .normal { a with defers := { target := .collected D, args := #[] } :: a.defers } W) :
    (Code.rangeFunc g ps assign body).wpIn F n P Q a w :=
  wpIn_rangeFunc_ownF hro h1 hg hFg eg hseq (fun h k => hKt h k) hKb hb0 hps I (fun c p W => c = .exit id0 ∧ Ix p W) hI
    (fun c s A B row hs hg' hr => ⟨hs.1, hIx s A B row hs.2 hg' hr⟩) h0 a₁ hassign hbody
    (fun D xs W hD hS hI' hK => hfin D W hD (hM1 xs W hS hI') hK)
    (fun D c pre W hD hSp hI' hK => by
      obtain ⟨rfl, hI'⟩ := hI'
      exact wpIn_exit (hQx _ _ (hfin D W hD (hM2 pre W hSp hI') hK)))

/-- The same, where nothing is assigned ahead of the body. -/
theorem wpIn_rangeFunc_mergeS {α : Type} {g : Operand} {ps : Array Tmp} {body : Code} {Q : Exit → Act → World → Prop} {a : Act} {w : World}
    (hro : F.round = none) (h1 : 1 ≤ n) {gf : Nat} {lb : Array Value} (hg : a.eval g = .func (.func gf) #[] lb) (hFg : F.fn gf) (eg : ∀ args w, (callFunc gf args).run P w = .ok (.enter gf args) w)
    {encs : α → Array Value} {Kp : World → World → Prop} {S Sp : List α → Prop} {N : Nat} {w0 : World} (hseq : SeqStopsK F (n - 1) P gf lb encs Kp S Sp N w0)
    (hKt : ∀ {A B C : World}, Kp A B → Kp B C → Kp A C) (hKb : ∀ (W : World) (l : Nat) (o o' : Obj), w.heap.size ≤ l → W.heap[l]? = some o → o.isCells = false → o.isWalk = false → Kp W (W.putObj l o')) (hb0 : Below w0.heap.size w0 w) (hps : ∀ x, (encs x).size = ps.size)
    (id0 : Nat) (I Ix : List α → World → Prop) (hI : OwnFrom w.heap.size I) (hIx : OwnFrom w.heap.size Ix) (h0 : I [] w) (M : World → Prop)
    (hbody : ∀ (l : Nat) (pre : List α) (x : α) (W : World), I pre W → pre.length < N → body.wpIn (F.inRound l) (n - 1 - 1) P (ownPostK Kp I (fun c p W' => c = .exit id0 ∧ Ix p W') (pre ++ [x]) W) { tmps := (ps.zip (encs x)).foldl (fun t (p, v) => t.setIfInBounds p v) a.tmps, defers := [] } W)
    (hM1 : ∀ xs W, S xs → I xs W → M W) (hM2 : ∀ pre W, Sp pre → Ix pre W → M W) (hQx : ∀ a' W, Q .normal a' W → Q (.exit id0) a' W)
    (hfin : ∀ (D : Nat) (W : World), w.heap.size ≤ D → M W → W.heap[D]? = some (.deferred (some [])) → Q .normal { a with defers := { target := .collected D, args := #[] } :: a.defers } W) :
    (Code.rangeFunc g ps .skip body).wpIn F n P Q a w :=
  wpIn_rangeFunc_merge hro h1 hg hFg eg hseq (fun h k => hKt h k) hKb hb0 hps id0 I Ix hI hIx h0 _ M (fun _ _ _ _ hK => wpIn_skip hK) hbody hM1 hM2 hQx hfin
end Go.Proofs.YtfhoielfekeihaaDoor

/- A range over an iterator that itself ranges over another one: what is asked of the iterator, and what the caller gets. No condition of its own. -/
namespace Go.Proofs.YtfhoielfekeihaaDoor
open Go Go.RowKit Go.Shelf
set_option linter.unusedVariables false
set_option linter.unusedSimpArgs false

section
variable {P : Program}
/-- All that lies from block B on lies as it lay. -/
structure KeepAbove (B : Nat) (W W' : World) : Prop where
  size : W.heap.size ≤ W'.heap.size
  same : ∀ k, B ≤ k → k < W.heap.size → W'.heap[k]? = W.heap[k]?
theorem KeepAbove.trans {B : Nat} {a b c : World} (h : KeepAbove B a b) (k : KeepAbove B b c) : KeepAbove B a c :=
  ⟨Nat.le_trans h.size k.size, fun i hB hi => (k.same i hB (Nat.lt_of_lt_of_le hi h.size)).trans (h.same i hB hi)⟩
theorem KeepAbove.refl (B : Nat) (W : World) : KeepAbove B W W := ⟨Nat.le_refl _, fun _ _ _ => rfl⟩
theorem KeepAbove.mono {B B' : Nat} {W W' : World} (h : KeepAbove B W W') (hB : B ≤ B') : KeepAbove B' W W' := ⟨h.size, fun k hk hlt => h.same k (by omega) hlt⟩
theorem KeepAbove.put (W : World) {B l : Nat} (o : Obj) (h : l < B) : KeepAbove B W (W.putObj l o) := ⟨by simp, fun k hB _ => World.putObj_heap_other (by omega)⟩
theorem KeepAbove.from {B : Nat} {W W' : World} (h : KeepAbove B W W') : KeepsFrom B W W' := ⟨h.size, fun k o hB hk _ => (h.same k hB (Array.getElem?_eq_some_iff.1 hk).1).trans hk⟩
/-- How a round may be left. -/
def deepPost {α : Type} (B : Nat) (Kp : World → World → Prop) (I : List α → World → Prop) (Ix : Code → List α → World → Prop) (xs : List α) (W : World) : Exit → Act → World → Prop
  | .normal, _, W' => KeepAbove B W W' ∧ Kp W W' ∧ I xs W'
  | .ret, _, W' => KeepAbove B W W' ∧ Ix .ret xs W'
  | .exit id, _, W' => KeepAbove B W W' ∧ Ix (.exit id) xs W'
  | .goto t, _, W' => KeepAbove B W W' ∧ Ix (.goto t) xs W'
  | .panic _, _, _ => False
  | .outgrown, _, _ => False

/-- An iterator that may lay loops of its own: the caller's word abides whatever is no cells and is new since the iterator began; a round keeps all that is. -/
def SeqDeep {α : Type} (P : Program) (g : Nat) (lb : Array Value) (encs : α → Array Value) (Kp : World → World → Prop) (S Sp : List α → Prop) (N : Nat) (w : World) : Prop :=
  ∀ (n l : Nat) (J Jx : List α → World → Prop) (W : World), 5 ≤ n → Below w.heap.size w W → OwnFrom W.heap.size J → OwnFrom W.heap.size Jx →
    (∀ pre x W1, J pre W1 → pre.length < N → YieldAt Fence.wide n P l (encs x) W1 fun e W' => KeepAbove W.heap.size W1 W' ∧
      ((e = .returned (.bool true) ∧ J (pre ++ [x]) W' ∧ Kp W1 W') ∨ (e = .returned (.bool false) ∧ Jx (pre ++ [x]) W'))) →
    J [] W → CallsIn Fence.wide n P g (#[.func (.yield l) #[] #[]] ++ lb) W fun e W' => (∃ v, e = .returned v) ∧ ((∃ xs, S xs ∧ J xs W') ∨ (∃ pre, Sp pre ∧ Jx pre W'))

theorem round_any {l m m' : Nat} {f : FuncId} {tmps : Array Value} {assign body : Code} {w : World} {R : Ending → World → Prop} (h : RoundIn Fence.wide m P l f tmps assign body w R) : RoundIn Fence.wide m' P l f tmps assign body w R :=
  ⟨h.1, fun c cs _ => h.2 c cs (room_wide _)⟩
theorem yield_any {l m m' : Nat} {args : Array Value} {w : World} {R : Ending → World → Prop} (h : YieldAt Fence.wide m P l args w R) : YieldAt Fence.wide m' P l args w R := by
  obtain ⟨fn, tmps, assign, body, hy, hR⟩ := h
  exact ⟨fn, tmps, assign, body, hy, round_any hR⟩

/-- The books of a loop at block B: the block of deferred calls, and the record behind it. -/
structure Books (B : Nat) (r : Loop) (W : World) : Prop where
  d : W.heap[B]? = some (.deferred (some []))
  l : W.heap[B + 1]? = some (.loop r)
theorem Books.kept {B : Nat} {r : Loop} {W W' : World} {row : Option Nat} (h : Books B r W) (hg : W.grownBy W' row) (hr : ∀ k, row = some k → B + 2 ≤ k) : Books B r W' :=
  ⟨(hg.block B (Array.getElem?_eq_some_iff.1 h.d).1 (fun e => by have := hr B e.symm; omega)).trans h.d, (hg.block (B + 1) (Array.getElem?_eq_some_iff.1 h.l).1 (fun e => by have := hr _ e.symm; omega)).trans h.l⟩
theorem Books.put {B : Nat} {r r' : Loop} {W : World} (h : Books B r W) : Books B r' (W.putObj (B + 1) (.loop r')) :=
  ⟨(World.putObj_heap_other (by omega)).trans h.d, World.putObj_heap_same (Array.getElem?_eq_some_iff.1 h.l).1⟩
theorem Books.others {B : Nat} {r : Loop} {W W' : World} (h : Books B r W) (hk : KeepAbove B W W') : Books B r W' := ⟨(hk.same _ (by omega) (Array.getElem?_eq_some_iff.1 h.d).1).trans h.d, (hk.same _ (by omega) (Array.getElem?_eq_some_iff.1 h.l).1).trans h.l⟩

theorem wpIn_range_deep {α : Type} {n : Nat} {g : Operand} {ps : Array Tmp} {assign body : Code} {Q : Exit → Act → World → Prop} {a : Act} {w : World} (hn : 6 ≤ n)
    {gf : Nat} {lb : Array Value} (hg : a.eval g = .func (.func gf) #[] lb) (eg : ∀ args w, (callFunc gf args).run P w = .ok (.enter gf args) w)
    {encs : α → Array Value} {Kp : World → World → Prop} {S Sp : List α → Prop} {N : Nat} (hseq : SeqDeep P gf lb encs Kp S Sp N w)
    (hKt : ∀ {A B C : World}, Kp A B → Kp B C → Kp A C) (hKb : ∀ (W : World) (l : Nat) (o : Obj), w.heap.size ≤ l → Kp W (W.putObj l o)) (hps : ∀ x, (encs x).size = ps.size)
    (I : List α → World → Prop) (Ix : Code → List α → World → Prop) (hI : OwnFrom w.heap.size I) (hIx : ∀ c, OwnFrom w.heap.size (Ix c)) (h0 : I [] w) (a₁ : α → Act)
    (hassign : ∀ (l : Nat) (x : α) (W : World) (K : Act → World → Prop), K (a₁ x) W →
      assign.wpIn (Fence.wide.inRound l) (n - 1) P (Exit.then K (fun _ _ _ => False)) { tmps := (ps.zip (encs x)).foldl (fun t (p, v) => t.setIfInBounds p v) a.tmps, defers := [] } W)
    (hbody : ∀ (l : Nat) (pre : List α) (x : α) (W : World), I pre W → pre.length < N → body.wpIn (Fence.wide.inRound l) (n - 1) P (deepPost w.heap.size Kp I Ix (pre ++ [x]) W) (a₁ x) W)
    (hdone : ∀ (D : Nat) (xs : List α) (W : World), w.heap.size ≤ D → S xs → I xs W → W.heap[D]? = some (.deferred (some [])) → Q .normal { a with defers := { target := .collected D, args := #[] } :: a.defers } W)
    (hstop : ∀ (D : Nat) (c : Code) (pre : List α) (W : World), w.heap.size ≤ D → Sp pre → Ix c pre W → W.heap[D]? = some (.deferred (some [])) → c.wpIn Fence.wide n P Q { a with defers := { target := .collected D, args := #[] } :: a.defers } W) :
    (Code.rangeFunc g ps assign body).wpIn Fence.wide n P Q a w := by
  refine wpIn_rangeFunc fun fn hfn => ?_
  -- the record, by its state and its pending jump
  let rec_ : LoopState → Option Code → Loop := fun st pe => { state := st, pending := pe, fn := fn, tmps := a.tmps, params := ps, assign := assign, body := body, defers := w.heap.size }
  have hb1 : Books w.heap.size (rec_ .ready none) ((w.alloc (.deferred (some []))).alloc (.loop (rec_ .ready none))) :=
    ⟨two_b0 (Ext.refl _), two_b1 (Ext.refl _)⟩
  have hsz : ((w.alloc (.deferred (some []))).alloc (.loop (rec_ .ready none))).heap.size = w.heap.size + 2 := by simp
  have hE1 : Ext w ((w.alloc (.deferred (some []))).alloc (.loop (rec_ .ready none))) := (Ext.alloc _ _).trans (Ext.alloc _ _)
  have hI1 : I [] ((w.alloc (.deferred (some []))).alloc (.loop (rec_ .ready none))) := hI.alloc _ (hI.alloc _ h0)
  have hent := run_enterLoop_outer (P := P) (w := w) fn a.tmps ps assign body
  change _ = Result.ok (w.heap.size + 1, _) ((w.alloc (.deferred (some []))).alloc (.loop (rec_ .ready none))) at hent
  generalize (w.alloc (.deferred (some []))).alloc (.loop (rec_ .ready none)) = W1 at *
  refine ⟨w.heap.size + 1, [{ target := .collected w.heap.size, args := #[] }], W1, { target := .fn (.func gf) lb, args := #[.func (.yield (w.heap.size + 1)) #[] #[]] }, W1, gf, #[.func (.yield (w.heap.size + 1)) #[] #[]] ++ lb, W1, hent, ?_, fun _ _ => trivial, ?_, (fun _ => by omega), ?_⟩
  · simp only [resolve, rangeCall, hg]
    simp [go_sem]
  · simp [invoke, go_sem, eg]
  -- what lies between two rounds, and behind the last one of a loop that was left
  have hfar : ∀ {A : World} {row : Option Nat}, (∀ r, row = some r → W1.heap.size ≤ r ∧ ∃ o : Obj, A.heap[r]? = some o ∧ o.isCells = false) → (∀ r, row = some r → w.heap.size ≤ r ∧ ∃ o : Obj, A.heap[r]? = some o ∧ o.isCells = false) := fun hr r e => ⟨by have := (hr r e).1; omega, (hr r e).2⟩
  have hfar2 : ∀ {A : World} {row : Option Nat}, (∀ r, row = some r → W1.heap.size ≤ r ∧ ∃ o : Obj, A.heap[r]? = some o ∧ o.isCells = false) → ∀ r, row = some r → w.heap.size + 2 ≤ r := fun hr r e => by have := (hr r e).1; omega
  refine (hseq (n - 1) (w.heap.size + 1) (fun pre W => I pre W ∧ Books w.heap.size (rec_ .ready none) W) (fun pre W => ∃ c, Ix c pre W ∧ Books w.heap.size (rec_ .done (some c)) W) W1 (by omega) hE1
    (fun s A B row hs hg' hr => ⟨hI s A B row hs.1 hg' (hfar hr), hs.2.kept hg' (hfar2 hr)⟩)
    (fun s A B row hs hg' hr => by obtain ⟨c, h1, h2⟩ := hs; exact ⟨c, hIx c s A B row h1 hg' (hfar hr), h2.kept hg' (hfar2 hr)⟩) ?_ ⟨hI1, hb1⟩).mono ?_
  · -- a round
    rintro pre x W ⟨hi, hbk⟩ hlen
    refine ⟨fn, _, assign, body, run_yield (P := P) (args := encs x) hbk.l (hps x), roundIn_of_wpIn hfn (hassign _ x W _ ⟨_, run_beginRound hbk.l rfl, ?_⟩)⟩
    have hbusy : Books w.heap.size (rec_ .busy none) (W.putObj (w.heap.size + 1) (.loop (rec_ .busy none))) := hbk.put
    refine wpIn_mono (hbody _ pre x _ (hI.putObj _ hi (by omega) hbk.l rfl) hlen) ?_
    intro e a3 W3 hp
    -- from the round's start to its end
    have hend : ∀ jump, KeepAbove w.heap.size (W.putObj (w.heap.size + 1) (.loop (rec_ .busy none))) W3 → Books w.heap.size (rec_ .busy none) W3 ∧ KeepAbove W1.heap.size W (W3.putObj (w.heap.size + 1) (.loop (rec_ (if jump.isNone then .ready else .done) jump))) := fun jump hk =>
      ⟨hbusy.others hk, ((KeepAbove.put W _ (by omega)).trans (hk.mono (by omega))).trans (KeepAbove.put W3 _ (by omega))⟩
    cases e with
    | normal =>
      obtain ⟨h1, h2, h3⟩ := hp
      obtain ⟨h4, h5⟩ := hend none h1
      exact ⟨_, _, run_endRound none h4.l, h5, .inl ⟨rfl, ⟨hI.putObj _ h3 (by omega) h4.l rfl, h4.put⟩, hKt (hKt (hKb _ _ _ (by omega)) h2) (hKb _ _ _ (by omega))⟩⟩
    | ret =>
      obtain ⟨h1, h3⟩ := hp
      obtain ⟨h4, h5⟩ := hend (some .ret) h1
      exact ⟨_, _, run_endRound (some .ret) h4.l, h5, .inr ⟨rfl, .ret, (hIx _).putObj _ h3 (by omega) h4.l rfl, h4.put⟩⟩
    | exit id =>
      obtain ⟨h1, h3⟩ := hp
      obtain ⟨h4, h5⟩ := hend (some (.exit id)) h1
      exact ⟨_, _, run_endRound (some (.exit id)) h4.l, h5, .inr ⟨rfl, .exit id, (hIx _).putObj _ h3 (by omega) h4.l rfl, h4.put⟩⟩
    | goto t =>
      obtain ⟨h1, h3⟩ := hp
      obtain ⟨h4, h5⟩ := hend (some (.goto t)) h1
      exact ⟨_, _, run_endRound (some (.goto t)) h4.l, h5, .inr ⟨rfl, .goto t, (hIx _).putObj _ h3 (by omega) h4.l rfl, h4.put⟩⟩
    | panic ch => exact hp.elim
    | outgrown => exact hp.elim
  · rintro e W2 ⟨⟨v, rfl⟩, (⟨xs, hS, hi, hbk⟩ | ⟨pre, hSp, c, hi, hbk⟩)⟩
    · exact ⟨none, _, run_endLoop hbk.l (by simp [rec_]), hdone _ xs _ (Nat.le_refl _) hS (hI.putObj _ hi (by omega) hbk.l rfl) (World.putObj_heap_other (by omega) |>.trans hbk.d)⟩
    · exact ⟨some c, _, run_endLoop hbk.l (by simp [rec_]), hstop _ c pre _ (Nat.le_refl _) hSp ((hIx c).putObj _ hi (by omega) hbk.l rfl) (World.putObj_heap_other (by omega) |>.trans hbk.d)⟩
end

/-- What an iterator leans on: these blocks lie as they lay. -/
def KpS (S : Nat → Prop) (W W' : World) : Prop := ∀ k, S k → W'.heap[k]? = W.heap[k]?
theorem KpS.t {S : Nat → Prop} {A B C : World} (h : KpS S A B) (k : KpS S B C) : KpS S A C := fun i hi => (k i hi).trans (h i hi)
theorem KpS.refl (S : Nat → Prop) (W : World) : KpS S W W := fun _ _ => rfl

/-- The first k of c places. -/
def fins (c k : Nat) : List (Fin c) := (List.finRange c).take k
theorem fins_succ {c k : Nat} (h : k < c) : fins c (k + 1) = fins c k ++ [⟨k, h⟩] := by
  unfold fins
  rw [List.take_succ_eq_append_getElem (by simpa using h)]
  simp
theorem fins_len {c k : Nat} (h : k ≤ c) : (fins c k).length = k := by unfold fins; simp; omega
theorem fins_all (c : Nat) : fins c c = List.finRange c := by unfold fins; rw [List.take_of_length_le (by simp)]
theorem fins_pre (c k : Nat) : fins c k <+: List.finRange c := List.take_prefix _ _

/-- A loop that runs out or is left by a break, and nothing is assigned ahead of the body. -/
theorem wpIn_deep_merge {P : Program} {α : Type} {n : Nat} {g : Operand} {ps : Array Tmp} {body : Code} {Q : Exit → Act → World → Prop} {a : Act} {w : World} (hn : 6 ≤ n)
    {gf : Nat} {lb : Array Value} (hg : a.eval g = .func (.func gf) #[] lb) (eg : ∀ args w, (callFunc gf args).run P w = .ok (.enter gf args) w)
    {encs : α → Array Value} {Kp : World → World → Prop} {S Sp : List α → Prop} {N : Nat} (hseq : SeqDeep P gf lb encs Kp S Sp N w)
    (hKt : ∀ {A B C : World}, Kp A B → Kp B C → Kp A C) (hKb : ∀ (W : World) (l : Nat) (o : Obj), w.heap.size ≤ l → Kp W (W.putObj l o)) (hps : ∀ x, (encs x).size = ps.size)
    (id0 : Nat) (I Ix : List α → World → Prop) (hI : OwnFrom w.heap.size I) (hIx : OwnFrom w.heap.size Ix) (h0 : I [] w) (M : World → Prop)
    (hbody : ∀ (l : Nat) (pre : List α) (x : α) (W : World), I pre W → pre.length < N → body.wpIn (Fence.wide.inRound l) (n - 1) P (deepPost w.heap.size Kp I (fun c p W' => c = .exit id0 ∧ Ix p W') (pre ++ [x]) W) { tmps := (ps.zip (encs x)).foldl (fun t (p, v) => t.setIfInBounds p v) a.tmps, defers := [] } W)
    (hM1 : ∀ xs W, S xs → I xs W → M W) (hM2 : ∀ pre W, Sp pre → Ix pre W → M W) (hQx : ∀ a' W, Q .normal a' W → Q (.exit id0) a' W)
    (hfin : ∀ (D : Nat) (W : World), w.heap.size ≤ D → M W → W.heap[D]? = some (.deferred (some [])) → Q .normal { a with defers := { target := .collected D, args := #[] } :: a.defers } W) :
    (Code.rangeFunc g ps .skip body).wpIn Fence.wide n P Q a w :=
  wpIn_range_deep hn hg eg hseq (fun h k => hKt h k) hKb hps I (fun c p W => c = .exit id0 ∧ Ix p W) hI (fun c s A B row hs hg' hr => ⟨hs.1, hIx s A B row hs.2 hg' hr⟩) h0 _
    (fun _ _ _ _ hK => wpIn_skip hK) hbody (fun D xs W hD hS hI' hK => hfin D W hD (hM1 xs W hS hI') hK)
    (fun D c pre W hD hSp hI' hK => by
      obtain ⟨rfl, hI'⟩ := hI'
      exact wpIn_exit (hQx _ _ (hfin D W hD (hM2 pre W hSp hI') hK)))
theorem round_in {P : Program} {y l m m' : Nat} {f : FuncId} {tmps : Array Value} {assign body : Code} {w : World} {R : Ending → World → Prop} (h : RoundIn Fence.wide m P l f tmps assign body w R) : RoundIn (Fence.wide.inRound y) m' P l f tmps assign body w R :=
  ⟨h.1, fun c cs _ => h.2 c cs (room_wide _)⟩
end Go.Proofs.YtfhoielfekeihaaDoor

/- Arrays and structs by value: whole rows of cells, loaded, stored, boxed and made, whatever they hold. No condition of its own. -/
namespace Go.Proofs.YtfhoielfekeihaaDoor
open Go Go.RowKit
set_option linter.unusedVariables false
set_option linter.unusedSimpArgs false

/-- A block of cells that may be written. -/
def Blk (w : World) (g : Nat) (C : Array Value) (t : TypeId) : Prop := w.heap[g]? = some (.cells C t (0, 0))
theorem Blk.lt {w : World} {g t : Nat} {C : Array Value} (h : Blk w g C t) : g < w.heap.size := (Array.getElem?_eq_some_iff.1 h).1
theorem Blk.ext {w w' : World} {g t : Nat} {C : Array Value} (h : Blk w g C t) (he : Ext w w') : Blk w' g C t := block_ext he h
theorem Blk.but {S : Nat → Prop} {w w' : World} {g t : Nat} {C : Array Value} (h : Blk w g C t) (hk : KeepBut S w w') (hn : ¬ S g) : Blk w' g C t := (hk.block g h.lt hn).trans h
theorem Blk.of {w w' : World} {g t : Nat} {C : Array Value} (h : Blk w g C t) (e : w'.heap[g]? = w.heap[g]?) : Blk w' g C t := e.trans h
theorem Blk.cell {w : World} {g t : Nat} {C : Array Value} (h : Blk w g C t) (j : Nat) : w.cell? ⟨g, j, none⟩ = C[j]? := cell_of_block h j
theorem Blk.frozen {w : World} {g t : Nat} {C : Array Value} (h : Blk w g C t) (j : Nat) : w.frozen? ⟨g, j, none⟩ = false := frozen_of_block h j
theorem Blk.new (w : World) (C : Array Value) (t : TypeId) : Blk (w.alloc (.cells C t)) w.heap.size C t := Array.getElem?_push_size
theorem Blk.set {w : World} {g t : Nat} {C : Array Value} (h : Blk w g C t) (j : Nat) (x : Value) : Blk (w.setCell ⟨g, j, none⟩ x) g (C.setIfInBounds j x) t := block_set h j x
theorem Blk.other {w : World} {g b t : Nat} {C : Array Value} (h : Blk w g C t) (hn : g ≠ b) (j : Nat) (x : Value) : Blk (w.setCell ⟨b, j, none⟩ x) g C t := (block_other hn j x).trans h
theorem Blk.drewN {w : World} {g t : Nat} {C : Array Value} (h : Blk w g C t) (q : Nat) : Blk (w.drewN q) g C t := h
theorem Ext.set {w0 w : World} (h : Ext w0 w) {b : Nat} (hb : w0.heap.size ≤ b) (j : Nat) (x : Value) : Ext w0 (w.setCell ⟨b, j, none⟩ x) :=
  ⟨h.os, h.tape, h.output, by have := h.size; simp; omega, fun k hk => (block_other (by omega) j x).trans (h.block k hk)⟩

/-- What is known of a type of many cells. -/
structure RowT (P : Program) (t : TypeId) (n : Nat) : Prop where
  d : ∃ d, P.underlying t = some d ∧ d.isRow = true
  s : (P.info? t).map (·.size) = some n

theorem exec_box {P : Program} {r : Operand → Value} {o : Oper} {t : TypeId} {x : Operand} {C : Array Value} (w : World) (ho : o.op = .box t x) (hx : r x = .agg C) :
    (execOp r o).run P w = .ok (.value (.pointer (some ⟨w.heap.size, 0, none⟩))) (w.alloc (.cells C t)) := by
  simp [execOp, ho, hx, Instr.box, newVar, newRow, Value.cells, go_sem]
theorem exec_alloc {P : Program} {r : Operand → Value} {o : Oper} {t : TypeId} {C : Array Value} (w : World) (ho : o.op = .alloc t) (hz : (P.info? t).bind (·.zero) = some (.agg C)) :
    (execOp r o).run P w = .ok (.value (.pointer (some ⟨w.heap.size, 0, none⟩))) (w.alloc (.cells C t)) := by
  cases hq : P.info? t with
  | none => simp [hq] at hz
  | some i =>
    have hz' : i.zero = some (.agg C) := by simpa [hq] using hz
    simp [execOp, ho, Instr.alloc, zeroValue, typeInfo, hq, hz', newVar, newRow, Value.cells, go_sem]
theorem exec_load {P : Program} {r : Operand → Value} {o : Oper} {t : TypeId} {n : Nat} (hT : RowT P t n) {x : Operand} {g off T : Nat} {C : Array Value} {w : World} (ho : o.op = .load t x) (hx : r x = .pointer (some ⟨g, off, none⟩)) (hB : Blk w g C T) (L : List Value) (hL : ∀ j v, L[j]? = some v → C[off + j]? = some v) (hn : L.length = n) :
    (execOp r o).run P w = .ok (.value (.agg L.toArray)) w := by
  obtain ⟨d, hu, hd⟩ := hT.d
  have := run_loadVar_mid (P := P) w g off t L d (fun j v hv => by rw [hB.cell]; exact hL j v hv) hu hd (by rw [hn]; exact hT.s)
  simp only [execOp, ho, hx, Instr.loadAt, Instr.sureAddr, Sem.run_bind, Sem.run_pure, Result.andThen_ok, this]
theorem exec_loadW {P : Program} {r : Operand → Value} {o : Oper} {t : TypeId} {n : Nat} (hT : RowT P t n) {x : Operand} {g T : Nat} {C : Array Value} {w : World} (ho : o.op = .load t x) (hx : r x = .pointer (some ⟨g, 0, none⟩)) (hB : Blk w g C T) (hn : C.size = n) :
    (execOp r o).run P w = .ok (.value (.agg C)) w := by
  have := exec_load hT ho hx hB C.toList (fun j v hv => by rw [Nat.zero_add]; simpa using hv) (by simpa using hn)
  simpa using this
/-- A row of cells with others in their place from 'off' on. -/
def putIn (C : Array Value) (off : Nat) (D : List Value) : Array Value := (C.toList.take off ++ D ++ C.toList.drop (off + D.length)).toArray
theorem exec_store {P : Program} {r : Operand → Value} {o : Oper} {t : TypeId} {n : Nat} (hT : RowT P t n) {x y : Operand} {g off T : Nat} {C D : Array Value} {w : World} (ho : o.op = .store t x y) (hx : r x = .pointer (some ⟨g, off, none⟩)) (hy : r y = .agg D) (hB : Blk w g C T) (hn : D.size = n) (hf : off + n ≤ C.size) (h1 : ∀ v ∈ D.toList, v.oneCell' = true) :
    (execOp r o).run P w = .ok .skip (w.setRow g (putIn C off D.toList)) := by
  have := run_storeCells_at P g off T D.toList 0 C w hB (by simp; omega) h1
  cases hq : P.info? t with
  | none => have := hT.s; simp [hq] at this
  | some i =>
    have hs : D.size = i.size := by have := hT.s; simp [hq] at this; omega
    simp only [Nat.add_zero] at this
    simp [execOp, ho, hx, hy, Instr.storeAt, Instr.sureAddr, storeVar, sizeOf, typeInfo, hq, Value.cells, hs, this, putIn]
theorem putIn_all (C D : Array Value) (h : C.size = D.size) : putIn C 0 D.toList = D := by
  unfold putIn
  rw [List.take_zero, List.nil_append, List.drop_eq_nil_of_le (by simp; omega)]
  simp
theorem putIn_size (C : Array Value) (off : Nat) (D : List Value) (h : off + D.length ≤ C.size) : (putIn C off D).size = C.size := by
  unfold putIn; simp; omega
theorem Blk.row {w : World} {g T : Nat} {C : Array Value} (h : Blk w g C T) (D : Array Value) : Blk (w.setRow g D) g D T := setRow_heap w g C D T (0, 0) h
theorem Blk.rowO {w : World} {g b T : Nat} {C : Array Value} (h : Blk w g C T) (hn : g ≠ b) (D : Array Value) : Blk (w.setRow b D) g C T := (setRow_other w b g D hn).trans h
theorem KeepBut.row (w : World) (g : Nat) (D : Array Value) : KeepBut (· = g) w (w.setRow g D) := ⟨rfl, rfl, rfl, by simp, fun k _ hk => setRow_other w g k D hk⟩
theorem KeepBut.ext {S : Nat → Prop} {w w' : World} (h : Ext w w') : KeepBut S w w' := ⟨h.os, h.tape, h.output, h.size, fun k hk _ => h.block k hk⟩
theorem Ext.of_but {S : Nat → Prop} {w0 w w' : World} (h : Ext w0 w) (hk : KeepBut S w w') (hS : ∀ k, S k → w0.heap.size ≤ k) : Ext w0 w' :=
  ⟨hk.os.trans h.os, hk.tape.trans h.tape, hk.output.trans h.output, Nat.le_trans h.size hk.size, fun k hk' => (hk.block k (Nat.lt_of_lt_of_le hk' h.size) (fun hs => by have := hS k hs; omega)).trans (h.block k hk')⟩

section
variable {P : Program} {w : World} {ops : Array Oper} {rest : List Oper} {o : Oper} {a : Act} {Q : Exit → Act → World → Prop}
theorem wpListIn_of_run {F : Fence} {n : Nat} (hgd : o.guard = none) {v : Value} {w' : World} (hrun : (execOp a.eval o).run P w = .ok (.value v) w') (hnd : ∀ c, o.op ≠ .defer c) (hab : ∀ f, o.about P w a.eval = some f → F.fn f)
    (h : wpListIn F n P ops Q rest (a.put o.dst v) w') : wpListIn F n P ops Q (o :: rest) a w := by
  refine wpListIn_plain hgd fun K hK' => ?_
  unfold Oper.wpIn
  refine ⟨hab, ?_⟩
  rw [Oper.semAt_plain F _ _ hnd, hrun]
  exact hK' _ _ h
/-- A value of many cells into a new block. -/
theorem wl_box (hgd : o.guard = none) {t : TypeId} {x : Operand} {C : Array Value} (ho : o.op = .box t x) (hx : a.eval x = .agg C)
    (h : ∀ w', Blk w' w.heap.size C t → Ext w w' → w'.heap.size = w.heap.size + 1 → wpList P ops Q rest (a.put o.dst (.pointer (some ⟨w.heap.size, 0, none⟩))) w') : wpList P ops Q (o :: rest) a w :=
  wpList_of_run hgd (exec_box w ho hx) (h _ (Blk.new _ _ _) (Ext.alloc _ _) (by simp))
theorem wl_alloc (hgd : o.guard = none) {t : TypeId} {C : Array Value} (ho : o.op = .alloc t) (hz : (P.info? t).bind (·.zero) = some (.agg C))
    (h : ∀ w', Blk w' w.heap.size C t → Ext w w' → w'.heap.size = w.heap.size + 1 → wpList P ops Q rest (a.put o.dst (.pointer (some ⟨w.heap.size, 0, none⟩))) w') : wpList P ops Q (o :: rest) a w :=
  wpList_of_run hgd (exec_alloc w ho hz) (h _ (Blk.new _ _ _) (Ext.alloc _ _) (by simp))
theorem wl_load (hgd : o.guard = none) {t : TypeId} {n : Nat} (hT : RowT P t n) {x : Operand} {g T : Nat} {C : Array Value} (ho : o.op = .load t x) (hx : a.eval x = .pointer (some ⟨g, 0, none⟩)) (hB : Blk w g C T) (hn : C.size = n)
    (h : wpList P ops Q rest (a.put o.dst (.agg C)) w) : wpList P ops Q (o :: rest) a w :=
  wpList_of_run hgd (exec_loadW hT ho hx hB hn) h
theorem wl_loadM (hgd : o.guard = none) {t : TypeId} {n : Nat} (hT : RowT P t n) {x : Operand} {g off T : Nat} {C : Array Value} (ho : o.op = .load t x) (hx : a.eval x = .pointer (some ⟨g, off, none⟩)) (hB : Blk w g C T) (L : List Value) (hL : ∀ j v, L[j]? = some v → C[off + j]? = some v) (hn : L.length = n)
    (h : wpList P ops Q rest (a.put o.dst (.agg L.toArray)) w) : wpList P ops Q (o :: rest) a w :=
  wpList_of_run hgd (exec_load hT ho hx hB L hL hn) h
theorem wpList_of_skip {w' : World} (hgd : o.guard = none) (hrun : (execOp a.eval o).run P w = .ok .skip w') (h : wpList P ops Q rest (a.put o.dst undef) w') : wpList P ops Q (o :: rest) a w := by
  refine wpList_plain hgd fun K hK => ?_
  unfold Oper.wp
  rw [hrun]
  exact hK _ _ h
/-- A whole block is stored. -/
theorem wl_store (hgd : o.guard = none) {t : TypeId} {n : Nat} (hT : RowT P t n) {x y : Operand} {g T : Nat} {C D : Array Value} (ho : o.op = .store t x y) (hx : a.eval x = .pointer (some ⟨g, 0, none⟩)) (hy : a.eval y = .agg D) (hB : Blk w g C T) (hn : D.size = n) (hf : C.size = n) (h1 : ∀ v ∈ D.toList, v.oneCell' = true)
    (h : ∀ w', Blk w' g D T → KeepBut (· = g) w w' → w'.heap.size = w.heap.size → wpList P ops Q rest (a.put o.dst undef) w') : wpList P ops Q (o :: rest) a w := by
  refine wpList_of_skip hgd (exec_store hT ho hx hy hB hn (by omega) h1) ?_
  rw [putIn_all C D (by omega)]
  exact h _ (hB.row D) (KeepBut.row _ _ _) (by simp)
/-- Part of a block is stored. -/
theorem wl_storeM (hgd : o.guard = none) {t : TypeId} {n : Nat} (hT : RowT P t n) {x y : Operand} {g off T : Nat} {C D : Array Value} (ho : o.op = .store t x y) (hx : a.eval x = .pointer (some ⟨g, off, none⟩)) (hy : a.eval y = .agg D) (hB : Blk w g C T) (hn : D.size = n) (hf : off + n ≤ C.size) (h1 : ∀ v ∈ D.toList, v.oneCell' = true)
    (h : ∀ w', Blk w' g (putIn C off D.toList) T → KeepBut (· = g) w w' → w'.heap.size = w.heap.size → wpList P ops Q rest (a.put o.dst undef) w') : wpList P ops Q (o :: rest) a w := by
  refine wpList_of_skip hgd (exec_store hT ho hx hy hB hn hf h1) ?_
  exact h _ (hB.row _) (KeepBut.row _ _ _) (by simp)
end
section
variable {F : Fence} {n : Nat} {P : Program} {ops : Array Oper} {Q : Exit → Act → World → Prop} {a : Act} {w : World} {rest : List Oper} {o : Oper}
theorem wlIn_load (hgd : o.guard = none) {t : TypeId} {m : Nat} (hT : RowT P t m) {x : Operand} {g T : Nat} {C : Array Value} (ho : o.op = .load t x) (hx : a.eval x = .pointer (some ⟨g, 0, none⟩)) (hB : Blk w g C T) (hn : C.size = m)
    (h : wpListIn F n P ops Q rest (a.put o.dst (.agg C)) w) : wpListIn F n P ops Q (o :: rest) a w := by
  refine wpListIn_plain hgd fun K hK' => ?_
  unfold Oper.wpIn
  refine ⟨by simp [Oper.about, ho], ?_⟩
  rw [Oper.semAt_plain F _ _ (by rw [ho]; intro c hc'; cases hc'), exec_loadW hT ho hx hB hn]
  exact hK' _ _ h
theorem wlIn_store (hgd : o.guard = none) {t : TypeId} {m : Nat} (hT : RowT P t m) {x y : Operand} {g T : Nat} {C D : Array Value} (ho : o.op = .store t x y) (hx : a.eval x = .pointer (some ⟨g, 0, none⟩)) (hy : a.eval y = .agg D) (hB : Blk w g C T) (hn : D.size = m) (hf : C.size = m) (h1 : ∀ v ∈ D.toList, v.oneCell' = true)
    (h : ∀ w', Blk w' g D T → KeepBut (· = g) w w' → w'.heap.size = w.heap.size → wpListIn F n P ops Q rest (a.put o.dst undef) w') : wpListIn F n P ops Q (o :: rest) a w := by
  refine wpListIn_plain hgd fun K hK' => ?_
  unfold Oper.wpIn
  refine ⟨by simp [Oper.about, ho], ?_⟩
  rw [Oper.semAt_plain F _ _ (by rw [ho]; intro c hc'; cases hc'), exec_store hT ho hx hy hB hn (by omega) h1, putIn_all C D (by omega)]
  exact hK' _ _ (h _ (hB.row D) (KeepBut.row _ _ _) (by simp))
end

/-- A type of one cell. -/
structure OneT (P : Program) (t : TypeId) : Prop where
  d : ∃ d, P.underlying t = some d ∧ d.isRow = false
  s : (P.info? t).map (·.size) = some 1
theorem exec_box1 {P : Program} {r : Operand → Value} {o : Oper} {t : TypeId} {x : Operand} {v : Value} (w : World) (ho : o.op = .box t x) (hx : r x = v) (hv : v.cells = #[v]) :
    (execOp r o).run P w = .ok (.value (.pointer (some ⟨w.heap.size, 0, none⟩))) (w.alloc (.cells #[v] t)) := by
  simp only [execOp, ho, hx, Instr.box, newVar, newRow, hv]
  simp
theorem exec_set {P : Program} {r : Operand → Value} {o : Oper} {t : TypeId} (hT : OneT P t) {x y : Operand} {g j T : Nat} {C : Array Value} {v : Value} {w : World} (ho : o.op = .store t x y) (hx : r x = .pointer (some ⟨g, j, none⟩)) (hy : r y = v) (hv : v.cells = #[v]) (h1 : v.oneCell' = true) (hB : Blk w g C T) (hj : j < C.size) :
    (execOp r o).run P w = .ok .skip (w.setCell ⟨g, j, none⟩ v) := by
  have hc : w.cell? ⟨g, j, none⟩ = some C[j] := by rw [hB.cell]; simp [hj]
  have hs := run_store P w ⟨g, j, none⟩ v .plain h1
  rw [hc] at hs
  simp [hB.frozen] at hs
  have ha : (⟨g, j, none⟩ : Addr).add 0 = ⟨g, j, none⟩ := by rw [add_plain]; rfl
  cases hq : P.info? t with
  | none => have := hT.s; simp [hq] at this
  | some i =>
    have hs' : i.size = 1 := by have := hT.s; simp [hq] at this; omega
    simp [execOp, ho, hx, hy, Instr.storeAt, Instr.sureAddr, storeVar, sizeOf, typeInfo, hq, hv, hs', storeCells, ha, hs]
theorem exec_get {P : Program} {r : Operand → Value} {o : Oper} {t : TypeId} (hT : OneT P t) {x : Operand} {g j : Nat} {v : Value} {w : World} (ho : o.op = .load t x) (hx : r x = .pointer (some ⟨g, j, none⟩)) (hc : w.cell? ⟨g, j, none⟩ = some v) :
    (execOp r o).run P w = .ok (.value v) w := by
  obtain ⟨d, hd, hr⟩ := hT.d
  have hagg : (isAgg t).run P w = .ok false w := by
    unfold isAgg
    rw [Sem.run_bind, run_underlying hd w]
    cases d <;> simp_all
  simp [execOp, ho, hx, Instr.loadAt, Instr.sureAddr, loadVar, hagg, hc]
section
variable {P : Program} {w : World} {ops : Array Oper} {rest : List Oper} {o : Oper} {a : Act} {Q : Exit → Act → World → Prop}
theorem wl_box1 (hgd : o.guard = none) {t : TypeId} {x : Operand} {v : Value} (ho : o.op = .box t x) (hx : a.eval x = v) (hv : v.cells = #[v])
    (h : ∀ w', Boxed w' w.heap.size t v → Ext w w' → w'.heap.size = w.heap.size + 1 → wpList P ops Q rest (a.put o.dst (.pointer (some ⟨w.heap.size, 0, none⟩))) w') : wpList P ops Q (o :: rest) a w :=
  wpList_of_run hgd (exec_box1 w ho hx hv) (h _ (Boxed.new _ _ _) (Ext.alloc _ _) (by simp))
theorem wl_set (hgd : o.guard = none) {t : TypeId} (hT : OneT P t) {x y : Operand} {g j T : Nat} {C : Array Value} {v : Value} (ho : o.op = .store t x y) (hx : a.eval x = .pointer (some ⟨g, j, none⟩)) (hy : a.eval y = v) (hv : v.cells = #[v]) (h1 : v.oneCell' = true) (hB : Blk w g C T) (hj : j < C.size)
    (h : ∀ w', Blk w' g (C.setIfInBounds j v) T → KeepBut (· = g) w w' → w'.heap.size = w.heap.size → wpList P ops Q rest (a.put o.dst undef) w') : wpList P ops Q (o :: rest) a w :=
  wpList_of_skip hgd (exec_set hT ho hx hy hv h1 hB hj) (h _ (hB.set j v) ⟨rfl, rfl, rfl, by simp, fun k _ hk => block_other hk j v⟩ (by simp))
end

theorem wlIn_set {F : Fence} {n : Nat} {P : Program} {ops : Array Oper} {Q : Exit → Act → World → Prop} {a : Act} {w : World} {rest : List Oper} {o : Oper} (hgd : o.guard = none) {t : TypeId} (hT : OneT P t) {x y : Operand} {g j T : Nat} {C : Array Value} {v : Value} (ho : o.op = .store t x y) (hx : a.eval x = .pointer (some ⟨g, j, none⟩)) (hy : a.eval y = v) (hv : v.cells = #[v]) (h1 : v.oneCell' = true) (hB : Blk w g C T) (hj : j < C.size)
    (h : ∀ w', Blk w' g (C.setIfInBounds j v) T → KeepBut (· = g) w w' → w'.heap.size = w.heap.size → wpListIn F n P ops Q rest (a.put o.dst undef) w') : wpListIn F n P ops Q (o :: rest) a w := by
  refine wpListIn_plain hgd fun K hK' => ?_
  unfold Oper.wpIn
  refine ⟨by simp [Oper.about, ho], ?_⟩
  rw [Oper.semAt_plain F _ _ (by rw [ho]; intro c hc'; cases hc'), exec_set hT ho hx hy hv h1 hB hj]
  exact hK' _ _ (h _ (hB.set j v) ⟨rfl, rfl, rfl, by simp, fun k _ hk => block_other hk j v⟩ (by simp))
theorem KeepBut.below {S : Nat → Prop} {w w' : World} {B : Nat} (h : KeepBut S w w') (hs : ∀ k, S k → B ≤ k) (hB : B ≤ w.heap.size) : Below B w w' :=
  ⟨h.os, h.tape, h.output, h.size, fun k hk => h.block k (by omega) (fun e => by have := hs k e; omega)⟩

section
variable {F : Fence} {n : Nat} {P : Program} {ops : Array Oper} {Q : Exit → Act → World → Prop} {a : Act} {w : World} {rest : List Oper} {o : Oper}
theorem wlIn_box (hgd : o.guard = none) {t : TypeId} {x : Operand} {C : Array Value} (ho : o.op = .box t x) (hx : a.eval x = .agg C)
    (h : ∀ w', Blk w' w.heap.size C t → Ext w w' → wpListIn F n P ops Q rest (a.put o.dst (.pointer (some ⟨w.heap.size, 0, none⟩))) w') : wpListIn F n P ops Q (o :: rest) a w :=
  wpListIn_of_run hgd (exec_box w ho hx) (by rw [ho]; intro c hc; cases hc) (by simp [Oper.about, ho]) (h _ (Blk.new _ _ _) (Ext.alloc _ _))
theorem wlIn_alloc (hgd : o.guard = none) {t : TypeId} {C : Array Value} (ho : o.op = .alloc t) (hz : (P.info? t).bind (·.zero) = some (.agg C))
    (h : ∀ w', Blk w' w.heap.size C t → Ext w w' → wpListIn F n P ops Q rest (a.put o.dst (.pointer (some ⟨w.heap.size, 0, none⟩))) w') : wpListIn F n P ops Q (o :: rest) a w :=
  wpListIn_of_run hgd (exec_alloc w ho hz) (by rw [ho]; intro c hc; cases hc) (by simp [Oper.about, ho]) (h _ (Blk.new _ _ _) (Ext.alloc _ _))
theorem wlIn_run (hgd : o.guard = none) {v : Value} {w' : World} (hrun : (execOp a.eval o).run P w = .ok (.value v) w') (hnd : ∀ c, o.op ≠ .defer c) (hab : ∀ f, o.about P w a.eval = some f → F.fn f)
    (h : wpListIn F n P ops Q rest (a.put o.dst v) w') : wpListIn F n P ops Q (o :: rest) a w := wpListIn_of_run hgd hrun hnd hab h
end

/-- Words of 32 bits in their cells. -/
def cellsU (L : List Nat) : List Value := L.map fun x => .int .u32 (x : Nat)
def uA (L : List Nat) : Array Value := (cellsU L).toArray
def bA (L : List Nat) : Array Value := (cellsB L).toArray
theorem uA_size (L : List Nat) : (uA L).size = L.length := by simp [uA, cellsU]
theorem bA_size (L : List Nat) : (bA L).size = L.length := by simp [bA, cellsB]
theorem uA_get (L : List Nat) (j : Nat) (h : j < L.length) : (uA L)[j]? = some (.int .u32 (L.getD j 0 : Nat)) := by
  simp [uA, cellsU, List.getD_eq_getElem?_getD, h]
theorem bA_get (L : List Nat) (j : Nat) (h : j < L.length) : (bA L)[j]? = some (.int .u8 (L.getD j 0 : Nat)) := by
  simp [bA, cellsB, List.getD_eq_getElem?_getD, h]
theorem uA_set (L : List Nat) (j x : Nat) : (uA L).setIfInBounds j (.int .u32 (x : Nat)) = uA (L.set j x) := by
  simp [uA, cellsU, List.map_set]
theorem bA_set (L : List Nat) (j x : Nat) : (bA L).setIfInBounds j (.int .u8 (x : Nat)) = bA (L.set j x) := by
  simp [bA, cellsB, List.map_set]
theorem uA_one (L : List Nat) : ∀ v ∈ (uA L).toList, v.oneCell' = true := by
  intro v hv; simp [uA, cellsU] at hv; obtain ⟨x, _, rfl⟩ := hv; rfl
theorem bA_one (L : List Nat) : ∀ v ∈ (bA L).toList, v.oneCell' = true := by
  intro v hv; simp [bA, cellsB] at hv; obtain ⟨x, _, rfl⟩ := hv; rfl
/-- The array's elements, one by one. -/
theorem exec_index {P : Program} {r : Operand → Value} {o : Oper} {t e : TypeId} {n : Nat} {x y : Operand} {C : Array Value} {k : IntKind} {j : Nat} {v : Value} (w : World) (ho : o.op = .index t x y) (hu : P.underlying t = some (.array n e)) (he : ∃ d, P.underlying e = some d ∧ d.isRow = false) (hs : (P.info? e).map (·.size) = some 1)
    (hx : r x = .agg C) (hy : r y = .int k (j : Int)) (hj : j < n) (hv : C[j]? = some v) : (execOp r o).run P w = .ok (.value v) w := by
  obtain ⟨d, hd, hr⟩ := he
  cases hq : P.info? e with
  | none => simp [hq] at hs
  | some i =>
    have hi : i.size = 1 := by simpa [hq] using hs
    have hagg : (isAgg e).run P w = .ok false w := by
      unfold isAgg
      rw [Sem.run_bind, run_underlying hd w]
      cases d <;> simp_all
    have hj' : (j : Int) < n := by omega
    simp [execOp, ho, hx, hy, Instr.index, asIntOf, run_underlying hu, sizeOf, typeInfo, hq, hi, hj', part, hagg, hv]
    intro h; omega
end Go.Proofs.YtfhoielfekeihaaDoor

/- A law on regions that draw their order and whose last operation comes behind all others: the others by facts that are kept, the last one by what it leaves. No condition of its own. -/
namespace Go.Proofs.YtfhoielfekeihaaDoor
open Go
set_option linter.unusedVariables false

section
variable {P : Program} {mk : Tmp → Option Nat} {ops : List Oper} {a0 : Act} {R : World → World → Prop} {V : Nat → World → Value → Prop} {w0 : World} {Q : Exit → Act → World → Prop} {n : Nat}

theorem getD_false2 {l : Array Bool} {i : Nat} (h : l.getD i true = false) : l.getD i false = false := by
  have hlt : i < l.size := by
    rcases Nat.lt_or_ge i l.size with h' | h'
    · exact h'
    · simp [Array.getElem?_eq_none h'] at h
  simpa [hlt] using h
theorem last_any (hsh : shapeB mk ops n = true) (hn : a0.tmps.size = n) (hV : ∀ i w w' v, R w w' → V i w v → V i w' v) (hT : ∀ a b c, R a b → R b c → R a c) (hRf : ∀ w, R w w) (last : Nat) (ol : Oper) (hol : ops[last]? = some ol) (hlen : ops.length = last + 1) (hla : ∀ i, i < last → afterB ol i = true ∨ ∃ (j : Nat) (oj : Oper), ops[j]? = some oj ∧ afterB ol j = true ∧ afterB oj i = true) (hgl : ol.guard = none) (hdl : ol.dst = none) (E : World → World → Prop)
    (hG : ∀ i o, i < last → ops[i]? = some o → Good P mk a0 R V w0 i o)
    (hL : ∀ (r : Operand → Value) (w : World), R w0 w → factsOf mk a0 V r w ol.op.operands.toList → give P (fun _ w' => E w w') ((execOp r ol).run P w))
    (hQ : ∀ a w w' (listed : Array Bool), (∀ i, i < last → listed.getD i false = true) → Inv ops a0 R V w0 listed a w → E w w' → Q .normal a w') :
    ∀ (fuel : Nat) (listed : Array Bool) (a : Act) (w : World), listed.size = ops.length → listed.countP (· == false) ≤ fuel → listed.getD last true = false → (∀ (j : Nat) oj, ops[j]? = some oj → listed.getD j false = true → ∀ e ∈ oj.after, Region.binds .any e = true → listed.getD e.on false = true) → Inv ops a0 R V w0 listed a w → wpAny P .any ops.toArray Q fuel listed a w := by
  have lt_of : ∀ {listed : Array Bool} {i : Nat}, listed.getD i true = false → i < listed.size := fun {listed i} h => by
    rcases Nat.lt_or_ge i listed.size with h' | h'
    · exact h'
    · simp [Array.getElem?_eq_none h'] at h
  -- something is ready as long as the last one is not carried out
  have some_ready : ∀ (listed : Array Bool), listed.size = ops.length → listed.getD last true = false → Region.ready .any ops.toArray listed ≠ [] := by
    intro listed hs hl hr
    have key : ∀ i, i < ops.length → listed.getD i false = true := by
      intro i
      induction i using Nat.strongRecOn with
      | _ i ih =>
        intro hi
        cases hb : listed.getD i false with
        | true => rfl
        | false =>
          exfalso
          have ho : ops[i]? = some ops[i] := by simp [hi]
          have : i ∈ Region.ready .any ops.toArray listed := by
            rw [mem_ready]
            refine ⟨by simpa [hs, hi] using hb, ops[i], by simp [hi], fun e he hbi => ?_⟩
            have hsp := shape_spec hsh ho
            simp only [shapeOneB, Bool.and_eq_true] at hsp
            have h5 := Array.all_eq_true_iff_forall_mem.1 hsp.2 e he
            simp [hbi] at h5
            exact ih e.on h5 (by omega)
          rw [hr] at this
          cases this
    have h1 := key last (by omega)
    have h2 := lt_of hl
    simp [h2] at h1 hl
    rw [h1] at hl; cases hl
  intro fuel
  induction fuel with
  | zero =>
    intro listed a w hs hc hl hcl hI
    exfalso
    have hlt := lt_of hl
    have h1 : listed.countP (· == false) = 0 := by omega
    rw [Array.countP_eq_zero] at h1
    have h2 : listed[last] = false := by simpa [hlt] using hl
    have := h1 listed[last] (Array.getElem_mem hlt)
    simp [h2] at this
  | succ fuel ih =>
    intro listed a w hs hc hl hcl hI
    refine ⟨fun hr => absurd hr (some_ready listed hs hl), fun i hi => ?_⟩
    obtain ⟨hli, o, ho', hall⟩ := mem_ready.1 hi
    have ho : ops[i]? = some o := by simpa using ho'
    have hfacts := factsOf_mk (hI.facts hsh ho hall)
    unfold wpOp
    simp only [ho']
    by_cases hil : i = last
    · subst hil
      rw [hol] at ho; cases ho
      have hg := hL a.eval w hI.rel hfacts
      have hothers : ∀ j, j < i → listed.getD j false = true := fun j hj => by
        rcases hla j hj with h1 | ⟨j2, oj, hoj, h1, h2⟩
        · obtain ⟨e, he, hb, rfl⟩ := after_spec h1
          exact hall e he hb
        · obtain ⟨e, he, hb, rfl⟩ := after_spec h1
          obtain ⟨e2, he2, hb2, rfl⟩ := after_spec h2
          exact hcl e.on oj hoj (hall e he hb) e2 he2 hb2
      simp only [Region.wanted, hgl, if_true]
      refine .inl (give_wp hg fun v w' hE => ?_)
      rw [hdl]
      have hq : Q .normal a w' := hQ a w w' listed hothers hI hE
      have hnil : Region.ready .any ops.toArray (listed.setIfInBounds i true) = [] := by
        cases hr : Region.ready .any ops.toArray (listed.setIfInBounds i true) with
        | nil => rfl
        | cons j js =>
          exfalso
          have hj : j ∈ Region.ready .any ops.toArray (listed.setIfInBounds i true) := by rw [hr]; simp
          have h0 := (mem_ready.1 hj).1
          have hlt := lt_of h0
          simp [hs] at hlt
          by_cases e : j = i
          · subst e; simp [hs, hlt] at h0
          · have := hothers j (by omega)
            rw [getD_set_ne true (Ne.symm e)] at h0
            simp [hs, hlt] at this h0
            rw [this] at h0; cases h0
      cases fuel with
      | zero => exact ⟨hnil, hq⟩
      | succ f => exact ⟨fun _ => hq, fun j hj => by rw [hnil] at hj; cases hj⟩
    · have hil' : i < last := by
        have h1 : i < ops.length := by
          rcases Nat.lt_or_ge i ops.length with h' | h'
          · exact h'
          · simp [List.getElem?_eq_none h'] at ho
        omega
      have hg := hG i o hil' ho a.eval w hI.rel hfacts
      have next : ∀ v w', R w w' ∧ V i w' v → wpAny P .any ops.toArray Q fuel (listed.setIfInBounds i true) (a.put o.dst v) w' := fun v w' ⟨h1, h2⟩ =>
        ih _ _ _ (by simp [hs]) (count_set hli hc) (by rw [getD_set_ne true hil]; exact hl) (fun j oj hoj hlj e he hb => by
          have keep : ∀ x, listed.getD x false = true → (listed.setIfInBounds i true).getD x false = true := fun x hx => by
            by_cases e' : i = x
            · subst e'; exact absurd (getD_false2 hli) (by rw [hx]; simp)
            · rw [getD_set_ne false e']; exact hx
          by_cases e' : i = j
          · subst e'
            rw [ho] at hoj; cases hoj
            exact keep _ (hall e he hb)
          · rw [getD_set_ne false e'] at hlj
            exact keep _ (hcl j oj hoj hlj e he hb)) (hI.put hsh hn hV hT ho hli h1 h2)
      cases hgd : o.guard with
      | none =>
        simp only [hgd] at hg
        simp only [Region.wanted, hgd, if_true]
        exact .inl (give_wp hg next)
      | some gw =>
        obtain ⟨g, want⟩ := gw
        simp only [hgd] at hg
        have hsp := shape_spec hsh ho
        simp only [shapeOneB, hgd, Bool.and_eq_true] at hsp
        obtain ⟨e, he, hb, rfl⟩ := after_spec hsp.1.1.2.1
        obtain ⟨d, hd⟩ := Option.isSome_iff_exists.1 hsp.1.1.2.2
        obtain ⟨og, hog, hdg⟩ := Option.bind_eq_some_iff.1 hd
        obtain ⟨v, h3, h4⟩ := hI.done e.on og hog (hall e he hb)
        have hv := h3 d hdg
        have hy : yielded ops.toArray a.tmps e.on = asBool v := by
          unfold yielded
          simp only [List.getElem?_toArray, hog, Option.bind_some, hdg, hv]
          cases v <;> rfl
        have := hg v h4
        simp only [Region.wanted, hgd, hy]
        split
        · rename_i hw
          rw [if_pos hw] at this
          exact .inl (give_wp this next)
        · rename_i hw
          rw [if_neg hw] at this
          exact next _ _ ⟨hRf w, this⟩

theorem Inv.wholeL (hsh : shapeB mk ops n = true) (hn : a0.tmps.size = n) (last : Nat) (ol : Oper) (hol : ops[last]? = some ol) (hlen : ops.length = last + 1) (hdl : ol.dst = none) {listed : Array Bool} {a : Act} {w : World} (hlist : ∀ i, i < last → listed.getD i false = true) (hI : Inv ops a0 R V w0 listed a w) :
    ∃ vs : Nat → Value, a = putAll vs ops 0 a0 ∧ ∀ i, i < last → V i w (vs i) := by
  have hI' : Inv ops a0 (fun _ _ => True) (fun i w v => i < last → V i w v) w0 (Array.replicate ops.length true) a w := by
    refine ⟨trivial, hI.defers, hI.size, fun t ht => ?_, fun i o hi _ => ?_⟩
    · refine hI.rest t fun i o hi hd => ?_
      have := ht i o hi hd
      have hlt : i < ops.length := by
        rcases Nat.lt_or_ge i ops.length with h' | h'
        · exact h'
        · simp [List.getElem?_eq_none h'] at hi
      simp [hlt] at this
    · by_cases e : i < last
      · obtain ⟨v, h1, h2⟩ := hI.done i o hi (hlist i e)
        exact ⟨v, h1, fun _ => h2⟩
      · have hlt : i < ops.length := by
          rcases Nat.lt_or_ge i ops.length with h' | h'
          · exact h'
          · simp [List.getElem?_eq_none h'] at hi
        obtain rfl : i = last := by omega
        rw [hol] at hi; cases hi
        exact ⟨undef, (fun d hd => by rw [hdl] at hd; cases hd), fun h => absurd h e⟩
  obtain ⟨vs, h1, h2⟩ := hI'.whole hsh hn
  exact ⟨vs, h1, fun i hi => h2 i (by omega) hi⟩
end

/-- The last operation comes behind all others, a closed fact. -/
def lastB (ops : List Oper) : Bool := match ops[ops.length - 1]? with | none => false | some o => decide (0 < ops.length) && o.guard.isNone && o.dst.isNone && (List.range (ops.length - 1)).all fun i => afterB o i || (List.range (ops.length - 1)).any fun j => match ops[j]? with | none => false | some oj => afterB o j && afterB oj i

/-- THE LAW. 'init': the operations but the last. -/
theorem wp_region_last {P : Program} {init : List Oper} {ol : Oper} {a0 : Act} {Q : Exit → Act → World → Prop} {id : Nat} {w : World} (mk : Tmp → Option Nat) (n : Nat) (R : World → World → Prop) (Vs : List Fact) (hlen : Vs.length = init.length)
    (hm : P.follows .mixedOrders = true) (hsh : shapeB mk (init ++ [ol]) n = true) (hn : a0.tmps.size = n) (hlast : lastB (init ++ [ol]) = true)
    (hRf : ∀ w, R w w) (hT : ∀ a b c, R a b → R b c → R a c) (hK : KeepAll R Vs) (hG : GoodAll P mk a0 R (at_ Vs) w.drew 0 init) (E : World → World → Prop)
    (hL : ∀ (r : Operand → Value) (w' : World), R w.drew w' → factsOf mk a0 (at_ Vs) r w' ol.op.operands.toList → give P (fun _ w'' => E w' w'') ((execOp r ol).run P w'))
    (hQ : ∀ (vs : Nat → Value) (w' w'' : World) (a' : Act), R w.drew w' → E w' w'' → HoldAll w' vs 0 Vs → a' = putAll vs (init ++ [ol]) 0 a0 → Q .normal a' w'') :
    (Code.region id (init ++ [ol]).toArray true).wp P Q a0 w := by
  refine wp_region_any hm ?_
  have hol : (init ++ [ol])[init.length]? = some ol := by simp
  have hll : (init ++ [ol]).length = init.length + 1 := by simp
  unfold lastB at hlast
  rw [show (init ++ [ol]).length - 1 = init.length by simp, hol] at hlast
  simp only [Bool.and_eq_true, List.all_eq_true, List.mem_range, Option.isNone_iff_eq_none, decide_eq_true_eq] at hlast
  have hla : ∀ i, i < init.length → afterB ol i = true ∨ ∃ (j : Nat) (oj : Oper), (init ++ [ol])[j]? = some oj ∧ afterB ol j = true ∧ afterB oj i = true := fun i hi => by
    have := hlast.2 i hi
    rw [Bool.or_eq_true] at this
    rcases this with h | h
    · exact .inl h
    · obtain ⟨j, hj, h2⟩ := List.any_eq_true.1 h
      cases hoj : (init ++ [ol])[j]? with
      | none => rw [hoj] at h2; cases h2
      | some oj =>
        rw [hoj] at h2
        simp only [Bool.and_eq_true] at h2
        exact .inr ⟨j, oj, hoj, h2.1, h2.2⟩
  have h := last_any (P := P) (ops := init ++ [ol]) (a0 := a0) (R := R) (V := at_ Vs) (w0 := w.drew) (Q := Q) (n := n) hsh hn hK.at hT hRf init.length ol hol hll hla hlast.1.1.2 hlast.1.2 E
    (fun i o hi ho => by
      rw [List.getElem?_append_left hi] at ho
      have := hG.at i o ho; rwa [Nat.zero_add] at this)
    hL
    (fun a w' w'' listed hlist hI hE => by
      obtain ⟨vs, rfl, h⟩ := hI.wholeL hsh hn init.length ol hol hll hlast.1.2 hlist
      exact hQ vs w' w'' _ hI.rel hE (HoldAll.mk fun i hi => by rw [Nat.zero_add]; exact h i (by omega)) rfl)
    (init ++ [ol]).length (Array.replicate (init ++ [ol]).length false) a0 w.drew (by simp) (by
      have := Array.countP_le_size (p := (· == false)) (xs := Array.replicate (init ++ [ol]).length false)
      simpa using this) (by simp) (fun j oj hoj hl => by
        exfalso
        by_cases h : j < (init ++ [ol]).length
        · rw [Array.getD_eq_getD_getElem?, Array.getElem?_replicate, if_pos h] at hl; cases hl
        · rw [Array.getD_eq_getD_getElem?, Array.getElem?_replicate, if_neg h] at hl; cases hl) ⟨hRf _, rfl, rfl, fun _ _ => rfl, fun i o hi hl => by
        exfalso
        by_cases h : i < (init ++ [ol]).length
        · rw [Array.getD_eq_getD_getElem?, Array.getElem?_replicate, if_pos h] at hl; cases hl
        · rw [Array.getD_eq_getD_getElem?, Array.getElem?_replicate, if_neg h] at hl; cases hl⟩
  simpa using h
/-- The same, the region's operations as they stand. -/
theorem wp_region_lastD {P : Program} {ops : List Oper} {a0 : Act} {Q : Exit → Act → World → Prop} {id : Nat} {w : World} (mk : Tmp → Option Nat) (n : Nat) (R : World → World → Prop) (Vs : List Fact) (hne : ops ≠ []) (hlen : Vs.length = ops.dropLast.length)
    (hm : P.follows .mixedOrders = true) (hsh : shapeB mk ops n = true) (hn : a0.tmps.size = n) (hlast : lastB ops = true)
    (hRf : ∀ w, R w w) (hT : ∀ a b c, R a b → R b c → R a c) (hK : KeepAll R Vs) (E : World → World → Prop) (hG : GoodAll P mk a0 R (at_ Vs) w.drew 0 ops.dropLast)
    (hL : ∀ (r : Operand → Value) (w' : World), R w.drew w' → factsOf mk a0 (at_ Vs) r w' (ops.getLast hne).op.operands.toList → give P (fun _ w'' => E w' w'') ((execOp r (ops.getLast hne)).run P w'))
    (hQ : ∀ (vs : Nat → Value) (w' w'' : World) (a' : Act), R w.drew w' → E w' w'' → HoldAll w' vs 0 Vs → a' = putAll vs ops 0 a0 → Q .normal a' w'') :
    (Code.region id ops.toArray true).wp P Q a0 w := by
  have e : ops.dropLast ++ [ops.getLast hne] = ops := List.dropLast_concat_getLast hne
  have := wp_region_last (P := P) (init := ops.dropLast) (ol := ops.getLast hne) (a0 := a0) (Q := Q) (id := id) (w := w) mk n R Vs hlen hm (by rw [e]; exact hsh) hn (by rw [e]; exact hlast) hRf hT hK hG E hL (by rw [e]; exact hQ)
  rwa [e] at this
end Go.Proofs.YtfhoielfekeihaaDoor
