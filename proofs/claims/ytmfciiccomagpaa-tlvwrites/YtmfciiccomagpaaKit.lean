/- Slices of bytes in memory: what reads as a list of bytes, what of it is kept while memory only grows, what append and the conversion to a string make of it. No condition of its own. -/
import Derived.Test.YtmfciiccomagpaaRely
import Derived.WalkKit
import Derived.ProofKit
import Derived.Below
import Derived.Laws.BytesArg
import Derived.Laws.OwnMore
import Derived.Maps.AppendAt
import Derived.Deep.AppendLies
import Derived.Laws.IdiomStrings
import Derived.Laws.Strings
import Derived.OpenShut
import Derived.Laws.MakeOwn
import Derived.Laws.CopyOwn
import Derived.Laws.CopyRow
import Derived.MakeChecks
namespace Go.Proofs.Ytmfciiccomagpaa
open Go.RowKit

theorem ret_int {k : IntKind} {a b : Int} (h : a = b) : Ending.returned (.int k a) = .returned (.int k b) := by rw [h]

/-- Memory has only grown: every block that stood stands as it was. -/
def Ext (w w' : World) : Prop := Below w.heap.size w w'
theorem Ext.refl (w : World) : Ext w w := Below.refl _ _
theorem Ext.trans {a b c : World} (h : Ext a b) (k : Ext b c) : Ext a c := Below.trans h (Below.mono k h.size)
theorem Ext.alloc (w : World) (o : Obj) : Ext w (w.alloc o) := (Below.refl _ _).alloc (Nat.le_refl _) o
theorem Ext.drew (w : World) : Ext w w.drew := (Below.refl _ _).drew
theorem Ext.below {w w' : World} (h : Ext w w') : Below w.heap.size w w' := h
theorem Ext.size {w w' : World} (h : Ext w w') : w.heap.size ≤ w'.heap.size := Below.size h
theorem Ext.of_grown {w w' : World} (h : w.grownBy w' none) : Ext w w' := ⟨h.os, h.tape, h.output, h.size, fun k hk => h.block k hk (by simp)⟩

theorem Ext.step {w w1 w2 : World} (h : Ext w w1) (o : Obj) (h2 : Below w1.heap.size (w1.alloc o) w2) : Ext w w2 :=
  h.trans (Below.trans (Ext.alloc w1 o) h2)
theorem Ext.on {w w1 w2 : World} {B : Nat} (h : Ext w w1) (h2 : Below B w1 w2) (hB : w.heap.size ≤ B) : Ext w w2 := Below.trans h (h2.mono hB)
/-- One world, or the world at the end: for a region with one writer. -/
def Fin1 (wF x y : World) : Prop := y = x ∨ y = wF
theorem Fin1.refl {wF : World} (x : World) : Fin1 wF x x := .inl rfl
theorem Fin1.trans {wF a b c : World} (h : Fin1 wF a b) (k : Fin1 wF b c) : Fin1 wF a c := by
  rcases k with rfl | rfl
  · exact h
  · exact .inr rfl
theorem cell_lt {w : World} {a : Addr} {v : Value} (h : w.cell? a = some v) : a.block < w.heap.size := by
  rcases Nat.lt_or_ge a.block w.heap.size with h' | h'
  · exact h'
  · simp [World.cell?, Array.getElem?_eq_none h'] at h
theorem Ext.cell {w w' : World} (h : Ext w w') {a : Addr} {v : Value} (hc : w.cell? a = some v) : w'.cell? a = some v := by
  rw [Below.cell h (cell_lt hc)]; exact hc
theorem Below.cellAt {B : Nat} {w w' : World} (h : Below B w w') {a : Addr} {v : Value} (hc : w.cell? a = some v) (hB : a.block < B) : w'.cell? a = some v := by
  rw [Below.cell h hB]; exact hc

theorem cellNew (w : World) (C : Array Value) (t : TypeId) (fr : Nat × Nat) (n j : Nat) (hn : n = w.heap.size) : (w.alloc (.cells C t fr)).cell? ⟨n, j, none⟩ = C[j]? := by
  subst hn; exact World.cell?_alloc_mark w C t fr j
theorem cellOld (w : World) (o : Obj) (n j : Nat) (hn : n < w.heap.size) : (w.alloc o).cell? ⟨n, j, none⟩ = w.cell? ⟨n, j, none⟩ := World.cell?_alloc_lt w o ⟨n, j, none⟩ hn

theorem take_next {α : Type} (l : List α) (d : α) (k : Nat) (h : k < l.length) : l.take (k + 1) = l.take k ++ [l.getD k d] := by
  rw [List.take_succ_eq_append_getElem h]
  simp [List.getD_eq_getElem?_getD, h]
theorem getD_mem {α : Type} (l : List α) (d : α) (k : Nat) (h : k < l.length) : l.getD k d ∈ l := by
  simp [List.getD_eq_getElem?_getD, h]
theorem add_plain (b off j : Nat) : (⟨b, off, none⟩ : Addr).add j = ⟨b, off + j, none⟩ := by unfold Addr.add; split <;> simp_all

/-- A slice that reads as these bytes. -/
def BytesAt (w : World) (v : Value) (l : List Nat) : Prop :=
  (∀ x ∈ l, x < 256) ∧ l.length ≤ maxLen ∧ ((l = [] ∧ v = .slice none 0 0) ∨
    ∃ ad cap, v = .slice (some ad) l.length cap ∧ l.length ≤ cap ∧ cap ≤ maxLen ∧ ∀ j, j < l.length → w.cell? (ad.add j) = some (.int .u8 (l.getD j 0 : Nat)))

theorem BytesAt.ext {w w' : World} {v : Value} {l : List Nat} (h : BytesAt w v l) (he : Ext w w') : BytesAt w' v l := by
  obtain ⟨h1, h2, h3⟩ := h
  refine ⟨h1, h2, h3.imp id ?_⟩
  rintro ⟨ad, cap, rfl, h4, h5, hc⟩
  exact ⟨ad, cap, rfl, h4, h5, fun j hj => he.cell (hc j hj)⟩

/-- Out of a row of the argument's. -/
theorem BytesAt.of_row {w : World} {x : Addr} {len cap : Nat} {zs : List Int} (hl : len ≤ cap) (hm : cap ≤ maxLen) (hz : zs.length = cap) (hc : ∀ i, i < zs.length → w.cell? (x.add i) = some (.int .u8 (zs.getD i 0))) (hw : ∀ n ∈ zs, (Lit.int .u8 n).wf = true) :
    BytesAt w (.slice (some x) len cap) ((zs.take len).map Int.toNat) := by
  have hb : ∀ n ∈ zs, 0 ≤ n ∧ n < 256 := fun n hn => by
    have := hw n hn
    simp [Lit.wf, IntKind.min, IntKind.max, IntKind.signed, IntKind.bits] at this
    omega
  have hlen : ((zs.take len).map Int.toNat).length = len := by simp; omega
  refine ⟨fun y hy => ?_, by omega, .inr ⟨x, cap, by rw [hlen], by omega, hm, fun j hj => ?_⟩⟩
  · obtain ⟨n, hn, rfl⟩ := List.mem_map.1 hy
    have := hb n (List.mem_of_mem_take hn)
    omega
  · rw [hlen] at hj
    have hjz : j < zs.length := by omega
    rw [hc j hjz]
    have := hb _ (List.getElem_mem hjz)
    simp [List.getD_eq_getElem?_getD, hj, hjz]
    omega

/-- In a walk: the slice's shape, and each cell by its block and place. -/
theorem BytesAt.form {w : World} {v : Value} {l : List Nat} (h : BytesAt w v l) :
    ∃ a cap, v = .slice a l.length cap ∧ (l.length ≤ cap ∧ cap ≤ maxLen) ∧ ∀ j, j < l.length → ∃ b off, a = some ⟨b, off, none⟩ ∧ w.cell? ⟨b, off + j, none⟩ = some (.int .u8 (l.getD j 0 : Nat)) := by
  obtain ⟨_, _, ⟨rfl, rfl⟩ | ⟨ad, cap, rfl, h4, h5, hc⟩⟩ := h
  · exact ⟨none, 0, rfl, ⟨by simp, by simp⟩, fun j hj => by simp at hj⟩
  · refine ⟨some ad, cap, rfl, ⟨h4, h5⟩, fun j hj => ?_⟩
    obtain ⟨b, off, spot⟩ := ad
    have h0 := hc 0 (by omega)
    have hs : spot = none := by simpa [Addr.add] using World.cell?_spot h0
    subst hs
    refine ⟨b, off, rfl, ?_⟩
    have := hc j hj
    rwa [add_plain] at this

/-- A slice of slices that reads as these lists of bytes. -/
def PartsAt (w : World) (v : Value) (ls : List (List Nat)) : Prop :=
  ls.length ≤ 1000 ∧ ∃ b off cap, v = .slice (some ⟨b, off, none⟩) ls.length cap ∧ ∀ i, i < ls.length → ∃ u, w.cell? ⟨b, off + i, none⟩ = some u ∧ BytesAt w u (ls.getD i [])
theorem PartsAt.ext {w w' : World} {v : Value} {ls : List (List Nat)} (h : PartsAt w v ls) (he : Ext w w') : PartsAt w' v ls := by
  obtain ⟨h1, b, off, cap, rfl, hc⟩ := h
  refine ⟨h1, b, off, cap, rfl, fun i hi => ?_⟩
  obtain ⟨u, hu, hb⟩ := hc i hi
  exact ⟨u, he.cell hu, hb.ext he⟩

/-- Parts laid into a new block. -/
theorem PartsAt.made (w : World) (us : List Value) (ls : List (List Nat)) (t n c : Nat) (hn : n = w.heap.size) (hl : us.length = ls.length) (h1 : ls.length ≤ 1000) (hb : ∀ i, i < ls.length → BytesAt w (us.getD i undef) (ls.getD i [])) :
    PartsAt (w.alloc (.cells us.toArray t)) (.slice (some ⟨n, 0, none⟩) ls.length c) ls := by
  refine ⟨h1, n, 0, c, rfl, fun i hi => ⟨us.getD i undef, ?_, (hb i hi).ext (Ext.alloc _ _)⟩⟩
  rw [cellNew _ _ _ _ _ _ hn]
  simp [List.getD_eq_getElem?_getD, show i < us.length by omega]

/-- What is known of the types []byte and byte. -/
structure ByteT (P : Program) (t e : TypeId) : Prop where
  ut : P.underlying t = some (.slice e)
  ue : P.underlying e = some (.int .u8)
  info : (P.info? e).map (fun i => (i.zero.isSome, i.size, i.bytes)) = some (true, 1, 1)
  zero : (P.info? e).bind (·.zero) = some (.int .u8 0)

theorem ByteT.ex {P : Program} {t e : TypeId} (h : ByteT P t e) : ∃ i, P.info? e = some i ∧ i.zero = some (.int .u8 0) ∧ i.size = 1 ∧ i.bytes = 1 := by
  obtain ⟨i, hi, h2⟩ := Option.map_eq_some_iff.1 h.info
  simp only [Prod.mk.injEq] at h2
  have hz := h.zero
  rw [hi] at hz
  exact ⟨i, hi, by simpa using hz, h2.2.1, h2.2.2⟩

def cellsB (l : List Nat) : List Value := l.map fun x => .int .u8 (x : Nat)
theorem cellsB_length (l : List Nat) : (cellsB l).length = l.length := by simp [cellsB]
theorem cellsB_get {l : List Nat} {j : Nat} {u : Value} (h : (cellsB l)[j]? = some u) : j < l.length ∧ u = .int .u8 (l.getD j 0 : Nat) := by
  unfold cellsB at h
  rw [List.getElem?_map] at h
  obtain ⟨x, hx, rfl⟩ := Option.map_eq_some_iff.1 h
  have hj : j < l.length := by
    rcases Nat.lt_or_ge j l.length with h' | h'
    · exact h'
    · simp [List.getElem?_eq_none h'] at hx
  exact ⟨hj, by simp [List.getD_eq_getElem?_getD, hx]⟩

/-- A slice of bytes in a block of the call's own, from block 'base' on. -/
def OwnB (w : World) (base : Nat) (e : TypeId) (v : Value) (l : List Nat) : Prop :=
  (∀ x ∈ l, x < 256) ∧ (∃ g cap, v = .slice (some ⟨g, 0, none⟩) l.length cap ∧ base ≤ g ∧ g < w.heap.size ∧ l.length ≤ cap ∧ cap ≤ maxLen) ∧ w.ownsRow base e 1 v l.length (cellsB l)

theorem OwnB.bytes {w : World} {base : Nat} {e : TypeId} {v : Value} {l : List Nat} (h : OwnB w base e v l) : BytesAt w v l := by
  obtain ⟨h1, ⟨g, cap, rfl, _, _, hle, hm⟩, hown⟩ := h
  refine ⟨h1, by omega, .inr ⟨⟨g, 0, none⟩, cap, rfl, hle, hm, fun j hj => ?_⟩⟩
  have := hown.cellAt j (by omega)
  rw [add_plain, Nat.zero_add, this]
  simp [cellsB, List.getD_eq_getElem?_getD, hj]

theorem OwnB.made {w : World} {base n c : Nat} {e : TypeId} (cs : Array Value) (l : List Nat) (hn : n = w.heap.size) (hb : base ≤ w.heap.size) (hl : c = l.length) (hm : l.length ≤ maxLen) (h1 : ∀ x ∈ l, x < 256) (hc : cs = (cellsB l).toArray) :
    OwnB (w.alloc (.cells cs e)) base e (.slice (some ⟨n, 0, none⟩) c c) l := by
  subst hn hl hc
  refine ⟨h1, ⟨_, _, rfl, hb, by simp, Nat.le_refl _, hm⟩, ?_⟩
  have := World.ownsRow_lit (base := base) (e := e) (size := 1) w (cellsB l).toArray l.length hb hm (by simp [cellsB])
  simpa using this

theorem OwnB.below {w w' : World} {base B : Nat} {e : TypeId} {v : Value} {l : List Nat} (h : OwnB w base e v l) (hw : Below B w w') (hB : w.heap.size ≤ B) : OwnB w' base e v l := by
  obtain ⟨h1, ⟨g, cap, rfl, hg, hlt, hle, hm⟩, h2, h3⟩ := h
  refine ⟨h1, ⟨g, cap, rfl, hg, Nat.lt_of_lt_of_le hlt hw.size, hle, hm⟩, h2, ?_⟩
  rcases h3 with ⟨h3, _⟩ | ⟨g', cap', cur, h3, h4, h5, h6⟩
  · simp at h3
  · refine .inr ⟨g', cap', cur, h3, h4, ?_, h6⟩
    simp at h3
    obtain ⟨rfl, rfl⟩ := h3
    rw [hw.block g (by omega)]; exact h5
theorem OwnB.ext {w w' : World} {base : Nat} {e : TypeId} {v : Value} {l : List Nat} (h : OwnB w base e v l) (he : Ext w w') : OwnB w' base e v l := h.below he (Nat.le_refl _)

theorem OwnB.cellAt {w : World} {base g n c : Nat} {e : TypeId} {l : List Nat} (h : OwnB w base e (.slice (some ⟨g, 0, none⟩) n c) l) (j : Nat) (hj : j < l.length) : w.cell? ⟨g, j, none⟩ = some (.int .u8 (l.getD j 0 : Nat)) := by
  have hn : n = l.length := by
    obtain ⟨_, ⟨g', c', e1, _⟩, _⟩ := h
    simp only [Value.slice.injEq] at e1
    exact e1.2.1
  subst hn
  have := h.2.2.cellAt j (by omega)
  rw [this]
  simp [cellsB, List.getD_eq_getElem?_getD, hj]
theorem OwnB.frozenAt {w : World} {base g n c : Nat} {e : TypeId} {l : List Nat} (h : OwnB w base e (.slice (some ⟨g, 0, none⟩) n c) l) (j : Nat) : w.frozen? ⟨g, j, none⟩ = false := by
  have hn : n = l.length := by
    obtain ⟨_, ⟨g', c', e1, _⟩, _⟩ := h
    simp only [Value.slice.injEq] at e1
    exact e1.2.1
  subst hn
  exact h.2.2.frozenAt j
theorem OwnB.grown {w w' : World} {base : Nat} {e : TypeId} {v : Value} {l : List Nat} {row : Option Nat} (h : OwnB w base e v l) (hg : w.grownBy w' row) (hne : v.ownBlock ≠ row) : OwnB w' base e v l := by
  obtain ⟨h1, ⟨g, c, rfl, h2, h3, h4, h5⟩, h6⟩ := h
  exact ⟨h1, ⟨g, c, rfl, h2, Nat.lt_of_lt_of_le h3 hg.size, h4, h5⟩, h6.kept hg (.inr hne)⟩
/-- One byte stored. -/
theorem OwnB.stored {w : World} {base g n c : Nat} {e : TypeId} {l : List Nat} (h : OwnB w base e (.slice (some ⟨g, 0, none⟩) n c) l) (j x : Nat) (hx : x < 256) : OwnB (w.setCell ⟨g, j, none⟩ (.int .u8 (x : Nat))) base e (.slice (some ⟨g, 0, none⟩) n c) (l.set j x) ∧ w.grownBy (w.setCell ⟨g, j, none⟩ (.int .u8 (x : Nat))) (some g) := by
  have hn : n = l.length := by
    obtain ⟨_, ⟨g', c', e1, _⟩, _⟩ := h
    simp only [Value.slice.injEq] at e1
    exact e1.2.1
  subst hn
  have hs := h.2.2.stored j (.int .u8 (x : Nat))
  refine ⟨⟨fun y hy => ?_, ?_, ?_⟩, hs.2⟩
  · rcases List.mem_or_eq_of_mem_set hy with h' | h'
    · exact h.1 y h'
    · omega
  · obtain ⟨_, ⟨g', c', e1, h2, h3, h4, h5⟩, _⟩ := h
    simp only [Value.slice.injEq, Option.some.injEq, Addr.mk.injEq, and_true, true_and] at e1
    obtain ⟨rfl, rfl⟩ := e1
    exact ⟨g, c, by simp, h2, by simpa using h3, by simpa using h4, h5⟩
  · rw [List.length_set]
    have e2 : cellsB (l.set j x) = (cellsB l).set j (.int .u8 (x : Nat)) := by simp [cellsB, List.map_set]
    rw [e2]
    exact hs.1
theorem OwnB.cap {w : World} {base g n c : Nat} {e : TypeId} {l : List Nat} (h : OwnB w base e (.slice (some ⟨g, 0, none⟩) n c) l) : n = l.length ∧ l.length ≤ c ∧ c ≤ maxLen ∧ base ≤ g ∧ g < w.heap.size := by
  obtain ⟨_, ⟨g', c', e1, h1, h2, h3, h4⟩, _⟩ := h
  simp only [Value.slice.injEq, Option.some.injEq, Addr.mk.injEq, and_true] at e1
  obtain ⟨rfl, e2, rfl⟩ := e1
  exact ⟨e2, h3, h4, h1, h2⟩

/-- A part of it. -/
theorem BytesAt.sliced {w : World} {a : Option Addr} {n c : Nat} {l : List Nat} (h : BytesAt w (.slice a n c) l) (lo hi : Nat) (h1 : lo ≤ hi) (h2 : hi ≤ l.length) : BytesAt w (Go.sliced a lo hi c 1) ((l.take hi).drop lo) := by
  obtain ⟨hb, hm, h3 | ⟨ad, cap, e1, hle, hcm, hc⟩⟩ := h
  · obtain ⟨rfl, e1⟩ := h3
    simp only [Value.slice.injEq] at e1
    obtain ⟨rfl, rfl, rfl⟩ := e1
    simp at h2
    obtain rfl : hi = 0 := h2
    obtain rfl : lo = 0 := by omega
    exact ⟨by simp, by simp, .inl ⟨rfl, rfl⟩⟩
  · simp only [Value.slice.injEq] at e1
    obtain ⟨rfl, rfl, rfl⟩ := e1
    refine ⟨fun x hx => hb x (List.mem_of_mem_take (List.mem_of_mem_drop hx)), by simp; omega, .inr ⟨if c = lo then ad else ad.add lo, c - lo, ?_, by simp; omega, by omega, fun j hj => ?_⟩⟩
    · simp only [Go.sliced, List.length_drop, List.length_take, Nat.mul_one, Option.map_some]
      rw [show min hi l.length = hi by omega]
      split <;> rfl
    · simp only [List.length_drop, List.length_take] at hj
      rw [if_neg (by omega)]
      have h0 := hc (lo + j) (by omega)
      have e2 : (ad.add lo).add j = ad.add (lo + j) := by
        unfold Addr.add
        by_cases hl : lo = 0 <;> by_cases hj0 : j = 0 <;> simp [hl, hj0, Nat.add_assoc]
      rw [e2, h0]
      simp [List.getD_eq_getElem?_getD, List.getElem?_drop, show lo + j < hi by omega]
theorem BytesAt.none (w : World) : BytesAt w (.slice none 0 0) [] := ⟨by simp, by simp, .inl ⟨rfl, rfl⟩⟩

/-- append onto a slice of the call's own, of whatever reads as bytes. -/
theorem run_append_bytes {P : Program} {t e : TypeId} (hT : ByteT P t e) (w : World) (base ty : Nat) (v x : Value) (l m : List Nat) (hv : OwnB w base e v l) (hx : BytesAt w x m) (hlen : l.length + m.length ≤ 140737488355328) :
    ∃ v' w', (Builtin.append_ #[t, t] ty #[v, x]).run P w = .ok v' w' ∧ OwnB w' base e v' (l ++ m) ∧ Below base w w' := by
  obtain ⟨i, hi, hz, hs, hby⟩ := hT.ex
  obtain ⟨hl1, ⟨g, cap, rfl, hbg, hlt, hle, hcm⟩, hown⟩ := hv
  obtain ⟨hm1, hm2, hx⟩ := hx
  have hbase : base ≤ w.heap.size := by omega
  rcases hx with ⟨rfl, rfl⟩ | ⟨ad, c, rfl, _, _, hc⟩
  · refine ⟨_, w, run_append_owned_none w base t ty e i 1 hT.ut hi _ _ _ hown, ?_, Below.refl _ _⟩
    rw [List.append_nil]
    exact ⟨hl1, ⟨g, cap, rfl, hbg, hlt, hle, hcm⟩, hown⟩
  · obtain ⟨v', w', hr, h2, h3, h4, h5⟩ := run_append_own_at (P := P) w base t ty e i (.int .u8 0) 1 1 hT.ut hi hz hs hby rfl (by omega) _ l.length (cellsB l) hown ad m.length c (cellsB m) (by simp [cellsB])
      (fun j u hu => by
        obtain ⟨hj, rfl⟩ := cellsB_get hu
        exact hc j hj)
      (fun u hu => by
        obtain ⟨y, _, rfl⟩ := List.mem_map.1 hu
        rfl) (by unfold maxLen; omega) (by omega) hbase
    have hgr : Below base w w' := ⟨h3.os, h3.tape, h3.output, h3.size, fun k hk => h3.block k (by omega) (by simp [Value.ownBlock]; omega)⟩
    refine ⟨v', w', hr, ⟨fun y hy => (List.mem_append.1 hy).elim (hl1 y) (hm1 y), ?_, ?_⟩, hgr⟩
    · rcases h2.2 with ⟨e1, _⟩ | ⟨g', cap', cur, e1, hb', hg', hnc, hcm', _⟩
      · rw [h4] at e1; simp at e1
      · refine ⟨g', cap', by rw [e1, List.length_append], hb', ?_, by rw [List.length_append]; exact hnc, hcm'⟩
        rcases Nat.lt_or_ge g' w'.heap.size with h' | h'
        · exact h'
        · simp [Array.getElem?_eq_none h'] at hg'
    · rw [List.length_append]
      simpa [cellsB] using h2

/-- The same at the operation, in a plain region. -/
theorem wpList_append_bytes {P : Program} {t e : TypeId} (hT : ByteT P t e) {w : World} {ops : Array Oper} {rest : List Oper} {o : Oper} {a : Act} {Q : Exit → Act → World → Prop} (hgd : o.guard = none) (s x : Operand)
    (ho : o.op = .call { callee := .builtin .append, args := #[s, x], argTypes := #[t, t] }) (base : Nat) (l m : List Nat) (hv : OwnB w base e (a.eval s) l) (hx : BytesAt w (a.eval x) m) (hlen : l.length + m.length ≤ 140737488355328)
    (h : ∀ g cap w', OwnB w' base e (.slice (some ⟨g, 0, none⟩) (l ++ m).length cap) (l ++ m) → Below base w w' → wpList P ops Q rest (a.put o.dst (.slice (some ⟨g, 0, none⟩) (l ++ m).length cap)) w') : wpList P ops Q (o :: rest) a w := by
  refine wpList_plain hgd fun K hK => ?_
  obtain ⟨v', w', hr, h2, h3⟩ := run_append_bytes hT w base o.type _ _ l m hv hx hlen
  obtain ⟨g, cap, rfl, _⟩ := h2.2.1
  unfold Oper.wp
  simp only [execOp, ho, resolve, invoke, builtin, Sem.run_bind, Sem.run_pure, Result.andThen_ok, List.map_toArray, List.map_cons, List.map_nil, hr]
  exact hK _ _ (h g cap w' h2 h3)

/-- 'make' of no bytes, with room. -/
theorem wpList_make_bytes {P : Program} {t e : TypeId} (hT : ByteT P t e) {w : World} {ops : Array Oper} {rest : List Oper} {o : Oper} {a : Act} {Q : Exit → Act → World → Prop} (hgd : o.guard = none) (x y : Operand)
    (ho : o.op = .makeSlice t x y) (c : Nat) (hx : a.eval x = .int .i64 0) (hy : a.eval y = .int .i64 (c : Int)) (hc : c ≤ 281474976710656)
    (h : ∀ w', OwnB w' w.heap.size e (.slice (some ⟨w.heap.size, 0, none⟩) 0 c) [] → Ext w w' → wpList P ops Q rest (a.put o.dst (.slice (some ⟨w.heap.size, 0, none⟩) 0 c)) w') : wpList P ops Q (o :: rest) a w := by
  refine wpList_plain hgd fun K hK => ?_
  obtain ⟨i, hi, hz, hs, hby⟩ := hT.ex
  obtain ⟨w', hr, h2, h3⟩ := run_make_own (P := P) w w.heap.size t e i (.int .u8 0) 1 hT.ut hi hz hs .i64 .i64 c (by rw [hby]; omega) (by unfold maxLen; omega) (Nat.le_refl _)
  unfold Oper.wp
  simp only [execOp, ho, hx, hy, Sem.run_bind, hr, Result.andThen_ok]
  refine hK _ _ (h w' ⟨by simp, ⟨_, _, rfl, Nat.le_refl _, ?_, by simp, by unfold maxLen; omega⟩, h2⟩ (Ext.of_grown h3))
  rcases h2.2 with ⟨e1, _⟩ | ⟨g', cap', cur, e1, _, hg', _⟩
  · simp at e1
  · simp at e1
    obtain ⟨rfl, rfl⟩ := e1
    rcases Nat.lt_or_ge w.heap.size w'.heap.size with h' | h'
    · exact h'
    · simp [Array.getElem?_eq_none h'] at hg'

/-- copy of as many bytes as the row has. -/
theorem run_copy_bytes {P : Program} {t e te : TypeId} (hT : ByteT P t e) (W : World) (g n c ty : Nat) (v : Value) (l : List Nat) (cur : Array Value) (hg : W.heap[g]? = some (.cells cur te (0, 0))) (hcur : cur.size = n) (hv : BytesAt W v l) (hl : l.length = n) (hn : 0 < n) :
    (Builtin.copy_ #[t, t] ty #[.slice (some ⟨g, 0, none⟩) n c, v]).run P W = .ok (goInt n) (W.setRow g (cellsB l).toArray) := by
  obtain ⟨_, _, ⟨rfl, _⟩ | ⟨ad, cap, rfl, _, _, hc⟩⟩ := hv
  · simp at hl; omega
  have := run_copy_row (P := P) W t t ty e g 0 n c ad l.length cap cur te (cellsB l) hT.ut (by
      obtain ⟨i, hi, _, hs, _⟩ := hT.ex
      simp [hi, hs]) hg (by rw [cellsB_length, hl]; exact (Nat.min_self n).symm) (fun j u hu => by
        obtain ⟨hj, rfl⟩ := cellsB_get hu
        exact hc j hj) (by rw [cellsB_length]; omega) (fun u hu => by
        obtain ⟨y, _, rfl⟩ := List.mem_map.1 hu
        rfl)
  rw [this]
  rw [cellsB_length, hl, Nat.zero_add, List.take_zero, List.nil_append, List.drop_of_length_le (by rw [Array.length_toList]; omega), List.append_nil]

/-- The bytes as a string. -/
def strOf (l : List Nat) : ByteArray := strOfNums (l.map Int.ofNat)

theorem run_string_bytes {P : Program} {t e d : TypeId} (hT : ByteT P t e) (hd : P.underlying d = some .string) (w : World) (v : Value) (l : List Nat) (h : BytesAt w v l) : (convert t d v).run P w = .ok (.string (strOf l)) w := by
  obtain ⟨h1, h2, ⟨rfl, rfl⟩ | ⟨ad, cap, rfl, _, _, hc⟩⟩ := h
  · exact run_convert_bytes_nil w t e hT.ut hT.ue 0 0 d hd
  · by_cases hl : l.length = 0
    · have : l = [] := List.eq_nil_of_length_eq_zero hl
      subst this
      rw [run_convert_bytes_string w t d e _ _ _ hT.ut hT.ue hd]
      simp [Conv.bytesToString, loadCells, loadCellsFrom]
      rfl
    · obtain ⟨b, off, spot⟩ := ad
      have h0 := hc 0 (by omega)
      have hs : spot = none := by simpa [Addr.add] using World.cell?_spot h0
      subst hs
      refine run_convert_bytes_arg w t e hT.ut hT.ue b off l.length cap (l.map Int.ofNat) (by simp) (fun j hj => ?_) d hd
      have := hc j hj
      rw [add_plain] at this
      rw [this]
      simp [List.getD_eq_getElem?_getD, hj]
theorem exec_copy_bytes {P : Program} {t e te : TypeId} (hT : ByteT P t e) {r : Operand → Value} {o : Oper} {x y : Operand} (ho : o.op = .call { callee := .builtin .copy, args := #[x, y], argTypes := #[t, t] }) (W : World) (g n c : Nat) (l : List Nat) (cur : Array Value) (h1 : r x = .slice (some ⟨g, 0, none⟩) n c)
    (hg : W.heap[g]? = some (.cells cur te (0, 0))) (hcur : cur.size = n) (hv : BytesAt W (r y) l) (hl : l.length = n) (hn : 0 < n) : (execOp r o).run P W = .ok (.value (goInt n)) (W.setRow g (cellsB l).toArray) := by
  have := run_copy_bytes hT W g n c o.type (r y) l cur hg hcur hv hl hn
  simp only [execOp, ho, resolve, invoke, builtin, Sem.run_bind, Sem.run_pure, Result.andThen_ok, List.map_toArray, List.map_cons, List.map_nil, h1, this]
/-- Slice expressions of bytes, at the operation. -/
theorem exec_slice_l {P : Program} {t e : TypeId} (hT : ByteT P t e) {r : Operand → Value} {o : Oper} {x lo : Operand} (ho : o.op = .slice t x (some lo) none none) (w : World) (a : Option Addr) (n c k : Nat) (q : IntKind) (h1 : r x = .slice a n c) (h2 : r lo = .int q (k : Int)) (hk : k ≤ n) :
    (execOp r o).run P w = .ok (.value (sliced a k n c 1)) w := by
  obtain ⟨i, hi, _, hs, _⟩ := hT.ex
  have hk' : (k : Int) ≤ n := by omega
  simp [execOp, ho, h1, h2, Instr.sliceAt, Instr.slice, run_underlying hT.ut, Instr.sliceBounds, run_sliceBound, sizeOf, typeInfo, hi, hs, hk', sliced]
theorem exec_slice_h {P : Program} {t e : TypeId} (hT : ByteT P t e) {r : Operand → Value} {o : Oper} {x h : Operand} (ho : o.op = .slice t x none (some h) none) (w : World) (a : Option Addr) (n c k : Nat) (q : IntKind) (h1 : r x = .slice a n c) (h2 : r h = .int q (k : Int)) (hk : k ≤ c) :
    (execOp r o).run P w = .ok (.value (sliced a 0 k c 1)) w := by
  obtain ⟨i, hi, _, _, _⟩ := hT.ex
  have hk' : (k : Int) ≤ c := by omega
  simp [execOp, ho, h1, h2, Instr.sliceAt, Instr.slice, run_underlying hT.ut, Instr.sliceBounds, run_sliceBound, sizeOf, typeInfo, hi, hk', sliced]
theorem exec_slice_lh {P : Program} {t e : TypeId} (hT : ByteT P t e) {r : Operand → Value} {o : Oper} {x lo h : Operand} (ho : o.op = .slice t x (some lo) (some h) none) (w : World) (a : Option Addr) (n c k m : Nat) (q q' : IntKind) (h1 : r x = .slice a n c) (h2 : r lo = .int q (k : Int)) (h3 : r h = .int q' (m : Int)) (hk : k ≤ m) (hm : m ≤ c) :
    (execOp r o).run P w = .ok (.value (sliced a k m c 1)) w := by
  obtain ⟨i, hi, _, hs, _⟩ := hT.ex
  have hk' : (k : Int) ≤ m := by omega
  have hm' : (m : Int) ≤ c := by omega
  simp [execOp, ho, h1, h2, h3, Instr.sliceAt, Instr.slice, run_underlying hT.ut, Instr.sliceBounds, run_sliceBound, sizeOf, typeInfo, hi, hs, hk', hm', sliced]
theorem exec_string {P : Program} {t e d : TypeId} (hT : ByteT P t e) (hd : P.underlying d = some .string) {r : Operand → Value} {o : Oper} {x : Operand} (ho : o.op = .convert t d x) (w : World) (l : List Nat) (h : BytesAt w (r x) l) : (execOp r o).run P w = .ok (.value (.string (strOf l))) w := by
  simp [execOp, ho, run_string_bytes hT hd w _ l h]
theorem strOf_beq (l m : List Nat) (hl : ∀ x ∈ l, x < 256) (hm : ∀ x ∈ m, x < 256) : ((strOf l).toList == (strOf m).toList) = decide (l = m) := by
  rw [ByteArray.toList_eq, ByteArray.toList_eq, Bool.eq_iff_iff]
  simp only [beq_iff_eq, decide_eq_true_eq]
  constructor
  · intro h1
    simp only [strOf, strOfNums_data, List.map_map] at h1
    have h2 := congrArg (List.map UInt8.toNat) h1
    simp only [List.map_map] at h2
    have key : ∀ l : List Nat, (∀ x ∈ l, x < 256) → l.map (UInt8.toNat ∘ ((fun n : Int => UInt8.ofNat n.toNat) ∘ Int.ofNat)) = l := by
      intro l hl
      conv => rhs; rw [← List.map_id l]
      apply List.map_congr_left
      intro x hx
      have := hl x hx
      simp
      omega
    rw [key l hl, key m hm] at h2
    exact h2
  · rintro rfl; rfl
theorem strOf_inj {l m : List Nat} (h : l = m) : strOf l = strOf m := by rw [h]


/-- A laid table of integers: its cells. -/
theorem ints_of_trod {H : Type} {enc : TypeId × Value → H} {P : Program} {w : World} {base : Nat} {sp : Nat → Bool} {held : Bool} {fuel n : Nat} {t e : TypeId} {k : IntKind} {cs : List Value} {ps : List MemPlace} (zs : List Int)
    (ht : P.underlying t = some (.array n e)) (he : P.underlying e = some (.int k)) (hc : P.cellsOf e = 1) (h : DataW.trod enc P w base sp held fuel t cs = some (.agg (zs.map fun z => .lit (.int k z)), ps)) (i : Nat) (hi : i < n) : cs[i]? = some (.int k (zs.getD i 0)) := by
  obtain ⟨xs, m, rfl, hx, hl, hn, hel⟩ := DataW.trod_array ht h
  have h1 := hel i hi
  rw [hc, Nat.mul_one] at h1
  have hxi : xs[i]? = some xs[i] := by simp [hn, hi]
  rw [hxi] at h1
  obtain ⟨z, e1, e2, _⟩ := DataW.trod_int he h1
  have h3 : (zs.map fun z => (DataW.lit (.int k z) : DataW H)) = xs.map (·.1) := by
    have := congrArg Prod.fst hx
    simpa using this
  have h4 := congrArg (fun l => l[i]?) h3
  simp only [List.getElem?_map, hxi, Option.map_some, e2] at h4
  obtain ⟨z', hz', e4⟩ := Option.map_eq_some_iff.1 h4
  have e5 : z' = z := by simpa using e4
  subst e5
  have e6 : cs[i]? = ((cs.drop i).take 1)[0]? := by simp
  rw [e6, e1]
  simp [List.getD_eq_getElem?_getD, hz']

/-- An array of integers that came in, by value. -/
theorem array_ints {H : Type} {enc : TypeId × Value → H} {P : Program} {w : World} {base : Nat} {sp : Nat → Bool} {held : Bool} {n : Nat} {t e : TypeId} {k : IntKind} {v : Value} {d : DataW H} {ps : List MemPlace}
    (ht : P.underlying t = some (.array n e)) (he : P.underlying e = some (.int k)) (hc : P.cellsOf e = 1) (hct : P.cellsOf t = n) (hn : 2 ≤ n) (h : DataW.Trod enc P w base sp held t v d ps) :
    ∃ zs : List Int, zs.length = n ∧ v = .agg (zs.map fun z => .int k z).toArray ∧ ∀ z ∈ zs, (Lit.int k z).wf = true := by
  obtain ⟨fuel, hf⟩ := h
  obtain ⟨xs, m, rfl, hx, hl, hxn, hel⟩ := DataW.trod_array ht hf
  have hel' : ∀ i, i < n → ∃ z, v.cells.toList[i]? = some (.int k z) ∧ (Lit.int k z).wf = true := by
    intro i hi
    have h1 := hel i hi
    rw [hc, Nat.mul_one] at h1
    have hxi : xs[i]? = some xs[i] := by simp [hxn, hi]
    rw [hxi] at h1
    obtain ⟨z, e1, e2, e3⟩ := DataW.trod_int he h1
    have e6 : v.cells.toList[i]? = ((v.cells.toList.drop i).take 1)[0]? := by simp
    exact ⟨z, by rw [e6, e1]; rfl, e3⟩
  have hcl : v.cells.toList.length = n := by rw [hl, hct]
  let zs := v.cells.toList.map fun u => match u with | .int _ z => z | _ => 0
  have hz : v.cells.toList = zs.map fun z => .int k z := by
    apply List.ext_getElem?
    intro i
    by_cases hi : i < n
    · obtain ⟨z, e1, _⟩ := hel' i hi
      simp only [zs, List.map_map, List.getElem?_map, e1, Option.map_some, Function.comp]
    · rw [List.getElem?_eq_none (by omega), List.getElem?_eq_none (by simp [zs]; simp at hcl; omega)]
  refine ⟨zs, by simp [zs]; simpa using hcl, ?_, fun z hzm => ?_⟩
  · cases v <;> simp [Value.cells] at hcl
    case agg cs =>
      simp only [Value.cells] at hz
      rw [← hz]
    all_goals omega
  · obtain ⟨i, hi, rfl⟩ := List.getElem_of_mem hzm
    have hin : i < n := by simp [zs] at hi; simp at hcl; omega
    obtain ⟨z, e1, e2⟩ := hel' i hin
    have e3 : zs[i] = z := by
      have e4 : (zs.map fun z => Value.int k z)[i]? = some (.int k z) := by rw [← hz]; exact e1
      rw [List.getElem?_map, List.getElem?_eq_getElem hi] at e4
      simpa using e4
    rw [e3]; exact e2
end Go.Proofs.Ytmfciiccomagpaa
