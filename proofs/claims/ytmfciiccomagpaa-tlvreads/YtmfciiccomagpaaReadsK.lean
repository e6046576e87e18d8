/- What TlvReads keeps: a reader and the document's, in one state. No condition of its own. -/
import Derived.Test.YtmfciiccomagpaaRef11
import Derived.Test.YtmfciiccomagpaaPutsK
import Derived.Test.YtmfciiccomagpaaPhase
namespace Go.Proofs.Ytmfciiccomagpaa
namespace Tlv
open Go Go.RowKit
set_option linter.unusedVariables false
set_option linter.unusedSimpArgs false
set_option maxRecDepth 100000


/-- A reader and the document's, apart; theirs states. -/
structure ReadsAt (w1 wr : World) (g jb : Nat) (bv v : Value) (B : List Nat) (s t : Option Nat) : Prop where
  inn : InAt wr w1.heap.size g bv B s
  box : ∃ (a : Nat) (b : Bool), Blk wr jb #[v, .int .i64 (a : Int), .bool b] 40 ∧ a ≤ B.length ∧ t = (if b = true then none else some a)
  ext : Ext w1 wr
  gg : w1.heap.size ≤ g
  jj : w1.heap.size ≤ jb
  ne : g ≠ jb
  off : ∀ k, bv.ownBlock = some k → k ≠ jb
theorem ReadsAt.more {w1 wr w2 : World} {g jb : Nat} {bv v : Value} {B : List Nat} {s t : Option Nat} (h : ReadsAt w1 wr g jb bv v B s t) (he : Ext wr w2) : ReadsAt w1 w2 g jb bv v B s t := by
  obtain ⟨h1, ⟨a, b, hb, h2⟩, h3, h4, h5, h6, h7⟩ := h
  exact ⟨h1.ext he, ⟨a, b, hb.ext he, h2⟩, h3.trans he, h4, h5, h6, h7⟩
theorem ReadsAt.moved {w1 wr w2 : World} {g jb : Nat} {bv v : Value} {B : List Nat} {s t s2 : Option Nat} (h : ReadsAt w1 wr g jb bv v B s t) (hi : InAt w2 w1.heap.size g bv B s2) (hk : KeepBut (· = g) wr w2) : ReadsAt w1 w2 g jb bv v B s2 t := by
  obtain ⟨h1, ⟨a, b, hb, h2⟩, h3, h4, h5, h6, h7⟩ := h
  exact ⟨hi, ⟨a, b, hb.but hk (fun e => h6 e.symm), h2⟩, h3.of_but hk (fun k e => by subst e; exact h4), h4, h5, h6, h7⟩
theorem ReadsAt.boxed {w1 wr w2 : World} {g jb a : Nat} {b : Bool} {bv v : Value} {B : List Nat} {s t t2 : Option Nat} (h : ReadsAt w1 wr g jb bv v B s t) (hb : Blk w2 jb #[v, .int .i64 (a : Int), .bool b] 40) (hk : KeepBut (· = jb) wr w2) (ha : a ≤ B.length) (ht : t2 = (if b = true then none else some a)) : ReadsAt w1 w2 g jb bv v B s t2 := by
  obtain ⟨h1, _, h3, h4, h5, h6, h7⟩ := h
  exact ⟨h1.but hk h6 h7, ⟨a, b, hb, ha, ht⟩, h3.of_but hk (fun k e => by subst e; exact h5), h4, h5, h6, h7⟩
theorem ReadsAt.poke {w1 wr w2 : World} {g jb q : Nat} {bv v : Value} {B : List Nat} {s t : Option Nat} (h : ReadsAt w1 wr g jb bv v B s t) (hk : KeepBut (· = q) wr w2) (hq : w1.heap.size ≤ q) (hg : g ≠ q) (hj : jb ≠ q) (ho : bv.ownBlock ≠ some q) : ReadsAt w1 w2 g jb bv v B s t := by
  obtain ⟨h1, ⟨a, b, hb, h2⟩, h3, h4, h5, h6, h7⟩ := h
  exact ⟨h1.but hk hg (fun k e e2 => by subst e2; exact ho e), ⟨a, b, hb.but hk hj, h2⟩, h3.of_but hk (fun k e => by subst e; exact hq), h4, h5, h6, h7⟩
theorem ReadsAt.ref {w1 wr : World} {g jb : Nat} {bv v : Value} {B : List Nat} {s t : Option Nat} (h : ReadsAt w1 wr g jb bv v B s t) : ∃ (a : Nat) (b : Bool), Blk wr jb #[v, .int .i64 (a : Int), .bool b] 40 ∧ RefV (.agg #[v, .int .i64 (a : Int), .bool b]) v B t := by
  obtain ⟨a, b, hb, h1, h2⟩ := h.box
  exact ⟨a, b, hb, a, b, rfl, h1, h2⟩
/-- All but two blocks kept. -/
def KB (g j : Nat) (w w' : World) : Prop := KeepBut (fun k => k = g ∨ k = j) w w'
theorem KB.refl {g j : Nat} (w : World) : KB g j w w := KeepBut.refl _ w
theorem KB.trans {g j : Nat} {a b c : World} (h : KB g j a b) (k : KB g j b c) : KB g j a c := KeepBut.trans h k
theorem KB.left {g j : Nat} {w w' : World} (h : KeepBut (· = g) w w') : KB g j w w' := ⟨h.os, h.tape, h.output, h.size, fun k hk hn => h.block k hk (fun e => hn (.inl e))⟩
theorem KB.right {g j : Nat} {w w' : World} (h : KeepBut (· = j) w w') : KB g j w w' := ⟨h.os, h.tape, h.output, h.size, fun k hk hn => h.block k hk (fun e => hn (.inr e))⟩
theorem KB.drew {g j : Nat} {w w' : World} (h : KB g j w.drew w') : KB g j w w' := (KeepBut.ext (Ext.drew w)).trans h
/-- The states of a round. -/
def RdS (w1 : World) (g jb : Nat) (bv v : Value) (B : List Nat) (s t : Option Nat) (k : Nat) (w : World) : Prop :=
  ReadsAt w1 w g jb bv v B (if k = 0 then s else t) (if k = 2 then t else s)
/-- Bytes apart from two blocks. -/
def BF (g j : Nat) (l : List Nat) (w : World) (u : Value) : Prop := BytesAt w u l ∧ ∀ k, blockOf u = some k → k ≠ g ∧ k ≠ j
theorem BF.keep {g j : Nat} {l : List Nat} {w w' : World} {u : Value} (h : BF g j l w u) (hk : KB g j w w') : BF g j l w' u := ⟨bytes_but h.1 hk (fun k e h2 => by have := h.2 k e; rcases h2 with h2 | h2; exact this.1 h2; exact this.2 h2), h.2⟩
theorem BF.of {g j base : Nat} {l : List Nat} {w : World} {a : Option Addr} {n c : Nat} (h : OB w base (.slice a n c) l) (hg : g < base) (hj : j < base) : BF g j l w (.slice a n c) := ⟨h.bytes, fun k e => by
  have e2 : (Value.slice a n c).ownBlock = some k := by
    obtain ⟨x, y, e3, h1, h2⟩ := h.own.slice
    simp only [Value.slice.injEq] at e3
    obtain ⟨rfl, e4, rfl⟩ := e3
    cases ha : a with
    | none => rw [ha] at e; cases e
    | some z =>
      obtain ⟨q, rfl, _⟩ := h2 z ha
      rw [ha] at e
      exact e
  have := (h.lt e2).1
  omega⟩
theorem give_skip {P : Program} {K : Value → World → Prop} {r : Operand → Value} {o : Oper} {w w' : World} (h : (execOp r o).run P w = .ok .skip w') (hk : K undef w') : give P K ((execOp r o).run P w) := by rw [h]; exact hk
/-- The reader's state behind a thing. -/
def readT (B : List Nat) (s : Option Nat) (t : Th) : Option Nat := if t.kind = 0 then (numS B s t.size).1 else if t.kind = 1 then (takeS B s t.size).1 else padS B s
def readsS (B : List Nat) (T : List Th) : Option Nat := T.foldl (readT B) (some 0)
theorem readsS_snoc (B : List Nat) (T : List Th) (t : Th) : readsS B (T ++ [t]) = readT B (readsS B T) t := by simp [readsS]
/-- What two readers say of their ends. -/
theorem end_eq (E : Bool) : endV E = (if E = true then .nilIface else errF) := rfl
end Tlv
end Go.Proofs.Ytmfciiccomagpaa
