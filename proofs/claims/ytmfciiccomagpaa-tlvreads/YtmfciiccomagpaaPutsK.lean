/- What TlvPuts keeps: an Out and what is wanted of it. No condition of its own. -/
import Derived.Test.YtmfciiccomagpaaRef7
namespace Go.Proofs.Ytmfciiccomagpaa
namespace Tlv
open Go Go.RowKit
set_option linter.unusedVariables false
set_option linter.unusedSimpArgs false
set_option maxRecDepth 100000


/-- What a thing puts behind bytes. -/
def putT (l : List Nat) (t : Th) : List Nat := if t.kind = 0 then l ++ numB t.n t.size else if t.kind = 1 then l ++ t.b else padB l
def puts (T : List Th) : List Nat := T.foldl putT []
theorem puts_snoc (T : List Th) (t : Th) : puts (T ++ [t]) = putT (puts T) t := by simp [puts]
theorem putT_len (l : List Nat) (t : Th) : (putT l t).length ≤ l.length + 8 + t.b.length := by
  unfold putT
  split
  · have := numB_len t.n t.size; rw [List.length_append]; omega
  · split
    · rw [List.length_append]; omega
    · have := pads_lt l.length; rw [padB_len]; omega
theorem puts_len (T : List Th) : ∀ i, i ≤ T.length → (puts (T.take i)).length ≤ 8 * i + bsum (T.take i) := by
  intro i
  induction i with
  | zero => intro _; simp [puts]
  | succ i ih =>
    intro hi
    obtain ⟨p, hp⟩ : ∃ p, T[i]? = some p := ⟨T[i]'(by omega), by simp⟩
    have h1 := ih (by omega)
    have h2 := putT_len (puts (T.take i)) p
    rw [take_th hp, puts_snoc, bsum_snoc]
    omega
/-- An Out, and a slice of what is wanted, apart. -/
structure PutsAt (w1 wr : World) (g : Nat) (v wv : Value) (lo lw : List Nat) : Prop where
  out : OutAt wr w1.heap.size g v lo
  want : OB wr w1.heap.size wv lw
  apart : ∀ k, v.ownBlock = some k → wv.ownBlock ≠ some k
  ext : Ext w1 wr
  gg : w1.heap.size ≤ g
theorem PutsAt.more {w1 wr w2 : World} {g : Nat} {v wv : Value} {lo lw : List Nat} (h : PutsAt w1 wr g v wv lo lw) (he : Ext wr w2) : PutsAt w1 w2 g v wv lo lw := ⟨h.out.ext he, h.want.ext he, h.apart, h.ext.trans he, h.gg⟩
theorem PutsAt.moved {w1 wr w2 : World} {g : Nat} {v v2 wv : Value} {lo lw l2 : List Nat} (h : PutsAt w1 wr g v wv lo lw) (ho : OutAt w2 w1.heap.size g v2 l2) (hm : Moved wr w2 g v v2) : PutsAt w1 w2 g v2 wv l2 lw := by
  refine ⟨ho, h.want.but hm.keep (fun k hk e => ?_), fun k hk e => ?_, hm.extO h.out h.ext (Nat.le_refl _) h.gg, h.gg⟩
  · rcases e with e | e
    · exact h.want.ne h.out.blk (by decide) k hk e
    · exact h.apart k e hk
  · rcases hm.came k hk with e1 | e1
    · exact h.apart k e1 e
    · have := (h.want.lt e).2; omega
theorem PutsAt.wants {w1 w2 w3 : World} {g : Nat} {v wv wv3 : Value} {lo lw l3 : List Nat} (h : PutsAt w1 w2 g v wv lo lw) (ho : OB w3 w1.heap.size wv3 l3) (hk : KeepBut (fun k => wv.ownBlock = some k) w2 w3) (hc : ∀ k, wv3.ownBlock = some k → wv.ownBlock = some k ∨ k = w2.heap.size) : PutsAt w1 w3 g v wv3 lo l3 := by
  refine ⟨h.out.but hk (fun e => h.want.ne h.out.blk (by decide) g e rfl) (fun k e => h.apart k e), ho, fun k e1 e2 => ?_, h.ext.of_but hk (fun k e => (h.want.lt e).1), h.gg⟩
  rcases hc k e2 with e | e
  · exact h.apart k e1 e
  · have := (h.out.own.lt e1).2; omega
theorem PutsAt.anew {w1 w2 w3 : World} {g : Nat} {v wv wv3 : Value} {lo lw l3 : List Nat} (h : PutsAt w1 w2 g v wv lo lw) (ho : OB w3 w2.heap.size wv3 l3) (he : Ext w2 w3) : PutsAt w1 w3 g v wv3 lo l3 :=
  ⟨h.out.ext he, ho.base h.ext.size, fun k e1 e2 => by have := (h.out.own.lt e1).2; have := (ho.lt e2).1; omega, h.ext.trans he, h.gg⟩
/-- Another slice of the own, apart from both. -/
structure Else (w : World) (base : Nat) (g : Nat) (v wv ov : Value) (m : List Nat) : Prop where
  own : OB w base ov m
  offv : ∀ k, ov.ownBlock = some k → v.ownBlock ≠ some k
  offw : ∀ k, ov.ownBlock = some k → wv.ownBlock ≠ some k
theorem PutsAt.poke {w1 w2 w3 : World} {g q : Nat} {v wv : Value} {lo lw : List Nat} (h : PutsAt w1 w2 g v wv lo lw) (hk : KeepBut (· = q) w2 w3) (hq : w1.heap.size ≤ q) (hg : g ≠ q) (hv : v.ownBlock ≠ some q) (hw : wv.ownBlock ≠ some q) : PutsAt w1 w3 g v wv lo lw :=
  ⟨h.out.but hk hg (fun k e e2 => by subst e2; exact hv e), h.want.but hk (fun k e e2 => by subst e2; exact hw e), h.apart, h.ext.of_but hk (fun k e => by subst e; exact hq), h.gg⟩
/-- One byte of the own stored. -/
theorem wl_poke {w : World} {ops : Array Oper} {rest : List Oper} {o : Oper} {a : Act} {Q : Exit → Act → World → Prop} (hgd : o.guard = none) {x y : Operand} {base q j n c z : Nat} {m : List Nat} (ho : o.op = .store 5 x y) (hx : a.eval x = .pointer (some ⟨q, j, none⟩)) (hy : a.eval y = .int .u8 (z : Int)) (hz : z < 256) (hm : OB w base (.slice (some ⟨q, 0, none⟩) n c) m) (hj : j < m.length)
    (h : ∀ w', OB w' base (.slice (some ⟨q, 0, none⟩) n c) (m.set j z) → KeepBut (· = q) w w' → wpList Try.prog ops Q rest (a.put o.dst undef) w') : wpList Try.prog ops Q (o :: rest) a w := by
  obtain ⟨h1, h2⟩ := hm.own.stored j (z : Int)
  rcases hm.own.1.2 with ⟨e1, _⟩ | ⟨g', cap, cur, e1, hb, hg, hnc, hcm, hcs, _⟩
  · cases e1
  · simp only [Value.slice.injEq, Option.some.injEq, Addr.mk.injEq, and_true] at e1
    obtain ⟨rfl, e2, rfl⟩ := e1
    rw [ci_len] at hnc
    refine wpList_of_skip hgd (exec_set one5 ho hx hy rfl rfl (C := cur) (T := 5) hg (by rw [hcs]; omega)) (h _ ⟨?_, ?_⟩ ⟨h2.os, h2.tape, h2.output, h2.size, fun k hk hn => h2.block k hk (by simpa using hn)⟩)
    · have : ci (m.set j z) = (ci m).set j (z : Int) := by simp [ci, List.map_set]
      rw [this]; exact h1
    · intro x hx
      rcases List.mem_or_eq_of_mem_set hx with h' | h'
      · exact hm.all x h'
      · omega
theorem OB.some_of {w : World} {base : Nat} {a : Option Addr} {n c : Nat} {l : List Nat} (h : OB w base (.slice a n c) l) (hn : 0 < n) : ∃ q, a = some ⟨q, 0, none⟩ ∧ n = l.length := by
  obtain ⟨a', c', e⟩ := h.form
  simp only [Value.slice.injEq] at e
  obtain ⟨x, y, e2, h1, h2⟩ := h.own.slice
  simp only [Value.slice.injEq] at e2
  obtain ⟨rfl, e3, rfl⟩ := e2
  cases ha : a with
  | none =>
    have := (h1 ha).1
    rw [e3, this] at hn
    simp at hn
  | some z =>
    obtain ⟨q, rfl, _⟩ := h2 z ha
    exact ⟨q, rfl, e.2.1⟩
theorem OB.cellAt {w : World} {base q n c : Nat} {l : List Nat} (h : OB w base (.slice (some ⟨q, 0, none⟩) n c) l) (j : Nat) (hj : j < l.length) : w.cell? ⟨q, j, none⟩ = some (.int .u8 (l.getD j 0 : Nat)) := by
  obtain ⟨_, _, e, _, hc⟩ := h.bytes.form
  obtain ⟨b, off, e2, hc'⟩ := hc j hj
  simp only [Value.slice.injEq] at e
  rw [← e.1] at e2
  cases e2
  simpa using hc'
theorem plus8 (b : Nat) (h : b < 256) : ∃ z : Nat, z < 256 ∧ IntKind.u8.wrap ((b : Int) + 1) = (z : Int) ∧ ((b : Int) + 1) % 256 = (z : Int) := by
  refine ⟨(b + 1) % 256, by omega, ?_, by omega⟩
  rw [IntKind.wrap_u8]; omega
end Tlv
end Go.Proofs.Ytmfciiccomagpaa
