/- Bytes that are put one behind the other: the code's Out. No condition of its own. -/
import Derived.Test.YtmfciiccomagpaaTlv0
namespace Go.Proofs.Ytmfciiccomagpaa
namespace Tlv
open Go Go.RowKit
set_option linter.unusedVariables false
set_option linter.unusedSimpArgs false
set_option maxRecDepth 100000


abbrev ptr (g : Nat) : Value := .pointer (some ⟨g, 0, none⟩)
/-- An Out in memory: its block, its bytes' slice, its bytes. -/
structure OutAt (w : World) (base g : Nat) (v : Value) (l : List Nat) : Prop where
  blk : Blk w g #[v] 28
  own : OB w base v l
/-- What a call on an Out changes: its block, the block of its bytes; where these lie then. -/
structure Moved (w w' : World) (g : Nat) (v v' : Value) : Prop where
  keep : KeepBut (fun k => k = g ∨ v.ownBlock = some k) w w'
  came : ∀ k, v'.ownBlock = some k → v.ownBlock = some k ∨ w.heap.size ≤ k
theorem Moved.refl (w : World) (g : Nat) (v : Value) : Moved w w g v v := ⟨KeepBut.refl _ _, fun k h => .inl h⟩
theorem Moved.trans {a b c : World} {g : Nat} {u v x : Value} (h : Moved a b g u v) (k : Moved b c g v x) : Moved a c g u x := by
  refine ⟨⟨k.keep.os.trans h.keep.os, k.keep.tape.trans h.keep.tape, k.keep.output.trans h.keep.output, Nat.le_trans h.keep.size k.keep.size, fun i hi hn => ?_⟩, fun i hi => ?_⟩
  · refine (k.keep.block i (Nat.lt_of_lt_of_le hi h.keep.size) ?_).trans (h.keep.block i hi hn)
    rintro (rfl | e)
    · exact hn (.inl rfl)
    · rcases h.came i e with e | e
      · exact hn (.inr e)
      · omega
  · rcases k.came i hi with e | e
    · exact h.came i e
    · exact .inr (Nat.le_trans h.keep.size e)
theorem Moved.ext {a b : World} (h : Ext a b) (g : Nat) (v : Value) : Moved a b g v v := ⟨KeepBut.ext h, fun k e => .inl e⟩
theorem OutAt.ne {w : World} {base g : Nat} {v : Value} {l : List Nat} (h : OutAt w base g v l) : ∀ k, v.ownBlock = some k → k ≠ g := h.own.ne h.blk (by decide)
theorem OutAt.ext {w w' : World} {base g : Nat} {v : Value} {l : List Nat} (h : OutAt w base g v l) (he : Ext w w') : OutAt w' base g v l := ⟨h.blk.ext he, h.own.ext he⟩
theorem OutAt.but {S : Nat → Prop} {w w' : World} {base g : Nat} {v : Value} {l : List Nat} (h : OutAt w base g v l) (hk : KeepBut S w w') (hg : ¬ S g) (hn : ∀ k, v.ownBlock = some k → ¬ S k) : OutAt w' base g v l := ⟨h.blk.but hk hg, h.own.but hk hn⟩
theorem OutAt.len {w : World} {base g : Nat} {v : Value} {l : List Nat} (h : OutAt w base g v l) : ∃ a c, v = .slice a l.length c := h.own.form
/-- Bytes appended to an Out's bytes and stored there. -/
theorem OutAt.put {w w' w'' : World} {base g : Nat} {v v' : Value} {l m : List Nat} (h : OutAt w base g v l) (ho : OB w' base v' m) (hk : KeepBut (fun k => v.ownBlock = some k) w w') (hg : ∀ k, v'.ownBlock = some k → v.ownBlock = some k ∨ k = w.heap.size) (hb : Blk w'' g #[v'] 28) (hs : KeepBut (· = g) w' w'') : OutAt w'' base g v' m ∧ Moved w w'' g v v' := by
  have hgl := h.blk.lt
  refine ⟨⟨hb, ho.but hs (fun k e => ?_)⟩, ⟨⟨hs.os.trans hk.os, hs.tape.trans hk.tape, hs.output.trans hk.output, Nat.le_trans hk.size hs.size, fun i hi hn => ?_⟩, fun k e => (hg k e).imp id (fun e => Nat.le_of_eq e.symm)⟩⟩
  · rcases hg k e with e1 | e1
    · exact h.ne k e1
    · subst e1; exact (Nat.ne_of_lt hgl).symm
  · exact (hs.block i (Nat.lt_of_lt_of_le hi hk.size) (fun e => hn (.inl e))).trans (hk.block i hi (fun e => hn (.inr e)))

set_option maxHeartbeats 2000000 in
theorem outPut_any {w : World} {base g : Nat} {v x : Value} {l m : List Nat} (h : OutAt w base g v l) (hx : BytesAt w x m) (hl : l.length + m.length ≤ 1000000) (hbase : base ≤ w.heap.size) :
    Calls Try.prog 11 #[ptr g, x] w fun e w' => (∃ y, e = .returned y) ∧ ∃ v', OutAt w' base g v' (l ++ m) ∧ Moved w w' g v v' := by
  have H : Hid (OutAt w base g v l ∧ BytesAt w x m ∧ l.length + m.length ≤ 1000000 ∧ base ≤ w.heap.size) := ⟨h, hx, hl, hbase⟩
  have hc : w.cell? ⟨g, 0, none⟩ = some v := h.blk.cell 0
  clear h hx hl hbase
  go_enter Try.func11, Try.ntmps11
  go_wp2_with (first
    | (at_builtin; refine wl_app (v := v) (u := x) rfl rfl rfl rfl H.out.1.own H.out.2.1 H.out.2.2.1 H.out.2.2.2 ?_; intro ad n cap w1 hn1 ho1 hk1 hg1)
    | (refine wl_set (v := .slice ad n cap) rfl oneS rfl rfl rfl rfl rfl (H.out.1.blk.but hk1 (fun e => H.out.1.ne _ e rfl)) (by simp) ?_; intro w2 hb2 hk2 hx; clear hx))
  go_end0
  have hp := H.out.1.put ho1 hk1 hg1 hb2 hk2
  exact ⟨⟨_, rfl⟩, _, hp.1, hp.2⟩
theorem outPut_nil (x : Value) (w : World) : Calls Try.prog 11 #[.pointer none, x] w fun e w' => (∃ y, e = .returned y) ∧ w' = w := by
  go_enter Try.func11, Try.ntmps11
  go_wp2
  refine bodyPost_ret (results_none rfl _ _ _) rfl ?_
  exact ⟨⟨_, rfl⟩, rfl⟩
theorem exec_run {r : Operand → Value} {o : Oper} {s x : Operand} (ho : o.op = .call { callee := .builtin .append, args := #[s, x], argTypes := #[26, 26] }) {w w' : World} {v u z : Value} (hs : r s = v) (hx : r x = u) (hr : (Builtin.append_ #[26, 26] o.type #[v, u]).run Try.prog w = .ok z w') : (execOp r o).run Try.prog w = .ok (.value z) w' := by
  simp only [execOp, ho, resolve, invoke, builtin, Sem.run_bind, Sem.run_pure, Result.andThen_ok, List.map_toArray, List.map_cons, List.map_nil, hs, hx, hr]
theorem bytes_made {w : World} {base : Nat} {v : Value} {n : Nat} (h : OwnB w base 5 v (List.replicate n 0)) : BytesAt w v (List.replicate n 0) := h.bytes
end Tlv
end Go.Proofs.Ytmfciiccomagpaa
