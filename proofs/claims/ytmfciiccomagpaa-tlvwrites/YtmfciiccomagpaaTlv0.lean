/- Bytes of the own: append onto them, copies; sizes, kinds, how many noughts. No condition of its own. -/
import Derived.Test.YtmfciiccomagpaaTlvMath2
import Derived.Test.YtmfciiccomagpaaArr
import Derived.Test.YtmfciiccomagpaaLast
import Derived.Test.YtmfciiccomagpaaChain
import Derived.BigQuiet
import Derived.Deep.LoopGhost
import Derived.Deep.Strs
import Derived.Lib.SlBytesConst
import Derived.Test.YtmfciiccomagpaaProg
namespace Go.Proofs.Ytmfciiccomagpaa
namespace Tlv
open Go Go.RowKit
set_option linter.unusedVariables false
set_option linter.unusedSimpArgs false
set_option maxRecDepth 100000

theorem byteT : ByteT Try.prog 26 5 := ⟨Try.underlying26, Try.underlying5, by kernel_rfl, by kernel_rfl⟩
theorem numT8 : NumT Try.prog 26 5 .u8 1 := ⟨Try.underlying26, Try.underlying5, by kernel_rfl⟩
theorem one5 : OneT Try.prog 5 := ⟨⟨_, Try.underlying5, rfl⟩, by kernel_rfl⟩
theorem one3 : OneT Try.prog 3 := ⟨⟨_, Try.underlying3, rfl⟩, by kernel_rfl⟩
theorem one4 : OneT Try.prog 4 := ⟨⟨_, Try.underlying4, rfl⟩, by kernel_rfl⟩
theorem oneS : OneT Try.prog 26 := ⟨⟨_, Try.underlying26, rfl⟩, by kernel_rfl⟩

theorem nums_of_bytes {w : World} {v : Value} {l : List Nat} (h : BytesAt w v l) : NumsAt .u8 w v (ci l) := by
  obtain ⟨h1, h2, ⟨rfl, rfl⟩ | ⟨ad, cap, rfl, h4, h5, hc⟩⟩ := h
  · exact NumsAt.nothing _ _
  · refine ⟨by rw [ci_len]; exact h2, .inr ⟨ad, cap, by rw [ci_len], by rw [ci_len]; exact h4, h5, fun j hj => ?_⟩⟩
    rw [ci_len] at hj
    rw [hc j hj, ci_get]
theorem bytes_of_nums {w : World} {v : Value} {l : List Nat} (h : NumsAt .u8 w v (ci l)) (hl : AllB l) : BytesAt w v l := by
  obtain ⟨h2, h3⟩ := h
  rw [ci_len] at h2
  refine ⟨hl, h2, ?_⟩
  rcases h3 with ⟨h0, rfl⟩ | ⟨ad, cap, rfl, h4, h5, hc⟩
  · have : l.length = 0 := by rw [← ci_len l, h0]; rfl
    exact .inl ⟨List.eq_nil_of_length_eq_zero this, rfl⟩
  · rw [ci_len] at h4
    refine .inr ⟨ad, cap, by rw [ci_len], h4, h5, fun j hj => ?_⟩
    rw [hc j (by rw [ci_len]; exact hj), ci_get]
/-- Bytes in a block of the own, from block 'base' on, or none. -/
structure OB (w : World) (base : Nat) (v : Value) (l : List Nat) : Prop where
  own : OwnN .u8 w base 5 v (ci l)
  all : AllB l
theorem OB.bytes {w : World} {base : Nat} {v : Value} {l : List Nat} (h : OB w base v l) : BytesAt w v l := bytes_of_nums h.own.nums h.all
theorem OB.nil (w : World) (base : Nat) : OB w base (.slice none 0 0) [] := ⟨OwnN.nil _ _ _ _, fun x hx => by cases hx⟩
theorem OB.ext {w w' : World} {base : Nat} {v : Value} {l : List Nat} (h : OB w base v l) (he : Ext w w') : OB w' base v l := ⟨h.own.ext he, h.all⟩
theorem OB.but {S : Nat → Prop} {w w' : World} {base : Nat} {v : Value} {l : List Nat} (h : OB w base v l) (hk : KeepBut S w w') (hn : ∀ g, v.ownBlock = some g → ¬ S g) : OB w' base v l := ⟨h.own.mono_via hk hn, h.all⟩
theorem OB.base {w : World} {base base' : Nat} {v : Value} {l : List Nat} (h : OB w base v l) (hb : base' ≤ base) : OB w base' v l := ⟨h.own.base hb, h.all⟩
theorem OB.lt {w : World} {base : Nat} {v : Value} {l : List Nat} (h : OB w base v l) {g : Nat} (hg : v.ownBlock = some g) : base ≤ g ∧ g < w.heap.size := h.own.lt hg
theorem OB.form {w : World} {base : Nat} {v : Value} {l : List Nat} (h : OB w base v l) : ∃ a cap, v = .slice a l.length cap := by
  obtain ⟨a, cap, e, _⟩ := h.own.slice
  rw [ci_len] at e
  exact ⟨a, cap, e⟩
theorem OB.lit0 (w : World) (base b : Nat) (hb : b = w.heap.size) (hbase : base ≤ w.heap.size) : OB (w.alloc (.cells #[] 5)) base (.slice (some ⟨b, 0, none⟩) 0 0) [] := ⟨OwnN.lit0 .u8 w base 5 b hb hbase, fun x hx => by cases hx⟩
/-- A block of another kind is no block of bytes of the own. -/
theorem OB.ne {w : World} {base g t : Nat} {C : Array Value} {v : Value} {l : List Nat} (h : OB w base v l) (hb : Blk w g C t) (ht : t ≠ 5) : ∀ k, v.ownBlock = some k → k ≠ g := by
  rintro k hk rfl
  rcases h.own.1.2 with ⟨rfl, _⟩ | ⟨g', cap, cur, rfl, _, hg, _⟩
  · cases hk
  · cases hk
    unfold Blk at hb
    rw [hb] at hg
    simp only [Option.some.injEq, Obj.cells.injEq, and_true] at hg
    exact ht hg.2
/-- append onto bytes of the own, of whatever reads as bytes. -/
theorem run_appB (w : World) (base ty : Nat) (v x : Value) (l m : List Nat) (hv : OB w base v l) (hx : BytesAt w x m) (hlen : l.length + m.length ≤ 1000000) (hbase : base ≤ w.heap.size) :
    ∃ ad cap w', (Builtin.append_ #[26, 26] ty #[v, x]).run Try.prog w = .ok (.slice ad (l ++ m).length cap) w' ∧ OB w' base (.slice ad (l ++ m).length cap) (l ++ m) ∧ KeepBut (fun k => v.ownBlock = some k) w w' ∧ ∀ g, (Value.slice ad (l ++ m).length cap).ownBlock = some g → v.ownBlock = some g ∨ g = w.heap.size := by
  obtain ⟨v', w', hr, h1, h2, h3⟩ := run_append_nums numT8 w base ty v x (ci l) (ci m) hv.own (nums_of_bytes hx) (by rw [ci_len, ci_len]; omega) (by rw [ci_len, ci_len]; omega) hbase
  rw [← ci_app] at h1
  have hb : OB w' base v' (l ++ m) := ⟨h1, hv.all.app hx.1⟩
  obtain ⟨ad, cap, rfl⟩ := hb.form
  refine ⟨ad, cap, w', hr, hb, KeepBut.grown h2 (fun r e => e), fun g hg => ?_⟩
  rcases h3 with h3 | h3
  · exact .inl (by rw [← h3]; exact hg)
  · rw [h3] at hg; cases hg; exact .inr rfl
theorem exec_appB {r : Operand → Value} {o : Oper} {s x : Operand} (ho : o.op = .call { callee := .builtin .append, args := #[s, x], argTypes := #[26, 26] }) {w : World} {base : Nat} {v u : Value} {l m : List Nat} (hs : r s = v) (hxx : r x = u) (hv : OB w base v l) (hx : BytesAt w u m) (hlen : l.length + m.length ≤ 1000000) (hbase : base ≤ w.heap.size) :
    ∃ ad cap w', (execOp r o).run Try.prog w = .ok (.value (.slice ad (l ++ m).length cap)) w' ∧ OB w' base (.slice ad (l ++ m).length cap) (l ++ m) ∧ KeepBut (fun k => v.ownBlock = some k) w w' ∧ ∀ g, (Value.slice ad (l ++ m).length cap).ownBlock = some g → v.ownBlock = some g ∨ g = w.heap.size := by
  obtain ⟨ad, cap, w', hr, h1, h2, h3⟩ := run_appB w base o.type v u l m hv hx hlen hbase
  refine ⟨ad, cap, w', ?_, h1, h2, h3⟩
  simp only [execOp, ho, resolve, invoke, builtin, Sem.run_bind, Sem.run_pure, Result.andThen_ok, List.map_toArray, List.map_cons, List.map_nil, hs, hxx, hr]
theorem wl_app {w : World} {ops : Array Oper} {rest : List Oper} {o : Oper} {a : Act} {Q : Exit → Act → World → Prop} (hgd : o.guard = none) {s x : Operand} (ho : o.op = .call { callee := .builtin .append, args := #[s, x], argTypes := #[26, 26] })
    {base : Nat} {v u : Value} {l m : List Nat} (hs : a.eval s = v) (hxx : a.eval x = u) (hv : OB w base v l) (hx : BytesAt w u m) (hlen : l.length + m.length ≤ 1000000) (hbase : base ≤ w.heap.size)
    (h : ∀ ad n cap w', Hid (n = (l ++ m).length) → OB w' base (.slice ad n cap) (l ++ m) → KeepBut (fun k => v.ownBlock = some k) w w' → (∀ g, (Value.slice ad n cap).ownBlock = some g → v.ownBlock = some g ∨ g = w.heap.size) → wpList Try.prog ops Q rest (a.put o.dst (.slice ad n cap)) w') : wpList Try.prog ops Q (o :: rest) a w := by
  obtain ⟨ad, cap, w', hr, h1, h2, h3⟩ := exec_appB (r := a.eval) ho hs hxx hv hx hlen hbase
  exact wpList_of_run hgd hr (h ad _ cap w' rfl h1 h2 h3)
theorem keep_new {S : Nat → Prop} {w w1 w2 : World} {g : Nat} (h : KeepBut S w w1) (k : KeepBut (· = g) w1 w2) (hg : w.heap.size ≤ g) : KeepBut S w w2 :=
  ⟨k.os.trans h.os, k.tape.trans h.tape, k.output.trans h.output, Nat.le_trans h.size k.size, fun j hj hn => (k.block j (Nat.lt_of_lt_of_le hj h.size) (fun e => by subst e; omega)).trans (h.block j hj hn)⟩
theorem keep_none {w w' : World} (h : KeepBut (fun k => (Value.slice none 0 0).ownBlock = some k) w w') : Ext w w' := ⟨h.os, h.tape, h.output, h.size, fun k hk => h.block k hk (fun e => by cases e)⟩

set_option maxHeartbeats 1000000 in
theorem copied_any {w : World} {v : Value} {l : List Nat} (hv : BytesAt w v l) (hl : l.length ≤ 1000000) :
    Calls Try.prog 37 #[v] w fun e w' => ∃ a n c, e = .returned (.slice a n c) ∧ n = l.length ∧ OB w' w.heap.size (.slice a n c) l ∧ Ext w w' := by
  have HV : Hid (BytesAt w v l ∧ l.length ≤ 1000000) := ⟨hv, hl⟩
  clear hv hl
  go_enter Try.func37, Try.ntmps37
  go_wp2_with (first
    | (at_builtin; refine wl_app rfl rfl rfl rfl (OB.nil _ w.heap.size) HV.out.1 (by have := HV.out.2; simp; omega) (Nat.le_refl _) ?_; intro ad n cap w1 hn1 ho1 hk1 hg1; rw [List.nil_append] at ho1))
  go_ret
  exact ⟨_, _, _, rfl, by rw [hn1.out, List.nil_append], ho1, keep_none hk1⟩
set_option maxHeartbeats 1000000 in
theorem isSize_any (n : Int) (w : World) : Calls Try.prog 35 #[.int .i64 n] w fun e w' => e = .returned (.bool (isSz n)) ∧ w' = w := by
  go_enter Try.func35, Try.ntmps35
  by_cases h1 : n = 1
  · subst h1
    go_wp2
    go_ret
    exact ⟨rfl, rfl⟩
  · by_cases h2 : n = 2
    · subst h2
      go_wp2
      go_ret
      exact ⟨rfl, rfl⟩
    · by_cases h4 : n = 4
      · subst h4
        go_wp2
        go_ret
        exact ⟨rfl, rfl⟩
      · have d1 : (n == 1) = false := by simpa using h1
        have d2 : (n == 2) = false := by simpa using h2
        have d4 : (n == 4) = false := by simpa using h4
        have e1 : decide (n = 1) = false := decide_eq_false h1
        have e2 : decide (n = 2) = false := decide_eq_false h2
        have e4 : decide (n = 4) = false := decide_eq_false h4
        go_wp2
        go_ret
        exact ⟨by unfold isSz; rw [d1, d2, d4]; simp, rfl⟩
def isKd (n : Int) : Bool := decide (0 ≤ n) && decide (n ≤ 65535)
set_option maxHeartbeats 1000000 in
theorem isKind_any (n : Int) (w : World) : Calls Try.prog 41 #[.int .i64 n] w fun e w' => e = .returned (.bool (isKd n)) ∧ w' = w := by
  go_enter Try.func41, Try.ntmps41
  by_cases h1 : 0 ≤ n
  · have d1 : decide (n ≥ 0) = true := decide_eq_true h1
    go_wp2
    go_ret
    exact ⟨by unfold isKd; simp [h1], rfl⟩
  · have d1 : decide (n ≥ 0) = false := decide_eq_false h1
    go_wp2
    go_ret
    exact ⟨by unfold isKd; rw [decide_eq_false (by omega : ¬ 0 ≤ n)]; rfl, rfl⟩
set_option maxHeartbeats 1000000 in
theorem padding_any (n : Nat) (hn : n ≤ 1000000) (w : World) : Calls Try.prog 36 #[.int .i64 (n : Int)] w fun e w' => e = .returned (.int .i64 (pads n : Int)) ∧ w' = w := by
  go_enter Try.func36, Try.ntmps36
  go_wp2
  go_ret
  exact ⟨ret_int (by unfold pads; omega), rfl⟩
end Tlv
end Go.Proofs.Ytmfciiccomagpaa
