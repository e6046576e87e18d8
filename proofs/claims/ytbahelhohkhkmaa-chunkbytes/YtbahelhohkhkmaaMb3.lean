/- Texts of the seat, one behind the other. No condition of its own. -/
import Derived.Test.YtbahelhohkhkmaaMb2
import Derived.ArgAppend
set_option linter.unusedVariables false
set_option linter.unusedSimpArgs false
/- Parameters of bytes. No condition of its own. -/
namespace Go.Proofs.Ytbahelhohkhkmaa
namespace Tlv
open Go Go.RowKit
set_option maxRecDepth 100000
/-- What Params answers. -/
def ParamsIs (w : World) (B : List Nat) (e : Ending) (w' : World) : Prop :=
 Ext w w' ∧ ((readAll B = none ∧ e = .returned (.tuple #[.slice none 0 0, errF])) ∨ ∃ L lv, readAll B = some L ∧ e = .returned (.tuple #[lv, .nilIface]) ∧ OwnL 138 w' w.heap.size lv L)
theorem wl_pushP {t e : TypeId} (hT : ParT t e) {wr : World} {ops : Array Oper} {rest : List Oper} {o : Oper} {a : Act} {Q : Exit → Act → World → Prop} {C : Array Value} (hgd : o.guard = none) {s x : Operand} (ho : o.op = .call { callee := .builtin .append, args := #[s, x], argTypes := #[t, t] })
  {base b : Nat} {v u : Value} {L : List Par} {k : Int} {val : List Nat} (hC : C = #[.int .i64 k, u]) (hs : a.eval s = v) (hx : a.eval x = .slice (some ⟨b, 0, none⟩) 1 1) (hb : b = wr.heap.size) (hv : OwnL e wr base v L) (hu : OB wr base u val) (hlen : L.length ≤ 100000) (hbase : base ≤ wr.heap.size)
  (h : ∀ ad cap w', OwnL e w' base (.slice ad (L.length + 1) cap) (L ++ [(k, val)]) → KeepBut (fun q => v.ownBlock = some q) wr w' → (∀ g, (Value.slice ad (L.length + 1) cap).ownBlock = some g → v.ownBlock = some g ∨ wr.heap.size ≤ g) → wpList Try.prog ops Q rest (a.put o.dst (.slice ad (L.length + 1) cap)) w') : wpList Try.prog ops Q (o :: rest) a (wr.alloc (.cells C e)) := by
 subst hC hb
 have he : Ext wr (wr.alloc (.cells #[.int .i64 k, u] e)) := Ext.alloc _ _
 obtain ⟨ad, c, w', hr, h1, h2, h3⟩ := run_pushP hT (wr.alloc (.cells #[.int .i64 k, u] e)) base o.type wr.heap.size v u L k val (hv.ext he) (cellNew _ _ _ _ _ _ rfl) (cellNew _ _ _ _ _ _ rfl) (hu.ext he) hlen (Nat.le_trans hbase he.size)
 refine wpList_of_run hgd (v := .slice ad (L.length + 1) c) (w' := w') ?_ (h ad c w' h1 ((KeepBut.ext he).trans h2) (fun g hg => (h3 g hg).imp id (fun e => by rw [e]; exact he.size)))
 simp only [execOp, ho, resolve, invoke, builtin, Sem.run_bind, Sem.run_pure, Result.andThen_ok, List.map_toArray, List.map_cons, List.map_nil, hs, hx, hr]
theorem readAll_next {B : List Nat} {a : Nat} (ha : a < B.length) (h : okP (B.drop a) = true) : readAll (B.drop a) = (readAll (B.drop (a + allP (B.drop a)))).map (headP (B.drop a) :: ·) := by
 rw [readAll_ok (by intro e; have := congrArg List.length e; rw [List.length_drop] at this; simp at this; omega) h, List.drop_drop]
/-- How far the parameters are read: behind those of L, or wrong. -/
def RdAt (B : List Nat) (s : Option Nat) (L : List Par) : Prop :=
 (s = none ∧ readAll B = none) ∨ ∃ a, s = some a ∧ a ≤ B.length ∧ a % 4 = 0 ∧ 4 * L.length ≤ a ∧ readAll B = (readAll (B.drop a)).map (L ++ ·)
theorem RdAt.start (B : List Nat) : RdAt B (some 0) [] := .inr ⟨0, rfl, by simp, rfl, by simp, by simp⟩
theorem RdAt.step {B : List Nat} {a : Nat} {L : List Par} (h : RdAt B (some a) L) (ha : a < B.length) : RdAt B (paramS B (some a)).1 (L ++ [(paramS B (some a)).2]) := by
 rcases h with ⟨h, _⟩ | ⟨a', e, h1, h2, h3, h4⟩
 ·
  cases h
 ·
  cases e
  cases hk : okP (B.drop a) with
  | false =>
   refine .inl ⟨paramS_bad h2 hk, ?_⟩
   rw [h4, readAll_bad (by intro e; have := congrArg List.length e; rw [List.length_drop] at this; simp at this; omega) hk]; rfl
  | true =>
   rw [paramS_ok h2 hk]
   have hp := allP_pos hk
   have hm := allP_mod (B.drop a)
   have hle := ((okP_iff _).1 hk).2.2.2.1
   rw [List.length_drop] at hle
   refine .inr ⟨_, rfl, by omega, by omega, by rw [List.length_append, List.length_singleton]; omega, ?_⟩
   rw [h4, readAll_next ha hk]
   cases readAll (B.drop (a + allP (B.drop a))) <;> simp
theorem RdAt.len {B : List Nat} {a : Nat} {L : List Par} (h : RdAt B (some a) L) : 4 * L.length ≤ B.length := by
 rcases h with ⟨h, _⟩ | ⟨a', e, h1, h2, h3, h4⟩
 ·
  cases h
 ·
  cases e; omega
theorem RdAt.fin {B : List Nat} {s : Option Nat} {L : List Par} (h : RdAt B s L) (he : leftS B s = 0) : (endS B s = false ∧ readAll B = none) ∨ (endS B s = true ∧ readAll B = some L) := by
 rcases h with ⟨rfl, h⟩ | ⟨a, rfl, h1, h2, h3, h4⟩
 ·
  exact .inl ⟨rfl, h⟩
 ·
  refine .inr ⟨by unfold endS; rw [he]; rfl, ?_⟩
  unfold leftS at he
  simp only at he
  rw [h4, List.drop_eq_nil_of_le (by omega), readAll_nil]; simp
theorem left_lt {B : List Nat} {s : Option Nat} (h : leftS B s ≠ 0) : ∃ a, s = some a ∧ a < B.length := by
 cases s with
 | none => exact absurd rfl h
 | some a => refine ⟨a, rfl, ?_⟩; unfold leftS at h; simp only at h; omega
theorem left_dec {B : List Nat} {a : Nat} (ha : a < B.length) (s' : Option Nat) (h : ∀ a', s' = some a' → a < a') : leftS B s' < leftS B (some a) := by
 cases s' with
 | none => unfold leftS; simp only; omega
 | some x => have := h x rfl; unfold leftS; simp only; omega
theorem paramS_lt {B : List Nat} {a : Nat} (h2 : a % 4 = 0) (a' : Nat) (h : (paramS B (some a)).1 = some a') : a < a' := by
 cases hk : okP (B.drop a) with
 | false => rw [paramS_bad h2 hk] at h; cases h
 | true =>
  rw [paramS_ok h2 hk] at h
  have := allP_pos hk
  simp only [Option.some.injEq] at h; omega
theorem RdAt.mod {B : List Nat} {a : Nat} {L : List Par} (h : RdAt B (some a) L) : a % 4 = 0 := by
 rcases h with ⟨h, _⟩ | ⟨a', e, h1, h2, _⟩
 ·
  cases h
 ·
  cases e; exact h2
set_option maxHeartbeats 4000000 in
theorem params_any {w : World} {v : Value} {B : List Nat} (hv : BytesAt w v B) (hB : B.length ≤ 100000) :
  Calls Try.prog 95 #[v] w (ParamsIs w B) := by
 have H : Hid (BytesAt w v B ∧ B.length ≤ 100000) := ⟨hv, hB⟩
 clear hv hB
 go_enter Try.func95, Try.ntmps95
 go_wp2_with (first
  | (go_at_call 39; refine (read_any H.out.1 (by have := H.out; omega)).mono ?_; rintro e w1 ⟨g, bv, rfl, hg1, hi1, he1⟩))
 have HI : Hid (InAt w1 w.heap.size g bv B (some 0) ∧ Ext w w1 ∧ w.heap.size ≤ g) := ⟨hi1, he1, hg1⟩
 clear hi1 he1 hg1
 go_loopg [4] (leftS B (some 0)) (fun gm t wr => ∃ (s : Option Nat) (a : Option Addr) (n c : Nat) (L : List Par), gm = leftS B s ∧ t = .slice a n c ∧ Hid (n = L.length ∧ RdAt B s L ∧ InAt wr w.heap.size g bv B s ∧ OwnL 138 wr w.heap.size (.slice a n c) L ∧ Ext w wr))
 case atStart => exact ⟨some 0, none, 0, 0, [], rfl, rfl, rfl, RdAt.start B, HI.out.1, OwnL.nil _ _ _, HI.out.2.1⟩
 case round =>
  obtain ⟨s, a, n, c, L, rfl, rfl, HR⟩ := hrel
  obtain ⟨l, hl⟩ : ∃ l, leftS B s = l := ⟨_, rfl⟩
  have HL : Hid (leftS B s = l) := hl
  by_cases h0 : l = 0
  ·
   have hd : decide ((l : Int) > 0) = false := decide_eq_false (by omega)
   rcases HR.out.2.1.fin (hl.trans h0) with ⟨q1, q2⟩ | ⟨q1, q2⟩
   ·
    have HE : Hid (endS B s = false ∧ readAll B = none) := ⟨q1, q2⟩
    clear q1 q2 hl
    go_wp2_with (first
     | (go_at_call 49; refine (left_any HR.out.2.2.1 (by have := H.out; omega)).mono ?_; rintro e w2 ⟨rfl, he2⟩; rw [HL.out])
     | (go_at_call 50; refine (end_any (HR.out.2.2.1.ext he2) (by have := H.out; omega)).mono ?_; rintro e w3 ⟨rfl, he3⟩; rw [HE.out.1, show endV false = errF from rfl]))
    go_ret2
    exact ⟨(HR.out.2.2.2.2.trans he2).trans he3, .inl ⟨HE.out.2, rfl⟩⟩
   ·
    have HE : Hid (endS B s = true ∧ readAll B = some L) := ⟨q1, q2⟩
    clear q1 q2 hl
    go_wp2_with (first
     | (go_at_call 49; refine (left_any HR.out.2.2.1 (by have := H.out; omega)).mono ?_; rintro e w2 ⟨rfl, he2⟩; rw [HL.out])
     | (go_at_call 50; refine (end_any (HR.out.2.2.1.ext he2) (by have := H.out; omega)).mono ?_; rintro e w3 ⟨rfl, he3⟩; rw [HE.out.1, show endV true = .nilIface from rfl]))
    go_ret2
    exact ⟨(HR.out.2.2.2.2.trans he2).trans he3, .inr ⟨L, _, HE.out.2, rfl, (HR.out.2.2.2.1.ext he2).ext he3⟩⟩
  ·
   have hd : decide ((l : Int) > 0) = true := decide_eq_true (by omega)
   obtain ⟨x, rfl, hx⟩ := left_lt (by rw [hl]; exact h0)
   have HX : Hid (x < B.length ∧ x % 4 = 0 ∧ 4 * L.length ≤ B.length) := ⟨hx, HR.out.2.1.mod, HR.out.2.1.len⟩
   obtain ⟨r, hr⟩ : ∃ r, r = paramS B (some x) := ⟨_, rfl⟩
   have HP : Hid (r = paramS B (some x)) := hr
   have HS : Hid (RdAt B r.1 (L ++ [r.2]) ∧ leftS B r.1 < leftS B (some x)) := ⟨by rw [hr]; exact HR.out.2.1.step hx, left_dec hx _ (fun a' h => paramS_lt HX.out.2.1 a' (by rw [← hr]; exact h))⟩
   clear hx hl hr
   obtain ⟨s2, k2, m2⟩ := r
   go_wp2_with (first
    | (go_at_call 49; refine (left_any HR.out.2.2.1 (by have := H.out; omega)).mono ?_; rintro e w2 ⟨rfl, he2⟩; rw [HL.out])
    | (go_at_call 102; refine (param_any (HR.out.2.2.1.ext he2) (by have := H.out; omega)).mono ?_; rintro e w3 ⟨u3, rfl, ho3, hi3, hk3⟩; rw [← HP.out] at ho3 hi3 ⊢; obtain ⟨ua, uc, rfl⟩ := ho3.form; have HL3 : Hid (OwnL 138 w3 w.heap.size (.slice a n c) L) := (HR.out.2.2.2.1.ext he2).but hk3 (fun k C hb hbase e => by
      subst e
      obtain ⟨_, a', b', hb', _⟩ := HR.out.2.2.1.ext he2
      unfold Blk at hb hb'
      rw [hb'] at hb
      simp at hb))
    | (at_builtin; refine wl_pushP parT (L := L) (k := k2) (val := m2) (v := .slice a n c) (base := w.heap.size) rfl rfl rfl rfl rfl rfl HL3.out (ho3.base (Nat.le_trans HR.out.2.2.2.2.size he2.size)) (by have := HX.out; have := H.out; omega) (Nat.le_trans (Nat.le_trans HR.out.2.2.2.2.size he2.size) hk3.size) ?_; intro ad cap w5 hl5 hk5 hg5))
   have hne : ∀ k, (Value.slice a n c).ownBlock = some k → k ≠ g := fun k e h => by
    subst h
    obtain ⟨_, C, hC⟩ := HL3.out.lt e
    obtain ⟨_, a', b', hb', _⟩ := hi3
    unfold Blk at hC hb'
    rw [hb'] at hC
    simp at hC
   go_roundg (leftS B s2)
   case measure => exact HS.out.2
   case rel =>
    refine ⟨s2, _, _, _, L ++ [(k2, m2)], rfl, rfl, by simp, HS.out.1, hi3.but hk5 (fun e => hne g e rfl) (fun k e1 e2 => ?_), hl5, ((HR.out.2.2.2.2.trans he2).of_but hk3 (fun k e => by subst e; exact HI.out.2.2)).of_but hk5 (fun k e => (HL3.out.lt e).1)⟩
    obtain ⟨_, C, hC⟩ := HL3.out.lt e2
    exact hi3.own.ne hC (by decide) k e1 rfl
set_option maxRecDepth 100000
theorem ParsAt.one (w : World) (n : Nat) (hn : n = w.heap.size) {t : TypeId} {k : Int} {u : Value} {m : List Nat} (hu : BytesAt w u m) : ParsAt (w.alloc (.cells #[.int .i64 k, u] t)) (.slice (some ⟨n, 0, none⟩) 1 1) [(k, m)] := by
 refine ⟨by simp [maxLen], _, _, rfl, fun i p hp => ?_⟩
 have hi := (List.getElem?_eq_some_iff.1 hp).1
 obtain rfl : i = 0 := by simp at hi; exact hi
 simp at hp
 subst hp
 exact ⟨n, 0, u, rfl, cellNew _ _ _ _ _ _ hn, cellNew _ _ _ _ _ _ hn, hu.ext (Ext.alloc _ _)⟩
theorem write_good {w : World} {v : Value} {L : List Par} (hv : ParsAt w v L) (hlen : (writeB L).length ≤ 700000) (hL : L.length ≤ 100000) (hg : ∀ p ∈ L, goodP p = true) :
  Calls Try.prog 89 #[v] w fun e w' => Ext w w' ∧ ∃ a n c, e = .returned (.tuple #[.slice a n c, .nilIface]) ∧ n = (writeB L).length ∧ OB w' w.heap.size (.slice a n c) (writeB L) :=
 (write_any hv hlen hL).mono fun e w' h => by
  obtain ⟨h1, ⟨a, n, c, h2, h3, h4, _⟩ | ⟨_, p, hp, h5⟩⟩ := h
  ·
   exact ⟨h1, a, n, c, h2, h3, h4⟩
  ·
   rw [hg p hp] at h5; cases h5
theorem params_some {w : World} {v : Value} {B : List Nat} {L : List Par} (hv : BytesAt w v B) (hB : B.length ≤ 100000) (hL : readAll B = some L) :
  Calls Try.prog 95 #[v] w fun e w' => Ext w w' ∧ ∃ lv, e = .returned (.tuple #[lv, .nilIface]) ∧ OwnL 138 w' w.heap.size lv L :=
 (params_any hv hB).mono fun e w' h => by
  obtain ⟨h1, ⟨h2, _⟩ | ⟨L', lv, h2, h3, h4⟩⟩ := h
  ·
   rw [hL] at h2; cases h2
  ·
   rw [hL] at h2; cases h2; exact ⟨h1, lv, h3, h4⟩
theorem params_none {w : World} {v : Value} {B : List Nat} (hv : BytesAt w v B) (hB : B.length ≤ 100000) (hL : readAll B = none) :
  Calls Try.prog 95 #[v] w fun e w' => Ext w w' ∧ e = .returned (.tuple #[.slice none 0 0, errF]) :=
 (params_any hv hB).mono fun e w' h => by
  obtain ⟨h1, ⟨_, h2⟩ | ⟨L', lv, h2, _⟩⟩ := h
  ·
   exact ⟨h1, h2⟩
  ·
   rw [hL] at h2; cases h2
theorem strT : Try.prog.underlying 9 = some .string := Try.underlying9
end Tlv
end Go.Proofs.Ytbahelhohkhkmaa
/- A law on regions that draw their order and write, and whose last operation lays a slot that the others read: the others by the staged law, the last one behind them. No condition of its own. -/
namespace Go.Proofs.Ytbahelhohkhkmaa
open Go
section
variable {P : Program} {mk : Tmp → Option Nat} {init : List Oper} {ol : Oper} {a0 : Act} {V : Nat → Value → Prop} {Q : Exit → Act → World → Prop} {n : Nat}
end
/-- What is asked of a region's shape, a closed fact. -/
def stageLB (ops : List Oper) : Bool := match ops[ops.length - 1]? with
 | none => false
 | some o => decide (0 < ops.length) && o.guard.isNone && (ops.dropLast.all fun p => p.guard.isNone) && (o.after.all fun e => !(Region.binds .any e) || decide (e.on < ops.length - 1)) &&
  (List.range (ops.length - 1)).all fun i => afterB o i || (List.range (ops.length - 1)).any fun j => match ops[j]? with | none => false | some oj => afterB o j && afterB oj i
end Go.Proofs.Ytbahelhohkhkmaa
/- The parameters of bytes, as the document reads them. No condition of its own. -/
namespace Go.Proofs.Ytbahelhohkhkmaa
namespace Tlv
open Go Go.RowKit
set_option maxRecDepth 100000
theorem parT2 : ParT 82 85 := ⟨Try.underlying82, by kernel_rfl, by decide⟩
theorem exec_runP {r : Operand → Value} {o : Oper} {s x : Operand} {t : TypeId} (ho : o.op = .call { callee := .builtin .append, args := #[s, x], argTypes := #[t, t] }) {w w' : World} {v u z : Value} (hs : r s = v) (hx : r x = u) (hr : (Builtin.append_ #[t, t] o.type #[v, u]).run Try.prog w = .ok z w') : (execOp r o).run Try.prog w = .ok (.value z) w' := by
 simp only [execOp, ho, resolve, invoke, builtin, Sem.run_bind, Sem.run_pure, Result.andThen_ok, List.map_toArray, List.map_cons, List.map_nil, hs, hx, hr]
theorem RdAt.all {B : List Nat} {p : Nat} {L : List Par} (h : RdAt B (some p) L) (hp : B.length ≤ p) : readAll B = some L := by
 rcases h with ⟨h, _⟩ | ⟨a', e, h1, h2, h3, h4⟩
 ·
  cases h
 ·
  cases e
  rw [h4, List.drop_eq_nil_of_le hp, readAll_nil]; simp
theorem RdAt.next {B : List Nat} {p : Nat} {L : List Par} (h : RdAt B (some p) L) (hp : p < B.length) (hk : okP (B.drop p) = true) : RdAt B (some (p + allP (B.drop p))) (L ++ [headP (B.drop p)]) := by
 have := h.step hp
 rwa [paramS_ok h.mod hk] at this
set_option maxRecDepth 100000
theorem ci_cells (l : List Nat) : (ci l).map (Value.int .u8) = cellsB l := by simp [ci, cellsB]
/-- Memory grows; a block of bytes of the own that holds K may get Z behind it. -/
structure Turns (B : Nat) (K Z : List Nat) (a b : World) : Prop where
 os : b.os = a.os
 tape : b.tape = a.tape
 output : b.output = a.output
 size : a.heap.size ≤ b.heap.size
 block : ∀ g, g < a.heap.size → b.heap[g]? = a.heap[g]? ∨ (B ≤ g ∧ ∃ C C' : Array Value, a.heap[g]? = some (.cells C 5 (0, 0)) ∧ b.heap[g]? = some (.cells C' 5 (0, 0)) ∧ C'.size = C.size ∧ C.toList.take K.length = cellsB K ∧ C'.toList.take (K ++ Z).length = cellsB (K ++ Z))
theorem Turns.refl {B : Nat} {K Z : List Nat} (w : World) : Turns B K Z w w := ⟨rfl, rfl, rfl, Nat.le_refl _, fun _ _ => .inl rfl⟩
theorem Turns.trans {B : Nat} {K Z : List Nat} {a b c : World} (h : Turns B K Z a b) (k : Turns B K Z b c) : Turns B K Z a c := by
 refine ⟨k.os.trans h.os, k.tape.trans h.tape, k.output.trans h.output, Nat.le_trans h.size k.size, fun g hg => ?_⟩
 rcases h.block g hg with e1 | ⟨hB, C, C', a1, a2, a3, a4, a5⟩
 ·
  rcases k.block g (Nat.lt_of_lt_of_le hg h.size) with e2 | ⟨hB, D, D', b1, b2, b3, b4, b5⟩
  ·
   exact .inl (e2.trans e1)
  ·
   exact .inr ⟨hB, D, D', by rw [← e1]; exact b1, b2, b3, b4, b5⟩
 ·
  rcases k.block g (Nat.lt_of_lt_of_le hg h.size) with e2 | ⟨_, D, D', b1, b2, b3, b4, b5⟩
  ·
   exact .inr ⟨hB, C, C', a1, e2.trans a2, a3, a4, a5⟩
  ·
   rw [a2] at b1
   simp only [Option.some.injEq, Obj.cells.injEq, and_true] at b1
   subst b1
   exact .inr ⟨hB, C, D', a1, b2, b3.trans a3, a4, b5⟩
theorem Turns.of_ext {B : Nat} {K Z : List Nat} {a b : World} (h : Ext a b) : Turns B K Z a b := ⟨h.os, h.tape, h.output, h.size, fun g hg => .inl (h.block g hg)⟩
theorem Turns.ext {B : Nat} {K Z : List Nat} {a b : World} (h : Turns B K Z a b) (hB : a.heap.size ≤ B) : Ext a b :=
 ⟨h.os, h.tape, h.output, h.size, fun g hg => by
  rcases h.block g hg with e | ⟨hb, _⟩
  ·
   exact e
  ·
   omega⟩
theorem take_pre {l F : List Nat} {C : Array Value} (hp : l <+: F) (h : C.toList.take F.length = cellsB F) : C.toList.take l.length = cellsB l := by
 obtain ⟨r, rfl⟩ := hp
 have h1 := congrArg (List.take l.length) h
 rw [List.take_take, Nat.min_eq_left (by simp)] at h1
 rw [h1]
 unfold cellsB
 rw [List.map_append, List.take_left' (by simp)]
theorem cellsB_inj {l m : List Nat} (h : cellsB l = cellsB m) : l = m := by
 have : Function.Injective (fun x : Nat => Value.int .u8 (x : Nat)) := fun a b h => by simp at h; omega
 exact (List.map_inj_right (fun a b h => this h)).1 h
/-- What is a beginning of what stands there then is kept. -/
theorem Turns.ob {B : Nat} {K Z : List Nat} {a b : World} (ht : Turns B K Z a b) {v : Value} {l : List Nat} (h : OB a B v l) (hp : l <+: K ++ Z) : OB b B v l := by
 refine ⟨⟨⟨h.own.1.1, ?_⟩, h.own.2⟩, h.all⟩
 rcases h.own.1.2 with h0 | ⟨g, cap, cur, rfl, hb, hg, hnc, hcm, hcs, htk⟩
 ·
  exact .inl h0
 ·
  rcases ht.block g (Array.getElem?_eq_some_iff.1 hg).1 with e | ⟨_, C, C', a1, a2, a3, a4, a5⟩
  ·
   exact .inr ⟨g, cap, cur, rfl, hb, e.trans hg, hnc, hcm, hcs, htk⟩
  ·
   rw [hg] at a1
   simp only [Option.some.injEq, Obj.cells.injEq, and_true] at a1
   subst a1
   refine .inr ⟨g, cap, C', rfl, hb, a2, hnc, hcm, a3.trans hcs, ?_⟩
   rw [Nat.mul_one, ci_len, ci_cells]
   exact take_pre hp a5
/-- What is no longer than K is kept. -/
theorem Turns.obK {B : Nat} {K Z : List Nat} {a b : World} (ht : Turns B K Z a b) {v : Value} {l : List Nat} (h : OB a B v l) (hl : l.length ≤ K.length) : OB b B v l := by
 refine ⟨⟨⟨h.own.1.1, ?_⟩, h.own.2⟩, h.all⟩
 rcases h.own.1.2 with h0 | ⟨g, cap, cur, rfl, hb, hg, hnc, hcm, hcs, htk⟩
 ·
  exact .inl h0
 ·
  rcases ht.block g (Array.getElem?_eq_some_iff.1 hg).1 with e | ⟨_, C, C', a1, a2, a3, a4, a5⟩
  ·
   exact .inr ⟨g, cap, cur, rfl, hb, e.trans hg, hnc, hcm, hcs, htk⟩
  ·
   rw [hg] at a1
   simp only [Option.some.injEq, Obj.cells.injEq, and_true] at a1
   subst a1
   refine .inr ⟨g, cap, C', rfl, hb, a2, hnc, hcm, a3.trans hcs, ?_⟩
   rw [Nat.mul_one, ci_len, ci_cells] at htk ⊢
   have hpre : l <+: K := by
    have h1 := congrArg (List.take l.length) a4
    rw [List.take_take, Nat.min_eq_left hl, htk] at h1
    have h2 : cellsB l = cellsB (K.take l.length) := by rw [h1]; simp [cellsB]
    rw [cellsB_inj h2]
    exact List.take_prefix _ _
   exact take_pre (hpre.trans (List.prefix_append _ _)) a5
/-- append, to the block. -/
theorem run_appT (w : World) (base ty : Nat) (v x : Value) (K Z : List Nat) (hv : OB w base v K) (hx : BytesAt w x Z) (hlen : K.length + Z.length ≤ 1000000) (hbase : base ≤ w.heap.size) :
  ∃ ad cap w', (Builtin.append_ #[24, 24] ty #[v, x]).run Try.prog w = .ok (.slice ad (K ++ Z).length cap) w' ∧ OB w' base (.slice ad (K ++ Z).length cap) (K ++ Z) ∧ Turns base K Z w w' := by
 rcases hv.own.1.2 with ⟨rfl, h0⟩ | ⟨g, cap, cur, rfl, hb, hg, hnc, hcm, hcs, htk⟩
 ·
  obtain ⟨ad, cap, w', hr, h1, h2, _⟩ := run_appB w base ty _ x K Z hv hx hlen hbase
  exact ⟨ad, cap, w', hr, h1, Turns.of_ext (keep_none h2)⟩
 ·
  obtain ⟨i, hi, hz, hs, hby⟩ := numT8.ex
  have hall := hv.all.app hx.1
  obtain ⟨hx1, hx2, ⟨rfl, rfl⟩ | ⟨ad, c, rfl, _, _, hc⟩⟩ := hx
  ·
   have hr := run_append_owned_none (P := Try.prog) w base 24 ty 5 i 1 numT8.ut hi _ _ _ hv.own.1
   rw [List.append_nil]
   rw [ci_len] at hr hv ⊢
   exact ⟨_, _, w, hr, hv, Turns.refl _⟩
  ·
   have hnews : ∀ j u, (cellsB Z)[j]? = some u → w.cell? (ad.add j) = some u := fun j u hu => by
    obtain ⟨hj, rfl⟩ := cellsB_get hu
    exact hc j hj
   have e1 : (ci K).length = K.length := ci_len K
   have e2 : (ci K).map (Value.int .u8) = cellsB K := ci_cells K
   have hown := hv.own.1
   rw [e1] at hown hnc htk ⊢
   rw [e2] at hown htk
   rw [Nat.mul_one] at htk
   have eL : (K ++ Z).length = K.length + Z.length := List.length_append
   by_cases hf : K.length + Z.length ≤ cap
   ·
    obtain ⟨w', hr, h1, h2⟩ := run_append_fits (P := Try.prog) w base 24 ty 5 i 1 numT8.ut hi hs g K.length cap (cellsB K) hown ad Z.length c (cellsB Z) (by simp [cellsB]) hnews (by simp [cellsB, Value.oneCell']) hf
    have eC : cellsB K ++ cellsB Z = cellsB (K ++ Z) := by simp [cellsB]
    rw [eC] at h1
    refine ⟨_, _, w', by rw [eL]; exact hr, ⟨⟨by rw [ci_len, ci_cells, eL]; exact h1, by rw [ci_len]; unfold maxLen; omega⟩, hall⟩, ⟨h2.os, h2.tape, h2.output, h2.size, fun k hk => ?_⟩⟩
    by_cases hkg : k = g
    ·
     subst hkg
     rcases h1.2 with ⟨h3, _⟩ | ⟨g', cap', cur', h3, _, h5, _, _, h8, h9⟩
     ·
      cases h3
     ·
      simp only [Value.slice.injEq, Option.some.injEq, Addr.mk.injEq, and_true, true_and] at h3
      obtain ⟨rfl, rfl⟩ := h3
      refine .inr ⟨hb, cur, cur', hg, h5, h8.trans hcs.symm, htk, ?_⟩
      rw [Nat.mul_one] at h9
      rw [eL]; exact h9
    ·
     exact .inl (h2.block k hk (fun e => hkg (by simpa using e)))
   ·
    obtain ⟨v', w', hr, h1, h2⟩ := run_append_arg_grows (P := Try.prog) w 24 ty 5 i (.int .u8 0) 1 1 numT8.ut hi hz hs hby rfl (by omega) ⟨g, 0, none⟩ K.length cap (cellsB K) (by simp [cellsB]) (fun j u hu => by
     rw [add_plain, Nat.zero_add, hown.cellAt j (by have := (List.getElem?_eq_some_iff.1 hu).1; simpa [cellsB] using this)]; exact hu) ad Z.length c (cellsB Z) (by simp [cellsB]) hnews (by omega) (by unfold maxLen; omega) (by omega)
    have eC : cellsB K ++ cellsB Z = cellsB (K ++ Z) := by simp [cellsB]
    rw [eC] at h1
    have hO : OB w' base v' (K ++ Z) := OB.base ⟨⟨by rw [ci_len, ci_cells, eL]; exact h1, by rw [ci_len]; unfold maxLen; omega⟩, hall⟩ hbase
    obtain ⟨a', c', rfl⟩ := hO.form
    exact ⟨a', c', w', hr, hO, Turns.of_ext (Ext.of_grown h2)⟩
set_option maxRecDepth 100000
/-- One byte put behind. -/
theorem wl_push {wr : World} {ops : Array Oper} {rest : List Oper} {o : Oper} {a : Act} {Q : Exit → Act → World → Prop} {C : Array Value} (hgd : o.guard = none) {s x : Operand} (ho : o.op = .call { callee := .builtin .append, args := #[s, x], argTypes := #[24, 24] })
  {base b : Nat} {v : Value} {l : List Nat} {y : Nat} (hC : C = #[.int .u8 (y : Int)]) (hy : y < 256) (hs : a.eval s = v) (hx : a.eval x = .slice (some ⟨b, 0, none⟩) 1 1) (hb : b = wr.heap.size) (hv : OB wr base v l) (hl : l.length ≤ 900000) (hbase : base ≤ wr.heap.size)
  (h : ∀ ad n cap w', Hid (n = l.length + 1) → OB w' base (.slice ad n cap) (l ++ [y]) → KeepBut (fun k => v.ownBlock = some k) wr w' → wpList Try.prog ops Q rest (a.put o.dst (.slice ad n cap)) w') : wpList Try.prog ops Q (o :: rest) a (wr.alloc (.cells C 5)) := by
 subst hC hb
 have he : Ext wr (wr.alloc (.cells #[.int .u8 (y : Int)] 5)) := Ext.alloc _ _
 refine wl_app hgd ho hs hx (hv.ext he) (bytes_of_nums (l := [y]) (NumsAt.one wr (y : Int) 5 _ rfl) (fun x hx => by simp at hx; omega)) (by simp; omega) (Nat.le_trans hbase he.size) ?_
 intro ad n cap w' hn ho' hk _
 exact h ad n cap w' (show _ = _ by rw [hn.out]; simp) ho' ((KeepBut.ext he).trans hk)
set_option maxHeartbeats 4000000 in
theorem refNum_1 (N : Nat) (w : World) :
  Calls Try.prog 75 #[.int .u64 (N : Int), .int .i64 1] w fun e w' => ∃ a n c, e = .returned (.slice a n c) ∧ n = (be N 1).length ∧ OB w' w.heap.size (.slice a n c) (be N 1) ∧ Ext w w' := by
 go_enter Try.func75, Try.ntmps75
 go_wp2
 go_loopg [5, 6] 1 (fun gm x t wr => ∃ (k : Nat) (a : Option Addr) (n c : Nat), k ≤ 1 ∧ gm = k ∧ x = .slice a n c ∧ t = .int .i64 ((k : Int) - 1) ∧ Hid (n = 1 - k ∧ OB wr w.heap.size (.slice a n c) (dn N 1 k) ∧ Ext w wr))
 case atStart => exact ⟨1, none, 0, 0, by decide, rfl, rfl, rfl, rfl, OB.nil _ _, Ext.refl _⟩
 case round =>
  obtain ⟨k, a, n, c, hk, hgk, rfl, rfl, HR⟩ := hrel
  subst gk
  cases k with
  | zero =>
   have hd : decide ((((0 : Nat) : Int) - 1) ≥ 0) = false := rfl
   go_wp2
   go_ret
   refine ⟨_, _, _, rfl, by rw [HR.out.1, be_len], ?_, HR.out.2.2⟩
   have := HR.out.2.1
   rwa [dn_end] at this
  | succ j =>
   have hj1 : ((j + 1 : Nat) : Int) - 1 = (j : Int) := by omega
   rw [hj1]
   have hd : decide ((j : Int) ≥ 0) = true := decide_eq_true (by omega)
   obtain ⟨q, hq⟩ : ∃ q, q = 8 * j := ⟨_, rfl⟩
   obtain ⟨y, hy⟩ : ∃ y, y = N / 256 ^ j := ⟨_, rfl⟩
   obtain ⟨b, hb⟩ : ∃ b, b = y % 256 := ⟨_, rfl⟩
   have m8 : (8 : Int) * (j : Int) = (q : Int) := by omega
   have hqs : q < 1000000 := by omega
   have hq64 : (q : Int) ≤ 64 := by omega
   have my : (N : Int) / 2 ^ q = (y : Int) := by rw [hy, pow_bytes, ← hq]; simp
   have mb : (y : Int) % 256 = (b : Int) := by omega
   have mw : IntKind.u8.wrap (y : Int) = (b : Int) := by rw [IntKind.wrap_u8]; exact mb
   have hb8 : b < 256 := by omega
   have HD : Hid (dn N 1 j = dn N 1 (j + 1) ++ [b]) := show _ = _ by rw [hb, hy]; exact dn_succ N 1 j (by omega)
   have HLn : Hid ((dn N 1 (j + 1)).length ≤ 8) := Nat.le_trans (dn_len N 1 (j + 1)) (by decide)
   have HJ : Hid (j + 1 ≤ 1) := hk
   have hj8 : j < 8 := by omega
   have wq := (wrapM q hqs).1
   have wq2 := (wrapM q hqs).2.1
   have wq3 := (wrapM q hqs).2.2.1
   have wq4 := (wrapM q hqs).2.2.2
   clear hb hy hq
   go_wp2_with (first
    | (at_builtin; refine wl_push (l := dn N 1 (j + 1)) (y := b) (v := .slice a n c) rfl rfl (by first | rfl | go_simp | simp [mb, mw]) hb8 rfl rfl rfl HR.out.2.1 (by have := HLn.out; omega) HR.out.2.2.size ?_; intro ad n2 cap w2 hn2 ho2 hk2; rw [← HD.out] at ho2))
   go_roundg j
   case measure => omega
   case rel => exact ⟨j, ad, n2, cap, by omega, rfl, rfl, by first | rfl | simp, by have h1 := hn2.out; have h2 := HR.out.2.1.form; obtain ⟨_, _, e⟩ := h2; simp only [Value.slice.injEq] at e; have h3 := HR.out.1; have := HJ.out; omega, ho2, HR.out.2.2.of_but hk2 (fun k e => (HR.out.2.1.lt e).1)⟩
set_option maxHeartbeats 4000000 in
theorem refNum_2 (N : Nat) (w : World) :
  Calls Try.prog 75 #[.int .u64 (N : Int), .int .i64 2] w fun e w' => ∃ a n c, e = .returned (.slice a n c) ∧ n = (be N 2).length ∧ OB w' w.heap.size (.slice a n c) (be N 2) ∧ Ext w w' := by
 go_enter Try.func75, Try.ntmps75
 go_wp2
 go_loopg [5, 6] 2 (fun gm x t wr => ∃ (k : Nat) (a : Option Addr) (n c : Nat), k ≤ 2 ∧ gm = k ∧ x = .slice a n c ∧ t = .int .i64 ((k : Int) - 1) ∧ Hid (n = 2 - k ∧ OB wr w.heap.size (.slice a n c) (dn N 2 k) ∧ Ext w wr))
 case atStart => exact ⟨2, none, 0, 0, by decide, rfl, rfl, rfl, rfl, OB.nil _ _, Ext.refl _⟩
 case round =>
  obtain ⟨k, a, n, c, hk, hgk, rfl, rfl, HR⟩ := hrel
  subst gk
  cases k with
  | zero =>
   have hd : decide ((((0 : Nat) : Int) - 1) ≥ 0) = false := rfl
   go_wp2
   go_ret
   refine ⟨_, _, _, rfl, by rw [HR.out.1, be_len], ?_, HR.out.2.2⟩
   have := HR.out.2.1
   rwa [dn_end] at this
  | succ j =>
   have hj1 : ((j + 1 : Nat) : Int) - 1 = (j : Int) := by omega
   rw [hj1]
   have hd : decide ((j : Int) ≥ 0) = true := decide_eq_true (by omega)
   obtain ⟨q, hq⟩ : ∃ q, q = 8 * j := ⟨_, rfl⟩
   obtain ⟨y, hy⟩ : ∃ y, y = N / 256 ^ j := ⟨_, rfl⟩
   obtain ⟨b, hb⟩ : ∃ b, b = y % 256 := ⟨_, rfl⟩
   have m8 : (8 : Int) * (j : Int) = (q : Int) := by omega
   have hqs : q < 1000000 := by omega
   have hq64 : (q : Int) ≤ 64 := by omega
   have my : (N : Int) / 2 ^ q = (y : Int) := by rw [hy, pow_bytes, ← hq]; simp
   have mb : (y : Int) % 256 = (b : Int) := by omega
   have mw : IntKind.u8.wrap (y : Int) = (b : Int) := by rw [IntKind.wrap_u8]; exact mb
   have hb8 : b < 256 := by omega
   have HD : Hid (dn N 2 j = dn N 2 (j + 1) ++ [b]) := show _ = _ by rw [hb, hy]; exact dn_succ N 2 j (by omega)
   have HLn : Hid ((dn N 2 (j + 1)).length ≤ 8) := Nat.le_trans (dn_len N 2 (j + 1)) (by decide)
   have HJ : Hid (j + 1 ≤ 2) := hk
   have hj8 : j < 8 := by omega
   have wq := (wrapM q hqs).1
   have wq2 := (wrapM q hqs).2.1
   have wq3 := (wrapM q hqs).2.2.1
   have wq4 := (wrapM q hqs).2.2.2
   clear hb hy hq
   go_wp2_with (first
    | (at_builtin; refine wl_push (l := dn N 2 (j + 1)) (y := b) (v := .slice a n c) rfl rfl (by first | rfl | go_simp | simp [mb, mw]) hb8 rfl rfl rfl HR.out.2.1 (by have := HLn.out; omega) HR.out.2.2.size ?_; intro ad n2 cap w2 hn2 ho2 hk2; rw [← HD.out] at ho2))
   go_roundg j
   case measure => omega
   case rel => exact ⟨j, ad, n2, cap, by omega, rfl, rfl, by first | rfl | simp, by have h1 := hn2.out; have h2 := HR.out.2.1.form; obtain ⟨_, _, e⟩ := h2; simp only [Value.slice.injEq] at e; have h3 := HR.out.1; have := HJ.out; omega, ho2, HR.out.2.2.of_but hk2 (fun k e => (HR.out.2.1.lt e).1)⟩
set_option maxHeartbeats 4000000 in
theorem refNum_4 (N : Nat) (w : World) :
  Calls Try.prog 75 #[.int .u64 (N : Int), .int .i64 4] w fun e w' => ∃ a n c, e = .returned (.slice a n c) ∧ n = (be N 4).length ∧ OB w' w.heap.size (.slice a n c) (be N 4) ∧ Ext w w' := by
 go_enter Try.func75, Try.ntmps75
 go_wp2
 go_loopg [5, 6] 4 (fun gm x t wr => ∃ (k : Nat) (a : Option Addr) (n c : Nat), k ≤ 4 ∧ gm = k ∧ x = .slice a n c ∧ t = .int .i64 ((k : Int) - 1) ∧ Hid (n = 4 - k ∧ OB wr w.heap.size (.slice a n c) (dn N 4 k) ∧ Ext w wr))
 case atStart => exact ⟨4, none, 0, 0, by decide, rfl, rfl, rfl, rfl, OB.nil _ _, Ext.refl _⟩
 case round =>
  obtain ⟨k, a, n, c, hk, hgk, rfl, rfl, HR⟩ := hrel
  subst gk
  cases k with
  | zero =>
   have hd : decide ((((0 : Nat) : Int) - 1) ≥ 0) = false := rfl
   go_wp2
   go_ret
   refine ⟨_, _, _, rfl, by rw [HR.out.1, be_len], ?_, HR.out.2.2⟩
   have := HR.out.2.1
   rwa [dn_end] at this
  | succ j =>
   have hj1 : ((j + 1 : Nat) : Int) - 1 = (j : Int) := by omega
   rw [hj1]
   have hd : decide ((j : Int) ≥ 0) = true := decide_eq_true (by omega)
   obtain ⟨q, hq⟩ : ∃ q, q = 8 * j := ⟨_, rfl⟩
   obtain ⟨y, hy⟩ : ∃ y, y = N / 256 ^ j := ⟨_, rfl⟩
   obtain ⟨b, hb⟩ : ∃ b, b = y % 256 := ⟨_, rfl⟩
   have m8 : (8 : Int) * (j : Int) = (q : Int) := by omega
   have hqs : q < 1000000 := by omega
   have hq64 : (q : Int) ≤ 64 := by omega
   have my : (N : Int) / 2 ^ q = (y : Int) := by rw [hy, pow_bytes, ← hq]; simp
   have mb : (y : Int) % 256 = (b : Int) := by omega
   have mw : IntKind.u8.wrap (y : Int) = (b : Int) := by rw [IntKind.wrap_u8]; exact mb
   have hb8 : b < 256 := by omega
   have HD : Hid (dn N 4 j = dn N 4 (j + 1) ++ [b]) := show _ = _ by rw [hb, hy]; exact dn_succ N 4 j (by omega)
   have HLn : Hid ((dn N 4 (j + 1)).length ≤ 8) := Nat.le_trans (dn_len N 4 (j + 1)) (by decide)
   have HJ : Hid (j + 1 ≤ 4) := hk
   have hj8 : j < 8 := by omega
   have wq := (wrapM q hqs).1
   have wq2 := (wrapM q hqs).2.1
   have wq3 := (wrapM q hqs).2.2.1
   have wq4 := (wrapM q hqs).2.2.2
   clear hb hy hq
   go_wp2_with (first
    | (at_builtin; refine wl_push (l := dn N 4 (j + 1)) (y := b) (v := .slice a n c) rfl rfl (by first | rfl | go_simp | simp [mb, mw]) hb8 rfl rfl rfl HR.out.2.1 (by have := HLn.out; omega) HR.out.2.2.size ?_; intro ad n2 cap w2 hn2 ho2 hk2; rw [← HD.out] at ho2))
   go_roundg j
   case measure => omega
   case rel => exact ⟨j, ad, n2, cap, by omega, rfl, rfl, by first | rfl | simp, by have h1 := hn2.out; have h2 := HR.out.2.1.form; obtain ⟨_, _, e⟩ := h2; simp only [Value.slice.injEq] at e; have h3 := HR.out.1; have := HJ.out; omega, ho2, HR.out.2.2.of_but hk2 (fun k e => (HR.out.2.1.lt e).1)⟩
set_option maxHeartbeats 4000000 in
theorem refNum_8 (N : Nat) (w : World) :
  Calls Try.prog 75 #[.int .u64 (N : Int), .int .i64 8] w fun e w' => ∃ a n c, e = .returned (.slice a n c) ∧ n = (be N 8).length ∧ OB w' w.heap.size (.slice a n c) (be N 8) ∧ Ext w w' := by
 go_enter Try.func75, Try.ntmps75
 go_wp2
 go_loopg [5, 6] 8 (fun gm x t wr => ∃ (k : Nat) (a : Option Addr) (n c : Nat), k ≤ 8 ∧ gm = k ∧ x = .slice a n c ∧ t = .int .i64 ((k : Int) - 1) ∧ Hid (n = 8 - k ∧ OB wr w.heap.size (.slice a n c) (dn N 8 k) ∧ Ext w wr))
 case atStart => exact ⟨8, none, 0, 0, by decide, rfl, rfl, rfl, rfl, OB.nil _ _, Ext.refl _⟩
 case round =>
  obtain ⟨k, a, n, c, hk, hgk, rfl, rfl, HR⟩ := hrel
  subst gk
  cases k with
  | zero =>
   have hd : decide ((((0 : Nat) : Int) - 1) ≥ 0) = false := rfl
   go_wp2
   go_ret
   refine ⟨_, _, _, rfl, by rw [HR.out.1, be_len], ?_, HR.out.2.2⟩
   have := HR.out.2.1
   rwa [dn_end] at this
  | succ j =>
   have hj1 : ((j + 1 : Nat) : Int) - 1 = (j : Int) := by omega
   rw [hj1]
   have hd : decide ((j : Int) ≥ 0) = true := decide_eq_true (by omega)
   obtain ⟨q, hq⟩ : ∃ q, q = 8 * j := ⟨_, rfl⟩
   obtain ⟨y, hy⟩ : ∃ y, y = N / 256 ^ j := ⟨_, rfl⟩
   obtain ⟨b, hb⟩ : ∃ b, b = y % 256 := ⟨_, rfl⟩
   have m8 : (8 : Int) * (j : Int) = (q : Int) := by omega
   have hqs : q < 1000000 := by omega
   have hq64 : (q : Int) ≤ 64 := by omega
   have my : (N : Int) / 2 ^ q = (y : Int) := by rw [hy, pow_bytes, ← hq]; simp
   have mb : (y : Int) % 256 = (b : Int) := by omega
   have mw : IntKind.u8.wrap (y : Int) = (b : Int) := by rw [IntKind.wrap_u8]; exact mb
   have hb8 : b < 256 := by omega
   have HD : Hid (dn N 8 j = dn N 8 (j + 1) ++ [b]) := show _ = _ by rw [hb, hy]; exact dn_succ N 8 j (by omega)
   have HLn : Hid ((dn N 8 (j + 1)).length ≤ 8) := Nat.le_trans (dn_len N 8 (j + 1)) (by decide)
   have HJ : Hid (j + 1 ≤ 8) := hk
   have hj8 : j < 8 := by omega
   have wq := (wrapM q hqs).1
   have wq2 := (wrapM q hqs).2.1
   have wq3 := (wrapM q hqs).2.2.1
   have wq4 := (wrapM q hqs).2.2.2
   clear hb hy hq
   go_wp2_with (first
    | (at_builtin; refine wl_push (l := dn N 8 (j + 1)) (y := b) (v := .slice a n c) rfl rfl (by first | rfl | go_simp | simp [mb, mw]) hb8 rfl rfl rfl HR.out.2.1 (by have := HLn.out; omega) HR.out.2.2.size ?_; intro ad n2 cap w2 hn2 ho2 hk2; rw [← HD.out] at ho2))
   go_roundg j
   case measure => omega
   case rel => exact ⟨j, ad, n2, cap, by omega, rfl, rfl, by first | rfl | simp, by have h1 := hn2.out; have h2 := HR.out.2.1.form; obtain ⟨_, _, e⟩ := h2; simp only [Value.slice.injEq] at e; have h3 := HR.out.1; have := HJ.out; omega, ho2, HR.out.2.2.of_but hk2 (fun k e => (HR.out.2.1.lt e).1)⟩
set_option maxHeartbeats 1000000 in
theorem refNum_any (N : Nat) (n : Int) (w : World) :
  Calls Try.prog 75 #[.int .u64 (N : Int), .int .i64 n] w fun e w' => ∃ a m c, e = .returned (.slice a m c) ∧ m = (numB N n).length ∧ OB w' w.heap.size (.slice a m c) (numB N n) ∧ Ext w w' := by
 cases hs : isSz n with
 | true =>
  rcases (isSz_iff n).1 hs with rfl | rfl | rfl | rfl
  ·
   exact refNum_1 N w
  ·
   exact refNum_2 N w
  ·
   exact refNum_4 N w
  ·
   exact refNum_8 N w
 | false =>
  have e : numB N n = [] := by unfold numB; rw [hs]; rfl
  rw [e]
  have hn : ¬ (n = 1 ∨ n = 2 ∨ n = 4 ∨ n = 8) := fun h => by rw [(isSz_iff n).2 h] at hs; cases hs
  have e1 : decide (n = 1) = false := decide_eq_false (by omega)
  have e2 : decide (n = 2) = false := decide_eq_false (by omega)
  have e3 : decide (n = 4) = false := decide_eq_false (by omega)
  have e4 : decide (n = 8) = false := decide_eq_false (by omega)
  have f1 : n ≠ 1 := by omega
  have f2 : n ≠ 2 := by omega
  have f3 : n ≠ 4 := by omega
  have f4 : n ≠ 8 := by omega
  have g1 : (n == 1) = false := beq_false_of_ne f1
  have g2 : (n == 2) = false := beq_false_of_ne f2
  have g3 : (n == 4) = false := beq_false_of_ne f3
  have g4 : (n == 8) = false := beq_false_of_ne f4
  have k1 : (n != 1) = true := by simp [f1]
  have k2 : (n != 2) = true := by simp [f2]
  have k3 : (n != 4) = true := by simp [f3]
  have k4 : (n != 8) = true := by simp [f4]
  clear hn hs e f1 f2 f3 f4
  go_enter Try.func75, Try.ntmps75
  go_wp2
  go_ret
  exact ⟨_, _, _, rfl, rfl, OB.nil _ _, Ext.refl _⟩
set_option maxRecDepth 100000
theorem rep_snoc (k : Nat) : List.replicate (k + 1) 0 = List.replicate k 0 ++ [0] := List.replicate_succ'
set_option maxHeartbeats 2000000 in
theorem refPad_any {w : World} {v : Value} {l : List Nat} (hv : BytesAt w v l) (hl : l.length ≤ 800000) :
  Calls Try.prog 38 #[v] w fun e w' => ∃ a n c, e = .returned (.slice a n c) ∧ n = (padB l).length ∧ OB w' w.heap.size (.slice a n c) (padB l) ∧ Ext w w' := by
 have H : Hid (BytesAt w v l ∧ l.length ≤ 800000) := ⟨hv, hl⟩
 clear hv hl
 go_enter Try.func38, Try.ntmps38
 go_wp2_with (first
  | (at_builtin; refine wl_app (l := []) (m := l) (u := v) (base := w.heap.size) rfl rfl rfl rfl (OB.lit0 w _ _ rfl (Nat.le_refl _)) (H.out.1.ext (Ext.alloc _ _)) (by have := H.out; simp; omega) (by simp) ?_; intro ad n cap w1 hn1 ho1 hk1 hg1; rw [List.nil_append] at ho1))
 have HO : Hid (n = l.length ∧ OB w1 w.heap.size (.slice ad n cap) l ∧ Ext w w1) := ⟨by rw [hn1.out]; simp, ho1, (Ext.alloc _ _).of_but hk1 (fun k e => by cases e; exact Nat.le_refl _)⟩
 clear hn1 ho1 hk1 hg1
 go_loopg [3] (pads l.length) (fun gm x wr => ∃ (k : Nat) (a : Option Addr) (n c : Nat), k ≤ pads l.length ∧ gm = pads l.length - k ∧ x = .slice a n c ∧ Hid (n = l.length + k ∧ OB wr w.heap.size (.slice a n c) (l ++ List.replicate k 0) ∧ Ext w wr))
 case atStart => exact ⟨0, _, _, _, Nat.zero_le _, rfl, rfl, HO.out.1, by rw [List.replicate_zero, List.append_nil]; exact HO.out.2.1, HO.out.2.2⟩
 case round =>
  obtain ⟨k, a, n, c, hk, rfl, rfl, HR⟩ := hrel
  have HPL : Hid (pads l.length < 4) := pads_lt _
  by_cases hlt : k < pads l.length
  ·
   have f1 : (n : Int) % 4 ≠ 0 := by have := HR.out.1; unfold pads at hlt; omega
   have g1 : ((n : Int) % 4 == 0) = false := beq_false_of_ne f1
   have k1 : ((n : Int) % 4 != 0) = true := by simp [f1]
   have e1 : decide ((n : Int) % 4 = 0) = false := decide_eq_false f1
   clear f1
   go_wp2_with (first
    | (at_builtin; refine wl_push (l := l ++ List.replicate k 0) (y := 0) (v := .slice a n c) rfl rfl rfl (by decide) rfl rfl rfl HR.out.2.1 (by have := H.out; have := HPL.out; simp; omega) HR.out.2.2.size ?_; intro ad2 n2 cap2 w2 hn2 ho2 hk2; rw [List.append_assoc, ← rep_snoc] at ho2))
   go_roundg (pads l.length - (k + 1))
   case measure => omega
   case rel => exact ⟨k + 1, _, _, _, by omega, rfl, rfl, by rw [hn2.out]; simp; omega, ho2, HR.out.2.2.of_but hk2 (fun k e => (HR.out.2.1.lt e).1)⟩
  ·
   obtain rfl : k = pads l.length := by omega
   have f1 : (n : Int) % 4 = 0 := by have := HR.out.1; have := pads_add l.length; omega
   have g1 : ((n : Int) % 4 == 0) = true := by simp [f1]
   have k1 : ((n : Int) % 4 != 0) = false := by simp [f1]
   have e1 : decide ((n : Int) % 4 = 0) = true := decide_eq_true f1
   clear f1
   go_wp2
   go_ret
   exact ⟨_, _, _, rfl, by rw [padB_len]; exact HR.out.1, HR.out.2.1, HR.out.2.2⟩
set_option maxRecDepth 100000
theorem numBe2 (N : Nat) : numB N 2 = be N 2 := rfl
/-- A slice of the own that reads as these bytes. -/
def NumV (N0 : Nat) (l : List Nat) : World → Value → Prop := fun w v => ∃ a c, v = .slice a l.length c ∧ OB w N0 v l
theorem NumV.turn {N0 : Nat} {l K Z : List Nat} {a b : World} {v : Value} (h : NumV N0 l a v) (hR : Turns N0 K Z a b) (hp : l <+: K ++ Z) : NumV N0 l b v := by
 obtain ⟨x, c, e, ho⟩ := h
 exact ⟨x, c, e, hR.ob ho hp⟩
theorem NumV.turnK {N0 : Nat} {l K Z : List Nat} {a b : World} {v : Value} (h : NumV N0 l a v) (hR : Turns N0 K Z a b) (hp : l.length ≤ K.length) : NumV N0 l b v := by
 obtain ⟨x, c, e, ho⟩ := h
 exact ⟨x, c, e, hR.obK ho hp⟩
theorem parB_pad (k : Int) (m : List Nat) : parB (k, m) = padB ((be k.toNat 2 ++ be (m.length + 4) 2) ++ m) := by
 rw [padB_app (by rw [List.length_append, be_len, be_len])]
 rfl
set_option maxHeartbeats 4000000 in
theorem refWrite_any {w : World} {v : Value} {L : List Par} (hv : ParsAt w v L) (hlen : (writeB L).length ≤ 700000) (hL : L.length ≤ 100000) (hg : ∀ p ∈ L, goodP p = true) :
  Calls Try.prog 37 #[v] w fun e w' => ∃ a n c, e = .returned (.slice a n c) ∧ OB w' w.heap.size (.slice a n c) (writeB L) ∧ Ext w w' := by
 obtain ⟨_, a, c, rfl, hc⟩ := hv
 have HC : Hid (∀ i p, L[i]? = some p → ∃ b off u, a = some ⟨b, off, none⟩ ∧ w.cell? ⟨b, off + i * 2, none⟩ = some (.int .i64 p.1) ∧ w.cell? ⟨b, off + i * 2 + 1, none⟩ = some u ∧ BytesAt w u p.2) := hc
 have HL : Hid ((writeB L).length ≤ 700000 ∧ ∀ p ∈ L, goodP p = true) := ⟨hlen, hg⟩
 clear hc hlen hg
 obtain ⟨n, hn⟩ : ∃ n, n = L.length := ⟨_, rfl⟩
 have HN : Hid (n = L.length) := hn
 rw [← hn] at hL ⊢
 clear hn
 go_enter Try.func37, Try.ntmps37
 go_wp2
 go_loopg [3, 4] n (fun gm x t wr => ∃ (i : Nat) (oa : Option Addr) (on oc : Nat), i ≤ n ∧ gm = n - i ∧ x = .slice oa on oc ∧ t = .int .i64 (i : Int) ∧ Hid (OB wr w.heap.size (.slice oa on oc) (writeB (L.take i)) ∧ Ext w wr))
 case atStart => exact ⟨0, none, 0, 0, Nat.zero_le _, rfl, rfl, rfl, OB.nil _ _, Ext.refl _⟩
 case round =>
  obtain ⟨i, oa, on, oc, hi, rfl, rfl, rfl, HR⟩ := hrel
  by_cases hlt : i < n
  ·
   have hd : decide ((i : Int) < (n : Int)) = true := decide_eq_true (by omega)
   have hd2 : decide (i < n) = true := decide_eq_true hlt
   obtain ⟨p, hp⟩ : ∃ p, L[i]? = some p := ⟨L[i]'(by rw [← HN.out]; exact hlt), by simp⟩
   have hgp := HL.out.2 p (List.mem_of_getElem? hp)
   have HP : Hid (writeB (L.take (i + 1)) = writeB (L.take i) ++ parB p) := show _ = _ by rw [take_getD hp, writeB_snoc]
   obtain ⟨b, off, u, rfl, hc0, hc1, hbu⟩ := HC.out i p hp
   clear hp
   obtain ⟨k, m⟩ := p
   obtain ⟨K, rfl⟩ : ∃ K : Nat, k = (K : Int) := ⟨k.toNat, by have := (goodP_iff (k, m)).1 hgp; simp only at this; omega⟩
   have hK : K < 65536 := by have := (goodP_iff ((K : Int), m)).1 hgp; simp only at this; omega
   have hm4 : m.length ≤ 4000 := ((goodP_iff ((K : Int), m)).1 hgp).2.2
   clear hgp
   obtain ⟨ua, uc, rfl, _, _⟩ := hbu.form
   rename_i z1 z2
   clear z1 z2
   simp only at hc0 hc1 hbu HP
   obtain ⟨um, hum⟩ : ∃ q, q = m.length := ⟨_, rfl⟩
   obtain ⟨m4, hm⟩ : ∃ q, q = um + 4 := ⟨_, rfl⟩
   have HP2 : Hid (writeB (L.take (i + 1)) = writeB (L.take i) ++ padB ((be K 2 ++ be m4 2) ++ m)) := show _ = _ by rw [HP.out, parB_pad, hm, hum]; rfl
   have HM : Hid (um = m.length ∧ um ≤ 4000) := ⟨hum, by omega⟩
   have hE0 : Ext w wr.drew := HR.out.2.trans (Ext.drew _)
   have c0 := hE0.cell hc0
   have c1 := hE0.cell hc1
   rw [← hum] at c1 hbu
   have HU : Hid (BytesAt w (.slice ua um uc) m) := hbu
   have z4 : (um : Int) + 4 = (m4 : Int) := by omega
   have zw4 : IntKind.i64.wrap (m4 : Int) = (m4 : Int) := by rw [IntKind.wrap_i64]; omega
   have cvK : IntKind.u64.wrap (K : Int) = (K : Int) := by rw [IntKind.wrap_u64]; exact Int.emod_eq_of_lt (by omega) (by omega)
   have cvM : IntKind.u64.wrap (m4 : Int) = (m4 : Int) := by rw [IntKind.wrap_u64]; exact Int.emod_eq_of_lt (by omega) (by omega)
   have cvK2 : (K : Int) % 18446744073709551616 = (K : Int) := Int.emod_eq_of_lt (by omega) (by omega)
   have cvM2 : (m4 : Int) % 18446744073709551616 = (m4 : Int) := Int.emod_eq_of_lt (by omega) (by omega)
   have hin : (i : Int) < (n : Int) := by omega
   clear hc0 hc1 hbu hum hm HP hm4
   go_wp2_with fail
   refine wp_region_facts (fun t => bif Nat.ble 12 t && Nat.ble t 28 then some (t - 12) else bif Nat.beq t 5 then some 17 else none) 40 (Turns wr.drew.heap.size (be K 2) (be m4 2))
    [Is (.slice (some ⟨b, off, none⟩) n c),
     Is (.int .i64 (i : Int)),
     Is (.pointer (some ⟨b, off + i * 2, none⟩)),
     Is (.pointer (some ⟨b, off + i * 2, none⟩)),
     Is (.int .i64 (K : Int)),
     Is (.int .u64 (K : Int)),
     (NumV wr.drew.heap.size (be K 2)),
     Is (.slice (some ⟨b, off, none⟩) n c),
     Is (.int .i64 (i : Int)),
     Is (.pointer (some ⟨b, off + i * 2, none⟩)),
     Is (.pointer (some ⟨b, off + i * 2 + 1, none⟩)),
     Is (.slice ua um uc),
     Is (.int .i64 (um : Int)),
     Is (.int .i64 (m4 : Int)),
     Is (.int .u64 (m4 : Int)),
     (NumV wr.drew.heap.size (be m4 2)),
     (NumV wr.drew.heap.size (be K 2 ++ be m4 2)),
     (NumV wr.drew.heap.size (be K 2 ++ be m4 2))]
    rfl (by kernel_rfl) (by kernel_rfl) rfl Turns.refl (fun _ _ _ => Turns.trans) ?_ ?_ ?_
   ·
    exact Ks (Ks (Ks (Ks (Ks (Ks (KeepAll.cons (fun _ _ _ hR h => h.turn hR (List.prefix_append _ _)) (Ks (Ks (Ks (Ks (Ks (Ks (Ks (Ks (KeepAll.cons (fun _ _ _ hR h => h.turnK hR (by rw [be_len, be_len]; exact Nat.le_refl _)) (KeepAll.cons (fun _ _ _ hR h => h.turn hR (List.prefix_refl _)) (KeepAll.cons (fun _ _ _ hR h => h.turn hR (List.prefix_refl _)) (KeepAll.nil))))))))))))))))))
   ·
    refine Gc ?_ ?_
    ·
     rintro r wx hR ⟨h1, _⟩
     replace h1 : r (.tmp 0) = (.slice (some ⟨b, off, none⟩) n c) := h1
     exact give_move (.inl rfl) ⟨Turns.refl _, h1⟩
    refine Gc ?_ ?_
    ·
     rintro r wx hR ⟨h1, _⟩
     replace h1 : r (.tmp 4) = (.int .i64 (i : Int)) := h1
     exact give_move (.inl rfl) ⟨Turns.refl _, h1⟩
    refine Gc ?_ ?_
    ·
     rintro r wx hR ⟨h1, h2, _⟩
     replace h1 : r (.tmp 12) = (.slice (some ⟨b, off, none⟩) n c) := h1
     replace h2 : r (.tmp 13) = (.int .i64 (i : Int)) := h2
     exact gvo (by simp [execOp, h1, h2, hin, go_sem]) ⟨Turns.refl _, rfl⟩
    refine Gc ?_ ?_
    ·
     rintro r wx hR ⟨h1, _⟩
     replace h1 : r (.tmp 14) = (.pointer (some ⟨b, off + i * 2, none⟩)) := h1
     exact gvo (by simp [execOp, h1, go_sem]) ⟨Turns.refl _, rfl⟩
    refine Gc ?_ ?_
    ·
     rintro r wx hR ⟨h1, _⟩
     replace h1 : r (.tmp 15) = (.pointer (some ⟨b, off + i * 2, none⟩)) := h1
     exact gvo (exg one3 rfl h1 ((hR.ext (Nat.le_refl _)).cell c0)) ⟨Turns.refl _, rfl⟩
    refine Gc ?_ ?_
    ·
     rintro r wx hR ⟨h1, _⟩
     replace h1 : r (.tmp 16) = (.int .i64 (K : Int)) := h1
     exact gvo (by simp [execOp, h1, cvK, cvK2, go_sem]) ⟨Turns.refl _, rfl⟩
    refine Gc ?_ ?_
    ·
     rintro r wx hR ⟨h1, h2, h3, _⟩
     replace h1 : r (.func 75) = .func (.func 75) #[] #[] := h1
     replace h2 : r (.tmp 17) = (.int .u64 (K : Int)) := h2
     replace h3 : r (.const (.int .i64 2)) = .int .i64 2 := h3
     refine give_func #[.int .u64 (K : Int), .int .i64 2] rfl h1 Try.call75 (by simp [h2, h3]) ?_
     refine (refNum_any K 2 _).mono ?_
     rintro e w1 ⟨qa, qm, qc, rfl, hqm, hqo, hqe⟩
     rw [numBe2] at hqm hqo
     subst hqm
     exact ⟨_, rfl, Turns.of_ext hqe, _, _, rfl, hqo.base hR.size⟩
    refine Gc ?_ ?_
    ·
     rintro r wx hR ⟨h1, _⟩
     replace h1 : r (.tmp 0) = (.slice (some ⟨b, off, none⟩) n c) := h1
     exact give_move (.inl rfl) ⟨Turns.refl _, h1⟩
    refine Gc ?_ ?_
    ·
     rintro r wx hR ⟨h1, _⟩
     replace h1 : r (.tmp 4) = (.int .i64 (i : Int)) := h1
     exact give_move (.inl rfl) ⟨Turns.refl _, h1⟩
    refine Gc ?_ ?_
    ·
     rintro r wx hR ⟨h1, h2, _⟩
     replace h1 : r (.tmp 19) = (.slice (some ⟨b, off, none⟩) n c) := h1
     replace h2 : r (.tmp 20) = (.int .i64 (i : Int)) := h2
     exact gvo (by simp [execOp, h1, h2, hin, go_sem]) ⟨Turns.refl _, rfl⟩
    refine Gc ?_ ?_
    ·
     rintro r wx hR ⟨h1, _⟩
     replace h1 : r (.tmp 21) = (.pointer (some ⟨b, off + i * 2, none⟩)) := h1
     exact gvo (by simp [execOp, h1, go_sem]) ⟨Turns.refl _, rfl⟩
    refine Gc ?_ ?_
    ·
     rintro r wx hR ⟨h1, _⟩
     replace h1 : r (.tmp 22) = (.pointer (some ⟨b, off + i * 2 + 1, none⟩)) := h1
     exact gvo (exg oneS rfl h1 ((hR.ext (Nat.le_refl _)).cell c1)) ⟨Turns.refl _, rfl⟩
    refine Gc ?_ ?_
    ·
     rintro r wx hR ⟨h1, _⟩
     replace h1 : r (.tmp 23) = (.slice ua um uc) := h1
     exact gvo (by simp [execOp, h1, go_sem]) ⟨Turns.refl _, rfl⟩
    refine Gc ?_ ?_
    ·
     rintro r wx hR ⟨h1, h2, _⟩
     replace h1 : r (.tmp 24) = (.int .i64 (um : Int)) := h1
     replace h2 : r (.const (.int .i64 4)) = .int .i64 4 := h2
     exact gvo (by simp [execOp, h1, h2, z4, zw4, go_sem]) ⟨Turns.refl _, rfl⟩
    refine Gc ?_ ?_
    ·
     rintro r wx hR ⟨h1, _⟩
     replace h1 : r (.tmp 25) = (.int .i64 (m4 : Int)) := h1
     exact gvo (by simp [execOp, h1, cvM, cvM2, go_sem]) ⟨Turns.refl _, rfl⟩
    refine Gc ?_ ?_
    ·
     rintro r wx hR ⟨h1, h2, h3, _⟩
     replace h1 : r (.func 75) = .func (.func 75) #[] #[] := h1
     replace h2 : r (.tmp 26) = (.int .u64 (m4 : Int)) := h2
     replace h3 : r (.const (.int .i64 2)) = .int .i64 2 := h3
     refine give_func #[.int .u64 (m4 : Int), .int .i64 2] rfl h1 Try.call75 (by simp [h2, h3]) ?_
     refine (refNum_any m4 2 _).mono ?_
     rintro e w1 ⟨qa, qm, qc, rfl, hqm, hqo, hqe⟩
     rw [numBe2] at hqm hqo
     subst hqm
     exact ⟨_, rfl, Turns.of_ext hqe, _, _, rfl, hqo.base hR.size⟩
    refine Gc ?_ ?_
    ·
     rintro r wx hR ⟨h1, h2, _⟩
     replace h1 : ((NumV wr.drew.heap.size (be K 2)) : Fact) wx (r (.tmp 18)) := h1
     replace h2 : ((NumV wr.drew.heap.size (be m4 2)) : Fact) wx (r (.tmp 27)) := h2
     obtain ⟨xa, xc, xe, xo⟩ := h1
     obtain ⟨ya, yc, ye, yo⟩ := h2
     obtain ⟨ad, cap, w2, hr, ho2, ht⟩ := run_appT wx wr.drew.heap.size 24 _ _ (be K 2) (be m4 2) xo yo.bytes (by rw [be_len, be_len]; decide) hR.size
     exact gvo (exec_run rfl rfl rfl hr) ⟨ht, _, _, rfl, ho2⟩
    refine Gc ?_ ?_
    ·
     rintro r wx hR ⟨h1, _⟩
     replace h1 : ((NumV wr.drew.heap.size (be K 2 ++ be m4 2)) : Fact) wx (r (.tmp 28)) := h1
     exact give_move (.inr rfl) ⟨Turns.refl _, h1⟩
    exact GoodAll.nil
   ·
    intro vs w1 a1 hR hold ha1
    have hv0 : vs 0 = (.slice (some ⟨b, off, none⟩) n c) := hold.at 0
    have hv1 : vs 1 = (.int .i64 (i : Int)) := hold.at 1
    have hv2 : vs 2 = (.pointer (some ⟨b, off + i * 2, none⟩)) := hold.at 2
    have hv3 : vs 3 = (.pointer (some ⟨b, off + i * 2, none⟩)) := hold.at 3
    have hv4 : vs 4 = (.int .i64 (K : Int)) := hold.at 4
    have hv5 : vs 5 = (.int .u64 (K : Int)) := hold.at 5
    have hq6 := hold.at 6
    have hv7 : vs 7 = (.slice (some ⟨b, off, none⟩) n c) := hold.at 7
    have hv8 : vs 8 = (.int .i64 (i : Int)) := hold.at 8
    have hv9 : vs 9 = (.pointer (some ⟨b, off + i * 2, none⟩)) := hold.at 9
    have hv10 : vs 10 = (.pointer (some ⟨b, off + i * 2 + 1, none⟩)) := hold.at 10
    have hv11 : vs 11 = (.slice ua um uc) := hold.at 11
    have hv12 : vs 12 = (.int .i64 (um : Int)) := hold.at 12
    have hv13 : vs 13 = (.int .i64 (m4 : Int)) := hold.at 13
    have hv14 : vs 14 = (.int .u64 (m4 : Int)) := hold.at 14
    have hq15 := hold.at 15
    have hq16 := hold.at 16
    have hq17 := hold.at 17
    obtain ⟨ba, bc, e17, ho17⟩ := hq17
    simp only [putAll, Act.put, e17, hv0, hv1, hv2, hv3, hv4, hv5, hv7, hv8, hv9, hv10, hv11, hv12, hv13, hv14, List.setIfInBounds_toArray, List.set_cons_succ, List.set_cons_zero] at ha1
    generalize vs 6 = x6 at ha1
    generalize vs 15 = x15 at ha1
    generalize vs 16 = x16 at ha1
    subst ha1
    have HE1 : Hid (Ext wr w1 ∧ OB w1 wr.heap.size (.slice ba (be K 2 ++ be m4 2).length bc) (be K 2 ++ be m4 2)) := ⟨(Ext.drew _).trans (hR.ext (Nat.le_refl _)), by rw [← e17]; exact ho17⟩
    have c2 := (hR.ext (Nat.le_refl _)).cell c1
    clear hold hq6 hq15 hq16 e17 ho17 hv0 hv1 hv2 hv3 hv4 hv5 hv7 hv8 hv9 hv10 hv11 hv12 hv13 hv14 hR c0 c1 cvK cvM cvK2 cvM2 z4 zw4
    have HH4 : Hid ((be K 2 ++ be m4 2).length = 4) := show _ = _ by rw [List.length_append, be_len, be_len]
    generalize be K 2 ++ be m4 2 = H4 at *
    obtain ⟨bn, hbn⟩ : ∃ q, q = H4.length := ⟨_, rfl⟩
    rw [← hbn] at HE1 ⊢
    clear hbn
    go_wp2_with (first
     | (at_builtin; have q := he3; clear q; refine wl_app (l := writeB (L.take i)) (m := padB (H4 ++ m)) (v := .slice oa on oc) (u := .slice pa pn pc) (base := w.heap.size) rfl rfl rfl rfl (HR.out.1.ext (HE2.out.trans he3)) ho3.bytes (by have h1 := writeB_take L i; have h2 := HL.out.1; have h3 := HH4.out; have h4 := HM.out; have h5 := pads_lt (H4 ++ m).length; rw [padB_len, List.length_append]; rw [List.length_append] at h5; omega) (Nat.le_trans HR.out.2.size (HE2.out.trans he3).size) ?_; intro ad4 n4 cap4 w4 hn4 ho4 hk4 hg4)
     | (at_builtin; refine wl_app (l := H4) (m := m) (v := .slice ba bn bc) (u := .slice ua um uc) (base := wr.heap.size) rfl rfl rfl rfl HE1.out.2 (HU.out.ext (HR.out.2.trans HE1.out.1)) (by have := HH4.out; have := HM.out; omega) HE1.out.1.size ?_; intro ad2 n2 cap2 w2 hn2 ho2 hk2 hg2; have HE2 : Hid (Ext wr w2) := HE1.out.1.of_but hk2 (fun k e => (HE1.out.2.lt e).1); clear hn2 hk2 hg2)
     | (go_at_call 38; refine (refPad_any ho2.bytes (by have := HH4.out; have := HM.out; rw [List.length_append]; omega)).mono ?_; rintro e w3 ⟨pa, pn, pc, rfl, hpn, ho3, he3⟩; clear hpn))
    go_roundg (n - (i + 1))
    case measure => omega
    case rel => exact ⟨i + 1, _, _, _, by omega, rfl, rfl, by simp, by rw [HP2.out]; exact ho4, (HR.out.2.trans (HE2.out.trans he3)).of_but hk4 (fun k e => (HR.out.1.lt e).1)⟩
  ·
   have hd : decide ((i : Int) < (n : Int)) = false := decide_eq_false (by omega)
   have hd2 : decide (i < n) = false := decide_eq_false hlt
   have HT : Hid (L.take i = L) := List.take_of_length_le (by rw [← HN.out]; omega)
   rw [HT.out] at HR
   go_wp2
   go_ret
   exact ⟨_, _, _, rfl, HR.out.1, HR.out.2⟩
end Tlv
end Go.Proofs.Ytbahelhohkhkmaa
/- A law on regions that draw their order, under a relation, and whose last operation lays a slot that the others read. No condition of its own. -/
namespace Go.Proofs.Ytbahelhohkhkmaa
open Go
section
variable {P : Program} {mk : Tmp → Option Nat} {init : List Oper} {ol : Oper} {a0 : Act} {R : World → World → Prop} {V : Nat → World → Value → Prop} {w0 : World} {Q : Exit → Act → World → Prop} {n : Nat}
theorem factsL_any (hsh : shapeB mk init n = true) (hn : a0.tmps.size = n) (hV : ∀ i w w' v, R w w' → V i w v → V i w' v) (hT : ∀ a b c, R a b → R b c → R a c)
  (hgu : ∀ (i : Nat) o, init[i]? = some o → o.guard = none) (x : Operand) (hol : ol.op = .assign x) (hgl : ol.guard = none)
  (hla : ∀ i, i < init.length → afterB ol i = true ∨ ∃ (j : Nat) (oj : Oper), (init ++ [ol])[j]? = some oj ∧ afterB ol j = true ∧ afterB oj i = true)
  (hlb : ∀ e ∈ ol.after, Region.binds .any e = true → e.on < init.length)
  (hG : ∀ i o, init[i]? = some o → Good P mk a0 R V w0 i o)
  (hQ : ∀ a w (listed : Array Bool), (∀ i, i < init.length → listed.getD i false = true) → Inv init a0 R V w0 listed a w → Q .normal (a.put ol.dst (a.eval x)) w) :
  ∀ (fuel : Nat) (listed : Array Bool) (a : Act) (w : World), listed.size = init.length + 1 → listed.countP (· == false) ≤ fuel → listed.getD init.length true = false →
   (∀ (j : Nat) oj, (init ++ [ol])[j]? = some oj → listed.getD j false = true → ∀ e ∈ oj.after, Region.binds .any e = true → listed.getD e.on false = true) → Inv init a0 R V w0 listed a w → wpAny P .any (init ++ [ol]).toArray Q fuel listed a w := by
 have lt_of : ∀ {listed : Array Bool} {i : Nat}, listed.getD i true = false → i < listed.size := fun {listed i} h => by
  rcases Nat.lt_or_ge i listed.size with h' | h'
  ·
   exact h'
  ·
   simp [Array.getElem?_eq_none h'] at h
 have some_ready : ∀ (listed : Array Bool), listed.size = init.length + 1 → listed.getD init.length true = false → Region.ready .any (init ++ [ol]).toArray listed ≠ [] := by
  intro listed hs hl hr
  have key : ∀ i, i < init.length → listed.getD i false = true := by
   intro i
   induction i using Nat.strongRecOn with
   | _ i ih =>
    intro hi
    cases hb : listed.getD i false with
    | true => rfl
    | false =>
     exfalso
     have ho : init[i]? = some init[i] := by simp [hi]
     have : i ∈ Region.ready .any (init ++ [ol]).toArray listed := by
      rw [mem_ready]
      refine ⟨by simpa [hs, show i < init.length + 1 by omega] using hb, init[i], by simp [List.getElem?_append_left hi, hi], fun e he hbi => ?_⟩
      have hsp := shape_spec hsh ho
      simp only [shapeOneB, Bool.and_eq_true] at hsp
      have h5 := Array.all_eq_true_iff_forall_mem.1 hsp.2 e he
      simp [hbi] at h5
      exact ih e.on h5 (by omega)
     rw [hr] at this
     cases this
  have : init.length ∈ Region.ready .any (init ++ [ol]).toArray listed := by
   rw [mem_ready]
   exact ⟨hl, ol, by simp, fun e he hb => key _ (hlb e he hb)⟩
  rw [hr] at this
  cases this
 intro fuel
 induction fuel with
 | zero =>
  intro listed a w hs hc hl hcl hI
  exfalso
  have hlt := lt_of hl
  have h1 : listed.countP (· == false) = 0 := by omega
  rw [Array.countP_eq_zero] at h1
  have h2 : listed[init.length] = false := by simpa [hlt] using hl
  have := h1 listed[init.length] (Array.getElem_mem hlt)
  simp [h2] at this
 | succ fuel ih =>
  intro listed a w hs hc hl hcl hI
  refine ⟨fun hr => absurd hr (some_ready listed hs hl), fun i hi => ?_⟩
  obtain ⟨hli, o, ho', hall⟩ := mem_ready.1 hi
  have hoA : (init ++ [ol])[i]? = some o := by simpa using ho'
  unfold wpOp
  simp only [ho']
  by_cases hil : i = init.length
  ·
   subst hil
   have : o = ol := by simpa using hoA.symm
   subst this
   have hothers : ∀ j, j < init.length → listed.getD j false = true := fun j hj => by
    rcases hla j hj with h1 | ⟨j2, oj, hoj, h1, h2⟩
    ·
     obtain ⟨e, he, hb, rfl⟩ := after_spec h1
     exact hall e he hb
    ·
     obtain ⟨e, he, hb, rfl⟩ := after_spec h1
     obtain ⟨e2, he2, hb2, rfl⟩ := after_spec h2
     exact hcl e.on oj hoj (hall e he hb) e2 he2 hb2
   simp only [Region.wanted, hgl, if_true]
   refine .inl (give_wp (K := fun v w' => v = a.eval x ∧ w' = w) (give_move (.inr hol) ⟨rfl, rfl⟩) fun v w' ⟨hv, hw⟩ => ?_)
   subst hv hw
   have hq : Q .normal (a.put o.dst (a.eval x)) w' := hQ a w' listed hothers hI
   have hnil : Region.ready .any (init ++ [o]).toArray (listed.setIfInBounds init.length true) = [] := by
    cases hr : Region.ready .any (init ++ [o]).toArray (listed.setIfInBounds init.length true) with
    | nil => rfl
    | cons j js =>
     exfalso
     have hj : j ∈ Region.ready .any (init ++ [o]).toArray (listed.setIfInBounds init.length true) := by rw [hr]; simp
     have h0 := (mem_ready.1 hj).1
     have hlt := lt_of h0
     simp [hs] at hlt
     by_cases e : j = init.length
     ·
      subst e; simp [hs] at h0
     ·
      have := hothers j (by omega)
      rw [getD_set_ne true (Ne.symm e)] at h0
      simp [hs, hlt] at this h0
      rw [this] at h0; cases h0
   cases fuel with
   | zero => exact ⟨hnil, hq⟩
   | succ f => exact ⟨fun _ => hq, fun j hj => by rw [hnil] at hj; cases hj⟩
  ·
   have hil' : i < init.length := by
    rcases Nat.lt_or_ge i (init.length + 1) with h | h
    ·
     omega
    ·
     rw [List.getElem?_eq_none (by simp; omega)] at hoA; cases hoA
   have ho : init[i]? = some o := by rwa [List.getElem?_append_left hil'] at hoA
   have hg := hG i o ho a.eval w hI.rel (factsOf_mk (hI.facts hsh ho hall))
   have hgd := hgu i o ho
   have next : ∀ v w', R w w' ∧ V i w' v → wpAny P .any (init ++ [ol]).toArray Q fuel (listed.setIfInBounds i true) (a.put o.dst v) w' := fun v w' ⟨h1, h2⟩ => by
    refine ih _ _ _ (by simp [hs]) (count_set hli hc) (by rw [getD_set_ne true hil]; exact hl) ?_ (hI.put hsh hn hV hT ho hli h1 h2)
    intro j oj hoj hlj e he hb
    have keep : ∀ x, listed.getD x false = true → (listed.setIfInBounds i true).getD x false = true := fun x hx => by
     by_cases e' : i = x
     ·
      subst e'; exact absurd (getD_false2 hli) (by rw [hx]; simp)
     ·
      rw [getD_set_ne false e']; exact hx
    by_cases e' : i = j
    ·
     subst e'
     rw [hoA] at hoj; cases hoj
     exact keep _ (hall e he hb)
    ·
     rw [getD_set_ne false e'] at hlj
     exact keep _ (hcl j oj hoj hlj e he hb)
   simp only [hgd] at hg
   simp only [Region.wanted, hgd, if_true]
   exact .inl (give_wp hg next)
end
/-- THE LAW. -/
theorem wp_region_factsL {P : Program} {ops : List Oper} {a0 : Act} {Q : Exit → Act → World → Prop} {id : Nat} {w : World} (mk : Tmp → Option Nat) (n : Nat) (R : World → World → Prop) (Vs : List Fact) (hne : ops ≠ []) (t : Tmp) (jx d : Nat) (hx : (ops.getLast hne).op = .assign (.tmp t)) (hd : (ops.getLast hne).dst = some d) (hj : (ops.dropLast[jx]?).map (·.dst) = some (some t))
  (hlen : Vs.length = ops.dropLast.length) (hm : P.follows .mixedOrders = true) (hsh : shapeB mk ops.dropLast n = true) (hn : a0.tmps.size = n) (hL : stageLB ops = true)
  (hRf : ∀ w, R w w) (hT : ∀ a b c, R a b → R b c → R a c) (hK : KeepAll R Vs) (hG : GoodAll P mk a0 R (at_ Vs) w.drew 0 ops.dropLast)
  (hQ : ∀ (vs : Nat → Value) (w' : World) (a' : Act), R w.drew w' → HoldAll w' vs 0 Vs → a' = (putAll vs ops.dropLast 0 a0).put (some d) (vs jx) → Q .normal a' w') :
  (Code.region id ops.toArray true).wp P Q a0 w := by
 have e : ops.dropLast ++ [ops.getLast hne] = ops := List.dropLast_concat_getLast hne
 generalize ops.getLast hne = ol at *
 generalize ops.dropLast = init at *
 subst e
 refine wp_region_any hm ?_
 unfold stageLB at hL
 rw [show (init ++ [ol]).length - 1 = init.length by simp, show (init ++ [ol])[init.length]? = some ol by simp] at hL
 simp only [Bool.and_eq_true, List.all_eq_true, List.mem_range, Option.isNone_iff_eq_none, decide_eq_true_eq, List.dropLast_concat] at hL
 obtain ⟨⟨⟨⟨_, h2⟩, h3⟩, h4⟩, h5⟩ := hL
 have h := factsL_any (P := P) (init := init) (ol := ol) (a0 := a0) (R := R) (V := at_ Vs) (w0 := w.drew) (Q := Q) (n := n) hsh hn hK.at hT
  (fun i o hi => h3 o (List.mem_of_getElem? hi)) (.tmp t) hx h2
  (fun i hi => by
   have := h5 i hi
   rw [Bool.or_eq_true] at this
   rcases this with h | h
   ·
    exact .inl h
   ·
    obtain ⟨j, hj, h2⟩ := List.any_eq_true.1 h
    cases hoj : (init ++ [ol])[j]? with
    | none => rw [hoj] at h2; cases h2
    | some oj =>
     rw [hoj] at h2
     simp only [Bool.and_eq_true] at h2
     exact .inr ⟨j, oj, hoj, h2.1, h2.2⟩)
  (fun e he hb => by
   have := Array.all_eq_true_iff_forall_mem.1 h4 e he
   simpa [hb] using this)
  (fun i o hi => by
   have := hG.at i o hi
   rwa [Nat.zero_add] at this)
  (fun a w' listed hlist hB => by
   have hB' : Inv init a0 (fun _ _ => True) (at_ Vs) w.drew (Array.replicate init.length true) a w' := by
    refine ⟨trivial, hB.defers, hB.size, fun t ht => ?_, fun i o hi _ => ?_⟩
    ·
     refine hB.rest t fun i o hi hd => ?_
     have := ht i o hi hd
     have hlt : i < init.length := by
      rcases Nat.lt_or_ge i init.length with h' | h'
      ·
       exact h'
      ·
       simp [List.getElem?_eq_none h'] at hi
     simp [hlt] at this
    ·
     have hlt : i < init.length := by
      rcases Nat.lt_or_ge i init.length with h' | h'
      ·
       exact h'
      ·
       simp [List.getElem?_eq_none h'] at hi
     exact hB.done i o hi (hlist i hlt)
   obtain ⟨vs, rfl, hv⟩ := hB'.whole hsh hn
   obtain ⟨oj, hoj, hdj⟩ := Option.map_eq_some_iff.1 hj
   have hs := shape_spec hsh hoj
   simp only [shapeOneB, hdj, Bool.and_eq_true, decide_eq_true_eq] at hs
   have he : (putAll vs init 0 a0).eval (.tmp t) = vs jx := by
    have := putAll_at vs t init 0 a0 jx oj hoj hdj (by rw [hn]; exact hs.1.2.2) (fun k' o' hk' hd' => shape_dst hsh hk' hoj hd' hdj)
    rw [Nat.zero_add] at this
    simp [Act.eval, this]
   rw [hd, he]
   exact hQ vs w' _ hB.rel (HoldAll.mk fun i hi => by rw [Nat.zero_add]; exact hv i (by omega)) rfl)
  (init ++ [ol]).length (Array.replicate (init ++ [ol]).length false) a0 w.drew (by simp) (by
   have := Array.countP_le_size (p := (· == false)) (xs := Array.replicate (init ++ [ol]).length false)
   simpa using this) (by simp) (fun j oj hoj hl => by
    exfalso
    by_cases h : j < (init ++ [ol]).length
    ·
     rw [Array.getD_eq_getD_getElem?, Array.getElem?_replicate, if_pos h] at hl; cases hl
    ·
     rw [Array.getD_eq_getD_getElem?, Array.getElem?_replicate, if_neg h] at hl; cases hl)
  ⟨hRf _, rfl, rfl, fun _ _ => rfl, fun i o hi hl => by
    exfalso
    by_cases h : i < (init ++ [ol]).length
    ·
     rw [Array.getD_eq_getD_getElem?, Array.getElem?_replicate, if_pos h] at hl; cases hl
    ·
     rw [Array.getD_eq_getD_getElem?, Array.getElem?_replicate, if_neg h] at hl; cases hl⟩
 simpa using h
end Go.Proofs.Ytbahelhohkhkmaa
/- A relation under which an own block of bytes may get more behind, step by step; the document's numbers. No condition of its own. -/
namespace Go.Proofs.Ytbahelhohkhkmaa
namespace Tlv
open Go Go.RowKit
set_option maxRecDepth 100000
/-- Memory grows; a block of bytes of the own that begins with K may get more of F behind it. -/
structure Gr (B : Nat) (K F : List Nat) (a b : World) : Prop where
 os : b.os = a.os
 tape : b.tape = a.tape
 output : b.output = a.output
 size : a.heap.size ≤ b.heap.size
 block : ∀ g, g < a.heap.size → b.heap[g]? = a.heap[g]? ∨ (B ≤ g ∧ ∃ C C' : Array Value, a.heap[g]? = some (.cells C 5 (0, 0)) ∧ b.heap[g]? = some (.cells C' 5 (0, 0)) ∧ C'.size = C.size ∧ C.toList.take K.length = cellsB K ∧ ∀ l, l <+: F → C.toList.take l.length = cellsB l → C'.toList.take l.length = cellsB l)
theorem Gr.refl {B : Nat} {K F : List Nat} (w : World) : Gr B K F w w := ⟨rfl, rfl, rfl, Nat.le_refl _, fun _ _ => .inl rfl⟩
theorem Gr.trans {B : Nat} {K F : List Nat} {a b c : World} (h : Gr B K F a b) (k : Gr B K F b c) : Gr B K F a c := by
 refine ⟨k.os.trans h.os, k.tape.trans h.tape, k.output.trans h.output, Nat.le_trans h.size k.size, fun g hg => ?_⟩
 rcases h.block g hg with e1 | ⟨hB, C, C', a1, a2, a3, a4, a5⟩
 ·
  rcases k.block g (Nat.lt_of_lt_of_le hg h.size) with e2 | ⟨hB, D, D', b1, b2, b3, b4, b5⟩
  ·
   exact .inl (e2.trans e1)
  ·
   exact .inr ⟨hB, D, D', by rw [← e1]; exact b1, b2, b3, b4, b5⟩
 ·
  rcases k.block g (Nat.lt_of_lt_of_le hg h.size) with e2 | ⟨_, D, D', b1, b2, b3, b4, b5⟩
  ·
   exact .inr ⟨hB, C, C', a1, e2.trans a2, a3, a4, a5⟩
  ·
   rw [a2] at b1
   simp only [Option.some.injEq, Obj.cells.injEq, and_true] at b1
   subst b1
   exact .inr ⟨hB, C, D', a1, b2, b3.trans a3, a4, fun l hl ht => b5 l hl (a5 l hl ht)⟩
theorem Gr.of_ext {B : Nat} {K F : List Nat} {a b : World} (h : Ext a b) : Gr B K F a b := ⟨h.os, h.tape, h.output, h.size, fun g hg => .inl (h.block g hg)⟩
theorem Gr.extO {B : Nat} {K F : List Nat} {w a b : World} (h : Gr B K F a b) (he : Ext w a) (hB : w.heap.size ≤ B) : Ext w b :=
 ⟨h.os.trans he.os, h.tape.trans he.tape, h.output.trans he.output, Nat.le_trans he.size h.size, fun g hg => by
  rcases h.block g (Nat.lt_of_lt_of_le hg he.size) with e | ⟨hb, _⟩
  ·
   exact e.trans (he.block g hg)
  ·
   omega⟩
theorem Gr.blk {B : Nat} {K F : List Nat} {a b : World} (h : Gr B K F a b) {g t : Nat} {C : Array Value} (hb : Blk a g C t) (ht : t ≠ 5) : Blk b g C t := by
 rcases h.block g hb.lt with e | ⟨_, D, D', a1, _⟩
 ·
  exact e.trans hb
 ·
  have : some (Obj.cells C t (0, 0)) = some (.cells D 5 (0, 0)) := hb.symm.trans a1
  simp only [Option.some.injEq, Obj.cells.injEq] at this
  exact absurd this.2.1 ht
theorem Gr.ob {B : Nat} {K F : List Nat} {a b : World} (ht : Gr B K F a b) {v : Value} {l : List Nat} (h : OB a B v l) (hp : l <+: F) : OB b B v l := by
 refine ⟨⟨⟨h.own.1.1, ?_⟩, h.own.2⟩, h.all⟩
 rcases h.own.1.2 with h0 | ⟨g, cap, cur, rfl, hb, hg, hnc, hcm, hcs, htk⟩
 ·
  exact .inl h0
 ·
  rcases ht.block g (Array.getElem?_eq_some_iff.1 hg).1 with e | ⟨_, C, C', a1, a2, a3, a4, a5⟩
  ·
   exact .inr ⟨g, cap, cur, rfl, hb, e.trans hg, hnc, hcm, hcs, htk⟩
  ·
   rw [hg] at a1
   simp only [Option.some.injEq, Obj.cells.injEq, and_true] at a1
   subst a1
   refine .inr ⟨g, cap, C', rfl, hb, a2, hnc, hcm, a3.trans hcs, ?_⟩
   rw [Nat.mul_one, ci_len, ci_cells] at htk ⊢
   exact a5 l hp htk
theorem Gr.obK {B : Nat} {K F : List Nat} {a b : World} (ht : Gr B K F a b) (hKF : K <+: F) {v : Value} {l : List Nat} (h : OB a B v l) (hl : l.length ≤ K.length) : OB b B v l := by
 refine ⟨⟨⟨h.own.1.1, ?_⟩, h.own.2⟩, h.all⟩
 rcases h.own.1.2 with h0 | ⟨g, cap, cur, rfl, hb, hg, hnc, hcm, hcs, htk⟩
 ·
  exact .inl h0
 ·
  rcases ht.block g (Array.getElem?_eq_some_iff.1 hg).1 with e | ⟨_, C, C', a1, a2, a3, a4, a5⟩
  ·
   exact .inr ⟨g, cap, cur, rfl, hb, e.trans hg, hnc, hcm, hcs, htk⟩
  ·
   rw [hg] at a1
   simp only [Option.some.injEq, Obj.cells.injEq, and_true] at a1
   subst a1
   refine .inr ⟨g, cap, C', rfl, hb, a2, hnc, hcm, a3.trans hcs, ?_⟩
   rw [Nat.mul_one, ci_len, ci_cells] at htk ⊢
   have hpre : l <+: K := by
    have h1 := congrArg (List.take l.length) a4
    rw [List.take_take, Nat.min_eq_left hl, htk] at h1
    have h2 : cellsB l = cellsB (K.take l.length) := by rw [h1]; simp [cellsB]
    rw [cellsB_inj h2]
    exact List.take_prefix _ _
   exact a5 l (hpre.trans hKF) htk
theorem cells_app (l m : List Nat) : cellsB l ++ cellsB m = cellsB (l ++ m) := by simp [cellsB]
theorem cells_len (l : List Nat) : (cellsB l).length = l.length := by simp [cellsB]
/-- append, to the block: one step. -/
theorem run_appG (w : World) (base ty : Nat) (v x : Value) (l z K F : List Nat) (hv : OB w base v l) (hx : BytesAt w x z) (hlen : l.length + z.length ≤ 1000000) (hbase : base ≤ w.heap.size) (hK : K <+: l) (hF : l ++ z <+: F) :
  ∃ ad cap w', (Builtin.append_ #[24, 24] ty #[v, x]).run Try.prog w = .ok (.slice ad (l ++ z).length cap) w' ∧ OB w' base (.slice ad (l ++ z).length cap) (l ++ z) ∧ Gr base K F w w' := by
 rcases hv.own.1.2 with ⟨rfl, h0⟩ | ⟨g, cap, cur, rfl, hb, hg, hnc, hcm, hcs, htk⟩
 ·
  obtain ⟨ad, cap, w', hr, h1, h2, _⟩ := run_appB w base ty _ x l z hv hx hlen hbase
  exact ⟨ad, cap, w', hr, h1, Gr.of_ext (keep_none h2)⟩
 ·
  obtain ⟨i, hi, hz, hs, hby⟩ := numT8.ex
  have hall := hv.all.app hx.1
  obtain ⟨hx1, hx2, ⟨rfl, rfl⟩ | ⟨ad, c, rfl, _, _, hc⟩⟩ := hx
  ·
   have hr := run_append_owned_none (P := Try.prog) w base 24 ty 5 i 1 numT8.ut hi _ _ _ hv.own.1
   rw [List.append_nil]
   rw [ci_len] at hr hv ⊢
   exact ⟨_, _, w, hr, hv, Gr.refl _⟩
  ·
   have hnews : ∀ j u, (cellsB z)[j]? = some u → w.cell? (ad.add j) = some u := fun j u hu => by
    obtain ⟨hj, rfl⟩ := cellsB_get hu
    exact hc j hj
   have e1 : (ci l).length = l.length := ci_len l
   have e2 : (ci l).map (Value.int .u8) = cellsB l := ci_cells l
   have hown := hv.own.1
   rw [e1] at hown hnc htk ⊢
   rw [e2] at hown htk
   rw [Nat.mul_one] at htk hcs
   have eL : (l ++ z).length = l.length + z.length := List.length_append
   by_cases hf : l.length + z.length ≤ cap
   ·
    have hfit : l.length * i.size + (cellsB z).length ≤ cur.size := by rw [hs, Nat.mul_one, cells_len, hcs]; exact hf
    have hr := run_append_room (P := Try.prog) w 24 ty 5 i numT8.ut hi g l.length cap cur hg ad z.length c (cellsB z) (by rw [hs, Nat.mul_one, cells_len]) hnews (by simp [cellsB, Value.oneCell']) hf hfit
    rw [hs, Nat.mul_one, cells_len] at hr
    obtain ⟨cs, hcsE⟩ : ∃ cs, cs = (cur.toList.take l.length ++ cellsB z ++ cur.toList.drop (l.length + z.length)).toArray := ⟨_, rfl⟩
    rw [← hcsE] at hr
    have hcl : cs.toList = cellsB (l ++ z) ++ cur.toList.drop (l.length + z.length) := by rw [hcsE, htk, cells_app]
    have hsz : cs.size = cur.size := by
     have h1 := congrArg List.length hcl
     simp only [List.length_append, cells_len, List.length_drop, Array.length_toList] at h1
     omega
    have hnew := setRow_heap w g cur cs 5 _ hg
    have ht0 : cs.toList.take (l ++ z).length = cellsB (l ++ z) := by rw [hcl]; exact List.take_left' (cells_len _)
    refine ⟨_, _, w.setRow g cs, by rw [eL]; exact hr, ⟨⟨⟨?_, .inr ⟨g, cap, cs, by rw [ci_len], hb, hnew, ?_, hcm, ?_, ?_⟩⟩, ?_⟩, hall⟩, ⟨rfl, rfl, rfl, by simp, fun k hk => ?_⟩⟩
    ·
     rw [ci_len, List.length_map, ci_len, Nat.mul_one]
    ·
     rw [ci_len, eL]; exact hf
    ·
     rw [hsz, hcs, Nat.mul_one]
    ·
     rw [ci_len, ci_cells, Nat.mul_one]; exact ht0
    ·
     rw [ci_len]; unfold maxLen; omega
    ·
     by_cases hkg : k = g
     ·
      subst hkg
      refine .inr ⟨hb, cur, cs, hg, hnew, hsz, take_pre hK htk, fun p hp htp => ?_⟩
      by_cases hle : p.length ≤ (l ++ z).length
      ·
       exact take_pre (List.prefix_of_prefix_length_le hp hF hle) ht0
      ·
       have hpre : l ++ z <+: p := List.prefix_of_prefix_length_le hF hp (by omega)
       obtain ⟨q, rfl⟩ := hpre
       rw [hcl]
       have hd : (cur.toList.drop (l.length + z.length)).take q.length = cellsB q := by
        have h1 := congrArg (List.drop (l.length + z.length)) htp
        rw [List.drop_take, ← cells_app, List.drop_left' (by rw [cells_len, eL])] at h1
        rw [← h1]
        congr 1
        rw [List.length_append, eL]; omega
       rw [List.length_append, ← cells_app (l ++ z) q, List.take_append, cells_len, List.take_of_length_le (by rw [cells_len]; omega)]
       congr 1
       rw [show (l ++ z).length + q.length - (l ++ z).length = q.length by omega]
       exact hd
     ·
      exact .inl (setRow_other w g k cs hkg)
   ·
    obtain ⟨v', w', hr, h1, h2⟩ := run_append_arg_grows (P := Try.prog) w 24 ty 5 i (.int .u8 0) 1 1 numT8.ut hi hz hs hby rfl (by omega) ⟨g, 0, none⟩ l.length cap (cellsB l) (by simp [cellsB]) (fun j u hu => by
     rw [add_plain, Nat.zero_add, hown.cellAt j (by have := (List.getElem?_eq_some_iff.1 hu).1; simpa [cellsB] using this)]; exact hu) ad z.length c (cellsB z) (by simp [cellsB]) hnews (by omega) (by unfold maxLen; omega) (by omega)
    rw [cells_app] at h1
    have hO : OB w' base v' (l ++ z) := OB.base ⟨⟨by rw [ci_len, ci_cells, eL]; exact h1, by rw [ci_len]; unfold maxLen; omega⟩, hall⟩ hbase
    obtain ⟨a', c', rfl⟩ := hO.form
    exact ⟨a', c', w', hr, hO, Gr.of_ext (Ext.of_grown h2)⟩
theorem NumV.gr {N0 : Nat} {l K F : List Nat} {a b : World} {v : Value} (h : NumV N0 l a v) (hR : Gr N0 K F a b) (hp : l <+: F) : NumV N0 l b v := by
 obtain ⟨x, c, e, ho⟩ := h
 exact ⟨x, c, e, hR.ob ho hp⟩
theorem NumV.grK {N0 : Nat} {l K F : List Nat} {a b : World} {v : Value} (h : NumV N0 l a v) (hR : Gr N0 K F a b) (hKF : K <+: F) (hp : l.length ≤ K.length) : NumV N0 l b v := by
 obtain ⟨x, c, e, ho⟩ := h
 exact ⟨x, c, e, hR.obK hKF ho hp⟩
theorem OB.lit (w : World) (base : Nat) (l : List Nat) (hl : AllB l) (h1 : l.length ≤ 1000) (hb : base ≤ w.heap.size) : OB (w.alloc (.cells (cellsB l).toArray 5)) base (.slice (some ⟨w.heap.size, 0, none⟩) l.length l.length) l := by
 have := World.ownsRow_lit (base := base) (e := 5) (size := 1) w (cellsB l).toArray l.length hb (by unfold maxLen; omega) (by simp [cellsB])
 refine ⟨⟨?_, by rw [ci_len]; unfold maxLen; omega⟩, hl⟩
 rw [ci_len, ci_cells]
 exact this
theorem be_one {n : Nat} (h : n < 256) : be n 1 = [n] := by
 simp only [be, Nat.pow_zero, Nat.div_one]
 rw [Nat.mod_eq_of_lt h]
theorem exec_runG {r : Operand → Value} {o : Oper} {s x : Operand} (ho : o.op = .call { callee := .builtin .append, args := #[s, x], argTypes := #[24, 24] }) {w w' : World} {v u z : Value} (hs : r s = v) (hx : r x = u) (hr : (Builtin.append_ #[24, 24] o.type #[v, u]).run Try.prog w = .ok z w') : (execOp r o).run Try.prog w = .ok (.value z) w' := by
 simp only [execOp, ho, resolve, invoke, builtin, Sem.run_bind, Sem.run_pure, Result.andThen_ok, List.map_toArray, List.map_cons, List.map_nil, hs, hx, hr]
set_option maxHeartbeats 1000000 in
/-- The document's num. -/
theorem refNumI_any (N : Nat) (hN : N < 9223372036854775808) (n : Int) (w : World) :
  Calls Try.prog 36 #[.int .i64 (N : Int), .int .i64 n] w fun e w' => ∃ a m c, e = .returned (.slice a m c) ∧ m = (numB N n).length ∧ OB w' w.heap.size (.slice a m c) (numB N n) ∧ Ext w w' := by
 have w1 : IntKind.u64.wrap (N : Int) = (N : Int) := by rw [IntKind.wrap_u64]; omega
 have w2 : (N : Int) % 18446744073709551616 = (N : Int) := by omega
 go_enter Try.func36, Try.ntmps36
 go_wp2_with (first
  | (go_at_call 75; refine (refNum_any N n _).mono ?_; rintro e w3 ⟨qa, qm, qc, rfl, hqm, hqo, hqe⟩; have HQ : Hid (qm = (numB N n).length) := hqm; clear hqm))
 go_ret
 exact ⟨qa, qm, qc, rfl, HQ.out, hqo, hqe⟩
theorem numBi1 (N : Nat) : numB N 1 = be N 1 := rfl
theorem numBi2 (N : Nat) : numB N 2 = be N 2 := rfl
theorem numBi4 (N : Nat) : numB N 4 = be N 4 := rfl
set_option maxRecDepth 100000
/-- Bytes of the own, or such as stood before. -/
def ValQ (w0 w : World) (u : Value) (m : List Nat) : Prop := OB w w0.heap.size u m ∨ BytesAt w0 u m
theorem ValQ.bytes {w0 w : World} {u : Value} {m : List Nat} (h : ValQ w0 w u m) (he : Ext w0 w) : BytesAt w u m := by
 rcases h with h | h
 ·
  exact h.bytes
 ·
  exact h.ext he
theorem ValQ.form {w0 w : World} {u : Value} {m : List Nat} (h : ValQ w0 w u m) : ∃ a c, u = .slice a m.length c := by
 rcases h with h | h
 ·
  exact h.form
 ·
  obtain ⟨a, c, e, _⟩ := h.form
  exact ⟨a, c, e⟩
theorem ValQ.ext {w0 w w' : World} {u : Value} {m : List Nat} (h : ValQ w0 w u m) (he : Ext w w') : ValQ w0 w' u m := h.imp (fun h => h.ext he) id
/-- Parameters in a block of the own. -/
structure OwnQ (e : TypeId) (w0 w : World) (v : Value) (L : List Par) : Prop where
 it : ∃ M : List (Par × Value), L = M.map (·.1) ∧ w.ownsRow w0.heap.size e 2 v M.length (pc M) ∧ ∀ m ∈ M, ValQ w0 w m.2 m.1.2
theorem OwnQ.nil (e : TypeId) (w0 w : World) : OwnQ e w0 w (.slice none 0 0) [] := ⟨[], rfl, World.ownsRow_nil _ _ _ _, fun m hm => by cases hm⟩
theorem OwnQ.lt {e : TypeId} {w0 w : World} {v : Value} {L : List Par} (h : OwnQ e w0 w v L) {g : Nat} (hg : v.ownBlock = some g) : w0.heap.size ≤ g ∧ ∃ C, Blk w g C e := by
 obtain ⟨M, _, hr, _⟩ := h
 rcases hr.2 with ⟨rfl, _⟩ | ⟨g', cap, cur, rfl, hb, hgb, _⟩
 ·
  cases hg
 ·
  cases hg; exact ⟨hb, cur, hgb⟩
theorem OwnQ.ext {e : TypeId} {w0 w w' : World} {v : Value} {L : List Par} (h : OwnQ e w0 w v L) (he : Ext w w') : OwnQ e w0 w' v L := by
 obtain ⟨M, hM, hr, ho⟩ := id h.it
 exact ⟨M, hM, ownsRow_but hr (KeepBut.ext (S := fun _ => False) he) (fun _ _ h => h), fun m hm => (ho m hm).ext he⟩
theorem OwnQ.form {e : TypeId} {w0 w : World} {v : Value} {L : List Par} (h : OwnQ e w0 w v L) : ∃ a cap, v = .slice a L.length cap := by
 obtain ⟨M, rfl, hr, _⟩ := h
 rw [List.length_map]
 rcases hr.2 with ⟨rfl, h0⟩ | ⟨g, cap, cur, rfl, _⟩
 ·
  exact ⟨none, 0, by rw [h0]⟩
 ·
  exact ⟨_, _, rfl⟩
theorem OwnQ.pars {e : TypeId} {w0 w : World} {v : Value} {L : List Par} (h : OwnQ e w0 w v L) (he : Ext w0 w) : ParsAt w v L := by
 obtain ⟨M, rfl, hr, ho⟩ := h
 rcases hr.2 with ⟨rfl, h0⟩ | ⟨g, cap, cur, rfl, hb, hg, hnc, hcm, hcs, htk⟩
 ·
  have : M = [] := List.eq_nil_of_length_eq_zero h0
  subst this
  exact ⟨by simp, none, 0, rfl, fun i p hp => by simp at hp⟩
 ·
  refine ⟨by rw [List.length_map]; omega, some ⟨g, 0, none⟩, cap, by rw [List.length_map], fun i p hp => ?_⟩
  rw [List.getElem?_map] at hp
  obtain ⟨m, hm, rfl⟩ := Option.map_eq_some_iff.1 hp
  obtain ⟨h1, h2⟩ := pc_get hm
  have hi : i < M.length := (List.getElem?_eq_some_iff.1 hm).1
  have hbk : Blk w g cur e := hg
  rw [← htk, List.getElem?_take] at h1 h2
  rw [if_pos (by omega)] at h1 h2
  refine ⟨g, 0, m.2, rfl, ?_, ?_, (ho m (List.mem_of_getElem? hm)).bytes he⟩
  ·
   rw [Nat.zero_add, hbk.cell]; simpa using h1
  ·
   rw [Nat.zero_add, hbk.cell]; simpa using h2
/-- One parameter put behind. -/
theorem run_pushQ {t e : TypeId} (hT : ParT t e) (w0 w : World) (ty b : Nat) (v u : Value) (L : List Par) (k : Int) (val : List Nat) (hv : OwnQ e w0 w v L) (h0 : w.cell? ⟨b, 0, none⟩ = some (.int .i64 k)) (h1 : w.cell? ⟨b, 1, none⟩ = some u) (hu : ValQ w0 w u val) (hlen : L.length ≤ 100000) (he : Ext w0 w) :
  ∃ a c w', (Builtin.append_ #[t, t] ty #[v, .slice (some ⟨b, 0, none⟩) 1 1]).run Try.prog w = .ok (.slice a (L.length + 1) c) w' ∧ OwnQ e w0 w' (.slice a (L.length + 1) c) (L ++ [(k, val)]) ∧ KeepBut (fun q => v.ownBlock = some q) w w' ∧ Ext w0 w' := by
 obtain ⟨M, rfl, hr, ho⟩ := id hv.it
 obtain ⟨i, hi, hinf⟩ := Option.map_eq_some_iff.1 hT.info
 simp only [Prod.mk.injEq] at hinf
 obtain ⟨ua, uc, hue⟩ := hu.form
 rw [List.length_map] at hlen
 obtain ⟨v', w', hrun, g1, g2, _, g4⟩ := run_append_own_at (P := Try.prog) w w0.heap.size t ty e i _ 2 32 hT.ut hi hinf.1 hinf.2.1 hinf.2.2 rfl (by omega) v M.length (pc M) hr ⟨b, 0, none⟩ 1 1 [.int .i64 k, u] rfl
  (fun j x hx => by
   rw [add_plain, Nat.zero_add]
   match j with
   | 0 => simp at hx; subst hx; exact h0
   | 1 => simp at hx; subst hx; exact h1
   | j + 2 => simp at hx)
  (fun x hx => by
   simp at hx
   rcases hx with rfl | rfl
   ·
    rfl
   ·
    rw [hue]; rfl) (by unfold maxLen; omega) (by omega) he.size
 have hk : KeepBut (fun q => v.ownBlock = some q) w w' := KeepBut.grown g2 (fun r e => e)
 have hE : Ext w0 w' := he.of_but hk (fun q hq => (hv.lt hq).1)
 have hOB : ∀ x l, ValQ w0 w x l → ValQ w0 w' x l := fun x l hx => hx.imp (fun hx => hx.but hk (fun q hq hvq => by
  obtain ⟨_, C, hC⟩ := hv.lt hvq
  exact hx.ne hC hT.ne q hq rfl)) id
 have hL : OwnQ e w0 w' v' (M.map (·.1) ++ [(k, val)]) := ⟨M ++ [((k, val), u)], by simp, by
  rw [List.length_append, pc_app]; exact g1, fun m hm => by
  rcases List.mem_append.1 hm with hm | hm
  ·
   exact hOB _ _ (ho m hm)
  ·
   simp at hm; subst hm; exact hOB _ _ hu⟩
 obtain ⟨a, c, rfl⟩ := hL.form
 rw [List.length_append, List.length_singleton] at hL hrun g4
 exact ⟨a, c, w', hrun, hL, hk, hE⟩
theorem OwnQ.ne {e t : TypeId} {w0 w : World} {v : Value} {L : List Par} {g : Nat} {C : Array Value} (h : OwnQ e w0 w v L) (hb : Blk w g C t) (ht : t ≠ e) : v.ownBlock ≠ some g := fun hq => by
 obtain ⟨_, D, hD⟩ := h.lt hq
 unfold Blk at hb hD
 rw [hb] at hD
 simp only [Option.some.injEq, Obj.cells.injEq, and_true] at hD
 exact ht hD.2
/-- One parameter put behind: a step. -/
theorem wl_pushQ {w : World} {ops : Array Oper} {rest : List Oper} {o : Oper} {a : Act} {Q : Exit → Act → World → Prop} {t e : TypeId} (hgd : o.guard = none) {s x : Operand} (ho : o.op = .call { callee := .builtin .append, args := #[s, x], argTypes := #[t, t] }) (hT : ParT t e)
  {b : Nat} {w0 : World} {v u : Value} {L : List Par} {k : Int} {val : List Nat} (hs : a.eval s = v) (hxx : a.eval x = .slice (some ⟨b, 0, none⟩) 1 1) (hv : OwnQ e w0 w v L) (h0 : w.cell? ⟨b, 0, none⟩ = some (.int .i64 k)) (h1 : w.cell? ⟨b, 1, none⟩ = some u) (hu : ValQ w0 w u val) (hlen : L.length ≤ 100000) (he : Ext w0 w)
  (h : ∀ ad n cap w', Hid (n = L.length + 1) → OwnQ e w0 w' (.slice ad n cap) (L ++ [(k, val)]) → KeepBut (fun q => v.ownBlock = some q) w w' → Ext w0 w' → wpList Try.prog ops Q rest (a.put o.dst (.slice ad n cap)) w') : wpList Try.prog ops Q (o :: rest) a w := by
 obtain ⟨ad, cap, w', hr, g1, g2, g3⟩ := run_pushQ hT w0 w o.type b v u L k val hv h0 h1 hu hlen he
 exact wpList_of_run hgd (exec_runP ho hs hxx hr) (h ad _ cap w' rfl g1 g2 g3)
theorem OB.keepQ {e : TypeId} {w0 w w' : World} {v u : Value} {L : List Par} {l : List Nat} (h : OB w w0.heap.size u l) (hv : OwnQ e w0 w v L) (hne : e ≠ 5) (hk : KeepBut (fun q => v.ownBlock = some q) w w') : OB w' w0.heap.size u l :=
 h.but hk (fun q hq hvq => by
  obtain ⟨_, C, hC⟩ := hv.lt hvq
  exact h.ne hC hne q hq rfl)
end Tlv
end Go.Proofs.Ytbahelhohkhkmaa
/- A law on regions that keep their order, whatever their guards: one fact per operation, kept by whatever comes later; the walk need not part at a guard. No condition of its own. -/
namespace Go.Proofs.Ytbahelhohkhkmaa
open Go
/-- Which operations were met: the first k. -/
def upto (n k : Nat) : Array Bool := (List.ofFn (n := n) fun i => decide (i.val < k)).toArray
theorem upto_getD (n k i : Nat) (d : Bool) : (upto n k).getD i d = if i < n then decide (i < k) else d := by
 unfold upto
 by_cases h : i < n <;> simp [Array.getD, h]
theorem upto_all (n : Nat) : upto n n = Array.replicate n true := by
 apply Array.ext
 ·
  simp [upto]
 ·
  intro i h1 h2
  simp [upto] at h1 ⊢
  try exact h1
theorem upto_set (n k : Nat) (h : k < n) : (upto n k).setIfInBounds k true = upto n (k + 1) := by
 apply Array.ext
 ·
  simp [upto]
 ·
  intro i h1 h2
  rw [Array.getElem_setIfInBounds (by simpa using h1)]
  simp only [upto, List.getElem_toArray, List.getElem_ofFn]
  by_cases hk : k = i
  ·
   subst hk; simp
  ·
   simp only [hk, if_false]
   by_cases h3 : i < k
   ·
    simp [h3]; omega
   ·
    simp [h3]; omega
section
variable {P : Program} {mk : Tmp → Option Nat} {ops : List Oper} {a0 : Act} {R : World → World → Prop} {V : Nat → World → Value → Prop} {w0 : World} {Q : Exit → Act → World → Prop} {n : Nat}
theorem line_from (k0 : Nat) (hsh : shapeB mk ops n = true) (hn : a0.tmps.size = n) (hV : ∀ i w w' v, R w w' → V i w v → V i w' v) (hT : ∀ a b c, R a b → R b c → R a c) (hRf : ∀ w, R w w)
  (hG : ∀ i o, k0 ≤ i → ops[i]? = some o → Good P mk a0 R V w0 i o)
  (hQ : ∀ a w, Inv ops a0 R V w0 (Array.replicate ops.length true) a w → Q .normal a w) :
  ∀ (l : List Oper) (k : Nat) (a : Act) (w : World), k0 ≤ k → ops.drop k = l → Inv ops a0 R V w0 (upto ops.length k) a w → wpList P ops.toArray Q l a w := by
 intro l
 induction l with
 | nil =>
  intro k a w hk0 hl hI
  have hk : ops.length ≤ k := by simpa using hl
  refine hQ a w ?_
  rw [← upto_all]
  have : upto ops.length k = upto ops.length ops.length := by
   apply Array.ext
   ·
    simp [upto]
   ·
    intro i h1 h2
    simp [upto] at h1 ⊢
    omega
  rw [← this]; exact hI
 | cons o rest ih =>
  intro k a w hk0 hl hI
  have hk : k < ops.length := by
   rcases Nat.lt_or_ge k ops.length with h | h
   ·
    exact h
   ·
    rw [List.drop_eq_nil_of_le h] at hl; cases hl
  have ho : ops[k]? = some o := by
   have := congrArg (fun l => l[0]?) hl
   simpa [List.getElem?_drop] using this
  have hrest : ops.drop (k + 1) = rest := by
   rw [← List.drop_drop, hl]; rfl
  have hgl : (upto ops.length k).getD k true = false := by rw [upto_getD]; simp [hk]
  have hsp := shape_spec hsh ho
  simp only [shapeOneB, Bool.and_eq_true] at hsp
  have hall : ∀ e ∈ o.after, Region.binds .any e = true → (upto ops.length k).getD e.on false = true := by
   intro e he hb
   have h5 := Array.all_eq_true_iff_forall_mem.1 hsp.2 e he
   simp [hb] at h5
   rw [upto_getD]; simp [h5]; omega
  have hg := hG k o hk0 ho a.eval w hI.rel (factsOf_mk (hI.facts hsh ho hall))
  have next : ∀ v w', R w w' ∧ V k w' v → wpList P ops.toArray Q rest (a.put o.dst v) w' := fun v w' ⟨h1, h2⟩ =>
   ih (k + 1) _ _ (by omega) hrest (by rw [← upto_set _ _ hk]; exact hI.put hsh hn hV hT ho hgl h1 h2)
  unfold wpList
  cases hgd : o.guard with
  | none =>
   simp only [hgd] at hg
   simp only [Region.wanted, hgd, if_true]
   exact .inl (give_wp hg next)
  | some gw =>
   obtain ⟨g, want⟩ := gw
   simp only [hgd] at hg
   simp only [hgd, Bool.and_eq_true] at hsp
   obtain ⟨e, he, hb, rfl⟩ := after_spec hsp.1.1.2.1
   obtain ⟨d, hd⟩ := Option.isSome_iff_exists.1 hsp.1.1.2.2
   obtain ⟨og, hog, hdg⟩ := Option.bind_eq_some_iff.1 hd
   obtain ⟨v, h3, h4⟩ := hI.done e.on og hog (hall e he hb)
   have hv := h3 d hdg
   have hy : yielded ops.toArray a.tmps e.on = asBool v := by
    unfold yielded
    simp only [List.getElem?_toArray, hog, Option.bind_some, hdg, hv]
    cases v <;> rfl
   have := hg v h4
   simp only [Region.wanted, hgd, hy]
   split
   ·
    rename_i hw
    rw [if_pos hw] at this
    exact .inl (give_wp this next)
   ·
    rename_i hw
    rw [if_neg hw] at this
    exact next _ _ ⟨hRf w, this⟩
end
/-- THE LAW: a region in its order, one fact an operation. -/
theorem wp_line {P : Program} {ops : List Oper} {a0 : Act} {Q : Exit → Act → World → Prop} {id : Nat} {w : World} (mk : Tmp → Option Nat) (n : Nat) (R : World → World → Prop) (Vs : List Fact) (hlen : Vs.length = ops.length)
  (hsh : shapeB mk ops n = true) (hn : a0.tmps.size = n)
  (hRf : ∀ w, R w w) (hT : ∀ a b c, R a b → R b c → R a c) (hK : KeepAll R Vs) (hG : GoodAll P mk a0 R (at_ Vs) w 0 ops)
  (hQ : ∀ (vs : Nat → Value) (w' : World) (a' : Act), R w w' → HoldAll w' vs 0 Vs → a' = putAll vs ops 0 a0 → Q .normal a' w') :
  (Code.region id ops.toArray false).wp P Q a0 w := by
 refine wp_region_lit ?_
 refine line_from (P := P) (mk := mk) (R := R) (V := at_ Vs) (w0 := w) (n := n) 0 hsh hn hK.at hT hRf (fun i o _ ho => by have := hG.at i o ho; rwa [Nat.zero_add] at this) ?_ ops 0 a0 w (Nat.le_refl _) (by simp) ?_
 ·
  intro a w' hI
  obtain ⟨vs, rfl, h⟩ := hI.whole hsh hn
  exact hQ vs w' _ hI.rel (HoldAll.mk fun i hi => by rw [Nat.zero_add]; exact h i (by omega)) rfl
 ·
  exact ⟨hRf _, rfl, rfl, fun _ _ => rfl, fun i o hi hl => by
   exfalso
   rw [upto_getD] at hl
   by_cases h : i < ops.length <;> simp [h] at hl⟩
/-- The same from the middle of a region on: what the first k operations left lies in its slots. -/
theorem wpList_line {P : Program} {ops : List Oper} {a0 : Act} {Q : Exit → Act → World → Prop} {w : World} (k : Nat) (mk : Tmp → Option Nat) (n : Nat) (R : World → World → Prop) (Vs : List Fact) (hlen : Vs.length = ops.length)
  (hsh : shapeB mk ops n = true) (hn : a0.tmps.size = n)
  (hRf : ∀ w, R w w) (hT : ∀ a b c, R a b → R b c → R a c) (hK : KeepAll R Vs)
  (hd : ∀ i o, i < k → ops[i]? = some o → ∃ v, (∀ d, o.dst = some d → a0.tmps[d]? = some v) ∧ at_ Vs i w v)
  (hG : ∀ i o, k ≤ i → ops[i]? = some o → Good P mk a0 R (at_ Vs) w i o)
  (hQ : ∀ (vs : Nat → Value) (w' : World) (a' : Act), R w w' → HoldAll w' vs 0 Vs → a' = putAll vs ops 0 a0 → Q .normal a' w') :
  wpList P ops.toArray Q (ops.drop k) a0 w := by
 have hG' : ∀ (l : List Oper) (k' : Nat) (a : Act) (w' : World), k ≤ k' → ops.drop k' = l → Inv ops a0 R (at_ Vs) w (upto ops.length k') a w' → wpList P ops.toArray Q l a w' := by
  intro l k' a w' hk hl hI
  refine line_from (P := P) (mk := mk) (R := R) (V := at_ Vs) (w0 := w) (n := n) k hsh hn hK.at hT hRf hG ?_ l k' a w' hk hl hI
  intro a w' hI
  obtain ⟨vs, rfl, h⟩ := hI.whole hsh hn
  exact hQ vs w' _ hI.rel (HoldAll.mk fun i hi => by rw [Nat.zero_add]; exact h i (by omega)) rfl
 refine hG' _ k a0 w (Nat.le_refl _) rfl ⟨hRf _, rfl, rfl, fun _ _ => rfl, fun i o hi hl => ?_⟩
 rw [upto_getD] at hl
 have hik : i < k := by
  by_cases h : i < ops.length <;> simp [h] at hl
  exact hl
 exact hd i o hik hi
/-! ### One operation under a guard that is not decided -/
section
variable {P : Program} {K : Value → World → Prop} {r : Operand → Value} {w : World} {o : Oper}
end
/-- A fact under a guard. -/
def Under (C : Bool) (v : Value) : Fact := fun _ x => x = if C = true then v else undef
theorem Ku {R : World → World → Prop} {C : Bool} {c : Value} {l : List Fact} (h : KeepAll R l) : KeepAll R (Under C c :: l) := ⟨fun _ _ _ _ h => h, h⟩
theorem Under.no {C : Bool} {v : Value} {w : World} (h : C = false) : Under C v w undef := (if_neg (by rw [h]; decide)).symm
theorem uy {C : Bool} {v : Value} (h : C = true) : v = if C = true then v else undef := (if_pos h).symm
theorem un_ {C : Bool} {v : Value} (h : C = false) : undef = if C = true then v else undef := (if_neg (by rw [h]; decide)).symm
theorem Under.get {C : Bool} {v x : Value} {w : World} (h : Under C v w x) (hc : C = true) : x = v := h.trans (if_pos hc)
theorem guard_u {p q : Prop} {gb : Value} {b want C : Bool} (h : gb = .bool b) (hC : C = (b == want)) (h1 : C = true → p) (h2 : C = false → q) : if asBool gb == some want then p else q := by
 subst h
 cases hb : (b == want) with
 | true => rw [if_pos (by simpa [asBool] using hb)]; exact h1 (hC.trans hb)
 | false => rw [if_neg (by simpa [asBool] using hb)]; exact h2 (hC.trans hb)
theorem guard_n {p q : Prop} {gb : Value} {w : World} {C0 b want C : Bool} (h : Under C0 (.bool b) w gb) (hC : C = (C0 && (b == want))) (h1 : C = true → p) (h2 : C = false → q) : if asBool gb == some want then p else q := by
 cases hc : C0 with
 | true => exact guard_u (h.get hc) (hC.trans (by rw [hc, Bool.true_and])) h1 h2
 | false =>
  have : gb = undef := h.trans (if_neg (by rw [hc]; decide))
  subst this
  rw [if_neg (by simp [asBool, undef])]
  exact h2 (hC.trans (by rw [hc]; rfl))
theorem want_t (b : Bool) : b = (b == true) := by cases b <;> rfl
theorem want_f (b : Bool) : (!b) = (b == false) := by cases b <;> rfl
theorem goodFrom {P : Program} {mk : Tmp → Option Nat} {a0 : Act} {R : World → World → Prop} {V : Nat → Fact} {w0 : World} {ops : List Oper} (k : Nat) (h : GoodAll P mk a0 R V w0 k (ops.drop k)) : ∀ i o, k ≤ i → ops[i]? = some o → Good P mk a0 R V w0 i o := by
 intro i o hk ho
 have := h.at (i - k) o (by rw [List.getElem?_drop, show k + (i - k) = i by omega]; exact ho)
 rwa [show k + (i - k) = i by omega] at this
/-- The walk stands still here. -/
structure Stop (p : Prop) : Prop where
 go : p
theorem stop_at {P : Program} {ops : Array Oper} {Q : Exit → Act → World → Prop} {l : List Oper} {a : Act} {w : World} (n : Nat) (h : l.length = n) (s : Stop (wpList P ops Q l a w)) : wpList P ops Q l a w := s.go
end Go.Proofs.Ytbahelhohkhkmaa
/- Small answers of chunk: bounds, kinds, flags. No condition of its own. -/
namespace Go.Proofs.Ytbahelhohkhkmaa
namespace Tlv
open Go Go.RowKit
set_option maxRecDepth 100000
def inB (n lo hi : Int) : Bool := decide (lo ≤ n) && decide (n ≤ hi)
theorem inB_iff (n lo hi : Int) : inB n lo hi = true ↔ lo ≤ n ∧ n ≤ hi := by simp [inB]
theorem within_any (n lo hi : Int) (w : World) : Calls Try.prog 69 #[.int .i64 n, .int .i64 lo, .int .i64 hi] w fun e w' => e = .returned (.bool (inB n lo hi)) ∧ Ext w w' := by
 unfold inB
 by_cases h1 : lo ≤ n
 ·
  have d1 : decide (n ≥ lo) = true := decide_eq_true h1
  have d1' : decide (lo ≤ n) = true := decide_eq_true h1
  rw [d1']
  go_enter Try.func69, Try.ntmps69
  go_wp2
  go_ret
  exact ⟨by simp, Ext.refl _⟩
 ·
  have d1 : decide (n ≥ lo) = false := decide_eq_false h1
  have d1' : decide (lo ≤ n) = false := decide_eq_false h1
  rw [d1']
  go_enter Try.func69, Try.ntmps69
  go_wp2
  go_ret
  exact ⟨by simp, Ext.refl _⟩
def adB (a : Int) : Bool := inB a 1 2147483647
theorem isAddr_any (a : Int) (w : World) : Calls Try.prog 94 #[.int .i64 a] w fun e w' => e = .returned (.bool (adB a)) ∧ Ext w w' := by
 go_enter Try.func94, Try.ntmps94
 go_wp2_with (first | (go_at_call 69; refine (within_any _ _ _ _).mono ?_; rintro e w1 ⟨rfl, he1⟩))
 go_ret
 exact ⟨rfl, he1⟩
def opK (k : Int) : Bool := decide (k = 1) || (decide (k = 2) || decide (k = 4))
theorem isOp_any (k : Int) (w : World) : Calls Try.prog 93 #[.int .i64 k] w fun e w' => e = .returned (.bool (opK k)) ∧ Ext w w' := by
 by_cases h1 : k = 1
 ·
  subst h1
  go_enter Try.func93, Try.ntmps93
  go_wp2
  go_ret
  exact ⟨rfl, Ext.refl _⟩
 by_cases h2 : k = 2
 ·
  subst h2
  go_enter Try.func93, Try.ntmps93
  go_wp2
  go_ret
  exact ⟨rfl, Ext.refl _⟩
 by_cases h3 : k = 4
 ·
  subst h3
  go_enter Try.func93, Try.ntmps93
  go_wp2
  go_ret
  exact ⟨rfl, Ext.refl _⟩
 have d1 : (k == 1) = false := beq_false_of_ne h1
 have d2 : (k == 2) = false := beq_false_of_ne h2
 have d3 : (k == 4) = false := beq_false_of_ne h3
 go_enter Try.func93, Try.ntmps93
 go_wp2
 go_ret
 exact ⟨by simp [opK, h1, h2, h3], Ext.refl _⟩
/-- The kinds that there are. -/
def kinds : List Int := [0, 1, 2, 3, 4, 5, 6, 7, 8, 9, 10, 11, 14, 15, 128, 193]
def knB (k : Int) : Bool := kinds.contains k
theorem kn_cases (k : Int) : k = 0 ∨ k = 1 ∨ k = 2 ∨ k = 3 ∨ k = 4 ∨ k = 5 ∨ k = 6 ∨ k = 7 ∨ k = 8 ∨ k = 9 ∨ k = 10 ∨ k = 11 ∨ k = 14 ∨ k = 15 ∨ k = 128 ∨ k = 193 ∨ (k ≠ 0 ∧ k ≠ 1 ∧ k ≠ 2 ∧ k ≠ 3 ∧ k ≠ 4 ∧ k ≠ 5 ∧ k ≠ 6 ∧ k ≠ 7 ∧ k ≠ 8 ∧ k ≠ 9 ∧ k ≠ 10 ∧ k ≠ 11 ∧ k ≠ 14 ∧ k ≠ 15 ∧ k ≠ 128 ∧ k ≠ 193) := by omega
theorem knB_no {k : Int} (h : k ≠ 0 ∧ k ≠ 1 ∧ k ≠ 2 ∧ k ≠ 3 ∧ k ≠ 4 ∧ k ≠ 5 ∧ k ≠ 6 ∧ k ≠ 7 ∧ k ≠ 8 ∧ k ≠ 9 ∧ k ≠ 10 ∧ k ≠ 11 ∧ k ≠ 14 ∧ k ≠ 15 ∧ k ≠ 128 ∧ k ≠ 193) : knB k = false := by
 simp [knB, kinds, h]
set_option maxHeartbeats 4000000 in
theorem known_any (k : Int) (w : World) : Calls Try.prog 22 #[.int .i64 k] w fun e w' => e = .returned (.bool (knB k)) ∧ Ext w w' := by
 rcases kn_cases k with rfl | rfl | rfl | rfl | rfl | rfl | rfl | rfl | rfl | rfl | rfl | rfl | rfl | rfl | rfl | rfl | hn
 case inr.inr.inr.inr.inr.inr.inr.inr.inr.inr.inr.inr.inr.inr.inr.inr =>
  rw [knB_no hn]
  obtain ⟨h0, h1, h2, h3, h4, h5, h6, h7, h8, h9, h10, h11, h12, h13, h14, h15⟩ := hn
  have d0 := beq_false_of_ne h0
  have d1 := beq_false_of_ne h1
  have d2 := beq_false_of_ne h2
  have d3 := beq_false_of_ne h3
  have d4 := beq_false_of_ne h4
  have d5 := beq_false_of_ne h5
  have d6 := beq_false_of_ne h6
  have d7 := beq_false_of_ne h7
  have d8 := beq_false_of_ne h8
  have d9 := beq_false_of_ne h9
  have d10 := beq_false_of_ne h10
  have d11 := beq_false_of_ne h11
  have d12 := beq_false_of_ne h12
  have d13 := beq_false_of_ne h13
  have d14 := beq_false_of_ne h14
  have d15 := beq_false_of_ne h15
  go_enter Try.func22, Try.ntmps22
  go_wp2
  go_ret
  exact ⟨rfl, Ext.refl _⟩
 all_goals
  go_enter Try.func22, Try.ntmps22
  go_wp2
  go_ret
  exact ⟨rfl, Ext.refl _⟩
set_option maxHeartbeats 4000000 in
theorem refKnown_any (k : Int) (w : World) : Calls Try.prog 23 #[.int .i64 k] w fun e w' => e = .returned (.bool (knB k)) ∧ Ext w w' := by
 rcases kn_cases k with rfl | rfl | rfl | rfl | rfl | rfl | rfl | rfl | rfl | rfl | rfl | rfl | rfl | rfl | rfl | rfl | hn
 case inr.inr.inr.inr.inr.inr.inr.inr.inr.inr.inr.inr.inr.inr.inr.inr =>
  rw [knB_no hn]
  have hx : decide (k ≥ 0) = false ∨ decide (k ≤ 11) = false := by
   rcases Int.lt_or_le k 0 with h | h
   ·
    exact .inl (decide_eq_false (by omega))
   ·
    exact .inr (decide_eq_false (by omega))
  obtain ⟨h0, h1, h2, h3, h4, h5, h6, h7, h8, h9, h10, h11, h12, h13, h14, h15⟩ := hn
  clear h0 h1 h2 h3 h4 h5 h6 h7 h8 h9 h10 h11
  have d12 := beq_false_of_ne h12
  have d13 := beq_false_of_ne h13
  have d14 := beq_false_of_ne h14
  have d15 := beq_false_of_ne h15
  rcases hx with hx | hx
  ·
   have hy : decide (0 ≤ k) = false := hx
   go_enter Try.func23, Try.ntmps23
   go_wp2
   go_ret
   exact ⟨rfl, Ext.refl _⟩
  ·
   by_cases h0 : 0 ≤ k
   ·
    have hy : decide (0 ≤ k) = true := decide_eq_true h0
    have hy' : decide (k ≥ 0) = true := decide_eq_true h0
    go_enter Try.func23, Try.ntmps23
    go_wp2
    go_ret
    exact ⟨rfl, Ext.refl _⟩
   ·
    have hy : decide (0 ≤ k) = false := decide_eq_false h0
    have hy' : decide (k ≥ 0) = false := decide_eq_false h0
    go_enter Try.func23, Try.ntmps23
    go_wp2
    go_ret
    exact ⟨rfl, Ext.refl _⟩
 all_goals
  go_enter Try.func23, Try.ntmps23
  go_wp2
  go_ret
  exact ⟨rfl, Ext.refl _⟩
theorem refAddr_any (a : Int) (w : World) : Calls Try.prog 33 #[.int .i64 a] w fun e w' => e = .returned (.bool (adB a)) ∧ Ext w w' := by
 unfold adB inB
 by_cases h1 : 1 ≤ a
 ·
  have d1 : decide (a ≥ 1) = true := decide_eq_true h1
  have d1' : decide (1 ≤ a) = true := decide_eq_true h1
  rw [d1']
  go_enter Try.func33, Try.ntmps33
  go_wp2
  go_ret
  exact ⟨by simp, Ext.refl _⟩
 ·
  have d1 : decide (a ≥ 1) = false := decide_eq_false h1
  have d1' : decide (1 ≤ a) = false := decide_eq_false h1
  rw [d1']
  go_enter Try.func33, Try.ntmps33
  go_wp2
  go_ret
  exact ⟨by simp, Ext.refl _⟩
theorem numberOf_any (b : Bool) (w : World) : Calls Try.prog 65 #[.bool b] w fun e w' => e = .returned (.int .u64 ((if b = true then 1 else 0 : Nat) : Int)) ∧ Ext w w' := by
 cases b
 ·
  go_enter Try.func65, Try.ntmps65
  go_wp2
  go_ret
  exact ⟨rfl, Ext.refl _⟩
 ·
  go_enter Try.func65, Try.ntmps65
  go_wp2
  go_ret
  exact ⟨rfl, Ext.refl _⟩
/-- The flags of a piece. -/
def flagN (pb pe pu : Bool) : Nat := (if pe = true then 1 else 0) + (if pb = true then 2 else 0) + (if pu = true then 4 else 0)
end Tlv
end Go.Proofs.Ytbahelhohkhkmaa
