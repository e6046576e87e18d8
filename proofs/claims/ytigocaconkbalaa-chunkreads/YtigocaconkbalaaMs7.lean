/- Texts of the seat, one behind the other. No condition of its own. -/
import Derived.Test.YtigocaconkbalaaMs6
import Derived.Laws.ResultCell
set_option linter.unusedVariables false
set_option linter.unusedSimpArgs false
set_option maxHeartbeats 32000000
set_option maxRecDepth 100000
namespace Go.Proofs.Ytigocaconkbalaa
namespace Tlv
open Go Go.RowKit
def RV (c : Ck) (s : Sv) (x : Value) : Array Value := #[.int .i64 c.kind, .int .u32 (c.ptsn : Int), .int .u16 (c.pstr : Int), .int .u16 (c.pseq : Int), .bool c.pb, .bool c.pe, .bool c.pu, .slice s.tA s.tN s.tC, .int .u32 (c.tag : Int), .int .i64 c.win, .int .i64 c.out, .int .i64 c.inn, .int .u32 (c.tsn : Int), .slice s.rA s.rN s.rC, .slice s.aA s.aN s.aC, .slice s.iA s.iN s.iC, .slice s.gA s.gN s.gC, .slice s.dA s.dN s.dC, .int .i64 c.cause, .int .u32 (c.serial : Int), .slice s.oA s.oN s.oC, .bool c.ok, x]
theorem rv0 {w : World} {g T : Nat} {c : Ck} {s : Sv} {x : Value} (h : Blk w g (RV c s x) T) : w.cell? ⟨g, 0, none⟩ = some (.int .i64 c.kind) := h.cell 0
theorem rv14 {w : World} {g T : Nat} {c : Ck} {s : Sv} {x : Value} (h : Blk w g (RV c s x) T) : w.cell? ⟨g, 14, none⟩ = some (.slice s.aA s.aN s.aC) := h.cell 14
theorem rv16 {w : World} {g T : Nat} {c : Ck} {s : Sv} {x : Value} (h : Blk w g (RV c s x) T) : w.cell? ⟨g, 16, none⟩ = some (.slice s.gA s.gN s.gC) := h.cell 16
theorem rv17 {w : World} {g T : Nat} {c : Ck} {s : Sv} {x : Value} (h : Blk w g (RV c s x) T) : w.cell? ⟨g, 17, none⟩ = some (.slice s.dA s.dN s.dC) := h.cell 17
theorem rv20 {w : World} {g T : Nat} {c : Ck} {s : Sv} {x : Value} (h : Blk w g (RV c s x) T) : w.cell? ⟨g, 20, none⟩ = some (.slice s.oA s.oN s.oC) := h.cell 20
theorem rv22 {w : World} {g T : Nat} {c : Ck} {s : Sv} {x : Value} (h : Blk w g (RV c s x) T) : w.cell? ⟨g, 22, none⟩ = some (x) := h.cell 22
theorem RV.chunk (c : Ck) (s : Sv) (x : Value) : ∀ (j : Nat) v, (CV c s).toList[j]? = some v → (RV c s x)[0 + j]? = some v := by
 intro j v h
 match j with
 | 0 => exact h
 | 1 => exact h
 | 2 => exact h
 | 3 => exact h
 | 4 => exact h
 | 5 => exact h
 | 6 => exact h
 | 7 => exact h
 | 8 => exact h
 | 9 => exact h
 | 10 => exact h
 | 11 => exact h
 | 12 => exact h
 | 13 => exact h
 | 14 => exact h
 | 15 => exact h
 | 16 => exact h
 | 17 => exact h
 | 18 => exact h
 | 19 => exact h
 | 20 => exact h
 | 21 => exact h
 | j + 22 => simp [CV] at h
def pcl (L : List (Int × Int)) : List Value := L.flatMap fun p => [.int .i64 p.1, .int .i64 p.2]
theorem pcl_len : ∀ L : List (Int × Int), (pcl L).length = L.length * 2
 | [] => rfl
 | p :: L => by
  have := pcl_len L
  unfold pcl at *
  rw [List.flatMap_cons, List.length_append, this, List.length_cons, List.length_cons]; simp; omega
theorem pcl_get {L : List (Int × Int)} : ∀ {i : Nat} {p : Int × Int}, L[i]? = some p → (pcl L)[i * 2]? = some (.int .i64 p.1) ∧ (pcl L)[i * 2 + 1]? = some (.int .i64 p.2) := by
 induction L with
 | nil => intro i p h; simp at h
 | cons x L ih =>
  intro i p h
  cases i with
  | zero => simp at h; subst h; exact ⟨rfl, rfl⟩
  | succ i =>
   have := ih (i := i) (p := p) (by simpa using h)
   have e : pcl (x :: L) = .int .i64 x.1 :: .int .i64 x.2 :: pcl L := rfl
   rw [e, show (i + 1) * 2 = i * 2 + 1 + 1 by omega]
   simpa using this
def OwnP (e : TypeId) (w : World) (base : Nat) (v : Value) (L : List (Int × Int)) : Prop := w.ownsRow base e 2 v L.length (pcl L) ∧ L.length ≤ maxLen
theorem OwnP.nil (e : TypeId) (w : World) (base : Nat) : OwnP e w base (.slice none 0 0) [] := ⟨World.ownsRow_nil _ _ _ _, by simp⟩
theorem OwnP.pairs {e : TypeId} {w : World} {base : Nat} {v : Value} {L : List (Int × Int)} (h : OwnP e w base v L) : PairsAt w v L := by
 obtain ⟨⟨h0, h1 | ⟨g, cap, cur, rfl, hb, hg, hn, hc, hs, ht⟩⟩, hm⟩ := h
 ·
  have : L = [] := List.eq_nil_of_length_eq_zero h1.2
  subst this
  rw [h1.1]
  exact PairsAt.nil _
 ·
  refine ⟨hm, _, cap, rfl, ⟨hn, fun h => by cases h⟩, hc, fun i p hp => ⟨g, 0, rfl, ?_, ?_⟩⟩
  ·
   obtain ⟨a1, a2⟩ := pcl_get hp
   rw [Nat.zero_add, cell_of_block hg]
   have hi := (List.getElem?_eq_some_iff.1 hp).1
   rw [← ht, List.getElem?_take, if_pos (by omega)] at a1
   simpa using a1
  ·
   obtain ⟨a1, a2⟩ := pcl_get hp
   rw [Nat.zero_add, cell_of_block hg]
   have hi := (List.getElem?_eq_some_iff.1 hp).1
   rw [← ht, List.getElem?_take, if_pos (by omega)] at a2
   simpa using a2
theorem OwnP.but {S : Nat → Prop} {e : TypeId} {w w' : World} {base : Nat} {v : Value} {L : List (Int × Int)} (h : OwnP e w base v L) (hk : KeepBut S w w') (hn : ∀ g, v.ownBlock = some g → ¬ S g) : OwnP e w' base v L := ⟨ownsRow_but h.1 hk hn, h.2⟩
theorem OwnP.ext {e : TypeId} {w w' : World} {base : Nat} {v : Value} {L : List (Int × Int)} (h : OwnP e w base v L) (he : Ext w w') : OwnP e w' base v L := h.but (KeepBut.ext (S := fun _ => False) he) (fun _ _ h => h)
theorem ownsRow_ne {w : World} {base e n size g t : Nat} {v : Value} {xs : List Value} {C : Array Value} (h : w.ownsRow base e size v n xs) (hb : Blk w g C t) (ht : t ≠ e) : ∀ k, v.ownBlock = some k → k ≠ g := by
 intro k hk hkg
 subst hkg
 rcases h.2 with ⟨rfl, _⟩ | ⟨g', cap, cur, rfl, _, hg, _⟩
 ·
  cases hk
 ·
  simp only [Value.ownBlock, Option.some.injEq] at hk
  subst hk
  have : some (Obj.cells C t (0, 0)) = some (.cells cur e (0, 0)) := hb.symm.trans hg
  simp only [Option.some.injEq, Obj.cells.injEq] at this
  exact ht this.2.1
structure OwnC (w : World) (base : Nat) (s : Sv) (c : Ck) : Prop where
 t : OB w base (.slice s.tA s.tN s.tC) c.text
 r : OB w base (.slice s.rA s.rN s.rC) c.rand
 a : OwnN .i64 w base 65 (.slice s.aA s.aN s.aC) c.addrs
 i : OB w base (.slice s.iA s.iN s.iC) c.info
 g : OwnP 67 w base (.slice s.gA s.gN s.gC) c.gaps
 d : OwnN .u32 w base 22 (.slice s.dA s.dN s.dC) (ci c.dups)
 o : OwnP 69 w base (.slice s.oA s.oN s.oC) c.ops
theorem OwnC.at {w : World} {base : Nat} {s : Sv} {c : Ck} (h : OwnC w base s c) : CkAt w s c := ⟨h.t.bytes, h.r.bytes, h.a.nums, h.i.bytes, h.g.pairs, h.d.nums, h.o.pairs⟩
theorem OwnC.nil (w : World) (base : Nat) (k : Int) : OwnC w base sv0 (ck0 k) := ⟨OB.nil _ _, OB.nil _ _, OwnN.nil _ _ _ _, OB.nil _ _, OwnP.nil _ _ _, OwnN.nil _ _ _ _, OwnP.nil _ _ _⟩
theorem OwnC.ext {w w' : World} {base : Nat} {s : Sv} {c : Ck} (h : OwnC w base s c) (he : Ext w w') : OwnC w' base s c := ⟨h.t.ext he, h.r.ext he, h.a.ext he, h.i.ext he, h.g.ext he, h.d.ext he, h.o.ext he⟩
def NoList (t : Nat) : Prop := t ≠ 5 ∧ t ≠ 65 ∧ t ≠ 67 ∧ t ≠ 22 ∧ t ≠ 69
theorem OwnC.but {w w' : World} {base g t : Nat} {s : Sv} {c : Ck} {C : Array Value} (h : OwnC w base s c) (hk : KeepBut (· = g) w w') (hb : Blk w g C t) (ht : NoList t) : OwnC w' base s c :=
 ⟨h.t.but hk (h.t.ne hb ht.1), h.r.but hk (h.r.ne hb ht.1), h.a.mono_via hk (ownsRow_ne h.a.1 hb ht.2.1), h.i.but hk (h.i.ne hb ht.1), h.g.but hk (ownsRow_ne h.g.1 hb ht.2.2.1), h.d.mono_via hk (ownsRow_ne h.d.1 hb ht.2.2.2.1), h.o.but hk (ownsRow_ne h.o.1 hb ht.2.2.2.2)⟩
theorem noIn : NoList 126 := ⟨by decide, by decide, by decide, by decide, by decide⟩
theorem noRd : NoList 91 := ⟨by decide, by decide, by decide, by decide, by decide⟩
theorem InAt.blk0 {w : World} {base g : Nat} {bv : Value} {B : List Nat} {s : Option Nat} (h : InAt w base g bv B s) : ∃ C, Blk w g C 126 := by
 obtain ⟨_, a, b, hb, _⟩ := h
 exact ⟨_, hb⟩
structure RS (w0 w : World) (q : Nat) (c : Ck) (s : Sv) (B : List Nat) (st : Option Nat) : Prop where
 ext : Ext w0 w
 lo : w0.heap.size ≤ q
 own : OwnC w w0.heap.size s c
 fit : Fit c
 rd : ∃ gi bv, Blk w q (RV c s (ptr gi)) 91 ∧ gi ≠ q ∧ w0.heap.size ≤ gi ∧ InAt w w0.heap.size gi bv B st
theorem RS.step {w0 w w' : World} {q : Nat} {c : Ck} {s : Sv} {B : List Nat} {st st' : Option Nat} (h : RS w0 w q c s B st) {gi : Nat} {bv : Value} (hb : Blk w q (RV c s (ptr gi)) 91) (hq : gi ≠ q) (hl : w0.heap.size ≤ gi) (hi0 : InAt w w0.heap.size gi bv B st) (hi : InAt w' w0.heap.size gi bv B st') (hk : KeepBut (· = gi) w w') : RS w0 w' q c s B st' := by
 obtain ⟨C, hC⟩ := hi0.blk0
 exact ⟨h.ext.of_but hk (fun k e => by subst e; exact hl), h.lo, h.own.but hk hC noIn, h.fit, gi, bv, hb.but hk (fun e => hq e.symm), hq, hl, hi⟩
theorem RS.grow {w0 w w' : World} {q : Nat} {c : Ck} {s : Sv} {B : List Nat} {st : Option Nat} (h : RS w0 w q c s B st) (he : Ext w w') : RS w0 w' q c s B st := by
 obtain ⟨h1, h2, h3, h4, gi, bv, h5, h6, h7, h8⟩ := h
 exact ⟨h1.trans he, h2, h3.ext he, h4, gi, bv, h5.ext he, h6, h7, h8.ext he⟩
theorem RS.put {w0 w w' : World} {q : Nat} {c c' : Ck} {s s' : Sv} {B : List Nat} {st : Option Nat} (h : RS w0 w q c s B st) {gi : Nat} {bv : Value} (hb0 : Blk w q (RV c s (ptr gi)) 91) (hq : gi ≠ q) (hl : w0.heap.size ≤ gi) (hi0 : InAt w w0.heap.size gi bv B st) (hb : Blk w' q (RV c' s' (ptr gi)) 91) (hk : KeepBut (· = q) w w') (ho : OwnC w w0.heap.size s' c') (hf : Fit c') : RS w0 w' q c' s' B st :=
 ⟨h.ext.of_but hk (fun k e => by subst e; exact h.lo), h.lo, ho.but hk hb0 noRd, hf, gi, bv, hb, hq, hl, hi0.but hk hq (hi0.own.ne hb0 (by decide))⟩
theorem numS_u32 {B : List Nat} (h : AllB B) (s : Option Nat) : (numS B s 4).2 < 4294967296 := by
 unfold numS
 rw [if_pos (by decide)]
 refine val_lt (takeS_all h s 4) 4 ?_
 unfold takeS
 cases s with
 | none => simp
 | some a =>
  simp only
  split
  ·
   rw [List.length_take]; simp; omega
  ·
   simp
theorem numS_u8 {B : List Nat} (h : AllB B) (s : Option Nat) : (numS B s 1).2 < 256 := by
 unfold numS
 rw [if_pos (by decide)]
 refine val_lt (takeS_all h s 1) 1 ?_
 unfold takeS
 cases s with
 | none => simp
 | some a =>
  simp only
  split
  ·
   rw [List.length_take]; simp; omega
  ·
   simp
def RdIs (w0 : World) (q : Nat) (c : Ck) (s : Sv) (B : List Nat) (st : Option Nat) (v : Value) (e : Ending) (w' : World) : Prop := e = .returned v ∧ RS w0 w' q c s B st
theorem word_any {w0 w : World} {q : Nat} {c : Ck} {s : Sv} {B : List Nat} {st : Option Nat} (h : RS w0 w q c s B st) (hA : AllB B) (hB : B.length ≤ 1000000) :
  Calls Try.prog 79 #[ptr q] w (RdIs w0 q c s B (numS B st 4).1 (.int .u32 ((numS B st 4).2 : Nat))) := by
 obtain ⟨gi, bv, hb, hq, hl, hi⟩ := h.rd
 have HX : Hid (RS w0 w q c s B st ∧ Blk w q (RV c s (ptr gi)) 91 ∧ gi ≠ q ∧ w0.heap.size ≤ gi ∧ InAt w w0.heap.size gi bv B st ∧ B.length ≤ 1000000) := ⟨h, hb, hq, hl, hi, hB⟩
 have c22 := rv22 hb
 have hn := numS_u32 hA st
 have hw : IntKind.u32.wrap ((numS B st 4).2 : Int) = ((numS B st 4).2 : Int) := by rw [IntKind.wrap_u32]; omega
 clear h hb hq hl hi hA hB
 go_enter Try.func79, Try.ntmps79
 go_wp2_with (first
  | (go_at_call 40; refine (inNum_any HX.out.2.2.2.2.1 HX.out.2.2.2.2.2 4).mono ?_; rintro e w2 ⟨rfl, hi2, hk2⟩))
 go_ret
 exact ⟨rfl, HX.out.1.step HX.out.2.1 HX.out.2.2.1 HX.out.2.2.2.1 HX.out.2.2.2.2.1 hi2 hk2⟩
theorem numS_le {B : List Nat} (h : AllB B) (s : Option Nat) (n : Int) (hn : n = 1 ∨ n = 2 ∨ n = 4) : (numS B s n).2 < 4294967296 := by
 rcases hn with rfl | rfl | rfl
 ·
  have := numS_u8 h s; omega
 ·
  have := numS2_lt h s; omega
 ·
  exact numS_u32 h s
theorem number_any {w0 w : World} {q : Nat} {c : Ck} {s : Sv} {B : List Nat} {st : Option Nat} (h : RS w0 w q c s B st) (hA : AllB B) (hB : B.length ≤ 1000000) (n : Int) (hn : n = 1 ∨ n = 2 ∨ n = 4) :
  Calls Try.prog 80 #[ptr q, .int .i64 n] w (RdIs w0 q c s B (numS B st n).1 (.int .i64 ((numS B st n).2 : Nat))) := by
 obtain ⟨gi, bv, hb, hq, hl, hi⟩ := h.rd
 have HX : Hid (RS w0 w q c s B st ∧ Blk w q (RV c s (ptr gi)) 91 ∧ gi ≠ q ∧ w0.heap.size ≤ gi ∧ InAt w w0.heap.size gi bv B st ∧ B.length ≤ 1000000) := ⟨h, hb, hq, hl, hi, hB⟩
 have c22 := rv22 hb
 have hlt := numS_le hA st n hn
 have hw : IntKind.i64.wrap ((numS B st n).2 : Int) = ((numS B st n).2 : Int) := by rw [IntKind.wrap_i64]; omega
 clear h hb hq hl hi hA hB hn
 go_enter Try.func80, Try.ntmps80
 go_wp2_with (first
  | (go_at_call 40; refine (inNum_any HX.out.2.2.2.2.1 HX.out.2.2.2.2.2 n).mono ?_; rintro e w2 ⟨rfl, hi2, hk2⟩))
 go_ret
 exact ⟨rfl, HX.out.1.step HX.out.2.1 HX.out.2.2.1 HX.out.2.2.2.1 HX.out.2.2.2.2.1 hi2 hk2⟩
def ValueC (w0 : World) (q : Nat) (c : Ck) (B : List Nat) (e : Ending) (w' : World) : Prop := (∃ y, e = .returned y) ∧ ∃ s' st', RS w0 w' q c s' B st'
theorem valueR_no {w0 w : World} {q : Nat} {c : Ck} {s : Sv} {B : List Nat} {st : Option Nat} {F : Int} (h : RS w0 w q c s B st) (h0 : c.kind ≠ 0) (h1 : c.kind ≠ 1) (h2 : c.kind ≠ 2) (h3 : c.kind ≠ 3) (h4 : c.kind ≠ 4) (h5 : c.kind ≠ 5) (h10 : c.kind ≠ 10) (h15 : c.kind ≠ 15) (h6 : c.kind ≠ 6) (h9 : c.kind ≠ 9) (h7 : c.kind ≠ 7) (h193 : c.kind ≠ 193) (h128 : c.kind ≠ 128) :
  Calls Try.prog 42 #[ptr q, .int .u64 F] w (ValueC w0 q c B) := by
 obtain ⟨gi, bv, hb, hq, hl, hi⟩ := h.rd
 have c0 := rv0 hb
 have HX : Hid (RS w0 w q c s B st) := h
 clear h hb hq hl hi
 have e0 : (c.kind == 0) = false := beq_false_of_ne h0
 have e1 : (c.kind == 1) = false := beq_false_of_ne h1
 have e2 : (c.kind == 2) = false := beq_false_of_ne h2
 have e3 : (c.kind == 3) = false := beq_false_of_ne h3
 have e4 : (c.kind == 4) = false := beq_false_of_ne h4
 have e5 : (c.kind == 5) = false := beq_false_of_ne h5
 have e10 : (c.kind == 10) = false := beq_false_of_ne h10
 have e15 : (c.kind == 15) = false := beq_false_of_ne h15
 have e6 : (c.kind == 6) = false := beq_false_of_ne h6
 have e9 : (c.kind == 9) = false := beq_false_of_ne h9
 have e7 : (c.kind == 7) = false := beq_false_of_ne h7
 have e193 : (c.kind == 193) = false := beq_false_of_ne h193
 have e128 : (c.kind == 128) = false := beq_false_of_ne h128
 go_enter Try.func42, Try.ntmps42
 go_wp2
 go_end0
 exact ⟨⟨_, rfl⟩, _, _, HX.out⟩
theorem wl_push {wr : World} {ops : Array Oper} {rest : List Oper} {o : Oper} {a : Act} {Q : Exit → Act → World → Prop} {C : Array Value} (hgd : o.guard = none) {s x : Operand} (ho : o.op = .call { callee := .builtin .append, args := #[s, x], argTypes := #[24, 24] })
  {base b : Nat} {v : Value} {l : List Nat} {y : Nat} (hC : C = #[.int .u8 (y : Int)]) (hy : y < 256) (hs : a.eval s = v) (hx : a.eval x = .slice (some ⟨b, 0, none⟩) 1 1) (hb : b = wr.heap.size) (hv : OB wr base v l) (hl : l.length ≤ 900000) (hbase : base ≤ wr.heap.size)
  (h : ∀ ad n cap w', Hid (n = l.length + 1) → OB w' base (.slice ad n cap) (l ++ [y]) → KeepBut (fun k => v.ownBlock = some k) wr w' → wpList Try.prog ops Q rest (a.put o.dst (.slice ad n cap)) w') : wpList Try.prog ops Q (o :: rest) a (wr.alloc (.cells C 5)) := by
 subst hC hb
 have he : Ext wr (wr.alloc (.cells #[.int .u8 (y : Int)] 5)) := Ext.alloc _ _
 refine wl_app hgd ho hs hx (hv.ext he) (bytes_of_nums (l := [y]) (NumsAt.one wr (y : Int) 5 _ rfl) (fun x hx => by simp at hx; omega)) (by simp; omega) (Nat.le_trans hbase he.size) ?_
 intro ad n cap w' hn ho' hk _
 exact h ad n cap w' (show _ = _ by rw [hn.out]; simp) ho' ((KeepBut.ext he).trans hk)
theorem refNum_1 (N : Nat) (w : World) :
  Calls Try.prog 75 #[.int .u64 (N : Int), .int .i64 1] w fun e w' => ∃ a n c, e = .returned (.slice a n c) ∧ n = (be N 1).length ∧ OB w' w.heap.size (.slice a n c) (be N 1) ∧ Ext w w' := by
 go_enter Try.func75, Try.ntmps75
 go_wp2
 go_loopg [5, 6] 1 (fun gm x t wr => ∃ (k : Nat) (a : Option Addr) (n c : Nat), k ≤ 1 ∧ gm = k ∧ x = .slice a n c ∧ t = .int .i64 ((k : Int) - 1) ∧ Hid (n = 1 - k ∧ OB wr w.heap.size (.slice a n c) (dn N 1 k) ∧ Ext w wr))
 case atStart => exact ⟨1, none, 0, 0, by decide, rfl, rfl, rfl, rfl, OB.nil _ _, Ext.refl _⟩
 case round =>
  obtain ⟨k, a, n, c, hk, hgk, rfl, rfl, HR⟩ := hrel
  subst gk
  cases k with
  | zero =>
   have hd : decide ((((0 : Nat) : Int) - 1) ≥ 0) = false := rfl
   go_wp2
   go_ret
   refine ⟨_, _, _, rfl, by rw [HR.out.1, be_len], ?_, HR.out.2.2⟩
   have := HR.out.2.1
   rwa [dn_end] at this
  | succ j =>
   have hj1 : ((j + 1 : Nat) : Int) - 1 = (j : Int) := by omega
   rw [hj1]
   have hd : decide ((j : Int) ≥ 0) = true := decide_eq_true (by omega)
   obtain ⟨q, hq⟩ : ∃ q, q = 8 * j := ⟨_, rfl⟩
   obtain ⟨y, hy⟩ : ∃ y, y = N / 256 ^ j := ⟨_, rfl⟩
   obtain ⟨b, hb⟩ : ∃ b, b = y % 256 := ⟨_, rfl⟩
   have m8 : (8 : Int) * (j : Int) = (q : Int) := by omega
   have hqs : q < 1000000 := by omega
   have hq64 : (q : Int) ≤ 64 := by omega
   have my : (N : Int) / 2 ^ q = (y : Int) := by rw [hy, pow_bytes, ← hq]; simp
   have mb : (y : Int) % 256 = (b : Int) := by omega
   have mw : IntKind.u8.wrap (y : Int) = (b : Int) := by rw [IntKind.wrap_u8]; exact mb
   have hb8 : b < 256 := by omega
   have HD : Hid (dn N 1 j = dn N 1 (j + 1) ++ [b]) := show _ = _ by rw [hb, hy]; exact dn_succ N 1 j (by omega)
   have HLn : Hid ((dn N 1 (j + 1)).length ≤ 8) := Nat.le_trans (dn_len N 1 (j + 1)) (by decide)
   have HJ : Hid (j + 1 ≤ 1) := hk
   have hj8 : j < 8 := by omega
   have wq := (wrapM q hqs).1
   have wq2 := (wrapM q hqs).2.1
   have wq3 := (wrapM q hqs).2.2.1
   have wq4 := (wrapM q hqs).2.2.2
   clear hb hy hq
   go_wp2_with (first
    | (at_builtin; refine wl_push (l := dn N 1 (j + 1)) (y := b) (v := .slice a n c) rfl rfl (by first | rfl | go_simp | simp [mb, mw]) hb8 rfl rfl rfl HR.out.2.1 (by have := HLn.out; omega) HR.out.2.2.size ?_; intro ad n2 cap w2 hn2 ho2 hk2; rw [← HD.out] at ho2))
   go_roundg j
   case measure => omega
   case rel => exact ⟨j, ad, n2, cap, by omega, rfl, rfl, by first | rfl | simp, by have h1 := hn2.out; have h2 := HR.out.2.1.form; obtain ⟨_, _, e⟩ := h2; simp only [Value.slice.injEq] at e; have h3 := HR.out.1; have := HJ.out; omega, ho2, HR.out.2.2.of_but hk2 (fun k e => (HR.out.2.1.lt e).1)⟩
theorem refNum_2 (N : Nat) (w : World) :
  Calls Try.prog 75 #[.int .u64 (N : Int), .int .i64 2] w fun e w' => ∃ a n c, e = .returned (.slice a n c) ∧ n = (be N 2).length ∧ OB w' w.heap.size (.slice a n c) (be N 2) ∧ Ext w w' := by
 go_enter Try.func75, Try.ntmps75
 go_wp2
 go_loopg [5, 6] 2 (fun gm x t wr => ∃ (k : Nat) (a : Option Addr) (n c : Nat), k ≤ 2 ∧ gm = k ∧ x = .slice a n c ∧ t = .int .i64 ((k : Int) - 1) ∧ Hid (n = 2 - k ∧ OB wr w.heap.size (.slice a n c) (dn N 2 k) ∧ Ext w wr))
 case atStart => exact ⟨2, none, 0, 0, by decide, rfl, rfl, rfl, rfl, OB.nil _ _, Ext.refl _⟩
 case round =>
  obtain ⟨k, a, n, c, hk, hgk, rfl, rfl, HR⟩ := hrel
  subst gk
  cases k with
  | zero =>
   have hd : decide ((((0 : Nat) : Int) - 1) ≥ 0) = false := rfl
   go_wp2
   go_ret
   refine ⟨_, _, _, rfl, by rw [HR.out.1, be_len], ?_, HR.out.2.2⟩
   have := HR.out.2.1
   rwa [dn_end] at this
  | succ j =>
   have hj1 : ((j + 1 : Nat) : Int) - 1 = (j : Int) := by omega
   rw [hj1]
   have hd : decide ((j : Int) ≥ 0) = true := decide_eq_true (by omega)
   obtain ⟨q, hq⟩ : ∃ q, q = 8 * j := ⟨_, rfl⟩
   obtain ⟨y, hy⟩ : ∃ y, y = N / 256 ^ j := ⟨_, rfl⟩
   obtain ⟨b, hb⟩ : ∃ b, b = y % 256 := ⟨_, rfl⟩
   have m8 : (8 : Int) * (j : Int) = (q : Int) := by omega
   have hqs : q < 1000000 := by omega
   have hq64 : (q : Int) ≤ 64 := by omega
   have my : (N : Int) / 2 ^ q = (y : Int) := by rw [hy, pow_bytes, ← hq]; simp
   have mb : (y : Int) % 256 = (b : Int) := by omega
   have mw : IntKind.u8.wrap (y : Int) = (b : Int) := by rw [IntKind.wrap_u8]; exact mb
   have hb8 : b < 256 := by omega
   have HD : Hid (dn N 2 j = dn N 2 (j + 1) ++ [b]) := show _ = _ by rw [hb, hy]; exact dn_succ N 2 j (by omega)
   have HLn : Hid ((dn N 2 (j + 1)).length ≤ 8) := Nat.le_trans (dn_len N 2 (j + 1)) (by decide)
   have HJ : Hid (j + 1 ≤ 2) := hk
   have hj8 : j < 8 := by omega
   have wq := (wrapM q hqs).1
   have wq2 := (wrapM q hqs).2.1
   have wq3 := (wrapM q hqs).2.2.1
   have wq4 := (wrapM q hqs).2.2.2
   clear hb hy hq
   go_wp2_with (first
    | (at_builtin; refine wl_push (l := dn N 2 (j + 1)) (y := b) (v := .slice a n c) rfl rfl (by first | rfl | go_simp | simp [mb, mw]) hb8 rfl rfl rfl HR.out.2.1 (by have := HLn.out; omega) HR.out.2.2.size ?_; intro ad n2 cap w2 hn2 ho2 hk2; rw [← HD.out] at ho2))
   go_roundg j
   case measure => omega
   case rel => exact ⟨j, ad, n2, cap, by omega, rfl, rfl, by first | rfl | simp, by have h1 := hn2.out; have h2 := HR.out.2.1.form; obtain ⟨_, _, e⟩ := h2; simp only [Value.slice.injEq] at e; have h3 := HR.out.1; have := HJ.out; omega, ho2, HR.out.2.2.of_but hk2 (fun k e => (HR.out.2.1.lt e).1)⟩
theorem refNum_4 (N : Nat) (w : World) :
  Calls Try.prog 75 #[.int .u64 (N : Int), .int .i64 4] w fun e w' => ∃ a n c, e = .returned (.slice a n c) ∧ n = (be N 4).length ∧ OB w' w.heap.size (.slice a n c) (be N 4) ∧ Ext w w' := by
 go_enter Try.func75, Try.ntmps75
 go_wp2
 go_loopg [5, 6] 4 (fun gm x t wr => ∃ (k : Nat) (a : Option Addr) (n c : Nat), k ≤ 4 ∧ gm = k ∧ x = .slice a n c ∧ t = .int .i64 ((k : Int) - 1) ∧ Hid (n = 4 - k ∧ OB wr w.heap.size (.slice a n c) (dn N 4 k) ∧ Ext w wr))
 case atStart => exact ⟨4, none, 0, 0, by decide, rfl, rfl, rfl, rfl, OB.nil _ _, Ext.refl _⟩
 case round =>
  obtain ⟨k, a, n, c, hk, hgk, rfl, rfl, HR⟩ := hrel
  subst gk
  cases k with
  | zero =>
   have hd : decide ((((0 : Nat) : Int) - 1) ≥ 0) = false := rfl
   go_wp2
   go_ret
   refine ⟨_, _, _, rfl, by rw [HR.out.1, be_len], ?_, HR.out.2.2⟩
   have := HR.out.2.1
   rwa [dn_end] at this
  | succ j =>
   have hj1 : ((j + 1 : Nat) : Int) - 1 = (j : Int) := by omega
   rw [hj1]
   have hd : decide ((j : Int) ≥ 0) = true := decide_eq_true (by omega)
   obtain ⟨q, hq⟩ : ∃ q, q = 8 * j := ⟨_, rfl⟩
   obtain ⟨y, hy⟩ : ∃ y, y = N / 256 ^ j := ⟨_, rfl⟩
   obtain ⟨b, hb⟩ : ∃ b, b = y % 256 := ⟨_, rfl⟩
   have m8 : (8 : Int) * (j : Int) = (q : Int) := by omega
   have hqs : q < 1000000 := by omega
   have hq64 : (q : Int) ≤ 64 := by omega
   have my : (N : Int) / 2 ^ q = (y : Int) := by rw [hy, pow_bytes, ← hq]; simp
   have mb : (y : Int) % 256 = (b : Int) := by omega
   have mw : IntKind.u8.wrap (y : Int) = (b : Int) := by rw [IntKind.wrap_u8]; exact mb
   have hb8 : b < 256 := by omega
   have HD : Hid (dn N 4 j = dn N 4 (j + 1) ++ [b]) := show _ = _ by rw [hb, hy]; exact dn_succ N 4 j (by omega)
   have HLn : Hid ((dn N 4 (j + 1)).length ≤ 8) := Nat.le_trans (dn_len N 4 (j + 1)) (by decide)
   have HJ : Hid (j + 1 ≤ 4) := hk
   have hj8 : j < 8 := by omega
   have wq := (wrapM q hqs).1
   have wq2 := (wrapM q hqs).2.1
   have wq3 := (wrapM q hqs).2.2.1
   have wq4 := (wrapM q hqs).2.2.2
   clear hb hy hq
   go_wp2_with (first
    | (at_builtin; refine wl_push (l := dn N 4 (j + 1)) (y := b) (v := .slice a n c) rfl rfl (by first | rfl | go_simp | simp [mb, mw]) hb8 rfl rfl rfl HR.out.2.1 (by have := HLn.out; omega) HR.out.2.2.size ?_; intro ad n2 cap w2 hn2 ho2 hk2; rw [← HD.out] at ho2))
   go_roundg j
   case measure => omega
   case rel => exact ⟨j, ad, n2, cap, by omega, rfl, rfl, by first | rfl | simp, by have h1 := hn2.out; have h2 := HR.out.2.1.form; obtain ⟨_, _, e⟩ := h2; simp only [Value.slice.injEq] at e; have h3 := HR.out.1; have := HJ.out; omega, ho2, HR.out.2.2.of_but hk2 (fun k e => (HR.out.2.1.lt e).1)⟩
theorem refNum_8 (N : Nat) (w : World) :
  Calls Try.prog 75 #[.int .u64 (N : Int), .int .i64 8] w fun e w' => ∃ a n c, e = .returned (.slice a n c) ∧ n = (be N 8).length ∧ OB w' w.heap.size (.slice a n c) (be N 8) ∧ Ext w w' := by
 go_enter Try.func75, Try.ntmps75
 go_wp2
 go_loopg [5, 6] 8 (fun gm x t wr => ∃ (k : Nat) (a : Option Addr) (n c : Nat), k ≤ 8 ∧ gm = k ∧ x = .slice a n c ∧ t = .int .i64 ((k : Int) - 1) ∧ Hid (n = 8 - k ∧ OB wr w.heap.size (.slice a n c) (dn N 8 k) ∧ Ext w wr))
 case atStart => exact ⟨8, none, 0, 0, by decide, rfl, rfl, rfl, rfl, OB.nil _ _, Ext.refl _⟩
 case round =>
  obtain ⟨k, a, n, c, hk, hgk, rfl, rfl, HR⟩ := hrel
  subst gk
  cases k with
  | zero =>
   have hd : decide ((((0 : Nat) : Int) - 1) ≥ 0) = false := rfl
   go_wp2
   go_ret
   refine ⟨_, _, _, rfl, by rw [HR.out.1, be_len], ?_, HR.out.2.2⟩
   have := HR.out.2.1
   rwa [dn_end] at this
  | succ j =>
   have hj1 : ((j + 1 : Nat) : Int) - 1 = (j : Int) := by omega
   rw [hj1]
   have hd : decide ((j : Int) ≥ 0) = true := decide_eq_true (by omega)
   obtain ⟨q, hq⟩ : ∃ q, q = 8 * j := ⟨_, rfl⟩
   obtain ⟨y, hy⟩ : ∃ y, y = N / 256 ^ j := ⟨_, rfl⟩
   obtain ⟨b, hb⟩ : ∃ b, b = y % 256 := ⟨_, rfl⟩
   have m8 : (8 : Int) * (j : Int) = (q : Int) := by omega
   have hqs : q < 1000000 := by omega
   have hq64 : (q : Int) ≤ 64 := by omega
   have my : (N : Int) / 2 ^ q = (y : Int) := by rw [hy, pow_bytes, ← hq]; simp
   have mb : (y : Int) % 256 = (b : Int) := by omega
   have mw : IntKind.u8.wrap (y : Int) = (b : Int) := by rw [IntKind.wrap_u8]; exact mb
   have hb8 : b < 256 := by omega
   have HD : Hid (dn N 8 j = dn N 8 (j + 1) ++ [b]) := show _ = _ by rw [hb, hy]; exact dn_succ N 8 j (by omega)
   have HLn : Hid ((dn N 8 (j + 1)).length ≤ 8) := Nat.le_trans (dn_len N 8 (j + 1)) (by decide)
   have HJ : Hid (j + 1 ≤ 8) := hk
   have hj8 : j < 8 := by omega
   have wq := (wrapM q hqs).1
   have wq2 := (wrapM q hqs).2.1
   have wq3 := (wrapM q hqs).2.2.1
   have wq4 := (wrapM q hqs).2.2.2
   clear hb hy hq
   go_wp2_with (first
    | (at_builtin; refine wl_push (l := dn N 8 (j + 1)) (y := b) (v := .slice a n c) rfl rfl (by first | rfl | go_simp | simp [mb, mw]) hb8 rfl rfl rfl HR.out.2.1 (by have := HLn.out; omega) HR.out.2.2.size ?_; intro ad n2 cap w2 hn2 ho2 hk2; rw [← HD.out] at ho2))
   go_roundg j
   case measure => omega
   case rel => exact ⟨j, ad, n2, cap, by omega, rfl, rfl, by first | rfl | simp, by have h1 := hn2.out; have h2 := HR.out.2.1.form; obtain ⟨_, _, e⟩ := h2; simp only [Value.slice.injEq] at e; have h3 := HR.out.1; have := HJ.out; omega, ho2, HR.out.2.2.of_but hk2 (fun k e => (HR.out.2.1.lt e).1)⟩
theorem refNum_any (N : Nat) (n : Int) (w : World) :
  Calls Try.prog 75 #[.int .u64 (N : Int), .int .i64 n] w fun e w' => ∃ a m c, e = .returned (.slice a m c) ∧ m = (numB N n).length ∧ OB w' w.heap.size (.slice a m c) (numB N n) ∧ Ext w w' := by
 cases hs : isSz n with
 | true =>
  rcases (isSz_iff n).1 hs with rfl | rfl | rfl | rfl
  ·
   exact refNum_1 N w
  ·
   exact refNum_2 N w
  ·
   exact refNum_4 N w
  ·
   exact refNum_8 N w
 | false =>
  have e : numB N n = [] := by unfold numB; rw [hs]; rfl
  rw [e]
  have hn : ¬ (n = 1 ∨ n = 2 ∨ n = 4 ∨ n = 8) := fun h => by rw [(isSz_iff n).2 h] at hs; cases hs
  have e1 : decide (n = 1) = false := decide_eq_false (by omega)
  have e2 : decide (n = 2) = false := decide_eq_false (by omega)
  have e3 : decide (n = 4) = false := decide_eq_false (by omega)
  have e4 : decide (n = 8) = false := decide_eq_false (by omega)
  have f1 : n ≠ 1 := by omega
  have f2 : n ≠ 2 := by omega
  have f3 : n ≠ 4 := by omega
  have f4 : n ≠ 8 := by omega
  have g1 : (n == 1) = false := beq_false_of_ne f1
  have g2 : (n == 2) = false := beq_false_of_ne f2
  have g3 : (n == 4) = false := beq_false_of_ne f3
  have g4 : (n == 8) = false := beq_false_of_ne f4
  have k1 : (n != 1) = true := by simp [f1]
  have k2 : (n != 2) = true := by simp [f2]
  have k3 : (n != 4) = true := by simp [f3]
  have k4 : (n != 8) = true := by simp [f4]
  clear hn hs e f1 f2 f3 f4
  go_enter Try.func75, Try.ntmps75
  go_wp2
  go_ret
  exact ⟨_, _, _, rfl, rfl, OB.nil _ _, Ext.refl _⟩
theorem rowI : RowT Try.prog 98 3 := ⟨⟨_, Try.underlying98, rfl⟩, by kernel_rfl⟩
theorem zeroI : (Try.prog.info? 98).bind (·.zero) = some (.agg #[.slice none 0 0, .int .i64 0, .bool false]) := by kernel_rfl
def RefV (v bv : Value) (B : List Nat) (s : Option Nat) : Prop := ∃ (a : Nat) (b : Bool), v = .agg #[bv, .int .i64 (a : Int), .bool b] ∧ a ≤ B.length ∧ s = (if b = true then none else some a)
theorem one_in (u : Value) (a : Int) (b : Bool) (hu : u.oneCell' = true) : ∀ v ∈ (#[u, .int .i64 a, .bool b] : Array Value).toList, v.oneCell' = true := by
 intro v hv
 simp at hv
 rcases hv with rfl | rfl | rfl
 ·
  exact hu
 ·
  rfl
 ·
  rfl
theorem res_two {fn : Func} {p u : Tmp} {ty g t : Nat} {cs : Array Value} {fs : Array Field} {x : Value} (h : fn.results = #[.cell p ty, .tmp u]) (tmps : Array Value) (w : World) (hp : tmps.getD p undef = .pointer (some ⟨g, 0, none⟩)) (hx : tmps.getD u undef = x) (hg : Blk w g cs t) (hu : Try.prog.underlying ty = some (.struct fs)) (hi : (Try.prog.info? ty).map (·.size) = some cs.size) :
  (results fn tmps).run Try.prog w = .ok (.tuple #[.agg cs, x]) w := by
 rw [results_cell_tmp h, hp, hx]
 have := run_loadVar_row (P := Try.prog) w g t ty cs (0, 0) _ hg hu rfl hi
 simp [asAddr, this]
theorem refLeft_any {w : World} {v bv : Value} {B : List Nat} {s : Option Nat} (hv : RefV v bv B s) (hb : BytesAt w bv B) (hB : B.length ≤ 1000000) :
  Calls Try.prog 86 #[v] w fun e w' => e = .returned (.int .i64 (leftS B s : Nat)) ∧ Ext w w' := by
 obtain ⟨ba, bc, rfl, _, _⟩ := hb.form
 rename_i z1 z2
 clear z1 z2 hb
 obtain ⟨a, b, rfl, ha, rfl⟩ := hv
 cases b with
 | true =>
  go_enter Try.func86, Try.ntmps86
  go_wp2_with (first
   | (refine wl_box (C := #[.slice ba B.length bc, .int .i64 (a : Int), .bool true]) rfl rfl rfl ?_; intro w1 hb1 he1 hx; clear hx; have c0 := hb1.cell 0; have c1 := hb1.cell 1; have c2 := hb1.cell 2; clear hb1))
  go_ret
  exact ⟨rfl, he1⟩
 | false =>
  have hsub : IntKind.i64.wrap ((B.length : Int) - (a : Int)) = ((B.length - a : Nat) : Int) := by rw [IntKind.wrap_i64]; omega
  have hsub2 : (B.length : Int) - (a : Int) = ((B.length - a : Nat) : Int) := by omega
  have HE : Hid (leftS B (if false = true then none else some a) = B.length - a) := rfl
  go_enter Try.func86, Try.ntmps86
  go_wp2_with (first
   | (refine wl_box (C := #[.slice ba B.length bc, .int .i64 (a : Int), .bool false]) rfl rfl rfl ?_; intro w1 hb1 he1 hx; clear hx; have c0 := hb1.cell 0; have c1 := hb1.cell 1; have c2 := hb1.cell 2; clear hb1))
  go_ret
  exact ⟨ret_int rfl, he1⟩
def TakeIs (w : World) (bv : Value) (B : List Nat) (r : Option Nat × List Nat) (e : Ending) (w' : World) : Prop :=
 ∃ v' a n c, e = .returned (.tuple #[v', .slice a n c]) ∧ RefV v' bv B r.1 ∧ n = r.2.length ∧ OB w' w.heap.size (.slice a n c) r.2 ∧ Ext w w'
theorem refTake_any {w : World} {v bv : Value} {B : List Nat} {s : Option Nat} (hv : RefV v bv B s) (hb : BytesAt w bv B) (hB : B.length ≤ 1000000) (n : Int) :
  Calls Try.prog 85 #[v, .int .i64 n] w (TakeIs w bv B (takeS B s n)) := by
 obtain ⟨ba, bc, rfl, hbc, _⟩ := hb.form
 rename_i z2
 have HBC : Hid (B.length ≤ bc ∧ bc ≤ maxLen) := hbc
 have HB : Hid (BytesAt w (.slice ba B.length bc) B) := hb
 have HL : Hid (B.length ≤ 1000000) := hB
 clear z2 hb hbc
 obtain ⟨a, b, rfl, ha, rfl⟩ := hv
 cases b with
 | true =>
  rw [show takeS B (if true = true then none else some a) n = (none, []) from rfl]
  go_enter Try.func85, Try.ntmps85
  go_wp2_with (first
   | (refine wl_box (C := #[.slice ba B.length bc, .int .i64 (a : Int), .bool true]) rfl rfl rfl ?_; intro w1 hb1 he1 hx; clear hx)
   | (refine wl_alloc rfl rfl zeroI ?_; intro w2 hb2 he2 hx; clear hx; have hb1' := hb1.ext he2; have c0 := hb1'.cell 0; have c1 := hb1'.cell 1; have c2 := hb1'.cell 2)
   | (refine wl_set (v := .bool true) rfl one4 rfl rfl rfl rfl rfl hb1' (by simp) ?_; intro w4 hb4 hk4 hx; clear hx)
   | (have q := hk4; clear q; refine wl_load rfl rowI rfl rfl hb4 rfl ?_)
   | (refine wl_store (D := #[.slice ba B.length bc, .int .i64 (a : Int), .bool true]) rfl rowI rfl rfl rfl (hb2.but hk4 (show ¬ _ = _ by have := hb1.lt; omega)) rfl rfl (one_in _ _ _ rfl) ?_; intro w5 hb5 hk5 hx; clear hx))
  refine bodyPost_ret (res_two (fn := Try.f85) (p := 4) (u := 5) rfl _ _ rfl rfl hb5 Try.underlying98 (by kernel_rfl)) rfl ?_
  exact ⟨_, none, 0, 0, rfl, ⟨a, true, rfl, ha, rfl⟩, rfl, OB.nil _ _, ((he1.trans he2).of_but hk4 (fun k e => by subst e; exact Nat.le_refl _)).of_but hk5 (fun k e => by subst e; exact he1.size)⟩
 | false =>
 rw [show (if false = true then (none : Option Nat) else some a) = some a from rfl]
 by_cases h0 : n < 0
 ·
  have hd : decide (n < 0) = true := decide_eq_true h0
  rw [takeS_no (by omega)]
  go_enter Try.func85, Try.ntmps85
  go_wp2_with (first
   | (refine wl_box (C := #[.slice ba B.length bc, .int .i64 (a : Int), .bool false]) rfl rfl rfl ?_; intro w1 hb1 he1 hx; clear hx)
   | (refine wl_alloc rfl rfl zeroI ?_; intro w2 hb2 he2 hx; clear hx; have hb1' := hb1.ext he2; have c0 := hb1'.cell 0; have c1 := hb1'.cell 1; have c2 := hb1'.cell 2)
   | (refine wl_set (v := .bool true) rfl one4 rfl rfl rfl rfl rfl hb1' (by simp) ?_; intro w4 hb4 hk4 hx; clear hx)
   | (have q := hk4; clear q; refine wl_load rfl rowI rfl rfl hb4 rfl ?_)
   | (refine wl_store (D := #[.slice ba B.length bc, .int .i64 (a : Int), .bool true]) rfl rowI rfl rfl rfl (hb2.but hk4 (show ¬ _ = _ by have := hb1.lt; omega)) rfl rfl (one_in _ _ _ rfl) ?_; intro w5 hb5 hk5 hx; clear hx))
  refine bodyPost_ret (res_two (fn := Try.f85) (p := 4) (u := 5) rfl _ _ rfl rfl hb5 Try.underlying98 (by kernel_rfl)) rfl ?_
  exact ⟨_, none, 0, 0, rfl, ⟨a, true, rfl, ha, rfl⟩, rfl, OB.nil _ _, ((he1.trans he2).of_but hk4 (fun k e => by subst e; exact Nat.le_refl _)).of_but hk5 (fun k e => by subst e; exact he1.size)⟩
 have hd : decide (n < 0) = false := decide_eq_false h0
 obtain ⟨L, hLf⟩ : ∃ L, leftS B (if false = true then none else some a) = L := ⟨_, rfl⟩
 have hLv : L = B.length - a := hLf.symm
 by_cases h1 : (L : Int) < n
 ·
  have hd1 : decide (n > (L : Int)) = true := decide_eq_true h1
  rw [takeS_no (by omega)]
  have HLv : Hid (L = B.length - a) := hLv
  clear hLv
  go_enter Try.func85, Try.ntmps85
  go_wp2_with (first
   | (refine wl_box (C := #[.slice ba B.length bc, .int .i64 (a : Int), .bool false]) rfl rfl rfl ?_; intro w1 hb1 he1 hx; clear hx)
   | (refine wl_alloc rfl rfl zeroI ?_; intro w2 hb2 he2 hx; clear hx; have hb1' := hb1.ext he2; have c0 := hb1'.cell 0; have c1 := hb1'.cell 1; have c2 := hb1'.cell 2)
   | (go_at_call 86; refine (refLeft_any ⟨a, false, rfl, ha, rfl⟩ (HB.out.ext (he1.trans he2)) HL.out).mono ?_; rintro e w3 ⟨rfl, he3⟩; rw [hLf]; have d0 := (hb1'.ext he3).cell 0; have d1 := (hb1'.ext he3).cell 1; have d2 := (hb1'.ext he3).cell 2)
   | (refine wl_set (v := .bool true) rfl one4 rfl rfl rfl rfl rfl (hb1'.ext he3) (by simp) ?_; intro w4 hb4 hk4 hx; clear hx)
   | (have q := hk4; clear q; refine wl_load rfl rowI rfl rfl hb4 rfl ?_)
   | (refine wl_store (D := #[.slice ba B.length bc, .int .i64 (a : Int), .bool true]) rfl rowI rfl rfl rfl ((hb2.ext he3).but hk4 (show ¬ _ = _ by have := hb1.lt; omega)) rfl rfl (one_in _ _ _ rfl) ?_; intro w5 hb5 hk5 hx; clear hx))
  refine bodyPost_ret (res_two (fn := Try.f85) (p := 4) (u := 5) rfl _ _ rfl rfl hb5 Try.underlying98 (by kernel_rfl)) rfl ?_
  exact ⟨_, none, 0, 0, rfl, ⟨a, true, rfl, ha, rfl⟩, rfl, OB.nil _ _, (((he1.trans he2).trans he3).of_but hk4 (fun k e => by subst e; exact Nat.le_refl _)).of_but hk5 (fun k e => by subst e; exact he1.size)⟩
 have hd1 : decide (n > (L : Int)) = false := decide_eq_false h1
 obtain ⟨m, rfl⟩ : ∃ m : Nat, n = (m : Int) := ⟨n.toNat, by omega⟩
 rw [takeS_yes (by omega) (by omega), Int.toNat_natCast]
 obtain ⟨a2, ha2⟩ : ∃ a2, a2 = a + m := ⟨_, rfl⟩
 have hadd3 : wrap64 (a2 : Int) = (a2 : Int) := by unfold wrap64; omega
 have hadd2 : (a : Int) + (m : Int) = (a2 : Int) := by omega
 have ha12 : a ≤ a2 := by omega
 have ha2B : a2 ≤ B.length := by omega
 have ha2c : a2 ≤ bc := by have := HBC.out; omega
 have HA2 : Hid (a2 = a + m) := ha2
 have hmL : m ≤ L := by omega
 have hmL2 : (m : Int) ≤ (L : Int) := by omega
 have hmL3 : decide (L < m) = false := decide_eq_false (by omega)
 rw [← ha2]
 clear hLv ha2 h0 h1
 obtain ⟨sa, hsf, hsb⟩ := sliced_form ba a a2 bc
 have HSF : Hid (sliced ba a a2 bc 1 = .slice sa (a2 - a) (bc - a)) := hsf
 clear hsf hsb
 go_enter Try.func85, Try.ntmps85
 go_wp2_with (first
  | (refine wl_box (C := #[.slice ba B.length bc, .int .i64 (a : Int), .bool false]) rfl rfl rfl ?_; intro w1 hb1 he1 hx; clear hx)
  | (refine wl_alloc rfl rfl zeroI ?_; intro w2 hb2 he2 hx; clear hx; have hb1' := hb1.ext he2; have c0 := hb1'.cell 0; have c1 := hb1'.cell 1; have c2 := hb1'.cell 2)
  | (go_at_call 86; refine (refLeft_any ⟨a, false, rfl, ha, rfl⟩ (HB.out.ext (he1.trans he2)) HL.out).mono ?_; rintro e w3 ⟨rfl, he3⟩; rw [hLf]; have HB3 : Hid (Blk (w3.alloc (.cells #[] 5)) w.heap.size #[.slice ba B.length bc, .int .i64 (a : Int), .bool false] 98) := (hb1'.ext he3).ext (Ext.alloc _ _); have d0 := HB3.out.cell 0; have d1 := HB3.out.cell 1)
  | (refine wpList_of_run rfl (exec_slice_lh byteT rfl _ ba B.length bc a a2 .i64 .i64 rfl rfl (by first | rfl | go_simp) ha12 ha2c) ?_; rw [HSF.out])
  | (at_builtin; refine wl_app (l := []) (m := (B.drop a).take m) (v := .slice (some ⟨w3.heap.size, 0, none⟩) 0 0) (u := .slice sa (a2 - a) (bc - a)) (base := w3.heap.size) rfl rfl rfl rfl (OB.lit0 w3 _ _ rfl (Nat.le_refl _)) (by have := (HB.out.ext ((he1.trans he2).trans (he3.trans (Ext.alloc w3 (.cells #[] 5))))).sliced a a2 ha12 ha2B; rw [HSF.out, List.drop_take, show a2 - a = m by have := HA2.out; omega] at this; rwa [show a2 - a = m by have := HA2.out; omega]) (by have := HL.out; simp; omega) (by simp) ?_; intro oa on oc w4 hn4 ho4 hk4 hg4; rw [List.nil_append] at ho4; have HE4 : Hid (Ext w3 w4) := (Ext.alloc _ _).of_but hk4 (fun k e => by cases e; exact Nat.le_refl _); have hb4 := (hb1'.ext he3).ext HE4.out; have f1 := hb4.cell 1; have HB4 : Hid (Blk w4 w.heap.size #[.slice ba B.length bc, .int .i64 (a : Int), .bool false] 98) := hb4; clear hb4)
  | (refine wl_set (v := .int .i64 (a2 : Int)) rfl one3 rfl rfl (by first | rfl | go_simp | simp [go_sem, hadd2, hadd3]) rfl rfl HB4.out (by simp) ?_; intro w5 hb5 hk5 hx; clear hx)
  | (have q := hk5; clear q; refine wl_load rfl rowI rfl rfl hb5 rfl ?_)
  | (refine wl_store (D := #[.slice ba B.length bc, .int .i64 (a2 : Int), .bool false]) rfl rowI rfl rfl rfl (((hb2.ext he3).ext HE4.out).but hk5 (show ¬ _ = _ by have := hb1.lt; omega)) rfl rfl (one_in _ _ _ rfl) ?_; intro w6 hb6 hk6 hx; clear hx))
 refine bodyPost_ret (res_two (fn := Try.f85) (p := 4) (u := 5) rfl _ _ rfl rfl hb6 Try.underlying98 (by kernel_rfl)) rfl ?_
 have hw13 : w.heap.size ≤ w3.heap.size := Nat.le_trans he1.size (Nat.le_trans he2.size he3.size)
 have o5 := ho4.but hk5 (fun k e e2 => by have := (ho4.lt e).1; have := hb1.lt; have := he2.size; have := he3.size; omega)
 have o6 := o5.but hk6 (fun k e e2 => by have := (ho4.lt e).1; have := hb2.lt; have := he3.size; omega)
 exact ⟨_, oa, on, oc, rfl, ⟨a2, false, rfl, ha2B, rfl⟩, by rw [hn4.out]; simp, o6.base hw13, ((((he1.trans he2).trans he3).trans HE4.out).of_but hk5 (fun k e => by subst e; exact Nat.le_refl _)).of_but hk6 (fun k e => by subst e; exact he1.size)⟩
def hdK (B : List Nat) : Nat := (numS B (some 0) 1).2
def hdS1 (B : List Nat) : Option Nat := (numS B (some 0) 1).1
def hdF (B : List Nat) : Nat := (numS B (hdS1 B) 1).2
def hdS2 (B : List Nat) : Option Nat := (numS B (hdS1 B) 1).1
def hdL (B : List Nat) : Nat := (numS B (hdS2 B) 2).2
def hdS3 (B : List Nat) : Option Nat := (numS B (hdS2 B) 2).1
def hdV (B : List Nat) : List Nat := (takeS B (hdS3 B) ((hdL B : Int) - 4)).2
theorem noCk : NoList 38 := ⟨by decide, by decide, by decide, by decide, by decide⟩
theorem onePI : OneT Try.prog 88 := ⟨⟨_, Try.underlying88, rfl⟩, by kernel_rfl⟩
theorem zeroRd : (Try.prog.info? 91).bind (·.zero) = some (.agg (RV (ck0 0) sv0 (.pointer none))) := by kernel_rfl
theorem InAt.lower {w : World} {base base' g : Nat} {bv : Value} {B : List Nat} {s : Option Nat} (h : InAt w base g bv B s) (hb : base' ≤ base) : InAt w base' g bv B s := ⟨h.own.base hb, h.blk⟩
theorem fit0 {k : Nat} (h : k < 256) : Fit (ck0 (k : Int)) := by
 constructor <;> simp [ck0, W64]
 omega
def ReadIs (w : World) (B : List Nat) (d : Ck) (e : Ending) (w' : World) : Prop :=
 Ext w w' ∧ ((goodB d = true ∧ bytesB d = B ∧ Fit d ∧ ∃ s, e = .returned (.tuple #[.agg (CV d s), .nilIface]) ∧ CkAt w' s d) ∨ (¬ (goodB d = true ∧ bytesB d = B) ∧ e = .returned (.tuple #[.agg (CV (ck0 0) sv0), errF])))
theorem readC_of {w : World} {v : Value} {B : List Nat} (hv : BytesAt w v B) (hB : B.length ≤ 1000000) (d : Ck)
  (hd : ∀ (w0 w' : World) (q : Nat), RS w0 w' q (ck0 (hdK B : Int)) sv0 (hdV B) (some 0) → Calls Try.prog 42 #[ptr q, .int .u64 (hdF B : Int)] w' (ValueC w0 q d (hdV B))) :
  Calls Try.prog 17 #[v] w (ReadIs w B d) := by
 have HD : Hid (∀ (w0 w' : World) (q : Nat), RS w0 w' q (ck0 (hdK B : Int)) sv0 (hdV B) (some 0) → Calls Try.prog 42 #[ptr q, .int .u64 (hdF B : Int)] w' (ValueC w0 q d (hdV B))) := hd
 obtain ⟨a0, c0, rfl, _, _⟩ := hv.form
 rename_i z1 z2
 clear z1 z2 hd
 have HV : Hid (BytesAt w (.slice a0 B.length c0) B ∧ B.length ≤ 1000000) := ⟨hv, hB⟩
 have HK : Hid (hdK B < 256) := numS_u8 hv.1 _
 have hL : hdL B < 65536 := numS2_lt hv.1 _
 have wK : IntKind.i64.wrap (hdK B : Int) = (hdK B : Int) := by rw [IntKind.wrap_i64]; have := HK.out; omega
 have wL : IntKind.i64.wrap (hdL B : Int) = (hdL B : Int) := by rw [IntKind.wrap_i64]; omega
 have wM : IntKind.i64.wrap ((hdL B : Int) - 4) = (hdL B : Int) - 4 := by rw [IntKind.wrap_i64]; omega
 have HVl : Hid ((hdV B).length ≤ 1000000) := Nat.le_trans (takeS_len _ _ _) hB
 clear hv hB
 go_enter Try.func17, Try.ntmps17
 go_wp2_with (first
  | (refine wl_alloc rfl rfl zeroC ?_; intro w1 hb1 he1 hx; clear hx)
  | (refine wl_alloc rfl rfl zeroRd ?_; intro w3 hb3 he3 hx; clear hx; have hi3 := hin1.ext he3; have HG : Hid (g1 ≠ w2.heap.size ∧ w1.heap.size ≤ g1 ∧ Ext w1 w3) := ⟨Nat.ne_of_lt hin1.lt, hlo1, he2.trans he3⟩; clear he3)
  | (have q := hi8; clear q; go_at_call 39; refine (read_any ho8.bytes HVl.out).mono ?_; rintro e w9 ⟨gi, bv, rfl, hlo9, hin9, he9⟩)
  | (go_at_call 39; refine (read_any (HV.out.1.ext he1) HV.out.2).mono ?_; rintro e w2 ⟨g1, bv1, rfl, hlo1, hin1, he2⟩)
  | (have q := hi7; clear q; go_at_call 41; refine (inTake_any hi7 HV.out.2 ((hdL B : Int) - 4)).mono ?_; rintro e w8 ⟨a8, m8, c8, rfl, hm8, ho8, hi8, hk8⟩; clear hm8; change OB w8 w7.heap.size (.slice a8 m8 c8) (hdV B) at ho8; have hb8 := hb7.but hk8 (show ¬ _ = _ from fun e => HG.out.1 e.symm))
  | (have q := hi6; clear q; go_at_call 40; refine (inNum_any hi6 HV.out.2 2).mono ?_; rintro e w7 ⟨rfl, hi7, hk7⟩; rw [show (numS B (hdS2 B) 2).2 = hdL B from rfl]; change InAt w7 _ _ _ _ (hdS3 B) at hi7; have hb7 := hb6.but hk7 (show ¬ _ = _ from fun e => HG.out.1 e.symm))
  | (have q := hb5; clear q; go_at_call 40; refine (inNum_any hi5 HV.out.2 1).mono ?_; rintro e w6 ⟨rfl, hi6, hk6⟩; rw [show (numS B (hdS1 B) 1).2 = hdF B from rfl]; change InAt w6 _ _ _ _ (hdS2 B) at hi6; have hb6 := hb5.but hk6 (show ¬ _ = _ from fun e => HG.out.1 e.symm))
  | (go_at_call 40; refine (inNum_any hi3 HV.out.2 1).mono ?_; rintro e w4 ⟨rfl, hi4, hk4⟩; rw [show (numS B (some 0) 1).2 = hdK B from rfl]; change InAt w4 _ _ _ _ (hdS1 B) at hi4; have hb4 := hb3.but hk4 (show ¬ _ = _ from fun e => HG.out.1 e.symm))
  | (have q := hin9; clear q; refine wl_set (v := ptr gi) rfl onePI rfl rfl rfl rfl rfl (hb8.ext he9) (of_decide_eq_true rfl) ?_; intro w10 hb10 hk10 hx; clear hx; have HR : Hid (RS w1 w10 w2.heap.size (ck0 (hdK B : Int)) sv0 (hdV B) (some 0)) := ⟨((((((HG.out.2.2.of_but hk4 (fun k e => by subst e; exact HG.out.2.1)).of_but hk5 (fun k e => by subst e; exact he2.size)).of_but hk6 (fun k e => by subst e; exact HG.out.2.1)).of_but hk7 (fun k e => by subst e; exact HG.out.2.1)).of_but hk8 (fun k e => by subst e; exact HG.out.2.1)).trans he9).of_but hk10 (fun k e => by subst e; exact he2.size), he2.size, OwnC.nil _ _ _, fit0 HK.out, gi, bv, hb10, Nat.ne_of_gt (Nat.lt_of_lt_of_le hb8.lt hlo9), Nat.le_trans (Nat.le_trans he2.size (Nat.le_of_lt hb8.lt)) hlo9, (hin9.lower (Nat.le_trans he2.size (Nat.le_of_lt hb8.lt))).but hk10 (Nat.ne_of_gt (Nat.lt_of_lt_of_le hb8.lt hlo9)) (hin9.own.ne (hb8.ext he9) (by decide))⟩)
  | (refine wl_set (v := .int .i64 (hdK B : Int)) rfl one3 rfl rfl rfl rfl rfl hb4 (of_decide_eq_true rfl) ?_; intro w5 hb5' hk5 hx; clear hx; have hb5 : Blk w5 w2.heap.size (RV (ck0 (hdK B : Int)) sv0 (.pointer none)) 91 := hb5'; have hi5 := hi4.but hk5 (show ¬ _ = _ from HG.out.1) (hi4.own.ne hb4 (by decide)); clear hb5')
  | (go_at_call 42; refine (HD.out _ _ _ HR.out).mono ?_; rintro e w11 ⟨⟨y11, rfl⟩, s', st', HS0⟩; have HS : Hid (RS w1 w11 w2.heap.size d s' (hdV B) st') := HS0; clear HS0; obtain ⟨gi2, bv2, hb11, _, _, _⟩ := HS.out.rd)
  | (have q := HS; clear q; refine wl_loadM rfl rowC rfl rfl hb11 (CV d s').toList (RV.chunk d s' _) rfl ?_)
  | (go_at_call 10; refine (bytesC_any (c := d) (s := s') HS.out.own.at HS.out.fit).mono ?_; rintro e w12 ⟨he12, ⟨hgf, rfl⟩ | ⟨hgt, az, nz, cz, rfl, hnz, hoz⟩⟩; all_goals (try clear hnz))
  | (go_at_call 43; refine (equal_any hoz.bytes (HV.out.1.ext ((he1.trans HS.out.ext).trans he12))).mono ?_; rintro e w13 ⟨rfl, he13⟩; have HE13 : Hid (Ext w12 w13) := he13; clear he13; cases hbq : decide (bytesB d = B))
  | (refine wl_loadM rfl rowC rfl rfl (hb11.ext (he12.trans HE13.out)) (CV d s').toList (RV.chunk d s' _) rfl ?_)
  | (refine wl_store (D := CV d s') rfl rowC rfl rfl rfl (hb1.ext (HS.out.ext.trans (he12.trans HE13.out))) rfl rfl (CV.one _ _) ?_; intro w14 hb14 hk14 hx; clear hx)
  | (refine wl_store (D := CV (ck0 0) sv0) rfl rowC rfl rfl rfl (hb1.ext (HS.out.ext.trans (he12.trans HE13.out))) rfl rfl (CV.one _ _) ?_; intro w14 hb14 hk14 hx; clear hx)
  | (have q := hgf; clear q; refine wl_store (D := CV (ck0 0) sv0) rfl rowC rfl rfl rfl (hb1.ext (HS.out.ext.trans he12)) rfl rfl (CV.one _ _) ?_; intro w14 hb14 hk14 hx; clear hx))
 ·
  refine bodyPost_ret (res_two (fn := Try.f17) (p := 2) (u := 3) rfl _ _ rfl rfl hb14 Try.underlying38 (by kernel_rfl)) rfl ?_
  exact ⟨((he1.trans HS.out.ext).trans he12).of_but hk14 (fun k e => by subst e; exact Nat.le_refl _), .inr ⟨fun h => absurd h.1 (by rw [hgf]; decide), rfl⟩⟩
 ·
  refine bodyPost_ret (res_two (fn := Try.f17) (p := 2) (u := 3) rfl _ _ rfl rfl hb14 Try.underlying38 (by kernel_rfl)) rfl ?_
  exact ⟨(((he1.trans HS.out.ext).trans he12).trans HE13.out).of_but hk14 (fun k e => by subst e; exact Nat.le_refl _), .inr ⟨fun h => of_decide_eq_false hbq h.2, rfl⟩⟩
 ·
  refine bodyPost_ret (res_two (fn := Try.f17) (p := 2) (u := 3) rfl _ _ rfl rfl hb14 Try.underlying38 (by kernel_rfl)) rfl ?_
  have HO := (HS.out.own.ext (he12.trans HE13.out)).but hk14 (hb1.ext (HS.out.ext.trans (he12.trans HE13.out))) noCk
  exact ⟨(((he1.trans HS.out.ext).trans he12).trans HE13.out).of_but hk14 (fun k e => by subst e; exact Nat.le_refl _), .inl ⟨hgt, of_decide_eq_true hbq, HS.out.fit, s', rfl, HO.at⟩⟩
end Tlv
end Go.Proofs.Ytigocaconkbalaa
namespace Go.Proofs.Ytigocaconkbalaa
open Go
section
variable {P : Program} {mk : Tmp → Option Nat} {init : List Oper} {ol : Oper} {a0 : Act} {V : Nat → Value → Prop} {Q : Exit → Act → World → Prop} {n : Nat}
theorem stagedL_any (hsh : shapeB mk init n = true) (hn : a0.tmps.size = n) (wr : List Nat) (Ws : Nat → World)
  (hinj : ∀ i j, i < wr.length → j < wr.length → wr.getD i 0 = wr.getD j 0 → i = j)
  (hch : ∀ j o, j + 1 < wr.length → init[wr.getD (j + 1) 0]? = some o → afterB o (wr.getD j 0) = true)
  (hgu : ∀ (i : Nat) o, init[i]? = some o → o.guard = none) (x : Operand) (hol : ol.op = .assign x) (hgl : ol.guard = none)
  (hla : ∀ i, i < init.length → afterB ol i = true ∨ ∃ (j : Nat) (oj : Oper), (init ++ [ol])[j]? = some oj ∧ afterB ol j = true ∧ afterB oj i = true)
  (hlb : ∀ e ∈ ol.after, Region.binds .any e = true → e.on < init.length)
  (hG : ∀ i o, init[i]? = some o → (∀ j, j < wr.length → wr.getD j 0 ≠ i) → ∀ k, k ≤ wr.length → GoodS P mk a0 V i o (Ws k) (Ws k))
  (hWr : ∀ k o, k < wr.length → init[wr.getD k 0]? = some o → GoodS P mk a0 V (wr.getD k 0) o (Ws k) (Ws (k + 1)))
  (hQ : ∀ a w (listed : Array Bool), (∀ i, i < init.length → listed.getD i false = true) → SInv init a0 V wr Ws listed a w → Q .normal (a.put ol.dst (a.eval x)) w) :
  ∀ (fuel : Nat) (listed : Array Bool) (a : Act) (w : World), listed.size = init.length + 1 → listed.countP (· == false) ≤ fuel → listed.getD init.length true = false →
   (∀ (j : Nat) oj, (init ++ [ol])[j]? = some oj → listed.getD j false = true → ∀ e ∈ oj.after, Region.binds .any e = true → listed.getD e.on false = true) → SInv init a0 V wr Ws listed a w → wpAny P .any (init ++ [ol]).toArray Q fuel listed a w := by
 have lt_of : ∀ {listed : Array Bool} {i : Nat}, listed.getD i true = false → i < listed.size := fun {listed i} h => by
  rcases Nat.lt_or_ge i listed.size with h' | h'
  ·
   exact h'
  ·
   simp [Array.getElem?_eq_none h'] at h
 have some_ready : ∀ (listed : Array Bool), listed.size = init.length + 1 → listed.getD init.length true = false → Region.ready .any (init ++ [ol]).toArray listed ≠ [] := by
  intro listed hs hl hr
  have key : ∀ i, i < init.length → listed.getD i false = true := by
   intro i
   induction i using Nat.strongRecOn with
   | _ i ih =>
    intro hi
    cases hb : listed.getD i false with
    | true => rfl
    | false =>
     exfalso
     have ho : init[i]? = some init[i] := by simp [hi]
     have : i ∈ Region.ready .any (init ++ [ol]).toArray listed := by
      rw [mem_ready]
      refine ⟨by simpa [hs, show i < init.length + 1 by omega] using hb, init[i], by simp [List.getElem?_append_left hi, hi], fun e he hbi => ?_⟩
      have hsp := shape_spec hsh ho
      simp only [shapeOneB, Bool.and_eq_true] at hsp
      have h5 := Array.all_eq_true_iff_forall_mem.1 hsp.2 e he
      simp [hbi] at h5
      exact ih e.on h5 (by omega)
     rw [hr] at this
     cases this
  have : init.length ∈ Region.ready .any (init ++ [ol]).toArray listed := by
   rw [mem_ready]
   exact ⟨hl, ol, by simp, fun e he hb => key _ (hlb e he hb)⟩
  rw [hr] at this
  cases this
 intro fuel
 induction fuel with
 | zero =>
  intro listed a w hs hc hl hcl hI
  exfalso
  have hlt := lt_of hl
  have h1 : listed.countP (· == false) = 0 := by omega
  rw [Array.countP_eq_zero] at h1
  have h2 : listed[init.length] = false := by simpa [hlt] using hl
  have := h1 listed[init.length] (Array.getElem_mem hlt)
  simp [h2] at this
 | succ fuel ih =>
  intro listed a w hs hc hl hcl hI
  refine ⟨fun hr => absurd hr (some_ready listed hs hl), fun i hi => ?_⟩
  obtain ⟨hli, o, ho', hall⟩ := mem_ready.1 hi
  have hoA : (init ++ [ol])[i]? = some o := by simpa using ho'
  unfold wpOp
  simp only [ho']
  by_cases hil : i = init.length
  ·
   subst hil
   have : o = ol := by simpa using hoA.symm
   subst this
   have hothers : ∀ j, j < init.length → listed.getD j false = true := fun j hj => by
    rcases hla j hj with h1 | ⟨j2, oj, hoj, h1, h2⟩
    ·
     obtain ⟨e, he, hb, rfl⟩ := after_spec h1
     exact hall e he hb
    ·
     obtain ⟨e, he, hb, rfl⟩ := after_spec h1
     obtain ⟨e2, he2, hb2, rfl⟩ := after_spec h2
     exact hcl e.on oj hoj (hall e he hb) e2 he2 hb2
   simp only [Region.wanted, hgl, if_true]
   refine .inl (give_wp (K := fun v w' => v = a.eval x ∧ w' = w) (give_move (.inr hol) ⟨rfl, rfl⟩) fun v w' ⟨hv, hw⟩ => ?_)
   subst hv hw
   have hq : Q .normal (a.put o.dst (a.eval x)) w' := hQ a w' listed hothers hI
   have hnil : Region.ready .any (init ++ [o]).toArray (listed.setIfInBounds init.length true) = [] := by
    cases hr : Region.ready .any (init ++ [o]).toArray (listed.setIfInBounds init.length true) with
    | nil => rfl
    | cons j js =>
     exfalso
     have hj : j ∈ Region.ready .any (init ++ [o]).toArray (listed.setIfInBounds init.length true) := by rw [hr]; simp
     have h0 := (mem_ready.1 hj).1
     have hlt := lt_of h0
     simp [hs] at hlt
     by_cases e : j = init.length
     ·
      subst e; simp [hs] at h0
     ·
      have := hothers j (by omega)
      rw [getD_set_ne true (Ne.symm e)] at h0
      simp [hs, hlt] at this h0
      rw [this] at h0; cases h0
   cases fuel with
   | zero => exact ⟨hnil, hq⟩
   | succ f => exact ⟨fun _ => hq, fun j hj => by rw [hnil] at hj; cases hj⟩
  ·
   have hil' : i < init.length := by
    rcases Nat.lt_or_ge i (init.length + 1) with h | h
    ·
     omega
    ·
     rw [List.getElem?_eq_none (by simp; omega)] at hoA; cases hoA
   have ho : init[i]? = some o := by rwa [List.getElem?_append_left hil'] at hoA
   obtain ⟨hB, k, hk, rfl, hst⟩ := hI
   have hfacts := factsOf_mk (hB.facts hsh ho hall)
   obtain ⟨k', hk', hg, hst'⟩ : ∃ k', k' ≤ wr.length ∧ GoodS P mk a0 V i o (Ws k) (Ws k') ∧ ∀ j, j < wr.length → (listed.setIfInBounds i true).getD (wr.getD j 0) false = decide (j < k') := by
    by_cases hw : ∃ j, j < wr.length ∧ wr.getD j 0 = i
    ·
     obtain ⟨j, hj, hji⟩ := hw
     have hnl : listed.getD (wr.getD j 0) false = false := by rw [hji]; exact getD_false hli
     have hjk : ¬ j < k := by
      intro h
      rw [hst j hj, decide_eq_true h] at hnl
      cases hnl
     have hkj : j = k := by
      rcases Nat.lt_or_ge k j with h | h
      ·
       exfalso
       obtain ⟨j', rfl⟩ : ∃ j', j = j' + 1 := ⟨j - 1, by omega⟩
       have ha := hch j' o hj (by rw [hji]; exact ho)
       obtain ⟨e, he, hb, hon⟩ := after_spec ha
       have h2 := hall e he hb
       rw [hon, hst j' (by omega)] at h2
       have : j' < k := of_decide_eq_true h2
       omega
      ·
       omega
     subst hkj
     refine ⟨j + 1, by omega, by rw [← hji]; exact hWr j o hj (by rw [hji]; exact ho), fun j2 hj2 => ?_⟩
     by_cases e : j2 = j
     ·
      subst e
      rw [hji, getD_set_self hli]
      exact (decide_eq_true (by omega)).symm
     ·
      rw [getD_set_ne false (fun h => e (hinj j2 j hj2 hj (by rw [← h, hji]))), hst j2 hj2]
      congr 1
      simp only [eq_iff_iff]; omega
    ·
     have hne : ∀ j, j < wr.length → wr.getD j 0 ≠ i := fun j hj e => hw ⟨j, hj, e⟩
     exact ⟨k, hk, hG i o ho hne k hk, fun j hj => by rw [getD_set_ne false (hne j hj).symm, hst j hj]⟩
   have hg := hg a.eval hfacts
   have hgd := hgu i o ho
   have next : ∀ v w', w' = Ws k' ∧ V i v → wpAny P .any (init ++ [ol]).toArray Q fuel (listed.setIfInBounds i true) (a.put o.dst v) w' := fun v w' ⟨h1, h2⟩ => by
    subst h1
    refine ih _ _ _ (by simp [hs]) (count_set hli hc) (by rw [getD_set_ne true hil]; exact hl) ?_ ⟨hB.put hsh hn (fun _ _ _ _ _ h => h) (fun _ _ _ _ _ => trivial) ho hli trivial h2, k', hk', rfl, hst'⟩
    intro j oj hoj hlj e he hb
    have keep : ∀ x, listed.getD x false = true → (listed.setIfInBounds i true).getD x false = true := fun x hx => by
     by_cases e' : i = x
     ·
      subst e'; exact absurd (getD_false2 hli) (by rw [hx]; simp)
     ·
      rw [getD_set_ne false e']; exact hx
    by_cases e' : i = j
    ·
     subst e'
     rw [hoA] at hoj; cases hoj
     exact keep _ (hall e he hb)
    ·
     rw [getD_set_ne false e'] at hlj
     exact keep _ (hcl j oj hoj hlj e he hb)
   simp only [hgd] at hg
   simp only [Region.wanted, hgd, if_true]
   exact .inl (give_wp hg next)
end
def stageLB (ops : List Oper) : Bool := match ops[ops.length - 1]? with
 | none => false
 | some o => decide (0 < ops.length) && o.guard.isNone && (ops.dropLast.all fun p => p.guard.isNone) && (o.after.all fun e => !(Region.binds .any e) || decide (e.on < ops.length - 1)) &&
  (List.range (ops.length - 1)).all fun i => afterB o i || (List.range (ops.length - 1)).any fun j => match ops[j]? with | none => false | some oj => afterB o j && afterB oj i
theorem wp_region_stagedL {P : Program} {ops : List Oper} {a0 : Act} {Q : Exit → Act → World → Prop} {id : Nat} {w : World} (mk : Tmp → Option Nat) (n : Nat) (wr : List Nat) (Ws : Nat → World) (Vs : List (Value → Prop)) (hne : ops ≠ []) (t : Tmp) (jx d : Nat) (hx : (ops.getLast hne).op = .assign (.tmp t)) (hd : (ops.getLast hne).dst = some d) (hj : (ops.dropLast[jx]?).map (·.dst) = some (some t))
  (hlen : Vs.length = ops.dropLast.length) (hm : P.follows .mixedOrders = true) (hsh : shapeB mk ops.dropLast n = true) (hn : a0.tmps.size = n) (hch : chainB ops.dropLast wr = true) (ho : onceB wr = true) (hL : stageLB ops = true) (hW0 : Ws 0 = w.drew)
  (hG : GoodSAll P mk a0 (fun i => Vs.getD i fun _ => True) wr Ws 0 ops.dropLast)
  (hQ : ∀ (vs : Nat → Value) (aP : Act), (∀ i, i < Vs.length → (Vs.getD i fun _ => True) (vs i)) → aP = putAll vs ops.dropLast 0 a0 → Q .normal (aP.put (some d) (vs jx)) (Ws wr.length)) :
  (Code.region id ops.toArray true).wp P Q a0 w := by
 have e : ops.dropLast ++ [ops.getLast hne] = ops := List.dropLast_concat_getLast hne
 generalize ops.getLast hne = ol at *
 generalize ops.dropLast = init at *
 subst e
 refine wp_region_any hm ?_
 have hidx : ∀ i, i < wr.length → wr.idxOf (wr.getD i 0) = i := fun i hi => by
  have := List.all_eq_true.1 ho i (List.mem_range.2 hi)
  simpa using this
 have hmem : ∀ i, i < wr.length → wr.contains (wr.getD i 0) = true := fun i hi => by
  rw [List.contains_iff_mem]; simp [List.getD_eq_getElem?_getD, hi]
 unfold stageLB at hL
 rw [show (init ++ [ol]).length - 1 = init.length by simp, show (init ++ [ol])[init.length]? = some ol by simp] at hL
 simp only [Bool.and_eq_true, List.all_eq_true, List.mem_range, Option.isNone_iff_eq_none, decide_eq_true_eq, List.dropLast_concat] at hL
 obtain ⟨⟨⟨⟨_, h2⟩, h3⟩, h4⟩, h5⟩ := hL
 have h := stagedL_any (P := P) (init := init) (ol := ol) (a0 := a0) (V := fun i => Vs.getD i fun _ => True) (Q := Q) (n := n) hsh hn wr Ws
  (fun i j hi hj e => by rw [← hidx i hi, e, hidx j hj])
  (fun j o hj hoj => by
   have := List.all_eq_true.1 hch (j + 1) (List.mem_range.2 hj)
   simp only [hoj] at this
   simpa using this)
  (fun i o hi => h3 o (List.mem_of_getElem? hi)) (.tmp t) hx h2
  (fun i hi => by
   have := h5 i hi
   rw [Bool.or_eq_true] at this
   rcases this with h | h
   ·
    exact .inl h
   ·
    obtain ⟨j, hj, h2⟩ := List.any_eq_true.1 h
    cases hoj : (init ++ [ol])[j]? with
    | none => rw [hoj] at h2; cases h2
    | some oj =>
     rw [hoj] at h2
     simp only [Bool.and_eq_true] at h2
     exact .inr ⟨j, oj, hoj, h2.1, h2.2⟩)
  (fun e he hb => by
   have := Array.all_eq_true_iff_forall_mem.1 h4 e he
   simpa [hb] using this)
  (fun i o hi hnw k hk => by
   have := hG.at i o hi
   rw [Nat.zero_add, if_neg (by
    intro hc
    have hi2 : i ∈ wr := by simpa using hc
    obtain ⟨j, hj, e⟩ := List.getElem_of_mem hi2
    exact hnw j hj (by simp [List.getD_eq_getElem?_getD, hj, e]))] at this
   exact this k hk)
  (fun k o hk hko => by
   have := hG.at _ o hko
   rw [Nat.zero_add, if_pos (hmem k hk), hidx k hk] at this
   exact this)
  (fun a w' listed hlist hI => by
   obtain ⟨hB, k, hk, rfl, hst⟩ := hI
   have hkw : k = wr.length := by
    rcases Nat.lt_or_ge k wr.length with h | h
    ·
     exfalso
     have h1 := hst k h
     have hin : wr.getD k 0 < init.length := by
      have := List.all_eq_true.1 hch k (List.mem_range.2 h)
      rcases Nat.lt_or_ge (wr.getD k 0) init.length with h' | h'
      ·
       exact h'
      ·
       rw [List.getElem?_eq_none h'] at this; cases this
     rw [hlist _ hin] at h1
     simp at h1
    ·
     omega
   subst hkw
   have hB' : Inv init a0 (fun _ _ => True) (fun j _ v => (Vs.getD j fun _ => True) v) (Ws 0) (Array.replicate init.length true) a (Ws wr.length) := by
    refine ⟨trivial, hB.defers, hB.size, fun t ht => ?_, fun i o hi _ => ?_⟩
    ·
     refine hB.rest t fun i o hi hd => ?_
     have := ht i o hi hd
     have hlt : i < init.length := by
      rcases Nat.lt_or_ge i init.length with h' | h'
      ·
       exact h'
      ·
       simp [List.getElem?_eq_none h'] at hi
     simp [hlt] at this
    ·
     have hlt : i < init.length := by
      rcases Nat.lt_or_ge i init.length with h' | h'
      ·
       exact h'
      ·
       simp [List.getElem?_eq_none h'] at hi
     exact hB.done i o hi (hlist i hlt)
   obtain ⟨vs, rfl, hv⟩ := hB'.whole hsh hn
   obtain ⟨oj, hoj, hdj⟩ := Option.map_eq_some_iff.1 hj
   have hs := shape_spec hsh hoj
   simp only [shapeOneB, hdj, Bool.and_eq_true, decide_eq_true_eq] at hs
   have he : (putAll vs init 0 a0).eval (.tmp t) = vs jx := by
    have := putAll_at vs t init 0 a0 jx oj hoj hdj (by rw [hn]; exact hs.1.2.2) (fun k' o' hk' hd' => shape_dst hsh hk' hoj hd' hdj)
    rw [Nat.zero_add] at this
    simp [Act.eval, this]
   rw [hd, he]
   exact hQ vs _ (fun i hi => hv i (by omega)) rfl)
  (init ++ [ol]).length (Array.replicate (init ++ [ol]).length false) a0 w.drew (by simp) (by
   have := Array.countP_le_size (p := (· == false)) (xs := Array.replicate (init ++ [ol]).length false)
   simpa using this) (by simp) (fun j oj hoj hl => by
    exfalso
    by_cases h : j < (init ++ [ol]).length
    ·
     rw [Array.getD_eq_getD_getElem?, Array.getElem?_replicate, if_pos h] at hl; cases hl
    ·
     rw [Array.getD_eq_getD_getElem?, Array.getElem?_replicate, if_neg h] at hl; cases hl)
  ⟨⟨trivial, rfl, rfl, fun _ _ => rfl, fun i o hi hl => by
    exfalso
    by_cases h : i < (init ++ [ol]).length
    ·
     rw [Array.getD_eq_getD_getElem?, Array.getElem?_replicate, if_pos h] at hl; cases hl
    ·
     rw [Array.getD_eq_getD_getElem?, Array.getElem?_replicate, if_neg h] at hl; cases hl⟩, 0, Nat.zero_le _, hW0.symm, fun j hj => by
    have hin : wr.getD j 0 < (init ++ [ol]).length := by
     have := List.all_eq_true.1 hch j (List.mem_range.2 hj)
     rcases Nat.lt_or_ge (wr.getD j 0) init.length with h' | h'
     ·
      rw [List.length_append]; exact Nat.lt_of_lt_of_le h' (Nat.le_add_right _ _)
     ·
      rw [List.getElem?_eq_none h'] at this; cases this
    rw [Array.getD_eq_getD_getElem?, Array.getElem?_replicate, if_pos hin]
    simp⟩
 simpa using h
end Go.Proofs.Ytigocaconkbalaa
namespace Go.Proofs.Ytigocaconkbalaa
namespace Tlv
open Go Go.RowKit
theorem parT2 : ParT 82 85 := ⟨Try.underlying82, by kernel_rfl, by decide⟩
def RefParamsIs (w : World) (B : List Nat) (e : Ending) (w' : World) : Prop :=
 Ext w w' ∧ ((readAll B = none ∧ e = .returned (.tuple #[.slice none 0 0, .bool false])) ∨ ∃ L lv, readAll B = some L ∧ e = .returned (.tuple #[lv, .bool true]) ∧ OwnL 85 w' w.heap.size lv L)
def ws6 (a b c d e f : World) : Nat → World
 | 0 => a
 | 1 => b
 | 2 => c
 | 3 => d
 | 4 => e
 | _ => f
theorem ws6_ext {w a b c d e f : World} (h0 : Ext w a) (h1 : Ext w b) (h2 : Ext w c) (h3 : Ext w d) (h4 : Ext w e) (h5 : Ext w f) (k : Nat) : Ext w (ws6 a b c d e f k) := by
 match k with
 | 0 => exact h0
 | 1 => exact h1
 | 2 => exact h2
 | 3 => exact h3
 | 4 => exact h4
 | k + 5 => exact h5
theorem exec_runP {r : Operand → Value} {o : Oper} {s x : Operand} {t : TypeId} (ho : o.op = .call { callee := .builtin .append, args := #[s, x], argTypes := #[t, t] }) {w w' : World} {v u z : Value} (hs : r s = v) (hx : r x = u) (hr : (Builtin.append_ #[t, t] o.type #[v, u]).run Try.prog w = .ok z w') : (execOp r o).run Try.prog w = .ok (.value z) w' := by
 simp only [execOp, ho, resolve, invoke, builtin, Sem.run_bind, Sem.run_pure, Result.andThen_ok, List.map_toArray, List.map_cons, List.map_nil, hs, hx, hr]
theorem bytes_cell {w : World} {b off n c : Nat} {l : List Nat} (h : BytesAt w (.slice (some ⟨b, off, none⟩) n c) l) (j : Nat) (hj : j < l.length) : w.cell? ⟨b, off + j, none⟩ = some (.int .u8 (l.getD j 0 : Nat)) := by
 obtain ⟨a, cap, e, _, hc⟩ := h.form
 obtain ⟨b2, off2, e2, h2⟩ := hc j hj
 cases e
 cases e2
 exact h2
theorem bytes_some {w : World} {a : Option Addr} {n c : Nat} {l : List Nat} (h : BytesAt w (.slice a n c) l) (hl : 0 < l.length) : ∃ b off, a = some ⟨b, off, none⟩ := by
 obtain ⟨a2, cap, e, _, hc⟩ := h.form
 obtain ⟨b2, off2, e2, h2⟩ := hc 0 hl
 cases e
 exact ⟨b2, off2, e2⟩
theorem bytes_cap {w : World} {a : Option Addr} {n c : Nat} {l : List Nat} (h : BytesAt w (.slice a n c) l) : n = l.length ∧ n ≤ c := by
 obtain ⟨a2, cap, e, hc, _⟩ := h.form
 cases e
 exact ⟨rfl, hc.1⟩
theorem allZ_true {b : List Nat} {N A : Nat} (h : ∀ j, N ≤ j → j < A → b.getD j 0 = 0) : allZ ((b.take A).drop N) = true := by
 unfold allZ
 rw [List.all_eq_true]
 intro x hx
 obtain ⟨i, hi⟩ := List.getElem?_of_mem hx
 rw [List.getElem?_drop, List.getElem?_take] at hi
 split at hi
 ·
  rename_i hlt
  have := h (N + i) (by omega) hlt
  rw [List.getD_eq_getElem?_getD, hi] at this
  simp at this
  simp [this]
 ·
  cases hi
theorem allZ_false {b : List Nat} {N A k : Nat} (h1 : N ≤ k) (h2 : k < A) (hx : b.getD k 0 ≠ 0) : allZ ((b.take A).drop N) = false := by
 cases he : allZ ((b.take A).drop N) with
 | false => rfl
 | true =>
  refine absurd ?_ hx
  unfold allZ at he
  rw [List.all_eq_true] at he
  rcases Nat.lt_or_ge k b.length with hk | hk
  ·
   have hm : b.getD k 0 ∈ (b.take A).drop N := by
    refine List.mem_of_getElem? (i := k - N) ?_
    rw [List.getElem?_drop, List.getElem?_take, if_pos (by omega), show N + (k - N) = k by omega, List.getD_eq_getElem?_getD, List.getElem?_eq_getElem hk]
    rfl
   simpa using he _ hm
  ·
   rw [List.getD_eq_getElem?_getD, List.getElem?_eq_none hk]; rfl
theorem RdAt.bad {B : List Nat} {p : Nat} {L : List Par} (h : RdAt B (some p) L) (hp : p < B.length) (hk : okP (B.drop p) = false) : readAll B = none := by
 rcases h with ⟨h, _⟩ | ⟨a', e, h1, h2, h3, h4⟩
 ·
  cases h
 ·
  cases e
  rw [h4, readAll_bad (by intro e; have := congrArg List.length e; rw [List.length_drop] at this; simp at this; omega) hk]; rfl
theorem RdAt.all {B : List Nat} {p : Nat} {L : List Par} (h : RdAt B (some p) L) (hp : B.length ≤ p) : readAll B = some L := by
 rcases h with ⟨h, _⟩ | ⟨a', e, h1, h2, h3, h4⟩
 ·
  cases h
 ·
  cases e
  rw [h4, List.drop_eq_nil_of_le hp, readAll_nil]; simp
theorem RdAt.next {B : List Nat} {p : Nat} {L : List Par} (h : RdAt B (some p) L) (hp : p < B.length) (hk : okP (B.drop p) = true) : RdAt B (some (p + allP (B.drop p))) (L ++ [headP (B.drop p)]) := by
 have := h.step hp
 rwa [paramS_ok h.mod hk] at this
theorem okP_no {b : List Nat} (h : ¬ (4 ≤ b.length ∧ 4 ≤ lenP b ∧ lenP b ≤ 4004 ∧ allP b ≤ b.length ∧ allZ ((b.take (allP b)).drop (lenP b)) = true)) : okP b = false := by
 cases hk : okP b with
 | false => rfl
 | true => exact absurd ((okP_iff b).1 hk) h
theorem refParams_any {w : World} {v : Value} {B : List Nat} (hv : BytesAt w v B) (hB : B.length ≤ 100000) :
  Calls Try.prog 46 #[v] w (RefParamsIs w B) := by
 have HA : Hid (AllB B ∧ B.length ≤ 100000) := ⟨hv.1, hB⟩
 obtain ⟨a0, c0, rfl, _, _⟩ := hv.form
 rename_i z1 z2
 clear z1 z2
 obtain ⟨n0, hn0⟩ : ∃ n, n = B.length := ⟨_, rfl⟩
 rw [← hn0] at hv hB ⊢
 have HV : Hid (BytesAt w (.slice a0 n0 c0) B ∧ n0 = B.length) := ⟨hv, hn0⟩
 clear hv hn0
 go_enter Try.func46, Try.ntmps46
 go_wp2
 go_loopg [0, 4] n0 (fun gm x t wr => ∃ (p n : Nat) (a : Option Addr) (c : Nat) (oa : Option Addr) (on oc : Nat) (L : List Par), gm = n ∧ x = .slice a n c ∧ t = .slice oa on oc ∧ n ≤ 100000 ∧ Hid (n = B.length - p ∧ on = L.length ∧ RdAt B (some p) L ∧ BytesAt w (.slice a n c) (B.drop p) ∧ OwnL 85 wr w.heap.size (.slice oa on oc) L ∧ Ext w wr))
 case atStart => exact ⟨0, n0, _, _, none, 0, 0, [], rfl, rfl, rfl, hB, HV.out.2, rfl, RdAt.start B, HV.out.1, OwnL.nil _ _ _, Ext.refl _⟩
 case round =>
  obtain ⟨p, n, a, c, oa, on, oc, L, hgk, rfl, rfl, hn5, HR⟩ := hrel
  subst gk
  by_cases h0 : n = 0
  ·
   have hd : decide ((n : Int) > 0) = false := decide_eq_false (by omega)
   have hdn : decide (0 < n) = false := decide_eq_false (by omega)
   have HF : Hid (readAll B = some L) := HR.out.2.2.1.all (by have := HR.out.1; omega)
   clear h0
   go_wp2
   go_ret2
   exact ⟨HR.out.2.2.2.2.2, .inr ⟨L, _, HF.out, rfl, HR.out.2.2.2.2.1⟩⟩
  ·
   have hd : decide ((n : Int) > 0) = true := decide_eq_true (by omega)
   have hdn : decide (0 < n) = true := decide_eq_true (by omega)
   have hpos : 0 < n := by omega
   have HP : Hid (p < B.length ∧ (B.drop p).length = n) := ⟨by have := HR.out.1; omega, by rw [List.length_drop]; exact HR.out.1.symm⟩
   by_cases h4 : n < 4
   ·
    have hd4 : decide ((n : Int) < 4) = true := decide_eq_true (by omega)
    have HF : Hid (readAll B = none) := HR.out.2.2.1.bad HP.out.1 (okP_no (fun h => by have := HP.out.2; omega))
    clear h0 h4
    go_wp2
    go_ret2
    exact ⟨HR.out.2.2.2.2.2, .inl ⟨HF.out, rfl⟩⟩
   ·
    have hd4 : decide ((n : Int) < 4) = false := decide_eq_false (by omega)
    obtain ⟨b, off, rfl⟩ := bytes_some HR.out.2.2.2.1 (by rw [HP.out.2]; omega)
    have HBB : Hid (BytesAt w (.slice (some ⟨b, off, none⟩) n c) (B.drop p) ∧ n ≤ c) := ⟨HR.out.2.2.2.1, (bytes_cap HR.out.2.2.2.1).2⟩
    have HC : Hid (∀ j, j < n → w.cell? ⟨b, off + j, none⟩ = some (.int .u8 ((B.drop p).getD j 0 : Nat))) := fun j hj => bytes_cell HBB.out.1 j (by rw [HP.out.2]; exact hj)
    have hc2 := HR.out.2.2.2.2.2.cell (HC.out 2 (by omega))
    have hc3 := HR.out.2.2.2.2.2.cell (HC.out 3 (by omega))
    obtain ⟨D, hD⟩ : ∃ D, D = B.drop p := ⟨_, rfl⟩
    have HD : Hid (D = B.drop p ∧ AllB D ∧ D.length = n) := ⟨hD, by rw [hD]; exact HA.out.1.drop p, by rw [hD]; exact HP.out.2⟩
    rw [← hD] at HBB HC hc2 hc3
    clear hD
    have hx2 := HD.out.2.1.getD 2
    have hx3 := HD.out.2.1.getD 3
    obtain ⟨N, hN⟩ : ∃ N, N = lenP D := ⟨_, rfl⟩
    obtain ⟨AL, hAL⟩ : ∃ A, A = allP D := ⟨_, rfl⟩
    have hN0 : N = D.getD 2 0 * 256 + D.getD 3 0 := by rw [hN]; rfl
    have HN : Hid (N = lenP D ∧ AL = allP D) := ⟨hN, hAL⟩
    have hAN : AL = (N + 3) / 4 * 4 := by rw [hAL, hN]; rfl
    clear hN hAL
    generalize D.getD 2 0 = x2 at *
    generalize D.getD 3 0 = x3 at *
    obtain ⟨y2, hy2⟩ : ∃ y, y = x2 * 256 := ⟨_, rfl⟩
    obtain ⟨N3, hN3⟩ : ∃ y, y = N + 3 := ⟨_, rfl⟩
    obtain ⟨N4, hN4⟩ : ∃ y, y = N3 / 4 := ⟨_, rfl⟩
    have m1 : (x2 : Int) * 256 = (y2 : Int) := by omega
    have m2 : (y2 : Int) + (x3 : Int) = (N : Int) := by omega
    have m3 : (N : Int) + 3 = (N3 : Int) := by omega
    have m4 : (N3 : Int) / 4 = (N4 : Int) := by omega
    have m5 : (N4 : Int) * 4 = (AL : Int) := by omega
    have hN6 : N < 65536 := by omega
    have hNA : N ≤ AL := by omega
    have hAL6 : AL ≤ N + 3 := by omega
    have HX : Hid (AL % 4 = 0) := show _ = _ by omega
    clear hN0 hAN
    clear hy2 hN3 hN4
    go_wp2_with fail
    go_quiet (fail)
    have HW : Hid (Ext w (wr.drewN nq) ∧ OwnL 85 (wr.drewN nq) w.heap.size (.slice oa on oc) L) := ⟨HR.out.2.2.2.2.2.trans (Ext.drewN _ _), HR.out.2.2.2.2.1.ext (Ext.drewN _ _)⟩
    have HK : Hid (∀ (h : okP D = false), readAll B = none) := fun h => HR.out.2.2.1.bad HP.out.1 (by rw [← HD.out.1]; exact h)
    have HM : Hid (n = B.length - p ∧ on = L.length ∧ RdAt B (some p) L) := ⟨HR.out.1, HR.out.2.1, HR.out.2.2.1⟩
    clear HR
    clear hc2 hc3 m1 m2
    generalize wr.drewN nq = w1 at *
    by_cases hN4 : N < 4
    ·
     have e1 : decide ((N : Int) < 4) = true := decide_eq_true (by omega)
     have HF : Hid (readAll B = none) := HK.out (okP_no (fun h => by have := HN.out.1; omega))
     go_wp2
     go_ret2
     exact ⟨HW.out.1, .inl ⟨HF.out, rfl⟩⟩
    have e1 : decide ((N : Int) < 4) = false := decide_eq_false (by omega)
    by_cases hN40 : 4004 < N
    ·
     have e2 : decide ((N : Int) > 4004) = true := decide_eq_true (by omega)
     have HF : Hid (readAll B = none) := HK.out (okP_no (fun h => by have := HN.out.1; omega))
     go_wp2
     go_ret2
     exact ⟨HW.out.1, .inl ⟨HF.out, rfl⟩⟩
    have e2 : decide ((N : Int) > 4004) = false := decide_eq_false (by omega)
    by_cases hAn : n < AL
    ·
     have e3 : decide ((AL : Int) > (n : Int)) = true := decide_eq_true (by omega)
     have e4 : decide (n < AL) = true := decide_eq_true (by omega)
     have HF : Hid (readAll B = none) := HK.out (okP_no (fun h => by have := HN.out.2; have := HD.out.2.2; omega))
     go_wp2
     go_ret2
     exact ⟨HW.out.1, .inl ⟨HF.out, rfl⟩⟩
    have e3 : decide ((AL : Int) > (n : Int)) = false := decide_eq_false (by omega)
    have e4 : decide (n < AL) = false := decide_eq_false (by omega)
    have e5 : AL ≤ n := by omega
    go_wp2
    clear m3 m4 m5 e1 e2 e3 e4 hAn
    go_loopg [7] (AL - N) (fun gm t wi => ∃ k : Nat, N ≤ k ∧ k ≤ AL ∧ gm = AL - k ∧ t = .int .i64 (k : Int) ∧ wi = w1 ∧ Hid (∀ j, N ≤ j → j < k → D.getD j 0 = 0))
    case atStart => exact ⟨N, Nat.le_refl _, hNA, rfl, rfl, rfl, fun j h1 h2 => by omega⟩
    case round =>
     obtain ⟨k, hk1, hk2, rfl, rfl, hw, HZ⟩ := hrel
     subst wr
     by_cases hlt : k < AL
     ·
      have hdk : decide ((k : Int) < (AL : Int)) = true := decide_eq_true (by omega)
      have hdk2 : decide (k < AL) = true := decide_eq_true (by omega)
      have hck := HW.out.1.cell (HC.out k (by omega))
      have hkn : k < n := by omega
      have HXK : Hid (∀ j, j = k → D.getD j 0 = D.getD k 0) := fun j h => by rw [h]
      obtain ⟨xk, hxk⟩ : ∃ x, x = D.getD k 0 := ⟨_, rfl⟩
      rw [← hxk] at hck
      have HXK : Hid (xk = D.getD k 0) := hxk
      clear hxk
      by_cases hx0 : xk = 0
      ·
       subst hx0
       go_wp2
       go_roundg (AL - (k + 1))
       case measure => omega
       case rel =>
        refine ⟨k + 1, by omega, by omega, rfl, by simp, rfl, fun j h1 h2 => ?_⟩
        by_cases hj : j = k
        ·
         subst hj; exact HXK.out.symm
        ·
         exact HZ.out j h1 (by omega)
      ·
       have hxn : ((xk : Int) != 0) = true := by simp; omega
       have hxd : decide ((xk : Int) = 0) = false := decide_eq_false (by omega)
       have hxe : ((xk : Int) == 0) = false := beq_false_of_ne (by omega)
       have hxg : decide (xk = 0) = false := decide_eq_false hx0
       have HF : Hid (readAll B = none) := HK.out (okP_no (fun h => by
        have h1 := allZ_false (b := D) hk1 hlt (by rw [← HXK.out]; exact hx0)
        rw [HN.out.1, HN.out.2, h.2.2.2.2] at h1
        cases h1))
       go_wp2
       go_ret2
       exact ⟨HW.out.1, .inl ⟨HF.out, rfl⟩⟩
     ·
      have hdk : decide ((k : Int) < (AL : Int)) = false := decide_eq_false (by omega)
      have hdk2 : decide (k < AL) = false := decide_eq_false (by omega)
      have HOK : Hid (okP D = true) := (okP_iff D).2 ⟨by have := HD.out.2.2; omega, by have := HN.out.1; omega, by have := HN.out.1; omega, by have := HN.out.2; have := HD.out.2.2; omega, by
       rw [← HN.out.1, ← HN.out.2]; exact allZ_true (fun j h1 h2 => HZ.out j h1 (by omega))⟩
      go_wp2_with fail
      have hc0 := HC.out 0 (by omega)
      have hc1 := HC.out 1 (by omega)
      rw [Nat.add_zero] at hc0
      have hx0 := HD.out.2.1.getD 0
      have hx1 := HD.out.2.1.getD 1
      have HH : Hid (headP D = (((D.getD 0 0 * 256 + D.getD 1 0 : Nat) : Int), (D.take N).drop 4)) := show _ = _ by rw [HN.out.1]; rfl
      generalize D.getD 0 0 = x0 at *
      generalize D.getD 1 0 = x1 at *
      obtain ⟨y0, hy0⟩ : ∃ y, y = x0 * 256 := ⟨_, rfl⟩
      obtain ⟨K, hK⟩ : ∃ K, K = x0 * 256 + x1 := ⟨_, rfl⟩
      have z0 : (x0 : Int) * 256 = (y0 : Int) := by omega
      have z1 : (y0 : Int) + (x1 : Int) = (K : Int) := by omega
      have zw0 : IntKind.i64.wrap (y0 : Int) = (y0 : Int) := by rw [IntKind.wrap_i64]; omega
      have zw1 : IntKind.i64.wrap (K : Int) = (K : Int) := by rw [IntKind.wrap_i64]; omega
      have cv0 : IntKind.i64.wrap (x0 : Int) = (x0 : Int) := by rw [IntKind.wrap_i64]; omega
      have cv1 : IntKind.i64.wrap (x1 : Int) = (x1 : Int) := by rw [IntKind.wrap_i64]; omega
      have L0 : (0 : Int) < (n : Int) := by omega
      have L1 : (1 : Int) < (n : Int) := by omega
      rw [← hK] at HH
      have HNC : Hid (N ≤ c) := show _ ≤ _ by have := HBB.out.2; omega
      have hNc : N ≤ c := HNC.out
      have hN44 : 4 ≤ N := by omega
      obtain ⟨sa, hsl0, _⟩ := sliced_form (some ⟨b, off, none⟩) 4 N c
      obtain ⟨sn, hsn⟩ : ∃ s, s = N - 4 := ⟨_, rfl⟩
      obtain ⟨sc, hsc⟩ : ∃ s, s = c - 4 := ⟨_, rfl⟩
      have hsl : sliced (some ⟨b, off, none⟩) 4 N c 1 = .slice sa sn sc := by rw [hsl0, hsn, hsc]
      have HS : BytesAt w (.slice sa sn sc) ((D.take N).drop 4) := by rw [← hsl]; exact HBB.out.1.sliced 4 N hN44 (by have := HD.out.2.2; omega)
      obtain ⟨M, hM⟩ : ∃ M, M = (D.take N).drop 4 := ⟨_, rfl⟩
      have hMl : M.length ≤ 5000 := by rw [hM, List.length_drop, List.length_take]; omega
      rw [← hM] at HS HH
      clear hsl0 hM
      obtain ⟨W0, hW0⟩ : ∃ W0, W0 = w1.drew := ⟨_, rfl⟩
      have hE0 : Ext w W0 := by rw [hW0]; exact HW.out.1.trans (Ext.drew _)
      have hL0 : OwnL 85 W0 w.heap.size (.slice oa on oc) L := by rw [hW0]; exact HW.out.2.ext (Ext.drew _)
      obtain ⟨W1, hW1⟩ : ∃ W1, W0.alloc (.cells #[] 5) = W1 := ⟨_, rfl⟩
      have hE1 : Ext W0 W1 := by rw [← hW1]; exact Ext.alloc _ _
      have hO1 : OB W1 w.heap.size (.slice (some ⟨W0.heap.size, 0, none⟩) 0 0) [] := by rw [← hW1]; exact OB.lit0 W0 _ _ rfl hE0.size
      obtain ⟨ba, bc, W2, hrun1, ho2, hk2, _⟩ := run_appB W1 w.heap.size 24 (.slice (some ⟨W0.heap.size, 0, none⟩) 0 0) (.slice sa sn sc) [] M hO1 (HS.ext (hE0.trans hE1)) (by simp; omega) (Nat.le_trans hE0.size hE1.size)
      rw [List.nil_append] at hrun1 ho2
      obtain ⟨bn, hbn⟩ : ∃ bn, bn = M.length := ⟨_, rfl⟩
      rw [← hbn] at hrun1 ho2
      have hE2 : Ext W0 W2 := hE1.of_but hk2 (fun k e => by cases e; exact Nat.le_refl _)
      obtain ⟨W3, hW3⟩ : ∃ W3, W2.alloc (.cells #[.int .i64 (K : Int), .slice ba bn bc] 85) = W3 := ⟨_, rfl⟩
      have hE3 : Ext W2 W3 := by rw [← hW3]; exact Ext.alloc _ _
      have hL3 := hL0.ext (hE2.trans hE3)
      have hLn : L.length ≤ 100000 := by have h1 := HM.out.2.2.len; have h2 := HA.out.2; omega
      obtain ⟨oa2, oc2, W4, hrun2, ho4, hk4, _⟩ := run_pushP parT2 W3 w.heap.size 82 W2.heap.size (.slice oa on oc) (.slice ba bn bc) L (K : Int) M hL3 (by rw [← hW3]; exact cellNew _ _ _ _ _ _ rfl) (by rw [← hW3]; exact cellNew _ _ _ _ _ _ rfl) (ho2.ext hE3) hLn (Nat.le_trans hE0.size (hE2.trans hE3).size)
      obtain ⟨on2, hon2⟩ : ∃ q, q = L.length + 1 := ⟨_, rfl⟩
      rw [← hon2] at hrun2 ho4
      have hE4 : Ext w W4 := (hE0.trans (hE2.trans hE3)).of_but hk4 (fun k e => (hL3.lt e).1)
      have HE := ws6_ext hE0 (hE0.trans hE1) (hE0.trans hE2) (hE0.trans hE2) (hE0.trans (hE2.trans hE3)) hE4
      have hs0 : ws6 W0 W1 W2 W2 W3 W4 0 = w1.drew := hW0
      refine wp_region_stagedL (fun t => bif Nat.ble 51 t && Nat.ble t 69 then some (t - 51) else none) 74 [11, 15, 16, 17, 18] (ws6 W0 W1 W2 W2 W3 W4)
       [(fun v => v = (.slice oa on oc)),
        (fun v => v = (.slice (some ⟨b, off, none⟩) n c)),
        (fun v => v = (.pointer (some ⟨b, off, none⟩))),
        (fun v => v = (.int .u8 (x0 : Int))),
        (fun v => v = (.int .i64 (x0 : Int))),
        (fun v => v = (.int .i64 (y0 : Int))),
        (fun v => v = (.slice (some ⟨b, off, none⟩) n c)),
        (fun v => v = (.pointer (some ⟨b, off + 1, none⟩))),
        (fun v => v = (.int .u8 (x1 : Int))),
        (fun v => v = (.int .i64 (x1 : Int))),
        (fun v => v = (.int .i64 (K : Int))),
        (fun v => v = (.slice (some ⟨W0.heap.size, 0, none⟩) 0 0)),
        (fun v => v = (.slice (some ⟨b, off, none⟩) n c)),
        (fun v => v = (.int .i64 (N : Int))),
        (fun v => v = (.slice sa sn sc)),
        (fun v => v = (.slice ba bn bc)),
        (fun v => v = (.agg #[.int .i64 (K : Int), .slice ba bn bc])),
        (fun v => v = (.slice (some ⟨W2.heap.size, 0, none⟩) 1 1)),
        (fun v => v = (.slice oa2 on2 oc2))]
       (by intro h; cases h) 69 18 4 rfl rfl rfl rfl (by kernel_rfl) (by kernel_rfl) rfl (by kernel_rfl) (by kernel_rfl) (by kernel_rfl) hs0 ?_ ?_
      ·
       refine GoodSAll.reads rfl (fun k hk => ?_) ?_
       ·
        intro r hx
        obtain ⟨h1, _⟩ := hx
        replace h1 : r (.tmp 4) = (.slice oa on oc) := h1
        exact give_move (.inl rfl) ⟨rfl, h1⟩
       refine GoodSAll.reads rfl (fun k hk => ?_) ?_
       ·
        intro r hx
        obtain ⟨h1, _⟩ := hx
        replace h1 : r (.tmp 0) = (.slice (some ⟨b, off, none⟩) n c) := h1
        exact give_move (.inl rfl) ⟨rfl, h1⟩
       refine GoodSAll.reads rfl (fun k hk => ?_) ?_
       ·
        intro r hx
        obtain ⟨h1, h2, _⟩ := hx
        replace h1 : r (.tmp 52) = (.slice (some ⟨b, off, none⟩) n c) := h1
        replace h2 : r (.const (.int .i64 0)) = .int .i64 0 := h2
        exact gvo (by simp [execOp, h1, h2, h0, L0, go_sem]) ⟨rfl, rfl⟩
       refine GoodSAll.reads rfl (fun k hk => ?_) ?_
       ·
        intro r hx
        obtain ⟨h1, _⟩ := hx
        replace h1 : r (.tmp 53) = (.pointer (some ⟨b, off, none⟩)) := h1
        exact gvo (exg one5 rfl h1 ((HE k).cell hc0)) ⟨rfl, rfl⟩
       refine GoodSAll.reads rfl (fun k hk => ?_) ?_
       ·
        intro r hx
        obtain ⟨h1, _⟩ := hx
        replace h1 : r (.tmp 54) = (.int .u8 (x0 : Int)) := h1
        exact gvo (by simp [execOp, h1, cv0, go_sem]) ⟨rfl, rfl⟩
       refine GoodSAll.reads rfl (fun k hk => ?_) ?_
       ·
        intro r hx
        obtain ⟨h1, h2, _⟩ := hx
        replace h1 : r (.tmp 55) = (.int .i64 (x0 : Int)) := h1
        replace h2 : r (.const (.int .i64 256)) = .int .i64 256 := h2
        exact gvo (by simp [execOp, h1, h2, z0, zw0, go_sem]) ⟨rfl, rfl⟩
       refine GoodSAll.reads rfl (fun k hk => ?_) ?_
       ·
        intro r hx
        obtain ⟨h1, _⟩ := hx
        replace h1 : r (.tmp 0) = (.slice (some ⟨b, off, none⟩) n c) := h1
        exact give_move (.inl rfl) ⟨rfl, h1⟩
       refine GoodSAll.reads rfl (fun k hk => ?_) ?_
       ·
        intro r hx
        obtain ⟨h1, h2, _⟩ := hx
        replace h1 : r (.tmp 57) = (.slice (some ⟨b, off, none⟩) n c) := h1
        replace h2 : r (.const (.int .i64 1)) = .int .i64 1 := h2
        exact gvo (by simp [execOp, h1, h2, h0, L1, go_sem]) ⟨rfl, rfl⟩
       refine GoodSAll.reads rfl (fun k hk => ?_) ?_
       ·
        intro r hx
        obtain ⟨h1, _⟩ := hx
        replace h1 : r (.tmp 58) = (.pointer (some ⟨b, off + 1, none⟩)) := h1
        exact gvo (exg one5 rfl h1 ((HE k).cell hc1)) ⟨rfl, rfl⟩
       refine GoodSAll.reads rfl (fun k hk => ?_) ?_
       ·
        intro r hx
        obtain ⟨h1, _⟩ := hx
        replace h1 : r (.tmp 59) = (.int .u8 (x1 : Int)) := h1
        exact gvo (by simp [execOp, h1, cv1, go_sem]) ⟨rfl, rfl⟩
       refine GoodSAll.reads rfl (fun k hk => ?_) ?_
       ·
        intro r hx
        obtain ⟨h1, h2, _⟩ := hx
        replace h1 : r (.tmp 56) = (.int .i64 (y0 : Int)) := h1
        replace h2 : r (.tmp 60) = (.int .i64 (x1 : Int)) := h2
        exact gvo (by simp [execOp, h1, h2, z1, zw1, go_sem]) ⟨rfl, rfl⟩
       refine GoodSAll.writes 0 rfl rfl ?_ ?_
       ·
        intro r hx
        exact gvo (by simp [execOp, go_sem]; exact ⟨rfl, rfl⟩) ⟨hW1, rfl⟩
       refine GoodSAll.reads rfl (fun k hk => ?_) ?_
       ·
        intro r hx
        obtain ⟨h1, _⟩ := hx
        replace h1 : r (.tmp 0) = (.slice (some ⟨b, off, none⟩) n c) := h1
        exact give_move (.inl rfl) ⟨rfl, h1⟩
       refine GoodSAll.reads rfl (fun k hk => ?_) ?_
       ·
        intro r hx
        obtain ⟨h1, _⟩ := hx
        replace h1 : r (.tmp 5) = (.int .i64 (N : Int)) := h1
        exact give_move (.inl rfl) ⟨rfl, h1⟩
       refine GoodSAll.reads rfl (fun k hk => ?_) ?_
       ·
        intro r hx
        obtain ⟨h1, h2, h3, _⟩ := hx
        replace h1 : r (.tmp 63) = (.slice (some ⟨b, off, none⟩) n c) := h1
        replace h2 : r (.const (.int .i64 4)) = .int .i64 4 := h2
        replace h3 : r (.tmp 64) = (.int .i64 (N : Int)) := h3
        exact gvo (by rw [← hsl]; exact exec_slice_lh byteT rfl _ _ n c 4 N .i64 .i64 h1 h2 h3 hN44 hNc) ⟨rfl, rfl⟩
       refine GoodSAll.writes 1 rfl rfl ?_ ?_
       ·
        intro r hx
        obtain ⟨h1, h2, _⟩ := hx
        replace h1 : r (.tmp 62) = (.slice (some ⟨W0.heap.size, 0, none⟩) 0 0) := h1
        replace h2 : r (.tmp 65) = (.slice sa sn sc) := h2
        exact gvo (exec_run rfl h1 h2 hrun1) ⟨rfl, rfl⟩
       refine GoodSAll.writes 2 rfl rfl ?_ ?_
       ·
        intro r hx
        obtain ⟨h1, h2, _⟩ := hx
        replace h1 : r (.tmp 61) = (.int .i64 (K : Int)) := h1
        replace h2 : r (.tmp 66) = (.slice ba bn bc) := h2
        exact gvo (by simp [execOp, h1, h2, go_sem]; rfl) ⟨rfl, rfl⟩
       refine GoodSAll.writes 3 rfl rfl ?_ ?_
       ·
        intro r hx
        obtain ⟨h1, _⟩ := hx
        replace h1 : r (.tmp 67) = (.agg #[.int .i64 (K : Int), .slice ba bn bc]) := h1
        exact gvo (by simp [execOp, h1, go_sem]; exact ⟨rfl, rfl⟩) ⟨hW3, rfl⟩
       refine GoodSAll.writes 4 rfl rfl ?_ ?_
       ·
        intro r hx
        obtain ⟨h1, h2, _⟩ := hx
        replace h1 : r (.tmp 51) = (.slice oa on oc) := h1
        replace h2 : r (.tmp 68) = (.slice (some ⟨W2.heap.size, 0, none⟩) 1 1) := h2
        exact gvo (exec_runP rfl h1 h2 hrun2) ⟨rfl, rfl⟩
       exact GoodSAll.nil
      ·
       intro vs a' hold ha'
       have hv0 : vs 0 = (.slice oa on oc) := hold 0 (by simp)
       have hv1 : vs 1 = (.slice (some ⟨b, off, none⟩) n c) := hold 1 (by simp)
       have hv2 : vs 2 = (.pointer (some ⟨b, off, none⟩)) := hold 2 (by simp)
       have hv3 : vs 3 = (.int .u8 (x0 : Int)) := hold 3 (by simp)
       have hv4 : vs 4 = (.int .i64 (x0 : Int)) := hold 4 (by simp)
       have hv5 : vs 5 = (.int .i64 (y0 : Int)) := hold 5 (by simp)
       have hv6 : vs 6 = (.slice (some ⟨b, off, none⟩) n c) := hold 6 (by simp)
       have hv7 : vs 7 = (.pointer (some ⟨b, off + 1, none⟩)) := hold 7 (by simp)
       have hv8 : vs 8 = (.int .u8 (x1 : Int)) := hold 8 (by simp)
       have hv9 : vs 9 = (.int .i64 (x1 : Int)) := hold 9 (by simp)
       have hv10 : vs 10 = (.int .i64 (K : Int)) := hold 10 (by simp)
       have hv11 : vs 11 = (.slice (some ⟨W0.heap.size, 0, none⟩) 0 0) := hold 11 (by simp)
       have hv12 : vs 12 = (.slice (some ⟨b, off, none⟩) n c) := hold 12 (by simp)
       have hv13 : vs 13 = (.int .i64 (N : Int)) := hold 13 (by simp)
       have hv14 : vs 14 = (.slice sa sn sc) := hold 14 (by simp)
       have hv15 : vs 15 = (.slice ba bn bc) := hold 15 (by simp)
       have hv16 : vs 16 = (.agg #[.int .i64 (K : Int), .slice ba bn bc]) := hold 16 (by simp)
       have hv17 : vs 17 = (.slice (some ⟨W2.heap.size, 0, none⟩) 1 1) := hold 17 (by simp)
       have hv18 : vs 18 = (.slice oa2 on2 oc2) := hold 18 (by simp)
       simp only [List.dropLast_cons_cons, List.dropLast_singleton, putAll, Act.put, hv0, hv1, hv2, hv3, hv4, hv5, hv6, hv7, hv8, hv9, hv10, hv11, hv12, hv13, hv14, hv15, hv16, hv17, hv18, List.setIfInBounds_toArray, List.set_cons_succ, List.set_cons_zero] at ha'
       rw [hv18]
       subst ha'
       clear hold hv0 hv1 hv2 hv3 hv4 hv5 hv6 hv7 hv8 hv9 hv10 hv11 hv12 hv13 hv14 hv15 hv16 hv17 hv18
       rw [show ws6 W0 W1 W2 W2 W3 W4 [11, 15, 16, 17, 18].length = W4 from rfl]
       obtain ⟨sa2, hsl2, _⟩ := sliced_form (some ⟨b, off, none⟩) AL n c
       obtain ⟨sn2, hsn2⟩ : ∃ s, s = n - AL := ⟨_, rfl⟩
       obtain ⟨sc2, hsc2⟩ : ∃ s, s = c - AL := ⟨_, rfl⟩
       rw [← hsn2, ← hsc2] at hsl2
       have hS2 : BytesAt w (.slice sa2 sn2 sc2) (B.drop (p + AL)) := by
        have := HBB.out.1.sliced AL n e5 (by rw [HD.out.2.2]; exact Nat.le_refl _)
        rwa [hsl2, List.take_of_length_le (by rw [HD.out.2.2]; exact Nat.le_refl _), HD.out.1, List.drop_drop] at this
       have HQ : Hid (sn2 = n - AL ∧ sn2 = B.length - (p + AL) ∧ on2 = (L ++ [headP D]).length ∧ RdAt B (some (p + AL)) (L ++ [headP D]) ∧ BytesAt w (.slice sa2 sn2 sc2) (B.drop (p + AL)) ∧ OwnL 85 W4 w.heap.size (.slice oa2 on2 oc2) (L ++ [headP D]) ∧ Ext w W4) := by
        refine ⟨hsn2, ?_, by rw [hon2]; simp, ?_, hS2, by rw [HH.out]; exact ho4, hE4⟩
        ·
         have := HM.out.1; omega
        ·
         have := HM.out.2.2.next HP.out.1 (by rw [← HD.out.1]; exact HOK.out)
         rwa [← HD.out.1, ← HN.out.2] at this
       have hsn5 : sn2 ≤ 100000 := by omega
       have hN40' : 4 ≤ AL := by omega
       clear hS2 hs0 HE hE4 hon2 hrun2 ho4 hk4 hLn hL3 hE3 hW3 hE2 hbn hrun1 ho2 hk2 hO1 hE1 hW1 hL0 hE0 hW0 HS hMl hsl hsn hsc hsn2 hsc2 L0 L1 cv0 cv1 zw0 zw1 z0 z1 hK hy0 hc0 hc1
       go_wp2_with (first
        | (refine wpList_of_run rfl (exec_slice_l byteT rfl _ (some ⟨b, off, none⟩) n c AL .i64 rfl rfl e5) ?_; rw [hsl2]))
       go_roundg sn2
       case measure => have := HQ.out.1; omega
       case rel => exact ⟨p + AL, sn2, _, _, _, _, _, _, rfl, rfl, rfl, hsn5, HQ.out.2⟩
theorem numS1_yes {B : List Nat} {a : Nat} (h : a < B.length) : numS B (some a) 1 = (some (a + 1), B.getD a 0) := by
 unfold numS
 rw [if_pos (by decide), takeS_yes (by decide) (by omega), drop_next h]
 show (some (a + 1), val [B.getD a 0]) = _
 simp [val]
def okC (b : List Nat) : Bool := decide (4 ≤ b.length) && (decide (4 ≤ lenP b) && (decide (allP b ≤ b.length) && allZ ((b.take (allP b)).drop (lenP b))))
theorem okC_iff (b : List Nat) : okC b = true ↔ 4 ≤ b.length ∧ 4 ≤ lenP b ∧ allP b ≤ b.length ∧ allZ ((b.take (allP b)).drop (lenP b)) = true := by simp [okC]
theorem hd_four {B : List Nat} (h : 4 ≤ B.length) : hdK B = B.getD 0 0 ∧ hdF B = B.getD 1 0 ∧ hdL B = lenP B ∧ hdS3 B = some 4 := by
 have e1 : numS B (some 0) 1 = (some 1, B.getD 0 0) := numS1_yes (by omega)
 have e2 : numS B (some 1) 1 = (some 2, B.getD 1 0) := numS1_yes (by omega)
 have e3 : numS B (some 2) 2 = (some 4, 256 * B.getD 2 0 + B.getD 3 0) := numS2_yes (by omega)
 have s1 : hdS1 B = some 1 := by unfold hdS1; rw [e1]
 have s2 : hdS2 B = some 2 := by unfold hdS2; rw [s1, e2]
 refine ⟨by unfold hdK; rw [e1], by unfold hdF; rw [s1, e2], ?_, by unfold hdS3; rw [s2, e3]⟩
 unfold hdL lenP; rw [s2, e3]; dsimp only; omega
theorem OB.cellAt {w : World} {base q n c : Nat} {l : List Nat} (h : OB w base (.slice (some ⟨q, 0, none⟩) n c) l) (j : Nat) (hj : j < l.length) : w.cell? ⟨q, j, none⟩ = some (.int .u8 (l.getD j 0 : Nat)) := by
 obtain ⟨_, _, e, _, hc⟩ := h.bytes.form
 obtain ⟨b, off, e2, hc'⟩ := hc j hj
 simp only [Value.slice.injEq] at e
 rw [← e.1] at e2
 cases e2
 simpa using hc'
structure PrT (t e : TypeId) : Prop where
 ut : Try.prog.underlying t = some (.slice e)
 info : (Try.prog.info? e).map (fun i => (i.zero, i.size, i.bytes)) = some (some (.agg #[.int .i64 0, .int .i64 0]), 2, 16)
theorem prG : PrT 35 67 := ⟨Try.underlying35, by kernel_rfl⟩
theorem prO : PrT 36 69 := ⟨Try.underlying36, by kernel_rfl⟩
theorem prG2 : PrT 28 70 := ⟨Try.underlying28, by kernel_rfl⟩
theorem prO2 : PrT 30 71 := ⟨Try.underlying30, by kernel_rfl⟩
theorem numTA : NumT Try.prog 27 65 .i64 8 := ⟨Try.underlying27, Try.underlying65, by kernel_rfl⟩
theorem numTD : NumT Try.prog 29 22 .u32 4 := ⟨Try.underlying29, Try.underlying22, by kernel_rfl⟩
theorem pcl_app (L M : List (Int × Int)) : pcl (L ++ M) = pcl L ++ pcl M := by simp [pcl]
theorem OwnP.form {e : TypeId} {w : World} {base : Nat} {v : Value} {L : List (Int × Int)} (h : OwnP e w base v L) : ∃ a cap, v = .slice a L.length cap := by
 rcases h.1.2 with ⟨h1, h2⟩ | ⟨g, cap, cur, h1, _⟩
 ·
  exact ⟨none, 0, by rw [h1, h2]⟩
 ·
  exact ⟨_, cap, h1⟩
theorem OwnP.lt {e : TypeId} {w : World} {base : Nat} {v : Value} {L : List (Int × Int)} (h : OwnP e w base v L) {g : Nat} (hg : v.ownBlock = some g) : base ≤ g ∧ g < w.heap.size := by
 rcases h.1.2 with ⟨rfl, _⟩ | ⟨g', cap, cur, rfl, hb, hc, _⟩
 ·
  cases hg
 ·
  simp only [Value.ownBlock, Option.some.injEq] at hg
  subst hg
  exact ⟨hb, (Array.getElem?_eq_some_iff.1 hc).1⟩
theorem OwnP.base {e : TypeId} {w : World} {base base' : Nat} {v : Value} {L : List (Int × Int)} (h : OwnP e w base v L) (hb : base' ≤ base) : OwnP e w base' v L := by
 refine ⟨⟨h.1.1, ?_⟩, h.2⟩
 rcases h.1.2 with h0 | ⟨g, cap, cur, h1, h2, h3⟩
 ·
  exact .inl h0
 ·
  exact .inr ⟨g, cap, cur, h1, by omega, h3⟩
theorem run_appP {t e : TypeId} (hT : PrT t e) (w : World) (base ty : Nat) (v x : Value) (L M : List (Int × Int)) (hv : OwnP e w base v L) (hx : PairsAt w x M) (hlen : L.length + M.length ≤ 1000000) (hbase : base ≤ w.heap.size) :
  ∃ a c w', (Builtin.append_ #[t, t] ty #[v, x]).run Try.prog w = .ok (.slice a (L ++ M).length c) w' ∧ OwnP e w' base (.slice a (L ++ M).length c) (L ++ M) ∧ KeepBut (fun q => v.ownBlock = some q) w w' ∧ ∀ g, (Value.slice a (L ++ M).length c).ownBlock = some g → v.ownBlock = some g ∨ g = w.heap.size := by
 obtain ⟨i, hi, hinf⟩ := Option.map_eq_some_iff.1 hT.info
 simp only [Prod.mk.injEq] at hinf
 obtain ⟨hm, a, cap, rfl, ⟨h2, hnone⟩, h3, hc⟩ := hx
 cases a with
 | none =>
  have hM : M = [] := by
   cases M with
   | nil => rfl
   | cons p M =>
    obtain ⟨b, off, e1, _⟩ := hc 0 p rfl
    cases e1
  subst hM
  have hcap : cap = 0 := hnone rfl
  subst hcap
  obtain ⟨a', c', rfl⟩ := hv.form
  rw [List.append_nil]
  exact ⟨a', c', w, run_append_owned_none w base t ty e i 2 hT.ut hi _ _ _ hv.1, hv, KeepBut.refl _ _, fun g hg => .inl hg⟩
 | some ad =>
  obtain ⟨v', w', hrun, g1, g2, _, g4⟩ := run_append_own_at (P := Try.prog) w base t ty e i _ 2 16 hT.ut hi hinf.1 hinf.2.1 hinf.2.2 rfl (by omega) v L.length (pcl L) hv.1 ad M.length cap (pcl M) (pcl_len M)
   (fun j u hu => by
    have hj : j < M.length * 2 := by have := (List.getElem?_eq_some_iff.1 hu).1; rwa [pcl_len] at this
    have hi2 : j / 2 < M.length := by omega
    obtain ⟨b, off, e1, c0, c1⟩ := hc (j / 2) M[j / 2] (by simp [hi2])
    obtain ⟨p0, p1⟩ := pcl_get (L := M) (i := j / 2) (p := M[j / 2]) (by simp [hi2])
    cases e1
    rw [add_plain]
    rcases Nat.mod_two_eq_zero_or_one j with h | h
    ·
     have e2 : j / 2 * 2 = j := by omega
     rw [e2] at p0 c0
     rw [hu] at p0; cases p0; exact c0
    ·
     have e2 : j / 2 * 2 + 1 = j := by omega
     have e3 : off + j / 2 * 2 + 1 = off + j := by omega
     rw [e2] at p1
     rw [e3] at c1
     rw [hu] at p1; cases p1; exact c1)
   (fun u hu => by
    unfold pcl at hu
    rw [List.mem_flatMap] at hu
    obtain ⟨p, _, hp⟩ := hu
    simp at hp
    rcases hp with rfl | rfl <;> rfl) (by unfold maxLen; omega) (by omega) hbase
  have hO : OwnP e w' base v' (L ++ M) := ⟨by rw [List.length_append, pcl_app]; exact g1, by rw [List.length_append]; unfold maxLen; omega⟩
  obtain ⟨a', c', rfl⟩ := hO.form
  refine ⟨a', c', w', hrun, hO, KeepBut.grown g2 (fun r e => e), fun g hg => ?_⟩
  rcases g4 with g4 | g4
  ·
   exact .inl (by rw [← g4]; exact hg)
  ·
   exact .inr (by have := g4.symm.trans hg; simpa using this.symm)
theorem wl_appP {t e : TypeId} (hT : PrT t e) {w : World} {ops : Array Oper} {rest : List Oper} {o : Oper} {a : Act} {Q : Exit → Act → World → Prop} (hgd : o.guard = none) {s x : Operand} (ho : o.op = .call { callee := .builtin .append, args := #[s, x], argTypes := #[t, t] })
  {base : Nat} {v u : Value} {L M : List (Int × Int)} (hs : a.eval s = v) (hxx : a.eval x = u) (hv : OwnP e w base v L) (hx : PairsAt w u M) (hlen : L.length + M.length ≤ 1000000) (hbase : base ≤ w.heap.size)
  (h : ∀ ad n cap w', Hid (n = (L ++ M).length) → OwnP e w' base (.slice ad n cap) (L ++ M) → KeepBut (fun k => v.ownBlock = some k) w w' → (∀ g, (Value.slice ad n cap).ownBlock = some g → v.ownBlock = some g ∨ g = w.heap.size) → wpList Try.prog ops Q rest (a.put o.dst (.slice ad n cap)) w') : wpList Try.prog ops Q (o :: rest) a w := by
 obtain ⟨ad, cap, w', hr, h1, h2, h3⟩ := run_appP hT w base o.type v u L M hv hx hlen hbase
 refine wpList_of_run hgd (v := .slice ad (L ++ M).length cap) ?_ (h ad _ cap w' rfl h1 h2 h3)
 simp only [execOp, ho, resolve, invoke, builtin, Sem.run_bind, Sem.run_pure, Result.andThen_ok, List.map_toArray, List.map_cons, List.map_nil, hs, hxx, hr]
structure Small (c : Ck) : Prop where
 text : c.text.length ≤ 3000
 rand : c.rand.length ≤ 3000
 addrs : c.addrs.length ≤ 3000
 info : c.info.length ≤ 3000
 gaps : c.gaps.length ≤ 3000
 dups : c.dups.length ≤ 3000
 ops : c.ops.length ≤ 3000
end Tlv
end Go.Proofs.Ytigocaconkbalaa
