/- Texts of the seat, one behind the other. No condition of its own. -/
import Derived.Test.YtobkgaceallegaaChkC7
/- What of a chunk its kind uses. No condition of its own. -/
namespace Go.Proofs.Ytobkgaceallegaa
namespace Tlv
open Go Go.RowKit
set_option linter.unusedVariables false
set_option linter.unusedSimpArgs false
set_option maxRecDepth 100000


/-- A block's cells become those of D, one by one. -/
structure PutD (g T : Nat) (D : Array Value) (W W' : World) : Prop where
  os : W'.os = W.os
  tape : W'.tape = W.tape
  output : W'.output = W.output
  size : W'.heap.size = W.heap.size
  block : ∀ k, k ≠ g → W'.heap[k]? = W.heap[k]?
  it : ∀ C, Blk W g C T → ∃ C', Blk W' g C' T ∧ C'.size = C.size ∧ ∀ j : Nat, C'[j]? = C[j]? ∨ C'[j]? = D[j]?
theorem PutD.refl {g T : Nat} {D : Array Value} (W : World) : PutD g T D W W := ⟨rfl, rfl, rfl, rfl, fun _ _ => rfl, fun C h => ⟨C, h, rfl, fun _ => .inl rfl⟩⟩
theorem PutD.trans {g T : Nat} {D : Array Value} {a b c : World} (h : PutD g T D a b) (k : PutD g T D b c) : PutD g T D a c :=
  ⟨k.os.trans h.os, k.tape.trans h.tape, k.output.trans h.output, k.size.trans h.size, fun i hi => (k.block i hi).trans (h.block i hi), fun C hC => by
    obtain ⟨C1, h1, s1, d1⟩ := h.it C hC
    obtain ⟨C2, h2, s2, d2⟩ := k.it C1 h1
    refine ⟨C2, h2, s2.trans s1, fun j => ?_⟩
    rcases d2 j with e | e
    · rw [e]; exact d1 j
    · exact .inr e⟩
theorem PutD.other {g T : Nat} {D : Array Value} {a b : World} (h : PutD g T D a b) {q t : Nat} {C : Array Value} (hb : Blk a q C t) (hq : q ≠ g) : Blk b q C t := (h.block q hq).trans hb
/-- A cell that stands as it is to stand. -/
def DoneAt (g T : Nat) (D : Array Value) (j : Nat) : Fact := fun w _ => ∃ C, Blk w g C T ∧ C[j]? = D[j]?
theorem PutD.done {g T : Nat} {D : Array Value} {a b : World} {j : Nat} {v : Value} (h : DoneAt g T D j a v) (k : PutD g T D a b) : DoneAt g T D j b v := by
  obtain ⟨C, h1, h2⟩ := h
  obtain ⟨C', h3, _, h4⟩ := k.it C h1
  refine ⟨C', h3, ?_⟩
  rcases h4 j with e | e
  · rw [e, h2]
  · exact e
theorem doneAt_set {g T j : Nat} {C D : Array Value} {w : World} {v x : Value} (hb : Blk w g C T) (hj : j < C.size) (hd : D[j]? = some v) : PutD g T D w (w.setCell ⟨g, j, none⟩ v) ∧ DoneAt g T D j (w.setCell ⟨g, j, none⟩ v) x := by
  have h1 := hb.set j v
  refine ⟨⟨rfl, rfl, rfl, by simp, fun k hk => block_other hk j v, fun C' hC' => ?_⟩, _, h1, ?_⟩
  · have e : C' = C := by
      have : some (Obj.cells C' T (0, 0)) = some (.cells C T (0, 0)) := hC'.symm.trans hb
      simp only [Option.some.injEq, Obj.cells.injEq] at this
      exact this.1
    subst e
    refine ⟨_, h1, by simp, fun i => ?_⟩
    by_cases hi : j = i
    · subst hi; right; rw [hd]; simp [hj]
    · left; simp [Array.getElem?_setIfInBounds_ne hi]
  · rw [hd]; simp [hj]
theorem PutD.fin {g T : Nat} {C D : Array Value} {a b : World} (h : PutD g T D a b) (hb : Blk a g C T) (hs : C.size = D.size) (hd : ∀ j, j < D.size → (∃ C', Blk b g C' T ∧ C'[j]? = D[j]?) ∨ C[j]? = D[j]?) : Blk b g D T ∧ KeepBut (· = g) a b := by
  obtain ⟨C', h1, s1, d1⟩ := h.it C hb
  have e : C' = D := by
    apply Array.ext_getElem?
    intro j
    rcases Nat.lt_or_ge j D.size with hj | hj
    · rcases hd j hj with ⟨C2, h2, e2⟩ | e2
      · have : some (Obj.cells C' T (0, 0)) = some (.cells C2 T (0, 0)) := h1.symm.trans h2
        simp only [Option.some.injEq, Obj.cells.injEq] at this
        rw [this.1]; exact e2
      · rcases d1 j with e3 | e3
        · rw [e3]; exact e2
        · exact e3
    · rw [Array.getElem?_eq_none hj, Array.getElem?_eq_none (by omega)]
  subst e
  exact ⟨h1, h.os, h.tape, h.output, Nat.le_of_eq h.size.symm, fun k _ hk => h.block k hk⟩
/-- A chunk that is nought but for its kind; no lists. -/
def ck0 (k : Int) : Ck := { kind := k, ptsn := 0, pstr := 0, pseq := 0, pb := false, pe := false, pu := false, text := [], tag := 0, win := 0, out := 0, inn := 0, tsn := 0, rand := [], addrs := [], info := [], gaps := [], dups := [], cause := 0, serial := 0, ops := [], ok := false }
def sv0 : Sv := { tA := none, tN := 0, tC := 0, rA := none, rN := 0, rC := 0, aA := none, aN := 0, aC := 0, iA := none, iN := 0, iC := 0, gA := none, gN := 0, gC := 0, dA := none, dN := 0, dC := 0, oA := none, oN := 0, oC := 0 }
theorem zeroC : (Try.prog.info? 38).bind (·.zero) = some (.agg (CV (ck0 0) sv0)) := by kernel_rfl
/-- The three blocks of the call: what came, what is answered, what is used. -/
structure UsedAt (w wc : World) (g1 g2 g3 : Nat) (c : Ck) (s : Sv) (D : Array Value) : Prop where
  b1 : Blk wc g1 (CV c s) 38
  b2 : Blk wc g2 (CV (ck0 0) sv0) 38
  b3 : Blk wc g3 D 38
  ext : Ext w wc
  n13 : g1 ≠ g3
  n23 : g2 ≠ g3
  lo3 : w.heap.size ≤ g3
  lo : w.heap.size ≤ g2
theorem UsedAt.next {w wc w' : World} {g1 g2 g3 : Nat} {c : Ck} {s : Sv} {D D' : Array Value} (h : UsedAt w wc g1 g2 g3 c s D) (hb : Blk w' g3 D' 38) (hk : KeepBut (· = g3) wc w') : UsedAt w w' g1 g2 g3 c s D' :=
  ⟨h.b1.but hk h.n13, h.b2.but hk h.n23, hb, h.ext.of_but hk (fun q e => by subst e; exact h.lo3), h.n13, h.n23, h.lo3, h.lo⟩
theorem UsedAt.drew {w wc : World} {g1 g2 g3 : Nat} {c : Ck} {s : Sv} {D : Array Value} (h : UsedAt w wc g1 g2 g3 c s D) : UsedAt w wc.drew g1 g2 g3 c s D := ⟨h.b1, h.b2, h.b3, h.ext.trans (Ext.drew _), h.n13, h.n23, h.lo3, h.lo⟩
/-- What of a chunk its kind uses. -/
def usedC (c : Ck) : Ck :=
  if c.kind = 0 then { ck0 0 with kind := 0, ptsn := c.ptsn, pstr := c.pstr, pseq := c.pseq, pb := c.pb, pe := c.pe, pu := c.pu, text := c.text }
  else if c.kind = 1 then { ck0 1 with kind := 1, tag := c.tag, win := c.win, out := c.out, inn := c.inn, tsn := c.tsn, rand := c.rand, addrs := c.addrs }
  else if c.kind = 2 then { ck0 2 with kind := 2, tag := c.tag, win := c.win, out := c.out, inn := c.inn, tsn := c.tsn, rand := c.rand, addrs := c.addrs, info := c.info }
  else if c.kind = 3 then { ck0 3 with kind := 3, tsn := c.tsn, win := c.win, gaps := c.gaps, dups := c.dups }
  else if c.kind = 4 then { ck0 4 with kind := 4, info := c.info }
  else if c.kind = 5 then { ck0 5 with kind := 5, info := c.info }
  else if c.kind = 10 then { ck0 10 with kind := 10, info := c.info }
  else if c.kind = 15 then { ck0 15 with kind := 15, info := c.info }
  else if c.kind = 6 then { ck0 6 with kind := 6, cause := c.cause }
  else if c.kind = 9 then { ck0 9 with kind := 9, cause := c.cause }
  else if c.kind = 7 then { ck0 7 with kind := 7, tsn := c.tsn }
  else if c.kind = 193 then { ck0 193 with kind := 193, serial := c.serial, ops := c.ops }
  else if c.kind = 128 then { ck0 128 with kind := 128, serial := c.serial, ok := c.ok }
  else ck0 c.kind
def usedS (c : Ck) (s : Sv) : Sv :=
  if c.kind = 0 then { sv0 with tA := s.tA, tN := s.tN, tC := s.tC }
  else if c.kind = 1 then { sv0 with rA := s.rA, rN := s.rN, rC := s.rC, aA := s.aA, aN := s.aN, aC := s.aC }
  else if c.kind = 2 then { sv0 with rA := s.rA, rN := s.rN, rC := s.rC, aA := s.aA, aN := s.aN, aC := s.aC, iA := s.iA, iN := s.iN, iC := s.iC }
  else if c.kind = 3 then { sv0 with gA := s.gA, gN := s.gN, gC := s.gC, dA := s.dA, dN := s.dN, dC := s.dC }
  else if c.kind = 4 then { sv0 with iA := s.iA, iN := s.iN, iC := s.iC }
  else if c.kind = 5 then { sv0 with iA := s.iA, iN := s.iN, iC := s.iC }
  else if c.kind = 10 then { sv0 with iA := s.iA, iN := s.iN, iC := s.iC }
  else if c.kind = 15 then { sv0 with iA := s.iA, iN := s.iN, iC := s.iC }
  else if c.kind = 6 then sv0
  else if c.kind = 9 then sv0
  else if c.kind = 7 then sv0
  else if c.kind = 193 then { sv0 with oA := s.oA, oN := s.oN, oC := s.oC }
  else if c.kind = 128 then sv0
  else sv0
set_option maxHeartbeats 8000000 in
theorem used_0 {w : World} {c : Ck} {s : Sv} (hk : c.kind = 0) :
    Calls Try.prog 35 #[.agg (CV c s)] w fun e w' => e = .returned (.agg (CV (usedC c) (usedS c s))) ∧ Ext w w' := by
    have HE : Hid (usedC c = { ck0 0 with kind := 0, ptsn := c.ptsn, pstr := c.pstr, pseq := c.pseq, pb := c.pb, pe := c.pe, pu := c.pu, text := c.text } ∧ usedS c s = { sv0 with tA := s.tA, tN := s.tN, tC := s.tC }) := ⟨by simp [usedC, hk], by simp [usedS, hk]⟩
    rw [HE.out.1, HE.out.2]
    go_enter Try.func35, Try.ntmps35
    go_wp2_with (first
      | (refine wl_box (C := CV c s) rfl rfl rfl ?_; intro w1 hb1 he1 hx1; have HX1 : Hid (w1.heap.size = w.heap.size + 1) := hx1; clear hx1; have c0 := cv0 hb1)
      | (have q := he2; clear q; refine wl_alloc rfl rfl zeroC ?_; intro w3 hb3 he3 hx3; clear hx3; have d0 := cv0 ((hb1.ext he2).ext he3))
      | (refine wl_alloc rfl rfl zeroC ?_; intro w2 hb2 he2 hx2; have HX2 : Hid (w2.heap.size = w1.heap.size + 1) := hx2; clear hx2; have z0 := cv0 (hb1.ext he2))
      | (have q := HU; clear q; refine wl_load rfl rowC rfl rfl HU.out.b3 rfl ?_)
      | (have q := HU; clear q; refine wl_store (D := CV { ck0 0 with kind := 0, ptsn := c.ptsn, pstr := c.pstr, pseq := c.pseq, pb := c.pb, pe := c.pe, pu := c.pu, text := c.text } { sv0 with tA := s.tA, tN := s.tN, tC := s.tC }) rfl rowC rfl rfl rfl HU.out.b2 rfl rfl (CV.one _ _) ?_; intro w9 hb9 hk9 hx9; clear hx9)
      | (refine wl_store (D := CV (ck0 0) sv0) rfl rowC rfl rfl rfl hb3 rfl rfl (CV.one _ _) ?_; intro w4 hb4 hk4 hx4; clear hx4; have HU : Hid (UsedAt w w4 w.heap.size w1.heap.size w2.heap.size c s (CV (ck0 0) sv0)) := ⟨(((hb1.ext he2).ext he3).but hk4 (show ¬ _ = _ by have := HX1.out; have := HX2.out; omega)), ((hb2.ext he3).but hk4 (show ¬ _ = _ by have := HX1.out; have := HX2.out; omega)), hb4, ((he1.trans he2).trans he3).of_but hk4 (fun q e => by subst e; have := HX1.out; have := HX2.out; omega), (by have := HX1.out; have := HX2.out; omega), (by have := HX1.out; have := HX2.out; omega), (by have := HX1.out; have := HX2.out; omega), (by have := HX1.out; omega)⟩; clear c0 d0 z0 hb1 hb2 hb3 hb4 he1 he2 he3 hk4; have f0 := cv0 HU.out.b1; clear HX1 HX2; generalize w.heap.size = g1 at *; generalize w1.heap.size = g2 at *; generalize w2.heap.size = g3 at *)
      | (have q := HU; clear q; refine wl_loadM rfl rowPc rfl rfl HU.out.b1 (PV c s).toList (CV.piece c s) rfl ?_)
      | (have q := HU; clear q; refine wl_storeM (D := PV c s) rfl rowPc rfl rfl rfl HU.out.b3 rfl (of_decide_eq_true rfl) (PV.one _ _) ?_; intro w7 hb7 hk7 hx7; clear hx7; replace HU : Hid (UsedAt w w7 g1 g2 g3 c s (CV { ck0 0 with kind := 0, ptsn := c.ptsn, pstr := c.pstr, pseq := c.pseq, pb := c.pb, pe := c.pe, pu := c.pu, text := c.text } { sv0 with tA := s.tA, tN := s.tN, tC := s.tC })) := HU.out.next hb7 hk7))
    refine bodyPost_ret (results_cell_row (fn := Try.f35) (p := 2) rfl _ w9 _ _ _ (0, 0) _ rfl hb9 Try.underlying38 rfl (by kernel_rfl)) rfl ?_
    exact ⟨rfl, HU.out.ext.of_but hk9 (fun q e => by subst e; exact HU.out.lo)⟩
set_option maxHeartbeats 8000000 in
theorem used_1 {w : World} {c : Ck} {s : Sv} (hk : c.kind = 1) :
    Calls Try.prog 35 #[.agg (CV c s)] w fun e w' => e = .returned (.agg (CV (usedC c) (usedS c s))) ∧ Ext w w' := by
    have HE : Hid (usedC c = { ck0 1 with kind := 1, tag := c.tag, win := c.win, out := c.out, inn := c.inn, tsn := c.tsn, rand := c.rand, addrs := c.addrs } ∧ usedS c s = { sv0 with rA := s.rA, rN := s.rN, rC := s.rC, aA := s.aA, aN := s.aN, aC := s.aC }) := ⟨by simp [usedC, hk], by simp [usedS, hk]⟩
    rw [HE.out.1, HE.out.2]
    go_enter Try.func35, Try.ntmps35
    go_wp2_with (first
      | (refine wl_box (C := CV c s) rfl rfl rfl ?_; intro w1 hb1 he1 hx1; have HX1 : Hid (w1.heap.size = w.heap.size + 1) := hx1; clear hx1; have c0 := cv0 hb1)
      | (have q := he2; clear q; refine wl_alloc rfl rfl zeroC ?_; intro w3 hb3 he3 hx3; clear hx3; have d0 := cv0 ((hb1.ext he2).ext he3))
      | (refine wl_alloc rfl rfl zeroC ?_; intro w2 hb2 he2 hx2; have HX2 : Hid (w2.heap.size = w1.heap.size + 1) := hx2; clear hx2; have z0 := cv0 (hb1.ext he2))
      | (have q := HU; clear q; refine wl_load rfl rowC rfl rfl HU.out.b3 rfl ?_)
      | (have q := HU; clear q; refine wl_store (D := CV { ck0 1 with kind := 1, tag := c.tag, win := c.win, out := c.out, inn := c.inn, tsn := c.tsn, rand := c.rand, addrs := c.addrs } { sv0 with rA := s.rA, rN := s.rN, rC := s.rC, aA := s.aA, aN := s.aN, aC := s.aC }) rfl rowC rfl rfl rfl HU.out.b2 rfl rfl (CV.one _ _) ?_; intro w9 hb9 hk9 hx9; clear hx9)
      | (refine wl_store (D := CV (ck0 1) sv0) rfl rowC rfl rfl rfl hb3 rfl rfl (CV.one _ _) ?_; intro w4 hb4 hk4 hx4; clear hx4; have HU : Hid (UsedAt w w4 w.heap.size w1.heap.size w2.heap.size c s (CV (ck0 1) sv0)) := ⟨(((hb1.ext he2).ext he3).but hk4 (show ¬ _ = _ by have := HX1.out; have := HX2.out; omega)), ((hb2.ext he3).but hk4 (show ¬ _ = _ by have := HX1.out; have := HX2.out; omega)), hb4, ((he1.trans he2).trans he3).of_but hk4 (fun q e => by subst e; have := HX1.out; have := HX2.out; omega), (by have := HX1.out; have := HX2.out; omega), (by have := HX1.out; have := HX2.out; omega), (by have := HX1.out; have := HX2.out; omega), (by have := HX1.out; omega)⟩; clear c0 d0 z0 hb1 hb2 hb3 hb4 he1 he2 he3 hk4; have f0 := cv0 HU.out.b1; clear HX1 HX2; generalize w.heap.size = g1 at *; generalize w1.heap.size = g2 at *; generalize w2.heap.size = g3 at *))
    refine wp_region_facts (fun t => bif Nat.ble 17 t && Nat.ble t 27 then some (t - 17) else bif Nat.beq t 28 then some 12 else bif Nat.beq t 29 then some 14 else bif Nat.beq t 30 then some 16 else bif Nat.beq t 31 then some 18 else none) 94 (PutD g3 38 (CV { ck0 1 with kind := 1, tag := c.tag, win := c.win, out := c.out, inn := c.inn, tsn := c.tsn } sv0))
      [Is (.pointer (some ⟨g1, 8, none⟩)), Is (.int .u32 (c.tag : Int)), Is (.pointer (some ⟨g1, 9, none⟩)), Is (.int .i64 c.win), Is (.pointer (some ⟨g1, 10, none⟩)), Is (.int .i64 c.out), Is (.pointer (some ⟨g1, 11, none⟩)), Is (.int .i64 c.inn), Is (.pointer (some ⟨g1, 12, none⟩)), Is (.int .u32 (c.tsn : Int)), Is (.pointer (some ⟨g3, 8, none⟩)), DoneAt g3 38 (CV { ck0 1 with kind := 1, tag := c.tag, win := c.win, out := c.out, inn := c.inn, tsn := c.tsn } sv0) 8, Is (.pointer (some ⟨g3, 9, none⟩)), DoneAt g3 38 (CV { ck0 1 with kind := 1, tag := c.tag, win := c.win, out := c.out, inn := c.inn, tsn := c.tsn } sv0) 9, Is (.pointer (some ⟨g3, 10, none⟩)), DoneAt g3 38 (CV { ck0 1 with kind := 1, tag := c.tag, win := c.win, out := c.out, inn := c.inn, tsn := c.tsn } sv0) 10, Is (.pointer (some ⟨g3, 11, none⟩)), DoneAt g3 38 (CV { ck0 1 with kind := 1, tag := c.tag, win := c.win, out := c.out, inn := c.inn, tsn := c.tsn } sv0) 11, Is (.pointer (some ⟨g3, 12, none⟩)), DoneAt g3 38 (CV { ck0 1 with kind := 1, tag := c.tag, win := c.win, out := c.out, inn := c.inn, tsn := c.tsn } sv0) 12]
      rfl (by kernel_rfl) (by kernel_rfl) rfl PutD.refl (fun _ _ _ => PutD.trans) ?_ ?_ ?_
    · exact KeepAll.is (KeepAll.is (KeepAll.is (KeepAll.is (KeepAll.is (KeepAll.is (KeepAll.is (KeepAll.is (KeepAll.is (KeepAll.is (KeepAll.is (KeepAll.cons (fun _ _ _ h k => PutD.done k h) (KeepAll.is (KeepAll.cons (fun _ _ _ h k => PutD.done k h) (KeepAll.is (KeepAll.cons (fun _ _ _ h k => PutD.done k h) (KeepAll.is (KeepAll.cons (fun _ _ _ h k => PutD.done k h) (KeepAll.is (KeepAll.cons (fun _ _ _ h k => PutD.done k h) (KeepAll.nil))))))))))))))))))))
    · refine GoodAll.cons ?_ ?_
      · intro r wx hR hx
        obtain ⟨h1, _⟩ := hx
        replace h1 : r (.tmp 1) = .pointer (some ⟨g1, 0, none⟩) := h1
        exact give_of (by simp [execOp, h1, go_sem]) ⟨PutD.refl _, rfl⟩
      refine GoodAll.cons ?_ ?_
      · intro r wx hR hx
        obtain ⟨h1, _⟩ := hx
        replace h1 : r (.tmp 17) = .pointer (some ⟨g1, 8, none⟩) := h1
        exact give_of (exec_get one22 rfl h1 (cv8 (hR.other HU.out.b1 HU.out.n13))) ⟨PutD.refl _, rfl⟩
      refine GoodAll.cons ?_ ?_
      · intro r wx hR hx
        obtain ⟨h1, _⟩ := hx
        replace h1 : r (.tmp 1) = .pointer (some ⟨g1, 0, none⟩) := h1
        exact give_of (by simp [execOp, h1, go_sem]) ⟨PutD.refl _, rfl⟩
      refine GoodAll.cons ?_ ?_
      · intro r wx hR hx
        obtain ⟨h1, _⟩ := hx
        replace h1 : r (.tmp 19) = .pointer (some ⟨g1, 9, none⟩) := h1
        exact give_of (exec_get one3 rfl h1 (cv9 (hR.other HU.out.b1 HU.out.n13))) ⟨PutD.refl _, rfl⟩
      refine GoodAll.cons ?_ ?_
      · intro r wx hR hx
        obtain ⟨h1, _⟩ := hx
        replace h1 : r (.tmp 1) = .pointer (some ⟨g1, 0, none⟩) := h1
        exact give_of (by simp [execOp, h1, go_sem]) ⟨PutD.refl _, rfl⟩
      refine GoodAll.cons ?_ ?_
      · intro r wx hR hx
        obtain ⟨h1, _⟩ := hx
        replace h1 : r (.tmp 21) = .pointer (some ⟨g1, 10, none⟩) := h1
        exact give_of (exec_get one3 rfl h1 (cv10 (hR.other HU.out.b1 HU.out.n13))) ⟨PutD.refl _, rfl⟩
      refine GoodAll.cons ?_ ?_
      · intro r wx hR hx
        obtain ⟨h1, _⟩ := hx
        replace h1 : r (.tmp 1) = .pointer (some ⟨g1, 0, none⟩) := h1
        exact give_of (by simp [execOp, h1, go_sem]) ⟨PutD.refl _, rfl⟩
      refine GoodAll.cons ?_ ?_
      · intro r wx hR hx
        obtain ⟨h1, _⟩ := hx
        replace h1 : r (.tmp 23) = .pointer (some ⟨g1, 11, none⟩) := h1
        exact give_of (exec_get one3 rfl h1 (cv11 (hR.other HU.out.b1 HU.out.n13))) ⟨PutD.refl _, rfl⟩
      refine GoodAll.cons ?_ ?_
      · intro r wx hR hx
        obtain ⟨h1, _⟩ := hx
        replace h1 : r (.tmp 1) = .pointer (some ⟨g1, 0, none⟩) := h1
        exact give_of (by simp [execOp, h1, go_sem]) ⟨PutD.refl _, rfl⟩
      refine GoodAll.cons ?_ ?_
      · intro r wx hR hx
        obtain ⟨h1, _⟩ := hx
        replace h1 : r (.tmp 25) = .pointer (some ⟨g1, 12, none⟩) := h1
        exact give_of (exec_get one22 rfl h1 (cv12 (hR.other HU.out.b1 HU.out.n13))) ⟨PutD.refl _, rfl⟩
      refine GoodAll.cons ?_ ?_
      · intro r wx hR hx
        obtain ⟨h1, _⟩ := hx
        replace h1 : r (.tmp 3) = .pointer (some ⟨g3, 0, none⟩) := h1
        exact give_of (by simp [execOp, h1, go_sem]) ⟨PutD.refl _, rfl⟩
      refine GoodAll.cons ?_ ?_
      · intro r wx hR hx
        obtain ⟨h1, h2, _⟩ := hx
        replace h1 : r (.tmp 27) = .pointer (some ⟨g3, 8, none⟩) := h1
        replace h2 : r (.tmp 18) = .int .u32 (c.tag : Int) := h2
        obtain ⟨C1, hb1, hs1, _⟩ := hR.it _ HU.out.b3
        exact give_skip (exec_set one22 rfl h1 h2 rfl rfl hb1 (by rw [hs1]; exact of_decide_eq_true rfl)) (doneAt_set hb1 (by rw [hs1]; exact of_decide_eq_true rfl) (x := undef) rfl)
      refine GoodAll.cons ?_ ?_
      · intro r wx hR hx
        obtain ⟨h1, _⟩ := hx
        replace h1 : r (.tmp 3) = .pointer (some ⟨g3, 0, none⟩) := h1
        exact give_of (by simp [execOp, h1, go_sem]) ⟨PutD.refl _, rfl⟩
      refine GoodAll.cons ?_ ?_
      · intro r wx hR hx
        obtain ⟨h1, h2, _⟩ := hx
        replace h1 : r (.tmp 28) = .pointer (some ⟨g3, 9, none⟩) := h1
        replace h2 : r (.tmp 20) = .int .i64 c.win := h2
        obtain ⟨C1, hb1, hs1, _⟩ := hR.it _ HU.out.b3
        exact give_skip (exec_set one3 rfl h1 h2 rfl rfl hb1 (by rw [hs1]; exact of_decide_eq_true rfl)) (doneAt_set hb1 (by rw [hs1]; exact of_decide_eq_true rfl) (x := undef) rfl)
      refine GoodAll.cons ?_ ?_
      · intro r wx hR hx
        obtain ⟨h1, _⟩ := hx
        replace h1 : r (.tmp 3) = .pointer (some ⟨g3, 0, none⟩) := h1
        exact give_of (by simp [execOp, h1, go_sem]) ⟨PutD.refl _, rfl⟩
      refine GoodAll.cons ?_ ?_
      · intro r wx hR hx
        obtain ⟨h1, h2, _⟩ := hx
        replace h1 : r (.tmp 29) = .pointer (some ⟨g3, 10, none⟩) := h1
        replace h2 : r (.tmp 22) = .int .i64 c.out := h2
        obtain ⟨C1, hb1, hs1, _⟩ := hR.it _ HU.out.b3
        exact give_skip (exec_set one3 rfl h1 h2 rfl rfl hb1 (by rw [hs1]; exact of_decide_eq_true rfl)) (doneAt_set hb1 (by rw [hs1]; exact of_decide_eq_true rfl) (x := undef) rfl)
      refine GoodAll.cons ?_ ?_
      · intro r wx hR hx
        obtain ⟨h1, _⟩ := hx
        replace h1 : r (.tmp 3) = .pointer (some ⟨g3, 0, none⟩) := h1
        exact give_of (by simp [execOp, h1, go_sem]) ⟨PutD.refl _, rfl⟩
      refine GoodAll.cons ?_ ?_
      · intro r wx hR hx
        obtain ⟨h1, h2, _⟩ := hx
        replace h1 : r (.tmp 30) = .pointer (some ⟨g3, 11, none⟩) := h1
        replace h2 : r (.tmp 24) = .int .i64 c.inn := h2
        obtain ⟨C1, hb1, hs1, _⟩ := hR.it _ HU.out.b3
        exact give_skip (exec_set one3 rfl h1 h2 rfl rfl hb1 (by rw [hs1]; exact of_decide_eq_true rfl)) (doneAt_set hb1 (by rw [hs1]; exact of_decide_eq_true rfl) (x := undef) rfl)
      refine GoodAll.cons ?_ ?_
      · intro r wx hR hx
        obtain ⟨h1, _⟩ := hx
        replace h1 : r (.tmp 3) = .pointer (some ⟨g3, 0, none⟩) := h1
        exact give_of (by simp [execOp, h1, go_sem]) ⟨PutD.refl _, rfl⟩
      refine GoodAll.cons ?_ ?_
      · intro r wx hR hx
        obtain ⟨h1, h2, _⟩ := hx
        replace h1 : r (.tmp 31) = .pointer (some ⟨g3, 12, none⟩) := h1
        replace h2 : r (.tmp 26) = .int .u32 (c.tsn : Int) := h2
        obtain ⟨C1, hb1, hs1, _⟩ := hR.it _ HU.out.b3
        exact give_skip (exec_set one22 rfl h1 h2 rfl rfl hb1 (by rw [hs1]; exact of_decide_eq_true rfl)) (doneAt_set hb1 (by rw [hs1]; exact of_decide_eq_true rfl) (x := undef) rfl)
      exact GoodAll.nil
    · intro vs w14 a7 hR hold ha7
      have hv0 : vs 0 = (.pointer (some ⟨g1, 8, none⟩)) := hold.at 0
      have hv1 : vs 1 = (.int .u32 (c.tag : Int)) := hold.at 1
      have hv2 : vs 2 = (.pointer (some ⟨g1, 9, none⟩)) := hold.at 2
      have hv3 : vs 3 = (.int .i64 c.win) := hold.at 3
      have hv4 : vs 4 = (.pointer (some ⟨g1, 10, none⟩)) := hold.at 4
      have hv5 : vs 5 = (.int .i64 c.out) := hold.at 5
      have hv6 : vs 6 = (.pointer (some ⟨g1, 11, none⟩)) := hold.at 6
      have hv7 : vs 7 = (.int .i64 c.inn) := hold.at 7
      have hv8 : vs 8 = (.pointer (some ⟨g1, 12, none⟩)) := hold.at 8
      have hv9 : vs 9 = (.int .u32 (c.tsn : Int)) := hold.at 9
      have hv10 : vs 10 = (.pointer (some ⟨g3, 8, none⟩)) := hold.at 10
      have hv12 : vs 12 = (.pointer (some ⟨g3, 9, none⟩)) := hold.at 12
      have hv14 : vs 14 = (.pointer (some ⟨g3, 10, none⟩)) := hold.at 14
      have hv16 : vs 16 = (.pointer (some ⟨g3, 11, none⟩)) := hold.at 16
      have hv18 : vs 18 = (.pointer (some ⟨g3, 12, none⟩)) := hold.at 18
      have hbw14 := hR.fin HU.out.b3 rfl (fun j hj => by
        match j with
        | 0 => exact .inr rfl
        | 1 => exact .inr rfl
        | 2 => exact .inr rfl
        | 3 => exact .inr rfl
        | 4 => exact .inr rfl
        | 5 => exact .inr rfl
        | 6 => exact .inr rfl
        | 7 => exact .inr rfl
        | 8 => exact .inl (hold.at 11)
        | 9 => exact .inl (hold.at 13)
        | 10 => exact .inl (hold.at 15)
        | 11 => exact .inl (hold.at 17)
        | 12 => exact .inl (hold.at 19)
        | 13 => exact .inr rfl
        | 14 => exact .inr rfl
        | 15 => exact .inr rfl
        | 16 => exact .inr rfl
        | 17 => exact .inr rfl
        | 18 => exact .inr rfl
        | 19 => exact .inr rfl
        | 20 => exact .inr rfl
        | 21 => exact .inr rfl
        | j + 22 => exact absurd hj (by rw [CV.size]; omega))
      replace HU : Hid (UsedAt w w14 g1 g2 g3 c s (CV { ck0 1 with kind := 1, tag := c.tag, win := c.win, out := c.out, inn := c.inn, tsn := c.tsn } sv0)) := (HU.out.drew).next hbw14.1 hbw14.2
      simp only [putAll, Act.put, hv0, hv1, hv2, hv3, hv4, hv5, hv6, hv7, hv8, hv9, hv10, hv12, hv14, hv16, hv18, List.setIfInBounds_toArray, List.set_cons_succ, List.set_cons_zero] at ha7
      subst ha7
      clear hold hR hbw14 hv0 hv1 hv2 hv3 hv4 hv5 hv6 hv7 hv8 hv9 hv10 hv12 hv14 hv16 hv18
      have f0 := cv0 HU.out.b1
      go_wp2_with (first
        | (have q := HU; clear q; refine wl_load rfl rowC rfl rfl HU.out.b3 rfl ?_)
        | (have q := HU; clear q; refine wl_store (D := CV { ck0 1 with kind := 1, tag := c.tag, win := c.win, out := c.out, inn := c.inn, tsn := c.tsn, rand := c.rand, addrs := c.addrs } { sv0 with rA := s.rA, rN := s.rN, rC := s.rC, aA := s.aA, aN := s.aN, aC := s.aC }) rfl rowC rfl rfl rfl HU.out.b2 rfl rfl (CV.one _ _) ?_; intro w9 hb9 hk9 hx9; clear hx9))
      refine wp_region_facts (fun t => bif Nat.ble 32 t && Nat.ble t 36 then some (t - 32) else bif Nat.beq t 37 then some 6 else none) 94 (PutD g3 38 (CV { ck0 1 with kind := 1, tag := c.tag, win := c.win, out := c.out, inn := c.inn, tsn := c.tsn, rand := c.rand, addrs := c.addrs } { sv0 with rA := s.rA, rN := s.rN, rC := s.rC, aA := s.aA, aN := s.aN, aC := s.aC }))
        [Is (.pointer (some ⟨g1, 13, none⟩)), Is (.slice s.rA s.rN s.rC), Is (.pointer (some ⟨g1, 14, none⟩)), Is (.slice s.aA s.aN s.aC), Is (.pointer (some ⟨g3, 13, none⟩)), DoneAt g3 38 (CV { ck0 1 with kind := 1, tag := c.tag, win := c.win, out := c.out, inn := c.inn, tsn := c.tsn, rand := c.rand, addrs := c.addrs } { sv0 with rA := s.rA, rN := s.rN, rC := s.rC, aA := s.aA, aN := s.aN, aC := s.aC }) 13, Is (.pointer (some ⟨g3, 14, none⟩)), DoneAt g3 38 (CV { ck0 1 with kind := 1, tag := c.tag, win := c.win, out := c.out, inn := c.inn, tsn := c.tsn, rand := c.rand, addrs := c.addrs } { sv0 with rA := s.rA, rN := s.rN, rC := s.rC, aA := s.aA, aN := s.aN, aC := s.aC }) 14]
        rfl (by kernel_rfl) (by kernel_rfl) rfl PutD.refl (fun _ _ _ => PutD.trans) ?_ ?_ ?_
      · exact KeepAll.is (KeepAll.is (KeepAll.is (KeepAll.is (KeepAll.is (KeepAll.cons (fun _ _ _ h k => PutD.done k h) (KeepAll.is (KeepAll.cons (fun _ _ _ h k => PutD.done k h) (KeepAll.nil))))))))
      · refine GoodAll.cons ?_ ?_
        · intro r wx hR hx
          obtain ⟨h1, _⟩ := hx
          replace h1 : r (.tmp 1) = .pointer (some ⟨g1, 0, none⟩) := h1
          exact give_of (by simp [execOp, h1, go_sem]) ⟨PutD.refl _, rfl⟩
        refine GoodAll.cons ?_ ?_
        · intro r wx hR hx
          obtain ⟨h1, _⟩ := hx
          replace h1 : r (.tmp 32) = .pointer (some ⟨g1, 13, none⟩) := h1
          exact give_of (exec_get oneS rfl h1 (cv13 (hR.other HU.out.b1 HU.out.n13))) ⟨PutD.refl _, rfl⟩
        refine GoodAll.cons ?_ ?_
        · intro r wx hR hx
          obtain ⟨h1, _⟩ := hx
          replace h1 : r (.tmp 1) = .pointer (some ⟨g1, 0, none⟩) := h1
          exact give_of (by simp [execOp, h1, go_sem]) ⟨PutD.refl _, rfl⟩
        refine GoodAll.cons ?_ ?_
        · intro r wx hR hx
          obtain ⟨h1, _⟩ := hx
          replace h1 : r (.tmp 34) = .pointer (some ⟨g1, 14, none⟩) := h1
          exact give_of (exec_get oneSA rfl h1 (cv14 (hR.other HU.out.b1 HU.out.n13))) ⟨PutD.refl _, rfl⟩
        refine GoodAll.cons ?_ ?_
        · intro r wx hR hx
          obtain ⟨h1, _⟩ := hx
          replace h1 : r (.tmp 3) = .pointer (some ⟨g3, 0, none⟩) := h1
          exact give_of (by simp [execOp, h1, go_sem]) ⟨PutD.refl _, rfl⟩
        refine GoodAll.cons ?_ ?_
        · intro r wx hR hx
          obtain ⟨h1, h2, _⟩ := hx
          replace h1 : r (.tmp 36) = .pointer (some ⟨g3, 13, none⟩) := h1
          replace h2 : r (.tmp 33) = .slice s.rA s.rN s.rC := h2
          obtain ⟨C1, hb1, hs1, _⟩ := hR.it _ HU.out.b3
          exact give_skip (exec_set oneS rfl h1 h2 rfl rfl hb1 (by rw [hs1]; exact of_decide_eq_true rfl)) (doneAt_set hb1 (by rw [hs1]; exact of_decide_eq_true rfl) (x := undef) rfl)
        refine GoodAll.cons ?_ ?_
        · intro r wx hR hx
          obtain ⟨h1, _⟩ := hx
          replace h1 : r (.tmp 3) = .pointer (some ⟨g3, 0, none⟩) := h1
          exact give_of (by simp [execOp, h1, go_sem]) ⟨PutD.refl _, rfl⟩
        refine GoodAll.cons ?_ ?_
        · intro r wx hR hx
          obtain ⟨h1, h2, _⟩ := hx
          replace h1 : r (.tmp 37) = .pointer (some ⟨g3, 14, none⟩) := h1
          replace h2 : r (.tmp 35) = .slice s.aA s.aN s.aC := h2
          obtain ⟨C1, hb1, hs1, _⟩ := hR.it _ HU.out.b3
          exact give_skip (exec_set oneSA rfl h1 h2 rfl rfl hb1 (by rw [hs1]; exact of_decide_eq_true rfl)) (doneAt_set hb1 (by rw [hs1]; exact of_decide_eq_true rfl) (x := undef) rfl)
        exact GoodAll.nil
      · intro vs w15 a7 hR hold ha7
        have hv0 : vs 0 = (.pointer (some ⟨g1, 13, none⟩)) := hold.at 0
        have hv1 : vs 1 = (.slice s.rA s.rN s.rC) := hold.at 1
        have hv2 : vs 2 = (.pointer (some ⟨g1, 14, none⟩)) := hold.at 2
        have hv3 : vs 3 = (.slice s.aA s.aN s.aC) := hold.at 3
        have hv4 : vs 4 = (.pointer (some ⟨g3, 13, none⟩)) := hold.at 4
        have hv6 : vs 6 = (.pointer (some ⟨g3, 14, none⟩)) := hold.at 6
        have hbw15 := hR.fin HU.out.b3 rfl (fun j hj => by
          match j with
          | 0 => exact .inr rfl
          | 1 => exact .inr rfl
          | 2 => exact .inr rfl
          | 3 => exact .inr rfl
          | 4 => exact .inr rfl
          | 5 => exact .inr rfl
          | 6 => exact .inr rfl
          | 7 => exact .inr rfl
          | 8 => exact .inr rfl
          | 9 => exact .inr rfl
          | 10 => exact .inr rfl
          | 11 => exact .inr rfl
          | 12 => exact .inr rfl
          | 13 => exact .inl (hold.at 5)
          | 14 => exact .inl (hold.at 7)
          | 15 => exact .inr rfl
          | 16 => exact .inr rfl
          | 17 => exact .inr rfl
          | 18 => exact .inr rfl
          | 19 => exact .inr rfl
          | 20 => exact .inr rfl
          | 21 => exact .inr rfl
          | j + 22 => exact absurd hj (by rw [CV.size]; omega))
        replace HU : Hid (UsedAt w w15 g1 g2 g3 c s (CV { ck0 1 with kind := 1, tag := c.tag, win := c.win, out := c.out, inn := c.inn, tsn := c.tsn, rand := c.rand, addrs := c.addrs } { sv0 with rA := s.rA, rN := s.rN, rC := s.rC, aA := s.aA, aN := s.aN, aC := s.aC })) := (HU.out.drew).next hbw15.1 hbw15.2
        simp only [putAll, Act.put, hv0, hv1, hv2, hv3, hv4, hv6, List.setIfInBounds_toArray, List.set_cons_succ, List.set_cons_zero] at ha7
        subst ha7
        clear hold hR hbw15 hv0 hv1 hv2 hv3 hv4 hv6
        have f0 := cv0 HU.out.b1
        go_wp2_with (first
          | (have q := HU; clear q; refine wl_load rfl rowC rfl rfl HU.out.b3 rfl ?_)
          | (have q := HU; clear q; refine wl_store (D := CV { ck0 1 with kind := 1, tag := c.tag, win := c.win, out := c.out, inn := c.inn, tsn := c.tsn, rand := c.rand, addrs := c.addrs } { sv0 with rA := s.rA, rN := s.rN, rC := s.rC, aA := s.aA, aN := s.aN, aC := s.aC }) rfl rowC rfl rfl rfl HU.out.b2 rfl rfl (CV.one _ _) ?_; intro w9 hb9 hk9 hx9; clear hx9))
        refine bodyPost_ret (results_cell_row (fn := Try.f35) (p := 2) rfl _ w9 _ _ _ (0, 0) _ rfl hb9 Try.underlying38 rfl (by kernel_rfl)) rfl ?_
        exact ⟨rfl, HU.out.ext.of_but hk9 (fun q e => by subst e; exact HU.out.lo)⟩
set_option maxHeartbeats 8000000 in
theorem used_2 {w : World} {c : Ck} {s : Sv} (hk : c.kind = 2) :
    Calls Try.prog 35 #[.agg (CV c s)] w fun e w' => e = .returned (.agg (CV (usedC c) (usedS c s))) ∧ Ext w w' := by
    have HE : Hid (usedC c = { ck0 2 with kind := 2, tag := c.tag, win := c.win, out := c.out, inn := c.inn, tsn := c.tsn, rand := c.rand, addrs := c.addrs, info := c.info } ∧ usedS c s = { sv0 with rA := s.rA, rN := s.rN, rC := s.rC, aA := s.aA, aN := s.aN, aC := s.aC, iA := s.iA, iN := s.iN, iC := s.iC }) := ⟨by simp [usedC, hk], by simp [usedS, hk]⟩
    rw [HE.out.1, HE.out.2]
    go_enter Try.func35, Try.ntmps35
    go_wp2_with (first
      | (refine wl_box (C := CV c s) rfl rfl rfl ?_; intro w1 hb1 he1 hx1; have HX1 : Hid (w1.heap.size = w.heap.size + 1) := hx1; clear hx1; have c0 := cv0 hb1)
      | (have q := he2; clear q; refine wl_alloc rfl rfl zeroC ?_; intro w3 hb3 he3 hx3; clear hx3; have d0 := cv0 ((hb1.ext he2).ext he3))
      | (refine wl_alloc rfl rfl zeroC ?_; intro w2 hb2 he2 hx2; have HX2 : Hid (w2.heap.size = w1.heap.size + 1) := hx2; clear hx2; have z0 := cv0 (hb1.ext he2))
      | (have q := HU; clear q; refine wl_load rfl rowC rfl rfl HU.out.b3 rfl ?_)
      | (have q := HU; clear q; refine wl_store (D := CV { ck0 2 with kind := 2, tag := c.tag, win := c.win, out := c.out, inn := c.inn, tsn := c.tsn, rand := c.rand, addrs := c.addrs, info := c.info } { sv0 with rA := s.rA, rN := s.rN, rC := s.rC, aA := s.aA, aN := s.aN, aC := s.aC, iA := s.iA, iN := s.iN, iC := s.iC }) rfl rowC rfl rfl rfl HU.out.b2 rfl rfl (CV.one _ _) ?_; intro w9 hb9 hk9 hx9; clear hx9)
      | (refine wl_store (D := CV (ck0 2) sv0) rfl rowC rfl rfl rfl hb3 rfl rfl (CV.one _ _) ?_; intro w4 hb4 hk4 hx4; clear hx4; have HU : Hid (UsedAt w w4 w.heap.size w1.heap.size w2.heap.size c s (CV (ck0 2) sv0)) := ⟨(((hb1.ext he2).ext he3).but hk4 (show ¬ _ = _ by have := HX1.out; have := HX2.out; omega)), ((hb2.ext he3).but hk4 (show ¬ _ = _ by have := HX1.out; have := HX2.out; omega)), hb4, ((he1.trans he2).trans he3).of_but hk4 (fun q e => by subst e; have := HX1.out; have := HX2.out; omega), (by have := HX1.out; have := HX2.out; omega), (by have := HX1.out; have := HX2.out; omega), (by have := HX1.out; have := HX2.out; omega), (by have := HX1.out; omega)⟩; clear c0 d0 z0 hb1 hb2 hb3 hb4 he1 he2 he3 hk4; have f0 := cv0 HU.out.b1; clear HX1 HX2; generalize w.heap.size = g1 at *; generalize w1.heap.size = g2 at *; generalize w2.heap.size = g3 at *))
    refine wp_region_facts (fun t => bif Nat.ble 17 t && Nat.ble t 27 then some (t - 17) else bif Nat.beq t 28 then some 12 else bif Nat.beq t 29 then some 14 else bif Nat.beq t 30 then some 16 else bif Nat.beq t 31 then some 18 else none) 94 (PutD g3 38 (CV { ck0 2 with kind := 2, tag := c.tag, win := c.win, out := c.out, inn := c.inn, tsn := c.tsn } sv0))
      [Is (.pointer (some ⟨g1, 8, none⟩)), Is (.int .u32 (c.tag : Int)), Is (.pointer (some ⟨g1, 9, none⟩)), Is (.int .i64 c.win), Is (.pointer (some ⟨g1, 10, none⟩)), Is (.int .i64 c.out), Is (.pointer (some ⟨g1, 11, none⟩)), Is (.int .i64 c.inn), Is (.pointer (some ⟨g1, 12, none⟩)), Is (.int .u32 (c.tsn : Int)), Is (.pointer (some ⟨g3, 8, none⟩)), DoneAt g3 38 (CV { ck0 2 with kind := 2, tag := c.tag, win := c.win, out := c.out, inn := c.inn, tsn := c.tsn } sv0) 8, Is (.pointer (some ⟨g3, 9, none⟩)), DoneAt g3 38 (CV { ck0 2 with kind := 2, tag := c.tag, win := c.win, out := c.out, inn := c.inn, tsn := c.tsn } sv0) 9, Is (.pointer (some ⟨g3, 10, none⟩)), DoneAt g3 38 (CV { ck0 2 with kind := 2, tag := c.tag, win := c.win, out := c.out, inn := c.inn, tsn := c.tsn } sv0) 10, Is (.pointer (some ⟨g3, 11, none⟩)), DoneAt g3 38 (CV { ck0 2 with kind := 2, tag := c.tag, win := c.win, out := c.out, inn := c.inn, tsn := c.tsn } sv0) 11, Is (.pointer (some ⟨g3, 12, none⟩)), DoneAt g3 38 (CV { ck0 2 with kind := 2, tag := c.tag, win := c.win, out := c.out, inn := c.inn, tsn := c.tsn } sv0) 12]
      rfl (by kernel_rfl) (by kernel_rfl) rfl PutD.refl (fun _ _ _ => PutD.trans) ?_ ?_ ?_
    · exact KeepAll.is (KeepAll.is (KeepAll.is (KeepAll.is (KeepAll.is (KeepAll.is (KeepAll.is (KeepAll.is (KeepAll.is (KeepAll.is (KeepAll.is (KeepAll.cons (fun _ _ _ h k => PutD.done k h) (KeepAll.is (KeepAll.cons (fun _ _ _ h k => PutD.done k h) (KeepAll.is (KeepAll.cons (fun _ _ _ h k => PutD.done k h) (KeepAll.is (KeepAll.cons (fun _ _ _ h k => PutD.done k h) (KeepAll.is (KeepAll.cons (fun _ _ _ h k => PutD.done k h) (KeepAll.nil))))))))))))))))))))
    · refine GoodAll.cons ?_ ?_
      · intro r wx hR hx
        obtain ⟨h1, _⟩ := hx
        replace h1 : r (.tmp 1) = .pointer (some ⟨g1, 0, none⟩) := h1
        exact give_of (by simp [execOp, h1, go_sem]) ⟨PutD.refl _, rfl⟩
      refine GoodAll.cons ?_ ?_
      · intro r wx hR hx
        obtain ⟨h1, _⟩ := hx
        replace h1 : r (.tmp 17) = .pointer (some ⟨g1, 8, none⟩) := h1
        exact give_of (exec_get one22 rfl h1 (cv8 (hR.other HU.out.b1 HU.out.n13))) ⟨PutD.refl _, rfl⟩
      refine GoodAll.cons ?_ ?_
      · intro r wx hR hx
        obtain ⟨h1, _⟩ := hx
        replace h1 : r (.tmp 1) = .pointer (some ⟨g1, 0, none⟩) := h1
        exact give_of (by simp [execOp, h1, go_sem]) ⟨PutD.refl _, rfl⟩
      refine GoodAll.cons ?_ ?_
      · intro r wx hR hx
        obtain ⟨h1, _⟩ := hx
        replace h1 : r (.tmp 19) = .pointer (some ⟨g1, 9, none⟩) := h1
        exact give_of (exec_get one3 rfl h1 (cv9 (hR.other HU.out.b1 HU.out.n13))) ⟨PutD.refl _, rfl⟩
      refine GoodAll.cons ?_ ?_
      · intro r wx hR hx
        obtain ⟨h1, _⟩ := hx
        replace h1 : r (.tmp 1) = .pointer (some ⟨g1, 0, none⟩) := h1
        exact give_of (by simp [execOp, h1, go_sem]) ⟨PutD.refl _, rfl⟩
      refine GoodAll.cons ?_ ?_
      · intro r wx hR hx
        obtain ⟨h1, _⟩ := hx
        replace h1 : r (.tmp 21) = .pointer (some ⟨g1, 10, none⟩) := h1
        exact give_of (exec_get one3 rfl h1 (cv10 (hR.other HU.out.b1 HU.out.n13))) ⟨PutD.refl _, rfl⟩
      refine GoodAll.cons ?_ ?_
      · intro r wx hR hx
        obtain ⟨h1, _⟩ := hx
        replace h1 : r (.tmp 1) = .pointer (some ⟨g1, 0, none⟩) := h1
        exact give_of (by simp [execOp, h1, go_sem]) ⟨PutD.refl _, rfl⟩
      refine GoodAll.cons ?_ ?_
      · intro r wx hR hx
        obtain ⟨h1, _⟩ := hx
        replace h1 : r (.tmp 23) = .pointer (some ⟨g1, 11, none⟩) := h1
        exact give_of (exec_get one3 rfl h1 (cv11 (hR.other HU.out.b1 HU.out.n13))) ⟨PutD.refl _, rfl⟩
      refine GoodAll.cons ?_ ?_
      · intro r wx hR hx
        obtain ⟨h1, _⟩ := hx
        replace h1 : r (.tmp 1) = .pointer (some ⟨g1, 0, none⟩) := h1
        exact give_of (by simp [execOp, h1, go_sem]) ⟨PutD.refl _, rfl⟩
      refine GoodAll.cons ?_ ?_
      · intro r wx hR hx
        obtain ⟨h1, _⟩ := hx
        replace h1 : r (.tmp 25) = .pointer (some ⟨g1, 12, none⟩) := h1
        exact give_of (exec_get one22 rfl h1 (cv12 (hR.other HU.out.b1 HU.out.n13))) ⟨PutD.refl _, rfl⟩
      refine GoodAll.cons ?_ ?_
      · intro r wx hR hx
        obtain ⟨h1, _⟩ := hx
        replace h1 : r (.tmp 3) = .pointer (some ⟨g3, 0, none⟩) := h1
        exact give_of (by simp [execOp, h1, go_sem]) ⟨PutD.refl _, rfl⟩
      refine GoodAll.cons ?_ ?_
      · intro r wx hR hx
        obtain ⟨h1, h2, _⟩ := hx
        replace h1 : r (.tmp 27) = .pointer (some ⟨g3, 8, none⟩) := h1
        replace h2 : r (.tmp 18) = .int .u32 (c.tag : Int) := h2
        obtain ⟨C1, hb1, hs1, _⟩ := hR.it _ HU.out.b3
        exact give_skip (exec_set one22 rfl h1 h2 rfl rfl hb1 (by rw [hs1]; exact of_decide_eq_true rfl)) (doneAt_set hb1 (by rw [hs1]; exact of_decide_eq_true rfl) (x := undef) rfl)
      refine GoodAll.cons ?_ ?_
      · intro r wx hR hx
        obtain ⟨h1, _⟩ := hx
        replace h1 : r (.tmp 3) = .pointer (some ⟨g3, 0, none⟩) := h1
        exact give_of (by simp [execOp, h1, go_sem]) ⟨PutD.refl _, rfl⟩
      refine GoodAll.cons ?_ ?_
      · intro r wx hR hx
        obtain ⟨h1, h2, _⟩ := hx
        replace h1 : r (.tmp 28) = .pointer (some ⟨g3, 9, none⟩) := h1
        replace h2 : r (.tmp 20) = .int .i64 c.win := h2
        obtain ⟨C1, hb1, hs1, _⟩ := hR.it _ HU.out.b3
        exact give_skip (exec_set one3 rfl h1 h2 rfl rfl hb1 (by rw [hs1]; exact of_decide_eq_true rfl)) (doneAt_set hb1 (by rw [hs1]; exact of_decide_eq_true rfl) (x := undef) rfl)
      refine GoodAll.cons ?_ ?_
      · intro r wx hR hx
        obtain ⟨h1, _⟩ := hx
        replace h1 : r (.tmp 3) = .pointer (some ⟨g3, 0, none⟩) := h1
        exact give_of (by simp [execOp, h1, go_sem]) ⟨PutD.refl _, rfl⟩
      refine GoodAll.cons ?_ ?_
      · intro r wx hR hx
        obtain ⟨h1, h2, _⟩ := hx
        replace h1 : r (.tmp 29) = .pointer (some ⟨g3, 10, none⟩) := h1
        replace h2 : r (.tmp 22) = .int .i64 c.out := h2
        obtain ⟨C1, hb1, hs1, _⟩ := hR.it _ HU.out.b3
        exact give_skip (exec_set one3 rfl h1 h2 rfl rfl hb1 (by rw [hs1]; exact of_decide_eq_true rfl)) (doneAt_set hb1 (by rw [hs1]; exact of_decide_eq_true rfl) (x := undef) rfl)
      refine GoodAll.cons ?_ ?_
      · intro r wx hR hx
        obtain ⟨h1, _⟩ := hx
        replace h1 : r (.tmp 3) = .pointer (some ⟨g3, 0, none⟩) := h1
        exact give_of (by simp [execOp, h1, go_sem]) ⟨PutD.refl _, rfl⟩
      refine GoodAll.cons ?_ ?_
      · intro r wx hR hx
        obtain ⟨h1, h2, _⟩ := hx
        replace h1 : r (.tmp 30) = .pointer (some ⟨g3, 11, none⟩) := h1
        replace h2 : r (.tmp 24) = .int .i64 c.inn := h2
        obtain ⟨C1, hb1, hs1, _⟩ := hR.it _ HU.out.b3
        exact give_skip (exec_set one3 rfl h1 h2 rfl rfl hb1 (by rw [hs1]; exact of_decide_eq_true rfl)) (doneAt_set hb1 (by rw [hs1]; exact of_decide_eq_true rfl) (x := undef) rfl)
      refine GoodAll.cons ?_ ?_
      · intro r wx hR hx
        obtain ⟨h1, _⟩ := hx
        replace h1 : r (.tmp 3) = .pointer (some ⟨g3, 0, none⟩) := h1
        exact give_of (by simp [execOp, h1, go_sem]) ⟨PutD.refl _, rfl⟩
      refine GoodAll.cons ?_ ?_
      · intro r wx hR hx
        obtain ⟨h1, h2, _⟩ := hx
        replace h1 : r (.tmp 31) = .pointer (some ⟨g3, 12, none⟩) := h1
        replace h2 : r (.tmp 26) = .int .u32 (c.tsn : Int) := h2
        obtain ⟨C1, hb1, hs1, _⟩ := hR.it _ HU.out.b3
        exact give_skip (exec_set one22 rfl h1 h2 rfl rfl hb1 (by rw [hs1]; exact of_decide_eq_true rfl)) (doneAt_set hb1 (by rw [hs1]; exact of_decide_eq_true rfl) (x := undef) rfl)
      exact GoodAll.nil
    · intro vs w14 a7 hR hold ha7
      have hv0 : vs 0 = (.pointer (some ⟨g1, 8, none⟩)) := hold.at 0
      have hv1 : vs 1 = (.int .u32 (c.tag : Int)) := hold.at 1
      have hv2 : vs 2 = (.pointer (some ⟨g1, 9, none⟩)) := hold.at 2
      have hv3 : vs 3 = (.int .i64 c.win) := hold.at 3
      have hv4 : vs 4 = (.pointer (some ⟨g1, 10, none⟩)) := hold.at 4
      have hv5 : vs 5 = (.int .i64 c.out) := hold.at 5
      have hv6 : vs 6 = (.pointer (some ⟨g1, 11, none⟩)) := hold.at 6
      have hv7 : vs 7 = (.int .i64 c.inn) := hold.at 7
      have hv8 : vs 8 = (.pointer (some ⟨g1, 12, none⟩)) := hold.at 8
      have hv9 : vs 9 = (.int .u32 (c.tsn : Int)) := hold.at 9
      have hv10 : vs 10 = (.pointer (some ⟨g3, 8, none⟩)) := hold.at 10
      have hv12 : vs 12 = (.pointer (some ⟨g3, 9, none⟩)) := hold.at 12
      have hv14 : vs 14 = (.pointer (some ⟨g3, 10, none⟩)) := hold.at 14
      have hv16 : vs 16 = (.pointer (some ⟨g3, 11, none⟩)) := hold.at 16
      have hv18 : vs 18 = (.pointer (some ⟨g3, 12, none⟩)) := hold.at 18
      have hbw14 := hR.fin HU.out.b3 rfl (fun j hj => by
        match j with
        | 0 => exact .inr rfl
        | 1 => exact .inr rfl
        | 2 => exact .inr rfl
        | 3 => exact .inr rfl
        | 4 => exact .inr rfl
        | 5 => exact .inr rfl
        | 6 => exact .inr rfl
        | 7 => exact .inr rfl
        | 8 => exact .inl (hold.at 11)
        | 9 => exact .inl (hold.at 13)
        | 10 => exact .inl (hold.at 15)
        | 11 => exact .inl (hold.at 17)
        | 12 => exact .inl (hold.at 19)
        | 13 => exact .inr rfl
        | 14 => exact .inr rfl
        | 15 => exact .inr rfl
        | 16 => exact .inr rfl
        | 17 => exact .inr rfl
        | 18 => exact .inr rfl
        | 19 => exact .inr rfl
        | 20 => exact .inr rfl
        | 21 => exact .inr rfl
        | j + 22 => exact absurd hj (by rw [CV.size]; omega))
      replace HU : Hid (UsedAt w w14 g1 g2 g3 c s (CV { ck0 2 with kind := 2, tag := c.tag, win := c.win, out := c.out, inn := c.inn, tsn := c.tsn } sv0)) := (HU.out.drew).next hbw14.1 hbw14.2
      simp only [putAll, Act.put, hv0, hv1, hv2, hv3, hv4, hv5, hv6, hv7, hv8, hv9, hv10, hv12, hv14, hv16, hv18, List.setIfInBounds_toArray, List.set_cons_succ, List.set_cons_zero] at ha7
      subst ha7
      clear hold hR hbw14 hv0 hv1 hv2 hv3 hv4 hv5 hv6 hv7 hv8 hv9 hv10 hv12 hv14 hv16 hv18
      have f0 := cv0 HU.out.b1
      go_wp2_with (first
        | (have q := HU; clear q; refine wl_load rfl rowC rfl rfl HU.out.b3 rfl ?_)
        | (have q := HU; clear q; refine wl_store (D := CV { ck0 2 with kind := 2, tag := c.tag, win := c.win, out := c.out, inn := c.inn, tsn := c.tsn, rand := c.rand, addrs := c.addrs, info := c.info } { sv0 with rA := s.rA, rN := s.rN, rC := s.rC, aA := s.aA, aN := s.aN, aC := s.aC, iA := s.iA, iN := s.iN, iC := s.iC }) rfl rowC rfl rfl rfl HU.out.b2 rfl rfl (CV.one _ _) ?_; intro w9 hb9 hk9 hx9; clear hx9))
      refine wp_region_facts (fun t => bif Nat.ble 32 t && Nat.ble t 36 then some (t - 32) else bif Nat.beq t 37 then some 6 else none) 94 (PutD g3 38 (CV { ck0 2 with kind := 2, tag := c.tag, win := c.win, out := c.out, inn := c.inn, tsn := c.tsn, rand := c.rand, addrs := c.addrs } { sv0 with rA := s.rA, rN := s.rN, rC := s.rC, aA := s.aA, aN := s.aN, aC := s.aC }))
        [Is (.pointer (some ⟨g1, 13, none⟩)), Is (.slice s.rA s.rN s.rC), Is (.pointer (some ⟨g1, 14, none⟩)), Is (.slice s.aA s.aN s.aC), Is (.pointer (some ⟨g3, 13, none⟩)), DoneAt g3 38 (CV { ck0 2 with kind := 2, tag := c.tag, win := c.win, out := c.out, inn := c.inn, tsn := c.tsn, rand := c.rand, addrs := c.addrs } { sv0 with rA := s.rA, rN := s.rN, rC := s.rC, aA := s.aA, aN := s.aN, aC := s.aC }) 13, Is (.pointer (some ⟨g3, 14, none⟩)), DoneAt g3 38 (CV { ck0 2 with kind := 2, tag := c.tag, win := c.win, out := c.out, inn := c.inn, tsn := c.tsn, rand := c.rand, addrs := c.addrs } { sv0 with rA := s.rA, rN := s.rN, rC := s.rC, aA := s.aA, aN := s.aN, aC := s.aC }) 14]
        rfl (by kernel_rfl) (by kernel_rfl) rfl PutD.refl (fun _ _ _ => PutD.trans) ?_ ?_ ?_
      · exact KeepAll.is (KeepAll.is (KeepAll.is (KeepAll.is (KeepAll.is (KeepAll.cons (fun _ _ _ h k => PutD.done k h) (KeepAll.is (KeepAll.cons (fun _ _ _ h k => PutD.done k h) (KeepAll.nil))))))))
      · refine GoodAll.cons ?_ ?_
        · intro r wx hR hx
          obtain ⟨h1, _⟩ := hx
          replace h1 : r (.tmp 1) = .pointer (some ⟨g1, 0, none⟩) := h1
          exact give_of (by simp [execOp, h1, go_sem]) ⟨PutD.refl _, rfl⟩
        refine GoodAll.cons ?_ ?_
        · intro r wx hR hx
          obtain ⟨h1, _⟩ := hx
          replace h1 : r (.tmp 32) = .pointer (some ⟨g1, 13, none⟩) := h1
          exact give_of (exec_get oneS rfl h1 (cv13 (hR.other HU.out.b1 HU.out.n13))) ⟨PutD.refl _, rfl⟩
        refine GoodAll.cons ?_ ?_
        · intro r wx hR hx
          obtain ⟨h1, _⟩ := hx
          replace h1 : r (.tmp 1) = .pointer (some ⟨g1, 0, none⟩) := h1
          exact give_of (by simp [execOp, h1, go_sem]) ⟨PutD.refl _, rfl⟩
        refine GoodAll.cons ?_ ?_
        · intro r wx hR hx
          obtain ⟨h1, _⟩ := hx
          replace h1 : r (.tmp 34) = .pointer (some ⟨g1, 14, none⟩) := h1
          exact give_of (exec_get oneSA rfl h1 (cv14 (hR.other HU.out.b1 HU.out.n13))) ⟨PutD.refl _, rfl⟩
        refine GoodAll.cons ?_ ?_
        · intro r wx hR hx
          obtain ⟨h1, _⟩ := hx
          replace h1 : r (.tmp 3) = .pointer (some ⟨g3, 0, none⟩) := h1
          exact give_of (by simp [execOp, h1, go_sem]) ⟨PutD.refl _, rfl⟩
        refine GoodAll.cons ?_ ?_
        · intro r wx hR hx
          obtain ⟨h1, h2, _⟩ := hx
          replace h1 : r (.tmp 36) = .pointer (some ⟨g3, 13, none⟩) := h1
          replace h2 : r (.tmp 33) = .slice s.rA s.rN s.rC := h2
          obtain ⟨C1, hb1, hs1, _⟩ := hR.it _ HU.out.b3
          exact give_skip (exec_set oneS rfl h1 h2 rfl rfl hb1 (by rw [hs1]; exact of_decide_eq_true rfl)) (doneAt_set hb1 (by rw [hs1]; exact of_decide_eq_true rfl) (x := undef) rfl)
        refine GoodAll.cons ?_ ?_
        · intro r wx hR hx
          obtain ⟨h1, _⟩ := hx
          replace h1 : r (.tmp 3) = .pointer (some ⟨g3, 0, none⟩) := h1
          exact give_of (by simp [execOp, h1, go_sem]) ⟨PutD.refl _, rfl⟩
        refine GoodAll.cons ?_ ?_
        · intro r wx hR hx
          obtain ⟨h1, h2, _⟩ := hx
          replace h1 : r (.tmp 37) = .pointer (some ⟨g3, 14, none⟩) := h1
          replace h2 : r (.tmp 35) = .slice s.aA s.aN s.aC := h2
          obtain ⟨C1, hb1, hs1, _⟩ := hR.it _ HU.out.b3
          exact give_skip (exec_set oneSA rfl h1 h2 rfl rfl hb1 (by rw [hs1]; exact of_decide_eq_true rfl)) (doneAt_set hb1 (by rw [hs1]; exact of_decide_eq_true rfl) (x := undef) rfl)
        exact GoodAll.nil
      · intro vs w15 a7 hR hold ha7
        have hv0 : vs 0 = (.pointer (some ⟨g1, 13, none⟩)) := hold.at 0
        have hv1 : vs 1 = (.slice s.rA s.rN s.rC) := hold.at 1
        have hv2 : vs 2 = (.pointer (some ⟨g1, 14, none⟩)) := hold.at 2
        have hv3 : vs 3 = (.slice s.aA s.aN s.aC) := hold.at 3
        have hv4 : vs 4 = (.pointer (some ⟨g3, 13, none⟩)) := hold.at 4
        have hv6 : vs 6 = (.pointer (some ⟨g3, 14, none⟩)) := hold.at 6
        have hbw15 := hR.fin HU.out.b3 rfl (fun j hj => by
          match j with
          | 0 => exact .inr rfl
          | 1 => exact .inr rfl
          | 2 => exact .inr rfl
          | 3 => exact .inr rfl
          | 4 => exact .inr rfl
          | 5 => exact .inr rfl
          | 6 => exact .inr rfl
          | 7 => exact .inr rfl
          | 8 => exact .inr rfl
          | 9 => exact .inr rfl
          | 10 => exact .inr rfl
          | 11 => exact .inr rfl
          | 12 => exact .inr rfl
          | 13 => exact .inl (hold.at 5)
          | 14 => exact .inl (hold.at 7)
          | 15 => exact .inr rfl
          | 16 => exact .inr rfl
          | 17 => exact .inr rfl
          | 18 => exact .inr rfl
          | 19 => exact .inr rfl
          | 20 => exact .inr rfl
          | 21 => exact .inr rfl
          | j + 22 => exact absurd hj (by rw [CV.size]; omega))
        replace HU : Hid (UsedAt w w15 g1 g2 g3 c s (CV { ck0 2 with kind := 2, tag := c.tag, win := c.win, out := c.out, inn := c.inn, tsn := c.tsn, rand := c.rand, addrs := c.addrs } { sv0 with rA := s.rA, rN := s.rN, rC := s.rC, aA := s.aA, aN := s.aN, aC := s.aC })) := (HU.out.drew).next hbw15.1 hbw15.2
        simp only [putAll, Act.put, hv0, hv1, hv2, hv3, hv4, hv6, List.setIfInBounds_toArray, List.set_cons_succ, List.set_cons_zero] at ha7
        subst ha7
        clear hold hR hbw15 hv0 hv1 hv2 hv3 hv4 hv6
        have f0 := cv0 HU.out.b1
        have f1 := cv15 HU.out.b1
        go_wp2_with (first
          | (have q := HU; clear q; refine wl_load rfl rowC rfl rfl HU.out.b3 rfl ?_)
          | (have q := HU; clear q; refine wl_store (D := CV { ck0 2 with kind := 2, tag := c.tag, win := c.win, out := c.out, inn := c.inn, tsn := c.tsn, rand := c.rand, addrs := c.addrs, info := c.info } { sv0 with rA := s.rA, rN := s.rN, rC := s.rC, aA := s.aA, aN := s.aN, aC := s.aC, iA := s.iA, iN := s.iN, iC := s.iC }) rfl rowC rfl rfl rfl HU.out.b2 rfl rfl (CV.one _ _) ?_; intro w9 hb9 hk9 hx9; clear hx9)
          | (have q := HU; clear q; refine wl_set (v := .slice s.iA s.iN s.iC) rfl oneS rfl rfl rfl rfl rfl HU.out.b3 (of_decide_eq_true rfl) ?_; intro w7 hb7 hk7 hx7; clear hx7; replace HU : Hid (UsedAt w w7 g1 g2 g3 c s (CV { ck0 2 with kind := 2, tag := c.tag, win := c.win, out := c.out, inn := c.inn, tsn := c.tsn, rand := c.rand, addrs := c.addrs, info := c.info } { sv0 with rA := s.rA, rN := s.rN, rC := s.rC, aA := s.aA, aN := s.aN, aC := s.aC, iA := s.iA, iN := s.iN, iC := s.iC })) := HU.out.next hb7 hk7))
        refine bodyPost_ret (results_cell_row (fn := Try.f35) (p := 2) rfl _ w9 _ _ _ (0, 0) _ rfl hb9 Try.underlying38 rfl (by kernel_rfl)) rfl ?_
        exact ⟨rfl, HU.out.ext.of_but hk9 (fun q e => by subst e; exact HU.out.lo)⟩
set_option maxHeartbeats 8000000 in
theorem used_3 {w : World} {c : Ck} {s : Sv} (hk : c.kind = 3) :
    Calls Try.prog 35 #[.agg (CV c s)] w fun e w' => e = .returned (.agg (CV (usedC c) (usedS c s))) ∧ Ext w w' := by
    have HE : Hid (usedC c = { ck0 3 with kind := 3, tsn := c.tsn, win := c.win, gaps := c.gaps, dups := c.dups } ∧ usedS c s = { sv0 with gA := s.gA, gN := s.gN, gC := s.gC, dA := s.dA, dN := s.dN, dC := s.dC }) := ⟨by simp [usedC, hk], by simp [usedS, hk]⟩
    rw [HE.out.1, HE.out.2]
    go_enter Try.func35, Try.ntmps35
    go_wp2_with (first
      | (refine wl_box (C := CV c s) rfl rfl rfl ?_; intro w1 hb1 he1 hx1; have HX1 : Hid (w1.heap.size = w.heap.size + 1) := hx1; clear hx1; have c0 := cv0 hb1)
      | (have q := he2; clear q; refine wl_alloc rfl rfl zeroC ?_; intro w3 hb3 he3 hx3; clear hx3; have d0 := cv0 ((hb1.ext he2).ext he3))
      | (refine wl_alloc rfl rfl zeroC ?_; intro w2 hb2 he2 hx2; have HX2 : Hid (w2.heap.size = w1.heap.size + 1) := hx2; clear hx2; have z0 := cv0 (hb1.ext he2))
      | (have q := HU; clear q; refine wl_load rfl rowC rfl rfl HU.out.b3 rfl ?_)
      | (have q := HU; clear q; refine wl_store (D := CV { ck0 3 with kind := 3, tsn := c.tsn, win := c.win, gaps := c.gaps, dups := c.dups } { sv0 with gA := s.gA, gN := s.gN, gC := s.gC, dA := s.dA, dN := s.dN, dC := s.dC }) rfl rowC rfl rfl rfl HU.out.b2 rfl rfl (CV.one _ _) ?_; intro w9 hb9 hk9 hx9; clear hx9)
      | (refine wl_store (D := CV (ck0 3) sv0) rfl rowC rfl rfl rfl hb3 rfl rfl (CV.one _ _) ?_; intro w4 hb4 hk4 hx4; clear hx4; have HU : Hid (UsedAt w w4 w.heap.size w1.heap.size w2.heap.size c s (CV (ck0 3) sv0)) := ⟨(((hb1.ext he2).ext he3).but hk4 (show ¬ _ = _ by have := HX1.out; have := HX2.out; omega)), ((hb2.ext he3).but hk4 (show ¬ _ = _ by have := HX1.out; have := HX2.out; omega)), hb4, ((he1.trans he2).trans he3).of_but hk4 (fun q e => by subst e; have := HX1.out; have := HX2.out; omega), (by have := HX1.out; have := HX2.out; omega), (by have := HX1.out; have := HX2.out; omega), (by have := HX1.out; have := HX2.out; omega), (by have := HX1.out; omega)⟩; clear c0 d0 z0 hb1 hb2 hb3 hb4 he1 he2 he3 hk4; have f0 := cv0 HU.out.b1; clear HX1 HX2; generalize w.heap.size = g1 at *; generalize w1.heap.size = g2 at *; generalize w2.heap.size = g3 at *))
    refine wp_region_facts (fun t => bif Nat.ble 46 t && Nat.ble t 54 then some (t - 46) else bif Nat.beq t 55 then some 10 else bif Nat.beq t 56 then some 12 else bif Nat.beq t 57 then some 14 else none) 94 (PutD g3 38 (CV { ck0 3 with kind := 3, tsn := c.tsn, win := c.win, gaps := c.gaps, dups := c.dups } { sv0 with gA := s.gA, gN := s.gN, gC := s.gC, dA := s.dA, dN := s.dN, dC := s.dC }))
      [Is (.pointer (some ⟨g1, 12, none⟩)), Is (.int .u32 (c.tsn : Int)), Is (.pointer (some ⟨g1, 9, none⟩)), Is (.int .i64 c.win), Is (.pointer (some ⟨g1, 16, none⟩)), Is (.slice s.gA s.gN s.gC), Is (.pointer (some ⟨g1, 17, none⟩)), Is (.slice s.dA s.dN s.dC), Is (.pointer (some ⟨g3, 12, none⟩)), DoneAt g3 38 (CV { ck0 3 with kind := 3, tsn := c.tsn, win := c.win, gaps := c.gaps, dups := c.dups } { sv0 with gA := s.gA, gN := s.gN, gC := s.gC, dA := s.dA, dN := s.dN, dC := s.dC }) 12, Is (.pointer (some ⟨g3, 9, none⟩)), DoneAt g3 38 (CV { ck0 3 with kind := 3, tsn := c.tsn, win := c.win, gaps := c.gaps, dups := c.dups } { sv0 with gA := s.gA, gN := s.gN, gC := s.gC, dA := s.dA, dN := s.dN, dC := s.dC }) 9, Is (.pointer (some ⟨g3, 16, none⟩)), DoneAt g3 38 (CV { ck0 3 with kind := 3, tsn := c.tsn, win := c.win, gaps := c.gaps, dups := c.dups } { sv0 with gA := s.gA, gN := s.gN, gC := s.gC, dA := s.dA, dN := s.dN, dC := s.dC }) 16, Is (.pointer (some ⟨g3, 17, none⟩)), DoneAt g3 38 (CV { ck0 3 with kind := 3, tsn := c.tsn, win := c.win, gaps := c.gaps, dups := c.dups } { sv0 with gA := s.gA, gN := s.gN, gC := s.gC, dA := s.dA, dN := s.dN, dC := s.dC }) 17]
      rfl (by kernel_rfl) (by kernel_rfl) rfl PutD.refl (fun _ _ _ => PutD.trans) ?_ ?_ ?_
    · exact KeepAll.is (KeepAll.is (KeepAll.is (KeepAll.is (KeepAll.is (KeepAll.is (KeepAll.is (KeepAll.is (KeepAll.is (KeepAll.cons (fun _ _ _ h k => PutD.done k h) (KeepAll.is (KeepAll.cons (fun _ _ _ h k => PutD.done k h) (KeepAll.is (KeepAll.cons (fun _ _ _ h k => PutD.done k h) (KeepAll.is (KeepAll.cons (fun _ _ _ h k => PutD.done k h) (KeepAll.nil))))))))))))))))
    · refine GoodAll.cons ?_ ?_
      · intro r wx hR hx
        obtain ⟨h1, _⟩ := hx
        replace h1 : r (.tmp 1) = .pointer (some ⟨g1, 0, none⟩) := h1
        exact give_of (by simp [execOp, h1, go_sem]) ⟨PutD.refl _, rfl⟩
      refine GoodAll.cons ?_ ?_
      · intro r wx hR hx
        obtain ⟨h1, _⟩ := hx
        replace h1 : r (.tmp 46) = .pointer (some ⟨g1, 12, none⟩) := h1
        exact give_of (exec_get one22 rfl h1 (cv12 (hR.other HU.out.b1 HU.out.n13))) ⟨PutD.refl _, rfl⟩
      refine GoodAll.cons ?_ ?_
      · intro r wx hR hx
        obtain ⟨h1, _⟩ := hx
        replace h1 : r (.tmp 1) = .pointer (some ⟨g1, 0, none⟩) := h1
        exact give_of (by simp [execOp, h1, go_sem]) ⟨PutD.refl _, rfl⟩
      refine GoodAll.cons ?_ ?_
      · intro r wx hR hx
        obtain ⟨h1, _⟩ := hx
        replace h1 : r (.tmp 48) = .pointer (some ⟨g1, 9, none⟩) := h1
        exact give_of (exec_get one3 rfl h1 (cv9 (hR.other HU.out.b1 HU.out.n13))) ⟨PutD.refl _, rfl⟩
      refine GoodAll.cons ?_ ?_
      · intro r wx hR hx
        obtain ⟨h1, _⟩ := hx
        replace h1 : r (.tmp 1) = .pointer (some ⟨g1, 0, none⟩) := h1
        exact give_of (by simp [execOp, h1, go_sem]) ⟨PutD.refl _, rfl⟩
      refine GoodAll.cons ?_ ?_
      · intro r wx hR hx
        obtain ⟨h1, _⟩ := hx
        replace h1 : r (.tmp 50) = .pointer (some ⟨g1, 16, none⟩) := h1
        exact give_of (exec_get oneSG rfl h1 (cv16 (hR.other HU.out.b1 HU.out.n13))) ⟨PutD.refl _, rfl⟩
      refine GoodAll.cons ?_ ?_
      · intro r wx hR hx
        obtain ⟨h1, _⟩ := hx
        replace h1 : r (.tmp 1) = .pointer (some ⟨g1, 0, none⟩) := h1
        exact give_of (by simp [execOp, h1, go_sem]) ⟨PutD.refl _, rfl⟩
      refine GoodAll.cons ?_ ?_
      · intro r wx hR hx
        obtain ⟨h1, _⟩ := hx
        replace h1 : r (.tmp 52) = .pointer (some ⟨g1, 17, none⟩) := h1
        exact give_of (exec_get oneSD rfl h1 (cv17 (hR.other HU.out.b1 HU.out.n13))) ⟨PutD.refl _, rfl⟩
      refine GoodAll.cons ?_ ?_
      · intro r wx hR hx
        obtain ⟨h1, _⟩ := hx
        replace h1 : r (.tmp 3) = .pointer (some ⟨g3, 0, none⟩) := h1
        exact give_of (by simp [execOp, h1, go_sem]) ⟨PutD.refl _, rfl⟩
      refine GoodAll.cons ?_ ?_
      · intro r wx hR hx
        obtain ⟨h1, h2, _⟩ := hx
        replace h1 : r (.tmp 54) = .pointer (some ⟨g3, 12, none⟩) := h1
        replace h2 : r (.tmp 47) = .int .u32 (c.tsn : Int) := h2
        obtain ⟨C1, hb1, hs1, _⟩ := hR.it _ HU.out.b3
        exact give_skip (exec_set one22 rfl h1 h2 rfl rfl hb1 (by rw [hs1]; exact of_decide_eq_true rfl)) (doneAt_set hb1 (by rw [hs1]; exact of_decide_eq_true rfl) (x := undef) rfl)
      refine GoodAll.cons ?_ ?_
      · intro r wx hR hx
        obtain ⟨h1, _⟩ := hx
        replace h1 : r (.tmp 3) = .pointer (some ⟨g3, 0, none⟩) := h1
        exact give_of (by simp [execOp, h1, go_sem]) ⟨PutD.refl _, rfl⟩
      refine GoodAll.cons ?_ ?_
      · intro r wx hR hx
        obtain ⟨h1, h2, _⟩ := hx
        replace h1 : r (.tmp 55) = .pointer (some ⟨g3, 9, none⟩) := h1
        replace h2 : r (.tmp 49) = .int .i64 c.win := h2
        obtain ⟨C1, hb1, hs1, _⟩ := hR.it _ HU.out.b3
        exact give_skip (exec_set one3 rfl h1 h2 rfl rfl hb1 (by rw [hs1]; exact of_decide_eq_true rfl)) (doneAt_set hb1 (by rw [hs1]; exact of_decide_eq_true rfl) (x := undef) rfl)
      refine GoodAll.cons ?_ ?_
      · intro r wx hR hx
        obtain ⟨h1, _⟩ := hx
        replace h1 : r (.tmp 3) = .pointer (some ⟨g3, 0, none⟩) := h1
        exact give_of (by simp [execOp, h1, go_sem]) ⟨PutD.refl _, rfl⟩
      refine GoodAll.cons ?_ ?_
      · intro r wx hR hx
        obtain ⟨h1, h2, _⟩ := hx
        replace h1 : r (.tmp 56) = .pointer (some ⟨g3, 16, none⟩) := h1
        replace h2 : r (.tmp 51) = .slice s.gA s.gN s.gC := h2
        obtain ⟨C1, hb1, hs1, _⟩ := hR.it _ HU.out.b3
        exact give_skip (exec_set oneSG rfl h1 h2 rfl rfl hb1 (by rw [hs1]; exact of_decide_eq_true rfl)) (doneAt_set hb1 (by rw [hs1]; exact of_decide_eq_true rfl) (x := undef) rfl)
      refine GoodAll.cons ?_ ?_
      · intro r wx hR hx
        obtain ⟨h1, _⟩ := hx
        replace h1 : r (.tmp 3) = .pointer (some ⟨g3, 0, none⟩) := h1
        exact give_of (by simp [execOp, h1, go_sem]) ⟨PutD.refl _, rfl⟩
      refine GoodAll.cons ?_ ?_
      · intro r wx hR hx
        obtain ⟨h1, h2, _⟩ := hx
        replace h1 : r (.tmp 57) = .pointer (some ⟨g3, 17, none⟩) := h1
        replace h2 : r (.tmp 53) = .slice s.dA s.dN s.dC := h2
        obtain ⟨C1, hb1, hs1, _⟩ := hR.it _ HU.out.b3
        exact give_skip (exec_set oneSD rfl h1 h2 rfl rfl hb1 (by rw [hs1]; exact of_decide_eq_true rfl)) (doneAt_set hb1 (by rw [hs1]; exact of_decide_eq_true rfl) (x := undef) rfl)
      exact GoodAll.nil
    · intro vs w14 a7 hR hold ha7
      have hv0 : vs 0 = (.pointer (some ⟨g1, 12, none⟩)) := hold.at 0
      have hv1 : vs 1 = (.int .u32 (c.tsn : Int)) := hold.at 1
      have hv2 : vs 2 = (.pointer (some ⟨g1, 9, none⟩)) := hold.at 2
      have hv3 : vs 3 = (.int .i64 c.win) := hold.at 3
      have hv4 : vs 4 = (.pointer (some ⟨g1, 16, none⟩)) := hold.at 4
      have hv5 : vs 5 = (.slice s.gA s.gN s.gC) := hold.at 5
      have hv6 : vs 6 = (.pointer (some ⟨g1, 17, none⟩)) := hold.at 6
      have hv7 : vs 7 = (.slice s.dA s.dN s.dC) := hold.at 7
      have hv8 : vs 8 = (.pointer (some ⟨g3, 12, none⟩)) := hold.at 8
      have hv10 : vs 10 = (.pointer (some ⟨g3, 9, none⟩)) := hold.at 10
      have hv12 : vs 12 = (.pointer (some ⟨g3, 16, none⟩)) := hold.at 12
      have hv14 : vs 14 = (.pointer (some ⟨g3, 17, none⟩)) := hold.at 14
      have hbw14 := hR.fin HU.out.b3 rfl (fun j hj => by
        match j with
        | 0 => exact .inr rfl
        | 1 => exact .inr rfl
        | 2 => exact .inr rfl
        | 3 => exact .inr rfl
        | 4 => exact .inr rfl
        | 5 => exact .inr rfl
        | 6 => exact .inr rfl
        | 7 => exact .inr rfl
        | 8 => exact .inr rfl
        | 9 => exact .inl (hold.at 11)
        | 10 => exact .inr rfl
        | 11 => exact .inr rfl
        | 12 => exact .inl (hold.at 9)
        | 13 => exact .inr rfl
        | 14 => exact .inr rfl
        | 15 => exact .inr rfl
        | 16 => exact .inl (hold.at 13)
        | 17 => exact .inl (hold.at 15)
        | 18 => exact .inr rfl
        | 19 => exact .inr rfl
        | 20 => exact .inr rfl
        | 21 => exact .inr rfl
        | j + 22 => exact absurd hj (by rw [CV.size]; omega))
      replace HU : Hid (UsedAt w w14 g1 g2 g3 c s (CV { ck0 3 with kind := 3, tsn := c.tsn, win := c.win, gaps := c.gaps, dups := c.dups } { sv0 with gA := s.gA, gN := s.gN, gC := s.gC, dA := s.dA, dN := s.dN, dC := s.dC })) := (HU.out.drew).next hbw14.1 hbw14.2
      simp only [putAll, Act.put, hv0, hv1, hv2, hv3, hv4, hv5, hv6, hv7, hv8, hv10, hv12, hv14, List.setIfInBounds_toArray, List.set_cons_succ, List.set_cons_zero] at ha7
      subst ha7
      clear hold hR hbw14 hv0 hv1 hv2 hv3 hv4 hv5 hv6 hv7 hv8 hv10 hv12 hv14
      have f0 := cv0 HU.out.b1
      go_wp2_with (first
        | (have q := HU; clear q; refine wl_load rfl rowC rfl rfl HU.out.b3 rfl ?_)
        | (have q := HU; clear q; refine wl_store (D := CV { ck0 3 with kind := 3, tsn := c.tsn, win := c.win, gaps := c.gaps, dups := c.dups } { sv0 with gA := s.gA, gN := s.gN, gC := s.gC, dA := s.dA, dN := s.dN, dC := s.dC }) rfl rowC rfl rfl rfl HU.out.b2 rfl rfl (CV.one _ _) ?_; intro w9 hb9 hk9 hx9; clear hx9))
      refine bodyPost_ret (results_cell_row (fn := Try.f35) (p := 2) rfl _ w9 _ _ _ (0, 0) _ rfl hb9 Try.underlying38 rfl (by kernel_rfl)) rfl ?_
      exact ⟨rfl, HU.out.ext.of_but hk9 (fun q e => by subst e; exact HU.out.lo)⟩
set_option maxHeartbeats 8000000 in
theorem used_4 {w : World} {c : Ck} {s : Sv} (hk : c.kind = 4) :
    Calls Try.prog 35 #[.agg (CV c s)] w fun e w' => e = .returned (.agg (CV (usedC c) (usedS c s))) ∧ Ext w w' := by
    have HE : Hid (usedC c = { ck0 4 with kind := 4, info := c.info } ∧ usedS c s = { sv0 with iA := s.iA, iN := s.iN, iC := s.iC }) := ⟨by simp [usedC, hk], by simp [usedS, hk]⟩
    rw [HE.out.1, HE.out.2]
    go_enter Try.func35, Try.ntmps35
    go_wp2_with (first
      | (refine wl_box (C := CV c s) rfl rfl rfl ?_; intro w1 hb1 he1 hx1; have HX1 : Hid (w1.heap.size = w.heap.size + 1) := hx1; clear hx1; have c0 := cv0 hb1)
      | (have q := he2; clear q; refine wl_alloc rfl rfl zeroC ?_; intro w3 hb3 he3 hx3; clear hx3; have d0 := cv0 ((hb1.ext he2).ext he3))
      | (refine wl_alloc rfl rfl zeroC ?_; intro w2 hb2 he2 hx2; have HX2 : Hid (w2.heap.size = w1.heap.size + 1) := hx2; clear hx2; have z0 := cv0 (hb1.ext he2))
      | (have q := HU; clear q; refine wl_load rfl rowC rfl rfl HU.out.b3 rfl ?_)
      | (have q := HU; clear q; refine wl_store (D := CV { ck0 4 with kind := 4, info := c.info } { sv0 with iA := s.iA, iN := s.iN, iC := s.iC }) rfl rowC rfl rfl rfl HU.out.b2 rfl rfl (CV.one _ _) ?_; intro w9 hb9 hk9 hx9; clear hx9)
      | (refine wl_store (D := CV (ck0 4) sv0) rfl rowC rfl rfl rfl hb3 rfl rfl (CV.one _ _) ?_; intro w4 hb4 hk4 hx4; clear hx4; have HU : Hid (UsedAt w w4 w.heap.size w1.heap.size w2.heap.size c s (CV (ck0 4) sv0)) := ⟨(((hb1.ext he2).ext he3).but hk4 (show ¬ _ = _ by have := HX1.out; have := HX2.out; omega)), ((hb2.ext he3).but hk4 (show ¬ _ = _ by have := HX1.out; have := HX2.out; omega)), hb4, ((he1.trans he2).trans he3).of_but hk4 (fun q e => by subst e; have := HX1.out; have := HX2.out; omega), (by have := HX1.out; have := HX2.out; omega), (by have := HX1.out; have := HX2.out; omega), (by have := HX1.out; have := HX2.out; omega), (by have := HX1.out; omega)⟩; clear c0 d0 z0 hb1 hb2 hb3 hb4 he1 he2 he3 hk4; have f0 := cv0 HU.out.b1; have f1 := cv15 HU.out.b1; clear HX1 HX2; generalize w.heap.size = g1 at *; generalize w1.heap.size = g2 at *; generalize w2.heap.size = g3 at *)
      | (have q := HU; clear q; refine wl_set (v := .slice s.iA s.iN s.iC) rfl oneS rfl rfl rfl rfl rfl HU.out.b3 (of_decide_eq_true rfl) ?_; intro w7 hb7 hk7 hx7; clear hx7; replace HU : Hid (UsedAt w w7 g1 g2 g3 c s (CV { ck0 4 with kind := 4, info := c.info } { sv0 with iA := s.iA, iN := s.iN, iC := s.iC })) := HU.out.next hb7 hk7))
    refine bodyPost_ret (results_cell_row (fn := Try.f35) (p := 2) rfl _ w9 _ _ _ (0, 0) _ rfl hb9 Try.underlying38 rfl (by kernel_rfl)) rfl ?_
    exact ⟨rfl, HU.out.ext.of_but hk9 (fun q e => by subst e; exact HU.out.lo)⟩
set_option maxHeartbeats 8000000 in
theorem used_5 {w : World} {c : Ck} {s : Sv} (hk : c.kind = 5) :
    Calls Try.prog 35 #[.agg (CV c s)] w fun e w' => e = .returned (.agg (CV (usedC c) (usedS c s))) ∧ Ext w w' := by
    have HE : Hid (usedC c = { ck0 5 with kind := 5, info := c.info } ∧ usedS c s = { sv0 with iA := s.iA, iN := s.iN, iC := s.iC }) := ⟨by simp [usedC, hk], by simp [usedS, hk]⟩
    rw [HE.out.1, HE.out.2]
    go_enter Try.func35, Try.ntmps35
    go_wp2_with (first
      | (refine wl_box (C := CV c s) rfl rfl rfl ?_; intro w1 hb1 he1 hx1; have HX1 : Hid (w1.heap.size = w.heap.size + 1) := hx1; clear hx1; have c0 := cv0 hb1)
      | (have q := he2; clear q; refine wl_alloc rfl rfl zeroC ?_; intro w3 hb3 he3 hx3; clear hx3; have d0 := cv0 ((hb1.ext he2).ext he3))
      | (refine wl_alloc rfl rfl zeroC ?_; intro w2 hb2 he2 hx2; have HX2 : Hid (w2.heap.size = w1.heap.size + 1) := hx2; clear hx2; have z0 := cv0 (hb1.ext he2))
      | (have q := HU; clear q; refine wl_load rfl rowC rfl rfl HU.out.b3 rfl ?_)
      | (have q := HU; clear q; refine wl_store (D := CV { ck0 5 with kind := 5, info := c.info } { sv0 with iA := s.iA, iN := s.iN, iC := s.iC }) rfl rowC rfl rfl rfl HU.out.b2 rfl rfl (CV.one _ _) ?_; intro w9 hb9 hk9 hx9; clear hx9)
      | (refine wl_store (D := CV (ck0 5) sv0) rfl rowC rfl rfl rfl hb3 rfl rfl (CV.one _ _) ?_; intro w4 hb4 hk4 hx4; clear hx4; have HU : Hid (UsedAt w w4 w.heap.size w1.heap.size w2.heap.size c s (CV (ck0 5) sv0)) := ⟨(((hb1.ext he2).ext he3).but hk4 (show ¬ _ = _ by have := HX1.out; have := HX2.out; omega)), ((hb2.ext he3).but hk4 (show ¬ _ = _ by have := HX1.out; have := HX2.out; omega)), hb4, ((he1.trans he2).trans he3).of_but hk4 (fun q e => by subst e; have := HX1.out; have := HX2.out; omega), (by have := HX1.out; have := HX2.out; omega), (by have := HX1.out; have := HX2.out; omega), (by have := HX1.out; have := HX2.out; omega), (by have := HX1.out; omega)⟩; clear c0 d0 z0 hb1 hb2 hb3 hb4 he1 he2 he3 hk4; have f0 := cv0 HU.out.b1; have f1 := cv15 HU.out.b1; clear HX1 HX2; generalize w.heap.size = g1 at *; generalize w1.heap.size = g2 at *; generalize w2.heap.size = g3 at *)
      | (have q := HU; clear q; refine wl_set (v := .slice s.iA s.iN s.iC) rfl oneS rfl rfl rfl rfl rfl HU.out.b3 (of_decide_eq_true rfl) ?_; intro w7 hb7 hk7 hx7; clear hx7; replace HU : Hid (UsedAt w w7 g1 g2 g3 c s (CV { ck0 5 with kind := 5, info := c.info } { sv0 with iA := s.iA, iN := s.iN, iC := s.iC })) := HU.out.next hb7 hk7))
    refine bodyPost_ret (results_cell_row (fn := Try.f35) (p := 2) rfl _ w9 _ _ _ (0, 0) _ rfl hb9 Try.underlying38 rfl (by kernel_rfl)) rfl ?_
    exact ⟨rfl, HU.out.ext.of_but hk9 (fun q e => by subst e; exact HU.out.lo)⟩
set_option maxHeartbeats 8000000 in
theorem used_10 {w : World} {c : Ck} {s : Sv} (hk : c.kind = 10) :
    Calls Try.prog 35 #[.agg (CV c s)] w fun e w' => e = .returned (.agg (CV (usedC c) (usedS c s))) ∧ Ext w w' := by
    have HE : Hid (usedC c = { ck0 10 with kind := 10, info := c.info } ∧ usedS c s = { sv0 with iA := s.iA, iN := s.iN, iC := s.iC }) := ⟨by simp [usedC, hk], by simp [usedS, hk]⟩
    rw [HE.out.1, HE.out.2]
    go_enter Try.func35, Try.ntmps35
    go_wp2_with (first
      | (refine wl_box (C := CV c s) rfl rfl rfl ?_; intro w1 hb1 he1 hx1; have HX1 : Hid (w1.heap.size = w.heap.size + 1) := hx1; clear hx1; have c0 := cv0 hb1)
      | (have q := he2; clear q; refine wl_alloc rfl rfl zeroC ?_; intro w3 hb3 he3 hx3; clear hx3; have d0 := cv0 ((hb1.ext he2).ext he3))
      | (refine wl_alloc rfl rfl zeroC ?_; intro w2 hb2 he2 hx2; have HX2 : Hid (w2.heap.size = w1.heap.size + 1) := hx2; clear hx2; have z0 := cv0 (hb1.ext he2))
      | (have q := HU; clear q; refine wl_load rfl rowC rfl rfl HU.out.b3 rfl ?_)
      | (have q := HU; clear q; refine wl_store (D := CV { ck0 10 with kind := 10, info := c.info } { sv0 with iA := s.iA, iN := s.iN, iC := s.iC }) rfl rowC rfl rfl rfl HU.out.b2 rfl rfl (CV.one _ _) ?_; intro w9 hb9 hk9 hx9; clear hx9)
      | (refine wl_store (D := CV (ck0 10) sv0) rfl rowC rfl rfl rfl hb3 rfl rfl (CV.one _ _) ?_; intro w4 hb4 hk4 hx4; clear hx4; have HU : Hid (UsedAt w w4 w.heap.size w1.heap.size w2.heap.size c s (CV (ck0 10) sv0)) := ⟨(((hb1.ext he2).ext he3).but hk4 (show ¬ _ = _ by have := HX1.out; have := HX2.out; omega)), ((hb2.ext he3).but hk4 (show ¬ _ = _ by have := HX1.out; have := HX2.out; omega)), hb4, ((he1.trans he2).trans he3).of_but hk4 (fun q e => by subst e; have := HX1.out; have := HX2.out; omega), (by have := HX1.out; have := HX2.out; omega), (by have := HX1.out; have := HX2.out; omega), (by have := HX1.out; have := HX2.out; omega), (by have := HX1.out; omega)⟩; clear c0 d0 z0 hb1 hb2 hb3 hb4 he1 he2 he3 hk4; have f0 := cv0 HU.out.b1; have f1 := cv15 HU.out.b1; clear HX1 HX2; generalize w.heap.size = g1 at *; generalize w1.heap.size = g2 at *; generalize w2.heap.size = g3 at *)
      | (have q := HU; clear q; refine wl_set (v := .slice s.iA s.iN s.iC) rfl oneS rfl rfl rfl rfl rfl HU.out.b3 (of_decide_eq_true rfl) ?_; intro w7 hb7 hk7 hx7; clear hx7; replace HU : Hid (UsedAt w w7 g1 g2 g3 c s (CV { ck0 10 with kind := 10, info := c.info } { sv0 with iA := s.iA, iN := s.iN, iC := s.iC })) := HU.out.next hb7 hk7))
    refine bodyPost_ret (results_cell_row (fn := Try.f35) (p := 2) rfl _ w9 _ _ _ (0, 0) _ rfl hb9 Try.underlying38 rfl (by kernel_rfl)) rfl ?_
    exact ⟨rfl, HU.out.ext.of_but hk9 (fun q e => by subst e; exact HU.out.lo)⟩
set_option maxHeartbeats 8000000 in
theorem used_15 {w : World} {c : Ck} {s : Sv} (hk : c.kind = 15) :
    Calls Try.prog 35 #[.agg (CV c s)] w fun e w' => e = .returned (.agg (CV (usedC c) (usedS c s))) ∧ Ext w w' := by
    have HE : Hid (usedC c = { ck0 15 with kind := 15, info := c.info } ∧ usedS c s = { sv0 with iA := s.iA, iN := s.iN, iC := s.iC }) := ⟨by simp [usedC, hk], by simp [usedS, hk]⟩
    rw [HE.out.1, HE.out.2]
    go_enter Try.func35, Try.ntmps35
    go_wp2_with (first
      | (refine wl_box (C := CV c s) rfl rfl rfl ?_; intro w1 hb1 he1 hx1; have HX1 : Hid (w1.heap.size = w.heap.size + 1) := hx1; clear hx1; have c0 := cv0 hb1)
      | (have q := he2; clear q; refine wl_alloc rfl rfl zeroC ?_; intro w3 hb3 he3 hx3; clear hx3; have d0 := cv0 ((hb1.ext he2).ext he3))
      | (refine wl_alloc rfl rfl zeroC ?_; intro w2 hb2 he2 hx2; have HX2 : Hid (w2.heap.size = w1.heap.size + 1) := hx2; clear hx2; have z0 := cv0 (hb1.ext he2))
      | (have q := HU; clear q; refine wl_load rfl rowC rfl rfl HU.out.b3 rfl ?_)
      | (have q := HU; clear q; refine wl_store (D := CV { ck0 15 with kind := 15, info := c.info } { sv0 with iA := s.iA, iN := s.iN, iC := s.iC }) rfl rowC rfl rfl rfl HU.out.b2 rfl rfl (CV.one _ _) ?_; intro w9 hb9 hk9 hx9; clear hx9)
      | (refine wl_store (D := CV (ck0 15) sv0) rfl rowC rfl rfl rfl hb3 rfl rfl (CV.one _ _) ?_; intro w4 hb4 hk4 hx4; clear hx4; have HU : Hid (UsedAt w w4 w.heap.size w1.heap.size w2.heap.size c s (CV (ck0 15) sv0)) := ⟨(((hb1.ext he2).ext he3).but hk4 (show ¬ _ = _ by have := HX1.out; have := HX2.out; omega)), ((hb2.ext he3).but hk4 (show ¬ _ = _ by have := HX1.out; have := HX2.out; omega)), hb4, ((he1.trans he2).trans he3).of_but hk4 (fun q e => by subst e; have := HX1.out; have := HX2.out; omega), (by have := HX1.out; have := HX2.out; omega), (by have := HX1.out; have := HX2.out; omega), (by have := HX1.out; have := HX2.out; omega), (by have := HX1.out; omega)⟩; clear c0 d0 z0 hb1 hb2 hb3 hb4 he1 he2 he3 hk4; have f0 := cv0 HU.out.b1; have f1 := cv15 HU.out.b1; clear HX1 HX2; generalize w.heap.size = g1 at *; generalize w1.heap.size = g2 at *; generalize w2.heap.size = g3 at *)
      | (have q := HU; clear q; refine wl_set (v := .slice s.iA s.iN s.iC) rfl oneS rfl rfl rfl rfl rfl HU.out.b3 (of_decide_eq_true rfl) ?_; intro w7 hb7 hk7 hx7; clear hx7; replace HU : Hid (UsedAt w w7 g1 g2 g3 c s (CV { ck0 15 with kind := 15, info := c.info } { sv0 with iA := s.iA, iN := s.iN, iC := s.iC })) := HU.out.next hb7 hk7))
    refine bodyPost_ret (results_cell_row (fn := Try.f35) (p := 2) rfl _ w9 _ _ _ (0, 0) _ rfl hb9 Try.underlying38 rfl (by kernel_rfl)) rfl ?_
    exact ⟨rfl, HU.out.ext.of_but hk9 (fun q e => by subst e; exact HU.out.lo)⟩
set_option maxHeartbeats 8000000 in
theorem used_6 {w : World} {c : Ck} {s : Sv} (hk : c.kind = 6) :
    Calls Try.prog 35 #[.agg (CV c s)] w fun e w' => e = .returned (.agg (CV (usedC c) (usedS c s))) ∧ Ext w w' := by
    have HE : Hid (usedC c = { ck0 6 with kind := 6, cause := c.cause } ∧ usedS c s = sv0) := ⟨by simp [usedC, hk], by simp [usedS, hk]⟩
    rw [HE.out.1, HE.out.2]
    go_enter Try.func35, Try.ntmps35
    go_wp2_with (first
      | (refine wl_box (C := CV c s) rfl rfl rfl ?_; intro w1 hb1 he1 hx1; have HX1 : Hid (w1.heap.size = w.heap.size + 1) := hx1; clear hx1; have c0 := cv0 hb1)
      | (have q := he2; clear q; refine wl_alloc rfl rfl zeroC ?_; intro w3 hb3 he3 hx3; clear hx3; have d0 := cv0 ((hb1.ext he2).ext he3))
      | (refine wl_alloc rfl rfl zeroC ?_; intro w2 hb2 he2 hx2; have HX2 : Hid (w2.heap.size = w1.heap.size + 1) := hx2; clear hx2; have z0 := cv0 (hb1.ext he2))
      | (have q := HU; clear q; refine wl_load rfl rowC rfl rfl HU.out.b3 rfl ?_)
      | (have q := HU; clear q; refine wl_store (D := CV { ck0 6 with kind := 6, cause := c.cause } sv0) rfl rowC rfl rfl rfl HU.out.b2 rfl rfl (CV.one _ _) ?_; intro w9 hb9 hk9 hx9; clear hx9)
      | (refine wl_store (D := CV (ck0 6) sv0) rfl rowC rfl rfl rfl hb3 rfl rfl (CV.one _ _) ?_; intro w4 hb4 hk4 hx4; clear hx4; have HU : Hid (UsedAt w w4 w.heap.size w1.heap.size w2.heap.size c s (CV (ck0 6) sv0)) := ⟨(((hb1.ext he2).ext he3).but hk4 (show ¬ _ = _ by have := HX1.out; have := HX2.out; omega)), ((hb2.ext he3).but hk4 (show ¬ _ = _ by have := HX1.out; have := HX2.out; omega)), hb4, ((he1.trans he2).trans he3).of_but hk4 (fun q e => by subst e; have := HX1.out; have := HX2.out; omega), (by have := HX1.out; have := HX2.out; omega), (by have := HX1.out; have := HX2.out; omega), (by have := HX1.out; have := HX2.out; omega), (by have := HX1.out; omega)⟩; clear c0 d0 z0 hb1 hb2 hb3 hb4 he1 he2 he3 hk4; have f0 := cv0 HU.out.b1; have f1 := cv18 HU.out.b1; clear HX1 HX2; generalize w.heap.size = g1 at *; generalize w1.heap.size = g2 at *; generalize w2.heap.size = g3 at *)
      | (have q := HU; clear q; refine wl_set (v := .int .i64 c.cause) rfl one3 rfl rfl rfl rfl rfl HU.out.b3 (of_decide_eq_true rfl) ?_; intro w7 hb7 hk7 hx7; clear hx7; replace HU : Hid (UsedAt w w7 g1 g2 g3 c s (CV { ck0 6 with kind := 6, cause := c.cause } sv0)) := HU.out.next hb7 hk7))
    refine bodyPost_ret (results_cell_row (fn := Try.f35) (p := 2) rfl _ w9 _ _ _ (0, 0) _ rfl hb9 Try.underlying38 rfl (by kernel_rfl)) rfl ?_
    exact ⟨rfl, HU.out.ext.of_but hk9 (fun q e => by subst e; exact HU.out.lo)⟩
set_option maxHeartbeats 8000000 in
theorem used_9 {w : World} {c : Ck} {s : Sv} (hk : c.kind = 9) :
    Calls Try.prog 35 #[.agg (CV c s)] w fun e w' => e = .returned (.agg (CV (usedC c) (usedS c s))) ∧ Ext w w' := by
    have HE : Hid (usedC c = { ck0 9 with kind := 9, cause := c.cause } ∧ usedS c s = sv0) := ⟨by simp [usedC, hk], by simp [usedS, hk]⟩
    rw [HE.out.1, HE.out.2]
    go_enter Try.func35, Try.ntmps35
    go_wp2_with (first
      | (refine wl_box (C := CV c s) rfl rfl rfl ?_; intro w1 hb1 he1 hx1; have HX1 : Hid (w1.heap.size = w.heap.size + 1) := hx1; clear hx1; have c0 := cv0 hb1)
      | (have q := he2; clear q; refine wl_alloc rfl rfl zeroC ?_; intro w3 hb3 he3 hx3; clear hx3; have d0 := cv0 ((hb1.ext he2).ext he3))
      | (refine wl_alloc rfl rfl zeroC ?_; intro w2 hb2 he2 hx2; have HX2 : Hid (w2.heap.size = w1.heap.size + 1) := hx2; clear hx2; have z0 := cv0 (hb1.ext he2))
      | (have q := HU; clear q; refine wl_load rfl rowC rfl rfl HU.out.b3 rfl ?_)
      | (have q := HU; clear q; refine wl_store (D := CV { ck0 9 with kind := 9, cause := c.cause } sv0) rfl rowC rfl rfl rfl HU.out.b2 rfl rfl (CV.one _ _) ?_; intro w9 hb9 hk9 hx9; clear hx9)
      | (refine wl_store (D := CV (ck0 9) sv0) rfl rowC rfl rfl rfl hb3 rfl rfl (CV.one _ _) ?_; intro w4 hb4 hk4 hx4; clear hx4; have HU : Hid (UsedAt w w4 w.heap.size w1.heap.size w2.heap.size c s (CV (ck0 9) sv0)) := ⟨(((hb1.ext he2).ext he3).but hk4 (show ¬ _ = _ by have := HX1.out; have := HX2.out; omega)), ((hb2.ext he3).but hk4 (show ¬ _ = _ by have := HX1.out; have := HX2.out; omega)), hb4, ((he1.trans he2).trans he3).of_but hk4 (fun q e => by subst e; have := HX1.out; have := HX2.out; omega), (by have := HX1.out; have := HX2.out; omega), (by have := HX1.out; have := HX2.out; omega), (by have := HX1.out; have := HX2.out; omega), (by have := HX1.out; omega)⟩; clear c0 d0 z0 hb1 hb2 hb3 hb4 he1 he2 he3 hk4; have f0 := cv0 HU.out.b1; have f1 := cv18 HU.out.b1; clear HX1 HX2; generalize w.heap.size = g1 at *; generalize w1.heap.size = g2 at *; generalize w2.heap.size = g3 at *)
      | (have q := HU; clear q; refine wl_set (v := .int .i64 c.cause) rfl one3 rfl rfl rfl rfl rfl HU.out.b3 (of_decide_eq_true rfl) ?_; intro w7 hb7 hk7 hx7; clear hx7; replace HU : Hid (UsedAt w w7 g1 g2 g3 c s (CV { ck0 9 with kind := 9, cause := c.cause } sv0)) := HU.out.next hb7 hk7))
    refine bodyPost_ret (results_cell_row (fn := Try.f35) (p := 2) rfl _ w9 _ _ _ (0, 0) _ rfl hb9 Try.underlying38 rfl (by kernel_rfl)) rfl ?_
    exact ⟨rfl, HU.out.ext.of_but hk9 (fun q e => by subst e; exact HU.out.lo)⟩
set_option maxHeartbeats 8000000 in
theorem used_7 {w : World} {c : Ck} {s : Sv} (hk : c.kind = 7) :
    Calls Try.prog 35 #[.agg (CV c s)] w fun e w' => e = .returned (.agg (CV (usedC c) (usedS c s))) ∧ Ext w w' := by
    have HE : Hid (usedC c = { ck0 7 with kind := 7, tsn := c.tsn } ∧ usedS c s = sv0) := ⟨by simp [usedC, hk], by simp [usedS, hk]⟩
    rw [HE.out.1, HE.out.2]
    go_enter Try.func35, Try.ntmps35
    go_wp2_with (first
      | (refine wl_box (C := CV c s) rfl rfl rfl ?_; intro w1 hb1 he1 hx1; have HX1 : Hid (w1.heap.size = w.heap.size + 1) := hx1; clear hx1; have c0 := cv0 hb1)
      | (have q := he2; clear q; refine wl_alloc rfl rfl zeroC ?_; intro w3 hb3 he3 hx3; clear hx3; have d0 := cv0 ((hb1.ext he2).ext he3))
      | (refine wl_alloc rfl rfl zeroC ?_; intro w2 hb2 he2 hx2; have HX2 : Hid (w2.heap.size = w1.heap.size + 1) := hx2; clear hx2; have z0 := cv0 (hb1.ext he2))
      | (have q := HU; clear q; refine wl_load rfl rowC rfl rfl HU.out.b3 rfl ?_)
      | (have q := HU; clear q; refine wl_store (D := CV { ck0 7 with kind := 7, tsn := c.tsn } sv0) rfl rowC rfl rfl rfl HU.out.b2 rfl rfl (CV.one _ _) ?_; intro w9 hb9 hk9 hx9; clear hx9)
      | (refine wl_store (D := CV (ck0 7) sv0) rfl rowC rfl rfl rfl hb3 rfl rfl (CV.one _ _) ?_; intro w4 hb4 hk4 hx4; clear hx4; have HU : Hid (UsedAt w w4 w.heap.size w1.heap.size w2.heap.size c s (CV (ck0 7) sv0)) := ⟨(((hb1.ext he2).ext he3).but hk4 (show ¬ _ = _ by have := HX1.out; have := HX2.out; omega)), ((hb2.ext he3).but hk4 (show ¬ _ = _ by have := HX1.out; have := HX2.out; omega)), hb4, ((he1.trans he2).trans he3).of_but hk4 (fun q e => by subst e; have := HX1.out; have := HX2.out; omega), (by have := HX1.out; have := HX2.out; omega), (by have := HX1.out; have := HX2.out; omega), (by have := HX1.out; have := HX2.out; omega), (by have := HX1.out; omega)⟩; clear c0 d0 z0 hb1 hb2 hb3 hb4 he1 he2 he3 hk4; have f0 := cv0 HU.out.b1; have f1 := cv12 HU.out.b1; clear HX1 HX2; generalize w.heap.size = g1 at *; generalize w1.heap.size = g2 at *; generalize w2.heap.size = g3 at *)
      | (have q := HU; clear q; refine wl_set (v := .int .u32 (c.tsn : Int)) rfl one22 rfl rfl rfl rfl rfl HU.out.b3 (of_decide_eq_true rfl) ?_; intro w7 hb7 hk7 hx7; clear hx7; replace HU : Hid (UsedAt w w7 g1 g2 g3 c s (CV { ck0 7 with kind := 7, tsn := c.tsn } sv0)) := HU.out.next hb7 hk7))
    refine bodyPost_ret (results_cell_row (fn := Try.f35) (p := 2) rfl _ w9 _ _ _ (0, 0) _ rfl hb9 Try.underlying38 rfl (by kernel_rfl)) rfl ?_
    exact ⟨rfl, HU.out.ext.of_but hk9 (fun q e => by subst e; exact HU.out.lo)⟩
set_option maxHeartbeats 8000000 in
theorem used_193 {w : World} {c : Ck} {s : Sv} (hk : c.kind = 193) :
    Calls Try.prog 35 #[.agg (CV c s)] w fun e w' => e = .returned (.agg (CV (usedC c) (usedS c s))) ∧ Ext w w' := by
    have HE : Hid (usedC c = { ck0 193 with kind := 193, serial := c.serial, ops := c.ops } ∧ usedS c s = { sv0 with oA := s.oA, oN := s.oN, oC := s.oC }) := ⟨by simp [usedC, hk], by simp [usedS, hk]⟩
    rw [HE.out.1, HE.out.2]
    go_enter Try.func35, Try.ntmps35
    go_wp2_with (first
      | (refine wl_box (C := CV c s) rfl rfl rfl ?_; intro w1 hb1 he1 hx1; have HX1 : Hid (w1.heap.size = w.heap.size + 1) := hx1; clear hx1; have c0 := cv0 hb1)
      | (have q := he2; clear q; refine wl_alloc rfl rfl zeroC ?_; intro w3 hb3 he3 hx3; clear hx3; have d0 := cv0 ((hb1.ext he2).ext he3))
      | (refine wl_alloc rfl rfl zeroC ?_; intro w2 hb2 he2 hx2; have HX2 : Hid (w2.heap.size = w1.heap.size + 1) := hx2; clear hx2; have z0 := cv0 (hb1.ext he2))
      | (have q := HU; clear q; refine wl_load rfl rowC rfl rfl HU.out.b3 rfl ?_)
      | (have q := HU; clear q; refine wl_store (D := CV { ck0 193 with kind := 193, serial := c.serial, ops := c.ops } { sv0 with oA := s.oA, oN := s.oN, oC := s.oC }) rfl rowC rfl rfl rfl HU.out.b2 rfl rfl (CV.one _ _) ?_; intro w9 hb9 hk9 hx9; clear hx9)
      | (refine wl_store (D := CV (ck0 193) sv0) rfl rowC rfl rfl rfl hb3 rfl rfl (CV.one _ _) ?_; intro w4 hb4 hk4 hx4; clear hx4; have HU : Hid (UsedAt w w4 w.heap.size w1.heap.size w2.heap.size c s (CV (ck0 193) sv0)) := ⟨(((hb1.ext he2).ext he3).but hk4 (show ¬ _ = _ by have := HX1.out; have := HX2.out; omega)), ((hb2.ext he3).but hk4 (show ¬ _ = _ by have := HX1.out; have := HX2.out; omega)), hb4, ((he1.trans he2).trans he3).of_but hk4 (fun q e => by subst e; have := HX1.out; have := HX2.out; omega), (by have := HX1.out; have := HX2.out; omega), (by have := HX1.out; have := HX2.out; omega), (by have := HX1.out; have := HX2.out; omega), (by have := HX1.out; omega)⟩; clear c0 d0 z0 hb1 hb2 hb3 hb4 he1 he2 he3 hk4; have f0 := cv0 HU.out.b1; clear HX1 HX2; generalize w.heap.size = g1 at *; generalize w1.heap.size = g2 at *; generalize w2.heap.size = g3 at *))
    refine wp_region_facts (fun t => bif Nat.ble 79 t && Nat.ble t 83 then some (t - 79) else bif Nat.beq t 84 then some 6 else none) 94 (PutD g3 38 (CV { ck0 193 with kind := 193, serial := c.serial, ops := c.ops } { sv0 with oA := s.oA, oN := s.oN, oC := s.oC }))
      [Is (.pointer (some ⟨g1, 19, none⟩)), Is (.int .u32 (c.serial : Int)), Is (.pointer (some ⟨g1, 20, none⟩)), Is (.slice s.oA s.oN s.oC), Is (.pointer (some ⟨g3, 19, none⟩)), DoneAt g3 38 (CV { ck0 193 with kind := 193, serial := c.serial, ops := c.ops } { sv0 with oA := s.oA, oN := s.oN, oC := s.oC }) 19, Is (.pointer (some ⟨g3, 20, none⟩)), DoneAt g3 38 (CV { ck0 193 with kind := 193, serial := c.serial, ops := c.ops } { sv0 with oA := s.oA, oN := s.oN, oC := s.oC }) 20]
      rfl (by kernel_rfl) (by kernel_rfl) rfl PutD.refl (fun _ _ _ => PutD.trans) ?_ ?_ ?_
    · exact KeepAll.is (KeepAll.is (KeepAll.is (KeepAll.is (KeepAll.is (KeepAll.cons (fun _ _ _ h k => PutD.done k h) (KeepAll.is (KeepAll.cons (fun _ _ _ h k => PutD.done k h) (KeepAll.nil))))))))
    · refine GoodAll.cons ?_ ?_
      · intro r wx hR hx
        obtain ⟨h1, _⟩ := hx
        replace h1 : r (.tmp 1) = .pointer (some ⟨g1, 0, none⟩) := h1
        exact give_of (by simp [execOp, h1, go_sem]) ⟨PutD.refl _, rfl⟩
      refine GoodAll.cons ?_ ?_
      · intro r wx hR hx
        obtain ⟨h1, _⟩ := hx
        replace h1 : r (.tmp 79) = .pointer (some ⟨g1, 19, none⟩) := h1
        exact give_of (exec_get one22 rfl h1 (cv19 (hR.other HU.out.b1 HU.out.n13))) ⟨PutD.refl _, rfl⟩
      refine GoodAll.cons ?_ ?_
      · intro r wx hR hx
        obtain ⟨h1, _⟩ := hx
        replace h1 : r (.tmp 1) = .pointer (some ⟨g1, 0, none⟩) := h1
        exact give_of (by simp [execOp, h1, go_sem]) ⟨PutD.refl _, rfl⟩
      refine GoodAll.cons ?_ ?_
      · intro r wx hR hx
        obtain ⟨h1, _⟩ := hx
        replace h1 : r (.tmp 81) = .pointer (some ⟨g1, 20, none⟩) := h1
        exact give_of (exec_get oneSO rfl h1 (cv20 (hR.other HU.out.b1 HU.out.n13))) ⟨PutD.refl _, rfl⟩
      refine GoodAll.cons ?_ ?_
      · intro r wx hR hx
        obtain ⟨h1, _⟩ := hx
        replace h1 : r (.tmp 3) = .pointer (some ⟨g3, 0, none⟩) := h1
        exact give_of (by simp [execOp, h1, go_sem]) ⟨PutD.refl _, rfl⟩
      refine GoodAll.cons ?_ ?_
      · intro r wx hR hx
        obtain ⟨h1, h2, _⟩ := hx
        replace h1 : r (.tmp 83) = .pointer (some ⟨g3, 19, none⟩) := h1
        replace h2 : r (.tmp 80) = .int .u32 (c.serial : Int) := h2
        obtain ⟨C1, hb1, hs1, _⟩ := hR.it _ HU.out.b3
        exact give_skip (exec_set one22 rfl h1 h2 rfl rfl hb1 (by rw [hs1]; exact of_decide_eq_true rfl)) (doneAt_set hb1 (by rw [hs1]; exact of_decide_eq_true rfl) (x := undef) rfl)
      refine GoodAll.cons ?_ ?_
      · intro r wx hR hx
        obtain ⟨h1, _⟩ := hx
        replace h1 : r (.tmp 3) = .pointer (some ⟨g3, 0, none⟩) := h1
        exact give_of (by simp [execOp, h1, go_sem]) ⟨PutD.refl _, rfl⟩
      refine GoodAll.cons ?_ ?_
      · intro r wx hR hx
        obtain ⟨h1, h2, _⟩ := hx
        replace h1 : r (.tmp 84) = .pointer (some ⟨g3, 20, none⟩) := h1
        replace h2 : r (.tmp 82) = .slice s.oA s.oN s.oC := h2
        obtain ⟨C1, hb1, hs1, _⟩ := hR.it _ HU.out.b3
        exact give_skip (exec_set oneSO rfl h1 h2 rfl rfl hb1 (by rw [hs1]; exact of_decide_eq_true rfl)) (doneAt_set hb1 (by rw [hs1]; exact of_decide_eq_true rfl) (x := undef) rfl)
      exact GoodAll.nil
    · intro vs w14 a7 hR hold ha7
      have hv0 : vs 0 = (.pointer (some ⟨g1, 19, none⟩)) := hold.at 0
      have hv1 : vs 1 = (.int .u32 (c.serial : Int)) := hold.at 1
      have hv2 : vs 2 = (.pointer (some ⟨g1, 20, none⟩)) := hold.at 2
      have hv3 : vs 3 = (.slice s.oA s.oN s.oC) := hold.at 3
      have hv4 : vs 4 = (.pointer (some ⟨g3, 19, none⟩)) := hold.at 4
      have hv6 : vs 6 = (.pointer (some ⟨g3, 20, none⟩)) := hold.at 6
      have hbw14 := hR.fin HU.out.b3 rfl (fun j hj => by
        match j with
        | 0 => exact .inr rfl
        | 1 => exact .inr rfl
        | 2 => exact .inr rfl
        | 3 => exact .inr rfl
        | 4 => exact .inr rfl
        | 5 => exact .inr rfl
        | 6 => exact .inr rfl
        | 7 => exact .inr rfl
        | 8 => exact .inr rfl
        | 9 => exact .inr rfl
        | 10 => exact .inr rfl
        | 11 => exact .inr rfl
        | 12 => exact .inr rfl
        | 13 => exact .inr rfl
        | 14 => exact .inr rfl
        | 15 => exact .inr rfl
        | 16 => exact .inr rfl
        | 17 => exact .inr rfl
        | 18 => exact .inr rfl
        | 19 => exact .inl (hold.at 5)
        | 20 => exact .inl (hold.at 7)
        | 21 => exact .inr rfl
        | j + 22 => exact absurd hj (by rw [CV.size]; omega))
      replace HU : Hid (UsedAt w w14 g1 g2 g3 c s (CV { ck0 193 with kind := 193, serial := c.serial, ops := c.ops } { sv0 with oA := s.oA, oN := s.oN, oC := s.oC })) := (HU.out.drew).next hbw14.1 hbw14.2
      simp only [putAll, Act.put, hv0, hv1, hv2, hv3, hv4, hv6, List.setIfInBounds_toArray, List.set_cons_succ, List.set_cons_zero] at ha7
      subst ha7
      clear hold hR hbw14 hv0 hv1 hv2 hv3 hv4 hv6
      have f0 := cv0 HU.out.b1
      go_wp2_with (first
        | (have q := HU; clear q; refine wl_load rfl rowC rfl rfl HU.out.b3 rfl ?_)
        | (have q := HU; clear q; refine wl_store (D := CV { ck0 193 with kind := 193, serial := c.serial, ops := c.ops } { sv0 with oA := s.oA, oN := s.oN, oC := s.oC }) rfl rowC rfl rfl rfl HU.out.b2 rfl rfl (CV.one _ _) ?_; intro w9 hb9 hk9 hx9; clear hx9))
      refine bodyPost_ret (results_cell_row (fn := Try.f35) (p := 2) rfl _ w9 _ _ _ (0, 0) _ rfl hb9 Try.underlying38 rfl (by kernel_rfl)) rfl ?_
      exact ⟨rfl, HU.out.ext.of_but hk9 (fun q e => by subst e; exact HU.out.lo)⟩
set_option maxHeartbeats 8000000 in
theorem used_128 {w : World} {c : Ck} {s : Sv} (hk : c.kind = 128) :
    Calls Try.prog 35 #[.agg (CV c s)] w fun e w' => e = .returned (.agg (CV (usedC c) (usedS c s))) ∧ Ext w w' := by
    have HE : Hid (usedC c = { ck0 128 with kind := 128, serial := c.serial, ok := c.ok } ∧ usedS c s = sv0) := ⟨by simp [usedC, hk], by simp [usedS, hk]⟩
    rw [HE.out.1, HE.out.2]
    go_enter Try.func35, Try.ntmps35
    go_wp2_with (first
      | (refine wl_box (C := CV c s) rfl rfl rfl ?_; intro w1 hb1 he1 hx1; have HX1 : Hid (w1.heap.size = w.heap.size + 1) := hx1; clear hx1; have c0 := cv0 hb1)
      | (have q := he2; clear q; refine wl_alloc rfl rfl zeroC ?_; intro w3 hb3 he3 hx3; clear hx3; have d0 := cv0 ((hb1.ext he2).ext he3))
      | (refine wl_alloc rfl rfl zeroC ?_; intro w2 hb2 he2 hx2; have HX2 : Hid (w2.heap.size = w1.heap.size + 1) := hx2; clear hx2; have z0 := cv0 (hb1.ext he2))
      | (have q := HU; clear q; refine wl_load rfl rowC rfl rfl HU.out.b3 rfl ?_)
      | (have q := HU; clear q; refine wl_store (D := CV { ck0 128 with kind := 128, serial := c.serial, ok := c.ok } sv0) rfl rowC rfl rfl rfl HU.out.b2 rfl rfl (CV.one _ _) ?_; intro w9 hb9 hk9 hx9; clear hx9)
      | (refine wl_store (D := CV (ck0 128) sv0) rfl rowC rfl rfl rfl hb3 rfl rfl (CV.one _ _) ?_; intro w4 hb4 hk4 hx4; clear hx4; have HU : Hid (UsedAt w w4 w.heap.size w1.heap.size w2.heap.size c s (CV (ck0 128) sv0)) := ⟨(((hb1.ext he2).ext he3).but hk4 (show ¬ _ = _ by have := HX1.out; have := HX2.out; omega)), ((hb2.ext he3).but hk4 (show ¬ _ = _ by have := HX1.out; have := HX2.out; omega)), hb4, ((he1.trans he2).trans he3).of_but hk4 (fun q e => by subst e; have := HX1.out; have := HX2.out; omega), (by have := HX1.out; have := HX2.out; omega), (by have := HX1.out; have := HX2.out; omega), (by have := HX1.out; have := HX2.out; omega), (by have := HX1.out; omega)⟩; clear c0 d0 z0 hb1 hb2 hb3 hb4 he1 he2 he3 hk4; have f0 := cv0 HU.out.b1; clear HX1 HX2; generalize w.heap.size = g1 at *; generalize w1.heap.size = g2 at *; generalize w2.heap.size = g3 at *))
    refine wp_region_facts (fun t => bif Nat.ble 87 t && Nat.ble t 91 then some (t - 87) else bif Nat.beq t 92 then some 6 else none) 94 (PutD g3 38 (CV { ck0 128 with kind := 128, serial := c.serial, ok := c.ok } sv0))
      [Is (.pointer (some ⟨g1, 19, none⟩)), Is (.int .u32 (c.serial : Int)), Is (.pointer (some ⟨g1, 21, none⟩)), Is (.bool c.ok), Is (.pointer (some ⟨g3, 19, none⟩)), DoneAt g3 38 (CV { ck0 128 with kind := 128, serial := c.serial, ok := c.ok } sv0) 19, Is (.pointer (some ⟨g3, 21, none⟩)), DoneAt g3 38 (CV { ck0 128 with kind := 128, serial := c.serial, ok := c.ok } sv0) 21]
      rfl (by kernel_rfl) (by kernel_rfl) rfl PutD.refl (fun _ _ _ => PutD.trans) ?_ ?_ ?_
    · exact KeepAll.is (KeepAll.is (KeepAll.is (KeepAll.is (KeepAll.is (KeepAll.cons (fun _ _ _ h k => PutD.done k h) (KeepAll.is (KeepAll.cons (fun _ _ _ h k => PutD.done k h) (KeepAll.nil))))))))
    · refine GoodAll.cons ?_ ?_
      · intro r wx hR hx
        obtain ⟨h1, _⟩ := hx
        replace h1 : r (.tmp 1) = .pointer (some ⟨g1, 0, none⟩) := h1
        exact give_of (by simp [execOp, h1, go_sem]) ⟨PutD.refl _, rfl⟩
      refine GoodAll.cons ?_ ?_
      · intro r wx hR hx
        obtain ⟨h1, _⟩ := hx
        replace h1 : r (.tmp 87) = .pointer (some ⟨g1, 19, none⟩) := h1
        exact give_of (exec_get one22 rfl h1 (cv19 (hR.other HU.out.b1 HU.out.n13))) ⟨PutD.refl _, rfl⟩
      refine GoodAll.cons ?_ ?_
      · intro r wx hR hx
        obtain ⟨h1, _⟩ := hx
        replace h1 : r (.tmp 1) = .pointer (some ⟨g1, 0, none⟩) := h1
        exact give_of (by simp [execOp, h1, go_sem]) ⟨PutD.refl _, rfl⟩
      refine GoodAll.cons ?_ ?_
      · intro r wx hR hx
        obtain ⟨h1, _⟩ := hx
        replace h1 : r (.tmp 89) = .pointer (some ⟨g1, 21, none⟩) := h1
        exact give_of (exec_get one4 rfl h1 (cv21 (hR.other HU.out.b1 HU.out.n13))) ⟨PutD.refl _, rfl⟩
      refine GoodAll.cons ?_ ?_
      · intro r wx hR hx
        obtain ⟨h1, _⟩ := hx
        replace h1 : r (.tmp 3) = .pointer (some ⟨g3, 0, none⟩) := h1
        exact give_of (by simp [execOp, h1, go_sem]) ⟨PutD.refl _, rfl⟩
      refine GoodAll.cons ?_ ?_
      · intro r wx hR hx
        obtain ⟨h1, h2, _⟩ := hx
        replace h1 : r (.tmp 91) = .pointer (some ⟨g3, 19, none⟩) := h1
        replace h2 : r (.tmp 88) = .int .u32 (c.serial : Int) := h2
        obtain ⟨C1, hb1, hs1, _⟩ := hR.it _ HU.out.b3
        exact give_skip (exec_set one22 rfl h1 h2 rfl rfl hb1 (by rw [hs1]; exact of_decide_eq_true rfl)) (doneAt_set hb1 (by rw [hs1]; exact of_decide_eq_true rfl) (x := undef) rfl)
      refine GoodAll.cons ?_ ?_
      · intro r wx hR hx
        obtain ⟨h1, _⟩ := hx
        replace h1 : r (.tmp 3) = .pointer (some ⟨g3, 0, none⟩) := h1
        exact give_of (by simp [execOp, h1, go_sem]) ⟨PutD.refl _, rfl⟩
      refine GoodAll.cons ?_ ?_
      · intro r wx hR hx
        obtain ⟨h1, h2, _⟩ := hx
        replace h1 : r (.tmp 92) = .pointer (some ⟨g3, 21, none⟩) := h1
        replace h2 : r (.tmp 90) = .bool c.ok := h2
        obtain ⟨C1, hb1, hs1, _⟩ := hR.it _ HU.out.b3
        exact give_skip (exec_set one4 rfl h1 h2 rfl rfl hb1 (by rw [hs1]; exact of_decide_eq_true rfl)) (doneAt_set hb1 (by rw [hs1]; exact of_decide_eq_true rfl) (x := undef) rfl)
      exact GoodAll.nil
    · intro vs w14 a7 hR hold ha7
      have hv0 : vs 0 = (.pointer (some ⟨g1, 19, none⟩)) := hold.at 0
      have hv1 : vs 1 = (.int .u32 (c.serial : Int)) := hold.at 1
      have hv2 : vs 2 = (.pointer (some ⟨g1, 21, none⟩)) := hold.at 2
      have hv3 : vs 3 = (.bool c.ok) := hold.at 3
      have hv4 : vs 4 = (.pointer (some ⟨g3, 19, none⟩)) := hold.at 4
      have hv6 : vs 6 = (.pointer (some ⟨g3, 21, none⟩)) := hold.at 6
      have hbw14 := hR.fin HU.out.b3 rfl (fun j hj => by
        match j with
        | 0 => exact .inr rfl
        | 1 => exact .inr rfl
        | 2 => exact .inr rfl
        | 3 => exact .inr rfl
        | 4 => exact .inr rfl
        | 5 => exact .inr rfl
        | 6 => exact .inr rfl
        | 7 => exact .inr rfl
        | 8 => exact .inr rfl
        | 9 => exact .inr rfl
        | 10 => exact .inr rfl
        | 11 => exact .inr rfl
        | 12 => exact .inr rfl
        | 13 => exact .inr rfl
        | 14 => exact .inr rfl
        | 15 => exact .inr rfl
        | 16 => exact .inr rfl
        | 17 => exact .inr rfl
        | 18 => exact .inr rfl
        | 19 => exact .inl (hold.at 5)
        | 20 => exact .inr rfl
        | 21 => exact .inl (hold.at 7)
        | j + 22 => exact absurd hj (by rw [CV.size]; omega))
      replace HU : Hid (UsedAt w w14 g1 g2 g3 c s (CV { ck0 128 with kind := 128, serial := c.serial, ok := c.ok } sv0)) := (HU.out.drew).next hbw14.1 hbw14.2
      simp only [putAll, Act.put, hv0, hv1, hv2, hv3, hv4, hv6, List.setIfInBounds_toArray, List.set_cons_succ, List.set_cons_zero] at ha7
      subst ha7
      clear hold hR hbw14 hv0 hv1 hv2 hv3 hv4 hv6
      have f0 := cv0 HU.out.b1
      go_wp2_with (first
        | (have q := HU; clear q; refine wl_load rfl rowC rfl rfl HU.out.b3 rfl ?_)
        | (have q := HU; clear q; refine wl_store (D := CV { ck0 128 with kind := 128, serial := c.serial, ok := c.ok } sv0) rfl rowC rfl rfl rfl HU.out.b2 rfl rfl (CV.one _ _) ?_; intro w9 hb9 hk9 hx9; clear hx9))
      refine bodyPost_ret (results_cell_row (fn := Try.f35) (p := 2) rfl _ w9 _ _ _ (0, 0) _ rfl hb9 Try.underlying38 rfl (by kernel_rfl)) rfl ?_
      exact ⟨rfl, HU.out.ext.of_but hk9 (fun q e => by subst e; exact HU.out.lo)⟩
set_option maxHeartbeats 8000000 in
theorem used_no {w : World} {c : Ck} {s : Sv} (h0 : c.kind ≠ 0) (h1 : c.kind ≠ 1) (h2 : c.kind ≠ 2) (h3 : c.kind ≠ 3) (h4 : c.kind ≠ 4) (h5 : c.kind ≠ 5) (h10 : c.kind ≠ 10) (h15 : c.kind ≠ 15) (h6 : c.kind ≠ 6) (h9 : c.kind ≠ 9) (h7 : c.kind ≠ 7) (h193 : c.kind ≠ 193) (h128 : c.kind ≠ 128) :
    Calls Try.prog 35 #[.agg (CV c s)] w fun e w' => e = .returned (.agg (CV (usedC c) (usedS c s))) ∧ Ext w w' := by
    have HE : Hid (usedC c = ck0 c.kind ∧ usedS c s = sv0) := ⟨by simp [usedC, *], by simp [usedS, *]⟩
    rw [HE.out.1, HE.out.2]
    have e0 : (c.kind == 0) = false := beq_false_of_ne h0
    have e1 : (c.kind == 1) = false := beq_false_of_ne h1
    have e2 : (c.kind == 2) = false := beq_false_of_ne h2
    have e3 : (c.kind == 3) = false := beq_false_of_ne h3
    have e4 : (c.kind == 4) = false := beq_false_of_ne h4
    have e5 : (c.kind == 5) = false := beq_false_of_ne h5
    have e10 : (c.kind == 10) = false := beq_false_of_ne h10
    have e15 : (c.kind == 15) = false := beq_false_of_ne h15
    have e6 : (c.kind == 6) = false := beq_false_of_ne h6
    have e9 : (c.kind == 9) = false := beq_false_of_ne h9
    have e7 : (c.kind == 7) = false := beq_false_of_ne h7
    have e193 : (c.kind == 193) = false := beq_false_of_ne h193
    have e128 : (c.kind == 128) = false := beq_false_of_ne h128
    go_enter Try.func35, Try.ntmps35
    go_wp2_with (first
      | (refine wl_box (C := CV c s) rfl rfl rfl ?_; intro w1 hb1 he1 hx1; have HX1 : Hid (w1.heap.size = w.heap.size + 1) := hx1; clear hx1; have c0 := cv0 hb1)
      | (have q := he2; clear q; refine wl_alloc rfl rfl zeroC ?_; intro w3 hb3 he3 hx3; clear hx3; have d0 := cv0 ((hb1.ext he2).ext he3))
      | (refine wl_alloc rfl rfl zeroC ?_; intro w2 hb2 he2 hx2; have HX2 : Hid (w2.heap.size = w1.heap.size + 1) := hx2; clear hx2; have z0 := cv0 (hb1.ext he2))
      | (have q := HU; clear q; refine wl_load rfl rowC rfl rfl HU.out.b3 rfl ?_)
      | (have q := HU; clear q; refine wl_store (D := CV (ck0 c.kind) sv0) rfl rowC rfl rfl rfl HU.out.b2 rfl rfl (CV.one _ _) ?_; intro w9 hb9 hk9 hx9; clear hx9)
      | (refine wl_store (D := CV (ck0 c.kind) sv0) rfl rowC rfl rfl rfl hb3 rfl rfl (CV.one _ _) ?_; intro w4 hb4 hk4 hx4; clear hx4; have HU : Hid (UsedAt w w4 w.heap.size w1.heap.size w2.heap.size c s (CV (ck0 c.kind) sv0)) := ⟨(((hb1.ext he2).ext he3).but hk4 (show ¬ _ = _ by have := HX1.out; have := HX2.out; omega)), ((hb2.ext he3).but hk4 (show ¬ _ = _ by have := HX1.out; have := HX2.out; omega)), hb4, ((he1.trans he2).trans he3).of_but hk4 (fun q e => by subst e; have := HX1.out; have := HX2.out; omega), (by have := HX1.out; have := HX2.out; omega), (by have := HX1.out; have := HX2.out; omega), (by have := HX1.out; have := HX2.out; omega), (by have := HX1.out; omega)⟩; clear c0 d0 z0 hb1 hb2 hb3 hb4 he1 he2 he3 hk4; have f0 := cv0 HU.out.b1; clear HX1 HX2; generalize w.heap.size = g1 at *; generalize w1.heap.size = g2 at *; generalize w2.heap.size = g3 at *))
    refine bodyPost_ret (results_cell_row (fn := Try.f35) (p := 2) rfl _ w9 _ _ _ (0, 0) _ rfl hb9 Try.underlying38 rfl (by kernel_rfl)) rfl ?_
    exact ⟨rfl, HU.out.ext.of_but hk9 (fun q e => by subst e; exact HU.out.lo)⟩
theorem used_any {w : World} (c : Ck) (s : Sv) :
    Calls Try.prog 35 #[.agg (CV c s)] w fun e w' => e = .returned (.agg (CV (usedC c) (usedS c s))) ∧ Ext w w' := by
  by_cases h0 : c.kind = 0
  · exact used_0 h0
  by_cases h1 : c.kind = 1
  · exact used_1 h1
  by_cases h2 : c.kind = 2
  · exact used_2 h2
  by_cases h3 : c.kind = 3
  · exact used_3 h3
  by_cases h4 : c.kind = 4
  · exact used_4 h4
  by_cases h5 : c.kind = 5
  · exact used_5 h5
  by_cases h10 : c.kind = 10
  · exact used_10 h10
  by_cases h15 : c.kind = 15
  · exact used_15 h15
  by_cases h6 : c.kind = 6
  · exact used_6 h6
  by_cases h9 : c.kind = 9
  · exact used_9 h9
  by_cases h7 : c.kind = 7
  · exact used_7 h7
  by_cases h193 : c.kind = 193
  · exact used_193 h193
  by_cases h128 : c.kind = 128
  · exact used_128 h128
  exact used_no h0 h1 h2 h3 h4 h5 h10 h15 h6 h9 h7 h193 h128
end Tlv
end Go.Proofs.Ytobkgaceallegaa

/- Which chunks are good. No condition of its own. -/
namespace Go.Proofs.Ytobkgaceallegaa
namespace Tlv
open Go Go.RowKit
set_option linter.unusedVariables false
set_option linter.unusedSimpArgs false
set_option maxRecDepth 100000


theorem usedC_0 {c : Ck} (hk : c.kind = 0) : usedC c = { ck0 0 with kind := 0, ptsn := c.ptsn, pstr := c.pstr, pseq := c.pseq, pb := c.pb, pe := c.pe, pu := c.pu, text := c.text } := by simp [usedC, hk]
theorem usedS_0 {c : Ck} (hk : c.kind = 0) (s : Sv) : usedS c s = { sv0 with tA := s.tA, tN := s.tN, tC := s.tC } := by simp [usedS, hk]
theorem usedC_1 {c : Ck} (hk : c.kind = 1) : usedC c = { ck0 1 with kind := 1, tag := c.tag, win := c.win, out := c.out, inn := c.inn, tsn := c.tsn, rand := c.rand, addrs := c.addrs } := by simp [usedC, hk]
theorem usedS_1 {c : Ck} (hk : c.kind = 1) (s : Sv) : usedS c s = { sv0 with rA := s.rA, rN := s.rN, rC := s.rC, aA := s.aA, aN := s.aN, aC := s.aC } := by simp [usedS, hk]
theorem usedC_2 {c : Ck} (hk : c.kind = 2) : usedC c = { ck0 2 with kind := 2, tag := c.tag, win := c.win, out := c.out, inn := c.inn, tsn := c.tsn, rand := c.rand, addrs := c.addrs, info := c.info } := by simp [usedC, hk]
theorem usedS_2 {c : Ck} (hk : c.kind = 2) (s : Sv) : usedS c s = { sv0 with rA := s.rA, rN := s.rN, rC := s.rC, aA := s.aA, aN := s.aN, aC := s.aC, iA := s.iA, iN := s.iN, iC := s.iC } := by simp [usedS, hk]
theorem usedC_3 {c : Ck} (hk : c.kind = 3) : usedC c = { ck0 3 with kind := 3, tsn := c.tsn, win := c.win, gaps := c.gaps, dups := c.dups } := by simp [usedC, hk]
theorem usedS_3 {c : Ck} (hk : c.kind = 3) (s : Sv) : usedS c s = { sv0 with gA := s.gA, gN := s.gN, gC := s.gC, dA := s.dA, dN := s.dN, dC := s.dC } := by simp [usedS, hk]
theorem usedC_4 {c : Ck} (hk : c.kind = 4) : usedC c = { ck0 4 with kind := 4, info := c.info } := by simp [usedC, hk]
theorem usedS_4 {c : Ck} (hk : c.kind = 4) (s : Sv) : usedS c s = { sv0 with iA := s.iA, iN := s.iN, iC := s.iC } := by simp [usedS, hk]
theorem usedC_5 {c : Ck} (hk : c.kind = 5) : usedC c = { ck0 5 with kind := 5, info := c.info } := by simp [usedC, hk]
theorem usedS_5 {c : Ck} (hk : c.kind = 5) (s : Sv) : usedS c s = { sv0 with iA := s.iA, iN := s.iN, iC := s.iC } := by simp [usedS, hk]
theorem usedC_10 {c : Ck} (hk : c.kind = 10) : usedC c = { ck0 10 with kind := 10, info := c.info } := by simp [usedC, hk]
theorem usedS_10 {c : Ck} (hk : c.kind = 10) (s : Sv) : usedS c s = { sv0 with iA := s.iA, iN := s.iN, iC := s.iC } := by simp [usedS, hk]
theorem usedC_15 {c : Ck} (hk : c.kind = 15) : usedC c = { ck0 15 with kind := 15, info := c.info } := by simp [usedC, hk]
theorem usedS_15 {c : Ck} (hk : c.kind = 15) (s : Sv) : usedS c s = { sv0 with iA := s.iA, iN := s.iN, iC := s.iC } := by simp [usedS, hk]
theorem usedC_6 {c : Ck} (hk : c.kind = 6) : usedC c = { ck0 6 with kind := 6, cause := c.cause } := by simp [usedC, hk]
theorem usedS_6 {c : Ck} (hk : c.kind = 6) (s : Sv) : usedS c s = sv0 := by simp [usedS, hk]
theorem usedC_9 {c : Ck} (hk : c.kind = 9) : usedC c = { ck0 9 with kind := 9, cause := c.cause } := by simp [usedC, hk]
theorem usedS_9 {c : Ck} (hk : c.kind = 9) (s : Sv) : usedS c s = sv0 := by simp [usedS, hk]
theorem usedC_7 {c : Ck} (hk : c.kind = 7) : usedC c = { ck0 7 with kind := 7, tsn := c.tsn } := by simp [usedC, hk]
theorem usedS_7 {c : Ck} (hk : c.kind = 7) (s : Sv) : usedS c s = sv0 := by simp [usedS, hk]
theorem usedC_193 {c : Ck} (hk : c.kind = 193) : usedC c = { ck0 193 with kind := 193, serial := c.serial, ops := c.ops } := by simp [usedC, hk]
theorem usedS_193 {c : Ck} (hk : c.kind = 193) (s : Sv) : usedS c s = { sv0 with oA := s.oA, oN := s.oN, oC := s.oC } := by simp [usedS, hk]
theorem usedC_128 {c : Ck} (hk : c.kind = 128) : usedC c = { ck0 128 with kind := 128, serial := c.serial, ok := c.ok } := by simp [usedC, hk]
theorem usedS_128 {c : Ck} (hk : c.kind = 128) (s : Sv) : usedS c s = sv0 := by simp [usedS, hk]
theorem CkAt.used {w : World} {c : Ck} {s : Sv} (h : CkAt w s c) : CkAt w (usedS c s) (usedC c) := by
  have z1 := BytesAt.none w
  have z2 := NumsAt.nothing .i64 w
  have z3 := NumsAt.nothing .u32 w
  have z4 := PairsAt.nil w
  by_cases h0 : c.kind = 0
  · rw [usedC_0 h0, usedS_0 h0]; exact ⟨h.t, z1, z2, z1, z4, z3, z4⟩
  by_cases h1 : c.kind = 1
  · rw [usedC_1 h1, usedS_1 h1]; exact ⟨z1, h.r, h.a, z1, z4, z3, z4⟩
  by_cases h2 : c.kind = 2
  · rw [usedC_2 h2, usedS_2 h2]; exact ⟨z1, h.r, h.a, h.i, z4, z3, z4⟩
  by_cases h3 : c.kind = 3
  · rw [usedC_3 h3, usedS_3 h3]; exact ⟨z1, z1, z2, z1, h.g, h.d, z4⟩
  by_cases h4 : c.kind = 4
  · rw [usedC_4 h4, usedS_4 h4]; exact ⟨z1, z1, z2, h.i, z4, z3, z4⟩
  by_cases h5 : c.kind = 5
  · rw [usedC_5 h5, usedS_5 h5]; exact ⟨z1, z1, z2, h.i, z4, z3, z4⟩
  by_cases h10 : c.kind = 10
  · rw [usedC_10 h10, usedS_10 h10]; exact ⟨z1, z1, z2, h.i, z4, z3, z4⟩
  by_cases h15 : c.kind = 15
  · rw [usedC_15 h15, usedS_15 h15]; exact ⟨z1, z1, z2, h.i, z4, z3, z4⟩
  by_cases h6 : c.kind = 6
  · rw [usedC_6 h6, usedS_6 h6]; exact ⟨z1, z1, z2, z1, z4, z3, z4⟩
  by_cases h9 : c.kind = 9
  · rw [usedC_9 h9, usedS_9 h9]; exact ⟨z1, z1, z2, z1, z4, z3, z4⟩
  by_cases h7 : c.kind = 7
  · rw [usedC_7 h7, usedS_7 h7]; exact ⟨z1, z1, z2, z1, z4, z3, z4⟩
  by_cases h193 : c.kind = 193
  · rw [usedC_193 h193, usedS_193 h193]; exact ⟨z1, z1, z2, z1, z4, z3, h.o⟩
  by_cases h128 : c.kind = 128
  · rw [usedC_128 h128, usedS_128 h128]; exact ⟨z1, z1, z2, z1, z4, z3, z4⟩
  rw [show usedC c = ck0 c.kind by simp [usedC, *], show usedS c s = sv0 by simp [usedS, *]]
  exact ⟨z1, z1, z2, z1, z4, z3, z4⟩
/-- Which chunks are good. -/
def goodB (c : Ck) : Bool := (((knB c.kind) && ((fitsB c))) && ((sameB c (usedC c))))
set_option maxHeartbeats 4000000 in
theorem goodC_any {w : World} {c : Ck} {s : Sv} (ha : CkAt w s c) :
    Calls Try.prog 12 #[.agg (CV c s)] w fun e w' => e = .returned (.bool (goodB c)) ∧ Ext w w' := by
  unfold goodB
  go_enter Try.func12, Try.ntmps12
  go_wp2_with (first
    | (refine wl_box (C := CV c s) rfl rfl rfl ?_; intro w1 hb1 he1 hx; clear hx))
  have HA : CkAt w1.drew s c := (ha.ext he1).ext (Ext.drew _)
  have hb1d : Blk w1.drew w.heap.size (CV c s) 38 := hb1
  refine wp_region_facts (fun t => bif Nat.ble 3 t && Nat.ble t 15 then some (t - 3) else bif Nat.beq t 2 then some 13 else none) 16 Ext
    [Is (.pointer (some ⟨w.heap.size, 0, none⟩)),
     Is (.int .i64 c.kind),
     Is (.bool (knB c.kind)),
     Is (.bool (knB c.kind)),
     Under (((knB c.kind))) (.agg (CV c s)),
     Under (((knB c.kind))) (.bool (fitsB c)),
     Is (.bool ((knB c.kind) && ((fitsB c)))),
     Is (.bool ((knB c.kind) && ((fitsB c)))),
     Under ((((knB c.kind) && ((fitsB c))))) (.agg (CV c s)),
     Under ((((knB c.kind) && ((fitsB c))))) (.agg (CV c s)),
     Under ((((knB c.kind) && ((fitsB c))))) (.agg (CV (usedC c) (usedS c s))),
     Under ((((knB c.kind) && ((fitsB c))))) (.bool (sameB c (usedC c))),
     Is (.bool (((knB c.kind) && ((fitsB c))) && ((sameB c (usedC c))))),
     Is (.bool (((knB c.kind) && ((fitsB c))) && ((sameB c (usedC c)))))]
    rfl (by kernel_rfl) (by kernel_rfl) rfl Ext.refl (fun _ _ _ => Ext.trans) (KeepAll.is (KeepAll.is (KeepAll.is (KeepAll.is (KeepAll.under (KeepAll.under (KeepAll.is (KeepAll.is (KeepAll.under (KeepAll.under (KeepAll.under (KeepAll.under (KeepAll.is (KeepAll.is (KeepAll.nil))))))))))))))) ?_ ?_
  · refine GoodAll.cons ?_ ?_
    · intro r wx hR hx
      obtain ⟨h1, _⟩ := hx
      replace h1 : r (.tmp 1) = .pointer (some ⟨w.heap.size, 0, none⟩) := h1
      exact give_of (by simp [execOp, h1, go_sem]) ⟨Ext.refl _, rfl⟩
    refine GoodAll.cons ?_ ?_
    · intro r wx hR hx
      obtain ⟨h1, _⟩ := hx
      replace h1 : r (.tmp 3) = .pointer (some ⟨w.heap.size, 0, none⟩) := h1
      exact give_of (exec_get one3 rfl h1 (cv0 (hb1d.ext hR))) ⟨Ext.refl _, rfl⟩
    refine GoodAll.cons ?_ ?_
    · intro r wx hR hx
      obtain ⟨h1, h2, _⟩ := hx
      replace h1 : r (.func 22) = .func (.func 22) #[] #[] := h1
      replace h2 : r (.tmp 4) = .int .i64 c.kind := h2
      refine give_func #[.int .i64 c.kind] rfl h1 Try.call22 (by simp [h2]) ?_
      refine (known_any _ _).mono ?_
      rintro e wz ⟨rfl, hez⟩
      exact ⟨_, rfl, hez, rfl⟩
    refine GoodAll.cons ?_ ?_
    · intro r wx hR hx
      obtain ⟨h1, _⟩ := hx
      replace h1 : r (.tmp 5) = .bool (knB c.kind) := h1
      exact give_move (.inl rfl) ⟨Ext.refl _, h1⟩
    refine GoodAll.cons ?_ ?_
    · intro r wx hR hx
      obtain ⟨h1, _⟩ := hx
      replace h1 : r (.tmp 1) = .pointer (some ⟨w.heap.size, 0, none⟩) := h1
      intro gb hgb
      refine guard_u (C := ((knB c.kind))) (b := (knB c.kind)) (want := true) hgb (want_t _) (fun hc => ?_) (fun hc => under_no hc)
      exact give_of (exec_loadW rowC rfl h1 (hb1d.ext hR) rfl) ⟨Ext.refl _, under_yes hc⟩
    refine GoodAll.cons ?_ ?_
    · intro r wx hR hx
      obtain ⟨h1, h2, _⟩ := hx
      replace h1 : r (.func 34) = .func (.func 34) #[] #[] := h1
      replace h2 : Under (((knB c.kind))) (.agg (CV c s)) wx (r (.tmp 7)) := h2
      intro gb hgb
      refine guard_u (C := ((knB c.kind))) (b := (knB c.kind)) (want := true) hgb (want_t _) (fun hc => ?_) (fun hc => under_no hc)
      replace h2 := h2.get hc
      refine give_func #[.agg (CV c s)] rfl h1 Try.call34 (by simp [h2]) ?_
      refine (fits_any (HA.ext hR)).mono ?_
      rintro e wz ⟨rfl, hez⟩
      exact ⟨_, rfl, hez, under_yes hc⟩
    refine GoodAll.cons ?_ ?_
    · intro r wx hR hx
      obtain ⟨h1, h2, h3, _⟩ := hx
      replace h1 : r (.tmp 6) = .bool (knB c.kind) := h1
      replace h2 : Under (((knB c.kind))) (.bool (fitsB c)) wx (r (.tmp 8)) := h2
      replace h3 : r (.const (.bool false)) = .bool false := h3
      exact give_and rfl h3 h1 (fun hb => h2.get (by first | exact hb | (rw [hc, hb]; rfl) | (rw [hb]; rfl))) ⟨Ext.refl _, rfl⟩
    refine GoodAll.cons ?_ ?_
    · intro r wx hR hx
      obtain ⟨h1, _⟩ := hx
      replace h1 : r (.tmp 9) = .bool ((knB c.kind) && ((fitsB c))) := h1
      exact give_move (.inl rfl) ⟨Ext.refl _, h1⟩
    refine GoodAll.cons ?_ ?_
    · intro r wx hR hx
      obtain ⟨h1, _⟩ := hx
      replace h1 : r (.tmp 1) = .pointer (some ⟨w.heap.size, 0, none⟩) := h1
      intro gb hgb
      refine guard_u (C := (((knB c.kind) && ((fitsB c))))) (b := ((knB c.kind) && ((fitsB c)))) (want := true) hgb (want_t _) (fun hc => ?_) (fun hc => under_no hc)
      exact give_of (exec_loadW rowC rfl h1 (hb1d.ext hR) rfl) ⟨Ext.refl _, under_yes hc⟩
    refine GoodAll.cons ?_ ?_
    · intro r wx hR hx
      obtain ⟨h1, _⟩ := hx
      replace h1 : r (.tmp 1) = .pointer (some ⟨w.heap.size, 0, none⟩) := h1
      intro gb hgb
      refine guard_u (C := (((knB c.kind) && ((fitsB c))))) (b := ((knB c.kind) && ((fitsB c)))) (want := true) hgb (want_t _) (fun hc => ?_) (fun hc => under_no hc)
      exact give_of (exec_loadW rowC rfl h1 (hb1d.ext hR) rfl) ⟨Ext.refl _, under_yes hc⟩
    refine GoodAll.cons ?_ ?_
    · intro r wx hR hx
      obtain ⟨h1, h2, _⟩ := hx
      replace h1 : r (.func 35) = .func (.func 35) #[] #[] := h1
      replace h2 : Under ((((knB c.kind) && ((fitsB c))))) (.agg (CV c s)) wx (r (.tmp 12)) := h2
      intro gb hgb
      refine guard_u (C := (((knB c.kind) && ((fitsB c))))) (b := ((knB c.kind) && ((fitsB c)))) (want := true) hgb (want_t _) (fun hc => ?_) (fun hc => under_no hc)
      replace h2 := h2.get hc
      refine give_func #[.agg (CV c s)] rfl h1 Try.call35 (by simp [h2]) ?_
      refine (used_any c s).mono ?_
      rintro e wz ⟨rfl, hez⟩
      exact ⟨_, rfl, hez, under_yes hc⟩
    refine GoodAll.cons ?_ ?_
    · intro r wx hR hx
      obtain ⟨h1, h2, h3, _⟩ := hx
      replace h1 : r (.func 25) = .func (.func 25) #[] #[] := h1
      replace h2 : Under ((((knB c.kind) && ((fitsB c))))) (.agg (CV c s)) wx (r (.tmp 11)) := h2
      replace h3 : Under ((((knB c.kind) && ((fitsB c))))) (.agg (CV (usedC c) (usedS c s))) wx (r (.tmp 13)) := h3
      intro gb hgb
      refine guard_u (C := (((knB c.kind) && ((fitsB c))))) (b := ((knB c.kind) && ((fitsB c)))) (want := true) hgb (want_t _) (fun hc => ?_) (fun hc => under_no hc)
      replace h2 := h2.get hc
      replace h3 := h3.get hc
      refine give_func #[.agg (CV c s), .agg (CV (usedC c) (usedS c s))] rfl h1 Try.call25 (by simp [h2, h3]) ?_
      refine (same_any (HA.ext hR) (HA.used.ext hR)).mono ?_
      rintro e wz ⟨rfl, hez⟩
      exact ⟨_, rfl, hez, under_yes hc⟩
    refine GoodAll.cons ?_ ?_
    · intro r wx hR hx
      obtain ⟨h1, h2, h3, _⟩ := hx
      replace h1 : r (.tmp 10) = .bool ((knB c.kind) && ((fitsB c))) := h1
      replace h2 : Under ((((knB c.kind) && ((fitsB c))))) (.bool (sameB c (usedC c))) wx (r (.tmp 14)) := h2
      replace h3 : r (.const (.bool false)) = .bool false := h3
      exact give_and rfl h3 h1 (fun hb => h2.get (by first | exact hb | (rw [hc, hb]; rfl) | (rw [hb]; rfl))) ⟨Ext.refl _, rfl⟩
    refine GoodAll.cons ?_ ?_
    · intro r wx hR hx
      obtain ⟨h1, _⟩ := hx
      replace h1 : r (.tmp 15) = .bool (((knB c.kind) && ((fitsB c))) && ((sameB c (usedC c)))) := h1
      exact give_move (.inr rfl) ⟨Ext.refl _, h1⟩
    exact GoodAll.nil
  · intro vs wE aE hR hold haE
    have hv : vs 13 = .bool (((knB c.kind) && ((fitsB c))) && ((sameB c (usedC c)))) := hold.at 13
    refine ‹∀ (a : Act) (w : World), Code.wp Try.prog Code.ret _ a w → _› _ _ ?_
    refine wp_ret ?_
    have hs : aE.tmps[2]? = some (.bool (((knB c.kind) && ((fitsB c))) && ((sameB c (usedC c))))) := by rw [haE, ← hv]; kernel_rfl
    have hdf : aE.defers = [] := by rw [haE]; exact putAll_defers _ _ _ _
    clear haE
    refine bodyPost_ret (v := .bool (((knB c.kind) && ((fitsB c))) && ((sameB c (usedC c))))) ?_ hdf ⟨rfl, he1.trans ((Ext.drew _).trans hR)⟩
    simp [results, Try.results12, go_sem, hs]
end Tlv
end Go.Proofs.Ytobkgaceallegaa
