/- Texts of the seat, one behind the other. No condition of its own. -/
import Derived.Test.YtigocaconkbalaaMs4
set_option linter.unusedVariables false
set_option linter.unusedSimpArgs false
set_option maxHeartbeats 32000000
set_option maxRecDepth 100000
namespace Go.Proofs.Ytigocaconkbalaa
namespace Tlv
open Go Go.RowKit
structure PutD (g T : Nat) (D : Array Value) (W W' : World) : Prop where
 os : W'.os = W.os
 tape : W'.tape = W.tape
 output : W'.output = W.output
 size : W'.heap.size = W.heap.size
 block : ∀ k, k ≠ g → W'.heap[k]? = W.heap[k]?
 it : ∀ C, Blk W g C T → ∃ C', Blk W' g C' T ∧ C'.size = C.size ∧ ∀ j : Nat, C'[j]? = C[j]? ∨ C'[j]? = D[j]?
theorem PutD.refl {g T : Nat} {D : Array Value} (W : World) : PutD g T D W W := ⟨rfl, rfl, rfl, rfl, fun _ _ => rfl, fun C h => ⟨C, h, rfl, fun _ => .inl rfl⟩⟩
theorem PutD.trans {g T : Nat} {D : Array Value} {a b c : World} (h : PutD g T D a b) (k : PutD g T D b c) : PutD g T D a c :=
 ⟨k.os.trans h.os, k.tape.trans h.tape, k.output.trans h.output, k.size.trans h.size, fun i hi => (k.block i hi).trans (h.block i hi), fun C hC => by
  obtain ⟨C1, h1, s1, d1⟩ := h.it C hC
  obtain ⟨C2, h2, s2, d2⟩ := k.it C1 h1
  refine ⟨C2, h2, s2.trans s1, fun j => ?_⟩
  rcases d2 j with e | e
  ·
   rw [e]; exact d1 j
  ·
   exact .inr e⟩
theorem PutD.other {g T : Nat} {D : Array Value} {a b : World} (h : PutD g T D a b) {q t : Nat} {C : Array Value} (hb : Blk a q C t) (hq : q ≠ g) : Blk b q C t := (h.block q hq).trans hb
def DoneAt (g T : Nat) (D : Array Value) (j : Nat) : Fact := fun w _ => ∃ C, Blk w g C T ∧ C[j]? = D[j]?
theorem PutD.done {g T : Nat} {D : Array Value} {a b : World} {j : Nat} {v : Value} (h : DoneAt g T D j a v) (k : PutD g T D a b) : DoneAt g T D j b v := by
 obtain ⟨C, h1, h2⟩ := h
 obtain ⟨C', h3, _, h4⟩ := k.it C h1
 refine ⟨C', h3, ?_⟩
 rcases h4 j with e | e
 ·
  rw [e, h2]
 ·
  exact e
theorem doneAt_set {g T j : Nat} {C D : Array Value} {w : World} {v x : Value} (hb : Blk w g C T) (hj : j < C.size) (hd : D[j]? = some v) : PutD g T D w (w.setCell ⟨g, j, none⟩ v) ∧ DoneAt g T D j (w.setCell ⟨g, j, none⟩ v) x := by
 have h1 := hb.set j v
 refine ⟨⟨rfl, rfl, rfl, by simp, fun k hk => block_other hk j v, fun C' hC' => ?_⟩, _, h1, ?_⟩
 ·
  have e : C' = C := by
   have : some (Obj.cells C' T (0, 0)) = some (.cells C T (0, 0)) := hC'.symm.trans hb
   simp only [Option.some.injEq, Obj.cells.injEq] at this
   exact this.1
  subst e
  refine ⟨_, h1, by simp, fun i => ?_⟩
  by_cases hi : j = i
  ·
   subst hi; right; rw [hd]; simp [hj]
  ·
   left; simp [Array.getElem?_setIfInBounds_ne hi]
 ·
  rw [hd]; simp [hj]
theorem PutD.fin {g T : Nat} {C D : Array Value} {a b : World} (h : PutD g T D a b) (hb : Blk a g C T) (hs : C.size = D.size) (hd : ∀ j, j < D.size → (∃ C', Blk b g C' T ∧ C'[j]? = D[j]?) ∨ C[j]? = D[j]?) : Blk b g D T ∧ KeepBut (· = g) a b := by
 obtain ⟨C', h1, s1, d1⟩ := h.it C hb
 have e : C' = D := by
  apply Array.ext_getElem?
  intro j
  rcases Nat.lt_or_ge j D.size with hj | hj
  ·
   rcases hd j hj with ⟨C2, h2, e2⟩ | e2
   ·
    have : some (Obj.cells C' T (0, 0)) = some (.cells C2 T (0, 0)) := h1.symm.trans h2
    simp only [Option.some.injEq, Obj.cells.injEq] at this
    rw [this.1]; exact e2
   ·
    rcases d1 j with e3 | e3
    ·
     rw [e3]; exact e2
    ·
     exact e3
  ·
   rw [Array.getElem?_eq_none hj, Array.getElem?_eq_none (by omega)]
 subst e
 exact ⟨h1, h.os, h.tape, h.output, Nat.le_of_eq h.size.symm, fun k _ hk => h.block k hk⟩
def ck0 (k : Int) : Ck := { kind := k, ptsn := 0, pstr := 0, pseq := 0, pb := false, pe := false, pu := false, text := [], tag := 0, win := 0, out := 0, inn := 0, tsn := 0, rand := [], addrs := [], info := [], gaps := [], dups := [], cause := 0, serial := 0, ops := [], ok := false }
def sv0 : Sv := { tA := none, tN := 0, tC := 0, rA := none, rN := 0, rC := 0, aA := none, aN := 0, aC := 0, iA := none, iN := 0, iC := 0, gA := none, gN := 0, gC := 0, dA := none, dN := 0, dC := 0, oA := none, oN := 0, oC := 0 }
theorem zeroC : (Try.prog.info? 38).bind (·.zero) = some (.agg (CV (ck0 0) sv0)) := by kernel_rfl
structure UsedAt (w wc : World) (g1 g2 g3 : Nat) (c : Ck) (s : Sv) (D : Array Value) : Prop where
 b1 : Blk wc g1 (CV c s) 38
 b2 : Blk wc g2 (CV (ck0 0) sv0) 38
 b3 : Blk wc g3 D 38
 ext : Ext w wc
 n13 : g1 ≠ g3
 n23 : g2 ≠ g3
 lo3 : w.heap.size ≤ g3
 lo : w.heap.size ≤ g2
theorem UsedAt.next {w wc w' : World} {g1 g2 g3 : Nat} {c : Ck} {s : Sv} {D D' : Array Value} (h : UsedAt w wc g1 g2 g3 c s D) (hb : Blk w' g3 D' 38) (hk : KeepBut (· = g3) wc w') : UsedAt w w' g1 g2 g3 c s D' :=
 ⟨h.b1.but hk h.n13, h.b2.but hk h.n23, hb, h.ext.of_but hk (fun q e => by subst e; exact h.lo3), h.n13, h.n23, h.lo3, h.lo⟩
theorem UsedAt.drew {w wc : World} {g1 g2 g3 : Nat} {c : Ck} {s : Sv} {D : Array Value} (h : UsedAt w wc g1 g2 g3 c s D) : UsedAt w wc.drew g1 g2 g3 c s D := ⟨h.b1, h.b2, h.b3, h.ext.trans (Ext.drew _), h.n13, h.n23, h.lo3, h.lo⟩
def usedC (c : Ck) : Ck :=
 if c.kind = 0 then { ck0 0 with kind := 0, ptsn := c.ptsn, pstr := c.pstr, pseq := c.pseq, pb := c.pb, pe := c.pe, pu := c.pu, text := c.text }
 else if c.kind = 1 then { ck0 1 with kind := 1, tag := c.tag, win := c.win, out := c.out, inn := c.inn, tsn := c.tsn, rand := c.rand, addrs := c.addrs }
 else if c.kind = 2 then { ck0 2 with kind := 2, tag := c.tag, win := c.win, out := c.out, inn := c.inn, tsn := c.tsn, rand := c.rand, addrs := c.addrs, info := c.info }
 else if c.kind = 3 then { ck0 3 with kind := 3, tsn := c.tsn, win := c.win, gaps := c.gaps, dups := c.dups }
 else if c.kind = 4 then { ck0 4 with kind := 4, info := c.info }
 else if c.kind = 5 then { ck0 5 with kind := 5, info := c.info }
 else if c.kind = 10 then { ck0 10 with kind := 10, info := c.info }
 else if c.kind = 15 then { ck0 15 with kind := 15, info := c.info }
 else if c.kind = 6 then { ck0 6 with kind := 6, cause := c.cause }
 else if c.kind = 9 then { ck0 9 with kind := 9, cause := c.cause }
 else if c.kind = 7 then { ck0 7 with kind := 7, tsn := c.tsn }
 else if c.kind = 193 then { ck0 193 with kind := 193, serial := c.serial, ops := c.ops }
 else if c.kind = 128 then { ck0 128 with kind := 128, serial := c.serial, ok := c.ok }
 else ck0 c.kind
def usedS (c : Ck) (s : Sv) : Sv :=
 if c.kind = 0 then { sv0 with tA := s.tA, tN := s.tN, tC := s.tC }
 else if c.kind = 1 then { sv0 with rA := s.rA, rN := s.rN, rC := s.rC, aA := s.aA, aN := s.aN, aC := s.aC }
 else if c.kind = 2 then { sv0 with rA := s.rA, rN := s.rN, rC := s.rC, aA := s.aA, aN := s.aN, aC := s.aC, iA := s.iA, iN := s.iN, iC := s.iC }
 else if c.kind = 3 then { sv0 with gA := s.gA, gN := s.gN, gC := s.gC, dA := s.dA, dN := s.dN, dC := s.dC }
 else if c.kind = 4 then { sv0 with iA := s.iA, iN := s.iN, iC := s.iC }
 else if c.kind = 5 then { sv0 with iA := s.iA, iN := s.iN, iC := s.iC }
 else if c.kind = 10 then { sv0 with iA := s.iA, iN := s.iN, iC := s.iC }
 else if c.kind = 15 then { sv0 with iA := s.iA, iN := s.iN, iC := s.iC }
 else if c.kind = 6 then sv0
 else if c.kind = 9 then sv0
 else if c.kind = 7 then sv0
 else if c.kind = 193 then { sv0 with oA := s.oA, oN := s.oN, oC := s.oC }
 else if c.kind = 128 then sv0
 else sv0
theorem used_0 {w : World} {c : Ck} {s : Sv} (hk : c.kind = 0) :
  Calls Try.prog 35 #[.agg (CV c s)] w fun e w' => e = .returned (.agg (CV (usedC c) (usedS c s))) ∧ Ext w w' := by
  have HE : Hid (usedC c = { ck0 0 with kind := 0, ptsn := c.ptsn, pstr := c.pstr, pseq := c.pseq, pb := c.pb, pe := c.pe, pu := c.pu, text := c.text } ∧ usedS c s = { sv0 with tA := s.tA, tN := s.tN, tC := s.tC }) := ⟨by simp [usedC, hk], by simp [usedS, hk]⟩
  rw [HE.out.1, HE.out.2]
  go_enter Try.func35, Try.ntmps35
  go_wp2_with (first
   | (refine wl_box (C := CV c s) rfl rfl rfl ?_; intro w1 hb1 he1 hx1; have HX1 : Hid (w1.heap.size = w.heap.size + 1) := hx1; clear hx1; have c0 := cv0 hb1)
   | (have q := he2; clear q; refine wl_alloc rfl rfl zeroC ?_; intro w3 hb3 he3 hx3; clear hx3; have d0 := cv0 ((hb1.ext he2).ext he3))
   | (refine wl_alloc rfl rfl zeroC ?_; intro w2 hb2 he2 hx2; have HX2 : Hid (w2.heap.size = w1.heap.size + 1) := hx2; clear hx2; have z0 := cv0 (hb1.ext he2))
   | (refine wl_load rfl rowC rfl rfl HU.out.b3 rfl ?_)
   | (refine wl_store (D := CV { ck0 0 with kind := 0, ptsn := c.ptsn, pstr := c.pstr, pseq := c.pseq, pb := c.pb, pe := c.pe, pu := c.pu, text := c.text } { sv0 with tA := s.tA, tN := s.tN, tC := s.tC }) rfl rowC rfl rfl rfl HU.out.b2 rfl rfl (CV.one _ _) ?_; intro w9 hb9 hk9 hx9; clear hx9)
   | (refine wl_store (D := CV (ck0 0) sv0) rfl rowC rfl rfl rfl hb3 rfl rfl (CV.one _ _) ?_; intro w4 hb4 hk4 hx4; clear hx4; have HU : Hid (UsedAt w w4 w.heap.size w1.heap.size w2.heap.size c s (CV (ck0 0) sv0)) := ⟨(((hb1.ext he2).ext he3).but hk4 (show ¬ _ = _ by have := HX1.out; have := HX2.out; omega)), ((hb2.ext he3).but hk4 (show ¬ _ = _ by have := HX1.out; have := HX2.out; omega)), hb4, ((he1.trans he2).trans he3).of_but hk4 (fun q e => by subst e; have := HX1.out; have := HX2.out; omega), (by have := HX1.out; have := HX2.out; omega), (by have := HX1.out; have := HX2.out; omega), (by have := HX1.out; have := HX2.out; omega), (by have := HX1.out; omega)⟩; clear c0 d0 z0 hb1 hb2 hb3 hb4 he1 he2 he3 hk4; have f0 := cv0 HU.out.b1; clear HX1 HX2; generalize w.heap.size = g1 at *; generalize w1.heap.size = g2 at *; generalize w2.heap.size = g3 at *)
   | (refine wl_loadM rfl rowPc rfl rfl HU.out.b1 (PV c s).toList (CV.piece c s) rfl ?_)
   | (refine wl_storeM (D := PV c s) rfl rowPc rfl rfl rfl HU.out.b3 rfl (of_decide_eq_true rfl) (PV.one _ _) ?_; intro w7 hb7 hk7 hx7; clear hx7; replace HU : Hid (UsedAt w w7 g1 g2 g3 c s (CV { ck0 0 with kind := 0, ptsn := c.ptsn, pstr := c.pstr, pseq := c.pseq, pb := c.pb, pe := c.pe, pu := c.pu, text := c.text } { sv0 with tA := s.tA, tN := s.tN, tC := s.tC })) := HU.out.next hb7 hk7))
  refine bodyPost_ret (results_cell_row (fn := Try.f35) (p := 2) rfl _ w9 _ _ _ (0, 0) _ rfl hb9 Try.underlying38 rfl (by kernel_rfl)) rfl ?_
  exact ⟨rfl, HU.out.ext.of_but hk9 (fun q e => by subst e; exact HU.out.lo)⟩
theorem used_1 {w : World} {c : Ck} {s : Sv} (hk : c.kind = 1) :
  Calls Try.prog 35 #[.agg (CV c s)] w fun e w' => e = .returned (.agg (CV (usedC c) (usedS c s))) ∧ Ext w w' := by
  have HE : Hid (usedC c = { ck0 1 with kind := 1, tag := c.tag, win := c.win, out := c.out, inn := c.inn, tsn := c.tsn, rand := c.rand, addrs := c.addrs } ∧ usedS c s = { sv0 with rA := s.rA, rN := s.rN, rC := s.rC, aA := s.aA, aN := s.aN, aC := s.aC }) := ⟨by simp [usedC, hk], by simp [usedS, hk]⟩
  rw [HE.out.1, HE.out.2]
  go_enter Try.func35, Try.ntmps35
  go_wp2_with (first
   | (refine wl_box (C := CV c s) rfl rfl rfl ?_; intro w1 hb1 he1 hx1; have HX1 : Hid (w1.heap.size = w.heap.size + 1) := hx1; clear hx1; have c0 := cv0 hb1)
   | (have q := he2; clear q; refine wl_alloc rfl rfl zeroC ?_; intro w3 hb3 he3 hx3; clear hx3; have d0 := cv0 ((hb1.ext he2).ext he3))
   | (refine wl_alloc rfl rfl zeroC ?_; intro w2 hb2 he2 hx2; have HX2 : Hid (w2.heap.size = w1.heap.size + 1) := hx2; clear hx2; have z0 := cv0 (hb1.ext he2))
   | (refine wl_load rfl rowC rfl rfl HU.out.b3 rfl ?_)
   | (refine wl_store (D := CV { ck0 1 with kind := 1, tag := c.tag, win := c.win, out := c.out, inn := c.inn, tsn := c.tsn, rand := c.rand, addrs := c.addrs } { sv0 with rA := s.rA, rN := s.rN, rC := s.rC, aA := s.aA, aN := s.aN, aC := s.aC }) rfl rowC rfl rfl rfl HU.out.b2 rfl rfl (CV.one _ _) ?_; intro w9 hb9 hk9 hx9; clear hx9)
   | (refine wl_store (D := CV (ck0 1) sv0) rfl rowC rfl rfl rfl hb3 rfl rfl (CV.one _ _) ?_; intro w4 hb4 hk4 hx4; clear hx4; have HU : Hid (UsedAt w w4 w.heap.size w1.heap.size w2.heap.size c s (CV (ck0 1) sv0)) := ⟨(((hb1.ext he2).ext he3).but hk4 (show ¬ _ = _ by have := HX1.out; have := HX2.out; omega)), ((hb2.ext he3).but hk4 (show ¬ _ = _ by have := HX1.out; have := HX2.out; omega)), hb4, ((he1.trans he2).trans he3).of_but hk4 (fun q e => by subst e; have := HX1.out; have := HX2.out; omega), (by have := HX1.out; have := HX2.out; omega), (by have := HX1.out; have := HX2.out; omega), (by have := HX1.out; have := HX2.out; omega), (by have := HX1.out; omega)⟩; clear c0 d0 z0 hb1 hb2 hb3 hb4 he1 he2 he3 hk4; have f0 := cv0 HU.out.b1; clear HX1 HX2; generalize w.heap.size = g1 at *; generalize w1.heap.size = g2 at *; generalize w2.heap.size = g3 at *))
  refine wp_region_facts (fun t => bif Nat.ble 17 t && Nat.ble t 27 then some (t - 17) else bif Nat.beq t 28 then some 12 else bif Nat.beq t 29 then some 14 else bif Nat.beq t 30 then some 16 else bif Nat.beq t 31 then some 18 else none) 94 (PutD g3 38 (CV { ck0 1 with kind := 1, tag := c.tag, win := c.win, out := c.out, inn := c.inn, tsn := c.tsn } sv0))
   [Is (.pointer (some ⟨g1, 8, none⟩)), Is (.int .u32 (c.tag : Int)), Is (.pointer (some ⟨g1, 9, none⟩)), Is (.int .i64 c.win), Is (.pointer (some ⟨g1, 10, none⟩)), Is (.int .i64 c.out), Is (.pointer (some ⟨g1, 11, none⟩)), Is (.int .i64 c.inn), Is (.pointer (some ⟨g1, 12, none⟩)), Is (.int .u32 (c.tsn : Int)), Is (.pointer (some ⟨g3, 8, none⟩)), DoneAt g3 38 (CV { ck0 1 with kind := 1, tag := c.tag, win := c.win, out := c.out, inn := c.inn, tsn := c.tsn } sv0) 8, Is (.pointer (some ⟨g3, 9, none⟩)), DoneAt g3 38 (CV { ck0 1 with kind := 1, tag := c.tag, win := c.win, out := c.out, inn := c.inn, tsn := c.tsn } sv0) 9, Is (.pointer (some ⟨g3, 10, none⟩)), DoneAt g3 38 (CV { ck0 1 with kind := 1, tag := c.tag, win := c.win, out := c.out, inn := c.inn, tsn := c.tsn } sv0) 10, Is (.pointer (some ⟨g3, 11, none⟩)), DoneAt g3 38 (CV { ck0 1 with kind := 1, tag := c.tag, win := c.win, out := c.out, inn := c.inn, tsn := c.tsn } sv0) 11, Is (.pointer (some ⟨g3, 12, none⟩)), DoneAt g3 38 (CV { ck0 1 with kind := 1, tag := c.tag, win := c.win, out := c.out, inn := c.inn, tsn := c.tsn } sv0) 12]
   rfl (by kernel_rfl) (by kernel_rfl) rfl PutD.refl (fun _ _ _ => PutD.trans) ?_ ?_ ?_
  ·
   exact Ks (Ks (Ks (Ks (Ks (Ks (Ks (Ks (Ks (Ks (Ks (KeepAll.cons (fun _ _ _ h k => PutD.done k h) (Ks (KeepAll.cons (fun _ _ _ h k => PutD.done k h) (Ks (KeepAll.cons (fun _ _ _ h k => PutD.done k h) (Ks (KeepAll.cons (fun _ _ _ h k => PutD.done k h) (Ks (KeepAll.cons (fun _ _ _ h k => PutD.done k h) (KeepAll.nil))))))))))))))))))))
  ·
   refine Gc (lr1 PutD.refl rfl rfl rfl iB (fun r wx hR h1 => by simp [execOp, h1, go_sem])) ?_
   refine Gc (lr1 PutD.refl rfl rfl rfl iB (fun r wx hR h1 => exg one22 rfl h1 (cv8 (hR.other HU.out.b1 HU.out.n13)))) ?_
   refine Gc (lr1 PutD.refl rfl rfl rfl iB (fun r wx hR h1 => by simp [execOp, h1, go_sem])) ?_
   refine Gc (lr1 PutD.refl rfl rfl rfl iB (fun r wx hR h1 => exg one3 rfl h1 (cv9 (hR.other HU.out.b1 HU.out.n13)))) ?_
   refine Gc (lr1 PutD.refl rfl rfl rfl iB (fun r wx hR h1 => by simp [execOp, h1, go_sem])) ?_
   refine Gc (lr1 PutD.refl rfl rfl rfl iB (fun r wx hR h1 => exg one3 rfl h1 (cv10 (hR.other HU.out.b1 HU.out.n13)))) ?_
   refine Gc (lr1 PutD.refl rfl rfl rfl iB (fun r wx hR h1 => by simp [execOp, h1, go_sem])) ?_
   refine Gc (lr1 PutD.refl rfl rfl rfl iB (fun r wx hR h1 => exg one3 rfl h1 (cv11 (hR.other HU.out.b1 HU.out.n13)))) ?_
   refine Gc (lr1 PutD.refl rfl rfl rfl iB (fun r wx hR h1 => by simp [execOp, h1, go_sem])) ?_
   refine Gc (lr1 PutD.refl rfl rfl rfl iB (fun r wx hR h1 => exg one22 rfl h1 (cv12 (hR.other HU.out.b1 HU.out.n13)))) ?_
   refine Gc (lr1 PutD.refl rfl rfl rfl iB (fun r wx hR h1 => by simp [execOp, h1, go_sem])) ?_
   refine Gc ?_ ?_
   ·
    rintro r wx hR ⟨h1, h2, _⟩
    replace h1 : r (.tmp 27) = .pointer (some ⟨g3, 8, none⟩) := h1
    replace h2 : r (.tmp 18) = .int .u32 (c.tag : Int) := h2
    obtain ⟨C1, hb1, hs1, _⟩ := hR.it _ HU.out.b3
    exact give_skip (exec_set one22 rfl h1 h2 rfl rfl hb1 (by rw [hs1]; exact of_decide_eq_true rfl)) (doneAt_set hb1 (by rw [hs1]; exact of_decide_eq_true rfl) (x := undef) rfl)
   refine Gc (lr1 PutD.refl rfl rfl rfl iB (fun r wx hR h1 => by simp [execOp, h1, go_sem])) ?_
   refine Gc ?_ ?_
   ·
    rintro r wx hR ⟨h1, h2, _⟩
    replace h1 : r (.tmp 28) = .pointer (some ⟨g3, 9, none⟩) := h1
    replace h2 : r (.tmp 20) = .int .i64 c.win := h2
    obtain ⟨C1, hb1, hs1, _⟩ := hR.it _ HU.out.b3
    exact give_skip (exec_set one3 rfl h1 h2 rfl rfl hb1 (by rw [hs1]; exact of_decide_eq_true rfl)) (doneAt_set hb1 (by rw [hs1]; exact of_decide_eq_true rfl) (x := undef) rfl)
   refine Gc (lr1 PutD.refl rfl rfl rfl iB (fun r wx hR h1 => by simp [execOp, h1, go_sem])) ?_
   refine Gc ?_ ?_
   ·
    rintro r wx hR ⟨h1, h2, _⟩
    replace h1 : r (.tmp 29) = .pointer (some ⟨g3, 10, none⟩) := h1
    replace h2 : r (.tmp 22) = .int .i64 c.out := h2
    obtain ⟨C1, hb1, hs1, _⟩ := hR.it _ HU.out.b3
    exact give_skip (exec_set one3 rfl h1 h2 rfl rfl hb1 (by rw [hs1]; exact of_decide_eq_true rfl)) (doneAt_set hb1 (by rw [hs1]; exact of_decide_eq_true rfl) (x := undef) rfl)
   refine Gc (lr1 PutD.refl rfl rfl rfl iB (fun r wx hR h1 => by simp [execOp, h1, go_sem])) ?_
   refine Gc ?_ ?_
   ·
    rintro r wx hR ⟨h1, h2, _⟩
    replace h1 : r (.tmp 30) = .pointer (some ⟨g3, 11, none⟩) := h1
    replace h2 : r (.tmp 24) = .int .i64 c.inn := h2
    obtain ⟨C1, hb1, hs1, _⟩ := hR.it _ HU.out.b3
    exact give_skip (exec_set one3 rfl h1 h2 rfl rfl hb1 (by rw [hs1]; exact of_decide_eq_true rfl)) (doneAt_set hb1 (by rw [hs1]; exact of_decide_eq_true rfl) (x := undef) rfl)
   refine Gc (lr1 PutD.refl rfl rfl rfl iB (fun r wx hR h1 => by simp [execOp, h1, go_sem])) ?_
   refine Gc ?_ ?_
   ·
    rintro r wx hR ⟨h1, h2, _⟩
    replace h1 : r (.tmp 31) = .pointer (some ⟨g3, 12, none⟩) := h1
    replace h2 : r (.tmp 26) = .int .u32 (c.tsn : Int) := h2
    obtain ⟨C1, hb1, hs1, _⟩ := hR.it _ HU.out.b3
    exact give_skip (exec_set one22 rfl h1 h2 rfl rfl hb1 (by rw [hs1]; exact of_decide_eq_true rfl)) (doneAt_set hb1 (by rw [hs1]; exact of_decide_eq_true rfl) (x := undef) rfl)
   exact GoodAll.nil
  ·
   intro vs w14 a7 hR hold ha7
   have hv0 : vs 0 = (.pointer (some ⟨g1, 8, none⟩)) := hold.at 0
   have hv1 : vs 1 = (.int .u32 (c.tag : Int)) := hold.at 1
   have hv2 : vs 2 = (.pointer (some ⟨g1, 9, none⟩)) := hold.at 2
   have hv3 : vs 3 = (.int .i64 c.win) := hold.at 3
   have hv4 : vs 4 = (.pointer (some ⟨g1, 10, none⟩)) := hold.at 4
   have hv5 : vs 5 = (.int .i64 c.out) := hold.at 5
   have hv6 : vs 6 = (.pointer (some ⟨g1, 11, none⟩)) := hold.at 6
   have hv7 : vs 7 = (.int .i64 c.inn) := hold.at 7
   have hv8 : vs 8 = (.pointer (some ⟨g1, 12, none⟩)) := hold.at 8
   have hv9 : vs 9 = (.int .u32 (c.tsn : Int)) := hold.at 9
   have hv10 : vs 10 = (.pointer (some ⟨g3, 8, none⟩)) := hold.at 10
   have hv12 : vs 12 = (.pointer (some ⟨g3, 9, none⟩)) := hold.at 12
   have hv14 : vs 14 = (.pointer (some ⟨g3, 10, none⟩)) := hold.at 14
   have hv16 : vs 16 = (.pointer (some ⟨g3, 11, none⟩)) := hold.at 16
   have hv18 : vs 18 = (.pointer (some ⟨g3, 12, none⟩)) := hold.at 18
   have hbw14 := hR.fin HU.out.b3 rfl (fun j hj => by
    match j with
    | 0 => exact .inr rfl
    | 1 => exact .inr rfl
    | 2 => exact .inr rfl
    | 3 => exact .inr rfl
    | 4 => exact .inr rfl
    | 5 => exact .inr rfl
    | 6 => exact .inr rfl
    | 7 => exact .inr rfl
    | 8 => exact .inl (hold.at 11)
    | 9 => exact .inl (hold.at 13)
    | 10 => exact .inl (hold.at 15)
    | 11 => exact .inl (hold.at 17)
    | 12 => exact .inl (hold.at 19)
    | 13 => exact .inr rfl
    | 14 => exact .inr rfl
    | 15 => exact .inr rfl
    | 16 => exact .inr rfl
    | 17 => exact .inr rfl
    | 18 => exact .inr rfl
    | 19 => exact .inr rfl
    | 20 => exact .inr rfl
    | 21 => exact .inr rfl
    | j + 22 => exact absurd hj (by rw [CV.size]; omega))
   replace HU : Hid (UsedAt w w14 g1 g2 g3 c s (CV { ck0 1 with kind := 1, tag := c.tag, win := c.win, out := c.out, inn := c.inn, tsn := c.tsn } sv0)) := (HU.out.drew).next hbw14.1 hbw14.2
   simp only [putAll, Act.put, hv0, hv1, hv2, hv3, hv4, hv5, hv6, hv7, hv8, hv9, hv10, hv12, hv14, hv16, hv18, List.setIfInBounds_toArray, List.set_cons_succ, List.set_cons_zero] at ha7
   subst ha7
   clear hold hR hbw14 hv0 hv1 hv2 hv3 hv4 hv5 hv6 hv7 hv8 hv9 hv10 hv12 hv14 hv16 hv18
   have f0 := cv0 HU.out.b1
   go_wp2_with (first
    | (refine wl_load rfl rowC rfl rfl HU.out.b3 rfl ?_)
    | (refine wl_store (D := CV { ck0 1 with kind := 1, tag := c.tag, win := c.win, out := c.out, inn := c.inn, tsn := c.tsn, rand := c.rand, addrs := c.addrs } { sv0 with rA := s.rA, rN := s.rN, rC := s.rC, aA := s.aA, aN := s.aN, aC := s.aC }) rfl rowC rfl rfl rfl HU.out.b2 rfl rfl (CV.one _ _) ?_; intro w9 hb9 hk9 hx9; clear hx9))
   refine wp_region_facts (fun t => bif Nat.ble 32 t && Nat.ble t 36 then some (t - 32) else bif Nat.beq t 37 then some 6 else none) 94 (PutD g3 38 (CV { ck0 1 with kind := 1, tag := c.tag, win := c.win, out := c.out, inn := c.inn, tsn := c.tsn, rand := c.rand, addrs := c.addrs } { sv0 with rA := s.rA, rN := s.rN, rC := s.rC, aA := s.aA, aN := s.aN, aC := s.aC }))
    [Is (.pointer (some ⟨g1, 13, none⟩)), Is (.slice s.rA s.rN s.rC), Is (.pointer (some ⟨g1, 14, none⟩)), Is (.slice s.aA s.aN s.aC), Is (.pointer (some ⟨g3, 13, none⟩)), DoneAt g3 38 (CV { ck0 1 with kind := 1, tag := c.tag, win := c.win, out := c.out, inn := c.inn, tsn := c.tsn, rand := c.rand, addrs := c.addrs } { sv0 with rA := s.rA, rN := s.rN, rC := s.rC, aA := s.aA, aN := s.aN, aC := s.aC }) 13, Is (.pointer (some ⟨g3, 14, none⟩)), DoneAt g3 38 (CV { ck0 1 with kind := 1, tag := c.tag, win := c.win, out := c.out, inn := c.inn, tsn := c.tsn, rand := c.rand, addrs := c.addrs } { sv0 with rA := s.rA, rN := s.rN, rC := s.rC, aA := s.aA, aN := s.aN, aC := s.aC }) 14]
    rfl (by kernel_rfl) (by kernel_rfl) rfl PutD.refl (fun _ _ _ => PutD.trans) ?_ ?_ ?_
   ·
    exact Ks (Ks (Ks (Ks (Ks (KeepAll.cons (fun _ _ _ h k => PutD.done k h) (Ks (KeepAll.cons (fun _ _ _ h k => PutD.done k h) (KeepAll.nil))))))))
   ·
    refine Gc (lr1 PutD.refl rfl rfl rfl iB (fun r wx hR h1 => by simp [execOp, h1, go_sem])) ?_
    refine Gc (lr1 PutD.refl rfl rfl rfl iB (fun r wx hR h1 => exg oneS rfl h1 (cv13 (hR.other HU.out.b1 HU.out.n13)))) ?_
    refine Gc (lr1 PutD.refl rfl rfl rfl iB (fun r wx hR h1 => by simp [execOp, h1, go_sem])) ?_
    refine Gc (lr1 PutD.refl rfl rfl rfl iB (fun r wx hR h1 => exg oneSA rfl h1 (cv14 (hR.other HU.out.b1 HU.out.n13)))) ?_
    refine Gc (lr1 PutD.refl rfl rfl rfl iB (fun r wx hR h1 => by simp [execOp, h1, go_sem])) ?_
    refine Gc ?_ ?_
    ·
     rintro r wx hR ⟨h1, h2, _⟩
     replace h1 : r (.tmp 36) = .pointer (some ⟨g3, 13, none⟩) := h1
     replace h2 : r (.tmp 33) = .slice s.rA s.rN s.rC := h2
     obtain ⟨C1, hb1, hs1, _⟩ := hR.it _ HU.out.b3
     exact give_skip (exec_set oneS rfl h1 h2 rfl rfl hb1 (by rw [hs1]; exact of_decide_eq_true rfl)) (doneAt_set hb1 (by rw [hs1]; exact of_decide_eq_true rfl) (x := undef) rfl)
    refine Gc (lr1 PutD.refl rfl rfl rfl iB (fun r wx hR h1 => by simp [execOp, h1, go_sem])) ?_
    refine Gc ?_ ?_
    ·
     rintro r wx hR ⟨h1, h2, _⟩
     replace h1 : r (.tmp 37) = .pointer (some ⟨g3, 14, none⟩) := h1
     replace h2 : r (.tmp 35) = .slice s.aA s.aN s.aC := h2
     obtain ⟨C1, hb1, hs1, _⟩ := hR.it _ HU.out.b3
     exact give_skip (exec_set oneSA rfl h1 h2 rfl rfl hb1 (by rw [hs1]; exact of_decide_eq_true rfl)) (doneAt_set hb1 (by rw [hs1]; exact of_decide_eq_true rfl) (x := undef) rfl)
    exact GoodAll.nil
   ·
    intro vs w15 a7 hR hold ha7
    have hv0 : vs 0 = (.pointer (some ⟨g1, 13, none⟩)) := hold.at 0
    have hv1 : vs 1 = (.slice s.rA s.rN s.rC) := hold.at 1
    have hv2 : vs 2 = (.pointer (some ⟨g1, 14, none⟩)) := hold.at 2
    have hv3 : vs 3 = (.slice s.aA s.aN s.aC) := hold.at 3
    have hv4 : vs 4 = (.pointer (some ⟨g3, 13, none⟩)) := hold.at 4
    have hv6 : vs 6 = (.pointer (some ⟨g3, 14, none⟩)) := hold.at 6
    have hbw15 := hR.fin HU.out.b3 rfl (fun j hj => by
     match j with
     | 0 => exact .inr rfl
     | 1 => exact .inr rfl
     | 2 => exact .inr rfl
     | 3 => exact .inr rfl
     | 4 => exact .inr rfl
     | 5 => exact .inr rfl
     | 6 => exact .inr rfl
     | 7 => exact .inr rfl
     | 8 => exact .inr rfl
     | 9 => exact .inr rfl
     | 10 => exact .inr rfl
     | 11 => exact .inr rfl
     | 12 => exact .inr rfl
     | 13 => exact .inl (hold.at 5)
     | 14 => exact .inl (hold.at 7)
     | 15 => exact .inr rfl
     | 16 => exact .inr rfl
     | 17 => exact .inr rfl
     | 18 => exact .inr rfl
     | 19 => exact .inr rfl
     | 20 => exact .inr rfl
     | 21 => exact .inr rfl
     | j + 22 => exact absurd hj (by rw [CV.size]; omega))
    replace HU : Hid (UsedAt w w15 g1 g2 g3 c s (CV { ck0 1 with kind := 1, tag := c.tag, win := c.win, out := c.out, inn := c.inn, tsn := c.tsn, rand := c.rand, addrs := c.addrs } { sv0 with rA := s.rA, rN := s.rN, rC := s.rC, aA := s.aA, aN := s.aN, aC := s.aC })) := (HU.out.drew).next hbw15.1 hbw15.2
    simp only [putAll, Act.put, hv0, hv1, hv2, hv3, hv4, hv6, List.setIfInBounds_toArray, List.set_cons_succ, List.set_cons_zero] at ha7
    subst ha7
    clear hold hR hbw15 hv0 hv1 hv2 hv3 hv4 hv6
    have f0 := cv0 HU.out.b1
    go_wp2_with (first
     | (refine wl_load rfl rowC rfl rfl HU.out.b3 rfl ?_)
     | (refine wl_store (D := CV { ck0 1 with kind := 1, tag := c.tag, win := c.win, out := c.out, inn := c.inn, tsn := c.tsn, rand := c.rand, addrs := c.addrs } { sv0 with rA := s.rA, rN := s.rN, rC := s.rC, aA := s.aA, aN := s.aN, aC := s.aC }) rfl rowC rfl rfl rfl HU.out.b2 rfl rfl (CV.one _ _) ?_; intro w9 hb9 hk9 hx9; clear hx9))
    refine bodyPost_ret (results_cell_row (fn := Try.f35) (p := 2) rfl _ w9 _ _ _ (0, 0) _ rfl hb9 Try.underlying38 rfl (by kernel_rfl)) rfl ?_
    exact ⟨rfl, HU.out.ext.of_but hk9 (fun q e => by subst e; exact HU.out.lo)⟩
theorem used_2 {w : World} {c : Ck} {s : Sv} (hk : c.kind = 2) :
  Calls Try.prog 35 #[.agg (CV c s)] w fun e w' => e = .returned (.agg (CV (usedC c) (usedS c s))) ∧ Ext w w' := by
  have HE : Hid (usedC c = { ck0 2 with kind := 2, tag := c.tag, win := c.win, out := c.out, inn := c.inn, tsn := c.tsn, rand := c.rand, addrs := c.addrs, info := c.info } ∧ usedS c s = { sv0 with rA := s.rA, rN := s.rN, rC := s.rC, aA := s.aA, aN := s.aN, aC := s.aC, iA := s.iA, iN := s.iN, iC := s.iC }) := ⟨by simp [usedC, hk], by simp [usedS, hk]⟩
  rw [HE.out.1, HE.out.2]
  go_enter Try.func35, Try.ntmps35
  go_wp2_with (first
   | (refine wl_box (C := CV c s) rfl rfl rfl ?_; intro w1 hb1 he1 hx1; have HX1 : Hid (w1.heap.size = w.heap.size + 1) := hx1; clear hx1; have c0 := cv0 hb1)
   | (have q := he2; clear q; refine wl_alloc rfl rfl zeroC ?_; intro w3 hb3 he3 hx3; clear hx3; have d0 := cv0 ((hb1.ext he2).ext he3))
   | (refine wl_alloc rfl rfl zeroC ?_; intro w2 hb2 he2 hx2; have HX2 : Hid (w2.heap.size = w1.heap.size + 1) := hx2; clear hx2; have z0 := cv0 (hb1.ext he2))
   | (refine wl_load rfl rowC rfl rfl HU.out.b3 rfl ?_)
   | (refine wl_store (D := CV { ck0 2 with kind := 2, tag := c.tag, win := c.win, out := c.out, inn := c.inn, tsn := c.tsn, rand := c.rand, addrs := c.addrs, info := c.info } { sv0 with rA := s.rA, rN := s.rN, rC := s.rC, aA := s.aA, aN := s.aN, aC := s.aC, iA := s.iA, iN := s.iN, iC := s.iC }) rfl rowC rfl rfl rfl HU.out.b2 rfl rfl (CV.one _ _) ?_; intro w9 hb9 hk9 hx9; clear hx9)
   | (refine wl_store (D := CV (ck0 2) sv0) rfl rowC rfl rfl rfl hb3 rfl rfl (CV.one _ _) ?_; intro w4 hb4 hk4 hx4; clear hx4; have HU : Hid (UsedAt w w4 w.heap.size w1.heap.size w2.heap.size c s (CV (ck0 2) sv0)) := ⟨(((hb1.ext he2).ext he3).but hk4 (show ¬ _ = _ by have := HX1.out; have := HX2.out; omega)), ((hb2.ext he3).but hk4 (show ¬ _ = _ by have := HX1.out; have := HX2.out; omega)), hb4, ((he1.trans he2).trans he3).of_but hk4 (fun q e => by subst e; have := HX1.out; have := HX2.out; omega), (by have := HX1.out; have := HX2.out; omega), (by have := HX1.out; have := HX2.out; omega), (by have := HX1.out; have := HX2.out; omega), (by have := HX1.out; omega)⟩; clear c0 d0 z0 hb1 hb2 hb3 hb4 he1 he2 he3 hk4; have f0 := cv0 HU.out.b1; clear HX1 HX2; generalize w.heap.size = g1 at *; generalize w1.heap.size = g2 at *; generalize w2.heap.size = g3 at *))
  refine wp_region_facts (fun t => bif Nat.ble 17 t && Nat.ble t 27 then some (t - 17) else bif Nat.beq t 28 then some 12 else bif Nat.beq t 29 then some 14 else bif Nat.beq t 30 then some 16 else bif Nat.beq t 31 then some 18 else none) 94 (PutD g3 38 (CV { ck0 2 with kind := 2, tag := c.tag, win := c.win, out := c.out, inn := c.inn, tsn := c.tsn } sv0))
   [Is (.pointer (some ⟨g1, 8, none⟩)), Is (.int .u32 (c.tag : Int)), Is (.pointer (some ⟨g1, 9, none⟩)), Is (.int .i64 c.win), Is (.pointer (some ⟨g1, 10, none⟩)), Is (.int .i64 c.out), Is (.pointer (some ⟨g1, 11, none⟩)), Is (.int .i64 c.inn), Is (.pointer (some ⟨g1, 12, none⟩)), Is (.int .u32 (c.tsn : Int)), Is (.pointer (some ⟨g3, 8, none⟩)), DoneAt g3 38 (CV { ck0 2 with kind := 2, tag := c.tag, win := c.win, out := c.out, inn := c.inn, tsn := c.tsn } sv0) 8, Is (.pointer (some ⟨g3, 9, none⟩)), DoneAt g3 38 (CV { ck0 2 with kind := 2, tag := c.tag, win := c.win, out := c.out, inn := c.inn, tsn := c.tsn } sv0) 9, Is (.pointer (some ⟨g3, 10, none⟩)), DoneAt g3 38 (CV { ck0 2 with kind := 2, tag := c.tag, win := c.win, out := c.out, inn := c.inn, tsn := c.tsn } sv0) 10, Is (.pointer (some ⟨g3, 11, none⟩)), DoneAt g3 38 (CV { ck0 2 with kind := 2, tag := c.tag, win := c.win, out := c.out, inn := c.inn, tsn := c.tsn } sv0) 11, Is (.pointer (some ⟨g3, 12, none⟩)), DoneAt g3 38 (CV { ck0 2 with kind := 2, tag := c.tag, win := c.win, out := c.out, inn := c.inn, tsn := c.tsn } sv0) 12]
   rfl (by kernel_rfl) (by kernel_rfl) rfl PutD.refl (fun _ _ _ => PutD.trans) ?_ ?_ ?_
  ·
   exact Ks (Ks (Ks (Ks (Ks (Ks (Ks (Ks (Ks (Ks (Ks (KeepAll.cons (fun _ _ _ h k => PutD.done k h) (Ks (KeepAll.cons (fun _ _ _ h k => PutD.done k h) (Ks (KeepAll.cons (fun _ _ _ h k => PutD.done k h) (Ks (KeepAll.cons (fun _ _ _ h k => PutD.done k h) (Ks (KeepAll.cons (fun _ _ _ h k => PutD.done k h) (KeepAll.nil))))))))))))))))))))
  ·
   refine Gc (lr1 PutD.refl rfl rfl rfl iB (fun r wx hR h1 => by simp [execOp, h1, go_sem])) ?_
   refine Gc (lr1 PutD.refl rfl rfl rfl iB (fun r wx hR h1 => exg one22 rfl h1 (cv8 (hR.other HU.out.b1 HU.out.n13)))) ?_
   refine Gc (lr1 PutD.refl rfl rfl rfl iB (fun r wx hR h1 => by simp [execOp, h1, go_sem])) ?_
   refine Gc (lr1 PutD.refl rfl rfl rfl iB (fun r wx hR h1 => exg one3 rfl h1 (cv9 (hR.other HU.out.b1 HU.out.n13)))) ?_
   refine Gc (lr1 PutD.refl rfl rfl rfl iB (fun r wx hR h1 => by simp [execOp, h1, go_sem])) ?_
   refine Gc (lr1 PutD.refl rfl rfl rfl iB (fun r wx hR h1 => exg one3 rfl h1 (cv10 (hR.other HU.out.b1 HU.out.n13)))) ?_
   refine Gc (lr1 PutD.refl rfl rfl rfl iB (fun r wx hR h1 => by simp [execOp, h1, go_sem])) ?_
   refine Gc (lr1 PutD.refl rfl rfl rfl iB (fun r wx hR h1 => exg one3 rfl h1 (cv11 (hR.other HU.out.b1 HU.out.n13)))) ?_
   refine Gc (lr1 PutD.refl rfl rfl rfl iB (fun r wx hR h1 => by simp [execOp, h1, go_sem])) ?_
   refine Gc (lr1 PutD.refl rfl rfl rfl iB (fun r wx hR h1 => exg one22 rfl h1 (cv12 (hR.other HU.out.b1 HU.out.n13)))) ?_
   refine Gc (lr1 PutD.refl rfl rfl rfl iB (fun r wx hR h1 => by simp [execOp, h1, go_sem])) ?_
   refine Gc ?_ ?_
   ·
    rintro r wx hR ⟨h1, h2, _⟩
    replace h1 : r (.tmp 27) = .pointer (some ⟨g3, 8, none⟩) := h1
    replace h2 : r (.tmp 18) = .int .u32 (c.tag : Int) := h2
    obtain ⟨C1, hb1, hs1, _⟩ := hR.it _ HU.out.b3
    exact give_skip (exec_set one22 rfl h1 h2 rfl rfl hb1 (by rw [hs1]; exact of_decide_eq_true rfl)) (doneAt_set hb1 (by rw [hs1]; exact of_decide_eq_true rfl) (x := undef) rfl)
   refine Gc (lr1 PutD.refl rfl rfl rfl iB (fun r wx hR h1 => by simp [execOp, h1, go_sem])) ?_
   refine Gc ?_ ?_
   ·
    rintro r wx hR ⟨h1, h2, _⟩
    replace h1 : r (.tmp 28) = .pointer (some ⟨g3, 9, none⟩) := h1
    replace h2 : r (.tmp 20) = .int .i64 c.win := h2
    obtain ⟨C1, hb1, hs1, _⟩ := hR.it _ HU.out.b3
    exact give_skip (exec_set one3 rfl h1 h2 rfl rfl hb1 (by rw [hs1]; exact of_decide_eq_true rfl)) (doneAt_set hb1 (by rw [hs1]; exact of_decide_eq_true rfl) (x := undef) rfl)
   refine Gc (lr1 PutD.refl rfl rfl rfl iB (fun r wx hR h1 => by simp [execOp, h1, go_sem])) ?_
   refine Gc ?_ ?_
   ·
    rintro r wx hR ⟨h1, h2, _⟩
    replace h1 : r (.tmp 29) = .pointer (some ⟨g3, 10, none⟩) := h1
    replace h2 : r (.tmp 22) = .int .i64 c.out := h2
    obtain ⟨C1, hb1, hs1, _⟩ := hR.it _ HU.out.b3
    exact give_skip (exec_set one3 rfl h1 h2 rfl rfl hb1 (by rw [hs1]; exact of_decide_eq_true rfl)) (doneAt_set hb1 (by rw [hs1]; exact of_decide_eq_true rfl) (x := undef) rfl)
   refine Gc (lr1 PutD.refl rfl rfl rfl iB (fun r wx hR h1 => by simp [execOp, h1, go_sem])) ?_
   refine Gc ?_ ?_
   ·
    rintro r wx hR ⟨h1, h2, _⟩
    replace h1 : r (.tmp 30) = .pointer (some ⟨g3, 11, none⟩) := h1
    replace h2 : r (.tmp 24) = .int .i64 c.inn := h2
    obtain ⟨C1, hb1, hs1, _⟩ := hR.it _ HU.out.b3
    exact give_skip (exec_set one3 rfl h1 h2 rfl rfl hb1 (by rw [hs1]; exact of_decide_eq_true rfl)) (doneAt_set hb1 (by rw [hs1]; exact of_decide_eq_true rfl) (x := undef) rfl)
   refine Gc (lr1 PutD.refl rfl rfl rfl iB (fun r wx hR h1 => by simp [execOp, h1, go_sem])) ?_
   refine Gc ?_ ?_
   ·
    rintro r wx hR ⟨h1, h2, _⟩
    replace h1 : r (.tmp 31) = .pointer (some ⟨g3, 12, none⟩) := h1
    replace h2 : r (.tmp 26) = .int .u32 (c.tsn : Int) := h2
    obtain ⟨C1, hb1, hs1, _⟩ := hR.it _ HU.out.b3
    exact give_skip (exec_set one22 rfl h1 h2 rfl rfl hb1 (by rw [hs1]; exact of_decide_eq_true rfl)) (doneAt_set hb1 (by rw [hs1]; exact of_decide_eq_true rfl) (x := undef) rfl)
   exact GoodAll.nil
  ·
   intro vs w14 a7 hR hold ha7
   have hv0 : vs 0 = (.pointer (some ⟨g1, 8, none⟩)) := hold.at 0
   have hv1 : vs 1 = (.int .u32 (c.tag : Int)) := hold.at 1
   have hv2 : vs 2 = (.pointer (some ⟨g1, 9, none⟩)) := hold.at 2
   have hv3 : vs 3 = (.int .i64 c.win) := hold.at 3
   have hv4 : vs 4 = (.pointer (some ⟨g1, 10, none⟩)) := hold.at 4
   have hv5 : vs 5 = (.int .i64 c.out) := hold.at 5
   have hv6 : vs 6 = (.pointer (some ⟨g1, 11, none⟩)) := hold.at 6
   have hv7 : vs 7 = (.int .i64 c.inn) := hold.at 7
   have hv8 : vs 8 = (.pointer (some ⟨g1, 12, none⟩)) := hold.at 8
   have hv9 : vs 9 = (.int .u32 (c.tsn : Int)) := hold.at 9
   have hv10 : vs 10 = (.pointer (some ⟨g3, 8, none⟩)) := hold.at 10
   have hv12 : vs 12 = (.pointer (some ⟨g3, 9, none⟩)) := hold.at 12
   have hv14 : vs 14 = (.pointer (some ⟨g3, 10, none⟩)) := hold.at 14
   have hv16 : vs 16 = (.pointer (some ⟨g3, 11, none⟩)) := hold.at 16
   have hv18 : vs 18 = (.pointer (some ⟨g3, 12, none⟩)) := hold.at 18
   have hbw14 := hR.fin HU.out.b3 rfl (fun j hj => by
    match j with
    | 0 => exact .inr rfl
    | 1 => exact .inr rfl
    | 2 => exact .inr rfl
    | 3 => exact .inr rfl
    | 4 => exact .inr rfl
    | 5 => exact .inr rfl
    | 6 => exact .inr rfl
    | 7 => exact .inr rfl
    | 8 => exact .inl (hold.at 11)
    | 9 => exact .inl (hold.at 13)
    | 10 => exact .inl (hold.at 15)
    | 11 => exact .inl (hold.at 17)
    | 12 => exact .inl (hold.at 19)
    | 13 => exact .inr rfl
    | 14 => exact .inr rfl
    | 15 => exact .inr rfl
    | 16 => exact .inr rfl
    | 17 => exact .inr rfl
    | 18 => exact .inr rfl
    | 19 => exact .inr rfl
    | 20 => exact .inr rfl
    | 21 => exact .inr rfl
    | j + 22 => exact absurd hj (by rw [CV.size]; omega))
   replace HU : Hid (UsedAt w w14 g1 g2 g3 c s (CV { ck0 2 with kind := 2, tag := c.tag, win := c.win, out := c.out, inn := c.inn, tsn := c.tsn } sv0)) := (HU.out.drew).next hbw14.1 hbw14.2
   simp only [putAll, Act.put, hv0, hv1, hv2, hv3, hv4, hv5, hv6, hv7, hv8, hv9, hv10, hv12, hv14, hv16, hv18, List.setIfInBounds_toArray, List.set_cons_succ, List.set_cons_zero] at ha7
   subst ha7
   clear hold hR hbw14 hv0 hv1 hv2 hv3 hv4 hv5 hv6 hv7 hv8 hv9 hv10 hv12 hv14 hv16 hv18
   have f0 := cv0 HU.out.b1
   go_wp2_with (first
    | (refine wl_load rfl rowC rfl rfl HU.out.b3 rfl ?_)
    | (refine wl_store (D := CV { ck0 2 with kind := 2, tag := c.tag, win := c.win, out := c.out, inn := c.inn, tsn := c.tsn, rand := c.rand, addrs := c.addrs, info := c.info } { sv0 with rA := s.rA, rN := s.rN, rC := s.rC, aA := s.aA, aN := s.aN, aC := s.aC, iA := s.iA, iN := s.iN, iC := s.iC }) rfl rowC rfl rfl rfl HU.out.b2 rfl rfl (CV.one _ _) ?_; intro w9 hb9 hk9 hx9; clear hx9))
   refine wp_region_facts (fun t => bif Nat.ble 32 t && Nat.ble t 36 then some (t - 32) else bif Nat.beq t 37 then some 6 else none) 94 (PutD g3 38 (CV { ck0 2 with kind := 2, tag := c.tag, win := c.win, out := c.out, inn := c.inn, tsn := c.tsn, rand := c.rand, addrs := c.addrs } { sv0 with rA := s.rA, rN := s.rN, rC := s.rC, aA := s.aA, aN := s.aN, aC := s.aC }))
    [Is (.pointer (some ⟨g1, 13, none⟩)), Is (.slice s.rA s.rN s.rC), Is (.pointer (some ⟨g1, 14, none⟩)), Is (.slice s.aA s.aN s.aC), Is (.pointer (some ⟨g3, 13, none⟩)), DoneAt g3 38 (CV { ck0 2 with kind := 2, tag := c.tag, win := c.win, out := c.out, inn := c.inn, tsn := c.tsn, rand := c.rand, addrs := c.addrs } { sv0 with rA := s.rA, rN := s.rN, rC := s.rC, aA := s.aA, aN := s.aN, aC := s.aC }) 13, Is (.pointer (some ⟨g3, 14, none⟩)), DoneAt g3 38 (CV { ck0 2 with kind := 2, tag := c.tag, win := c.win, out := c.out, inn := c.inn, tsn := c.tsn, rand := c.rand, addrs := c.addrs } { sv0 with rA := s.rA, rN := s.rN, rC := s.rC, aA := s.aA, aN := s.aN, aC := s.aC }) 14]
    rfl (by kernel_rfl) (by kernel_rfl) rfl PutD.refl (fun _ _ _ => PutD.trans) ?_ ?_ ?_
   ·
    exact Ks (Ks (Ks (Ks (Ks (KeepAll.cons (fun _ _ _ h k => PutD.done k h) (Ks (KeepAll.cons (fun _ _ _ h k => PutD.done k h) (KeepAll.nil))))))))
   ·
    refine Gc (lr1 PutD.refl rfl rfl rfl iB (fun r wx hR h1 => by simp [execOp, h1, go_sem])) ?_
    refine Gc (lr1 PutD.refl rfl rfl rfl iB (fun r wx hR h1 => exg oneS rfl h1 (cv13 (hR.other HU.out.b1 HU.out.n13)))) ?_
    refine Gc (lr1 PutD.refl rfl rfl rfl iB (fun r wx hR h1 => by simp [execOp, h1, go_sem])) ?_
    refine Gc (lr1 PutD.refl rfl rfl rfl iB (fun r wx hR h1 => exg oneSA rfl h1 (cv14 (hR.other HU.out.b1 HU.out.n13)))) ?_
    refine Gc (lr1 PutD.refl rfl rfl rfl iB (fun r wx hR h1 => by simp [execOp, h1, go_sem])) ?_
    refine Gc ?_ ?_
    ·
     rintro r wx hR ⟨h1, h2, _⟩
     replace h1 : r (.tmp 36) = .pointer (some ⟨g3, 13, none⟩) := h1
     replace h2 : r (.tmp 33) = .slice s.rA s.rN s.rC := h2
     obtain ⟨C1, hb1, hs1, _⟩ := hR.it _ HU.out.b3
     exact give_skip (exec_set oneS rfl h1 h2 rfl rfl hb1 (by rw [hs1]; exact of_decide_eq_true rfl)) (doneAt_set hb1 (by rw [hs1]; exact of_decide_eq_true rfl) (x := undef) rfl)
    refine Gc (lr1 PutD.refl rfl rfl rfl iB (fun r wx hR h1 => by simp [execOp, h1, go_sem])) ?_
    refine Gc ?_ ?_
    ·
     rintro r wx hR ⟨h1, h2, _⟩
     replace h1 : r (.tmp 37) = .pointer (some ⟨g3, 14, none⟩) := h1
     replace h2 : r (.tmp 35) = .slice s.aA s.aN s.aC := h2
     obtain ⟨C1, hb1, hs1, _⟩ := hR.it _ HU.out.b3
     exact give_skip (exec_set oneSA rfl h1 h2 rfl rfl hb1 (by rw [hs1]; exact of_decide_eq_true rfl)) (doneAt_set hb1 (by rw [hs1]; exact of_decide_eq_true rfl) (x := undef) rfl)
    exact GoodAll.nil
   ·
    intro vs w15 a7 hR hold ha7
    have hv0 : vs 0 = (.pointer (some ⟨g1, 13, none⟩)) := hold.at 0
    have hv1 : vs 1 = (.slice s.rA s.rN s.rC) := hold.at 1
    have hv2 : vs 2 = (.pointer (some ⟨g1, 14, none⟩)) := hold.at 2
    have hv3 : vs 3 = (.slice s.aA s.aN s.aC) := hold.at 3
    have hv4 : vs 4 = (.pointer (some ⟨g3, 13, none⟩)) := hold.at 4
    have hv6 : vs 6 = (.pointer (some ⟨g3, 14, none⟩)) := hold.at 6
    have hbw15 := hR.fin HU.out.b3 rfl (fun j hj => by
     match j with
     | 0 => exact .inr rfl
     | 1 => exact .inr rfl
     | 2 => exact .inr rfl
     | 3 => exact .inr rfl
     | 4 => exact .inr rfl
     | 5 => exact .inr rfl
     | 6 => exact .inr rfl
     | 7 => exact .inr rfl
     | 8 => exact .inr rfl
     | 9 => exact .inr rfl
     | 10 => exact .inr rfl
     | 11 => exact .inr rfl
     | 12 => exact .inr rfl
     | 13 => exact .inl (hold.at 5)
     | 14 => exact .inl (hold.at 7)
     | 15 => exact .inr rfl
     | 16 => exact .inr rfl
     | 17 => exact .inr rfl
     | 18 => exact .inr rfl
     | 19 => exact .inr rfl
     | 20 => exact .inr rfl
     | 21 => exact .inr rfl
     | j + 22 => exact absurd hj (by rw [CV.size]; omega))
    replace HU : Hid (UsedAt w w15 g1 g2 g3 c s (CV { ck0 2 with kind := 2, tag := c.tag, win := c.win, out := c.out, inn := c.inn, tsn := c.tsn, rand := c.rand, addrs := c.addrs } { sv0 with rA := s.rA, rN := s.rN, rC := s.rC, aA := s.aA, aN := s.aN, aC := s.aC })) := (HU.out.drew).next hbw15.1 hbw15.2
    simp only [putAll, Act.put, hv0, hv1, hv2, hv3, hv4, hv6, List.setIfInBounds_toArray, List.set_cons_succ, List.set_cons_zero] at ha7
    subst ha7
    clear hold hR hbw15 hv0 hv1 hv2 hv3 hv4 hv6
    have f0 := cv0 HU.out.b1
    have f1 := cv15 HU.out.b1
    go_wp2_with (first
     | (refine wl_load rfl rowC rfl rfl HU.out.b3 rfl ?_)
     | (refine wl_store (D := CV { ck0 2 with kind := 2, tag := c.tag, win := c.win, out := c.out, inn := c.inn, tsn := c.tsn, rand := c.rand, addrs := c.addrs, info := c.info } { sv0 with rA := s.rA, rN := s.rN, rC := s.rC, aA := s.aA, aN := s.aN, aC := s.aC, iA := s.iA, iN := s.iN, iC := s.iC }) rfl rowC rfl rfl rfl HU.out.b2 rfl rfl (CV.one _ _) ?_; intro w9 hb9 hk9 hx9; clear hx9)
     | (refine wl_set (v := .slice s.iA s.iN s.iC) rfl oneS rfl rfl rfl rfl rfl HU.out.b3 (of_decide_eq_true rfl) ?_; intro w7 hb7 hk7 hx7; clear hx7; replace HU : Hid (UsedAt w w7 g1 g2 g3 c s (CV { ck0 2 with kind := 2, tag := c.tag, win := c.win, out := c.out, inn := c.inn, tsn := c.tsn, rand := c.rand, addrs := c.addrs, info := c.info } { sv0 with rA := s.rA, rN := s.rN, rC := s.rC, aA := s.aA, aN := s.aN, aC := s.aC, iA := s.iA, iN := s.iN, iC := s.iC })) := HU.out.next hb7 hk7))
    refine bodyPost_ret (results_cell_row (fn := Try.f35) (p := 2) rfl _ w9 _ _ _ (0, 0) _ rfl hb9 Try.underlying38 rfl (by kernel_rfl)) rfl ?_
    exact ⟨rfl, HU.out.ext.of_but hk9 (fun q e => by subst e; exact HU.out.lo)⟩
theorem used_3 {w : World} {c : Ck} {s : Sv} (hk : c.kind = 3) :
  Calls Try.prog 35 #[.agg (CV c s)] w fun e w' => e = .returned (.agg (CV (usedC c) (usedS c s))) ∧ Ext w w' := by
  have HE : Hid (usedC c = { ck0 3 with kind := 3, tsn := c.tsn, win := c.win, gaps := c.gaps, dups := c.dups } ∧ usedS c s = { sv0 with gA := s.gA, gN := s.gN, gC := s.gC, dA := s.dA, dN := s.dN, dC := s.dC }) := ⟨by simp [usedC, hk], by simp [usedS, hk]⟩
  rw [HE.out.1, HE.out.2]
  go_enter Try.func35, Try.ntmps35
  go_wp2_with (first
   | (refine wl_box (C := CV c s) rfl rfl rfl ?_; intro w1 hb1 he1 hx1; have HX1 : Hid (w1.heap.size = w.heap.size + 1) := hx1; clear hx1; have c0 := cv0 hb1)
   | (have q := he2; clear q; refine wl_alloc rfl rfl zeroC ?_; intro w3 hb3 he3 hx3; clear hx3; have d0 := cv0 ((hb1.ext he2).ext he3))
   | (refine wl_alloc rfl rfl zeroC ?_; intro w2 hb2 he2 hx2; have HX2 : Hid (w2.heap.size = w1.heap.size + 1) := hx2; clear hx2; have z0 := cv0 (hb1.ext he2))
   | (refine wl_load rfl rowC rfl rfl HU.out.b3 rfl ?_)
   | (refine wl_store (D := CV { ck0 3 with kind := 3, tsn := c.tsn, win := c.win, gaps := c.gaps, dups := c.dups } { sv0 with gA := s.gA, gN := s.gN, gC := s.gC, dA := s.dA, dN := s.dN, dC := s.dC }) rfl rowC rfl rfl rfl HU.out.b2 rfl rfl (CV.one _ _) ?_; intro w9 hb9 hk9 hx9; clear hx9)
   | (refine wl_store (D := CV (ck0 3) sv0) rfl rowC rfl rfl rfl hb3 rfl rfl (CV.one _ _) ?_; intro w4 hb4 hk4 hx4; clear hx4; have HU : Hid (UsedAt w w4 w.heap.size w1.heap.size w2.heap.size c s (CV (ck0 3) sv0)) := ⟨(((hb1.ext he2).ext he3).but hk4 (show ¬ _ = _ by have := HX1.out; have := HX2.out; omega)), ((hb2.ext he3).but hk4 (show ¬ _ = _ by have := HX1.out; have := HX2.out; omega)), hb4, ((he1.trans he2).trans he3).of_but hk4 (fun q e => by subst e; have := HX1.out; have := HX2.out; omega), (by have := HX1.out; have := HX2.out; omega), (by have := HX1.out; have := HX2.out; omega), (by have := HX1.out; have := HX2.out; omega), (by have := HX1.out; omega)⟩; clear c0 d0 z0 hb1 hb2 hb3 hb4 he1 he2 he3 hk4; have f0 := cv0 HU.out.b1; clear HX1 HX2; generalize w.heap.size = g1 at *; generalize w1.heap.size = g2 at *; generalize w2.heap.size = g3 at *))
  refine wp_region_facts (fun t => bif Nat.ble 46 t && Nat.ble t 54 then some (t - 46) else bif Nat.beq t 55 then some 10 else bif Nat.beq t 56 then some 12 else bif Nat.beq t 57 then some 14 else none) 94 (PutD g3 38 (CV { ck0 3 with kind := 3, tsn := c.tsn, win := c.win, gaps := c.gaps, dups := c.dups } { sv0 with gA := s.gA, gN := s.gN, gC := s.gC, dA := s.dA, dN := s.dN, dC := s.dC }))
   [Is (.pointer (some ⟨g1, 12, none⟩)), Is (.int .u32 (c.tsn : Int)), Is (.pointer (some ⟨g1, 9, none⟩)), Is (.int .i64 c.win), Is (.pointer (some ⟨g1, 16, none⟩)), Is (.slice s.gA s.gN s.gC), Is (.pointer (some ⟨g1, 17, none⟩)), Is (.slice s.dA s.dN s.dC), Is (.pointer (some ⟨g3, 12, none⟩)), DoneAt g3 38 (CV { ck0 3 with kind := 3, tsn := c.tsn, win := c.win, gaps := c.gaps, dups := c.dups } { sv0 with gA := s.gA, gN := s.gN, gC := s.gC, dA := s.dA, dN := s.dN, dC := s.dC }) 12, Is (.pointer (some ⟨g3, 9, none⟩)), DoneAt g3 38 (CV { ck0 3 with kind := 3, tsn := c.tsn, win := c.win, gaps := c.gaps, dups := c.dups } { sv0 with gA := s.gA, gN := s.gN, gC := s.gC, dA := s.dA, dN := s.dN, dC := s.dC }) 9, Is (.pointer (some ⟨g3, 16, none⟩)), DoneAt g3 38 (CV { ck0 3 with kind := 3, tsn := c.tsn, win := c.win, gaps := c.gaps, dups := c.dups } { sv0 with gA := s.gA, gN := s.gN, gC := s.gC, dA := s.dA, dN := s.dN, dC := s.dC }) 16, Is (.pointer (some ⟨g3, 17, none⟩)), DoneAt g3 38 (CV { ck0 3 with kind := 3, tsn := c.tsn, win := c.win, gaps := c.gaps, dups := c.dups } { sv0 with gA := s.gA, gN := s.gN, gC := s.gC, dA := s.dA, dN := s.dN, dC := s.dC }) 17]
   rfl (by kernel_rfl) (by kernel_rfl) rfl PutD.refl (fun _ _ _ => PutD.trans) ?_ ?_ ?_
  ·
   exact Ks (Ks (Ks (Ks (Ks (Ks (Ks (Ks (Ks (KeepAll.cons (fun _ _ _ h k => PutD.done k h) (Ks (KeepAll.cons (fun _ _ _ h k => PutD.done k h) (Ks (KeepAll.cons (fun _ _ _ h k => PutD.done k h) (Ks (KeepAll.cons (fun _ _ _ h k => PutD.done k h) (KeepAll.nil))))))))))))))))
  ·
   refine Gc (lr1 PutD.refl rfl rfl rfl iB (fun r wx hR h1 => by simp [execOp, h1, go_sem])) ?_
   refine Gc (lr1 PutD.refl rfl rfl rfl iB (fun r wx hR h1 => exg one22 rfl h1 (cv12 (hR.other HU.out.b1 HU.out.n13)))) ?_
   refine Gc (lr1 PutD.refl rfl rfl rfl iB (fun r wx hR h1 => by simp [execOp, h1, go_sem])) ?_
   refine Gc (lr1 PutD.refl rfl rfl rfl iB (fun r wx hR h1 => exg one3 rfl h1 (cv9 (hR.other HU.out.b1 HU.out.n13)))) ?_
   refine Gc (lr1 PutD.refl rfl rfl rfl iB (fun r wx hR h1 => by simp [execOp, h1, go_sem])) ?_
   refine Gc (lr1 PutD.refl rfl rfl rfl iB (fun r wx hR h1 => exg oneSG rfl h1 (cv16 (hR.other HU.out.b1 HU.out.n13)))) ?_
   refine Gc (lr1 PutD.refl rfl rfl rfl iB (fun r wx hR h1 => by simp [execOp, h1, go_sem])) ?_
   refine Gc (lr1 PutD.refl rfl rfl rfl iB (fun r wx hR h1 => exg oneSD rfl h1 (cv17 (hR.other HU.out.b1 HU.out.n13)))) ?_
   refine Gc (lr1 PutD.refl rfl rfl rfl iB (fun r wx hR h1 => by simp [execOp, h1, go_sem])) ?_
   refine Gc ?_ ?_
   ·
    rintro r wx hR ⟨h1, h2, _⟩
    replace h1 : r (.tmp 54) = .pointer (some ⟨g3, 12, none⟩) := h1
    replace h2 : r (.tmp 47) = .int .u32 (c.tsn : Int) := h2
    obtain ⟨C1, hb1, hs1, _⟩ := hR.it _ HU.out.b3
    exact give_skip (exec_set one22 rfl h1 h2 rfl rfl hb1 (by rw [hs1]; exact of_decide_eq_true rfl)) (doneAt_set hb1 (by rw [hs1]; exact of_decide_eq_true rfl) (x := undef) rfl)
   refine Gc (lr1 PutD.refl rfl rfl rfl iB (fun r wx hR h1 => by simp [execOp, h1, go_sem])) ?_
   refine Gc ?_ ?_
   ·
    rintro r wx hR ⟨h1, h2, _⟩
    replace h1 : r (.tmp 55) = .pointer (some ⟨g3, 9, none⟩) := h1
    replace h2 : r (.tmp 49) = .int .i64 c.win := h2
    obtain ⟨C1, hb1, hs1, _⟩ := hR.it _ HU.out.b3
    exact give_skip (exec_set one3 rfl h1 h2 rfl rfl hb1 (by rw [hs1]; exact of_decide_eq_true rfl)) (doneAt_set hb1 (by rw [hs1]; exact of_decide_eq_true rfl) (x := undef) rfl)
   refine Gc (lr1 PutD.refl rfl rfl rfl iB (fun r wx hR h1 => by simp [execOp, h1, go_sem])) ?_
   refine Gc ?_ ?_
   ·
    rintro r wx hR ⟨h1, h2, _⟩
    replace h1 : r (.tmp 56) = .pointer (some ⟨g3, 16, none⟩) := h1
    replace h2 : r (.tmp 51) = .slice s.gA s.gN s.gC := h2
    obtain ⟨C1, hb1, hs1, _⟩ := hR.it _ HU.out.b3
    exact give_skip (exec_set oneSG rfl h1 h2 rfl rfl hb1 (by rw [hs1]; exact of_decide_eq_true rfl)) (doneAt_set hb1 (by rw [hs1]; exact of_decide_eq_true rfl) (x := undef) rfl)
   refine Gc (lr1 PutD.refl rfl rfl rfl iB (fun r wx hR h1 => by simp [execOp, h1, go_sem])) ?_
   refine Gc ?_ ?_
   ·
    rintro r wx hR ⟨h1, h2, _⟩
    replace h1 : r (.tmp 57) = .pointer (some ⟨g3, 17, none⟩) := h1
    replace h2 : r (.tmp 53) = .slice s.dA s.dN s.dC := h2
    obtain ⟨C1, hb1, hs1, _⟩ := hR.it _ HU.out.b3
    exact give_skip (exec_set oneSD rfl h1 h2 rfl rfl hb1 (by rw [hs1]; exact of_decide_eq_true rfl)) (doneAt_set hb1 (by rw [hs1]; exact of_decide_eq_true rfl) (x := undef) rfl)
   exact GoodAll.nil
  ·
   intro vs w14 a7 hR hold ha7
   have hv0 : vs 0 = (.pointer (some ⟨g1, 12, none⟩)) := hold.at 0
   have hv1 : vs 1 = (.int .u32 (c.tsn : Int)) := hold.at 1
   have hv2 : vs 2 = (.pointer (some ⟨g1, 9, none⟩)) := hold.at 2
   have hv3 : vs 3 = (.int .i64 c.win) := hold.at 3
   have hv4 : vs 4 = (.pointer (some ⟨g1, 16, none⟩)) := hold.at 4
   have hv5 : vs 5 = (.slice s.gA s.gN s.gC) := hold.at 5
   have hv6 : vs 6 = (.pointer (some ⟨g1, 17, none⟩)) := hold.at 6
   have hv7 : vs 7 = (.slice s.dA s.dN s.dC) := hold.at 7
   have hv8 : vs 8 = (.pointer (some ⟨g3, 12, none⟩)) := hold.at 8
   have hv10 : vs 10 = (.pointer (some ⟨g3, 9, none⟩)) := hold.at 10
   have hv12 : vs 12 = (.pointer (some ⟨g3, 16, none⟩)) := hold.at 12
   have hv14 : vs 14 = (.pointer (some ⟨g3, 17, none⟩)) := hold.at 14
   have hbw14 := hR.fin HU.out.b3 rfl (fun j hj => by
    match j with
    | 0 => exact .inr rfl
    | 1 => exact .inr rfl
    | 2 => exact .inr rfl
    | 3 => exact .inr rfl
    | 4 => exact .inr rfl
    | 5 => exact .inr rfl
    | 6 => exact .inr rfl
    | 7 => exact .inr rfl
    | 8 => exact .inr rfl
    | 9 => exact .inl (hold.at 11)
    | 10 => exact .inr rfl
    | 11 => exact .inr rfl
    | 12 => exact .inl (hold.at 9)
    | 13 => exact .inr rfl
    | 14 => exact .inr rfl
    | 15 => exact .inr rfl
    | 16 => exact .inl (hold.at 13)
    | 17 => exact .inl (hold.at 15)
    | 18 => exact .inr rfl
    | 19 => exact .inr rfl
    | 20 => exact .inr rfl
    | 21 => exact .inr rfl
    | j + 22 => exact absurd hj (by rw [CV.size]; omega))
   replace HU : Hid (UsedAt w w14 g1 g2 g3 c s (CV { ck0 3 with kind := 3, tsn := c.tsn, win := c.win, gaps := c.gaps, dups := c.dups } { sv0 with gA := s.gA, gN := s.gN, gC := s.gC, dA := s.dA, dN := s.dN, dC := s.dC })) := (HU.out.drew).next hbw14.1 hbw14.2
   simp only [putAll, Act.put, hv0, hv1, hv2, hv3, hv4, hv5, hv6, hv7, hv8, hv10, hv12, hv14, List.setIfInBounds_toArray, List.set_cons_succ, List.set_cons_zero] at ha7
   subst ha7
   clear hold hR hbw14 hv0 hv1 hv2 hv3 hv4 hv5 hv6 hv7 hv8 hv10 hv12 hv14
   have f0 := cv0 HU.out.b1
   go_wp2_with (first
    | (refine wl_load rfl rowC rfl rfl HU.out.b3 rfl ?_)
    | (refine wl_store (D := CV { ck0 3 with kind := 3, tsn := c.tsn, win := c.win, gaps := c.gaps, dups := c.dups } { sv0 with gA := s.gA, gN := s.gN, gC := s.gC, dA := s.dA, dN := s.dN, dC := s.dC }) rfl rowC rfl rfl rfl HU.out.b2 rfl rfl (CV.one _ _) ?_; intro w9 hb9 hk9 hx9; clear hx9))
   refine bodyPost_ret (results_cell_row (fn := Try.f35) (p := 2) rfl _ w9 _ _ _ (0, 0) _ rfl hb9 Try.underlying38 rfl (by kernel_rfl)) rfl ?_
   exact ⟨rfl, HU.out.ext.of_but hk9 (fun q e => by subst e; exact HU.out.lo)⟩
theorem used_4 {w : World} {c : Ck} {s : Sv} (hk : c.kind = 4) :
  Calls Try.prog 35 #[.agg (CV c s)] w fun e w' => e = .returned (.agg (CV (usedC c) (usedS c s))) ∧ Ext w w' := by
  have HE : Hid (usedC c = { ck0 4 with kind := 4, info := c.info } ∧ usedS c s = { sv0 with iA := s.iA, iN := s.iN, iC := s.iC }) := ⟨by simp [usedC, hk], by simp [usedS, hk]⟩
  rw [HE.out.1, HE.out.2]
  go_enter Try.func35, Try.ntmps35
  go_wp2_with (first
   | (refine wl_box (C := CV c s) rfl rfl rfl ?_; intro w1 hb1 he1 hx1; have HX1 : Hid (w1.heap.size = w.heap.size + 1) := hx1; clear hx1; have c0 := cv0 hb1)
   | (have q := he2; clear q; refine wl_alloc rfl rfl zeroC ?_; intro w3 hb3 he3 hx3; clear hx3; have d0 := cv0 ((hb1.ext he2).ext he3))
   | (refine wl_alloc rfl rfl zeroC ?_; intro w2 hb2 he2 hx2; have HX2 : Hid (w2.heap.size = w1.heap.size + 1) := hx2; clear hx2; have z0 := cv0 (hb1.ext he2))
   | (refine wl_load rfl rowC rfl rfl HU.out.b3 rfl ?_)
   | (refine wl_store (D := CV { ck0 4 with kind := 4, info := c.info } { sv0 with iA := s.iA, iN := s.iN, iC := s.iC }) rfl rowC rfl rfl rfl HU.out.b2 rfl rfl (CV.one _ _) ?_; intro w9 hb9 hk9 hx9; clear hx9)
   | (refine wl_store (D := CV (ck0 4) sv0) rfl rowC rfl rfl rfl hb3 rfl rfl (CV.one _ _) ?_; intro w4 hb4 hk4 hx4; clear hx4; have HU : Hid (UsedAt w w4 w.heap.size w1.heap.size w2.heap.size c s (CV (ck0 4) sv0)) := ⟨(((hb1.ext he2).ext he3).but hk4 (show ¬ _ = _ by have := HX1.out; have := HX2.out; omega)), ((hb2.ext he3).but hk4 (show ¬ _ = _ by have := HX1.out; have := HX2.out; omega)), hb4, ((he1.trans he2).trans he3).of_but hk4 (fun q e => by subst e; have := HX1.out; have := HX2.out; omega), (by have := HX1.out; have := HX2.out; omega), (by have := HX1.out; have := HX2.out; omega), (by have := HX1.out; have := HX2.out; omega), (by have := HX1.out; omega)⟩; clear c0 d0 z0 hb1 hb2 hb3 hb4 he1 he2 he3 hk4; have f0 := cv0 HU.out.b1; have f1 := cv15 HU.out.b1; clear HX1 HX2; generalize w.heap.size = g1 at *; generalize w1.heap.size = g2 at *; generalize w2.heap.size = g3 at *)
   | (refine wl_set (v := .slice s.iA s.iN s.iC) rfl oneS rfl rfl rfl rfl rfl HU.out.b3 (of_decide_eq_true rfl) ?_; intro w7 hb7 hk7 hx7; clear hx7; replace HU : Hid (UsedAt w w7 g1 g2 g3 c s (CV { ck0 4 with kind := 4, info := c.info } { sv0 with iA := s.iA, iN := s.iN, iC := s.iC })) := HU.out.next hb7 hk7))
  refine bodyPost_ret (results_cell_row (fn := Try.f35) (p := 2) rfl _ w9 _ _ _ (0, 0) _ rfl hb9 Try.underlying38 rfl (by kernel_rfl)) rfl ?_
  exact ⟨rfl, HU.out.ext.of_but hk9 (fun q e => by subst e; exact HU.out.lo)⟩
theorem used_5 {w : World} {c : Ck} {s : Sv} (hk : c.kind = 5) :
  Calls Try.prog 35 #[.agg (CV c s)] w fun e w' => e = .returned (.agg (CV (usedC c) (usedS c s))) ∧ Ext w w' := by
  have HE : Hid (usedC c = { ck0 5 with kind := 5, info := c.info } ∧ usedS c s = { sv0 with iA := s.iA, iN := s.iN, iC := s.iC }) := ⟨by simp [usedC, hk], by simp [usedS, hk]⟩
  rw [HE.out.1, HE.out.2]
  go_enter Try.func35, Try.ntmps35
  go_wp2_with (first
   | (refine wl_box (C := CV c s) rfl rfl rfl ?_; intro w1 hb1 he1 hx1; have HX1 : Hid (w1.heap.size = w.heap.size + 1) := hx1; clear hx1; have c0 := cv0 hb1)
   | (have q := he2; clear q; refine wl_alloc rfl rfl zeroC ?_; intro w3 hb3 he3 hx3; clear hx3; have d0 := cv0 ((hb1.ext he2).ext he3))
   | (refine wl_alloc rfl rfl zeroC ?_; intro w2 hb2 he2 hx2; have HX2 : Hid (w2.heap.size = w1.heap.size + 1) := hx2; clear hx2; have z0 := cv0 (hb1.ext he2))
   | (refine wl_load rfl rowC rfl rfl HU.out.b3 rfl ?_)
   | (refine wl_store (D := CV { ck0 5 with kind := 5, info := c.info } { sv0 with iA := s.iA, iN := s.iN, iC := s.iC }) rfl rowC rfl rfl rfl HU.out.b2 rfl rfl (CV.one _ _) ?_; intro w9 hb9 hk9 hx9; clear hx9)
   | (refine wl_store (D := CV (ck0 5) sv0) rfl rowC rfl rfl rfl hb3 rfl rfl (CV.one _ _) ?_; intro w4 hb4 hk4 hx4; clear hx4; have HU : Hid (UsedAt w w4 w.heap.size w1.heap.size w2.heap.size c s (CV (ck0 5) sv0)) := ⟨(((hb1.ext he2).ext he3).but hk4 (show ¬ _ = _ by have := HX1.out; have := HX2.out; omega)), ((hb2.ext he3).but hk4 (show ¬ _ = _ by have := HX1.out; have := HX2.out; omega)), hb4, ((he1.trans he2).trans he3).of_but hk4 (fun q e => by subst e; have := HX1.out; have := HX2.out; omega), (by have := HX1.out; have := HX2.out; omega), (by have := HX1.out; have := HX2.out; omega), (by have := HX1.out; have := HX2.out; omega), (by have := HX1.out; omega)⟩; clear c0 d0 z0 hb1 hb2 hb3 hb4 he1 he2 he3 hk4; have f0 := cv0 HU.out.b1; have f1 := cv15 HU.out.b1; clear HX1 HX2; generalize w.heap.size = g1 at *; generalize w1.heap.size = g2 at *; generalize w2.heap.size = g3 at *)
   | (refine wl_set (v := .slice s.iA s.iN s.iC) rfl oneS rfl rfl rfl rfl rfl HU.out.b3 (of_decide_eq_true rfl) ?_; intro w7 hb7 hk7 hx7; clear hx7; replace HU : Hid (UsedAt w w7 g1 g2 g3 c s (CV { ck0 5 with kind := 5, info := c.info } { sv0 with iA := s.iA, iN := s.iN, iC := s.iC })) := HU.out.next hb7 hk7))
  refine bodyPost_ret (results_cell_row (fn := Try.f35) (p := 2) rfl _ w9 _ _ _ (0, 0) _ rfl hb9 Try.underlying38 rfl (by kernel_rfl)) rfl ?_
  exact ⟨rfl, HU.out.ext.of_but hk9 (fun q e => by subst e; exact HU.out.lo)⟩
theorem used_10 {w : World} {c : Ck} {s : Sv} (hk : c.kind = 10) :
  Calls Try.prog 35 #[.agg (CV c s)] w fun e w' => e = .returned (.agg (CV (usedC c) (usedS c s))) ∧ Ext w w' := by
  have HE : Hid (usedC c = { ck0 10 with kind := 10, info := c.info } ∧ usedS c s = { sv0 with iA := s.iA, iN := s.iN, iC := s.iC }) := ⟨by simp [usedC, hk], by simp [usedS, hk]⟩
  rw [HE.out.1, HE.out.2]
  go_enter Try.func35, Try.ntmps35
  go_wp2_with (first
   | (refine wl_box (C := CV c s) rfl rfl rfl ?_; intro w1 hb1 he1 hx1; have HX1 : Hid (w1.heap.size = w.heap.size + 1) := hx1; clear hx1; have c0 := cv0 hb1)
   | (have q := he2; clear q; refine wl_alloc rfl rfl zeroC ?_; intro w3 hb3 he3 hx3; clear hx3; have d0 := cv0 ((hb1.ext he2).ext he3))
   | (refine wl_alloc rfl rfl zeroC ?_; intro w2 hb2 he2 hx2; have HX2 : Hid (w2.heap.size = w1.heap.size + 1) := hx2; clear hx2; have z0 := cv0 (hb1.ext he2))
   | (refine wl_load rfl rowC rfl rfl HU.out.b3 rfl ?_)
   | (refine wl_store (D := CV { ck0 10 with kind := 10, info := c.info } { sv0 with iA := s.iA, iN := s.iN, iC := s.iC }) rfl rowC rfl rfl rfl HU.out.b2 rfl rfl (CV.one _ _) ?_; intro w9 hb9 hk9 hx9; clear hx9)
   | (refine wl_store (D := CV (ck0 10) sv0) rfl rowC rfl rfl rfl hb3 rfl rfl (CV.one _ _) ?_; intro w4 hb4 hk4 hx4; clear hx4; have HU : Hid (UsedAt w w4 w.heap.size w1.heap.size w2.heap.size c s (CV (ck0 10) sv0)) := ⟨(((hb1.ext he2).ext he3).but hk4 (show ¬ _ = _ by have := HX1.out; have := HX2.out; omega)), ((hb2.ext he3).but hk4 (show ¬ _ = _ by have := HX1.out; have := HX2.out; omega)), hb4, ((he1.trans he2).trans he3).of_but hk4 (fun q e => by subst e; have := HX1.out; have := HX2.out; omega), (by have := HX1.out; have := HX2.out; omega), (by have := HX1.out; have := HX2.out; omega), (by have := HX1.out; have := HX2.out; omega), (by have := HX1.out; omega)⟩; clear c0 d0 z0 hb1 hb2 hb3 hb4 he1 he2 he3 hk4; have f0 := cv0 HU.out.b1; have f1 := cv15 HU.out.b1; clear HX1 HX2; generalize w.heap.size = g1 at *; generalize w1.heap.size = g2 at *; generalize w2.heap.size = g3 at *)
   | (refine wl_set (v := .slice s.iA s.iN s.iC) rfl oneS rfl rfl rfl rfl rfl HU.out.b3 (of_decide_eq_true rfl) ?_; intro w7 hb7 hk7 hx7; clear hx7; replace HU : Hid (UsedAt w w7 g1 g2 g3 c s (CV { ck0 10 with kind := 10, info := c.info } { sv0 with iA := s.iA, iN := s.iN, iC := s.iC })) := HU.out.next hb7 hk7))
  refine bodyPost_ret (results_cell_row (fn := Try.f35) (p := 2) rfl _ w9 _ _ _ (0, 0) _ rfl hb9 Try.underlying38 rfl (by kernel_rfl)) rfl ?_
  exact ⟨rfl, HU.out.ext.of_but hk9 (fun q e => by subst e; exact HU.out.lo)⟩
theorem used_15 {w : World} {c : Ck} {s : Sv} (hk : c.kind = 15) :
  Calls Try.prog 35 #[.agg (CV c s)] w fun e w' => e = .returned (.agg (CV (usedC c) (usedS c s))) ∧ Ext w w' := by
  have HE : Hid (usedC c = { ck0 15 with kind := 15, info := c.info } ∧ usedS c s = { sv0 with iA := s.iA, iN := s.iN, iC := s.iC }) := ⟨by simp [usedC, hk], by simp [usedS, hk]⟩
  rw [HE.out.1, HE.out.2]
  go_enter Try.func35, Try.ntmps35
  go_wp2_with (first
   | (refine wl_box (C := CV c s) rfl rfl rfl ?_; intro w1 hb1 he1 hx1; have HX1 : Hid (w1.heap.size = w.heap.size + 1) := hx1; clear hx1; have c0 := cv0 hb1)
   | (have q := he2; clear q; refine wl_alloc rfl rfl zeroC ?_; intro w3 hb3 he3 hx3; clear hx3; have d0 := cv0 ((hb1.ext he2).ext he3))
   | (refine wl_alloc rfl rfl zeroC ?_; intro w2 hb2 he2 hx2; have HX2 : Hid (w2.heap.size = w1.heap.size + 1) := hx2; clear hx2; have z0 := cv0 (hb1.ext he2))
   | (refine wl_load rfl rowC rfl rfl HU.out.b3 rfl ?_)
   | (refine wl_store (D := CV { ck0 15 with kind := 15, info := c.info } { sv0 with iA := s.iA, iN := s.iN, iC := s.iC }) rfl rowC rfl rfl rfl HU.out.b2 rfl rfl (CV.one _ _) ?_; intro w9 hb9 hk9 hx9; clear hx9)
   | (refine wl_store (D := CV (ck0 15) sv0) rfl rowC rfl rfl rfl hb3 rfl rfl (CV.one _ _) ?_; intro w4 hb4 hk4 hx4; clear hx4; have HU : Hid (UsedAt w w4 w.heap.size w1.heap.size w2.heap.size c s (CV (ck0 15) sv0)) := ⟨(((hb1.ext he2).ext he3).but hk4 (show ¬ _ = _ by have := HX1.out; have := HX2.out; omega)), ((hb2.ext he3).but hk4 (show ¬ _ = _ by have := HX1.out; have := HX2.out; omega)), hb4, ((he1.trans he2).trans he3).of_but hk4 (fun q e => by subst e; have := HX1.out; have := HX2.out; omega), (by have := HX1.out; have := HX2.out; omega), (by have := HX1.out; have := HX2.out; omega), (by have := HX1.out; have := HX2.out; omega), (by have := HX1.out; omega)⟩; clear c0 d0 z0 hb1 hb2 hb3 hb4 he1 he2 he3 hk4; have f0 := cv0 HU.out.b1; have f1 := cv15 HU.out.b1; clear HX1 HX2; generalize w.heap.size = g1 at *; generalize w1.heap.size = g2 at *; generalize w2.heap.size = g3 at *)
   | (refine wl_set (v := .slice s.iA s.iN s.iC) rfl oneS rfl rfl rfl rfl rfl HU.out.b3 (of_decide_eq_true rfl) ?_; intro w7 hb7 hk7 hx7; clear hx7; replace HU : Hid (UsedAt w w7 g1 g2 g3 c s (CV { ck0 15 with kind := 15, info := c.info } { sv0 with iA := s.iA, iN := s.iN, iC := s.iC })) := HU.out.next hb7 hk7))
  refine bodyPost_ret (results_cell_row (fn := Try.f35) (p := 2) rfl _ w9 _ _ _ (0, 0) _ rfl hb9 Try.underlying38 rfl (by kernel_rfl)) rfl ?_
  exact ⟨rfl, HU.out.ext.of_but hk9 (fun q e => by subst e; exact HU.out.lo)⟩
theorem used_6 {w : World} {c : Ck} {s : Sv} (hk : c.kind = 6) :
  Calls Try.prog 35 #[.agg (CV c s)] w fun e w' => e = .returned (.agg (CV (usedC c) (usedS c s))) ∧ Ext w w' := by
  have HE : Hid (usedC c = { ck0 6 with kind := 6, cause := c.cause } ∧ usedS c s = sv0) := ⟨by simp [usedC, hk], by simp [usedS, hk]⟩
  rw [HE.out.1, HE.out.2]
  go_enter Try.func35, Try.ntmps35
  go_wp2_with (first
   | (refine wl_box (C := CV c s) rfl rfl rfl ?_; intro w1 hb1 he1 hx1; have HX1 : Hid (w1.heap.size = w.heap.size + 1) := hx1; clear hx1; have c0 := cv0 hb1)
   | (have q := he2; clear q; refine wl_alloc rfl rfl zeroC ?_; intro w3 hb3 he3 hx3; clear hx3; have d0 := cv0 ((hb1.ext he2).ext he3))
   | (refine wl_alloc rfl rfl zeroC ?_; intro w2 hb2 he2 hx2; have HX2 : Hid (w2.heap.size = w1.heap.size + 1) := hx2; clear hx2; have z0 := cv0 (hb1.ext he2))
   | (refine wl_load rfl rowC rfl rfl HU.out.b3 rfl ?_)
   | (refine wl_store (D := CV { ck0 6 with kind := 6, cause := c.cause } sv0) rfl rowC rfl rfl rfl HU.out.b2 rfl rfl (CV.one _ _) ?_; intro w9 hb9 hk9 hx9; clear hx9)
   | (refine wl_store (D := CV (ck0 6) sv0) rfl rowC rfl rfl rfl hb3 rfl rfl (CV.one _ _) ?_; intro w4 hb4 hk4 hx4; clear hx4; have HU : Hid (UsedAt w w4 w.heap.size w1.heap.size w2.heap.size c s (CV (ck0 6) sv0)) := ⟨(((hb1.ext he2).ext he3).but hk4 (show ¬ _ = _ by have := HX1.out; have := HX2.out; omega)), ((hb2.ext he3).but hk4 (show ¬ _ = _ by have := HX1.out; have := HX2.out; omega)), hb4, ((he1.trans he2).trans he3).of_but hk4 (fun q e => by subst e; have := HX1.out; have := HX2.out; omega), (by have := HX1.out; have := HX2.out; omega), (by have := HX1.out; have := HX2.out; omega), (by have := HX1.out; have := HX2.out; omega), (by have := HX1.out; omega)⟩; clear c0 d0 z0 hb1 hb2 hb3 hb4 he1 he2 he3 hk4; have f0 := cv0 HU.out.b1; have f1 := cv18 HU.out.b1; clear HX1 HX2; generalize w.heap.size = g1 at *; generalize w1.heap.size = g2 at *; generalize w2.heap.size = g3 at *)
   | (refine wl_set (v := .int .i64 c.cause) rfl one3 rfl rfl rfl rfl rfl HU.out.b3 (of_decide_eq_true rfl) ?_; intro w7 hb7 hk7 hx7; clear hx7; replace HU : Hid (UsedAt w w7 g1 g2 g3 c s (CV { ck0 6 with kind := 6, cause := c.cause } sv0)) := HU.out.next hb7 hk7))
  refine bodyPost_ret (results_cell_row (fn := Try.f35) (p := 2) rfl _ w9 _ _ _ (0, 0) _ rfl hb9 Try.underlying38 rfl (by kernel_rfl)) rfl ?_
  exact ⟨rfl, HU.out.ext.of_but hk9 (fun q e => by subst e; exact HU.out.lo)⟩
theorem used_9 {w : World} {c : Ck} {s : Sv} (hk : c.kind = 9) :
  Calls Try.prog 35 #[.agg (CV c s)] w fun e w' => e = .returned (.agg (CV (usedC c) (usedS c s))) ∧ Ext w w' := by
  have HE : Hid (usedC c = { ck0 9 with kind := 9, cause := c.cause } ∧ usedS c s = sv0) := ⟨by simp [usedC, hk], by simp [usedS, hk]⟩
  rw [HE.out.1, HE.out.2]
  go_enter Try.func35, Try.ntmps35
  go_wp2_with (first
   | (refine wl_box (C := CV c s) rfl rfl rfl ?_; intro w1 hb1 he1 hx1; have HX1 : Hid (w1.heap.size = w.heap.size + 1) := hx1; clear hx1; have c0 := cv0 hb1)
   | (have q := he2; clear q; refine wl_alloc rfl rfl zeroC ?_; intro w3 hb3 he3 hx3; clear hx3; have d0 := cv0 ((hb1.ext he2).ext he3))
   | (refine wl_alloc rfl rfl zeroC ?_; intro w2 hb2 he2 hx2; have HX2 : Hid (w2.heap.size = w1.heap.size + 1) := hx2; clear hx2; have z0 := cv0 (hb1.ext he2))
   | (refine wl_load rfl rowC rfl rfl HU.out.b3 rfl ?_)
   | (refine wl_store (D := CV { ck0 9 with kind := 9, cause := c.cause } sv0) rfl rowC rfl rfl rfl HU.out.b2 rfl rfl (CV.one _ _) ?_; intro w9 hb9 hk9 hx9; clear hx9)
   | (refine wl_store (D := CV (ck0 9) sv0) rfl rowC rfl rfl rfl hb3 rfl rfl (CV.one _ _) ?_; intro w4 hb4 hk4 hx4; clear hx4; have HU : Hid (UsedAt w w4 w.heap.size w1.heap.size w2.heap.size c s (CV (ck0 9) sv0)) := ⟨(((hb1.ext he2).ext he3).but hk4 (show ¬ _ = _ by have := HX1.out; have := HX2.out; omega)), ((hb2.ext he3).but hk4 (show ¬ _ = _ by have := HX1.out; have := HX2.out; omega)), hb4, ((he1.trans he2).trans he3).of_but hk4 (fun q e => by subst e; have := HX1.out; have := HX2.out; omega), (by have := HX1.out; have := HX2.out; omega), (by have := HX1.out; have := HX2.out; omega), (by have := HX1.out; have := HX2.out; omega), (by have := HX1.out; omega)⟩; clear c0 d0 z0 hb1 hb2 hb3 hb4 he1 he2 he3 hk4; have f0 := cv0 HU.out.b1; have f1 := cv18 HU.out.b1; clear HX1 HX2; generalize w.heap.size = g1 at *; generalize w1.heap.size = g2 at *; generalize w2.heap.size = g3 at *)
   | (refine wl_set (v := .int .i64 c.cause) rfl one3 rfl rfl rfl rfl rfl HU.out.b3 (of_decide_eq_true rfl) ?_; intro w7 hb7 hk7 hx7; clear hx7; replace HU : Hid (UsedAt w w7 g1 g2 g3 c s (CV { ck0 9 with kind := 9, cause := c.cause } sv0)) := HU.out.next hb7 hk7))
  refine bodyPost_ret (results_cell_row (fn := Try.f35) (p := 2) rfl _ w9 _ _ _ (0, 0) _ rfl hb9 Try.underlying38 rfl (by kernel_rfl)) rfl ?_
  exact ⟨rfl, HU.out.ext.of_but hk9 (fun q e => by subst e; exact HU.out.lo)⟩
theorem used_7 {w : World} {c : Ck} {s : Sv} (hk : c.kind = 7) :
  Calls Try.prog 35 #[.agg (CV c s)] w fun e w' => e = .returned (.agg (CV (usedC c) (usedS c s))) ∧ Ext w w' := by
  have HE : Hid (usedC c = { ck0 7 with kind := 7, tsn := c.tsn } ∧ usedS c s = sv0) := ⟨by simp [usedC, hk], by simp [usedS, hk]⟩
  rw [HE.out.1, HE.out.2]
  go_enter Try.func35, Try.ntmps35
  go_wp2_with (first
   | (refine wl_box (C := CV c s) rfl rfl rfl ?_; intro w1 hb1 he1 hx1; have HX1 : Hid (w1.heap.size = w.heap.size + 1) := hx1; clear hx1; have c0 := cv0 hb1)
   | (have q := he2; clear q; refine wl_alloc rfl rfl zeroC ?_; intro w3 hb3 he3 hx3; clear hx3; have d0 := cv0 ((hb1.ext he2).ext he3))
   | (refine wl_alloc rfl rfl zeroC ?_; intro w2 hb2 he2 hx2; have HX2 : Hid (w2.heap.size = w1.heap.size + 1) := hx2; clear hx2; have z0 := cv0 (hb1.ext he2))
   | (refine wl_load rfl rowC rfl rfl HU.out.b3 rfl ?_)
   | (refine wl_store (D := CV { ck0 7 with kind := 7, tsn := c.tsn } sv0) rfl rowC rfl rfl rfl HU.out.b2 rfl rfl (CV.one _ _) ?_; intro w9 hb9 hk9 hx9; clear hx9)
   | (refine wl_store (D := CV (ck0 7) sv0) rfl rowC rfl rfl rfl hb3 rfl rfl (CV.one _ _) ?_; intro w4 hb4 hk4 hx4; clear hx4; have HU : Hid (UsedAt w w4 w.heap.size w1.heap.size w2.heap.size c s (CV (ck0 7) sv0)) := ⟨(((hb1.ext he2).ext he3).but hk4 (show ¬ _ = _ by have := HX1.out; have := HX2.out; omega)), ((hb2.ext he3).but hk4 (show ¬ _ = _ by have := HX1.out; have := HX2.out; omega)), hb4, ((he1.trans he2).trans he3).of_but hk4 (fun q e => by subst e; have := HX1.out; have := HX2.out; omega), (by have := HX1.out; have := HX2.out; omega), (by have := HX1.out; have := HX2.out; omega), (by have := HX1.out; have := HX2.out; omega), (by have := HX1.out; omega)⟩; clear c0 d0 z0 hb1 hb2 hb3 hb4 he1 he2 he3 hk4; have f0 := cv0 HU.out.b1; have f1 := cv12 HU.out.b1; clear HX1 HX2; generalize w.heap.size = g1 at *; generalize w1.heap.size = g2 at *; generalize w2.heap.size = g3 at *)
   | (refine wl_set (v := .int .u32 (c.tsn : Int)) rfl one22 rfl rfl rfl rfl rfl HU.out.b3 (of_decide_eq_true rfl) ?_; intro w7 hb7 hk7 hx7; clear hx7; replace HU : Hid (UsedAt w w7 g1 g2 g3 c s (CV { ck0 7 with kind := 7, tsn := c.tsn } sv0)) := HU.out.next hb7 hk7))
  refine bodyPost_ret (results_cell_row (fn := Try.f35) (p := 2) rfl _ w9 _ _ _ (0, 0) _ rfl hb9 Try.underlying38 rfl (by kernel_rfl)) rfl ?_
  exact ⟨rfl, HU.out.ext.of_but hk9 (fun q e => by subst e; exact HU.out.lo)⟩
theorem used_193 {w : World} {c : Ck} {s : Sv} (hk : c.kind = 193) :
  Calls Try.prog 35 #[.agg (CV c s)] w fun e w' => e = .returned (.agg (CV (usedC c) (usedS c s))) ∧ Ext w w' := by
  have HE : Hid (usedC c = { ck0 193 with kind := 193, serial := c.serial, ops := c.ops } ∧ usedS c s = { sv0 with oA := s.oA, oN := s.oN, oC := s.oC }) := ⟨by simp [usedC, hk], by simp [usedS, hk]⟩
  rw [HE.out.1, HE.out.2]
  go_enter Try.func35, Try.ntmps35
  go_wp2_with (first
   | (refine wl_box (C := CV c s) rfl rfl rfl ?_; intro w1 hb1 he1 hx1; have HX1 : Hid (w1.heap.size = w.heap.size + 1) := hx1; clear hx1; have c0 := cv0 hb1)
   | (have q := he2; clear q; refine wl_alloc rfl rfl zeroC ?_; intro w3 hb3 he3 hx3; clear hx3; have d0 := cv0 ((hb1.ext he2).ext he3))
   | (refine wl_alloc rfl rfl zeroC ?_; intro w2 hb2 he2 hx2; have HX2 : Hid (w2.heap.size = w1.heap.size + 1) := hx2; clear hx2; have z0 := cv0 (hb1.ext he2))
   | (refine wl_load rfl rowC rfl rfl HU.out.b3 rfl ?_)
   | (refine wl_store (D := CV { ck0 193 with kind := 193, serial := c.serial, ops := c.ops } { sv0 with oA := s.oA, oN := s.oN, oC := s.oC }) rfl rowC rfl rfl rfl HU.out.b2 rfl rfl (CV.one _ _) ?_; intro w9 hb9 hk9 hx9; clear hx9)
   | (refine wl_store (D := CV (ck0 193) sv0) rfl rowC rfl rfl rfl hb3 rfl rfl (CV.one _ _) ?_; intro w4 hb4 hk4 hx4; clear hx4; have HU : Hid (UsedAt w w4 w.heap.size w1.heap.size w2.heap.size c s (CV (ck0 193) sv0)) := ⟨(((hb1.ext he2).ext he3).but hk4 (show ¬ _ = _ by have := HX1.out; have := HX2.out; omega)), ((hb2.ext he3).but hk4 (show ¬ _ = _ by have := HX1.out; have := HX2.out; omega)), hb4, ((he1.trans he2).trans he3).of_but hk4 (fun q e => by subst e; have := HX1.out; have := HX2.out; omega), (by have := HX1.out; have := HX2.out; omega), (by have := HX1.out; have := HX2.out; omega), (by have := HX1.out; have := HX2.out; omega), (by have := HX1.out; omega)⟩; clear c0 d0 z0 hb1 hb2 hb3 hb4 he1 he2 he3 hk4; have f0 := cv0 HU.out.b1; clear HX1 HX2; generalize w.heap.size = g1 at *; generalize w1.heap.size = g2 at *; generalize w2.heap.size = g3 at *))
  refine wp_region_facts (fun t => bif Nat.ble 79 t && Nat.ble t 83 then some (t - 79) else bif Nat.beq t 84 then some 6 else none) 94 (PutD g3 38 (CV { ck0 193 with kind := 193, serial := c.serial, ops := c.ops } { sv0 with oA := s.oA, oN := s.oN, oC := s.oC }))
   [Is (.pointer (some ⟨g1, 19, none⟩)), Is (.int .u32 (c.serial : Int)), Is (.pointer (some ⟨g1, 20, none⟩)), Is (.slice s.oA s.oN s.oC), Is (.pointer (some ⟨g3, 19, none⟩)), DoneAt g3 38 (CV { ck0 193 with kind := 193, serial := c.serial, ops := c.ops } { sv0 with oA := s.oA, oN := s.oN, oC := s.oC }) 19, Is (.pointer (some ⟨g3, 20, none⟩)), DoneAt g3 38 (CV { ck0 193 with kind := 193, serial := c.serial, ops := c.ops } { sv0 with oA := s.oA, oN := s.oN, oC := s.oC }) 20]
   rfl (by kernel_rfl) (by kernel_rfl) rfl PutD.refl (fun _ _ _ => PutD.trans) ?_ ?_ ?_
  ·
   exact Ks (Ks (Ks (Ks (Ks (KeepAll.cons (fun _ _ _ h k => PutD.done k h) (Ks (KeepAll.cons (fun _ _ _ h k => PutD.done k h) (KeepAll.nil))))))))
  ·
   refine Gc (lr1 PutD.refl rfl rfl rfl iB (fun r wx hR h1 => by simp [execOp, h1, go_sem])) ?_
   refine Gc (lr1 PutD.refl rfl rfl rfl iB (fun r wx hR h1 => exg one22 rfl h1 (cv19 (hR.other HU.out.b1 HU.out.n13)))) ?_
   refine Gc (lr1 PutD.refl rfl rfl rfl iB (fun r wx hR h1 => by simp [execOp, h1, go_sem])) ?_
   refine Gc (lr1 PutD.refl rfl rfl rfl iB (fun r wx hR h1 => exg oneSO rfl h1 (cv20 (hR.other HU.out.b1 HU.out.n13)))) ?_
   refine Gc (lr1 PutD.refl rfl rfl rfl iB (fun r wx hR h1 => by simp [execOp, h1, go_sem])) ?_
   refine Gc ?_ ?_
   ·
    rintro r wx hR ⟨h1, h2, _⟩
    replace h1 : r (.tmp 83) = .pointer (some ⟨g3, 19, none⟩) := h1
    replace h2 : r (.tmp 80) = .int .u32 (c.serial : Int) := h2
    obtain ⟨C1, hb1, hs1, _⟩ := hR.it _ HU.out.b3
    exact give_skip (exec_set one22 rfl h1 h2 rfl rfl hb1 (by rw [hs1]; exact of_decide_eq_true rfl)) (doneAt_set hb1 (by rw [hs1]; exact of_decide_eq_true rfl) (x := undef) rfl)
   refine Gc (lr1 PutD.refl rfl rfl rfl iB (fun r wx hR h1 => by simp [execOp, h1, go_sem])) ?_
   refine Gc ?_ ?_
   ·
    rintro r wx hR ⟨h1, h2, _⟩
    replace h1 : r (.tmp 84) = .pointer (some ⟨g3, 20, none⟩) := h1
    replace h2 : r (.tmp 82) = .slice s.oA s.oN s.oC := h2
    obtain ⟨C1, hb1, hs1, _⟩ := hR.it _ HU.out.b3
    exact give_skip (exec_set oneSO rfl h1 h2 rfl rfl hb1 (by rw [hs1]; exact of_decide_eq_true rfl)) (doneAt_set hb1 (by rw [hs1]; exact of_decide_eq_true rfl) (x := undef) rfl)
   exact GoodAll.nil
  ·
   intro vs w14 a7 hR hold ha7
   have hv0 : vs 0 = (.pointer (some ⟨g1, 19, none⟩)) := hold.at 0
   have hv1 : vs 1 = (.int .u32 (c.serial : Int)) := hold.at 1
   have hv2 : vs 2 = (.pointer (some ⟨g1, 20, none⟩)) := hold.at 2
   have hv3 : vs 3 = (.slice s.oA s.oN s.oC) := hold.at 3
   have hv4 : vs 4 = (.pointer (some ⟨g3, 19, none⟩)) := hold.at 4
   have hv6 : vs 6 = (.pointer (some ⟨g3, 20, none⟩)) := hold.at 6
   have hbw14 := hR.fin HU.out.b3 rfl (fun j hj => by
    match j with
    | 0 => exact .inr rfl
    | 1 => exact .inr rfl
    | 2 => exact .inr rfl
    | 3 => exact .inr rfl
    | 4 => exact .inr rfl
    | 5 => exact .inr rfl
    | 6 => exact .inr rfl
    | 7 => exact .inr rfl
    | 8 => exact .inr rfl
    | 9 => exact .inr rfl
    | 10 => exact .inr rfl
    | 11 => exact .inr rfl
    | 12 => exact .inr rfl
    | 13 => exact .inr rfl
    | 14 => exact .inr rfl
    | 15 => exact .inr rfl
    | 16 => exact .inr rfl
    | 17 => exact .inr rfl
    | 18 => exact .inr rfl
    | 19 => exact .inl (hold.at 5)
    | 20 => exact .inl (hold.at 7)
    | 21 => exact .inr rfl
    | j + 22 => exact absurd hj (by rw [CV.size]; omega))
   replace HU : Hid (UsedAt w w14 g1 g2 g3 c s (CV { ck0 193 with kind := 193, serial := c.serial, ops := c.ops } { sv0 with oA := s.oA, oN := s.oN, oC := s.oC })) := (HU.out.drew).next hbw14.1 hbw14.2
   simp only [putAll, Act.put, hv0, hv1, hv2, hv3, hv4, hv6, List.setIfInBounds_toArray, List.set_cons_succ, List.set_cons_zero] at ha7
   subst ha7
   clear hold hR hbw14 hv0 hv1 hv2 hv3 hv4 hv6
   have f0 := cv0 HU.out.b1
   go_wp2_with (first
    | (refine wl_load rfl rowC rfl rfl HU.out.b3 rfl ?_)
    | (refine wl_store (D := CV { ck0 193 with kind := 193, serial := c.serial, ops := c.ops } { sv0 with oA := s.oA, oN := s.oN, oC := s.oC }) rfl rowC rfl rfl rfl HU.out.b2 rfl rfl (CV.one _ _) ?_; intro w9 hb9 hk9 hx9; clear hx9))
   refine bodyPost_ret (results_cell_row (fn := Try.f35) (p := 2) rfl _ w9 _ _ _ (0, 0) _ rfl hb9 Try.underlying38 rfl (by kernel_rfl)) rfl ?_
   exact ⟨rfl, HU.out.ext.of_but hk9 (fun q e => by subst e; exact HU.out.lo)⟩
theorem used_128 {w : World} {c : Ck} {s : Sv} (hk : c.kind = 128) :
  Calls Try.prog 35 #[.agg (CV c s)] w fun e w' => e = .returned (.agg (CV (usedC c) (usedS c s))) ∧ Ext w w' := by
  have HE : Hid (usedC c = { ck0 128 with kind := 128, serial := c.serial, ok := c.ok } ∧ usedS c s = sv0) := ⟨by simp [usedC, hk], by simp [usedS, hk]⟩
  rw [HE.out.1, HE.out.2]
  go_enter Try.func35, Try.ntmps35
  go_wp2_with (first
   | (refine wl_box (C := CV c s) rfl rfl rfl ?_; intro w1 hb1 he1 hx1; have HX1 : Hid (w1.heap.size = w.heap.size + 1) := hx1; clear hx1; have c0 := cv0 hb1)
   | (have q := he2; clear q; refine wl_alloc rfl rfl zeroC ?_; intro w3 hb3 he3 hx3; clear hx3; have d0 := cv0 ((hb1.ext he2).ext he3))
   | (refine wl_alloc rfl rfl zeroC ?_; intro w2 hb2 he2 hx2; have HX2 : Hid (w2.heap.size = w1.heap.size + 1) := hx2; clear hx2; have z0 := cv0 (hb1.ext he2))
   | (refine wl_load rfl rowC rfl rfl HU.out.b3 rfl ?_)
   | (refine wl_store (D := CV { ck0 128 with kind := 128, serial := c.serial, ok := c.ok } sv0) rfl rowC rfl rfl rfl HU.out.b2 rfl rfl (CV.one _ _) ?_; intro w9 hb9 hk9 hx9; clear hx9)
   | (refine wl_store (D := CV (ck0 128) sv0) rfl rowC rfl rfl rfl hb3 rfl rfl (CV.one _ _) ?_; intro w4 hb4 hk4 hx4; clear hx4; have HU : Hid (UsedAt w w4 w.heap.size w1.heap.size w2.heap.size c s (CV (ck0 128) sv0)) := ⟨(((hb1.ext he2).ext he3).but hk4 (show ¬ _ = _ by have := HX1.out; have := HX2.out; omega)), ((hb2.ext he3).but hk4 (show ¬ _ = _ by have := HX1.out; have := HX2.out; omega)), hb4, ((he1.trans he2).trans he3).of_but hk4 (fun q e => by subst e; have := HX1.out; have := HX2.out; omega), (by have := HX1.out; have := HX2.out; omega), (by have := HX1.out; have := HX2.out; omega), (by have := HX1.out; have := HX2.out; omega), (by have := HX1.out; omega)⟩; clear c0 d0 z0 hb1 hb2 hb3 hb4 he1 he2 he3 hk4; have f0 := cv0 HU.out.b1; clear HX1 HX2; generalize w.heap.size = g1 at *; generalize w1.heap.size = g2 at *; generalize w2.heap.size = g3 at *))
  refine wp_region_facts (fun t => bif Nat.ble 87 t && Nat.ble t 91 then some (t - 87) else bif Nat.beq t 92 then some 6 else none) 94 (PutD g3 38 (CV { ck0 128 with kind := 128, serial := c.serial, ok := c.ok } sv0))
   [Is (.pointer (some ⟨g1, 19, none⟩)), Is (.int .u32 (c.serial : Int)), Is (.pointer (some ⟨g1, 21, none⟩)), Is (.bool c.ok), Is (.pointer (some ⟨g3, 19, none⟩)), DoneAt g3 38 (CV { ck0 128 with kind := 128, serial := c.serial, ok := c.ok } sv0) 19, Is (.pointer (some ⟨g3, 21, none⟩)), DoneAt g3 38 (CV { ck0 128 with kind := 128, serial := c.serial, ok := c.ok } sv0) 21]
   rfl (by kernel_rfl) (by kernel_rfl) rfl PutD.refl (fun _ _ _ => PutD.trans) ?_ ?_ ?_
  ·
   exact Ks (Ks (Ks (Ks (Ks (KeepAll.cons (fun _ _ _ h k => PutD.done k h) (Ks (KeepAll.cons (fun _ _ _ h k => PutD.done k h) (KeepAll.nil))))))))
  ·
   refine Gc (lr1 PutD.refl rfl rfl rfl iB (fun r wx hR h1 => by simp [execOp, h1, go_sem])) ?_
   refine Gc (lr1 PutD.refl rfl rfl rfl iB (fun r wx hR h1 => exg one22 rfl h1 (cv19 (hR.other HU.out.b1 HU.out.n13)))) ?_
   refine Gc (lr1 PutD.refl rfl rfl rfl iB (fun r wx hR h1 => by simp [execOp, h1, go_sem])) ?_
   refine Gc (lr1 PutD.refl rfl rfl rfl iB (fun r wx hR h1 => exg one4 rfl h1 (cv21 (hR.other HU.out.b1 HU.out.n13)))) ?_
   refine Gc (lr1 PutD.refl rfl rfl rfl iB (fun r wx hR h1 => by simp [execOp, h1, go_sem])) ?_
   refine Gc ?_ ?_
   ·
    rintro r wx hR ⟨h1, h2, _⟩
    replace h1 : r (.tmp 91) = .pointer (some ⟨g3, 19, none⟩) := h1
    replace h2 : r (.tmp 88) = .int .u32 (c.serial : Int) := h2
    obtain ⟨C1, hb1, hs1, _⟩ := hR.it _ HU.out.b3
    exact give_skip (exec_set one22 rfl h1 h2 rfl rfl hb1 (by rw [hs1]; exact of_decide_eq_true rfl)) (doneAt_set hb1 (by rw [hs1]; exact of_decide_eq_true rfl) (x := undef) rfl)
   refine Gc (lr1 PutD.refl rfl rfl rfl iB (fun r wx hR h1 => by simp [execOp, h1, go_sem])) ?_
   refine Gc ?_ ?_
   ·
    rintro r wx hR ⟨h1, h2, _⟩
    replace h1 : r (.tmp 92) = .pointer (some ⟨g3, 21, none⟩) := h1
    replace h2 : r (.tmp 90) = .bool c.ok := h2
    obtain ⟨C1, hb1, hs1, _⟩ := hR.it _ HU.out.b3
    exact give_skip (exec_set one4 rfl h1 h2 rfl rfl hb1 (by rw [hs1]; exact of_decide_eq_true rfl)) (doneAt_set hb1 (by rw [hs1]; exact of_decide_eq_true rfl) (x := undef) rfl)
   exact GoodAll.nil
  ·
   intro vs w14 a7 hR hold ha7
   have hv0 : vs 0 = (.pointer (some ⟨g1, 19, none⟩)) := hold.at 0
   have hv1 : vs 1 = (.int .u32 (c.serial : Int)) := hold.at 1
   have hv2 : vs 2 = (.pointer (some ⟨g1, 21, none⟩)) := hold.at 2
   have hv3 : vs 3 = (.bool c.ok) := hold.at 3
   have hv4 : vs 4 = (.pointer (some ⟨g3, 19, none⟩)) := hold.at 4
   have hv6 : vs 6 = (.pointer (some ⟨g3, 21, none⟩)) := hold.at 6
   have hbw14 := hR.fin HU.out.b3 rfl (fun j hj => by
    match j with
    | 0 => exact .inr rfl
    | 1 => exact .inr rfl
    | 2 => exact .inr rfl
    | 3 => exact .inr rfl
    | 4 => exact .inr rfl
    | 5 => exact .inr rfl
    | 6 => exact .inr rfl
    | 7 => exact .inr rfl
    | 8 => exact .inr rfl
    | 9 => exact .inr rfl
    | 10 => exact .inr rfl
    | 11 => exact .inr rfl
    | 12 => exact .inr rfl
    | 13 => exact .inr rfl
    | 14 => exact .inr rfl
    | 15 => exact .inr rfl
    | 16 => exact .inr rfl
    | 17 => exact .inr rfl
    | 18 => exact .inr rfl
    | 19 => exact .inl (hold.at 5)
    | 20 => exact .inr rfl
    | 21 => exact .inl (hold.at 7)
    | j + 22 => exact absurd hj (by rw [CV.size]; omega))
   replace HU : Hid (UsedAt w w14 g1 g2 g3 c s (CV { ck0 128 with kind := 128, serial := c.serial, ok := c.ok } sv0)) := (HU.out.drew).next hbw14.1 hbw14.2
   simp only [putAll, Act.put, hv0, hv1, hv2, hv3, hv4, hv6, List.setIfInBounds_toArray, List.set_cons_succ, List.set_cons_zero] at ha7
   subst ha7
   clear hold hR hbw14 hv0 hv1 hv2 hv3 hv4 hv6
   have f0 := cv0 HU.out.b1
   go_wp2_with (first
    | (refine wl_load rfl rowC rfl rfl HU.out.b3 rfl ?_)
    | (refine wl_store (D := CV { ck0 128 with kind := 128, serial := c.serial, ok := c.ok } sv0) rfl rowC rfl rfl rfl HU.out.b2 rfl rfl (CV.one _ _) ?_; intro w9 hb9 hk9 hx9; clear hx9))
   refine bodyPost_ret (results_cell_row (fn := Try.f35) (p := 2) rfl _ w9 _ _ _ (0, 0) _ rfl hb9 Try.underlying38 rfl (by kernel_rfl)) rfl ?_
   exact ⟨rfl, HU.out.ext.of_but hk9 (fun q e => by subst e; exact HU.out.lo)⟩
theorem used_no {w : World} {c : Ck} {s : Sv} (h0 : c.kind ≠ 0) (h1 : c.kind ≠ 1) (h2 : c.kind ≠ 2) (h3 : c.kind ≠ 3) (h4 : c.kind ≠ 4) (h5 : c.kind ≠ 5) (h10 : c.kind ≠ 10) (h15 : c.kind ≠ 15) (h6 : c.kind ≠ 6) (h9 : c.kind ≠ 9) (h7 : c.kind ≠ 7) (h193 : c.kind ≠ 193) (h128 : c.kind ≠ 128) :
  Calls Try.prog 35 #[.agg (CV c s)] w fun e w' => e = .returned (.agg (CV (usedC c) (usedS c s))) ∧ Ext w w' := by
  have HE : Hid (usedC c = ck0 c.kind ∧ usedS c s = sv0) := ⟨by simp [usedC, *], by simp [usedS, *]⟩
  rw [HE.out.1, HE.out.2]
  have e0 : (c.kind == 0) = false := beq_false_of_ne h0
  have e1 : (c.kind == 1) = false := beq_false_of_ne h1
  have e2 : (c.kind == 2) = false := beq_false_of_ne h2
  have e3 : (c.kind == 3) = false := beq_false_of_ne h3
  have e4 : (c.kind == 4) = false := beq_false_of_ne h4
  have e5 : (c.kind == 5) = false := beq_false_of_ne h5
  have e10 : (c.kind == 10) = false := beq_false_of_ne h10
  have e15 : (c.kind == 15) = false := beq_false_of_ne h15
  have e6 : (c.kind == 6) = false := beq_false_of_ne h6
  have e9 : (c.kind == 9) = false := beq_false_of_ne h9
  have e7 : (c.kind == 7) = false := beq_false_of_ne h7
  have e193 : (c.kind == 193) = false := beq_false_of_ne h193
  have e128 : (c.kind == 128) = false := beq_false_of_ne h128
  go_enter Try.func35, Try.ntmps35
  go_wp2_with (first
   | (refine wl_box (C := CV c s) rfl rfl rfl ?_; intro w1 hb1 he1 hx1; have HX1 : Hid (w1.heap.size = w.heap.size + 1) := hx1; clear hx1; have c0 := cv0 hb1)
   | (have q := he2; clear q; refine wl_alloc rfl rfl zeroC ?_; intro w3 hb3 he3 hx3; clear hx3; have d0 := cv0 ((hb1.ext he2).ext he3))
   | (refine wl_alloc rfl rfl zeroC ?_; intro w2 hb2 he2 hx2; have HX2 : Hid (w2.heap.size = w1.heap.size + 1) := hx2; clear hx2; have z0 := cv0 (hb1.ext he2))
   | (refine wl_load rfl rowC rfl rfl HU.out.b3 rfl ?_)
   | (refine wl_store (D := CV (ck0 c.kind) sv0) rfl rowC rfl rfl rfl HU.out.b2 rfl rfl (CV.one _ _) ?_; intro w9 hb9 hk9 hx9; clear hx9)
   | (refine wl_store (D := CV (ck0 c.kind) sv0) rfl rowC rfl rfl rfl hb3 rfl rfl (CV.one _ _) ?_; intro w4 hb4 hk4 hx4; clear hx4; have HU : Hid (UsedAt w w4 w.heap.size w1.heap.size w2.heap.size c s (CV (ck0 c.kind) sv0)) := ⟨(((hb1.ext he2).ext he3).but hk4 (show ¬ _ = _ by have := HX1.out; have := HX2.out; omega)), ((hb2.ext he3).but hk4 (show ¬ _ = _ by have := HX1.out; have := HX2.out; omega)), hb4, ((he1.trans he2).trans he3).of_but hk4 (fun q e => by subst e; have := HX1.out; have := HX2.out; omega), (by have := HX1.out; have := HX2.out; omega), (by have := HX1.out; have := HX2.out; omega), (by have := HX1.out; have := HX2.out; omega), (by have := HX1.out; omega)⟩; clear c0 d0 z0 hb1 hb2 hb3 hb4 he1 he2 he3 hk4; have f0 := cv0 HU.out.b1; clear HX1 HX2; generalize w.heap.size = g1 at *; generalize w1.heap.size = g2 at *; generalize w2.heap.size = g3 at *))
  refine bodyPost_ret (results_cell_row (fn := Try.f35) (p := 2) rfl _ w9 _ _ _ (0, 0) _ rfl hb9 Try.underlying38 rfl (by kernel_rfl)) rfl ?_
  exact ⟨rfl, HU.out.ext.of_but hk9 (fun q e => by subst e; exact HU.out.lo)⟩
theorem used_any {w : World} (c : Ck) (s : Sv) :
  Calls Try.prog 35 #[.agg (CV c s)] w fun e w' => e = .returned (.agg (CV (usedC c) (usedS c s))) ∧ Ext w w' := by
 by_cases h0 : c.kind = 0
 ·
  exact used_0 h0
 by_cases h1 : c.kind = 1
 ·
  exact used_1 h1
 by_cases h2 : c.kind = 2
 ·
  exact used_2 h2
 by_cases h3 : c.kind = 3
 ·
  exact used_3 h3
 by_cases h4 : c.kind = 4
 ·
  exact used_4 h4
 by_cases h5 : c.kind = 5
 ·
  exact used_5 h5
 by_cases h10 : c.kind = 10
 ·
  exact used_10 h10
 by_cases h15 : c.kind = 15
 ·
  exact used_15 h15
 by_cases h6 : c.kind = 6
 ·
  exact used_6 h6
 by_cases h9 : c.kind = 9
 ·
  exact used_9 h9
 by_cases h7 : c.kind = 7
 ·
  exact used_7 h7
 by_cases h193 : c.kind = 193
 ·
  exact used_193 h193
 by_cases h128 : c.kind = 128
 ·
  exact used_128 h128
 exact used_no h0 h1 h2 h3 h4 h5 h10 h15 h6 h9 h7 h193 h128
theorem usedC_0 {c : Ck} (hk : c.kind = 0) : usedC c = { ck0 0 with kind := 0, ptsn := c.ptsn, pstr := c.pstr, pseq := c.pseq, pb := c.pb, pe := c.pe, pu := c.pu, text := c.text } := by simp [usedC, hk]
theorem usedS_0 {c : Ck} (hk : c.kind = 0) (s : Sv) : usedS c s = { sv0 with tA := s.tA, tN := s.tN, tC := s.tC } := by simp [usedS, hk]
theorem usedC_1 {c : Ck} (hk : c.kind = 1) : usedC c = { ck0 1 with kind := 1, tag := c.tag, win := c.win, out := c.out, inn := c.inn, tsn := c.tsn, rand := c.rand, addrs := c.addrs } := by simp [usedC, hk]
theorem usedS_1 {c : Ck} (hk : c.kind = 1) (s : Sv) : usedS c s = { sv0 with rA := s.rA, rN := s.rN, rC := s.rC, aA := s.aA, aN := s.aN, aC := s.aC } := by simp [usedS, hk]
theorem usedC_2 {c : Ck} (hk : c.kind = 2) : usedC c = { ck0 2 with kind := 2, tag := c.tag, win := c.win, out := c.out, inn := c.inn, tsn := c.tsn, rand := c.rand, addrs := c.addrs, info := c.info } := by simp [usedC, hk]
theorem usedS_2 {c : Ck} (hk : c.kind = 2) (s : Sv) : usedS c s = { sv0 with rA := s.rA, rN := s.rN, rC := s.rC, aA := s.aA, aN := s.aN, aC := s.aC, iA := s.iA, iN := s.iN, iC := s.iC } := by simp [usedS, hk]
theorem usedC_3 {c : Ck} (hk : c.kind = 3) : usedC c = { ck0 3 with kind := 3, tsn := c.tsn, win := c.win, gaps := c.gaps, dups := c.dups } := by simp [usedC, hk]
theorem usedS_3 {c : Ck} (hk : c.kind = 3) (s : Sv) : usedS c s = { sv0 with gA := s.gA, gN := s.gN, gC := s.gC, dA := s.dA, dN := s.dN, dC := s.dC } := by simp [usedS, hk]
theorem usedC_4 {c : Ck} (hk : c.kind = 4) : usedC c = { ck0 4 with kind := 4, info := c.info } := by simp [usedC, hk]
theorem usedS_4 {c : Ck} (hk : c.kind = 4) (s : Sv) : usedS c s = { sv0 with iA := s.iA, iN := s.iN, iC := s.iC } := by simp [usedS, hk]
theorem usedC_5 {c : Ck} (hk : c.kind = 5) : usedC c = { ck0 5 with kind := 5, info := c.info } := by simp [usedC, hk]
theorem usedS_5 {c : Ck} (hk : c.kind = 5) (s : Sv) : usedS c s = { sv0 with iA := s.iA, iN := s.iN, iC := s.iC } := by simp [usedS, hk]
theorem usedC_10 {c : Ck} (hk : c.kind = 10) : usedC c = { ck0 10 with kind := 10, info := c.info } := by simp [usedC, hk]
theorem usedS_10 {c : Ck} (hk : c.kind = 10) (s : Sv) : usedS c s = { sv0 with iA := s.iA, iN := s.iN, iC := s.iC } := by simp [usedS, hk]
theorem usedC_15 {c : Ck} (hk : c.kind = 15) : usedC c = { ck0 15 with kind := 15, info := c.info } := by simp [usedC, hk]
theorem usedS_15 {c : Ck} (hk : c.kind = 15) (s : Sv) : usedS c s = { sv0 with iA := s.iA, iN := s.iN, iC := s.iC } := by simp [usedS, hk]
theorem usedC_6 {c : Ck} (hk : c.kind = 6) : usedC c = { ck0 6 with kind := 6, cause := c.cause } := by simp [usedC, hk]
theorem usedS_6 {c : Ck} (hk : c.kind = 6) (s : Sv) : usedS c s = sv0 := by simp [usedS, hk]
theorem usedC_9 {c : Ck} (hk : c.kind = 9) : usedC c = { ck0 9 with kind := 9, cause := c.cause } := by simp [usedC, hk]
theorem usedS_9 {c : Ck} (hk : c.kind = 9) (s : Sv) : usedS c s = sv0 := by simp [usedS, hk]
theorem usedC_7 {c : Ck} (hk : c.kind = 7) : usedC c = { ck0 7 with kind := 7, tsn := c.tsn } := by simp [usedC, hk]
theorem usedS_7 {c : Ck} (hk : c.kind = 7) (s : Sv) : usedS c s = sv0 := by simp [usedS, hk]
theorem usedC_193 {c : Ck} (hk : c.kind = 193) : usedC c = { ck0 193 with kind := 193, serial := c.serial, ops := c.ops } := by simp [usedC, hk]
theorem usedS_193 {c : Ck} (hk : c.kind = 193) (s : Sv) : usedS c s = { sv0 with oA := s.oA, oN := s.oN, oC := s.oC } := by simp [usedS, hk]
theorem usedC_128 {c : Ck} (hk : c.kind = 128) : usedC c = { ck0 128 with kind := 128, serial := c.serial, ok := c.ok } := by simp [usedC, hk]
theorem usedS_128 {c : Ck} (hk : c.kind = 128) (s : Sv) : usedS c s = sv0 := by simp [usedS, hk]
theorem CkAt.used {w : World} {c : Ck} {s : Sv} (h : CkAt w s c) : CkAt w (usedS c s) (usedC c) := by
 have z1 := BytesAt.none w
 have z2 := NumsAt.nothing .i64 w
 have z3 := NumsAt.nothing .u32 w
 have z4 := PairsAt.nil w
 by_cases h0 : c.kind = 0
 ·
  rw [usedC_0 h0, usedS_0 h0]; exact ⟨h.t, z1, z2, z1, z4, z3, z4⟩
 by_cases h1 : c.kind = 1
 ·
  rw [usedC_1 h1, usedS_1 h1]; exact ⟨z1, h.r, h.a, z1, z4, z3, z4⟩
 by_cases h2 : c.kind = 2
 ·
  rw [usedC_2 h2, usedS_2 h2]; exact ⟨z1, h.r, h.a, h.i, z4, z3, z4⟩
 by_cases h3 : c.kind = 3
 ·
  rw [usedC_3 h3, usedS_3 h3]; exact ⟨z1, z1, z2, z1, h.g, h.d, z4⟩
 by_cases h4 : c.kind = 4
 ·
  rw [usedC_4 h4, usedS_4 h4]; exact ⟨z1, z1, z2, h.i, z4, z3, z4⟩
 by_cases h5 : c.kind = 5
 ·
  rw [usedC_5 h5, usedS_5 h5]; exact ⟨z1, z1, z2, h.i, z4, z3, z4⟩
 by_cases h10 : c.kind = 10
 ·
  rw [usedC_10 h10, usedS_10 h10]; exact ⟨z1, z1, z2, h.i, z4, z3, z4⟩
 by_cases h15 : c.kind = 15
 ·
  rw [usedC_15 h15, usedS_15 h15]; exact ⟨z1, z1, z2, h.i, z4, z3, z4⟩
 by_cases h6 : c.kind = 6
 ·
  rw [usedC_6 h6, usedS_6 h6]; exact ⟨z1, z1, z2, z1, z4, z3, z4⟩
 by_cases h9 : c.kind = 9
 ·
  rw [usedC_9 h9, usedS_9 h9]; exact ⟨z1, z1, z2, z1, z4, z3, z4⟩
 by_cases h7 : c.kind = 7
 ·
  rw [usedC_7 h7, usedS_7 h7]; exact ⟨z1, z1, z2, z1, z4, z3, z4⟩
 by_cases h193 : c.kind = 193
 ·
  rw [usedC_193 h193, usedS_193 h193]; exact ⟨z1, z1, z2, z1, z4, z3, h.o⟩
 by_cases h128 : c.kind = 128
 ·
  rw [usedC_128 h128, usedS_128 h128]; exact ⟨z1, z1, z2, z1, z4, z3, z4⟩
 rw [show usedC c = ck0 c.kind by simp [usedC, *], show usedS c s = sv0 by simp [usedS, *]]
 exact ⟨z1, z1, z2, z1, z4, z3, z4⟩
def goodB (c : Ck) : Bool := (((knB c.kind) && (fitsB c)) && (sameB c (usedC c)))
theorem goodC_any {w : World} {c : Ck} {s : Sv} (ha : CkAt w s c) :
  Calls Try.prog 12 #[.agg (CV c s)] w fun e w' => e = .returned (.bool (goodB c)) ∧ Ext w w' := by
 unfold goodB
 go_enter Try.func12, Try.ntmps12
 go_wp2_with (first
  | (refine wl_box (C := CV c s) rfl rfl rfl ?_; intro w1 hb1 he1 hx; clear hx))
 have HA : CkAt w1.drew s c := (ha.ext he1).ext (Ext.drew _)
 have hb1d : Blk w1.drew w.heap.size (CV c s) 38 := hb1
 refine wp_region_facts (fun t => bif Nat.ble 3 t && Nat.ble t 15 then some (t - 3) else bif Nat.beq t 2 then some 13 else none) 16 Ext
  [Is (.pointer (some ⟨w.heap.size, 0, none⟩)),
   Is (.int .i64 c.kind),
   Is (.bool (knB c.kind)),
   Is (.bool (knB c.kind)),
   Under (knB c.kind) (.agg (CV c s)),
   Under (knB c.kind) (.bool (fitsB c)),
   Is (.bool ((knB c.kind) && (fitsB c))),
   Is (.bool ((knB c.kind) && (fitsB c))),
   Under ((knB c.kind) && (fitsB c)) (.agg (CV c s)),
   Under ((knB c.kind) && (fitsB c)) (.agg (CV c s)),
   Under ((knB c.kind) && (fitsB c)) (.agg (CV (usedC c) (usedS c s))),
   Under ((knB c.kind) && (fitsB c)) (.bool (sameB c (usedC c))),
   Is (.bool (((knB c.kind) && (fitsB c)) && (sameB c (usedC c)))),
   Is (.bool (((knB c.kind) && (fitsB c)) && (sameB c (usedC c))))]
  rfl (by kernel_rfl) (by kernel_rfl) rfl Ext.refl (fun _ _ _ => Ext.trans) (Ks (Ks (Ks (Ks (Ku (Ku (Ks (Ks (Ku (Ku (Ku (Ku (Ks (Ks (KeepAll.nil))))))))))))))) ?_ ?_
 ·
  refine Gc (ln1 (gd0 rfl) rfl (ouI rfl) iA (fun r wx hR h1 => by simp [execOp, h1, go_sem])) ?_
  refine Gc (ln1 (gd0 rfl) rfl (ouI rfl) iA (fun r wx hR h1 => exg one3 rfl h1 (cv0 (hb1d.ext hR)))) ?_
  refine Gc ?_ ?_
  ·
   rintro r wx hR ⟨h1, h2, _⟩
   replace h1 : r (.func 22) = .func (.func 22) #[] #[] := h1
   replace h2 : r (.tmp 4) = .int .i64 c.kind := h2
   refine give_func #[.int .i64 c.kind] rfl h1 Try.call22 (by simp [h2]) ?_
   refine (known_any _ _).mono ?_
   rintro e wz ⟨rfl, hez⟩
   exact ⟨_, rfl, hez, rfl⟩
  refine Gc (lmv rfl (.inl rfl) rfl rfl iB) ?_
  refine Gc (ln1 (gT rfl iB) rfl (ouU rfl) iA (fun r wx hR h1 => exec_loadW rowC rfl h1 (hb1d.ext hR) rfl)) ?_
  refine Gc ?_ ?_
  ·
   rintro r wx hR ⟨h1, h2, _⟩
   replace h1 : r (.func 34) = .func (.func 34) #[] #[] := h1
   replace h2 : Under (knB c.kind) (.agg (CV c s)) wx (r (.tmp 7)) := h2
   intro gb hgb
   refine guard_u (C := (knB c.kind)) (b := (knB c.kind)) (want := true) hgb (want_t _) (fun hc => ?_) (fun hc => un_ hc)
   replace h2 := h2.get hc
   refine give_func #[.agg (CV c s)] rfl h1 Try.call34 (by simp [h2]) ?_
   refine (fits_any (HA.ext hR)).mono ?_
   rintro e wz ⟨rfl, hez⟩
   exact ⟨_, rfl, hez, uy hc⟩
  refine Gc (lnA (gd0 rfl) rfl (ouI rfl) iA iD) ?_
  refine Gc (lmv rfl (.inl rfl) rfl rfl iB) ?_
  refine Gc (ln1 (gT rfl iB) rfl (ouU rfl) iA (fun r wx hR h1 => exec_loadW rowC rfl h1 (hb1d.ext hR) rfl)) ?_
  refine Gc (ln1 (gT rfl iB) rfl (ouU rfl) iA (fun r wx hR h1 => exec_loadW rowC rfl h1 (hb1d.ext hR) rfl)) ?_
  refine Gc ?_ ?_
  ·
   rintro r wx hR ⟨h1, h2, _⟩
   replace h1 : r (.func 35) = .func (.func 35) #[] #[] := h1
   replace h2 : Under ((knB c.kind) && (fitsB c)) (.agg (CV c s)) wx (r (.tmp 12)) := h2
   intro gb hgb
   refine guard_u (C := ((knB c.kind) && (fitsB c))) (b := ((knB c.kind) && (fitsB c))) (want := true) hgb (want_t _) (fun hc => ?_) (fun hc => un_ hc)
   replace h2 := h2.get hc
   refine give_func #[.agg (CV c s)] rfl h1 Try.call35 (by simp [h2]) ?_
   refine (used_any c s).mono ?_
   rintro e wz ⟨rfl, hez⟩
   exact ⟨_, rfl, hez, uy hc⟩
  refine Gc ?_ ?_
  ·
   rintro r wx hR ⟨h1, h2, h3, _⟩
   replace h1 : r (.func 25) = .func (.func 25) #[] #[] := h1
   replace h2 : Under ((knB c.kind) && (fitsB c)) (.agg (CV c s)) wx (r (.tmp 11)) := h2
   replace h3 : Under ((knB c.kind) && (fitsB c)) (.agg (CV (usedC c) (usedS c s))) wx (r (.tmp 13)) := h3
   intro gb hgb
   refine guard_u (C := ((knB c.kind) && (fitsB c))) (b := ((knB c.kind) && (fitsB c))) (want := true) hgb (want_t _) (fun hc => ?_) (fun hc => un_ hc)
   replace h2 := h2.get hc
   replace h3 := h3.get hc
   refine give_func #[.agg (CV c s), .agg (CV (usedC c) (usedS c s))] rfl h1 Try.call25 (by simp [h2, h3]) ?_
   refine (same_any (HA.ext hR) (HA.used.ext hR)).mono ?_
   rintro e wz ⟨rfl, hez⟩
   exact ⟨_, rfl, hez, uy hc⟩
  refine Gc (lnA (gd0 rfl) rfl (ouI rfl) iA iD) ?_
  refine Gc (lmv rfl (.inr rfl) rfl rfl iB) ?_
  exact GoodAll.nil
 ·
  intro vs wE aE hR hold haE
  have hv : vs 13 = .bool (((knB c.kind) && (fitsB c)) && (sameB c (usedC c))) := hold.at 13
  refine ‹∀ (a : Act) (w : World), Code.wp Try.prog Code.ret _ a w → _› _ _ ?_
  refine wp_ret ?_
  have hs : aE.tmps[2]? = some (.bool (((knB c.kind) && (fitsB c)) && (sameB c (usedC c)))) := by rw [haE, ← hv]; kernel_rfl
  have hdf : aE.defers = [] := by rw [haE]; exact putAll_defers _ _ _ _
  clear haE
  refine bodyPost_ret (v := .bool (((knB c.kind) && (fitsB c)) && (sameB c (usedC c)))) ?_ hdf ⟨rfl, he1.trans ((Ext.drew _).trans hR)⟩
  simp [results, Try.results12, go_sem, hs]
def OC (w0 w : World) (g : Nat) (l : List Nat) : Prop := w0.heap.size ≤ g ∧ Ext w0 w ∧ ∃ v, OutAt w w0.heap.size g v l
theorem OC.ext {w0 w w' : World} {g : Nat} {l : List Nat} (h : OC w0 w g l) (he : Ext w w') : OC w0 w' g l := by
 obtain ⟨h1, h2, v, h3⟩ := h
 exact ⟨h1, h2.trans he, v, h3.ext he⟩
theorem OC.out {w0 w : World} {g : Nat} {l : List Nat} (h : OC w0 w g l) : Ext w0 w := h.2.1
theorem OC.new {w w1 : World} (hb : Blk w1 w.heap.size #[.slice none 0 0] 74) (he : Ext w w1) : OC w w1 w.heap.size [] :=
 ⟨Nat.le_refl _, he, _, hb, OB.nil _ _⟩
def Kept (g : Nat) (w w' : World) : Prop := ∀ q C t, Blk w q C t → t ≠ 5 → q ≠ g → Blk w' q C t
theorem Kept.trans {g : Nat} {a b c : World} (h : Kept g a b) (k : Kept g b c) : Kept g a c := fun q C t h1 h2 h3 => k q C t (h q C t h1 h2 h3) h2 h3
theorem Kept.ext {g : Nat} {a b : World} (h : Ext a b) : Kept g a b := fun q C t h1 _ _ => h1.ext h
def PutIs (w0 w : World) (g : Nat) (l : List Nat) (e : Ending) (w' : World) : Prop := (∃ y, e = .returned y) ∧ OC w0 w' g l ∧ Kept g w w'
theorem ocNum {w0 w : World} {g : Nat} {l : List Nat} (h : OC w0 w g l) (N : Nat) (n : Int) (hl : l.length ≤ 900000) :
  Calls Try.prog 27 #[ptr g, .int .u64 (N : Int), .int .i64 n] w (PutIs w0 w g (l ++ numB N n)) := by
 obtain ⟨h1, h2, v, h3⟩ := h
 refine (outNum_any h3 N n hl h2.size).mono ?_
 rintro e w' ⟨hy, v', h4, hm⟩
 exact ⟨hy, ⟨h1, hm.extO h3 h2 (Nat.le_refl _) h1, v', h4⟩, fun q C t hb ht hq => hm.blk h3 hb ht hq⟩
theorem ocPut {w0 w : World} {g : Nat} {l m : List Nat} {x : Value} (h : OC w0 w g l) (hx : BytesAt w x m) (hl : l.length + m.length ≤ 1000000) :
  Calls Try.prog 29 #[ptr g, x] w (PutIs w0 w g (l ++ m)) := by
 obtain ⟨h1, h2, v, h3⟩ := h
 refine (outPut_any h3 hx hl h2.size).mono ?_
 rintro e w' ⟨hy, v', h4, hm⟩
 exact ⟨hy, ⟨h1, hm.extO h3 h2 (Nat.le_refl _) h1, v', h4⟩, fun q C t hb ht hq => hm.blk h3 hb ht hq⟩
theorem ocPad {w0 w : World} {g : Nat} {l : List Nat} (h : OC w0 w g l) (hl : l.length ≤ 900000) :
  Calls Try.prog 30 #[ptr g] w (PutIs w0 w g (padB l)) := by
 obtain ⟨h1, h2, v, h3⟩ := h
 refine (outPad_any h3 hl h2.size).mono ?_
 rintro e w' ⟨hy, v', h4, hm⟩
 exact ⟨hy, ⟨h1, hm.extO h3 h2 (Nat.le_refl _) h1, v', h4⟩, fun q C t hb ht hq => hm.blk h3 hb ht hq⟩
theorem ocBytes {w0 w : World} {g : Nat} {l : List Nat} (h : OC w0 w g l) (hl : l.length ≤ 1000000) :
  Calls Try.prog 31 #[ptr g] w fun e w' => ∃ a n c, e = .returned (.slice a n c) ∧ n = l.length ∧ OB w' w0.heap.size (.slice a n c) l ∧ Ext w w' := by
 obtain ⟨h1, h2, v, h3⟩ := h
 refine (outBytes_any h3 hl).mono ?_
 rintro e w' ⟨a, n, c, rfl, hn, ho, he⟩
 exact ⟨a, n, c, rfl, hn, ho.base h2.size, he⟩
theorem writeB_one (p : Par) : writeB [p] = parB p := by simp [writeB]
theorem parB_le (p : Par) (h : p.2.length ≤ 4000) : (parB p).length ≤ 4010 := by rw [parB_len]; have := pads_lt p.2.length; omega
theorem putParam_any {w0 w : World} {g : Nat} {l m : List Nat} {a : Option Addr} {n cp : Nat} (h : OC w0 w g l) (K : Int) (hK : 0 ≤ K ∧ K ≤ 65535) (hu : BytesAt w (.slice a n cp) m) (hm : m.length ≤ 4000) (hl : l.length ≤ 100000) :
  Calls Try.prog 63 #[ptr g, .int .i64 K, .slice a n cp] w (PutIs w0 w g (l ++ parB (K, m))) := by
 have HX : Hid (OC w0 w g l ∧ BytesAt w (.slice a n cp) m ∧ l.length ≤ 100000 ∧ (writeB [(K, m)]).length ≤ 700000 ∧ ∀ p ∈ [(K, m)], goodP p = true) :=
  ⟨h, hu, hl, by rw [writeB_one]; have := parB_le (K, m) hm; omega, fun p hp => by simp at hp; subst hp; exact (goodP_iff _).2 ⟨hK.1, hK.2, hm⟩⟩
 clear h hu hl hK hm
 go_enter Try.func63, Try.ntmps63
 go_wp2_with (first
  | (go_at_call 89; refine (write_good (L := [(K, m)]) (ParsAt.one w _ rfl HX.out.2.1) HX.out.2.2.2.1 (by simp) HX.out.2.2.2.2).mono ?_; rintro e w2 ⟨he2, a2, n2, c2, rfl, hn2, ho2⟩; rw [writeB_one] at ho2; clear hn2; have HE2 : Hid (Ext w w2) := (Ext.alloc _ _).trans he2; clear he2)
  | (go_at_call 29; refine (ocPut (HX.out.1.ext HE2.out) ho2.bytes (by have := parB_le (K, m) ((goodP_iff _).1 (HX.out.2.2.2.2 _ (List.mem_singleton.2 rfl))).2.2; have := HX.out.2.2.1; omega)).mono ?_; rintro e w3 ⟨⟨y, rfl⟩, h3, k3⟩))
 go_end0
 exact ⟨⟨_, rfl⟩, h3, (Kept.ext HE2.out).trans k3⟩
theorem numB4 (N : Nat) : numB N 4 = be N 4 := rfl
theorem numB1 (N : Nat) : numB N 1 = be N 1 := rfl
theorem putAddr_any {w0 w : World} {g : Nat} {l : List Nat} (h : OC w0 w g l) (K : Int) (hK : 0 ≤ K ∧ K ≤ 65535) (A : Nat) (hA : A < 2147483648) (hl : l.length ≤ 100000) :
  Calls Try.prog 88 #[ptr g, .int .i64 K, .int .i64 (A : Int)] w (PutIs w0 w g (l ++ parB (K, be A 4))) := by
 have hc : IntKind.u64.wrap (A : Int) = (A : Int) := by rw [IntKind.wrap_u64]; omega
 have HX : Hid (OC w0 w g l ∧ l.length ≤ 100000 ∧ (0 ≤ K ∧ K ≤ 65535)) := ⟨h, hl, hK⟩
 clear h hl hK
 go_enter Try.func88, Try.ntmps88
 go_wp2_with (first
  | (refine wl_alloc rfl rfl zeroO ?_; intro w1 hb1 he1 hx; clear hx; have hV := OC.new hb1 he1; clear hb1; have HE1 : Hid (Ext w w1) := he1; clear he1)
  | (go_at_call 27; refine (ocNum hV A 4 (by simp)).mono ?_; rintro e w2 ⟨⟨y, rfl⟩, hV2, k2⟩; rw [List.nil_append, numB4] at hV2)
  | (go_at_call 31; refine (ocBytes hV2 (by rw [be_len]; omega)).mono ?_; rintro e w3 ⟨a3, n3, c3, rfl, hn3, ho3, he3⟩; clear hn3)
  | (go_at_call 63; refine (putParam_any ((HX.out.1.ext hV2.out).ext he3) K HX.out.2.2 ho3.bytes (by rw [be_len]; omega) HX.out.2.1).mono ?_; rintro e w4 ⟨⟨y4, rfl⟩, h4, k4⟩))
 go_end0
 exact ⟨⟨_, rfl⟩, h4, fun q C t hb ht hq => k4 q C t ((k2 q C t (hb.ext HE1.out) ht (Nat.ne_of_lt hb.lt)).ext he3) ht hq⟩
theorem flagsOf_any (c : Ck) (s : Sv) (w : World) : Calls Try.prog 28 #[.agg (PV c s)] w fun e w' => e = .returned (.int .u64 (flagN c.pb c.pe c.pu : Nat)) ∧ Ext w w' := by
 cases h1 : c.pb <;> cases h2 : c.pe <;> cases h3 : c.pu
 all_goals
  go_enter Try.func28, Try.ntmps28
  go_wp2_with (first
   | (refine wl_box (C := PV c s) rfl rfl rfl ?_; intro w1 hb1 he1 hx; clear hx; have c3 := pv3 hb1; have c4 := pv4 hb1; have c5 := pv5 hb1))
  go_ret
  exact ⟨rfl, he1⟩
def pAddrs (L : List Int) : List Par := L.map fun a => (5, be a.toNat 4)
def pOps (L : List (Int × Int)) : List Par := L.map fun p => (49152 + p.1, be p.2.toNat 4)
def startV (c : Ck) : List Nat := be c.tag 4 ++ (be c.win.toNat 4 ++ (be c.out.toNat 2 ++ (be c.inn.toNat 2 ++ (be c.tsn 4 ++ (parB (32770, c.rand) ++ (writeB (pAddrs c.addrs) ++ if c.kind = 2 then parB (7, c.info) else []))))))
theorem take_snocD {α : Type} (d : α) {L : List α} {k : Nat} (h : k < L.length) : L.take (k + 1) = L.take k ++ [L.getD k d] := by
 rw [List.take_succ_eq_append_getElem h]; simp [List.getD_eq_getElem?_getD, h]
theorem pAddrs_snoc {L : List Int} {k : Nat} (h : k < L.length) : writeB (pAddrs (L.take (k + 1))) = writeB (pAddrs (L.take k)) ++ parB (5, be (L.getD k 0).toNat 4) := by
 rw [take_snocD 0 h]; simp [pAddrs, writeB]
theorem pOps_snoc {L : List (Int × Int)} {k : Nat} (h : k < L.length) : writeB (pOps (L.take (k + 1))) = writeB (pOps (L.take k)) ++ parB (49152 + (L.getD k (0, 0)).1, be (L.getD k (0, 0)).2.toNat 4) := by
 rw [take_snocD (0, 0) h]; simp [pOps, writeB]
theorem pAddrs_len (L : List Int) (k : Nat) : (writeB (pAddrs (L.take k))).length ≤ 8 * k := by
 induction k with
 | zero => simp [pAddrs, writeB]
 | succ k ih =>
  rcases Nat.lt_or_ge k L.length with h | h
  ·
   rw [pAddrs_snoc h, List.length_append, parB_len, be_len]; have : pads 4 = 0 := rfl; simp only [this]; omega
  ·
   rw [List.take_of_length_le (by omega)]; rw [List.take_of_length_le h] at ih; omega
theorem pOps_len (L : List (Int × Int)) (k : Nat) : (writeB (pOps (L.take k))).length ≤ 8 * k := by
 induction k with
 | zero => simp [pOps, writeB]
 | succ k ih =>
  rcases Nat.lt_or_ge k L.length with h | h
  ·
   rw [pOps_snoc h, List.length_append, parB_len, be_len]; have : pads 4 = 0 := rfl; simp only [this]; omega
  ·
   rw [List.take_of_length_le (by omega)]; rw [List.take_of_length_le h] at ih; omega
theorem all_getD {α : Type} {f : α → Bool} {L : List α} (h : L.all f = true) (d : α) {k : Nat} (hk : k < L.length) : f (L.getD k d) = true := List.all_eq_true.1 h _ (getD_mem L d k hk)
theorem adB_nat {a : Int} (h : adB a = true) : ∃ A : Nat, a = (A : Int) ∧ A < 2147483648 := by
 have := (inB_iff _ _ _).1 h
 exact ⟨a.toNat, by omega, by omega⟩
theorem putStart_any {w0 w : World} {g : Nat} {l : List Nat} {c : Ck} {s : Sv} (h : OC w0 w g l) (hc : CkAt w0 s c) (hf : Fit c) (hl : l.length ≤ 1000)
  (hw : 0 ≤ c.win ∧ c.win ≤ 2147483647) (ho : 0 ≤ c.out ∧ c.out ≤ 8) (hi : 0 ≤ c.inn ∧ c.inn ≤ 8) (hr : c.rand.length ≤ 64) (han : c.addrs.length ≤ 4) (had : adsB c.addrs = true) (hin : c.info.length ≤ 300) :
  Calls Try.prog 61 #[ptr g, .agg (CV c s)] w (PutIs w0 w g (l ++ startV c)) := by
 obtain ⟨W, hW⟩ : ∃ W : Nat, c.win = (W : Int) := ⟨c.win.toNat, by omega⟩
 obtain ⟨O, hO⟩ : ∃ W : Nat, c.out = (W : Int) := ⟨c.out.toNat, by omega⟩
 obtain ⟨I, hI⟩ : ∃ W : Nat, c.inn = (W : Int) := ⟨c.inn.toNat, by omega⟩
 have hgq : w.heap.size ≠ g := by obtain ⟨_, _, v, hv⟩ := h; exact (Nat.ne_of_lt hv.blk.lt).symm
 have HX : Hid (CkAt w0 s c ∧ Fit c ∧ l.length ≤ 1000 ∧ w.heap.size ≠ g ∧ c.rand.length ≤ 4000 ∧ c.addrs.length ≤ 4 ∧ adsB c.addrs = true ∧ c.info.length ≤ 300) := ⟨hc, hf, hl, hgq, by omega, han, had, hin⟩
 have HC : Hid (CkAt w0 s c) := hc
 have HV : Hid (startV c = be c.tag 4 ++ (be W 4 ++ (be O 2 ++ (be I 2 ++ (be c.tsn 4 ++ (parB (32770, c.rand) ++ (writeB (pAddrs c.addrs) ++ if c.kind = 2 then parB (7, c.info) else []))))))) := show _ = _ by
  unfold startV; rw [hW, hO, hI]; rfl
 have wW : IntKind.u64.wrap (W : Int) = (W : Int) := by rw [IntKind.wrap_u64]; omega
 have wO : IntKind.u64.wrap (O : Int) = (O : Int) := by rw [IntKind.wrap_u64]; omega
 have wI : IntKind.u64.wrap (I : Int) = (I : Int) := by rw [IntKind.wrap_u64]; omega
 have wT : IntKind.u64.wrap (c.tag : Int) = (c.tag : Int) := by rw [IntKind.wrap_u64]; have := hf.tag; omega
 have wN : IntKind.u64.wrap (c.tsn : Int) = (c.tsn : Int) := by rw [IntKind.wrap_u64]; have := hf.tsn; omega
 have h0 := h
 have hN : Hid (s.aN = c.addrs.length) := (nums_len hc.a).1
 clear h hc hf hl hw ho hi hr han had hin hgq
 go_enter Try.func61, Try.ntmps61
 go_wp2_with (first
  | (go_at_call 63; refine (putParam_any st6 32770 (by decide) (HC.out.r.ext st6.out) HX.out.2.2.2.2.1 (by have := HX.out.2.2.1; simp only [List.length_append, be_len]; omega)).mono ?_; rintro e w7 ⟨⟨y7, rfl⟩, st7, kk⟩; replace hb := kk _ _ _ hb (by decide) HX.out.2.2.2.1; replace HK : Hid (Kept g w w7) := HK.out.trans kk; clear kk; have c14_7 := cv14 hb)
  | (have q := st5; clear q; go_at_call 27; refine (ocNum st5 c.tsn 4 (by have := HX.out.2.2.1; (try simp only [List.length_append, be_len]); omega)).mono ?_; rintro e w6 ⟨⟨y6, rfl⟩, st6, kk⟩; rw [numB4] at st6; replace hb := kk _ _ _ hb (by decide) HX.out.2.2.2.1; replace HK : Hid (Kept g w w6) := HK.out.trans kk; clear kk; have c13_6 := cv13 hb)
  | (have q := st4; clear q; go_at_call 27; refine (ocNum st4 I 2 (by have := HX.out.2.2.1; (try simp only [List.length_append, be_len]); omega)).mono ?_; rintro e w5 ⟨⟨y5, rfl⟩, st5, kk⟩; rw [numB2] at st5; replace hb := kk _ _ _ hb (by decide) HX.out.2.2.2.1; replace HK : Hid (Kept g w w5) := HK.out.trans kk; clear kk; have c12_5 := cv12 hb)
  | (have q := st3; clear q; go_at_call 27; refine (ocNum st3 O 2 (by have := HX.out.2.2.1; (try simp only [List.length_append, be_len]); omega)).mono ?_; rintro e w4 ⟨⟨y4, rfl⟩, st4, kk⟩; rw [numB2] at st4; replace hb := kk _ _ _ hb (by decide) HX.out.2.2.2.1; replace HK : Hid (Kept g w w4) := HK.out.trans kk; clear kk; have c11_4 := cv11 hb)
  | (have q := st2; clear q; go_at_call 27; refine (ocNum st2 W 4 (by have := HX.out.2.2.1; (try simp only [List.length_append, be_len]); omega)).mono ?_; rintro e w3 ⟨⟨y3, rfl⟩, st3, kk⟩; rw [numB4] at st3; replace hb := kk _ _ _ hb (by decide) HX.out.2.2.2.1; replace HK : Hid (Kept g w w3) := HK.out.trans kk; clear kk; have c10_3 := cv10 hb)
  | (have q := st1; clear q; go_at_call 27; refine (ocNum st1 c.tag 4 (by have := HX.out.2.2.1; (try simp only [List.length_append, be_len]); omega)).mono ?_; rintro e w2 ⟨⟨y2, rfl⟩, st2, kk⟩; rw [numB4] at st2; replace hb := kk _ _ _ hb (by decide) HX.out.2.2.2.1; replace HK : Hid (Kept g w w2) := HK.out.trans kk; clear kk; have c9_2 := cv9 hb)
  | (refine wl_box (C := CV c s) rfl rfl rfl ?_; intro w1 hb he1 hx; clear hx; have st1 := h0.ext he1; have HK : Hid (Kept g w w1) := Kept.ext he1; clear he1; have c8_1 := cv8 hb))
 rw [show (((((l ++ be c.tag 4) ++ be W 4) ++ be O 2) ++ be I 2) ++ be c.tsn 4) ++ parB (32770, c.rand) = l ++ (be c.tag 4 ++ (be W 4 ++ (be O 2 ++ (be I 2 ++ (be c.tsn 4 ++ parB (32770, c.rand)))))) by simp only [List.append_assoc]] at st7
 obtain ⟨L7, hL7⟩ : ∃ L, L = l ++ (be c.tag 4 ++ (be W 4 ++ (be O 2 ++ (be I 2 ++ (be c.tsn 4 ++ parB (32770, c.rand)))))) := ⟨_, rfl⟩
 rw [← hL7] at st7
 have HL7 : Hid (l ++ startV c = L7 ++ (writeB (pAddrs c.addrs) ++ if c.kind = 2 then parB (7, c.info) else []) ∧ L7.length ≤ 6000) := ⟨by rw [HV.out, hL7]; simp only [List.append_assoc], by
  rw [hL7]
  have h1 := parB_le (32770, c.rand) HX.out.2.2.2.2.1
  have h2 := HX.out.2.2.1
  simp only [List.length_append, be_len]; omega⟩
 clear hL7 st1 st2 st3 st4 st5 st6 c8_1 c9_2 c10_3 c11_4 c12_5 c13_6 c14_7 wW wO wI wT wN hW hO hI HV
 have HS : Hid (OC w0 w7 g L7 ∧ Blk w7 w.heap.size (CV c s) 38 ∧ Kept g w w7) := ⟨st7, hb, HK.out⟩
 clear st7 hb HK
 obtain ⟨aA, haA⟩ : ∃ x, x = s.aA := ⟨_, rfl⟩
 obtain ⟨n, hn⟩ : ∃ n, n = c.addrs.length := ⟨_, rfl⟩
 rw [hN.out, ← hn, ← haA]
 have HAt : Hid (NumsAt .i64 w0 (.slice aA n s.aC) c.addrs) := show NumsAt .i64 w0 _ _ by rw [haA, hn, ← hN.out]; exact HC.out.a
 clear haA
 have hn4 : n ≤ 4 := by rw [hn]; exact HX.out.2.2.2.2.2.1
 have HN : Hid (n = c.addrs.length) := hn
 clear hn
 go_loopg [38] n (fun gm t wr => ∃ k : Nat, k ≤ n ∧ gm = n - k ∧ t = .int .i64 (k : Int) ∧ Hid (OC w0 wr g (L7 ++ writeB (pAddrs (c.addrs.take k))) ∧ Blk wr w.heap.size (CV c s) 38 ∧ Kept g w wr))
 case atStart => exact ⟨0, Nat.zero_le _, rfl, rfl, by rw [show L7 ++ writeB (pAddrs (c.addrs.take 0)) = L7 by simp [pAddrs, writeB]]; exact HS.out.1, HS.out.2.1, HS.out.2.2⟩
 case round =>
  obtain ⟨k, hk, rfl, rfl, HR⟩ := hrel
  by_cases hlt : k < n
  ·
   have hd : decide ((k : Int) < (n : Int)) = true := decide_eq_true (by omega)
   have hkL : k < c.addrs.length := by rw [← HN.out]; exact hlt
   have hkn : (k : Int) < (n : Int) := by omega
   obtain ⟨b, off, rfl, hc0⟩ := HAt.out.cellAt k hkL
   obtain ⟨A, hA, hA2⟩ := adB_nat (all_getD HX.out.2.2.2.2.2.2.1 0 hkL)
   replace hc0 := HR.out.1.out.cell hc0
   rw [hA] at hc0
   have HA : Hid (writeB (pAddrs (c.addrs.take (k + 1))) = writeB (pAddrs (c.addrs.take k)) ++ parB (5, be A 4)) := show _ = _ by rw [pAddrs_snoc hkL, hA]; rfl
   clear hA hkL
   go_wp2_with (first
    | (go_at_call 88; refine (putAddr_any HR.out.1 5 (by decide) A hA2 (by have h1 := pAddrs_len c.addrs k; have h2 := HL7.out.2; rw [List.length_append]; omega)).mono ?_; rintro e w8 ⟨⟨y8, rfl⟩, st8, k8⟩))
   go_roundg (n - (k + 1))
   case measure => omega
   case rel => exact ⟨k + 1, by omega, rfl, by simp, by rw [HA.out, ← List.append_assoc]; exact st8, k8 _ _ _ HR.out.2.1 (by decide) HX.out.2.2.2.1, HR.out.2.2.trans k8⟩
  ·
   have hd : decide ((k : Int) < (n : Int)) = false := decide_eq_false (by omega)
   have c0 := cv0 HR.out.2.1
   have c15 := cv15 HR.out.2.1
   have HE : Hid (OC w0 wr g (L7 ++ writeB (pAddrs c.addrs)) ∧ (L7 ++ writeB (pAddrs c.addrs)).length ≤ 7000) := by
    have h1 := HR.out.1
    rw [List.take_of_length_le (by rw [← HN.out]; omega)] at h1
    refine ⟨h1, ?_⟩
    have h2 := pAddrs_len c.addrs n
    rw [List.take_of_length_le (by rw [← HN.out]; exact Nat.le_refl _)] at h2
    have h3 := HL7.out.2
    rw [List.length_append]; omega
   by_cases hk2 : c.kind = 2
   ·
    go_wp2_with (first
     | (go_at_call 63; refine (putParam_any HE.out.1 7 (by decide) (HC.out.i.ext HE.out.1.out) (by have := HX.out.2.2.2.2.2.2.2; omega) (by have := HE.out.2; omega)).mono ?_; rintro e w9 ⟨⟨y9, rfl⟩, st9, k9⟩))
    go_end0
    exact ⟨⟨_, rfl⟩, by rw [HL7.out.1, if_pos hk2, ← List.append_assoc]; exact st9, HR.out.2.2.trans k9⟩
   ·
    have hk2' : (c.kind == 2) = false := beq_false_of_ne hk2
    go_wp2
    go_end0
    exact ⟨⟨_, rfl⟩, by rw [HL7.out.1, if_neg hk2, List.append_nil]; exact HE.out.1, HR.out.2.2⟩
end Tlv
end Go.Proofs.Ytigocaconkbalaa
