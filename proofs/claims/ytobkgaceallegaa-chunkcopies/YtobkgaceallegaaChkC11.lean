/- Texts of the seat, one behind the other. No condition of its own. -/
import Derived.Test.YtobkgaceallegaaChkC10
/- A chunk in new memory. No condition of its own. -/
namespace Go.Proofs.Ytobkgaceallegaa
namespace Tlv
open Go Go.RowKit
set_option linter.unusedVariables false
set_option linter.unusedSimpArgs false
set_option maxRecDepth 100000


/-- Its lists are no longer than 3000. -/
structure Small (c : Ck) : Prop where
  text : c.text.length ≤ 3000
  rand : c.rand.length ≤ 3000
  addrs : c.addrs.length ≤ 3000
  info : c.info.length ≤ 3000
  gaps : c.gaps.length ≤ 3000
  dups : c.dups.length ≤ 3000
  ops : c.ops.length ≤ 3000
/-- Its lists of bytes lie apart. -/
def Dist (s : Sv) : Prop :=
  (∀ g, (Value.slice s.tA s.tN s.tC).ownBlock = some g → (Value.slice s.rA s.rN s.rC).ownBlock ≠ some g) ∧ (∀ g, (Value.slice s.tA s.tN s.tC).ownBlock = some g → (Value.slice s.iA s.iN s.iC).ownBlock ≠ some g) ∧ (∀ g, (Value.slice s.rA s.rN s.rC).ownBlock = some g → (Value.slice s.iA s.iN s.iC).ownBlock ≠ some g)
def CopyIs (w : World) (c : Ck) (e : Ending) (w' : World) : Prop := ∃ s, e = .returned (.agg (CV c s)) ∧ OwnC w' w.heap.size s c ∧ Dist s ∧ Ext w w'
set_option maxHeartbeats 16000000 in
theorem copy_any {w : World} {c : Ck} {s : Sv} (ha : CkAt w s c) (hs : Small c) :
    Calls Try.prog 24 #[.agg (CV c s)] w (CopyIs w c) := by
  have HA : Hid (CkAt w s c ∧ Small c) := ⟨ha, hs⟩
  clear ha hs
  go_enter Try.func24, Try.ntmps24
  go_wp2_with (first
    | (have q := hb7; clear q; refine wl_load rfl rowC rfl rfl hb7 rfl ?_)
    | (have q := hb7; clear q; refine wl_store (D := CV c { tA := a0, tN := n0, tC := c0, rA := a1, rN := n1, rC := c1, aA := a2, aN := n2, aC := c2, iA := a3, iN := n3, iC := c3, gA := a4, gN := n4, gC := c4, dA := a5, dN := n5, dC := c5, oA := a6, oN := n6, oC := c6 }) rfl rowC rfl rfl rfl hr7 rfl rfl (CV.one _ _) ?_; intro w9 hb9 hk9 hx9; clear hx9; have hO9 := hO7.but hk9 hr7 noCk; have HE9 : Hid (Ext w w9) := HE7.out.of_but hk9 (fun g e => by subst e; exact Nat.le_of_lt HQ.out))
    | (have q := st6; clear q; go_at_call 55; refine (copiedO_any (HA.out.1.o.ext HE6.out) (by have := HA.out.2.ops; omega)).mono ?_; rintro e wa6 ⟨a6, n6, c6, rfl, ho6, he6⟩; have hP6 : OwnC wa6 w.heap.size ({ tA := a0, tN := n0, tC := c0, rA := a1, rN := n1, rC := c1, aA := a2, aN := n2, aC := c2, iA := a3, iN := n3, iC := c3, gA := a4, gN := n4, gC := c4, dA := a5, dN := n5, dC := c5, oA := a6, oN := n6, oC := c6 } : Sv) ({ ck0 c.kind with text := c.text, rand := c.rand, addrs := c.addrs, info := c.info, gaps := c.gaps, dups := c.dups, ops := c.ops }) := ⟨hO6.t.ext he6, hO6.r.ext he6, hO6.a.ext he6, hO6.i.ext he6, hO6.g.ext he6, hO6.d.ext he6, ho6.base HE6.out.size⟩; have hbA6 := hb6.ext he6; have hrA6 := hr6.ext he6; have HEa6 : Hid (Ext w wa6) := HE6.out.trans he6)
    | (have q := hP6; clear q; refine wl_set (v := .slice a6 n6 c6) rfl oneSO rfl rfl rfl rfl rfl hbA6 (of_decide_eq_true rfl) ?_; intro wb6 hbx hkx hx; clear hx; have hb7 : Blk wb6 w.heap.size (CV c { tA := a0, tN := n0, tC := c0, rA := a1, rN := n1, rC := c1, aA := a2, aN := n2, aC := c2, iA := a3, iN := n3, iC := c3, gA := a4, gN := n4, gC := c4, dA := a5, dN := n5, dC := c5, oA := a6, oN := n6, oC := c6 }) 38 := hbx; have hr7 := hrA6.but hkx (show ¬ _ = _ from Nat.ne_of_gt HQ.out); have hO7 := hP6.but hkx hbA6 noCk; have HE7 : Hid (Ext w wb6) := HEa6.out.of_but hkx (fun g e => by subst e; exact Nat.le_refl _); have st7 : True := trivial; clear hbx hkx)
    | (have q := st5; clear q; go_at_call 54; refine (copiedD_any (HA.out.1.d.ext HE5.out) (by have := HA.out.2.dups; rw [ci_len]; omega)).mono ?_; rintro e wa5 ⟨a5, n5, c5, rfl, ho5, he5⟩; have hP5 : OwnC wa5 w.heap.size ({ tA := a0, tN := n0, tC := c0, rA := a1, rN := n1, rC := c1, aA := a2, aN := n2, aC := c2, iA := a3, iN := n3, iC := c3, gA := a4, gN := n4, gC := c4, dA := a5, dN := n5, dC := c5, oA := none, oN := 0, oC := 0 } : Sv) ({ ck0 c.kind with text := c.text, rand := c.rand, addrs := c.addrs, info := c.info, gaps := c.gaps, dups := c.dups }) := ⟨hO5.t.ext he5, hO5.r.ext he5, hO5.a.ext he5, hO5.i.ext he5, hO5.g.ext he5, ho5.base HE5.out.size, hO5.o.ext he5⟩; have hbA5 := hb5.ext he5; have hrA5 := hr5.ext he5; have HEa5 : Hid (Ext w wa5) := HE5.out.trans he5)
    | (have q := hP5; clear q; refine wl_set (v := .slice a5 n5 c5) rfl oneSD rfl rfl rfl rfl rfl hbA5 (of_decide_eq_true rfl) ?_; intro wb5 hbx hkx hx; clear hx; have hb6 : Blk wb5 w.heap.size (CV c { tA := a0, tN := n0, tC := c0, rA := a1, rN := n1, rC := c1, aA := a2, aN := n2, aC := c2, iA := a3, iN := n3, iC := c3, gA := a4, gN := n4, gC := c4, dA := a5, dN := n5, dC := c5, oA := s.oA, oN := s.oN, oC := s.oC }) 38 := hbx; have hr6 := hrA5.but hkx (show ¬ _ = _ from Nat.ne_of_gt HQ.out); have hO6 := hP5.but hkx hbA5 noCk; have HE6 : Hid (Ext w wb5) := HEa5.out.of_but hkx (fun g e => by subst e; exact Nat.le_refl _); have st6 : True := trivial; clear hbx hkx; have d6 := cv20 hb6)
    | (have q := st4; clear q; go_at_call 53; refine (copiedG_any (HA.out.1.g.ext HE4.out) (by have := HA.out.2.gaps; omega)).mono ?_; rintro e wa4 ⟨a4, n4, c4, rfl, ho4, he4⟩; have hP4 : OwnC wa4 w.heap.size ({ tA := a0, tN := n0, tC := c0, rA := a1, rN := n1, rC := c1, aA := a2, aN := n2, aC := c2, iA := a3, iN := n3, iC := c3, gA := a4, gN := n4, gC := c4, dA := none, dN := 0, dC := 0, oA := none, oN := 0, oC := 0 } : Sv) ({ ck0 c.kind with text := c.text, rand := c.rand, addrs := c.addrs, info := c.info, gaps := c.gaps }) := ⟨hO4.t.ext he4, hO4.r.ext he4, hO4.a.ext he4, hO4.i.ext he4, ho4.base HE4.out.size, hO4.d.ext he4, hO4.o.ext he4⟩; have hbA4 := hb4.ext he4; have hrA4 := hr4.ext he4; have HEa4 : Hid (Ext w wa4) := HE4.out.trans he4)
    | (have q := hP4; clear q; refine wl_set (v := .slice a4 n4 c4) rfl oneSG rfl rfl rfl rfl rfl hbA4 (of_decide_eq_true rfl) ?_; intro wb4 hbx hkx hx; clear hx; have hb5 : Blk wb4 w.heap.size (CV c { tA := a0, tN := n0, tC := c0, rA := a1, rN := n1, rC := c1, aA := a2, aN := n2, aC := c2, iA := a3, iN := n3, iC := c3, gA := a4, gN := n4, gC := c4, dA := s.dA, dN := s.dN, dC := s.dC, oA := s.oA, oN := s.oN, oC := s.oC }) 38 := hbx; have hr5 := hrA4.but hkx (show ¬ _ = _ from Nat.ne_of_gt HQ.out); have hO5 := hP4.but hkx hbA4 noCk; have HE5 : Hid (Ext w wb4) := HEa4.out.of_but hkx (fun g e => by subst e; exact Nat.le_refl _); have st5 : True := trivial; clear hbx hkx; have d5 := cv17 hb5)
    | (have q := st3; clear q; go_at_call 51; refine (copiedB_any (HA.out.1.i.ext HE3.out) (by have := HA.out.2.info; omega)).mono ?_; rintro e wa3 ⟨a3, n3, c3, rfl, hn3, ho3, he3⟩; clear hn3; have HDti : Hid ((∀ g, (Value.slice a0 n0 c0).ownBlock = some g → (Value.slice a3 n3 c3).ownBlock ≠ some g) ∧ ∀ g, (Value.slice a1 n1 c1).ownBlock = some g → (Value.slice a3 n3 c3).ownBlock ≠ some g) := ⟨fun g h1 h2 => by have e1 := (hO3.t.lt h1).2; have e2 := (ho3.lt h2).1; omega, fun g h1 h2 => by have e1 := (hO3.r.lt h1).2; have e2 := (ho3.lt h2).1; omega⟩; have hP3 : OwnC wa3 w.heap.size ({ tA := a0, tN := n0, tC := c0, rA := a1, rN := n1, rC := c1, aA := a2, aN := n2, aC := c2, iA := a3, iN := n3, iC := c3, gA := none, gN := 0, gC := 0, dA := none, dN := 0, dC := 0, oA := none, oN := 0, oC := 0 } : Sv) ({ ck0 c.kind with text := c.text, rand := c.rand, addrs := c.addrs, info := c.info }) := ⟨hO3.t.ext he3, hO3.r.ext he3, hO3.a.ext he3, ho3.base HE3.out.size, hO3.g.ext he3, hO3.d.ext he3, hO3.o.ext he3⟩; have hbA3 := hb3.ext he3; have hrA3 := hr3.ext he3; have HEa3 : Hid (Ext w wa3) := HE3.out.trans he3)
    | (have q := hP3; clear q; refine wl_set (v := .slice a3 n3 c3) rfl oneS rfl rfl rfl rfl rfl hbA3 (of_decide_eq_true rfl) ?_; intro wb3 hbx hkx hx; clear hx; have hb4 : Blk wb3 w.heap.size (CV c { tA := a0, tN := n0, tC := c0, rA := a1, rN := n1, rC := c1, aA := a2, aN := n2, aC := c2, iA := a3, iN := n3, iC := c3, gA := s.gA, gN := s.gN, gC := s.gC, dA := s.dA, dN := s.dN, dC := s.dC, oA := s.oA, oN := s.oN, oC := s.oC }) 38 := hbx; have hr4 := hrA3.but hkx (show ¬ _ = _ from Nat.ne_of_gt HQ.out); have hO4 := hP3.but hkx hbA3 noCk; have HE4 : Hid (Ext w wb3) := HEa3.out.of_but hkx (fun g e => by subst e; exact Nat.le_refl _); have st4 : True := trivial; clear hbx hkx; have d4 := cv16 hb4)
    | (have q := st2; clear q; go_at_call 52; refine (copiedA_any (HA.out.1.a.ext HE2.out) (by have := HA.out.2.addrs; omega)).mono ?_; rintro e wa2 ⟨a2, n2, c2, rfl, ho2, he2⟩; have hP2 : OwnC wa2 w.heap.size ({ tA := a0, tN := n0, tC := c0, rA := a1, rN := n1, rC := c1, aA := a2, aN := n2, aC := c2, iA := none, iN := 0, iC := 0, gA := none, gN := 0, gC := 0, dA := none, dN := 0, dC := 0, oA := none, oN := 0, oC := 0 } : Sv) ({ ck0 c.kind with text := c.text, rand := c.rand, addrs := c.addrs }) := ⟨hO2.t.ext he2, hO2.r.ext he2, ho2.base HE2.out.size, hO2.i.ext he2, hO2.g.ext he2, hO2.d.ext he2, hO2.o.ext he2⟩; have hbA2 := hb2.ext he2; have hrA2 := hr2.ext he2; have HEa2 : Hid (Ext w wa2) := HE2.out.trans he2)
    | (have q := hP2; clear q; refine wl_set (v := .slice a2 n2 c2) rfl oneSA rfl rfl rfl rfl rfl hbA2 (of_decide_eq_true rfl) ?_; intro wb2 hbx hkx hx; clear hx; have hb3 : Blk wb2 w.heap.size (CV c { tA := a0, tN := n0, tC := c0, rA := a1, rN := n1, rC := c1, aA := a2, aN := n2, aC := c2, iA := s.iA, iN := s.iN, iC := s.iC, gA := s.gA, gN := s.gN, gC := s.gC, dA := s.dA, dN := s.dN, dC := s.dC, oA := s.oA, oN := s.oN, oC := s.oC }) 38 := hbx; have hr3 := hrA2.but hkx (show ¬ _ = _ from Nat.ne_of_gt HQ.out); have hO3 := hP2.but hkx hbA2 noCk; have HE3 : Hid (Ext w wb2) := HEa2.out.of_but hkx (fun g e => by subst e; exact Nat.le_refl _); have st3 : True := trivial; clear hbx hkx; have d3 := cv15 hb3)
    | (have q := st1; clear q; go_at_call 51; refine (copiedB_any (HA.out.1.r.ext HE1.out) (by have := HA.out.2.rand; omega)).mono ?_; rintro e wa1 ⟨a1, n1, c1, rfl, hn1, ho1, he1⟩; clear hn1; have HDtr : Hid (∀ g, (Value.slice a0 n0 c0).ownBlock = some g → (Value.slice a1 n1 c1).ownBlock ≠ some g) := (fun g h1 h2 => by have e1 := (hO1.t.lt h1).2; have e2 := (ho1.lt h2).1; omega); have hP1 : OwnC wa1 w.heap.size ({ tA := a0, tN := n0, tC := c0, rA := a1, rN := n1, rC := c1, aA := none, aN := 0, aC := 0, iA := none, iN := 0, iC := 0, gA := none, gN := 0, gC := 0, dA := none, dN := 0, dC := 0, oA := none, oN := 0, oC := 0 } : Sv) ({ ck0 c.kind with text := c.text, rand := c.rand }) := ⟨hO1.t.ext he1, ho1.base HE1.out.size, hO1.a.ext he1, hO1.i.ext he1, hO1.g.ext he1, hO1.d.ext he1, hO1.o.ext he1⟩; have hbA1 := hb1.ext he1; have hrA1 := hr1.ext he1; have HEa1 : Hid (Ext w wa1) := HE1.out.trans he1)
    | (have q := hP1; clear q; refine wl_set (v := .slice a1 n1 c1) rfl oneS rfl rfl rfl rfl rfl hbA1 (of_decide_eq_true rfl) ?_; intro wb1 hbx hkx hx; clear hx; have hb2 : Blk wb1 w.heap.size (CV c { tA := a0, tN := n0, tC := c0, rA := a1, rN := n1, rC := c1, aA := s.aA, aN := s.aN, aC := s.aC, iA := s.iA, iN := s.iN, iC := s.iC, gA := s.gA, gN := s.gN, gC := s.gC, dA := s.dA, dN := s.dN, dC := s.dC, oA := s.oA, oN := s.oN, oC := s.oC }) 38 := hbx; have hr2 := hrA1.but hkx (show ¬ _ = _ from Nat.ne_of_gt HQ.out); have hO2 := hP1.but hkx hbA1 noCk; have HE2 : Hid (Ext w wb1) := HEa1.out.of_but hkx (fun g e => by subst e; exact Nat.le_refl _); have st2 : True := trivial; clear hbx hkx; have d2 := cv14 hb2)
    | (have q := st0; clear q; go_at_call 51; refine (copiedB_any (HA.out.1.t.ext HE0.out) (by have := HA.out.2.text; omega)).mono ?_; rintro e wa0 ⟨a0, n0, c0, rfl, hn0, ho0, he0⟩; clear hn0; have hP0 : OwnC wa0 w.heap.size ({ tA := a0, tN := n0, tC := c0, rA := none, rN := 0, rC := 0, aA := none, aN := 0, aC := 0, iA := none, iN := 0, iC := 0, gA := none, gN := 0, gC := 0, dA := none, dN := 0, dC := 0, oA := none, oN := 0, oC := 0 } : Sv) ({ ck0 c.kind with text := c.text }) := ⟨ho0.base HE0.out.size, hO0.r.ext he0, hO0.a.ext he0, hO0.i.ext he0, hO0.g.ext he0, hO0.d.ext he0, hO0.o.ext he0⟩; have hbA0 := hb0.ext he0; have hrA0 := hr0.ext he0; have HEa0 : Hid (Ext w wa0) := HE0.out.trans he0)
    | (have q := hP0; clear q; refine wl_set (v := .slice a0 n0 c0) rfl oneS rfl rfl rfl rfl rfl hbA0 (of_decide_eq_true rfl) ?_; intro wb0 hbx hkx hx; clear hx; have hb1 : Blk wb0 w.heap.size (CV c { tA := a0, tN := n0, tC := c0, rA := s.rA, rN := s.rN, rC := s.rC, aA := s.aA, aN := s.aN, aC := s.aC, iA := s.iA, iN := s.iN, iC := s.iC, gA := s.gA, gN := s.gN, gC := s.gC, dA := s.dA, dN := s.dN, dC := s.dC, oA := s.oA, oN := s.oN, oC := s.oC }) 38 := hbx; have hr1 := hrA0.but hkx (show ¬ _ = _ from Nat.ne_of_gt HQ.out); have hO1 := hP0.but hkx hbA0 noCk; have HE1 : Hid (Ext w wb0) := HEa0.out.of_but hkx (fun g e => by subst e; exact Nat.le_refl _); have st1 : True := trivial; clear hbx hkx; have d1 := cv13 hb1)
    | (refine wl_alloc rfl rfl zeroC ?_; intro w2 hr0 he2 hx; clear hx; have hb0 := hbx.ext he2; have HQ : Hid (w.heap.size < w1.heap.size) := hbx.lt; have hO0 := OwnC.nil w2 w.heap.size c.kind; have HE0 : Hid (Ext w w2) := hex.trans he2; have st0 : True := trivial; clear hbx hex he2; have d0 := cv7 hb0)
    | (refine wl_box (C := CV c s) rfl rfl rfl ?_; intro w1 hbx hex hx; clear hx))
  refine bodyPost_ret (results_cell_row (fn := Try.f24) (p := 2) rfl _ w9 _ _ _ (0, 0) _ rfl hb9 Try.underlying38 rfl (by kernel_rfl)) rfl ?_
  exact ⟨_, rfl, ⟨hO9.t, hO9.r, hO9.a, hO9.i, hO9.g, hO9.d, hO9.o⟩, ⟨HDtr.out, HDti.out.1, HDti.out.2⟩, HE9.out⟩
end Tlv
end Go.Proofs.Ytobkgaceallegaa

/- How much a chunk holds. No condition of its own. -/
namespace Go.Proofs.Ytobkgaceallegaa
namespace Tlv
open Go Go.RowKit
set_option linter.unusedVariables false
set_option linter.unusedSimpArgs false
set_option maxRecDepth 100000


/-- Its lists are as long as memory may hold. -/
structure Lens (c : Ck) : Prop where
  text : c.text.length ≤ 140737488355328
  rand : c.rand.length ≤ 140737488355328
  addrs : c.addrs.length ≤ 140737488355328
  info : c.info.length ≤ 140737488355328
  gaps : c.gaps.length ≤ 140737488355328
  dups : c.dups.length ≤ 140737488355328
  ops : c.ops.length ≤ 140737488355328
def sizeC (c : Ck) : Nat := c.text.length + c.rand.length + c.info.length + 10 * (c.addrs.length + c.gaps.length + c.dups.length + c.ops.length)
theorem sizeC_small {c : Ck} (h : sizeC c ≤ 3000) : Small c := by
  unfold sizeC at h
  constructor <;> omega
theorem size_any {w : World} {c : Ck} {s : Sv} (ha : CkAt w s c) (hb : Lens c) :
    Calls Try.prog 8 #[.agg (CV c s)] w fun e w' => e = .returned (.int .i64 (sizeC c : Nat)) ∧ Ext w w' := by
  have l7 := (bytes_len ha.t).1
  have l13 := (bytes_len ha.r).1
  have l14 := (nums_len ha.a).1
  have l15 := (bytes_len ha.i).1
  have l16 := (PairsAt.len ha.g).1
  have l17 := (nums_len ha.d).1
  have l20 := (PairsAt.len ha.o).1
  rw [ci_len] at l17
  obtain ⟨b0, b1, b2, b3, b4, b5, b6⟩ := hb
  go_enter Try.func8, Try.ntmps8
  go_wp2_with (first
    | (refine wl_box (C := CV c s) rfl rfl rfl ?_; intro w1 hb1 he1 hx; clear hx; have c7 := cv7 hb1; have c13 := cv13 hb1; have c14 := cv14 hb1; have c15 := cv15 hb1; have c16 := cv16 hb1; have c17 := cv17 hb1; have c20 := cv20 hb1))
  go_ret
  have e : ((sizeC c : Nat) : Int) = (c.text.length : Int) + c.rand.length + c.info.length + 10 * ((c.addrs.length : Int) + c.gaps.length + c.dups.length + c.ops.length) := by unfold sizeC; omega
  rw [e]
  exact ⟨rfl, he1⟩
end Tlv
end Go.Proofs.Ytobkgaceallegaa

/- Pairs put behind one by one; the document's chunk of a chunk. No condition of its own. -/
namespace Go.Proofs.Ytobkgaceallegaa
namespace Tlv
open Go Go.RowKit
set_option linter.unusedVariables false
set_option linter.unusedSimpArgs false
set_option maxRecDepth 100000


theorem pairs_one (w : World) (p : Int × Int) (e : TypeId) : PairsAt (w.alloc (.cells #[.int .i64 p.1, .int .i64 p.2] e)) (.slice (some ⟨w.heap.size, 0, none⟩) 1 1) [p] := by
  refine ⟨by simp [maxLen], _, 1, rfl, ⟨by simp, fun h => by cases h⟩, by simp [maxLen], fun i q hq => ?_⟩
  match i with
  | 0 =>
    simp at hq
    subst hq
    exact ⟨_, 0, rfl, cellNew _ _ _ _ _ _ rfl, cellNew _ _ _ _ _ _ rfl⟩
  | i + 1 => simp at hq
theorem wl_pushPr {t e : TypeId} (hT : PrT t e) {wr : World} {ops : Array Oper} {rest : List Oper} {o : Oper} {a : Act} {Q : Exit → Act → World → Prop} {C : Array Value} (hgd : o.guard = none) {s x : Operand} (ho : o.op = .call { callee := .builtin .append, args := #[s, x], argTypes := #[t, t] })
    {base b : Nat} {v : Value} {L : List (Int × Int)} {p : Int × Int} (hC : C = #[.int .i64 p.1, .int .i64 p.2]) (hs : a.eval s = v) (hx : a.eval x = .slice (some ⟨b, 0, none⟩) 1 1) (hb : b = wr.heap.size) (hv : OwnP e wr base v L) (hlen : L.length ≤ 900000) (hbase : base ≤ wr.heap.size)
    (h : ∀ ad n cap w', Hid (n = L.length + 1) → OwnP e w' base (.slice ad n cap) (L ++ [p]) → KeepBut (fun q => v.ownBlock = some q) wr w' → (∀ g, (Value.slice ad n cap).ownBlock = some g → v.ownBlock = some g ∨ wr.heap.size ≤ g) → wpList Try.prog ops Q rest (a.put o.dst (.slice ad n cap)) w') : wpList Try.prog ops Q (o :: rest) a (wr.alloc (.cells C e)) := by
  subst hC hb
  have he : Ext wr (wr.alloc (.cells #[.int .i64 p.1, .int .i64 p.2] e)) := Ext.alloc _ _
  refine wl_appP hT hgd ho hs hx (hv.ext he) (pairs_one wr p e) (by simp; omega) (Nat.le_trans hbase he.size) ?_
  intro ad n cap w' hn ho' hk hg
  exact h ad n cap w' (show _ = _ by rw [hn.out]; simp) ho' ((KeepBut.ext he).trans hk) (fun g hgg => (hg g hgg).imp id (fun e => by rw [e]; exact he.size))
theorem own_apart {w : World} {base base' e e' n n' size size' : Nat} {v v' : Value} {xs xs' : List Value} (h : w.ownsRow base e size v n xs) (h' : w.ownsRow base' e' size' v' n' xs') (he : e ≠ e') : ∀ k, v.ownBlock = some k → ¬ v'.ownBlock = some k := by
  intro k h1 h2
  rcases h'.2 with ⟨rfl, _⟩ | ⟨g', cap, cur, rfl, _, hg, _⟩
  · cases h2
  · simp only [Value.ownBlock, Option.some.injEq] at h2
    subst h2
    exact ownsRow_ne h (show Blk w _ cur e' from hg) he.symm _ h1 rfl
theorem take_snocP {L : List (Int × Int)} {k : Nat} (h : k < L.length) : L.take (k + 1) = L.take k ++ [L.getD k (0, 0)] := take_snocD (0, 0) h
theorem zeroD : (Try.prog.info? 32).bind (·.zero) = some (.agg (CV (ck0 0) sv0)) := by kernel_rfl
theorem zeroGp2 : (Try.prog.info? 70).bind (·.zero) = some (.agg #[.int .i64 0, .int .i64 0]) := by kernel_rfl
theorem zeroOp2 : (Try.prog.info? 71).bind (·.zero) = some (.agg #[.int .i64 0, .int .i64 0]) := by kernel_rfl
theorem one_pairP (p : Int × Int) : ∀ v ∈ (#[Value.int .i64 p.1, .int .i64 p.2] : Array Value).toList, v.oneCell' = true := one_pair _ _
/-- A struct is built. -/
theorem wl_buildC {w : World} {ops : Array Oper} {rest : List Oper} {o : Oper} {a : Act} {Q : Exit → Act → World → Prop} (hgd : o.guard = none) {t : TypeId} {parts : Array (Nat × Operand)} {vals : List (Nat × Value)} {cells : Array Value} (ho : o.op = .build t parts)
    (hv : (parts.map fun (i, x) => (i, a.eval x)).toList = vals) (hc : Try.prog.built t vals = some cells) (h : wpList Try.prog ops Q rest (a.put o.dst (.agg cells)) w) : wpList Try.prog ops Q (o :: rest) a w := by
  refine wpList_of_run hgd (v := .agg cells) ?_ h
  have := run_build (P := Try.prog) w t (parts.map fun (i, x) => (i, a.eval x)) cells (by rw [hv]; exact hc)
  simp [execOp, ho, this]
theorem builtD (c : Ck) (s : Sv) : Try.prog.built 32 [(0, .int .i64 c.kind), (1, .agg (PV c s)), (2, .int .u32 (c.tag : Int)), (3, .int .i64 c.win), (4, .int .i64 c.out), (5, .int .i64 c.inn), (6, .int .u32 (c.tsn : Int)), (7, .slice s.rA s.rN s.rC), (8, .slice s.aA s.aN s.aC), (9, .slice s.iA s.iN s.iC), (11, .slice s.dA s.dN s.dC), (12, .int .i64 c.cause), (13, .int .u32 (c.serial : Int)), (15, .bool c.ok)] = some (CV c { s with gA := none, gN := 0, gC := 0, oA := none, oN := 0, oC := 0 }) := by kernel_rfl
/-- A chunk that holds the same, in memory of which nothing else is known. -/
def LikeIs (w : World) (c : Ck) (e : Ending) (w' : World) : Prop := ∃ s, e = .returned (.agg (CV c s)) ∧ CkAt w' s c ∧ Ext w w'
set_option maxHeartbeats 4000000 in
theorem document_any {w : World} {c : Ck} {s : Sv} (ha : CkAt w s c) (hs : Small c) :
    Calls Try.prog 14 #[.agg (CV c s)] w (LikeIs w c) := by
  have HA : Hid (CkAt w s c ∧ Small c) := ⟨ha, hs⟩
  have hgN : s.gN = c.gaps.length := (PairsAt.len ha.g).1
  have hoN : Hid (s.oN = c.ops.length) := (PairsAt.len ha.o).1
  clear ha hs
  go_enter Try.func14, Try.ntmps14
  refine wp_seq_k (fun K hK => ?_)
  have HK := Stop.mk hK
  clear hK
  go_wp2_with (first
    | (have q := hb1; clear q; refine wl_alloc rfl rfl zeroD ?_; intro w2 hb2 he2 hx; clear hx; have HQ1 : Hid (w.heap.size < w1.heap.size) := hb1.lt; replace hb1 := hb1.ext he2; have HE2 : Hid (Ext w w2) := he1.trans he2; clear he1 he2)
    | (refine wl_box (C := CV c s) rfl rfl rfl ?_; intro w1 hb1 he1 hx; clear hx))
  refine HK.go _ _ ?_
  refine wp_seq_k (fun K2 hK2 => ?_)
  have HK2 := Stop.mk hK2
  clear hK2
  refine wp_region_lit ?_
  refine wpList_of_run (v := .pointer (some ⟨w.heap.size, 0, none⟩)) (w' := w2) rfl (by first | rfl | simp [execOp, go_sem]) ?_
  simp only [Act.put, List.setIfInBounds_toArray, List.set_cons_succ, List.set_cons_zero]
  refine wpList_of_run rfl (exec_get one3 rfl rfl (cv0 hb1)) ?_
  simp only [Act.put, List.setIfInBounds_toArray, List.set_cons_succ, List.set_cons_zero]
  refine wpList_of_run (v := .pointer (some ⟨w.heap.size, 1, none⟩)) (w' := w2) rfl (by first | rfl | simp [execOp, go_sem]) ?_
  simp only [Act.put, List.setIfInBounds_toArray, List.set_cons_succ, List.set_cons_zero]
  refine wpList_of_run (v := .agg (PV c s)) rfl (exec_load rowPc rfl rfl hb1 (PV c s).toList (CV.piece c s) rfl) ?_
  simp only [Act.put, List.setIfInBounds_toArray, List.set_cons_succ, List.set_cons_zero]
  refine wpList_of_run (v := .pointer (some ⟨w.heap.size, 8, none⟩)) (w' := w2) rfl (by first | rfl | simp [execOp, go_sem]) ?_
  simp only [Act.put, List.setIfInBounds_toArray, List.set_cons_succ, List.set_cons_zero]
  refine wpList_of_run rfl (exec_get one22 rfl rfl (cv8 hb1)) ?_
  simp only [Act.put, List.setIfInBounds_toArray, List.set_cons_succ, List.set_cons_zero]
  refine wpList_of_run (v := .pointer (some ⟨w.heap.size, 9, none⟩)) (w' := w2) rfl (by first | rfl | simp [execOp, go_sem]) ?_
  simp only [Act.put, List.setIfInBounds_toArray, List.set_cons_succ, List.set_cons_zero]
  refine wpList_of_run rfl (exec_get one3 rfl rfl (cv9 hb1)) ?_
  simp only [Act.put, List.setIfInBounds_toArray, List.set_cons_succ, List.set_cons_zero]
  refine wpList_of_run (v := .pointer (some ⟨w.heap.size, 10, none⟩)) (w' := w2) rfl (by first | rfl | simp [execOp, go_sem]) ?_
  simp only [Act.put, List.setIfInBounds_toArray, List.set_cons_succ, List.set_cons_zero]
  refine wpList_of_run rfl (exec_get one3 rfl rfl (cv10 hb1)) ?_
  simp only [Act.put, List.setIfInBounds_toArray, List.set_cons_succ, List.set_cons_zero]
  refine wpList_of_run (v := .pointer (some ⟨w.heap.size, 11, none⟩)) (w' := w2) rfl (by first | rfl | simp [execOp, go_sem]) ?_
  simp only [Act.put, List.setIfInBounds_toArray, List.set_cons_succ, List.set_cons_zero]
  refine wpList_of_run rfl (exec_get one3 rfl rfl (cv11 hb1)) ?_
  simp only [Act.put, List.setIfInBounds_toArray, List.set_cons_succ, List.set_cons_zero]
  refine wpList_of_run (v := .pointer (some ⟨w.heap.size, 12, none⟩)) (w' := w2) rfl (by first | rfl | simp [execOp, go_sem]) ?_
  simp only [Act.put, List.setIfInBounds_toArray, List.set_cons_succ, List.set_cons_zero]
  refine wpList_of_run rfl (exec_get one22 rfl rfl (cv12 hb1)) ?_
  simp only [Act.put, List.setIfInBounds_toArray, List.set_cons_succ, List.set_cons_zero]
  refine wpList_of_run (v := .pointer (some ⟨w.heap.size, 13, none⟩)) (w' := w2) rfl (by first | rfl | simp [execOp, go_sem]) ?_
  simp only [Act.put, List.setIfInBounds_toArray, List.set_cons_succ, List.set_cons_zero]
  refine wpList_of_run rfl (exec_get oneS rfl rfl (cv13 hb1)) ?_
  simp only [Act.put, List.setIfInBounds_toArray, List.set_cons_succ, List.set_cons_zero]
  refine wpList_of_run (v := .pointer (some ⟨w.heap.size, 14, none⟩)) (w' := w2) rfl (by first | rfl | simp [execOp, go_sem]) ?_
  simp only [Act.put, List.setIfInBounds_toArray, List.set_cons_succ, List.set_cons_zero]
  refine wpList_of_run rfl (exec_get oneSA rfl rfl (cv14 hb1)) ?_
  simp only [Act.put, List.setIfInBounds_toArray, List.set_cons_succ, List.set_cons_zero]
  refine wpList_of_run (v := .pointer (some ⟨w.heap.size, 15, none⟩)) (w' := w2) rfl (by first | rfl | simp [execOp, go_sem]) ?_
  simp only [Act.put, List.setIfInBounds_toArray, List.set_cons_succ, List.set_cons_zero]
  refine wpList_of_run rfl (exec_get oneS rfl rfl (cv15 hb1)) ?_
  simp only [Act.put, List.setIfInBounds_toArray, List.set_cons_succ, List.set_cons_zero]
  refine wpList_of_run (v := .pointer (some ⟨w.heap.size, 17, none⟩)) (w' := w2) rfl (by first | rfl | simp [execOp, go_sem]) ?_
  simp only [Act.put, List.setIfInBounds_toArray, List.set_cons_succ, List.set_cons_zero]
  refine wpList_of_run rfl (exec_get oneSD rfl rfl (cv17 hb1)) ?_
  simp only [Act.put, List.setIfInBounds_toArray, List.set_cons_succ, List.set_cons_zero]
  refine wpList_of_run (v := .pointer (some ⟨w.heap.size, 18, none⟩)) (w' := w2) rfl (by first | rfl | simp [execOp, go_sem]) ?_
  simp only [Act.put, List.setIfInBounds_toArray, List.set_cons_succ, List.set_cons_zero]
  refine wpList_of_run rfl (exec_get one3 rfl rfl (cv18 hb1)) ?_
  simp only [Act.put, List.setIfInBounds_toArray, List.set_cons_succ, List.set_cons_zero]
  refine wpList_of_run (v := .pointer (some ⟨w.heap.size, 19, none⟩)) (w' := w2) rfl (by first | rfl | simp [execOp, go_sem]) ?_
  simp only [Act.put, List.setIfInBounds_toArray, List.set_cons_succ, List.set_cons_zero]
  refine wpList_of_run rfl (exec_get one22 rfl rfl (cv19 hb1)) ?_
  simp only [Act.put, List.setIfInBounds_toArray, List.set_cons_succ, List.set_cons_zero]
  refine wpList_of_run (v := .pointer (some ⟨w.heap.size, 21, none⟩)) (w' := w2) rfl (by first | rfl | simp [execOp, go_sem]) ?_
  simp only [Act.put, List.setIfInBounds_toArray, List.set_cons_succ, List.set_cons_zero]
  refine wpList_of_run rfl (exec_get one4 rfl rfl (cv21 hb1)) ?_
  simp only [Act.put, List.setIfInBounds_toArray, List.set_cons_succ, List.set_cons_zero]
  refine wl_buildC rfl rfl ?hv (builtD c s) ?hk
  case hv => first | kernel_rfl | (simp only [List.map_toArray, List.map_cons, List.map_nil]; rfl)
  simp only [Act.put, List.setIfInBounds_toArray, List.set_cons_succ, List.set_cons_zero]
  refine wl_alloc rfl rfl zeroD ?_
  intro w3 hb3 he3 hx
  clear hx
  have HW : Hid (w.heap.size < w2.heap.size) := hb1.lt
  have HQ2 : Hid (w1.heap.size < w2.heap.size) := hb2.lt
  replace hb1 := hb1.ext he3
  replace hb2 := hb2.ext he3
  have HE3 : Hid (Ext w w3) := HE2.out.trans he3
  clear he3
  refine wl_store (D := CV c { s with gA := none, gN := 0, gC := 0, oA := none, oN := 0, oC := 0 }) rfl rowC2 rfl rfl rfl hb3 rfl rfl (CV.one _ _) ?_
  intro w4 hb4 hk4 hx4
  clear hx4
  simp only [Act.put]
  go_wp2
  refine HK2.go _ _ ?_
  have HG3 : Hid (w.heap.size ≤ w2.heap.size) := Nat.le_of_lt HW.out
  have HG2 : Hid (w1.heap.size < w2.heap.size ∧ w.heap.size < w1.heap.size) := ⟨HQ2.out, HQ1.out⟩
  have HS : Hid (Blk w4 w2.heap.size (CV c { s with gA := none, gN := 0, gC := 0, oA := none, oN := 0, oC := 0 }) 32 ∧ Ext w w4 ∧ Blk w4 w.heap.size (CV c s) 38 ∧ Blk w4 w1.heap.size (CV (ck0 0) sv0) 32) := ⟨hb4, HE3.out.of_but hk4 (fun g e => by subst e; exact HG3.out), hb1.but hk4 (Nat.ne_of_lt HW.out), hb2.but hk4 (Nat.ne_of_lt HQ2.out)⟩
  clear hb1 hb2 hb3 hb4 hk4
  have g16 := cv16 HS.out.2.2.1
  obtain ⟨N, hN⟩ : ∃ N, N = c.gaps.length := ⟨_, rfl⟩
  rw [hgN, ← hN] at g16
  have HNg : Hid (N = c.gaps.length) := hN
  have hn3 : N ≤ 3000 := by rw [hN]; exact HA.out.2.gaps
  have HSmg : Hid (c.gaps.length ≤ 3000) := HA.out.2.gaps
  have HSmo : Hid (c.ops.length ≤ 3000) := HA.out.2.ops
  have HAt : Hid (PairsAt w (.slice s.gA N s.gC) c.gaps) := show PairsAt _ _ _ by rw [hN, ← hgN]; exact HA.out.1.g
  clear hN hgN
  obtain ⟨aA, haA⟩ : ∃ x, x = s.gA := ⟨_, rfl⟩
  rw [← haA] at HAt
  go_wp2
  rw [← haA]
  clear g16 haA
  go_loopg [40] N (fun gm t wr => ∃ (k : Nat) (ga : Option Addr) (gn gc : Nat), k ≤ N ∧ gm = N - k ∧ t = .int .i64 (k : Int) ∧ Hid (OwnP 70 wr w.heap.size (.slice ga gn gc) (c.gaps.take k) ∧ Blk wr w2.heap.size (CV c { s with gA := ga, gN := gn, gC := gc, oA := none, oN := 0, oC := 0 }) 32 ∧ Ext w wr ∧ Blk wr w.heap.size (CV c s) 38 ∧ Blk wr w1.heap.size (CV (ck0 0) sv0) 32))
  case atStart => exact ⟨0, none, 0, 0, Nat.zero_le _, rfl, rfl, by rw [List.take_zero]; exact OwnP.nil _ _ _, HS.out.1, HS.out.2.1, HS.out.2.2⟩
  case round =>
    obtain ⟨k, ga, gn, gc, hk, rfl, rfl, HR⟩ := hrel
    by_cases hlt : k < N
    · have hd : decide ((k : Int) < (N : Int)) = true := decide_eq_true (by omega)
      have hkL : k < c.gaps.length := by rw [← HNg.out]; exact hlt
      have hkn : (k : Int) < (N : Int) := by omega
      obtain ⟨b, off, rfl, hc0, hc1⟩ := HAt.out.cellAt k hkL
      replace hc0 := HR.out.2.2.1.cell hc0
      replace hc1 := HR.out.2.2.1.cell hc1
      have HL : Hid (c.gaps.take (k + 1) = c.gaps.take k ++ [c.gaps.getD k (0, 0)] ∧ (c.gaps.take k).length ≤ 3000 ∧ (c.gaps.take k).length = k) := ⟨take_snocP hkL, by rw [List.length_take]; have := HSmg.out; omega, by rw [List.length_take]; omega⟩
      obtain ⟨q, hq⟩ : ∃ q, q = c.gaps.getD k (0, 0) := ⟨_, rfl⟩
      rw [← hq] at hc0 hc1 HL
      clear hq hkL
      go_wp2_with (first
        | (refine wl_loadP rfl rowGp rfl rfl hc0 hc1 ?_)
        | (refine wl_alloc rfl rfl zeroGp ?_; intro w6 hb6 he6 hx; clear hx)
        | (refine wl_store (D := #[.int .i64 q.1, .int .i64 q.2]) rfl rowGp rfl rfl rfl hb6 rfl rfl (one_pair _ _) ?_; intro w7 hb7 hk7 hx; clear hx; have hO7 := (HR.out.1.ext he6).but hk7 (ownsRow_ne (HR.out.1.ext he6).1 hb6 (by decide)); have hB7 := (HR.out.2.1.ext he6).but hk7 (Nat.ne_of_lt HR.out.2.1.lt); have HE7 : Hid (Ext w w7) := (HR.out.2.2.1.trans he6).of_but hk7 (fun g e => by subst e; exact HR.out.2.2.1.size); have x70 := ((HR.out.2.2.2.1).ext he6).but hk7 (Nat.ne_of_lt (HR.out.2.2.2.1).lt); have x71 := ((HR.out.2.2.2.2).ext he6).but hk7 (Nat.ne_of_lt (HR.out.2.2.2.2).lt); clear hk7 hb6; have d7 := cv16 hB7)
        | (refine wl_load rfl rowGp rfl rfl hb7 rfl ?_)
        | (at_builtin; refine wl_pushPr prG2 (L := c.gaps.take k) (p := q) (v := .slice ga gn gc) (base := w.heap.size) rfl rfl rfl rfl rfl rfl hO7 (by have := HL.out.2.1; omega) HE7.out.size ?_; intro ad n8 cap w8 hn8 ho8 hk8 hg8; clear hg8; have hB8 := hB7.but hk8 (fun e => ownsRow_ne hO7.1 hB7 (by decide) _ e rfl); have HE8 : Hid (Ext w w8) := HE7.out.of_but hk8 (fun g e => (hO7.lt e).1); have x80 := (x70).but hk8 (fun e => ownsRow_ne hO7.1 (x70) (by decide) _ e rfl); have x81 := (x71).but hk8 (fun e => ownsRow_ne hO7.1 (x71) (by decide) _ e rfl); clear hk8 d7 hb7)
        | (refine wl_set (v := .slice ad n8 cap) rfl oneSG2 rfl rfl rfl rfl rfl hB8 (of_decide_eq_true rfl) ?_; intro w9 hbx hk9 hx9; clear hx9; have hB9 : Blk w9 w2.heap.size (CV c { s with gA := ad, gN := n8, gC := cap, oA := none, oN := 0, oC := 0 }) 32 := hbx; have hO9 := ho8.but hk9 (ownsRow_ne ho8.1 hB8 (by decide)); have HE9 : Hid (Ext w w9) := HE8.out.of_but hk9 (fun g e => by subst e; exact HG3.out); have x90 := (x80).but hk9 (Nat.ne_of_lt HW.out); have x91 := (x81).but hk9 (Nat.ne_of_lt HQ2.out); clear hbx hk9))
      rw [← HL.out.1] at hO9
      go_roundg (N - (k + 1))
      case measure => omega
      case rel => exact ⟨k + 1, ad, n8, cap, by omega, rfl, by simp, hO9, hB9, HE9.out, x90, x91⟩
    · have hd : decide ((k : Int) < (N : Int)) = false := decide_eq_false (by omega)
      have hke : c.gaps.take k = c.gaps := List.take_of_length_le (by rw [← HNg.out]; omega)
      rw [hke] at HR
      clear hke
      have g20 := cv20 HR.out.2.2.2.1
      obtain ⟨M, hM⟩ : ∃ M, M = c.ops.length := ⟨_, rfl⟩
      rw [hoN.out, ← hM] at g20
      have HNo : Hid (M = c.ops.length) := hM
      have hm3 : M ≤ 3000 := by rw [hM]; exact HA.out.2.ops
      have HBt : Hid (PairsAt w (.slice s.oA M s.oC) c.ops) := show PairsAt _ _ _ by rw [hM, ← hoN.out]; exact HA.out.1.o
      obtain ⟨bA, hbA⟩ : ∃ x, x = s.oA := ⟨_, rfl⟩
      rw [← hbA] at HBt
      clear hM
      go_wp2
      rw [← hbA]
      clear g20 hbA hd hlt hk
      have HS : Hid (Blk wr w2.heap.size (CV c { s with gA := ga, gN := gn, gC := gc, oA := none, oN := 0, oC := 0 }) 32 ∧ Ext w wr ∧ Blk wr w.heap.size (CV c s) 38 ∧ Blk wr w1.heap.size (CV (ck0 0) sv0) 32 ∧ OwnP 70 wr w.heap.size (.slice ga gn gc) c.gaps) := ⟨HR.out.2.1, HR.out.2.2.1, HR.out.2.2.2.1, HR.out.2.2.2.2, HR.out.1⟩
      clear HR
      go_loopg [54] M (fun gm t wr => ∃ (k : Nat) (oa : Option Addr) (on oc : Nat), k ≤ M ∧ gm = M - k ∧ t = .int .i64 (k : Int) ∧ Hid (OwnP 71 wr w.heap.size (.slice oa on oc) (c.ops.take k) ∧ Blk wr w2.heap.size (CV c { s with gA := ga, gN := gn, gC := gc, oA := oa, oN := on, oC := oc }) 32 ∧ Ext w wr ∧ Blk wr w.heap.size (CV c s) 38 ∧ Blk wr w1.heap.size (CV (ck0 0) sv0) 32 ∧ OwnP 70 wr w.heap.size (.slice ga gn gc) c.gaps))
      case atStart => exact ⟨0, none, 0, 0, Nat.zero_le _, rfl, rfl, by rw [List.take_zero]; exact OwnP.nil _ _ _, HS.out.1, HS.out.2.1, HS.out.2.2⟩
      case round =>
        obtain ⟨k, oa, on, oc, hk, rfl, rfl, HR⟩ := hrel
        by_cases hlt : k < M
        · have hd : decide ((k : Int) < (M : Int)) = true := decide_eq_true (by omega)
          have hkL : k < c.ops.length := by rw [← HNo.out]; exact hlt
          have hkn : (k : Int) < (M : Int) := by omega
          obtain ⟨b, off, rfl, hc0, hc1⟩ := HBt.out.cellAt k hkL
          replace hc0 := HR.out.2.2.1.cell hc0
          replace hc1 := HR.out.2.2.1.cell hc1
          have HL : Hid (c.ops.take (k + 1) = c.ops.take k ++ [c.ops.getD k (0, 0)] ∧ (c.ops.take k).length ≤ 3000 ∧ (c.ops.take k).length = k) := ⟨take_snocP hkL, by rw [List.length_take]; have := HSmo.out; omega, by rw [List.length_take]; omega⟩
          obtain ⟨q, hq⟩ : ∃ q, q = c.ops.getD k (0, 0) := ⟨_, rfl⟩
          rw [← hq] at hc0 hc1 HL
          clear hq hkL
          go_wp2_with (first
            | (refine wl_loadP rfl rowOp rfl rfl hc0 hc1 ?_)
            | (refine wl_alloc rfl rfl zeroOp ?_; intro w6 hb6 he6 hx; clear hx)
            | (refine wl_store (D := #[.int .i64 q.1, .int .i64 q.2]) rfl rowOp rfl rfl rfl hb6 rfl rfl (one_pair _ _) ?_; intro w7 hb7 hk7 hx; clear hx; have hO7 := (HR.out.1.ext he6).but hk7 (ownsRow_ne (HR.out.1.ext he6).1 hb6 (by decide)); have hB7 := (HR.out.2.1.ext he6).but hk7 (Nat.ne_of_lt HR.out.2.1.lt); have HE7 : Hid (Ext w w7) := (HR.out.2.2.1.trans he6).of_but hk7 (fun g e => by subst e; exact HR.out.2.2.1.size); have x70 := ((HR.out.2.2.2.1).ext he6).but hk7 (Nat.ne_of_lt (HR.out.2.2.2.1).lt); have x71 := ((HR.out.2.2.2.2.1).ext he6).but hk7 (Nat.ne_of_lt (HR.out.2.2.2.2.1).lt); have x72 := ((HR.out.2.2.2.2.2).ext he6).but hk7 (ownsRow_ne ((HR.out.2.2.2.2.2).ext he6).1 hb6 (by decide)); clear hk7 hb6; have d7 := cv20 hB7)
            | (refine wl_load rfl rowOp rfl rfl hb7 rfl ?_)
            | (at_builtin; refine wl_pushPr prO2 (L := c.ops.take k) (p := q) (v := .slice oa on oc) (base := w.heap.size) rfl rfl rfl rfl rfl rfl hO7 (by have := HL.out.2.1; omega) HE7.out.size ?_; intro ad n8 cap w8 hn8 ho8 hk8 hg8; clear hg8; have hB8 := hB7.but hk8 (fun e => ownsRow_ne hO7.1 hB7 (by decide) _ e rfl); have HE8 : Hid (Ext w w8) := HE7.out.of_but hk8 (fun g e => (hO7.lt e).1); have x80 := (x70).but hk8 (fun e => ownsRow_ne hO7.1 (x70) (by decide) _ e rfl); have x81 := (x71).but hk8 (fun e => ownsRow_ne hO7.1 (x71) (by decide) _ e rfl); have x82 := (x72).but hk8 (fun k e1 e2 => own_apart (x72).1 hO7.1 (by decide) k e1 e2); clear hk8 d7 hb7)
            | (refine wl_set (v := .slice ad n8 cap) rfl oneSO2 rfl rfl rfl rfl rfl hB8 (of_decide_eq_true rfl) ?_; intro w9 hbx hk9 hx9; clear hx9; have hB9 : Blk w9 w2.heap.size (CV c { s with gA := ga, gN := gn, gC := gc, oA := ad, oN := n8, oC := cap }) 32 := hbx; have hO9 := ho8.but hk9 (ownsRow_ne ho8.1 hB8 (by decide)); have HE9 : Hid (Ext w w9) := HE8.out.of_but hk9 (fun g e => by subst e; exact HG3.out); have x90 := (x80).but hk9 (Nat.ne_of_lt HW.out); have x91 := (x81).but hk9 (Nat.ne_of_lt HQ2.out); have x92 := (x82).but hk9 (ownsRow_ne (x82).1 hB8 (by decide)); clear hbx hk9))
          rw [← HL.out.1] at hO9
          go_roundg (M - (k + 1))
          case measure => omega
          case rel => exact ⟨k + 1, ad, n8, cap, by omega, rfl, by simp, hO9, hB9, HE9.out, x90, x91, x92⟩
        · have hd : decide ((k : Int) < (M : Int)) = false := decide_eq_false (by omega)
          have hke : c.ops.take k = c.ops := List.take_of_length_le (by rw [← HNo.out]; omega)
          rw [hke] at HR
          clear hke
          go_wp2_with (first
            | (refine wl_load rfl rowC2 rfl rfl HR.out.2.1 rfl ?_)
            | (refine wl_store (D := CV c { s with gA := ga, gN := gn, gC := gc, oA := oa, oN := on, oC := oc }) rfl rowC2 rfl rfl rfl HR.out.2.2.2.2.1 rfl rfl (CV.one _ _) ?_; intro w9 hb9 hk9 hx9; clear hx9))
          refine bodyPost_ret (results_cell_row (fn := Try.f14) (p := 2) rfl _ w9 _ _ _ (0, 0) _ rfl hb9 Try.underlying32 rfl (by kernel_rfl)) rfl ?_
          have hE : Ext w w9 := HR.out.2.2.1.of_but hk9 (fun g e => by subst e; exact Nat.le_of_lt HG2.out.2)
          exact ⟨_, rfl, ⟨HA.out.1.t.ext hE, HA.out.1.r.ext hE, HA.out.1.a.ext hE, HA.out.1.i.ext hE, (HR.out.2.2.2.2.2.but hk9 (ownsRow_ne HR.out.2.2.2.2.2.1 HR.out.2.2.2.2.1 (by decide))).pairs, HA.out.1.d.ext hE, (HR.out.1.but hk9 (ownsRow_ne HR.out.1.1 HR.out.2.2.2.2.1 (by decide))).pairs⟩, hE⟩

end Tlv
end Go.Proofs.Ytobkgaceallegaa

/- A law on regions that draw their order: one invariant over what was met, the slots and the world. No condition of its own. -/
namespace Go.Proofs.Ytobkgaceallegaa
open Go
set_option linter.unusedVariables false

/-- What was met, as a function. -/
def metF (l : Array Bool) : Nat → Bool := fun i => l.getD i true
def met1 (L : Nat → Bool) (i : Nat) : Nat → Bool := fun j => j == i || L j
theorem metF_set (l : Array Bool) (i : Nat) (h : i < l.size) : metF (l.setIfInBounds i true) = met1 (metF l) i := by
  funext j
  unfold metF met1
  by_cases hj : i = j
  · subst hj; simp [h]
  · have h2 : (j == i) = false := beq_false_of_ne (fun e => hj e.symm)
    rw [h2, Bool.false_or, getD_set_ne true hj]
/-- What is owed for an operation without guard. -/
def OwedJ (P : Program) (J : (Nat → Bool) → Act → World → Prop) (i : Nat) (o : Oper) : Prop :=
  o.guard = none ∧ ∀ (L : Nat → Bool) (a : Act) (w : World), J L a w → L i = false → (∀ e ∈ o.after.toList, Region.binds .any e = true → L e.on = true) → give P (fun v w' => J (met1 L i) (a.put o.dst v) w') ((execOp a.eval o).run P w)
def OwedAll (P : Program) (J : (Nat → Bool) → Act → World → Prop) : Nat → List Oper → Prop
  | _, [] => True
  | i, o :: l => OwedJ P J i o ∧ OwedAll P J (i + 1) l
theorem OwedAll.at {P : Program} {J : (Nat → Bool) → Act → World → Prop} : ∀ {ops : List Oper} {k : Nat}, OwedAll P J k ops → ∀ i o, ops[i]? = some o → OwedJ P J (k + i) o
  | [], _, _, i, o, h => by simp at h
  | o1 :: l, k, hA, 0, o, h => by simp at h; subst h; exact hA.1
  | o1 :: l, k, hA, i + 1, o, h => by
    have := OwedAll.at hA.2 i o (by simpa using h)
    rwa [show k + 1 + i = k + (i + 1) by omega] at this
theorem OwedAll.nil {P : Program} {J : (Nat → Bool) → Act → World → Prop} {i : Nat} : OwedAll P J i [] := trivial
theorem OwedAll.cons {P : Program} {J : (Nat → Bool) → Act → World → Prop} {i : Nat} {o : Oper} {l : List Oper} (hg : o.guard = none) (h : ∀ (L : Nat → Bool) (a : Act) (w : World), J L a w → L i = false → (∀ e ∈ o.after.toList, Region.binds .any e = true → L e.on = true) → give P (fun v w' => J (met1 L i) (a.put o.dst v) w') ((execOp a.eval o).run P w)) (hl : OwedAll P J (i + 1) l) : OwedAll P J i (o :: l) := ⟨⟨hg, h⟩, hl⟩
/-- The edges lead back. -/
def backB (ops : List Oper) : Bool := (List.range ops.length).all fun i => match ops[i]? with
  | none => true
  | some o => o.after.toList.all fun e => !(Region.binds .any e) || decide (e.on < i)
theorem inv_any {P : Program} {ops : List Oper} {Q : Exit → Act → World → Prop} (J : (Nat → Bool) → Act → World → Prop) (hb : backB ops = true) (hG : OwedAll P J 0 ops)
    (hQ : ∀ a w, J (fun _ => true) a w → Q .normal a w) :
    ∀ (fuel : Nat) (listed : Array Bool) (a : Act) (w : World), listed.size = ops.length → listed.countP (· == false) ≤ fuel → J (metF listed) a w → wpAny P .any ops.toArray Q fuel listed a w := by
  have back : ∀ i o, ops[i]? = some o → ∀ e ∈ o.after.toList, Region.binds .any e = true → e.on < i := by
    intro i o ho e he hbi
    have hi : i < ops.length := (List.getElem?_eq_some_iff.1 ho).1
    have h1 := List.all_eq_true.1 hb i (List.mem_range.2 hi)
    rw [ho] at h1
    have h2 := List.all_eq_true.1 h1 e he
    simpa [hbi] using h2
  have fin : ∀ (listed : Array Bool) (a : Act) (w : World), listed.size = ops.length → J (metF listed) a w → Region.ready .any ops.toArray listed = [] → Q .normal a w := by
    intro listed a w hs hI hr
    have key : ∀ i, listed.getD i true = true := by
      intro i
      induction i using Nat.strongRecOn with
      | _ i ih =>
        cases hbi : listed.getD i true with
        | true => rfl
        | false =>
          exfalso
          have hi : i < ops.length := by
            rcases Nat.lt_or_ge i ops.length with h | h
            · exact h
            · rw [← hs] at h; simp [Array.getElem?_eq_none h] at hbi
          have ho : ops[i]? = some ops[i] := by simp [hi]
          have : i ∈ Region.ready .any ops.toArray listed := by
            rw [mem_ready]
            refine ⟨hbi, ops[i], by simp [hi], fun e he hbd => ?_⟩
            have h5 := back i ops[i] ho e (by simpa using he) hbd
            have := ih e.on h5
            have hlt : e.on < listed.size := by omega
            simpa [hlt] using this
          rw [hr] at this
          cases this
    have : metF listed = fun _ => true := funext key
    rw [this] at hI
    exact hQ a w hI
  intro fuel
  induction fuel with
  | zero =>
    intro listed a w hs hc hI
    have hr : Region.ready .any ops.toArray listed = [] := by
      cases hr : Region.ready .any ops.toArray listed with
      | nil => rfl
      | cons j js =>
        exfalso
        have hj : j ∈ Region.ready .any ops.toArray listed := by rw [hr]; simp
        have h0 := (mem_ready.1 hj).1
        have hlt : j < listed.size := by
          rcases Nat.lt_or_ge j listed.size with h | h
          · exact h
          · simp [Array.getElem?_eq_none h] at h0
        have h1 : listed.countP (· == false) = 0 := by omega
        rw [Array.countP_eq_zero] at h1
        have h2 : listed[j] = false := by simpa [hlt] using h0
        have := h1 listed[j] (Array.getElem_mem hlt)
        simp [h2] at this
    exact ⟨hr, fin listed a w hs hI hr⟩
  | succ fuel ih =>
    intro listed a w hs hc hI
    refine ⟨fin listed a w hs hI, fun i hi => ?_⟩
    obtain ⟨hl, o, ho', hall⟩ := mem_ready.1 hi
    have ho : ops[i]? = some o := by simpa using ho'
    have hlt : i < listed.size := by
      rcases Nat.lt_or_ge i listed.size with h | h
      · exact h
      · simp [Array.getElem?_eq_none h] at hl
    have hg := hG.at i o ho
    rw [Nat.zero_add] at hg
    obtain ⟨hgd, hg⟩ := hg
    have hg' := hg (metF listed) a w hI hl (fun e he hbd => by
      have := hall e (by simpa using he) hbd
      have hlt2 : e.on < listed.size := by
        rcases Nat.lt_or_ge e.on listed.size with h | h
        · exact h
        · simp [Array.getElem?_eq_none h] at this
      unfold metF
      simpa [hlt2] using this)
    unfold wpOp
    simp only [ho']
    simp only [Region.wanted, hgd, if_true]
    refine .inl (give_wp hg' (fun v w' hJ => ?_))
    exact ih _ _ _ (by simp [hs]) (count_set hl hc) (by rw [metF_set _ _ hlt]; exact hJ)
/-- THE LAW. -/
theorem wp_region_J {P : Program} {ops : List Oper} {a0 : Act} {Q : Exit → Act → World → Prop} {id : Nat} {w : World} (J : (Nat → Bool) → Act → World → Prop)
    (hm : P.follows .mixedOrders = true) (hb : backB ops = true) (h0 : J (fun i => decide (ops.length ≤ i)) a0 w.drew) (hG : OwedAll P J 0 ops)
    (hQ : ∀ a w, J (fun _ => true) a w → Q .normal a w) : (Code.region id ops.toArray true).wp P Q a0 w := by
  refine wp_region_any hm ?_
  have e : metF (Array.replicate ops.length false) = fun i => decide (ops.length ≤ i) := by
    funext i
    unfold metF
    by_cases h : i < ops.length
    · simp [h] <;> omega
    · simp [h] <;> omega
  have h := inv_any (P := P) (ops := ops) (Q := Q) J hb hG hQ ops.length (Array.replicate ops.length false) a0 w.drew (by simp) (by
      have := Array.countP_le_size (p := (· == false)) (xs := Array.replicate ops.length false)
      simpa using this) (by rw [e]; exact h0)
  simpa using h
/-- A slot behind another one's filling. -/
theorem put_other {a : Act} {t d : Tmp} (v : Value) (h : d ≠ t) : (a.put (some d) v).tmps[t]? = a.tmps[t]? := by
  simp [Act.put, Array.getElem?_setIfInBounds_ne h]
theorem put_same {a : Act} {d : Tmp} (v : Value) (h : d < a.tmps.size) : (a.put (some d) v).tmps[d]? = some v := by
  simp [Act.put, h]
theorem put_size {a : Act} (d : Option Tmp) (v : Value) : (a.put d v).tmps.size = a.tmps.size := by cases d <;> simp [Act.put]
theorem put_defers {a : Act} (d : Option Tmp) (v : Value) : (a.put d v).defers = a.defers := by cases d <;> simp [Act.put]
theorem eval_of {a : Act} {t : Tmp} {v : Value} (h : a.tmps[t]? = some v) : a.eval (.tmp t) = v := by simp [Act.eval, h]
end Go.Proofs.Ytobkgaceallegaa

/- A law on regions that draw their order: one invariant over what was met, the values yielded and the world. No condition of its own. -/
namespace Go.Proofs.Ytobkgaceallegaa
open Go
set_option linter.unusedVariables false

def updV (vs : Nat → Value) (i : Nat) (v : Value) : Nat → Value := fun j => bif j == i then v else vs j
theorem updV_same (vs : Nat → Value) (i : Nat) (v : Value) : updV vs i v i = v := by simp [updV]
theorem updV_other {vs : Nat → Value} {i j : Nat} {v : Value} (h : j ≠ i) : updV vs i v j = vs j := by
  have : (j == i) = false := by simpa using h
  simp [updV, this]
theorem met1_same (L : Nat → Bool) (i : Nat) : met1 L i i = true := by simp [met1]
theorem met1_other {L : Nat → Bool} {i j : Nat} (h : j ≠ i) : met1 L i j = L j := by simp [met1, h]
/-- The slots hold what was yielded. -/
structure SlotsAt (ops : List Oper) (a0 : Act) (L : Nat → Bool) (vs : Nat → Value) (a : Act) : Prop where
  defers : a.defers = a0.defers
  size : a.tmps.size = a0.tmps.size
  rest : ∀ t, (∀ (i : Nat) o, ops[i]? = some o → o.dst = some t → L i = false) → a.tmps[t]? = a0.tmps[t]?
  done : ∀ (i : Nat) o, ops[i]? = some o → L i = true → ∀ d, o.dst = some d → a.tmps[d]? = some (vs i)
/-- What is owed for an operation. -/
def OwedV (P : Program) (mk : Tmp → Option Nat) (a0 : Act) (W : (Nat → Bool) → (Nat → Value) → World → Prop) (i : Nat) (o : Oper) : Prop :=
  o.guard = none ∧ ∀ (L : Nat → Bool) (vs : Nat → Value) (w : World) (r : Operand → Value), W L vs w → L i = false → (∀ j, afterB o j = true → L j = true) → factsOf mk a0 (fun j _ v => v = vs j) r w o.op.operands.toList → give P (fun v w' => W (met1 L i) (updV vs i v) w') ((execOp r o).run P w)
def OwedVs (P : Program) (mk : Tmp → Option Nat) (a0 : Act) (W : (Nat → Bool) → (Nat → Value) → World → Prop) : Nat → List Oper → Prop
  | _, [] => True
  | i, o :: l => OwedV P mk a0 W i o ∧ OwedVs P mk a0 W (i + 1) l
section
variable {P : Program} {mk : Tmp → Option Nat} {ops : List Oper} {a0 : Act} {W : (Nat → Bool) → (Nat → Value) → World → Prop} {Q : Exit → Act → World → Prop} {n : Nat}
theorem OwedVs.nil {i : Nat} : OwedVs P mk a0 W i [] := trivial
theorem OwedVs.cons {i : Nat} {o : Oper} {l : List Oper} (h : OwedV P mk a0 W i o) (hl : OwedVs P mk a0 W (i + 1) l) : OwedVs P mk a0 W i (o :: l) := ⟨h, hl⟩
theorem SlotsAt.put (hsh : shapeB mk ops n = true) (hn : a0.tmps.size = n) {L : Nat → Bool} {vs : Nat → Value} {a : Act} (hI : SlotsAt ops a0 L vs a) {i : Nat} {o : Oper} (ho : ops[i]? = some o) (hl : L i = false) (v : Value) :
    SlotsAt ops a0 (met1 L i) (updV vs i v) (a.put o.dst v) := by
  have hs := shape_spec hsh ho
  refine ⟨by rw [put_defers]; exact hI.defers, by rw [put_size]; exact hI.size, fun t ht => ?_, fun j o' hj hlj d hd => ?_⟩
  · have h1 : a.tmps[t]? = a0.tmps[t]? := hI.rest t fun j o' hj hd' => by
      have := ht j o' hj hd'
      by_cases hij : j = i
      · subst hij; rw [met1_same] at this; cases this
      · rwa [met1_other hij] at this
    cases hd : o.dst with
    | none => exact h1
    | some d =>
      have hne : d ≠ t := by
        rintro rfl
        have := ht i o ho hd
        rw [met1_same] at this; cases this
      rw [put_other v hne]; exact h1
  · by_cases hij : j = i
    · subst hij
      rw [ho] at hj; cases hj
      have hdn : d < n := by
        simp only [shapeOneB, hd, Bool.and_eq_true, decide_eq_true_eq] at hs
        exact hs.1.2.2
      rw [hd, put_same v (by rw [hI.size, hn]; exact hdn), updV_same]
    · rw [met1_other hij] at hlj
      have h3 := hI.done j o' hj hlj d hd
      rw [updV_other hij]
      cases hd' : o.dst with
      | none => exact h3
      | some d' =>
        have hne : d' ≠ d := by
          rintro rfl
          exact hij (shape_dst hsh ho hj hd' hd).symm
        rw [put_other v hne]; exact h3
theorem SlotsAt.facts (hsh : shapeB mk ops n = true) {L : Nat → Bool} {vs : Nat → Value} {a : Act} (w : World) (hI : SlotsAt ops a0 L vs a) {i : Nat} {o : Oper} (ho : ops[i]? = some o)
    (hall : ∀ j, afterB o j = true → L j = true) : ∀ x ∈ o.op.operands.toList, factOf mk a0 (fun j _ v => v = vs j) a.eval w x := by
  intro x hx
  have hs := shape_spec hsh ho
  simp only [shapeOneB, Bool.and_eq_true, List.all_eq_true] at hs
  have h2 := hs.1.1.1.2 x hx
  cases x with
  | tmp t =>
    simp only [factOf]
    simp only [Bool.and_eq_true, beq_iff_eq] at h2
    rw [← h2.1]
    cases hm : maker ops t with
    | none =>
      simp only [Act.eval]
      have := hI.rest t fun j o' hj hd' => absurd hd' (maker_none hm hj)
      simp [this]
    | some j =>
      simp only [hm] at h2
      obtain ⟨o', hj, hd'⟩ := maker_some hm
      have := hI.done j o' hj (hall j h2.2) t hd'
      simp [Act.eval, this]
  | const c => rfl
  | global g => rfl
  | func f => rfl
theorem SlotsAt.whole (hsh : shapeB mk ops n = true) (hn : a0.tmps.size = n) {vs : Nat → Value} {a : Act} (hI : SlotsAt ops a0 (fun _ => true) vs a) : a = putAll vs ops 0 a0 := by
  have hd : a.defers = (putAll vs ops 0 a0).defers := by rw [putAll_defers, hI.defers]
  have ht : a.tmps = (putAll vs ops 0 a0).tmps := by
    apply Array.ext_getElem?
    intro t
    by_cases hm : ∃ (k : Nat) (o : Oper), ops[k]? = some o ∧ o.dst = some t
    · obtain ⟨k, o, hk, hdt⟩ := hm
      have hs := shape_spec hsh hk
      simp only [shapeOneB, hdt, Bool.and_eq_true, decide_eq_true_eq] at hs
      rw [putAll_at _ t ops 0 a0 k o hk hdt (by rw [hn]; exact hs.1.2.2) (fun k' o' hk' hd' => shape_dst hsh hk' hk hd' hdt)]
      rw [Nat.zero_add]
      exact hI.done k o hk rfl t hdt
    · rw [putAll_other _ t ops 0 a0 (fun o ho hdt => by
        obtain ⟨k, hk⟩ := List.getElem?_of_mem ho
        exact hm ⟨k, o, hk, hdt⟩)]
      exact hI.rest t fun i o hi hdt => absurd ⟨i, o, hi, hdt⟩ hm
  cases a
  cases h : putAll vs ops 0 a0
  rw [h] at hd ht
  simp at hd ht
  rw [hd, ht]
theorem shape_back (hsh : shapeB mk ops n = true) : backB ops = true := by
  unfold backB
  rw [List.all_eq_true]
  intro i hi
  have hi := List.mem_range.1 hi
  have hs := shape_spec hsh (show ops[i]? = some ops[i] by simp [hi])
  simp only [shapeOneB, Bool.and_eq_true] at hs
  have h2 := hs.2
  rw [show ops[i]? = some ops[i] by simp [hi]]
  simpa using h2
theorem OwedVs.toJ (hsh : shapeB mk ops n = true) (hn : a0.tmps.size = n) : ∀ (l : List Oper) (k : Nat), (∀ i o, l[i]? = some o → ops[k + i]? = some o) → OwedVs P mk a0 W k l → OwedAll P (fun L a w => ∃ vs, W L vs w ∧ SlotsAt ops a0 L vs a) k l
  | [], k, _, _ => trivial
  | o :: l, k, hk, h => by
    refine ⟨⟨h.1.1, ?_⟩, OwedVs.toJ hsh hn l (k + 1) (fun i o' hi => by have := hk (i + 1) o' (by simpa using hi); rwa [show k + 1 + i = k + (i + 1) by omega]) h.2⟩
    intro L a w hJ hl hall
    obtain ⟨vs, hW, hS⟩ := hJ
    have ho : ops[k]? = some o := hk 0 o rfl
    have hall' : ∀ j, afterB o j = true → L j = true := by
      intro j hj
      obtain ⟨e, he, hb, rfl⟩ := after_spec hj
      exact hall e (by simpa using he) hb
    have hg := h.1.2 L vs w a.eval hW hl hall' (factsOf_mk (hS.facts hsh w ho hall'))
    have mono : ∀ {K K' : Value → World → Prop} (r : Result Next), (∀ v w, K v w → K' v w) → give P K r → give P K' r := by
      intro K K' r hKK h
      unfold give at h ⊢
      split at h
      · exact hKK _ _ h
      · exact hKK _ _ h
      · exact Calls.mono h fun e w'' ⟨v, he, hv⟩ => ⟨v, he, hKK _ _ hv⟩
      · exact h.elim
    exact mono _ (fun v w' hv => ⟨updV vs k v, hv, hS.put hsh hn ho hl v⟩) hg
/-- THE LAW. -/
theorem wp_region_W {id : Nat} {w : World} (W : (Nat → Bool) → (Nat → Value) → World → Prop) (mk : Tmp → Option Nat) (n : Nat)
    (hm : P.follows .mixedOrders = true) (hsh : shapeB mk ops n = true) (hn : a0.tmps.size = n) (h0 : ∀ vs, W (fun i => decide (ops.length ≤ i)) vs w.drew) (hG : OwedVs P mk a0 W 0 ops)
    (hQ : ∀ vs a w', W (fun _ => true) vs w' → a = putAll vs ops 0 a0 → Q .normal a w') : (Code.region id ops.toArray true).wp P Q a0 w := by
  refine wp_region_J (fun L a w => ∃ vs, W L vs w ∧ SlotsAt ops a0 L vs a) hm (shape_back hsh) ⟨fun _ => undef, h0 _, rfl, rfl, fun _ _ => rfl, fun i o hi hl => ?_⟩ (OwedVs.toJ hsh hn ops 0 (fun i o h => by rwa [Nat.zero_add]) hG) ?_
  · exfalso
    have hi : i < ops.length := by
      rcases Nat.lt_or_ge i ops.length with h | h
      · exact h
      · simp [List.getElem?_eq_none h] at hi
    simp at hl
    omega
  · rintro a w' ⟨vs, hW, hS⟩
    exact hQ vs a w' hW (hS.whole hsh hn)
end
end Go.Proofs.Ytobkgaceallegaa
