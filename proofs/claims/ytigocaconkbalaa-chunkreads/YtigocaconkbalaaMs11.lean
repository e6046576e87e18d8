/- Texts of the seat, one behind the other. No condition of its own. -/
import Derived.Test.YtigocaconkbalaaMs10
import Derived.Deep.CutRange
set_option linter.unusedVariables false
set_option linter.unusedSimpArgs false
set_option maxHeartbeats 32000000
set_option maxRecDepth 100000
namespace Go.Proofs.Ytigocaconkbalaa
namespace Tlv
open Go Go.RowKit
structure WQ (B0 : Nat) (w0 w : World) (q q4 : Nat) (c : Ck) (s : Sv) : Prop where
 ext : Ext w0 w
 lo : w0.heap.size ≤ q
 hb : Blk w q (CV c s) 32
 lz : w0.heap.size ≤ q4
 hz : Blk w q4 (CV (ck0 0) sv0) 32
 ne : q4 ≠ q
 t : OB w0 B0 (.slice s.tA s.tN s.tC) c.text
 r : OB w0 B0 (.slice s.rA s.rN s.rC) c.rand
 i : OB w0 B0 (.slice s.iA s.iN s.iC) c.info
 g : OwnP 70 w0 B0 (.slice s.gA s.gN s.gC) c.gaps
 d : OwnN .u32 w0 B0 22 (.slice s.dA s.dN s.dC) (ci c.dups)
 a : OwnN .i64 w w0.heap.size 65 (.slice s.aA s.aN s.aC) c.addrs
 o : OwnP 71 w w0.heap.size (.slice s.oA s.oN s.oC) c.ops
theorem WQ.at {B0 : Nat} {w0 w : World} {q q4 : Nat} {c : Ck} {s : Sv} (h : WQ B0 w0 w q q4 c s) : CkAt w s c := ⟨h.t.bytes.ext h.ext, h.r.bytes.ext h.ext, h.a.nums, h.i.bytes.ext h.ext, h.g.pairs.ext h.ext, h.d.nums.ext h.ext, h.o.pairs⟩
theorem WQ.grow {B0 : Nat} {w0 w w' : World} {q q4 : Nat} {c : Ck} {s : Sv} (h : WQ B0 w0 w q q4 c s) (he : Ext w w') : WQ B0 w0 w' q q4 c s := ⟨h.ext.trans he, h.lo, h.hb.ext he, h.lz, h.hz.ext he, h.ne, h.t, h.r, h.i, h.g, h.d, h.a.ext he, h.o.ext he⟩
structure HalfQ (B0 : Nat) (w0 w : World) (q q4 : Nat) (c c' : Ck) (s s' : Sv) : Prop where
 ext : Ext w0 w
 lo : w0.heap.size ≤ q
 hb : Blk w q (CV c s) 32
 lz : w0.heap.size ≤ q4
 hz : Blk w q4 (CV (ck0 0) sv0) 32
 ne : q4 ≠ q
 t : OB w0 B0 (.slice s'.tA s'.tN s'.tC) c'.text
 r : OB w0 B0 (.slice s'.rA s'.rN s'.rC) c'.rand
 i : OB w0 B0 (.slice s'.iA s'.iN s'.iC) c'.info
 g : OwnP 70 w0 B0 (.slice s'.gA s'.gN s'.gC) c'.gaps
 d : OwnN .u32 w0 B0 22 (.slice s'.dA s'.dN s'.dC) (ci c'.dups)
 a : OwnN .i64 w w0.heap.size 65 (.slice s'.aA s'.aN s'.aC) c'.addrs
 o : OwnP 71 w w0.heap.size (.slice s'.oA s'.oN s'.oC) c'.ops
theorem HalfQ.store {B0 : Nat} {w0 w : World} {q q4 j : Nat} {c c' : Ck} {s s' : Sv} {v : Value} (h : HalfQ B0 w0 w q q4 c c' s s') (hset : (CV c s).setIfInBounds j v = CV c' s') : WQ B0 w0 (w.setCell ⟨q, j, none⟩ v) q q4 c' s' := by
 have hk : KeepBut (· = q) w (w.setCell ⟨q, j, none⟩ v) := ⟨rfl, rfl, rfl, by simp, fun k _ hk => block_other hk j v⟩
 have hb' : Blk (w.setCell ⟨q, j, none⟩ v) q (CV c' s') 32 := by rw [← hset]; exact h.hb.set j v
 exact ⟨h.ext.of_but hk (fun k e => by subst e; exact h.lo), h.lo, hb', h.lz, h.hz.but hk h.ne, h.ne, h.t, h.r, h.i, h.g, h.d, h.a.mono_via hk (ownsRow_ne h.a.1 h.hb (by decide)), h.o.but hk (ownsRow_ne h.o.1 h.hb (by decide))⟩
theorem give_wq_a {B0 : Nat} {w0 w : World} {q q4 : Nat} {c : Ck} {s : Sv} {u : Value} {p : Int} (h : WQ B0 w0 w q q4 c s) (hx : NumsAt .i64 w u [p]) (hl : c.addrs.length ≤ 100000) {r : Operand → Value} {o : Oper} {K : Value → World → Prop} {x y : Operand} (ho : o.op = .call { callee := .builtin .append, args := #[x, y], argTypes := #[27, 27] }) (hs : r x = .slice s.aA s.aN s.aC) (hy : r y = u)
  (hk : ∀ ad n cap w', HalfQ B0 w0 w' q q4 c { c with addrs := c.addrs ++ [p] } s { s with aA := ad, aN := n, aC := cap } → K (.slice ad n cap) w') : give Try.prog K ((execOp r o).run Try.prog w) := by
 obtain ⟨v', w', hr, ho2, hg2, hgg⟩ := run_append_nums numTA w w0.heap.size o.type _ u _ [(p : Int)] h.a hx (by simp only [List.length_cons, List.length_nil]; omega) (by simp; omega) h.ext.size
 have hkk : KeepBut (fun k => (Value.slice s.aA s.aN s.aC).ownBlock = some k) w w' := KeepBut.grown hg2 (fun r e => e)
 obtain ⟨ad, cap, rfl, _⟩ := ho2.slice
 refine gvo (v := .slice ad _ cap) (w' := w') ?_ (hk ad _ cap w' ⟨h.ext.of_but hkk (fun k e => (h.a.lt e).1), h.lo, h.hb.but hkk (fun e => ownsRow_ne h.a.1 h.hb (by decide) _ e rfl), h.lz, h.hz.but hkk (fun e => ownsRow_ne h.a.1 h.hz (by decide) _ e rfl), h.ne, h.t, h.r, h.i, h.g, h.d, ho2, h.o.but hkk (own_apart h.o.1 h.a.1 (by decide))⟩)
 simp only [execOp, ho, resolve, invoke, builtin, Sem.run_bind, Sem.run_pure, Result.andThen_ok, List.map_toArray, List.map_cons, List.map_nil, hs, hy, hr]
theorem give_wq_o {B0 : Nat} {w0 w : World} {q q4 : Nat} {c : Ck} {s : Sv} {u : Value} {p : Int × Int} (h : WQ B0 w0 w q q4 c s) (hx : PairsAt w u [p]) (hl : c.ops.length ≤ 100000) {r : Operand → Value} {o : Oper} {K : Value → World → Prop} {x y : Operand} (ho : o.op = .call { callee := .builtin .append, args := #[x, y], argTypes := #[30, 30] }) (hs : r x = .slice s.oA s.oN s.oC) (hy : r y = u)
  (hk : ∀ ad n cap w', HalfQ B0 w0 w' q q4 c { c with ops := c.ops ++ [p] } s { s with oA := ad, oN := n, oC := cap } → K (.slice ad n cap) w') : give Try.prog K ((execOp r o).run Try.prog w) := by
 obtain ⟨ad, cap, w', hr, ho2, hkk, hgg⟩ := run_appP prO2 w w0.heap.size o.type _ u c.ops [p] h.o hx (by simp; omega) h.ext.size
 refine gvo (v := .slice ad _ cap) (w' := w') ?_ (hk ad _ cap w' ⟨h.ext.of_but hkk (fun k e => (OwnP.lt h.o e).1), h.lo, h.hb.but hkk (fun e => ownsRow_ne h.o.1 h.hb (by decide) _ e rfl), h.lz, h.hz.but hkk (fun e => ownsRow_ne h.o.1 h.hz (by decide) _ e rfl), h.ne, h.t, h.r, h.i, h.g, h.d, h.a.mono_via hkk (own_apart h.a.1 h.o.1 (by decide)), ho2⟩)
 simp only [execOp, ho, resolve, invoke, builtin, Sem.run_bind, Sem.run_pure, Result.andThen_ok, List.map_toArray, List.map_cons, List.map_nil, hs, hy, hr]
theorem wl_setQ {B0 : Nat} {w0 w : World} {q q4 : Nat} {c : Ck} {s : Sv} (h : WQ B0 w0 w q q4 c s) {ops : Array Oper} {rest : List Oper} {o : Oper} {a : Act} {Q : Exit → Act → World → Prop} (hgd : o.guard = none) {t : TypeId} (hT : OneT Try.prog t) {x y : Operand} (j : Nat) {v : Value} (ho : o.op = .store t x y) (hx : a.eval x = .pointer (some ⟨q, j, none⟩)) (hy : a.eval y = v) (hv : v.cells = #[v]) (h1 : v.oneCell' = true) (hj : j < 22) (c' : Ck) (s' : Sv)
  (hf : WQ B0 w0 w q q4 c s → HalfQ B0 w0 w q q4 c c' s s') (hset : (CV c s).setIfInBounds j v = CV c' s')
  (hk : ∀ w', WQ B0 w0 w' q q4 c' s' → wpList Try.prog ops Q rest (a.put o.dst undef) w') : wpList Try.prog ops Q (o :: rest) a w := by
 refine wl_set hgd hT ho hx hy hv h1 h.hb (show j < (CV c s).size from hj) ?_
 intro w' hb' hk' _
 rw [hset] at hb'
 have hh := hf h
 exact hk w' ⟨h.ext.of_but hk' (fun k e => by subst e; exact h.lo), h.lo, hb', h.lz, h.hz.but hk' h.ne, h.ne, hh.t, hh.r, hh.i, hh.g, hh.d, hh.a.mono_via hk' (ownsRow_ne hh.a.1 h.hb (by decide)), hh.o.but hk' (ownsRow_ne hh.o.1 h.hb (by decide))⟩
structure WithQA (B0 : Nat) (w0 : World) (q q4 g5 : Nat) (c : Ck) (s : Sv) (K : Int) (u : Value) (m : List Nat) (L : Nat → Bool) (vs : Nat → Value) (wx : World) : Prop where
 A : L 6 = false → WQ B0 w0 wx q q4 c s ∧ Blk wx g5 #[.int .i64 K, u] 85
 B : L 6 = true → L 8 = false → ∃ ad n cap, vs 6 = .slice ad n cap ∧ HalfQ B0 w0 wx q q4 c ({ c with addrs := c.addrs ++ [fourV m] }) s { s with aA := ad, aN := n, aC := cap }
 C : L 8 = true → ∃ s2, WQ B0 w0 wx q q4 ({ c with addrs := c.addrs ++ [fourV m] }) s2
 S : L 5 = true → L 6 = false → NumsAt .i64 wx (vs 5) [fourV m]
 k0 : L 0 = true → vs 0 = .pointer (some ⟨q, 14, none⟩)
 k1 : L 1 = true → vs 1 = .slice s.aA s.aN s.aC
 k2 : L 2 = true → vs 2 = .pointer (some ⟨g5, 1, none⟩)
 k3 : L 3 = true → vs 3 = u
 k4 : L 4 = true → vs 4 = .int .i64 (fourV m)
 k7 : L 7 = true → vs 7 = .pointer (some ⟨q, 14, none⟩)
 d6_1 : L 6 = true → L 1 = true
 d6_5 : L 6 = true → L 5 = true
 d8_6 : L 8 = true → L 6 = true
 d4_3 : L 4 = true → L 3 = true
 d5_4 : L 5 = true → L 4 = true
structure WithQO (B0 : Nat) (w0 : World) (q q4 g5 : Nat) (c : Ck) (s : Sv) (K : Int) (u : Value) (m : List Nat) (L : Nat → Bool) (vs : Nat → Value) (wx : World) : Prop where
 A : L 10 = false → WQ B0 w0 wx q q4 c s ∧ Blk wx g5 #[.int .i64 K, u] 85
 B : L 10 = true → L 12 = false → ∃ ad n cap, vs 10 = .slice ad n cap ∧ HalfQ B0 w0 wx q q4 c ({ c with ops := c.ops ++ [(K - 49152, fourV m)] }) s { s with oA := ad, oN := n, oC := cap }
 C : L 12 = true → ∃ s2, WQ B0 w0 wx q q4 ({ c with ops := c.ops ++ [(K - 49152, fourV m)] }) s2
 S : L 9 = true → L 10 = false → PairsAt wx (vs 9) [(K - 49152, fourV m)]
 k0 : L 0 = true → vs 0 = .pointer (some ⟨q, 20, none⟩)
 k1 : L 1 = true → vs 1 = .slice s.oA s.oN s.oC
 k2 : L 2 = true → vs 2 = ptr g5
 k3 : L 3 = true → vs 3 = .int .i64 K
 k4 : L 4 = true → vs 4 = .int .i64 (K - 49152)
 k5 : L 5 = true → vs 5 = .pointer (some ⟨g5, 1, none⟩)
 k6 : L 6 = true → vs 6 = u
 k7 : L 7 = true → vs 7 = .int .i64 (fourV m)
 k8 : L 8 = true → vs 8 = .agg #[.int .i64 (K - 49152), .int .i64 (fourV m)]
 k11 : L 11 = true → vs 11 = .pointer (some ⟨q, 20, none⟩)
 d10_1 : L 10 = true → L 1 = true
 d10_9 : L 10 = true → L 9 = true
 d12_10 : L 12 = true → L 10 = true
 d7_6 : L 7 = true → L 6 = true
 d9_8 : L 9 = true → L 8 = true
 d8_7 : L 8 = true → L 7 = true
 d8_4 : L 8 = true → L 4 = true
 d4_3 : L 4 = true → L 3 = true
def blankB (c : Ck) (s : Sv) : Bool := ((((((((c.ptsn : Int) == 0) && ((c.pstr : Int) == 0)) && ((c.pseq : Int) == 0)) && (!(c.pb))) && (!(c.pe))) && (!(c.pu))) && ((s.tN : Int) == 0))
theorem blank_any {w : World} (c : Ck) (s : Sv) : Calls Try.prog 32 #[.agg (PV c s)] w fun e w' => e = .returned (.bool (blankB c s)) ∧ Ext w w' := by
 unfold blankB
 go_enter Try.func32, Try.ntmps32
 refine wp_seq_k (fun K hK => ?_)
 have HK := Stop.mk hK
 clear hK
 go_wp2_with (first
  | (refine wl_box (C := PV c s) rfl rfl rfl ?_; intro w1 hb1 he1 hx; clear hx))
 refine HK.go _ _ ?_
 clear HK
 refine wp_seq_k (fun K2 hK2 => ?_)
 have HK2 := Stop.mk hK2
 clear hK2
 refine wp_line (fun t => bif Nat.ble 3 t && Nat.ble t 36 then some (t - 3) else bif Nat.beq t 2 then some 34 else none) 37 Ext
  [Is (.pointer (some ⟨w.heap.size, 0, none⟩)),
   Is (.int .u32 (c.ptsn : Int)),
   Is (.bool ((c.ptsn : Int) == 0)),
   Is (.bool ((c.ptsn : Int) == 0)),
   Under ((c.ptsn : Int) == 0) (.pointer (some ⟨w.heap.size, 1, none⟩)),
   Under ((c.ptsn : Int) == 0) (.int .u16 (c.pstr : Int)),
   Under ((c.ptsn : Int) == 0) (.bool ((c.pstr : Int) == 0)),
   Is (.bool (((c.ptsn : Int) == 0) && ((c.pstr : Int) == 0))),
   Is (.bool (((c.ptsn : Int) == 0) && ((c.pstr : Int) == 0))),
   Under (((c.ptsn : Int) == 0) && ((c.pstr : Int) == 0)) (.pointer (some ⟨w.heap.size, 2, none⟩)),
   Under (((c.ptsn : Int) == 0) && ((c.pstr : Int) == 0)) (.int .u16 (c.pseq : Int)),
   Under (((c.ptsn : Int) == 0) && ((c.pstr : Int) == 0)) (.bool ((c.pseq : Int) == 0)),
   Is (.bool ((((c.ptsn : Int) == 0) && ((c.pstr : Int) == 0)) && ((c.pseq : Int) == 0))),
   Is (.bool ((((c.ptsn : Int) == 0) && ((c.pstr : Int) == 0)) && ((c.pseq : Int) == 0))),
   Under ((((c.ptsn : Int) == 0) && ((c.pstr : Int) == 0)) && ((c.pseq : Int) == 0)) (.pointer (some ⟨w.heap.size, 3, none⟩)),
   Under ((((c.ptsn : Int) == 0) && ((c.pstr : Int) == 0)) && ((c.pseq : Int) == 0)) (.bool c.pb),
   Under ((((c.ptsn : Int) == 0) && ((c.pstr : Int) == 0)) && ((c.pseq : Int) == 0)) (.bool (!(c.pb))),
   Is (.bool (((((c.ptsn : Int) == 0) && ((c.pstr : Int) == 0)) && ((c.pseq : Int) == 0)) && (!(c.pb)))),
   Is (.bool (((((c.ptsn : Int) == 0) && ((c.pstr : Int) == 0)) && ((c.pseq : Int) == 0)) && (!(c.pb)))),
   Under (((((c.ptsn : Int) == 0) && ((c.pstr : Int) == 0)) && ((c.pseq : Int) == 0)) && (!(c.pb))) (.pointer (some ⟨w.heap.size, 4, none⟩)),
   Under (((((c.ptsn : Int) == 0) && ((c.pstr : Int) == 0)) && ((c.pseq : Int) == 0)) && (!(c.pb))) (.bool c.pe),
   Under (((((c.ptsn : Int) == 0) && ((c.pstr : Int) == 0)) && ((c.pseq : Int) == 0)) && (!(c.pb))) (.bool (!(c.pe))),
   Is (.bool ((((((c.ptsn : Int) == 0) && ((c.pstr : Int) == 0)) && ((c.pseq : Int) == 0)) && (!(c.pb))) && (!(c.pe)))),
   Is (.bool ((((((c.ptsn : Int) == 0) && ((c.pstr : Int) == 0)) && ((c.pseq : Int) == 0)) && (!(c.pb))) && (!(c.pe)))),
   Under ((((((c.ptsn : Int) == 0) && ((c.pstr : Int) == 0)) && ((c.pseq : Int) == 0)) && (!(c.pb))) && (!(c.pe))) (.pointer (some ⟨w.heap.size, 5, none⟩)),
   Under ((((((c.ptsn : Int) == 0) && ((c.pstr : Int) == 0)) && ((c.pseq : Int) == 0)) && (!(c.pb))) && (!(c.pe))) (.bool c.pu),
   Under ((((((c.ptsn : Int) == 0) && ((c.pstr : Int) == 0)) && ((c.pseq : Int) == 0)) && (!(c.pb))) && (!(c.pe))) (.bool (!(c.pu))),
   Is (.bool (((((((c.ptsn : Int) == 0) && ((c.pstr : Int) == 0)) && ((c.pseq : Int) == 0)) && (!(c.pb))) && (!(c.pe))) && (!(c.pu)))),
   Is (.bool (((((((c.ptsn : Int) == 0) && ((c.pstr : Int) == 0)) && ((c.pseq : Int) == 0)) && (!(c.pb))) && (!(c.pe))) && (!(c.pu)))),
   Under (((((((c.ptsn : Int) == 0) && ((c.pstr : Int) == 0)) && ((c.pseq : Int) == 0)) && (!(c.pb))) && (!(c.pe))) && (!(c.pu))) (.pointer (some ⟨w.heap.size, 6, none⟩)),
   Under (((((((c.ptsn : Int) == 0) && ((c.pstr : Int) == 0)) && ((c.pseq : Int) == 0)) && (!(c.pb))) && (!(c.pe))) && (!(c.pu))) (.slice s.tA s.tN s.tC),
   Under (((((((c.ptsn : Int) == 0) && ((c.pstr : Int) == 0)) && ((c.pseq : Int) == 0)) && (!(c.pb))) && (!(c.pe))) && (!(c.pu))) (.int .i64 (s.tN : Int)),
   Under (((((((c.ptsn : Int) == 0) && ((c.pstr : Int) == 0)) && ((c.pseq : Int) == 0)) && (!(c.pb))) && (!(c.pe))) && (!(c.pu))) (.bool ((s.tN : Int) == 0)),
   Is (.bool ((((((((c.ptsn : Int) == 0) && ((c.pstr : Int) == 0)) && ((c.pseq : Int) == 0)) && (!(c.pb))) && (!(c.pe))) && (!(c.pu))) && ((s.tN : Int) == 0))),
   Is (.bool ((((((((c.ptsn : Int) == 0) && ((c.pstr : Int) == 0)) && ((c.pseq : Int) == 0)) && (!(c.pb))) && (!(c.pe))) && (!(c.pu))) && ((s.tN : Int) == 0)))]
  rfl (by kernel_rfl) rfl Ext.refl (fun _ _ _ => Ext.trans) (Ks (Ks (Ks (Ks (Ku (Ku (Ku (Ks (Ks (Ku (Ku (Ku (Ks (Ks (Ku (Ku (Ku (Ks (Ks (Ku (Ku (Ku (Ks (Ks (Ku (Ku (Ku (Ks (Ks (Ku (Ku (Ku (Ku (Ks (Ks (KeepAll.nil)))))))))))))))))))))))))))))))))))) ?_ ?_
 ·
  refine Gc (ln1 (gd0 rfl) rfl (ouI rfl) iA (fun r wx hR h1 => by simp [execOp, h1, go_sem])) ?_
  refine Gc (ln1 (gd0 rfl) rfl (ouI rfl) iA (fun r wx hR h1 => exg one22 rfl h1 (pv0 (hb1.ext hR)))) ?_
  refine Gc (ln2 (gd0 rfl) rfl (ouI rfl) iA iA (fun r wx hR h1 h2 => by simp [execOp, h1, h2, go_sem])) ?_
  refine Gc (lmv rfl (.inl rfl) rfl rfl iB) ?_
  refine Gc (ln1 (gT rfl iB) rfl (ouU rfl) iA (fun r wx hR h1 => by simp [execOp, h1, go_sem])) ?_
  refine Gc (ln1 (gT rfl iB) rfl (ouU rfl) iC (fun r wx hR h1 => exg one23 rfl h1 (pv1 (hb1.ext hR)))) ?_
  refine Gc (ln2 (gT rfl iB) rfl (ouU rfl) iC iA (fun r wx hR h1 h2 => by simp [execOp, h1, h2, go_sem])) ?_
  refine Gc (lnA (gd0 rfl) rfl (ouI rfl) iA iD) ?_
  refine Gc (lmv rfl (.inl rfl) rfl rfl iB) ?_
  refine Gc (ln1 (gT rfl iB) rfl (ouU rfl) iA (fun r wx hR h1 => by simp [execOp, h1, go_sem])) ?_
  refine Gc (ln1 (gT rfl iB) rfl (ouU rfl) iC (fun r wx hR h1 => exg one23 rfl h1 (pv2 (hb1.ext hR)))) ?_
  refine Gc (ln2 (gT rfl iB) rfl (ouU rfl) iC iA (fun r wx hR h1 h2 => by simp [execOp, h1, h2, go_sem])) ?_
  refine Gc (lnA (gd0 rfl) rfl (ouI rfl) iA iD) ?_
  refine Gc (lmv rfl (.inl rfl) rfl rfl iB) ?_
  refine Gc (ln1 (gT rfl iB) rfl (ouU rfl) iA (fun r wx hR h1 => by simp [execOp, h1, go_sem])) ?_
  refine Gc (ln1 (gT rfl iB) rfl (ouU rfl) iC (fun r wx hR h1 => exg one4 rfl h1 (pv3 (hb1.ext hR)))) ?_
  refine Gc (ln1 (gT rfl iB) rfl (ouU rfl) iC (fun r wx hR h1 => by simp [execOp, h1, go_sem])) ?_
  refine Gc (lnA (gd0 rfl) rfl (ouI rfl) iA iD) ?_
  refine Gc (lmv rfl (.inl rfl) rfl rfl iB) ?_
  refine Gc (ln1 (gT rfl iB) rfl (ouU rfl) iA (fun r wx hR h1 => by simp [execOp, h1, go_sem])) ?_
  refine Gc (ln1 (gT rfl iB) rfl (ouU rfl) iC (fun r wx hR h1 => exg one4 rfl h1 (pv4 (hb1.ext hR)))) ?_
  refine Gc (ln1 (gT rfl iB) rfl (ouU rfl) iC (fun r wx hR h1 => by simp [execOp, h1, go_sem])) ?_
  refine Gc (lnA (gd0 rfl) rfl (ouI rfl) iA iD) ?_
  refine Gc (lmv rfl (.inl rfl) rfl rfl iB) ?_
  refine Gc (ln1 (gT rfl iB) rfl (ouU rfl) iA (fun r wx hR h1 => by simp [execOp, h1, go_sem])) ?_
  refine Gc (ln1 (gT rfl iB) rfl (ouU rfl) iC (fun r wx hR h1 => exg one4 rfl h1 (pv5 (hb1.ext hR)))) ?_
  refine Gc (ln1 (gT rfl iB) rfl (ouU rfl) iC (fun r wx hR h1 => by simp [execOp, h1, go_sem])) ?_
  refine Gc (lnA (gd0 rfl) rfl (ouI rfl) iA iD) ?_
  refine Gc (lmv rfl (.inl rfl) rfl rfl iB) ?_
  refine Gc (ln1 (gT rfl iB) rfl (ouU rfl) iA (fun r wx hR h1 => by simp [execOp, h1, go_sem])) ?_
  refine Gc (ln1 (gT rfl iB) rfl (ouU rfl) iC (fun r wx hR h1 => exg oneS rfl h1 (pv6 (hb1.ext hR)))) ?_
  refine Gc (ln1 (gT rfl iB) rfl (ouU rfl) iC (fun r wx hR h1 => by replace h1 : r (.tmp 33) = _ := h1; simp [execOp, h1, go_sem])) ?_
  refine Gc (ln2 (gT rfl iB) rfl (ouU rfl) iC iA (fun r wx hR h1 h2 => by simp [execOp, h1, h2, go_sem])) ?_
  refine Gc (lnA (gd0 rfl) rfl (ouI rfl) iA iD) ?_
  refine Gc (lmv rfl (.inr rfl) rfl rfl iB) ?_
  exact GoodAll.nil
 ·
  intro vs wE aE hR hold haE
  have hv : vs 34 = .bool ((((((((c.ptsn : Int) == 0) && ((c.pstr : Int) == 0)) && ((c.pseq : Int) == 0)) && (!(c.pb))) && (!(c.pe))) && (!(c.pu))) && ((s.tN : Int) == 0)) := hold.at 34
  refine HK2.go _ _ ?_
  refine wp_ret ?_
  have hs : aE.tmps[2]? = some (.bool ((((((((c.ptsn : Int) == 0) && ((c.pstr : Int) == 0)) && ((c.pseq : Int) == 0)) && (!(c.pb))) && (!(c.pe))) && (!(c.pu))) && ((s.tN : Int) == 0))) := by rw [haE, ← hv]; kernel_rfl
  have hdf : aE.defers = [] := by rw [haE]; exact putAll_defers _ _ _ _
  clear haE
  refine bodyPost_ret (v := .bool ((((((((c.ptsn : Int) == 0) && ((c.pstr : Int) == 0)) && ((c.pseq : Int) == 0)) && (!(c.pb))) && (!(c.pe))) && (!(c.pu))) && ((s.tN : Int) == 0))) ?_ hdf ⟨rfl, he1.trans hR⟩
  simp [results, Try.results32, go_sem, hs]
abbrev gd3_0 (c : Ck) (s : Sv) : Bool := ((!(knB c.kind)) || (decide (c.win < 0)))
abbrev gd3_1 (c : Ck) (s : Sv) : Bool := ((gd3_0 c s) || (decide (c.win > 2147483647)))
abbrev gd3_2 (c : Ck) (s : Sv) : Bool := ((gd3_1 c s) || (decide (c.cause < 0)))
abbrev gd3_3 (c : Ck) (s : Sv) : Bool := ((gd3_2 c s) || (decide (c.cause > 65535)))
abbrev gd5_0 (c : Ck) (s : Sv) : Bool := ((c.kind != 0) && (!(blankB c s)))
abbrev gd5_1 (c : Ck) (s : Sv) : Bool := ((decide ((s.tN : Int) < 1)) || (decide ((s.tN : Int) > 64)))
abbrev gd5_2 (c : Ck) (s : Sv) : Bool := ((c.kind == 0) && (gd5_1 c s))
abbrev gd5_3 (c : Ck) (s : Sv) : Bool := ((gd5_2 c s) || (gd5_0 c s))
abbrev gd7_0 (c : Ck) (s : Sv) : Bool := (((c.tag : Int) == 0) || (decide (c.out < 1)))
abbrev gd7_1 (c : Ck) (s : Sv) : Bool := ((gd7_0 c s) || (decide (c.out > 8)))
abbrev gd7_2 (c : Ck) (s : Sv) : Bool := ((gd7_1 c s) || (decide (c.inn < 1)))
abbrev gd7_3 (c : Ck) (s : Sv) : Bool := ((gd7_2 c s) || (decide (c.inn > 8)))
abbrev gd7_4 (c : Ck) (s : Sv) : Bool := ((gd7_3 c s) || (decide ((s.rN : Int) < 1)))
abbrev gd7_5 (c : Ck) (s : Sv) : Bool := ((gd7_4 c s) || (decide ((s.rN : Int) > 64)))
abbrev gd7_6 (c : Ck) (s : Sv) : Bool := ((gd7_5 c s) || (decide ((s.aN : Int) < 1)))
abbrev gd7_7 (c : Ck) (s : Sv) : Bool := ((gd7_6 c s) || (decide ((s.aN : Int) > 4)))
abbrev gd7_8 (c : Ck) (s : Sv) : Bool := (((c.kind == 1) || (c.kind == 2)) && (gd7_7 c s))
abbrev gd9_0 (c : Ck) (s : Sv) : Bool := (((c.tag : Int) != 0) || (c.out != 0))
abbrev gd9_1 (c : Ck) (s : Sv) : Bool := ((gd9_0 c s) || (c.inn != 0))
abbrev gd9_2 (c : Ck) (s : Sv) : Bool := ((gd9_1 c s) || (decide ((s.rN : Int) > 0)))
abbrev gd9_3 (c : Ck) (s : Sv) : Bool := ((gd9_2 c s) || (decide ((s.aN : Int) > 0)))
abbrev gd9_4 (c : Ck) (s : Sv) : Bool := ((!((c.kind == 1) || (c.kind == 2))) && (gd9_3 c s))
abbrev gd16_0 (c : Ck) (s : Sv) : Bool := ((c.cause != 0) && (c.kind != 6))
abbrev gd16_1 (c : Ck) (s : Sv) : Bool := ((gd16_0 c s) && (c.kind != 9))
abbrev gd16_2 (c : Ck) (s : Sv) : Bool := ((c.win != 0) && (!((c.kind == 1) || (c.kind == 2))))
abbrev gd16_3 (c : Ck) (s : Sv) : Bool := (((c.tsn : Int) != 0) && (!((c.kind == 1) || (c.kind == 2))))
abbrev gd16_4 (c : Ck) (s : Sv) : Bool := ((gd16_2 c s) && (c.kind != 3))
abbrev gd16_5 (c : Ck) (s : Sv) : Bool := ((gd16_3 c s) && (c.kind != 3))
abbrev gd16_6 (c : Ck) (s : Sv) : Bool := ((gd16_5 c s) && (c.kind != 7))
abbrev gd16_7 (c : Ck) (s : Sv) : Bool := ((gd16_4 c s) || (gd16_6 c s))
abbrev gd16_8 (c : Ck) (s : Sv) : Bool := ((gd16_7 c s) || (gd16_1 c s))
abbrev gd30_0 (c : Ck) (s : Sv) : Bool := ((c.kind != 3) && (decide (((IntKind.i64.wrap ((s.gN : Int) + (s.dN : Int))) : Int) > 0)))
abbrev gd30_1 (c : Ck) (s : Sv) : Bool := ((gd30_0 c s) || (decide ((s.gN : Int) > 16)))
abbrev gd30_2 (c : Ck) (s : Sv) : Bool := ((gd30_1 c s) || (decide ((s.dN : Int) > 16)))
abbrev gd37_0 (c : Ck) (s : Sv) : Bool := (c.ok && (c.kind != 128))
abbrev gd37_1 (c : Ck) (s : Sv) : Bool := (((c.serial : Int) != 0) && (c.kind != 193))
abbrev gd37_2 (c : Ck) (s : Sv) : Bool := ((c.kind != 193) && (decide ((s.oN : Int) > 0)))
abbrev gd37_3 (c : Ck) (s : Sv) : Bool := ((decide ((s.oN : Int) < 1)) || (decide ((s.oN : Int) > 9)))
abbrev gd37_4 (c : Ck) (s : Sv) : Bool := ((gd37_1 c s) && (c.kind != 128))
abbrev gd37_5 (c : Ck) (s : Sv) : Bool := ((c.kind == 193) && (gd37_3 c s))
abbrev gd37_6 (c : Ck) (s : Sv) : Bool := ((gd37_5 c s) || (gd37_2 c s))
abbrev gd37_7 (c : Ck) (s : Sv) : Bool := ((gd37_6 c s) || (gd37_4 c s))
abbrev gd37_8 (c : Ck) (s : Sv) : Bool := ((gd37_7 c s) || (gd37_0 c s))
def swB (c : Ck) (s : Sv) : Bool :=
 if c.kind = 2 ∨ c.kind = 4 ∨ c.kind = 5 ∨ c.kind = 10 then decide (s.iN < 1) || decide (s.iN > 300) else if c.kind = 15 then decide (s.iN ≠ 32) else decide (s.iN > 0)
theorem sw_lo {c : Ck} {s : Sv} (hk : c.kind = 2 ∨ c.kind = 4 ∨ c.kind = 5 ∨ c.kind = 10) (h : s.iN < 1) : swB c s = true := by
 unfold swB; rw [if_pos hk, decide_eq_true h]; rfl
theorem sw_hi {c : Ck} {s : Sv} (hk : c.kind = 2 ∨ c.kind = 4 ∨ c.kind = 5 ∨ c.kind = 10) (h : s.iN > 300) : swB c s = true := by
 unfold swB; rw [if_pos hk, decide_eq_true h]; simp
theorem sw_ok {c : Ck} {s : Sv} (hk : c.kind = 2 ∨ c.kind = 4 ∨ c.kind = 5 ∨ c.kind = 10) (h : ¬ s.iN < 1) (h2 : ¬ s.iN > 300) : swB c s = false := by
 unfold swB; rw [if_pos hk, decide_eq_false h, decide_eq_false h2]; rfl
theorem sw_15 {c : Ck} {s : Sv} (hk : c.kind = 15) (h : ¬ s.iN = 32) : swB c s = true := by
 unfold swB; rw [if_neg (by omega), if_pos hk]; simpa using h
theorem sw_15ok {c : Ck} {s : Sv} (hk : c.kind = 15) (h : s.iN = 32) : swB c s = false := by
 unfold swB; rw [if_neg (by omega), if_pos hk]; simpa using h
theorem sw_o {c : Ck} {s : Sv} (h2 : ¬ c.kind = 2) (h4 : ¬ c.kind = 4) (h5 : ¬ c.kind = 5) (h10 : ¬ c.kind = 10) (h15 : ¬ c.kind = 15) (h : s.iN > 0) : swB c s = true := by
 unfold swB; rw [if_neg (by omega), if_neg h15, decide_eq_true h]
theorem sw_ook {c : Ck} {s : Sv} (h2 : ¬ c.kind = 2) (h4 : ¬ c.kind = 4) (h5 : ¬ c.kind = 5) (h10 : ¬ c.kind = 10) (h15 : ¬ c.kind = 15) (h : ¬ s.iN > 0) : swB c s = false := by
 unfold swB; rw [if_neg (by omega), if_neg h15, decide_eq_false h]
def gapB (x y : Int) (k : Nat) (z : Int) : Bool := decide (x < 1) || decide (y > 65535) || decide (x > y) || (decide ((k : Int) > 0) && decide (x < z + 2))
def gapNo (c : Ck) (k : Nat) : Bool := gapB (c.gaps.getD k (0, 0)).1 (c.gaps.getD k (0, 0)).2 k (c.gaps.getD (k - 1) (0, 0)).2
theorem gapB_1 {x y z : Int} {k : Nat} (h : x < 1) : gapB x y k z = true := by unfold gapB; rw [decide_eq_true h]; simp
theorem gapB_2 {x y z : Int} {k : Nat} (h : y > 65535) : gapB x y k z = true := by unfold gapB; rw [decide_eq_true h]; simp
theorem gapB_3 {x y z : Int} {k : Nat} (h : x > y) : gapB x y k z = true := by unfold gapB; rw [decide_eq_true h]; simp
theorem gapB_5 {x y z : Int} {k : Nat} (h : (k : Int) > 0) (h2 : x < z + 2) : gapB x y k z = true := by unfold gapB; rw [decide_eq_true h, decide_eq_true h2]; simp
theorem gapB_no {x y z : Int} {k : Nat} (h1 : ¬ x < 1) (h2 : ¬ y > 65535) (h3 : ¬ x > y) (h4 : (k : Int) > 0 → ¬ x < z + 2) : gapB x y k z = false := by
 unfold gapB; rw [decide_eq_false h1, decide_eq_false h2, decide_eq_false h3]
 by_cases h : (k : Int) > 0
 ·
  rw [decide_eq_false (h4 h)]; simp
 ·
  rw [decide_eq_false h]; rfl
theorem gapNo_le {c : Ck} {k : Nat} (h : gapNo c k = false) : 1 ≤ (c.gaps.getD k (0, 0)).2 ∧ (c.gaps.getD k (0, 0)).2 ≤ 65535 := by
 unfold gapNo gapB at h
 simp only [Bool.or_eq_false_iff, decide_eq_false_iff_not] at h
 omega
def refOpB (x y : Int) : Bool := (decide (x ≠ 1) && decide (x ≠ 2) && decide (x ≠ 4)) || !adB y
def refOpNo (c : Ck) (k : Nat) : Bool := refOpB (c.ops.getD k (0, 0)).1 (c.ops.getD k (0, 0)).2
theorem refOp_a {x y : Int} (h : adB y = false) : refOpB x y = true := by unfold refOpB; rw [h]; simp
theorem refOp_k {x y : Int} (h1 : ¬ x = 1) (h2 : ¬ x = 2) (h4 : ¬ x = 4) : refOpB x y = true := by unfold refOpB; simp [h1, h2, h4]
theorem refOp_no {x y : Int} (h : x = 1 ∨ x = 2 ∨ x = 4) (ha : adB y = true) : refOpB x y = false := by
 unfold refOpB; rw [ha]; rcases h with h | h | h <;> simp [h]
inductive NoG (c : Ck) (s : Sv) : Prop
 | gd3 (h : (gd3_3 c s) = true) : NoG c s
 | gd5 (h : (gd5_3 c s) = true) : NoG c s
 | gd7 (h : (gd7_8 c s) = true) : NoG c s
 | gd9 (h : (gd9_4 c s) = true) : NoG c s
 | gd16 (h : (gd16_8 c s) = true) : NoG c s
 | gd30 (h : (gd30_2 c s) = true) : NoG c s
 | gd37 (h : (gd37_8 c s) = true) : NoG c s
 | addrs (k : Nat) (hk : k < c.addrs.length) (h : adB (c.addrs.getD k 0) = false) : NoG c s
 | sw (h : swB c s = true) : NoG c s
 | gaps (k : Nat) (hk : k < c.gaps.length) (h : gapNo c k = true) : NoG c s
 | ops (k : Nat) (hk : k < c.ops.length) (h : refOpNo c k = true) : NoG c s
theorem refGood_any {w : World} {c : Ck} {s : Sv} (ha : CkAt w s c) :
  Calls Try.prog 11 #[.agg (CV c s)] w fun e w' => ((NoG c s ∧ e = .returned (.bool false)) ∨ (¬ NoG c s ∧ e = .returned (.bool true))) ∧ Ext w w' := by
 have HA : Hid (CkAt w s c) := ha
 clear ha
 go_enter Try.func11, Try.ntmps11
 refine wp_seq_k (fun K hK => ?_)
 have HK := Stop.mk hK
 clear hK
 go_wp2_with (first
  | (refine wl_box (C := CV c s) rfl rfl rfl ?_; intro w1 hb1 he1 hx; clear hx))
 refine HK.go _ _ ?_
 clear HK
 have c0 := cv0 hb1
 have HE0 : Hid (Ext w w1 ∧ Blk w1 w.heap.size (CV c s) 32) := ⟨he1, hb1⟩
 clear hb1 he1
 refine wp_seq_k (fun K1 hK => ?_)
 have HK1 := Stop.mk hK
 clear hK
 go_wp2
 refine HK1.go _ _ ?_
 clear HK1 c0
 refine wp_seq_k (fun K2 hK => ?_)
 have HK2 := Stop.mk hK
 clear hK
 refine wp_line (fun t => bif Nat.ble 10 t && Nat.ble t 15 then some (t - 10) else bif Nat.beq t 4 then some 6 else none) 395 Ext
  [Is (.int .i64 c.kind),
   Is (.bool (c.kind == 1)),
   Is (.bool (c.kind == 1)),
   Under (!(c.kind == 1)) (.int .i64 c.kind),
   Under (!(c.kind == 1)) (.bool (c.kind == 2)),
   Is (.bool ((c.kind == 1) || (c.kind == 2))),
   Is (.bool ((c.kind == 1) || (c.kind == 2)))]
  rfl (by kernel_rfl) rfl Ext.refl (fun _ _ _ => Ext.trans) (Ks (Ks (Ks (Ku (Ku (Ks (Ks (KeepAll.nil)))))))) ?_ ?_
 ·
  refine Gc (lmv rfl (.inl rfl) rfl rfl iB) ?_
  refine Gc (ln2 (gd0 rfl) rfl (ouI rfl) iA iA (fun r wx hR h1 h2 => by simp [execOp, h1, h2, go_sem])) ?_
  refine Gc (lmv rfl (.inl rfl) rfl rfl iB) ?_
  refine Gc (ln1 (gF rfl iB) rfl (ouU rfl) iA (fun r wx hR h1 => exec_mv (.inl rfl) h1)) ?_
  refine Gc (ln2 (gF rfl iB) rfl (ouU rfl) iC iA (fun r wx hR h1 h2 => by simp [execOp, h1, h2, go_sem])) ?_
  refine Gc (lnO (gd0 rfl) rfl (ouI rfl) iA iE) ?_
  refine Gc (lmv rfl (.inr rfl) rfl rfl iB) ?_
  exact GoodAll.nil
 ·
  intro vs w100 a100 hR hold ha
  have hv6 : vs 6 = .bool ((c.kind == 1) || (c.kind == 2)) := hold.at 6
  clear hold
  simp only [putAll, Act.put, Nat.zero_add, Nat.reduceAdd, hv6, List.setIfInBounds_toArray, List.set_cons_succ, List.set_cons_zero] at ha
  subst ha
  refine HK2.go _ _ ?_
  have HE100 : Hid (Ext w w100 ∧ Blk w100 w.heap.size (CV c s) 32) := ⟨HE0.out.1.trans hR, HE0.out.2.ext hR⟩
  clear HE0 hR HK2 hv6
  refine wp_seq_k (fun A1 hK => ?_)
  have HA1 := Stop.mk hK
  clear hK
  refine wp_seq_k (fun B1 hK => ?_)
  have HB1 := Stop.mk hK
  clear hK
  refine wp_line (fun t => bif Nat.ble 16 t && Nat.ble t 38 then some (t - 16) else none) 395 Ext
   [Is (.int .i64 c.kind),
    Is (.bool (knB c.kind)),
    Is (.bool (!(knB c.kind))),
    Is (.bool (!(knB c.kind))),
    Under (!(!(knB c.kind))) (.pointer (some ⟨w.heap.size, 9, none⟩)),
    Under (!(!(knB c.kind))) (.int .i64 c.win),
    Under (!(!(knB c.kind))) (.bool (decide (c.win < 0))),
    Is (.bool (gd3_0 c s)),
    Is (.bool (gd3_0 c s)),
    Under (!(gd3_0 c s)) (.pointer (some ⟨w.heap.size, 9, none⟩)),
    Under (!(gd3_0 c s)) (.int .i64 c.win),
    Under (!(gd3_0 c s)) (.bool (decide (c.win > 2147483647))),
    Is (.bool (gd3_1 c s)),
    Is (.bool (gd3_1 c s)),
    Under (!(gd3_1 c s)) (.pointer (some ⟨w.heap.size, 18, none⟩)),
    Under (!(gd3_1 c s)) (.int .i64 c.cause),
    Under (!(gd3_1 c s)) (.bool (decide (c.cause < 0))),
    Is (.bool (gd3_2 c s)),
    Is (.bool (gd3_2 c s)),
    Under (!(gd3_2 c s)) (.pointer (some ⟨w.heap.size, 18, none⟩)),
    Under (!(gd3_2 c s)) (.int .i64 c.cause),
    Under (!(gd3_2 c s)) (.bool (decide (c.cause > 65535))),
    Is (.bool (gd3_3 c s))]
   rfl (by kernel_rfl) rfl Ext.refl (fun _ _ _ => Ext.trans) (Ks (Ks (Ks (Ks (Ku (Ku (Ku (Ks (Ks (Ku (Ku (Ku (Ks (Ks (Ku (Ku (Ku (Ks (Ks (Ku (Ku (Ku (Ks (KeepAll.nil)))))))))))))))))))))))) ?_ ?_
  ·
   refine Gc (lmv rfl (.inl rfl) rfl rfl iB) ?_
   refine Gc ?_ ?_
   ·
    rintro r wx hR ⟨h1, h2, _⟩
    replace h1 : r (.func 23) = .func (.func 23) #[] #[] := h1
    replace h2 : r (.tmp 16) = .int .i64 c.kind := h2
    refine give_func #[.int .i64 c.kind] rfl h1 Try.call23 (by simp [h2]) ?_
    refine (refKnown_any _ _).mono ?_
    rintro e wz ⟨rfl, hez⟩
    exact ⟨_, rfl, hez, rfl⟩
   refine Gc (ln1 (gd0 rfl) rfl (ouI rfl) iA (fun r wx hR h1 => by simp [execOp, h1, go_sem])) ?_
   refine Gc (lmv rfl (.inl rfl) rfl rfl iB) ?_
   refine Gc (ln1 (gF rfl iB) rfl (ouU rfl) iA (fun r wx hR h1 => by simp [execOp, h1, go_sem])) ?_
   refine Gc (ln1 (gF rfl iB) rfl (ouU rfl) iC (fun r wx hR h1 => exg one3 rfl h1 (cv9 (HE100.out.2.ext hR)))) ?_
   refine Gc (ln2 (gF rfl iB) rfl (ouU rfl) iC iA (fun r wx hR h1 h2 => by simp [execOp, h1, h2, go_sem])) ?_
   refine Gc (lnO (gd0 rfl) rfl (ouI rfl) iA iE) ?_
   refine Gc (lmv rfl (.inl rfl) rfl rfl iB) ?_
   refine Gc (ln1 (gF rfl iB) rfl (ouU rfl) iA (fun r wx hR h1 => by simp [execOp, h1, go_sem])) ?_
   refine Gc (ln1 (gF rfl iB) rfl (ouU rfl) iC (fun r wx hR h1 => exg one3 rfl h1 (cv9 (HE100.out.2.ext hR)))) ?_
   refine Gc (ln2 (gF rfl iB) rfl (ouU rfl) iC iA (fun r wx hR h1 h2 => by simp [execOp, h1, h2, go_sem])) ?_
   refine Gc (lnO (gd0 rfl) rfl (ouI rfl) iA iE) ?_
   refine Gc (lmv rfl (.inl rfl) rfl rfl iB) ?_
   refine Gc (ln1 (gF rfl iB) rfl (ouU rfl) iA (fun r wx hR h1 => by simp [execOp, h1, go_sem])) ?_
   refine Gc (ln1 (gF rfl iB) rfl (ouU rfl) iC (fun r wx hR h1 => exg one3 rfl h1 (cv18 (HE100.out.2.ext hR)))) ?_
   refine Gc (ln2 (gF rfl iB) rfl (ouU rfl) iC iA (fun r wx hR h1 h2 => by simp [execOp, h1, h2, go_sem])) ?_
   refine Gc (lnO (gd0 rfl) rfl (ouI rfl) iA iE) ?_
   refine Gc (lmv rfl (.inl rfl) rfl rfl iB) ?_
   refine Gc (ln1 (gF rfl iB) rfl (ouU rfl) iA (fun r wx hR h1 => by simp [execOp, h1, go_sem])) ?_
   refine Gc (ln1 (gF rfl iB) rfl (ouU rfl) iC (fun r wx hR h1 => exg one3 rfl h1 (cv18 (HE100.out.2.ext hR)))) ?_
   refine Gc (ln2 (gF rfl iB) rfl (ouU rfl) iC iA (fun r wx hR h1 h2 => by simp [execOp, h1, h2, go_sem])) ?_
   refine Gc (lnO (gd0 rfl) rfl (ouI rfl) iA iE) ?_
   exact GoodAll.nil
  ·
   intro vs w1 a1 hR hold ha
   have hv22 : vs 22 = .bool (gd3_3 c s) := hold.at 22
   clear hold
   simp only [putAll, Act.put, Nat.zero_add, Nat.reduceAdd, hv22, List.setIfInBounds_toArray, List.set_cons_succ, List.set_cons_zero] at ha
   subst ha
   refine HB1.go _ _ ?_
   have HE1 : Hid (Ext w w1 ∧ Blk w1 w.heap.size (CV c s) 32) := ⟨HE100.out.1.trans hR, HE100.out.2.ext hR⟩
   clear HE100 hR HB1 hv22
   cases hg3 : (gd3_3 c s) with
   | true =>
    go_wp2
    go_ret
    exact ⟨.inl ⟨.gd3 hg3, rfl⟩, HE1.out.1⟩
   | false =>
    go_wp2_with fail
    refine HA1.go _ _ ?_
    clear HA1
    refine wp_seq_k (fun A2 hK => ?_)
    have HA2 := Stop.mk hK
    clear hK
    refine wp_seq_k (fun B2 hK => ?_)
    have HB2 := Stop.mk hK
    clear hK
    refine wp_line (fun t => bif Nat.ble 39 t && Nat.ble t 64 then some (t - 39) else none) 395 Ext
     [Is (.int .i64 c.kind),
      Is (.bool (c.kind == 0)),
      Is (.bool (c.kind == 0)),
      Under (c.kind == 0) (.pointer (some ⟨w.heap.size, 1, none⟩)),
      Under (c.kind == 0) (.pointer (some ⟨w.heap.size, 7, none⟩)),
      Under (c.kind == 0) (.slice s.tA s.tN s.tC),
      Under (c.kind == 0) (.int .i64 (s.tN : Int)),
      Under (c.kind == 0) (.bool (decide ((s.tN : Int) < 1))),
      Under (c.kind == 0) (.bool (decide ((s.tN : Int) < 1))),
      Under ((c.kind == 0) && (!(decide ((s.tN : Int) < 1)))) (.pointer (some ⟨w.heap.size, 1, none⟩)),
      Under ((c.kind == 0) && (!(decide ((s.tN : Int) < 1)))) (.pointer (some ⟨w.heap.size, 7, none⟩)),
      Under ((c.kind == 0) && (!(decide ((s.tN : Int) < 1)))) (.slice s.tA s.tN s.tC),
      Under ((c.kind == 0) && (!(decide ((s.tN : Int) < 1)))) (.int .i64 (s.tN : Int)),
      Under ((c.kind == 0) && (!(decide ((s.tN : Int) < 1)))) (.bool (decide ((s.tN : Int) > 64))),
      Under (c.kind == 0) (.bool (gd5_1 c s)),
      Is (.bool (gd5_2 c s)),
      Is (.bool (gd5_2 c s)),
      Under (!(gd5_2 c s)) (.int .i64 c.kind),
      Under (!(gd5_2 c s)) (.bool (c.kind != 0)),
      Under (!(gd5_2 c s)) (.bool (c.kind != 0)),
      Under ((!(gd5_2 c s)) && (c.kind != 0)) (.pointer (some ⟨w.heap.size, 1, none⟩)),
      Under ((!(gd5_2 c s)) && (c.kind != 0)) (.agg (PV c s)),
      Under ((!(gd5_2 c s)) && (c.kind != 0)) (.bool (blankB c s)),
      Under ((!(gd5_2 c s)) && (c.kind != 0)) (.bool (!(blankB c s))),
      Under (!(gd5_2 c s)) (.bool (gd5_0 c s)),
      Is (.bool (gd5_3 c s))]
     rfl (by kernel_rfl) rfl Ext.refl (fun _ _ _ => Ext.trans) (Ks (Ks (Ks (Ku (Ku (Ku (Ku (Ku (Ku (Ku (Ku (Ku (Ku (Ku (Ku (Ks (Ks (Ku (Ku (Ku (Ku (Ku (Ku (Ku (Ku (Ks (KeepAll.nil))))))))))))))))))))))))))) ?_ ?_
    ·
     refine Gc (lmv rfl (.inl rfl) rfl rfl iB) ?_
     refine Gc (ln2 (gd0 rfl) rfl (ouI rfl) iA iA (fun r wx hR h1 h2 => by simp [execOp, h1, h2, go_sem])) ?_
     refine Gc (lmv rfl (.inl rfl) rfl rfl iB) ?_
     refine Gc (ln1 (gT rfl iB) rfl (ouU rfl) iA (fun r wx hR h1 => by simp [execOp, h1, go_sem])) ?_
     refine Gc (ln1 (gT rfl iB) rfl (ouU rfl) iC (fun r wx hR h1 => by simp [execOp, h1, go_sem])) ?_
     refine Gc (ln1 (gT rfl iB) rfl (ouU rfl) iC (fun r wx hR h1 => exg oneS rfl h1 (cv7 (HE1.out.2.ext hR)))) ?_
     refine Gc (ln1 (gT rfl iB) rfl (ouU rfl) iC (fun r wx hR h1 => by replace h1 : r (.tmp 44) = _ := h1; simp [execOp, h1, go_sem])) ?_
     refine Gc (ln2 (gT rfl iB) rfl (ouU rfl) iC iA (fun r wx hR h1 h2 => by simp [execOp, h1, h2, go_sem])) ?_
     refine Gc (ln1 (gT rfl iB) rfl (ouU rfl) iC (fun r wx hR h1 => exec_mv (.inl rfl) h1)) ?_
     refine Gc (ln1 (nF rfl iB) rfl (ouU rfl) iA (fun r wx hR h1 => by simp [execOp, h1, go_sem])) ?_
     refine Gc (ln1 (nF rfl iB) rfl (ouU rfl) iC (fun r wx hR h1 => by simp [execOp, h1, go_sem])) ?_
     refine Gc (ln1 (nF rfl iB) rfl (ouU rfl) iC (fun r wx hR h1 => exg oneS rfl h1 (cv7 (HE1.out.2.ext hR)))) ?_
     refine Gc (ln1 (nF rfl iB) rfl (ouU rfl) iC (fun r wx hR h1 => by replace h1 : r (.tmp 50) = _ := h1; simp [execOp, h1, go_sem])) ?_
     refine Gc (ln2 (nF rfl iB) rfl (ouU rfl) iC iA (fun r wx hR h1 h2 => by simp [execOp, h1, h2, go_sem])) ?_
     refine Gc (lnO (gT rfl iB) rfl (ouU rfl) iC iG) ?_
     refine Gc (lnA (gd0 rfl) rfl (ouI rfl) iA iD) ?_
     refine Gc (lmv rfl (.inl rfl) rfl rfl iB) ?_
     refine Gc (ln1 (gF rfl iB) rfl (ouU rfl) iA (fun r wx hR h1 => exec_mv (.inl rfl) h1)) ?_
     refine Gc (ln2 (gF rfl iB) rfl (ouU rfl) iC iA (fun r wx hR h1 h2 => by simp [execOp, h1, h2, go_sem])) ?_
     refine Gc (ln1 (gF rfl iB) rfl (ouU rfl) iC (fun r wx hR h1 => exec_mv (.inl rfl) h1)) ?_
     refine Gc (ln1 (nT rfl iB) rfl (ouU rfl) iA (fun r wx hR h1 => by simp [execOp, h1, go_sem])) ?_
     refine Gc (ln1 (nT rfl iB) rfl (ouU rfl) iC (fun r wx hR h1 => exec_load rowPc rfl h1 (HE1.out.2.ext hR) (PV c s).toList (CV.piece c s) rfl)) ?_
     refine Gc ?_ ?_
     ·
      rintro r wx hR ⟨h1, h2, _⟩
      replace h1 : r (.func 32) = .func (.func 32) #[] #[] := h1
      replace h2 : Under ((!(gd5_2 c s)) && (c.kind != 0)) (.agg (PV c s)) wx (r (.tmp 60)) := h2
      intro gb hgb
      refine guard_n (w := wx) (C0 := (!(gd5_2 c s))) (C := ((!(gd5_2 c s)) && (c.kind != 0))) (b := (c.kind != 0)) (want := true) hgb (congrArg (and _) (want_t _)) (fun hc => ?_) (fun hc => un_ hc)
      replace h2 := h2.get hc
      refine give_func #[.agg (PV c s)] rfl h1 Try.call32 (by simp [h2]) ?_
      refine (blank_any c s).mono ?_
      rintro e wz ⟨rfl, hez⟩
      exact ⟨_, rfl, hez, uy hc⟩
     refine Gc (ln1 (nT rfl iB) rfl (ouU rfl) iC (fun r wx hR h1 => by simp [execOp, h1, go_sem])) ?_
     refine Gc (lnA (gF rfl iB) rfl (ouU rfl) iC iF) ?_
     refine Gc (lnO (gd0 rfl) rfl (ouI rfl) iA iE) ?_
     exact GoodAll.nil
    ·
     intro vs w2 a2 hR hold ha
     have hv25 : vs 25 = .bool (gd5_3 c s) := hold.at 25
     clear hold
     simp only [putAll, Act.put, Nat.zero_add, Nat.reduceAdd, hv25, List.setIfInBounds_toArray, List.set_cons_succ, List.set_cons_zero] at ha
     subst ha
     refine HB2.go _ _ ?_
     have HE2 : Hid (Ext w w2 ∧ Blk w2 w.heap.size (CV c s) 32) := ⟨HE1.out.1.trans hR, HE1.out.2.ext hR⟩
     clear HE1 hR HB2 hv25
     cases hg5 : (gd5_3 c s) with
     | true =>
      go_wp2
      go_ret
      exact ⟨.inl ⟨.gd5 hg5, rfl⟩, HE2.out.1⟩
     | false =>
      go_wp2_with fail
      refine HA2.go _ _ ?_
      clear HA2
      refine wp_seq_k (fun A3 hK => ?_)
      have HA3 := Stop.mk hK
      clear hK
      refine wp_seq_k (fun B3 hK => ?_)
      have HB3 := Stop.mk hK
      clear hK
      refine wp_line (fun t => bif Nat.ble 65 t && Nat.ble t 114 then some (t - 65) else none) 395 Ext
       [Is (.bool ((c.kind == 1) || (c.kind == 2))),
        Is (.bool ((c.kind == 1) || (c.kind == 2))),
        Under ((c.kind == 1) || (c.kind == 2)) (.pointer (some ⟨w.heap.size, 8, none⟩)),
        Under ((c.kind == 1) || (c.kind == 2)) (.int .u32 (c.tag : Int)),
        Under ((c.kind == 1) || (c.kind == 2)) (.bool ((c.tag : Int) == 0)),
        Under ((c.kind == 1) || (c.kind == 2)) (.bool ((c.tag : Int) == 0)),
        Under (((c.kind == 1) || (c.kind == 2)) && (!((c.tag : Int) == 0))) (.pointer (some ⟨w.heap.size, 10, none⟩)),
        Under (((c.kind == 1) || (c.kind == 2)) && (!((c.tag : Int) == 0))) (.int .i64 c.out),
        Under (((c.kind == 1) || (c.kind == 2)) && (!((c.tag : Int) == 0))) (.bool (decide (c.out < 1))),
        Under ((c.kind == 1) || (c.kind == 2)) (.bool (gd7_0 c s)),
        Under ((c.kind == 1) || (c.kind == 2)) (.bool (gd7_0 c s)),
        Under (((c.kind == 1) || (c.kind == 2)) && (!(gd7_0 c s))) (.pointer (some ⟨w.heap.size, 10, none⟩)),
        Under (((c.kind == 1) || (c.kind == 2)) && (!(gd7_0 c s))) (.int .i64 c.out),
        Under (((c.kind == 1) || (c.kind == 2)) && (!(gd7_0 c s))) (.bool (decide (c.out > 8))),
        Under ((c.kind == 1) || (c.kind == 2)) (.bool (gd7_1 c s)),
        Under ((c.kind == 1) || (c.kind == 2)) (.bool (gd7_1 c s)),
        Under (((c.kind == 1) || (c.kind == 2)) && (!(gd7_1 c s))) (.pointer (some ⟨w.heap.size, 11, none⟩)),
        Under (((c.kind == 1) || (c.kind == 2)) && (!(gd7_1 c s))) (.int .i64 c.inn),
        Under (((c.kind == 1) || (c.kind == 2)) && (!(gd7_1 c s))) (.bool (decide (c.inn < 1))),
        Under ((c.kind == 1) || (c.kind == 2)) (.bool (gd7_2 c s)),
        Under ((c.kind == 1) || (c.kind == 2)) (.bool (gd7_2 c s)),
        Under (((c.kind == 1) || (c.kind == 2)) && (!(gd7_2 c s))) (.pointer (some ⟨w.heap.size, 11, none⟩)),
        Under (((c.kind == 1) || (c.kind == 2)) && (!(gd7_2 c s))) (.int .i64 c.inn),
        Under (((c.kind == 1) || (c.kind == 2)) && (!(gd7_2 c s))) (.bool (decide (c.inn > 8))),
        Under ((c.kind == 1) || (c.kind == 2)) (.bool (gd7_3 c s)),
        Under ((c.kind == 1) || (c.kind == 2)) (.bool (gd7_3 c s)),
        Under (((c.kind == 1) || (c.kind == 2)) && (!(gd7_3 c s))) (.pointer (some ⟨w.heap.size, 13, none⟩)),
        Under (((c.kind == 1) || (c.kind == 2)) && (!(gd7_3 c s))) (.slice s.rA s.rN s.rC),
        Under (((c.kind == 1) || (c.kind == 2)) && (!(gd7_3 c s))) (.int .i64 (s.rN : Int)),
        Under (((c.kind == 1) || (c.kind == 2)) && (!(gd7_3 c s))) (.bool (decide ((s.rN : Int) < 1))),
        Under ((c.kind == 1) || (c.kind == 2)) (.bool (gd7_4 c s)),
        Under ((c.kind == 1) || (c.kind == 2)) (.bool (gd7_4 c s)),
        Under (((c.kind == 1) || (c.kind == 2)) && (!(gd7_4 c s))) (.pointer (some ⟨w.heap.size, 13, none⟩)),
        Under (((c.kind == 1) || (c.kind == 2)) && (!(gd7_4 c s))) (.slice s.rA s.rN s.rC),
        Under (((c.kind == 1) || (c.kind == 2)) && (!(gd7_4 c s))) (.int .i64 (s.rN : Int)),
        Under (((c.kind == 1) || (c.kind == 2)) && (!(gd7_4 c s))) (.bool (decide ((s.rN : Int) > 64))),
        Under ((c.kind == 1) || (c.kind == 2)) (.bool (gd7_5 c s)),
        Under ((c.kind == 1) || (c.kind == 2)) (.bool (gd7_5 c s)),
        Under (((c.kind == 1) || (c.kind == 2)) && (!(gd7_5 c s))) (.pointer (some ⟨w.heap.size, 14, none⟩)),
        Under (((c.kind == 1) || (c.kind == 2)) && (!(gd7_5 c s))) (.slice s.aA s.aN s.aC),
        Under (((c.kind == 1) || (c.kind == 2)) && (!(gd7_5 c s))) (.int .i64 (s.aN : Int)),
        Under (((c.kind == 1) || (c.kind == 2)) && (!(gd7_5 c s))) (.bool (decide ((s.aN : Int) < 1))),
        Under ((c.kind == 1) || (c.kind == 2)) (.bool (gd7_6 c s)),
        Under ((c.kind == 1) || (c.kind == 2)) (.bool (gd7_6 c s)),
        Under (((c.kind == 1) || (c.kind == 2)) && (!(gd7_6 c s))) (.pointer (some ⟨w.heap.size, 14, none⟩)),
        Under (((c.kind == 1) || (c.kind == 2)) && (!(gd7_6 c s))) (.slice s.aA s.aN s.aC),
        Under (((c.kind == 1) || (c.kind == 2)) && (!(gd7_6 c s))) (.int .i64 (s.aN : Int)),
        Under (((c.kind == 1) || (c.kind == 2)) && (!(gd7_6 c s))) (.bool (decide ((s.aN : Int) > 4))),
        Under ((c.kind == 1) || (c.kind == 2)) (.bool (gd7_7 c s)),
        Is (.bool (gd7_8 c s))]
       rfl (by kernel_rfl) rfl Ext.refl (fun _ _ _ => Ext.trans) (Ks (Ks (Ku (Ku (Ku (Ku (Ku (Ku (Ku (Ku (Ku (Ku (Ku (Ku (Ku (Ku (Ku (Ku (Ku (Ku (Ku (Ku (Ku (Ku (Ku (Ku (Ku (Ku (Ku (Ku (Ku (Ku (Ku (Ku (Ku (Ku (Ku (Ku (Ku (Ku (Ku (Ku (Ku (Ku (Ku (Ku (Ku (Ku (Ku (Ks (KeepAll.nil))))))))))))))))))))))))))))))))))))))))))))))))))) ?_ ?_
      ·
       refine Gc (lmv rfl (.inl rfl) rfl rfl iB) ?_
       refine Gc (lmv rfl (.inl rfl) rfl rfl iB) ?_
       refine Gc (ln1 (gT rfl iB) rfl (ouU rfl) iA (fun r wx hR h1 => by simp [execOp, h1, go_sem])) ?_
       refine Gc (ln1 (gT rfl iB) rfl (ouU rfl) iC (fun r wx hR h1 => exg one22 rfl h1 (cv8 (HE2.out.2.ext hR)))) ?_
       refine Gc (ln2 (gT rfl iB) rfl (ouU rfl) iC iA (fun r wx hR h1 h2 => by simp [execOp, h1, h2, go_sem])) ?_
       refine Gc (ln1 (gT rfl iB) rfl (ouU rfl) iC (fun r wx hR h1 => exec_mv (.inl rfl) h1)) ?_
       refine Gc (ln1 (nF rfl iB) rfl (ouU rfl) iA (fun r wx hR h1 => by simp [execOp, h1, go_sem])) ?_
       refine Gc (ln1 (nF rfl iB) rfl (ouU rfl) iC (fun r wx hR h1 => exg one3 rfl h1 (cv10 (HE2.out.2.ext hR)))) ?_
       refine Gc (ln2 (nF rfl iB) rfl (ouU rfl) iC iA (fun r wx hR h1 h2 => by simp [execOp, h1, h2, go_sem])) ?_
       refine Gc (lnO (gT rfl iB) rfl (ouU rfl) iC iG) ?_
       refine Gc (ln1 (gT rfl iB) rfl (ouU rfl) iC (fun r wx hR h1 => exec_mv (.inl rfl) h1)) ?_
       refine Gc (ln1 (nF rfl iB) rfl (ouU rfl) iA (fun r wx hR h1 => by simp [execOp, h1, go_sem])) ?_
       refine Gc (ln1 (nF rfl iB) rfl (ouU rfl) iC (fun r wx hR h1 => exg one3 rfl h1 (cv10 (HE2.out.2.ext hR)))) ?_
       refine Gc (ln2 (nF rfl iB) rfl (ouU rfl) iC iA (fun r wx hR h1 h2 => by simp [execOp, h1, h2, go_sem])) ?_
       refine Gc (lnO (gT rfl iB) rfl (ouU rfl) iC iG) ?_
       refine Gc (ln1 (gT rfl iB) rfl (ouU rfl) iC (fun r wx hR h1 => exec_mv (.inl rfl) h1)) ?_
       refine Gc (ln1 (nF rfl iB) rfl (ouU rfl) iA (fun r wx hR h1 => by simp [execOp, h1, go_sem])) ?_
       refine Gc (ln1 (nF rfl iB) rfl (ouU rfl) iC (fun r wx hR h1 => exg one3 rfl h1 (cv11 (HE2.out.2.ext hR)))) ?_
       refine Gc (ln2 (nF rfl iB) rfl (ouU rfl) iC iA (fun r wx hR h1 h2 => by simp [execOp, h1, h2, go_sem])) ?_
       refine Gc (lnO (gT rfl iB) rfl (ouU rfl) iC iG) ?_
       refine Gc (ln1 (gT rfl iB) rfl (ouU rfl) iC (fun r wx hR h1 => exec_mv (.inl rfl) h1)) ?_
       refine Gc (ln1 (nF rfl iB) rfl (ouU rfl) iA (fun r wx hR h1 => by simp [execOp, h1, go_sem])) ?_
       refine Gc (ln1 (nF rfl iB) rfl (ouU rfl) iC (fun r wx hR h1 => exg one3 rfl h1 (cv11 (HE2.out.2.ext hR)))) ?_
       refine Gc (ln2 (nF rfl iB) rfl (ouU rfl) iC iA (fun r wx hR h1 h2 => by simp [execOp, h1, h2, go_sem])) ?_
       refine Gc (lnO (gT rfl iB) rfl (ouU rfl) iC iG) ?_
       refine Gc (ln1 (gT rfl iB) rfl (ouU rfl) iC (fun r wx hR h1 => exec_mv (.inl rfl) h1)) ?_
       refine Gc (ln1 (nF rfl iB) rfl (ouU rfl) iA (fun r wx hR h1 => by simp [execOp, h1, go_sem])) ?_
       refine Gc (ln1 (nF rfl iB) rfl (ouU rfl) iC (fun r wx hR h1 => exg oneS rfl h1 (cv13 (HE2.out.2.ext hR)))) ?_
       refine Gc (ln1 (nF rfl iB) rfl (ouU rfl) iC (fun r wx hR h1 => by replace h1 : r (.tmp 92) = _ := h1; simp [execOp, h1, go_sem])) ?_
       refine Gc (ln2 (nF rfl iB) rfl (ouU rfl) iC iA (fun r wx hR h1 h2 => by simp [execOp, h1, h2, go_sem])) ?_
       refine Gc (lnO (gT rfl iB) rfl (ouU rfl) iC iG) ?_
       refine Gc (ln1 (gT rfl iB) rfl (ouU rfl) iC (fun r wx hR h1 => exec_mv (.inl rfl) h1)) ?_
       refine Gc (ln1 (nF rfl iB) rfl (ouU rfl) iA (fun r wx hR h1 => by simp [execOp, h1, go_sem])) ?_
       refine Gc (ln1 (nF rfl iB) rfl (ouU rfl) iC (fun r wx hR h1 => exg oneS rfl h1 (cv13 (HE2.out.2.ext hR)))) ?_
       refine Gc (ln1 (nF rfl iB) rfl (ouU rfl) iC (fun r wx hR h1 => by replace h1 : r (.tmp 98) = _ := h1; simp [execOp, h1, go_sem])) ?_
       refine Gc (ln2 (nF rfl iB) rfl (ouU rfl) iC iA (fun r wx hR h1 h2 => by simp [execOp, h1, h2, go_sem])) ?_
       refine Gc (lnO (gT rfl iB) rfl (ouU rfl) iC iG) ?_
       refine Gc (ln1 (gT rfl iB) rfl (ouU rfl) iC (fun r wx hR h1 => exec_mv (.inl rfl) h1)) ?_
       refine Gc (ln1 (nF rfl iB) rfl (ouU rfl) iA (fun r wx hR h1 => by simp [execOp, h1, go_sem])) ?_
       refine Gc (ln1 (nF rfl iB) rfl (ouU rfl) iC (fun r wx hR h1 => exg oneSA rfl h1 (cv14 (HE2.out.2.ext hR)))) ?_
       refine Gc (ln1 (nF rfl iB) rfl (ouU rfl) iC (fun r wx hR h1 => by replace h1 : r (.tmp 104) = _ := h1; simp [execOp, h1, go_sem])) ?_
       refine Gc (ln2 (nF rfl iB) rfl (ouU rfl) iC iA (fun r wx hR h1 h2 => by simp [execOp, h1, h2, go_sem])) ?_
       refine Gc (lnO (gT rfl iB) rfl (ouU rfl) iC iG) ?_
       refine Gc (ln1 (gT rfl iB) rfl (ouU rfl) iC (fun r wx hR h1 => exec_mv (.inl rfl) h1)) ?_
       refine Gc (ln1 (nF rfl iB) rfl (ouU rfl) iA (fun r wx hR h1 => by simp [execOp, h1, go_sem])) ?_
       refine Gc (ln1 (nF rfl iB) rfl (ouU rfl) iC (fun r wx hR h1 => exg oneSA rfl h1 (cv14 (HE2.out.2.ext hR)))) ?_
       refine Gc (ln1 (nF rfl iB) rfl (ouU rfl) iC (fun r wx hR h1 => by replace h1 : r (.tmp 110) = _ := h1; simp [execOp, h1, go_sem])) ?_
       refine Gc (ln2 (nF rfl iB) rfl (ouU rfl) iC iA (fun r wx hR h1 h2 => by simp [execOp, h1, h2, go_sem])) ?_
       refine Gc (lnO (gT rfl iB) rfl (ouU rfl) iC iG) ?_
       refine Gc (lnA (gd0 rfl) rfl (ouI rfl) iA iD) ?_
       exact GoodAll.nil
      ·
       intro vs w3 a3 hR hold ha
       have hv49 : vs 49 = .bool (gd7_8 c s) := hold.at 49
       clear hold
       simp only [putAll, Act.put, Nat.zero_add, Nat.reduceAdd, hv49, List.setIfInBounds_toArray, List.set_cons_succ, List.set_cons_zero] at ha
       subst ha
       refine HB3.go _ _ ?_
       have HE3 : Hid (Ext w w3 ∧ Blk w3 w.heap.size (CV c s) 32) := ⟨HE2.out.1.trans hR, HE2.out.2.ext hR⟩
       clear HE2 hR HB3 hv49
       cases hg7 : (gd7_8 c s) with
       | true =>
        go_wp2
        go_ret
        exact ⟨.inl ⟨.gd7 hg7, rfl⟩, HE3.out.1⟩
       | false =>
        go_wp2_with fail
        refine HA3.go _ _ ?_
        clear HA3
        refine wp_seq_k (fun A4 hK => ?_)
        have HA4 := Stop.mk hK
        clear hK
        refine wp_seq_k (fun B4 hK => ?_)
        have HB4 := Stop.mk hK
        clear hK
        refine wp_line (fun t => bif Nat.ble 115 t && Nat.ble t 143 then some (t - 115) else none) 395 Ext
         [Is (.bool ((c.kind == 1) || (c.kind == 2))),
          Is (.bool (!((c.kind == 1) || (c.kind == 2)))),
          Is (.bool (!((c.kind == 1) || (c.kind == 2)))),
          Under (!((c.kind == 1) || (c.kind == 2))) (.pointer (some ⟨w.heap.size, 8, none⟩)),
          Under (!((c.kind == 1) || (c.kind == 2))) (.int .u32 (c.tag : Int)),
          Under (!((c.kind == 1) || (c.kind == 2))) (.bool ((c.tag : Int) != 0)),
          Under (!((c.kind == 1) || (c.kind == 2))) (.bool ((c.tag : Int) != 0)),
          Under ((!((c.kind == 1) || (c.kind == 2))) && (!((c.tag : Int) != 0))) (.pointer (some ⟨w.heap.size, 10, none⟩)),
          Under ((!((c.kind == 1) || (c.kind == 2))) && (!((c.tag : Int) != 0))) (.int .i64 c.out),
          Under ((!((c.kind == 1) || (c.kind == 2))) && (!((c.tag : Int) != 0))) (.bool (c.out != 0)),
          Under (!((c.kind == 1) || (c.kind == 2))) (.bool (gd9_0 c s)),
          Under (!((c.kind == 1) || (c.kind == 2))) (.bool (gd9_0 c s)),
          Under ((!((c.kind == 1) || (c.kind == 2))) && (!(gd9_0 c s))) (.pointer (some ⟨w.heap.size, 11, none⟩)),
          Under ((!((c.kind == 1) || (c.kind == 2))) && (!(gd9_0 c s))) (.int .i64 c.inn),
          Under ((!((c.kind == 1) || (c.kind == 2))) && (!(gd9_0 c s))) (.bool (c.inn != 0)),
          Under (!((c.kind == 1) || (c.kind == 2))) (.bool (gd9_1 c s)),
          Under (!((c.kind == 1) || (c.kind == 2))) (.bool (gd9_1 c s)),
          Under ((!((c.kind == 1) || (c.kind == 2))) && (!(gd9_1 c s))) (.pointer (some ⟨w.heap.size, 13, none⟩)),
          Under ((!((c.kind == 1) || (c.kind == 2))) && (!(gd9_1 c s))) (.slice s.rA s.rN s.rC),
          Under ((!((c.kind == 1) || (c.kind == 2))) && (!(gd9_1 c s))) (.int .i64 (s.rN : Int)),
          Under ((!((c.kind == 1) || (c.kind == 2))) && (!(gd9_1 c s))) (.bool (decide ((s.rN : Int) > 0))),
          Under (!((c.kind == 1) || (c.kind == 2))) (.bool (gd9_2 c s)),
          Under (!((c.kind == 1) || (c.kind == 2))) (.bool (gd9_2 c s)),
          Under ((!((c.kind == 1) || (c.kind == 2))) && (!(gd9_2 c s))) (.pointer (some ⟨w.heap.size, 14, none⟩)),
          Under ((!((c.kind == 1) || (c.kind == 2))) && (!(gd9_2 c s))) (.slice s.aA s.aN s.aC),
          Under ((!((c.kind == 1) || (c.kind == 2))) && (!(gd9_2 c s))) (.int .i64 (s.aN : Int)),
          Under ((!((c.kind == 1) || (c.kind == 2))) && (!(gd9_2 c s))) (.bool (decide ((s.aN : Int) > 0))),
          Under (!((c.kind == 1) || (c.kind == 2))) (.bool (gd9_3 c s)),
          Is (.bool (gd9_4 c s))]
         rfl (by kernel_rfl) rfl Ext.refl (fun _ _ _ => Ext.trans) (Ks (Ks (Ks (Ku (Ku (Ku (Ku (Ku (Ku (Ku (Ku (Ku (Ku (Ku (Ku (Ku (Ku (Ku (Ku (Ku (Ku (Ku (Ku (Ku (Ku (Ku (Ku (Ku (Ks (KeepAll.nil)))))))))))))))))))))))))))))) ?_ ?_
        ·
         refine Gc (lmv rfl (.inl rfl) rfl rfl iB) ?_
         refine Gc (ln1 (gd0 rfl) rfl (ouI rfl) iA (fun r wx hR h1 => by simp [execOp, h1, go_sem])) ?_
         refine Gc (lmv rfl (.inl rfl) rfl rfl iB) ?_
         refine Gc (ln1 (gT rfl iB) rfl (ouU rfl) iA (fun r wx hR h1 => by simp [execOp, h1, go_sem])) ?_
         refine Gc (ln1 (gT rfl iB) rfl (ouU rfl) iC (fun r wx hR h1 => exg one22 rfl h1 (cv8 (HE3.out.2.ext hR)))) ?_
         refine Gc (ln2 (gT rfl iB) rfl (ouU rfl) iC iA (fun r wx hR h1 h2 => by simp [execOp, h1, h2, go_sem])) ?_
         refine Gc (ln1 (gT rfl iB) rfl (ouU rfl) iC (fun r wx hR h1 => exec_mv (.inl rfl) h1)) ?_
         refine Gc (ln1 (nF rfl iB) rfl (ouU rfl) iA (fun r wx hR h1 => by simp [execOp, h1, go_sem])) ?_
         refine Gc (ln1 (nF rfl iB) rfl (ouU rfl) iC (fun r wx hR h1 => exg one3 rfl h1 (cv10 (HE3.out.2.ext hR)))) ?_
         refine Gc (ln2 (nF rfl iB) rfl (ouU rfl) iC iA (fun r wx hR h1 h2 => by simp [execOp, h1, h2, go_sem])) ?_
         refine Gc (lnO (gT rfl iB) rfl (ouU rfl) iC iG) ?_
         refine Gc (ln1 (gT rfl iB) rfl (ouU rfl) iC (fun r wx hR h1 => exec_mv (.inl rfl) h1)) ?_
         refine Gc (ln1 (nF rfl iB) rfl (ouU rfl) iA (fun r wx hR h1 => by simp [execOp, h1, go_sem])) ?_
         refine Gc (ln1 (nF rfl iB) rfl (ouU rfl) iC (fun r wx hR h1 => exg one3 rfl h1 (cv11 (HE3.out.2.ext hR)))) ?_
         refine Gc (ln2 (nF rfl iB) rfl (ouU rfl) iC iA (fun r wx hR h1 h2 => by simp [execOp, h1, h2, go_sem])) ?_
         refine Gc (lnO (gT rfl iB) rfl (ouU rfl) iC iG) ?_
         refine Gc (ln1 (gT rfl iB) rfl (ouU rfl) iC (fun r wx hR h1 => exec_mv (.inl rfl) h1)) ?_
         refine Gc (ln1 (nF rfl iB) rfl (ouU rfl) iA (fun r wx hR h1 => by simp [execOp, h1, go_sem])) ?_
         refine Gc (ln1 (nF rfl iB) rfl (ouU rfl) iC (fun r wx hR h1 => exg oneS rfl h1 (cv13 (HE3.out.2.ext hR)))) ?_
         refine Gc (ln1 (nF rfl iB) rfl (ouU rfl) iC (fun r wx hR h1 => by replace h1 : r (.tmp 133) = _ := h1; simp [execOp, h1, go_sem])) ?_
         refine Gc (ln2 (nF rfl iB) rfl (ouU rfl) iC iA (fun r wx hR h1 h2 => by simp [execOp, h1, h2, go_sem])) ?_
         refine Gc (lnO (gT rfl iB) rfl (ouU rfl) iC iG) ?_
         refine Gc (ln1 (gT rfl iB) rfl (ouU rfl) iC (fun r wx hR h1 => exec_mv (.inl rfl) h1)) ?_
         refine Gc (ln1 (nF rfl iB) rfl (ouU rfl) iA (fun r wx hR h1 => by simp [execOp, h1, go_sem])) ?_
         refine Gc (ln1 (nF rfl iB) rfl (ouU rfl) iC (fun r wx hR h1 => exg oneSA rfl h1 (cv14 (HE3.out.2.ext hR)))) ?_
         refine Gc (ln1 (nF rfl iB) rfl (ouU rfl) iC (fun r wx hR h1 => by replace h1 : r (.tmp 139) = _ := h1; simp [execOp, h1, go_sem])) ?_
         refine Gc (ln2 (nF rfl iB) rfl (ouU rfl) iC iA (fun r wx hR h1 h2 => by simp [execOp, h1, h2, go_sem])) ?_
         refine Gc (lnO (gT rfl iB) rfl (ouU rfl) iC iG) ?_
         refine Gc (lnA (gd0 rfl) rfl (ouI rfl) iA iD) ?_
         exact GoodAll.nil
        ·
         intro vs w4 a4 hR hold ha
         have hv28 : vs 28 = .bool (gd9_4 c s) := hold.at 28
         clear hold
         simp only [putAll, Act.put, Nat.zero_add, Nat.reduceAdd, hv28, List.setIfInBounds_toArray, List.set_cons_succ, List.set_cons_zero] at ha
         subst ha
         refine HB4.go _ _ ?_
         have HE4 : Hid (Ext w w4 ∧ Blk w4 w.heap.size (CV c s) 32) := ⟨HE3.out.1.trans hR, HE3.out.2.ext hR⟩
         clear HE3 hR HB4 hv28
         cases hg9 : (gd9_4 c s) with
         | true =>
          go_wp2
          go_ret
          exact ⟨.inl ⟨.gd9 hg9, rfl⟩, HE4.out.1⟩
         | false =>
          go_wp2_with fail
          refine HA4.go _ _ ?_
          clear HA4
          obtain ⟨N, hN0⟩ : ∃ N, N = s.aN := ⟨_, rfl⟩
          have HN : Hid (s.aN = N ∧ N = c.addrs.length) := ⟨hN0.symm, hN0.trans (nums_len HA.out.a).1⟩
          have hm : N ≤ 9223372036854775807 := by have := (nums_len HA.out.a).2; rw [← hN0] at this; exact this
          clear hN0
          refine wp_seq_k (fun L1 hK => ?_)
          have HL1 := Stop.mk hK
          clear hK
          go_wp2
          go_loopg [5] N (fun gm t wr => ∃ k : Nat, k ≤ N ∧ gm = N - k ∧ t = .int .i64 (k : Int) ∧ Hid (Ext w4 wr ∧ ∀ j, j < k → adB (c.addrs.getD j 0) = true))
          case atStart => exact ⟨0, Nat.zero_le _, rfl, rfl, Ext.refl _, fun j hj => absurd hj (by omega)⟩
          case round =>
           obtain ⟨k, hk, rfl, rfl, HR⟩ := hrel
           have c14 := cv14 (HE4.out.2.ext HR.out.1)
           rw [HN.out.1] at c14
           by_cases hlt : k < N
           ·
            have hd : decide ((k : Int) < (N : Int)) = true := decide_eq_true (by omega)
            have hkn : (k : Int) < (N : Int) := by omega
            obtain ⟨b, off, ea, hc0⟩ := NumsAt.cellAt (HA.out.a.ext (HE4.out.1.trans HR.out.1)) k (by rw [← HN.out.2]; exact hlt)
            rw [ea] at c14
            clear ea
            obtain ⟨x, hx⟩ : ∃ x, x = c.addrs.getD k 0 := ⟨_, rfl⟩
            rw [← hx] at hc0
            have HXx : Hid (x = c.addrs.getD k 0 ∧ k < c.addrs.length) := ⟨hx, by rw [← HN.out.2]; exact hlt⟩
            clear hx
            cases had : adB x with
            | false =>
             go_wp2_with (first
              | (go_at_call 33; refine (refAddr_any _ _).mono ?_; rintro e w6 ⟨rfl, he6⟩; rw [had]))
             go_ret
             exact ⟨.inl ⟨.addrs k HXx.out.2 (by rw [← HXx.out.1]; exact had), rfl⟩, (HE4.out.1.trans HR.out.1).trans he6⟩
            | true =>
             go_wp2_with (first
              | (go_at_call 33; refine (refAddr_any _ _).mono ?_; rintro e w6 ⟨rfl, he6⟩; rw [had]))
             go_roundg (N - (k + 1))
             case measure => omega
             case rel =>
              refine ⟨k + 1, by omega, rfl, by simp, HR.out.1.trans he6, fun j hj => ?_⟩
              by_cases hjk : j = k
              ·
               subst hjk; rw [← HXx.out.1]; exact had
              ·
               exact HR.out.2 j (by omega)
           ·
            have hd : decide ((k : Int) < (N : Int)) = false := decide_eq_false (by omega)
            have HAd : Hid (∀ j, j < c.addrs.length → adB (c.addrs.getD j 0) = true) := fun j hj => HR.out.2 j (by have := HN.out.2; omega)
            go_wp2_with fail
            refine HL1.go _ _ ?_
            clear HL1 hlt hd hk c14 hm
            have HEL : Hid (Ext w wr ∧ Blk wr w.heap.size (CV c s) 32) := ⟨HE4.out.1.trans HR.out.1, HE4.out.2.ext HR.out.1⟩
            clear HR HE4
            refine wp_seq_k (fun A5 hK => ?_)
            have HA5 := Stop.mk hK
            clear hK
            refine wp_seq_k (fun B5 hK => ?_)
            have HB5 := Stop.mk hK
            clear hK
            refine wp_line (fun t => bif Nat.ble 158 t && Nat.ble t 198 then some (t - 158) else none) 395 Ext
             [Is (.pointer (some ⟨w.heap.size, 9, none⟩)),
              Is (.int .i64 c.win),
              Is (.bool (c.win != 0)),
              Is (.bool (c.win != 0)),
              Under (c.win != 0) (.bool ((c.kind == 1) || (c.kind == 2))),
              Under (c.win != 0) (.bool (!((c.kind == 1) || (c.kind == 2)))),
              Is (.bool (gd16_2 c s)),
              Is (.bool (gd16_2 c s)),
              Under (gd16_2 c s) (.int .i64 c.kind),
              Under (gd16_2 c s) (.bool (c.kind != 3)),
              Is (.bool (gd16_4 c s)),
              Is (.bool (gd16_4 c s)),
              Under (!(gd16_4 c s)) (.pointer (some ⟨w.heap.size, 12, none⟩)),
              Under (!(gd16_4 c s)) (.int .u32 (c.tsn : Int)),
              Under (!(gd16_4 c s)) (.bool ((c.tsn : Int) != 0)),
              Under (!(gd16_4 c s)) (.bool ((c.tsn : Int) != 0)),
              Under ((!(gd16_4 c s)) && ((c.tsn : Int) != 0)) (.bool ((c.kind == 1) || (c.kind == 2))),
              Under ((!(gd16_4 c s)) && ((c.tsn : Int) != 0)) (.bool (!((c.kind == 1) || (c.kind == 2)))),
              Under (!(gd16_4 c s)) (.bool (gd16_3 c s)),
              Under (!(gd16_4 c s)) (.bool (gd16_3 c s)),
              Under ((!(gd16_4 c s)) && (gd16_3 c s)) (.int .i64 c.kind),
              Under ((!(gd16_4 c s)) && (gd16_3 c s)) (.bool (c.kind != 3)),
              Under (!(gd16_4 c s)) (.bool (gd16_5 c s)),
              Under (!(gd16_4 c s)) (.bool (gd16_5 c s)),
              Under ((!(gd16_4 c s)) && (gd16_5 c s)) (.int .i64 c.kind),
              Under ((!(gd16_4 c s)) && (gd16_5 c s)) (.bool (c.kind != 7)),
              Under (!(gd16_4 c s)) (.bool (gd16_6 c s)),
              Is (.bool (gd16_7 c s)),
              Is (.bool (gd16_7 c s)),
              Under (!(gd16_7 c s)) (.pointer (some ⟨w.heap.size, 18, none⟩)),
              Under (!(gd16_7 c s)) (.int .i64 c.cause),
              Under (!(gd16_7 c s)) (.bool (c.cause != 0)),
              Under (!(gd16_7 c s)) (.bool (c.cause != 0)),
              Under ((!(gd16_7 c s)) && (c.cause != 0)) (.int .i64 c.kind),
              Under ((!(gd16_7 c s)) && (c.cause != 0)) (.bool (c.kind != 6)),
              Under (!(gd16_7 c s)) (.bool (gd16_0 c s)),
              Under (!(gd16_7 c s)) (.bool (gd16_0 c s)),
              Under ((!(gd16_7 c s)) && (gd16_0 c s)) (.int .i64 c.kind),
              Under ((!(gd16_7 c s)) && (gd16_0 c s)) (.bool (c.kind != 9)),
              Under (!(gd16_7 c s)) (.bool (gd16_1 c s)),
              Is (.bool (gd16_8 c s))]
             rfl (by kernel_rfl) rfl Ext.refl (fun _ _ _ => Ext.trans) (Ks (Ks (Ks (Ks (Ku (Ku (Ks (Ks (Ku (Ku (Ks (Ks (Ku (Ku (Ku (Ku (Ku (Ku (Ku (Ku (Ku (Ku (Ku (Ku (Ku (Ku (Ku (Ks (Ks (Ku (Ku (Ku (Ku (Ku (Ku (Ku (Ku (Ku (Ku (Ku (Ks (KeepAll.nil)))))))))))))))))))))))))))))))))))))))))) ?_ ?_
            ·
             refine Gc (ln1 (gd0 rfl) rfl (ouI rfl) iA (fun r wx hR h1 => by simp [execOp, h1, go_sem])) ?_
             refine Gc (ln1 (gd0 rfl) rfl (ouI rfl) iA (fun r wx hR h1 => exg one3 rfl h1 (cv9 (HEL.out.2.ext hR)))) ?_
             refine Gc (ln2 (gd0 rfl) rfl (ouI rfl) iA iA (fun r wx hR h1 h2 => by simp [execOp, h1, h2, go_sem])) ?_
             refine Gc (lmv rfl (.inl rfl) rfl rfl iB) ?_
             refine Gc (ln1 (gT rfl iB) rfl (ouU rfl) iA (fun r wx hR h1 => exec_mv (.inl rfl) h1)) ?_
             refine Gc (ln1 (gT rfl iB) rfl (ouU rfl) iC (fun r wx hR h1 => by simp [execOp, h1, go_sem])) ?_
             refine Gc (lnA (gd0 rfl) rfl (ouI rfl) iA iD) ?_
             refine Gc (lmv rfl (.inl rfl) rfl rfl iB) ?_
             refine Gc (ln1 (gT rfl iB) rfl (ouU rfl) iA (fun r wx hR h1 => exec_mv (.inl rfl) h1)) ?_
             refine Gc (ln2 (gT rfl iB) rfl (ouU rfl) iC iA (fun r wx hR h1 h2 => by simp [execOp, h1, h2, go_sem])) ?_
             refine Gc (lnA (gd0 rfl) rfl (ouI rfl) iA iD) ?_
             refine Gc (lmv rfl (.inl rfl) rfl rfl iB) ?_
             refine Gc (ln1 (gF rfl iB) rfl (ouU rfl) iA (fun r wx hR h1 => by simp [execOp, h1, go_sem])) ?_
             refine Gc (ln1 (gF rfl iB) rfl (ouU rfl) iC (fun r wx hR h1 => exg one22 rfl h1 (cv12 (HEL.out.2.ext hR)))) ?_
             refine Gc (ln2 (gF rfl iB) rfl (ouU rfl) iC iA (fun r wx hR h1 h2 => by simp [execOp, h1, h2, go_sem])) ?_
             refine Gc (ln1 (gF rfl iB) rfl (ouU rfl) iC (fun r wx hR h1 => exec_mv (.inl rfl) h1)) ?_
             refine Gc (ln1 (nT rfl iB) rfl (ouU rfl) iA (fun r wx hR h1 => exec_mv (.inl rfl) h1)) ?_
             refine Gc (ln1 (nT rfl iB) rfl (ouU rfl) iC (fun r wx hR h1 => by simp [execOp, h1, go_sem])) ?_
             refine Gc (lnA (gF rfl iB) rfl (ouU rfl) iC iF) ?_
             refine Gc (ln1 (gF rfl iB) rfl (ouU rfl) iC (fun r wx hR h1 => exec_mv (.inl rfl) h1)) ?_
             refine Gc (ln1 (nT rfl iB) rfl (ouU rfl) iA (fun r wx hR h1 => exec_mv (.inl rfl) h1)) ?_
             refine Gc (ln2 (nT rfl iB) rfl (ouU rfl) iC iA (fun r wx hR h1 h2 => by simp [execOp, h1, h2, go_sem])) ?_
             refine Gc (lnA (gF rfl iB) rfl (ouU rfl) iC iF) ?_
             refine Gc (ln1 (gF rfl iB) rfl (ouU rfl) iC (fun r wx hR h1 => exec_mv (.inl rfl) h1)) ?_
             refine Gc (ln1 (nT rfl iB) rfl (ouU rfl) iA (fun r wx hR h1 => exec_mv (.inl rfl) h1)) ?_
             refine Gc (ln2 (nT rfl iB) rfl (ouU rfl) iC iA (fun r wx hR h1 h2 => by simp [execOp, h1, h2, go_sem])) ?_
             refine Gc (lnA (gF rfl iB) rfl (ouU rfl) iC iF) ?_
             refine Gc (lnO (gd0 rfl) rfl (ouI rfl) iA iE) ?_
             refine Gc (lmv rfl (.inl rfl) rfl rfl iB) ?_
             refine Gc (ln1 (gF rfl iB) rfl (ouU rfl) iA (fun r wx hR h1 => by simp [execOp, h1, go_sem])) ?_
             refine Gc (ln1 (gF rfl iB) rfl (ouU rfl) iC (fun r wx hR h1 => exg one3 rfl h1 (cv18 (HEL.out.2.ext hR)))) ?_
             refine Gc (ln2 (gF rfl iB) rfl (ouU rfl) iC iA (fun r wx hR h1 h2 => by simp [execOp, h1, h2, go_sem])) ?_
             refine Gc (ln1 (gF rfl iB) rfl (ouU rfl) iC (fun r wx hR h1 => exec_mv (.inl rfl) h1)) ?_
             refine Gc (ln1 (nT rfl iB) rfl (ouU rfl) iA (fun r wx hR h1 => exec_mv (.inl rfl) h1)) ?_
             refine Gc (ln2 (nT rfl iB) rfl (ouU rfl) iC iA (fun r wx hR h1 h2 => by simp [execOp, h1, h2, go_sem])) ?_
             refine Gc (lnA (gF rfl iB) rfl (ouU rfl) iC iF) ?_
             refine Gc (ln1 (gF rfl iB) rfl (ouU rfl) iC (fun r wx hR h1 => exec_mv (.inl rfl) h1)) ?_
             refine Gc (ln1 (nT rfl iB) rfl (ouU rfl) iA (fun r wx hR h1 => exec_mv (.inl rfl) h1)) ?_
             refine Gc (ln2 (nT rfl iB) rfl (ouU rfl) iC iA (fun r wx hR h1 h2 => by simp [execOp, h1, h2, go_sem])) ?_
             refine Gc (lnA (gF rfl iB) rfl (ouU rfl) iC iF) ?_
             refine Gc (lnO (gd0 rfl) rfl (ouI rfl) iA iE) ?_
             exact GoodAll.nil
            ·
             intro vs w5 a5 hR hold ha
             have hv40 : vs 40 = .bool (gd16_8 c s) := hold.at 40
             clear hold
             simp only [putAll, Act.put, Nat.zero_add, Nat.reduceAdd, hv40, List.setIfInBounds_toArray, List.set_cons_succ, List.set_cons_zero] at ha
             subst ha
             refine HB5.go _ _ ?_
             have HE5 : Hid (Ext w w5 ∧ Blk w5 w.heap.size (CV c s) 32) := ⟨HEL.out.1.trans hR, HEL.out.2.ext hR⟩
             clear HEL hR HB5 hv40
             cases hg16 : (gd16_8 c s) with
             | true =>
              go_wp2
              go_ret
              exact ⟨.inl ⟨.gd16 hg16, rfl⟩, HE5.out.1⟩
             | false =>
              go_wp2_with fail
              refine HA5.go _ _ ?_
              clear HA5
              refine wp_seq_k (fun L2 hK => ?_)
              have HL2 := Stop.mk hK
              clear hK
              have c9 := cv15 HE5.out.2
              go_cut [] from 199 to 224 (fun wx => swB c s = false ∧ Hid (Ext w wx ∧ Blk wx w.heap.size (CV c s) 32))
              case first =>
               by_cases hk2 : c.kind = 2
               ·
                have hk2b : (c.kind == 2) = true := beq_iff_eq.2 hk2
                by_cases hlo : s.iN < 1
                ·
                 have hlod : decide ((s.iN : Int) < 1) = true := decide_eq_true (by omega)
                 go_wp2_with fail
                 go_ret
                 exact ⟨.inl ⟨.sw (sw_lo (.inl hk2) hlo), rfl⟩, HE5.out.1⟩
                ·
                 have hlod : decide ((s.iN : Int) < 1) = false := decide_eq_false (by omega)
                 by_cases hhi : s.iN > 300
                 ·
                  have hhid : decide ((s.iN : Int) > 300) = true := decide_eq_true (by omega)
                  go_wp2_with fail
                  go_ret
                  exact ⟨.inl ⟨.sw (sw_hi (.inl hk2) hhi), rfl⟩, HE5.out.1⟩
                 ·
                  have hhid : decide ((s.iN : Int) > 300) = false := decide_eq_false (by omega)
                  go_wp2_with fail
                  go_meet
                  case rel => exact ⟨sw_ok (.inl hk2) hlo hhi, HE5⟩
               ·
                have hk2b : (c.kind == 2) = false := beq_eq_false_iff_ne.2 hk2
                by_cases hk4 : c.kind = 4
                ·
                 have hk4b : (c.kind == 4) = true := beq_iff_eq.2 hk4
                 by_cases hlo : s.iN < 1
                 ·
                  have hlod : decide ((s.iN : Int) < 1) = true := decide_eq_true (by omega)
                  go_wp2_with fail
                  go_ret
                  exact ⟨.inl ⟨.sw (sw_lo (.inr (.inl hk4)) hlo), rfl⟩, HE5.out.1⟩
                 ·
                  have hlod : decide ((s.iN : Int) < 1) = false := decide_eq_false (by omega)
                  by_cases hhi : s.iN > 300
                  ·
                   have hhid : decide ((s.iN : Int) > 300) = true := decide_eq_true (by omega)
                   go_wp2_with fail
                   go_ret
                   exact ⟨.inl ⟨.sw (sw_hi (.inr (.inl hk4)) hhi), rfl⟩, HE5.out.1⟩
                  ·
                   have hhid : decide ((s.iN : Int) > 300) = false := decide_eq_false (by omega)
                   go_wp2_with fail
                   go_meet
                   case rel => exact ⟨sw_ok (.inr (.inl hk4)) hlo hhi, HE5⟩
                ·
                 have hk4b : (c.kind == 4) = false := beq_eq_false_iff_ne.2 hk4
                 by_cases hk5 : c.kind = 5
                 ·
                  have hk5b : (c.kind == 5) = true := beq_iff_eq.2 hk5
                  by_cases hlo : s.iN < 1
                  ·
                   have hlod : decide ((s.iN : Int) < 1) = true := decide_eq_true (by omega)
                   go_wp2_with fail
                   go_ret
                   exact ⟨.inl ⟨.sw (sw_lo (.inr (.inr (.inl hk5))) hlo), rfl⟩, HE5.out.1⟩
                  ·
                   have hlod : decide ((s.iN : Int) < 1) = false := decide_eq_false (by omega)
                   by_cases hhi : s.iN > 300
                   ·
                    have hhid : decide ((s.iN : Int) > 300) = true := decide_eq_true (by omega)
                    go_wp2_with fail
                    go_ret
                    exact ⟨.inl ⟨.sw (sw_hi (.inr (.inr (.inl hk5))) hhi), rfl⟩, HE5.out.1⟩
                   ·
                    have hhid : decide ((s.iN : Int) > 300) = false := decide_eq_false (by omega)
                    go_wp2_with fail
                    go_meet
                    case rel => exact ⟨sw_ok (.inr (.inr (.inl hk5))) hlo hhi, HE5⟩
                 ·
                  have hk5b : (c.kind == 5) = false := beq_eq_false_iff_ne.2 hk5
                  by_cases hk10 : c.kind = 10
                  ·
                   have hk10b : (c.kind == 10) = true := beq_iff_eq.2 hk10
                   by_cases hlo : s.iN < 1
                   ·
                    have hlod : decide ((s.iN : Int) < 1) = true := decide_eq_true (by omega)
                    go_wp2_with fail
                    go_ret
                    exact ⟨.inl ⟨.sw (sw_lo (.inr (.inr (.inr hk10))) hlo), rfl⟩, HE5.out.1⟩
                   ·
                    have hlod : decide ((s.iN : Int) < 1) = false := decide_eq_false (by omega)
                    by_cases hhi : s.iN > 300
                    ·
                     have hhid : decide ((s.iN : Int) > 300) = true := decide_eq_true (by omega)
                     go_wp2_with fail
                     go_ret
                     exact ⟨.inl ⟨.sw (sw_hi (.inr (.inr (.inr hk10))) hhi), rfl⟩, HE5.out.1⟩
                    ·
                     have hhid : decide ((s.iN : Int) > 300) = false := decide_eq_false (by omega)
                     go_wp2_with fail
                     go_meet
                     case rel => exact ⟨sw_ok (.inr (.inr (.inr hk10))) hlo hhi, HE5⟩
                  ·
                   have hk10b : (c.kind == 10) = false := beq_eq_false_iff_ne.2 hk10
                   by_cases hk15 : c.kind = 15
                   ·
                    have hk15b : (c.kind == 15) = true := beq_iff_eq.2 hk15
                    by_cases hn : s.iN = 32
                    ·
                     have hn1 : ((s.iN : Int) != 32) = false := by rw [hn]; rfl
                     go_wp2_with fail
                     go_meet
                     case rel => exact ⟨sw_15ok hk15 hn, HE5⟩
                    ·
                     have hn1 : ((s.iN : Int) != 32) = true := by simpa using (show ¬ (s.iN : Int) = 32 by omega)
                     go_wp2_with fail
                     go_ret
                     exact ⟨.inl ⟨.sw (sw_15 hk15 hn), rfl⟩, HE5.out.1⟩
                   ·
                    have hk15b : (c.kind == 15) = false := beq_eq_false_iff_ne.2 hk15
                    by_cases hhi : s.iN > 0
                    ·
                     have hhid : decide ((s.iN : Int) > 0) = true := decide_eq_true (by omega)
                     go_wp2_with fail
                     go_ret
                     exact ⟨.inl ⟨.sw (sw_o hk2 hk4 hk5 hk10 hk15 hhi), rfl⟩, HE5.out.1⟩
                    ·
                     have hhid : decide ((s.iN : Int) > 0) = false := decide_eq_false (by omega)
                     go_wp2_with fail
                     go_meet
                     case rel => exact ⟨sw_ook hk2 hk4 hk5 hk10 hk15 hhi, HE5⟩
              case rest =>
               refine HL2.go _ _ ?_
               clear HL2 c9
               obtain ⟨hsw, HER⟩ := hcut
               clear HE5
               refine wp_seq_k (fun A6 hK => ?_)
               have HA6 := Stop.mk hK
               clear hK
               refine wp_seq_k (fun B6 hK => ?_)
               have HB6 := Stop.mk hK
               clear hK
               refine wp_line (fun t => bif Nat.ble 225 t && Nat.ble t 248 then some (t - 225) else none) 395 Ext
                [Is (.int .i64 c.kind),
                 Is (.bool (c.kind != 3)),
                 Is (.bool (c.kind != 3)),
                 Under (c.kind != 3) (.pointer (some ⟨w.heap.size, 16, none⟩)),
                 Under (c.kind != 3) (.slice s.gA s.gN s.gC),
                 Under (c.kind != 3) (.int .i64 (s.gN : Int)),
                 Under (c.kind != 3) (.pointer (some ⟨w.heap.size, 17, none⟩)),
                 Under (c.kind != 3) (.slice s.dA s.dN s.dC),
                 Under (c.kind != 3) (.int .i64 (s.dN : Int)),
                 Under (c.kind != 3) (.int .i64 (IntKind.i64.wrap ((s.gN : Int) + (s.dN : Int)))),
                 Under (c.kind != 3) (.bool (decide (((IntKind.i64.wrap ((s.gN : Int) + (s.dN : Int))) : Int) > 0))),
                 Is (.bool (gd30_0 c s)),
                 Is (.bool (gd30_0 c s)),
                 Under (!(gd30_0 c s)) (.pointer (some ⟨w.heap.size, 16, none⟩)),
                 Under (!(gd30_0 c s)) (.slice s.gA s.gN s.gC),
                 Under (!(gd30_0 c s)) (.int .i64 (s.gN : Int)),
                 Under (!(gd30_0 c s)) (.bool (decide ((s.gN : Int) > 16))),
                 Is (.bool (gd30_1 c s)),
                 Is (.bool (gd30_1 c s)),
                 Under (!(gd30_1 c s)) (.pointer (some ⟨w.heap.size, 17, none⟩)),
                 Under (!(gd30_1 c s)) (.slice s.dA s.dN s.dC),
                 Under (!(gd30_1 c s)) (.int .i64 (s.dN : Int)),
                 Under (!(gd30_1 c s)) (.bool (decide ((s.dN : Int) > 16))),
                 Is (.bool (gd30_2 c s))]
                rfl (by kernel_rfl) rfl Ext.refl (fun _ _ _ => Ext.trans) (Ks (Ks (Ks (Ku (Ku (Ku (Ku (Ku (Ku (Ku (Ku (Ks (Ks (Ku (Ku (Ku (Ku (Ks (Ks (Ku (Ku (Ku (Ku (Ks (KeepAll.nil))))))))))))))))))))))))) ?_ ?_
               ·
                refine Gc (lmv rfl (.inl rfl) rfl rfl iB) ?_
                refine Gc (ln2 (gd0 rfl) rfl (ouI rfl) iA iA (fun r wx hR h1 h2 => by simp [execOp, h1, h2, go_sem])) ?_
                refine Gc (lmv rfl (.inl rfl) rfl rfl iB) ?_
                refine Gc (ln1 (gT rfl iB) rfl (ouU rfl) iA (fun r wx hR h1 => by simp [execOp, h1, go_sem])) ?_
                refine Gc (ln1 (gT rfl iB) rfl (ouU rfl) iC (fun r wx hR h1 => exg oneSG2 rfl h1 (cv16 (HER.out.2.ext hR)))) ?_
                refine Gc (ln1 (gT rfl iB) rfl (ouU rfl) iC (fun r wx hR h1 => by replace h1 : r (.tmp 229) = _ := h1; simp [execOp, h1, go_sem])) ?_
                refine Gc (ln1 (gT rfl iB) rfl (ouU rfl) iA (fun r wx hR h1 => by simp [execOp, h1, go_sem])) ?_
                refine Gc (ln1 (gT rfl iB) rfl (ouU rfl) iC (fun r wx hR h1 => exg oneSD rfl h1 (cv17 (HER.out.2.ext hR)))) ?_
                refine Gc (ln1 (gT rfl iB) rfl (ouU rfl) iC (fun r wx hR h1 => by replace h1 : r (.tmp 232) = _ := h1; simp [execOp, h1, go_sem])) ?_
                refine Gc (ln2 (gT rfl iB) rfl (ouU rfl) iC iC (fun r wx hR h1 h2 => by simp [execOp, h1, h2, go_sem])) ?_
                refine Gc (ln2 (gT rfl iB) rfl (ouU rfl) iC iA (fun r wx hR h1 h2 => by simp [execOp, h1, h2, go_sem])) ?_
                refine Gc (lnA (gd0 rfl) rfl (ouI rfl) iA iD) ?_
                refine Gc (lmv rfl (.inl rfl) rfl rfl iB) ?_
                refine Gc (ln1 (gF rfl iB) rfl (ouU rfl) iA (fun r wx hR h1 => by simp [execOp, h1, go_sem])) ?_
                refine Gc (ln1 (gF rfl iB) rfl (ouU rfl) iC (fun r wx hR h1 => exg oneSG2 rfl h1 (cv16 (HER.out.2.ext hR)))) ?_
                refine Gc (ln1 (gF rfl iB) rfl (ouU rfl) iC (fun r wx hR h1 => by replace h1 : r (.tmp 239) = _ := h1; simp [execOp, h1, go_sem])) ?_
                refine Gc (ln2 (gF rfl iB) rfl (ouU rfl) iC iA (fun r wx hR h1 h2 => by simp [execOp, h1, h2, go_sem])) ?_
                refine Gc (lnO (gd0 rfl) rfl (ouI rfl) iA iE) ?_
                refine Gc (lmv rfl (.inl rfl) rfl rfl iB) ?_
                refine Gc (ln1 (gF rfl iB) rfl (ouU rfl) iA (fun r wx hR h1 => by simp [execOp, h1, go_sem])) ?_
                refine Gc (ln1 (gF rfl iB) rfl (ouU rfl) iC (fun r wx hR h1 => exg oneSD rfl h1 (cv17 (HER.out.2.ext hR)))) ?_
                refine Gc (ln1 (gF rfl iB) rfl (ouU rfl) iC (fun r wx hR h1 => by replace h1 : r (.tmp 245) = _ := h1; simp [execOp, h1, go_sem])) ?_
                refine Gc (ln2 (gF rfl iB) rfl (ouU rfl) iC iA (fun r wx hR h1 h2 => by simp [execOp, h1, h2, go_sem])) ?_
                refine Gc (lnO (gd0 rfl) rfl (ouI rfl) iA iE) ?_
                exact GoodAll.nil
               ·
                intro vs w6 a6 hR hold ha
                have hv23 : vs 23 = .bool (gd30_2 c s) := hold.at 23
                clear hold
                simp only [putAll, Act.put, Nat.zero_add, Nat.reduceAdd, hv23, List.setIfInBounds_toArray, List.set_cons_succ, List.set_cons_zero] at ha
                subst ha
                refine HB6.go _ _ ?_
                have HE6 : Hid (Ext w w6 ∧ Blk w6 w.heap.size (CV c s) 32) := ⟨HER.out.1.trans hR, HER.out.2.ext hR⟩
                clear HER hR HB6 hv23
                cases hg30 : (gd30_2 c s) with
                | true =>
                 go_wp2
                 go_ret
                 exact ⟨.inl ⟨.gd30 hg30, rfl⟩, HE6.out.1⟩
                | false =>
                 go_wp2_with fail
                 refine HA6.go _ _ ?_
                 clear HA6
                 refine wp_seq_k (fun L3 hK => ?_)
                 have HL3 := Stop.mk hK
                 clear hK
                 obtain ⟨N2, hN0⟩ : ∃ N, N = s.gN := ⟨_, rfl⟩
                 have HN2 : Hid (s.gN = N2 ∧ N2 = c.gaps.length) := ⟨hN0.symm, hN0.trans (PairsAt.len HA.out.g).1⟩
                 have hm2 : N2 ≤ 9223372036854775807 := by have := (PairsAt.len HA.out.g).2.1; rw [← hN0] at this; exact this
                 clear hN0
                 go_wp2
                 go_loopg [6] N2 (fun gm t wr => ∃ k : Nat, k ≤ N2 ∧ gm = N2 - k ∧ t = .int .i64 (k : Int) ∧ Hid (Ext w6 wr ∧ ∀ j, j < k → gapNo c j = false))
                 case atStart => exact ⟨0, Nat.zero_le _, rfl, rfl, Ext.refl _, fun j hj => absurd hj (by omega)⟩
                 case round =>
                  obtain ⟨k, hk, rfl, rfl, HR⟩ := hrel
                  have c16 := cv16 (HE6.out.2.ext HR.out.1)
                  rw [HN2.out.1] at c16
                  by_cases hlt : k < N2
                  ·
                   have hd : decide ((k : Int) < (N2 : Int)) = true := decide_eq_true (by omega)
                   have hkn : (k : Int) < (N2 : Int) := by omega
                   have HkL : Hid (k < c.gaps.length) := show _ by rw [← HN2.out.2]; exact hlt
                   obtain ⟨b, off, ea, hc0, hc1⟩ := PairsAt.cellAt (HA.out.g.ext (HE6.out.1.trans HR.out.1)) k HkL.out
                   rw [ea] at c16
                   have HXx : Hid (∀ x y, x = (c.gaps.getD k (0, 0)).1 → y = (c.gaps.getD k (0, 0)).2 → gapNo c k = gapB x y k (c.gaps.getD (k - 1) (0, 0)).2) := fun x y h1 h2 => by subst h1; subst h2; rfl
                   have HXr := HXx.out _ _ rfl rfl
                   clear HXx
                   generalize (c.gaps.getD k (0, 0)).1 = x at hc0 HXr
                   generalize (c.gaps.getD k (0, 0)).2 = y at hc1 HXr
                   have HX : Hid (gapNo c k = gapB x y k (c.gaps.getD (k - 1) (0, 0)).2) := HXr
                   clear HXr
                   by_cases g1 : x < 1
                   ·
                    have g1d : decide (x < 1) = true := decide_eq_true g1
                    go_wp2_with fail
                    go_quiet (fail)
                    go_wp2
                    go_ret
                    exact ⟨.inl ⟨.gaps k HkL.out (HX.out.trans (gapB_1 g1)), rfl⟩, (HE6.out.1.trans HR.out.1).trans (Ext.drewN _ _)⟩
                   ·
                    have g1d : decide (x < 1) = false := decide_eq_false g1
                    by_cases g2 : y > 65535
                    ·
                     have g2d : decide (y > 65535) = true := decide_eq_true g2
                     go_wp2_with fail
                     go_quiet (fail)
                     go_wp2
                     go_ret
                     exact ⟨.inl ⟨.gaps k HkL.out (HX.out.trans (gapB_2 g2)), rfl⟩, (HE6.out.1.trans HR.out.1).trans (Ext.drewN _ _)⟩
                    ·
                     have g2d : decide (y > 65535) = false := decide_eq_false g2
                     by_cases g3 : x > y
                     ·
                      have g3d : decide (x > y) = true := decide_eq_true g3
                      go_wp2_with fail
                      go_quiet (fail)
                      go_wp2
                      go_ret
                      exact ⟨.inl ⟨.gaps k HkL.out (HX.out.trans (gapB_3 g3)), rfl⟩, (HE6.out.1.trans HR.out.1).trans (Ext.drewN _ _)⟩
                     ·
                      have g3d : decide (x > y) = false := decide_eq_false g3
                      by_cases g4 : (k : Int) > 0
                      ·
                       have g4d : decide ((k : Int) > 0) = true := decide_eq_true g4
                       have g4n : 0 < k := by omega
                       have g4e : decide (0 < k) = true := decide_eq_true g4n
                       obtain ⟨km, hkm⟩ : ∃ km, k = km + 1 := ⟨k - 1, by omega⟩
                       have hw1 : IntKind.i64.wrap ((k : Int) - 1) = (km : Int) := by rw [IntKind.wrap_i64]; omega
                       have hkm2 : (km : Int) < (N2 : Int) := by omega
                       have hkm3 : k - 1 = km := by omega
                       rw [hkm3] at HX
                       obtain ⟨b2, off2, eb, hd0, hd1⟩ := PairsAt.cellAt (HA.out.g.ext (HE6.out.1.trans HR.out.1)) km (by have := HkL.out; omega)
                       rw [ea] at eb
                       simp only [Option.some.injEq, Addr.mk.injEq, and_true] at eb
                       obtain ⟨rfl, rfl⟩ := eb
                       clear hd0 ea
                       have hz := gapNo_le (HR.out.2 km (by omega))
                       generalize (c.gaps.getD km (0, 0)).2 = z at hd1 HX hz
                       have hw2 : IntKind.i64.wrap (z + 2) = z + 2 := by rw [IntKind.wrap_i64]; omega
                       clear hz hkm hkm3
                       by_cases g5 : x < z + 2
                       ·
                        have g5d : decide (x < z + 2) = true := decide_eq_true g5
                        go_wp2_with fail
                        go_quiet (fail)
                        go_wp2
                        go_ret
                        exact ⟨.inl ⟨.gaps k HkL.out (HX.out.trans (gapB_5 g4 g5)), rfl⟩, (HE6.out.1.trans HR.out.1).trans (Ext.drewN _ _)⟩
                       ·
                        have g5d : decide (x < z + 2) = false := decide_eq_false g5
                        have HF : Hid (gapNo c k = false) := HX.out.trans (gapB_no g1 g2 g3 (fun _ => g5))
                        go_wp2_with fail
                        go_quiet (fail)
                        go_wp2
                        go_roundg (N2 - (k + 1))
                        case measure => omega
                        case rel =>
                         refine ⟨k + 1, by omega, rfl, by simp, HR.out.1.trans (Ext.drewN _ _), fun j hj => ?_⟩
                         by_cases hjk : j = k
                         ·
                          subst hjk; exact HF.out
                         ·
                          exact HR.out.2 j (by omega)
                      ·
                       have g4d : decide ((k : Int) > 0) = false := decide_eq_false g4
                       have g4e : decide (0 < k) = false := decide_eq_false (by omega)
                       have HF : Hid (gapNo c k = false) := HX.out.trans (gapB_no g1 g2 g3 (fun h => absurd h g4))
                       go_wp2_with fail
                       go_quiet (fail)
                       go_wp2
                       go_roundg (N2 - (k + 1))
                       case measure => omega
                       case rel =>
                        refine ⟨k + 1, by omega, rfl, by simp, HR.out.1.trans (Ext.drewN _ _), fun j hj => ?_⟩
                        by_cases hjk : j = k
                        ·
                         subst hjk; exact HF.out
                        ·
                         exact HR.out.2 j (by omega)
                  ·
                   have hd : decide ((k : Int) < (N2 : Int)) = false := decide_eq_false (by omega)
                   have HGd : Hid (∀ j, j < c.gaps.length → gapNo c j = false) := fun j hj => HR.out.2 j (by have := HN2.out.2; omega)
                   go_wp2_with fail
                   refine HL3.go _ _ ?_
                   clear HL3 hlt hd hk c16 hm2
                   have HEM : Hid (Ext w wr ∧ Blk wr w.heap.size (CV c s) 32) := ⟨HE6.out.1.trans HR.out.1, HE6.out.2.ext HR.out.1⟩
                   clear HR HE6
                   refine wp_seq_k (fun A7 hK => ?_)
                   have HA7 := Stop.mk hK
                   clear hK
                   refine wp_seq_k (fun B7 hK => ?_)
                   have HB7 := Stop.mk hK
                   clear hK
                   refine wp_line (fun t => bif Nat.ble 308 t && Nat.ble t 352 then some (t - 308) else none) 395 Ext
                    [Is (.int .i64 c.kind),
                     Is (.bool (c.kind == 193)),
                     Is (.bool (c.kind == 193)),
                     Under (c.kind == 193) (.pointer (some ⟨w.heap.size, 20, none⟩)),
                     Under (c.kind == 193) (.slice s.oA s.oN s.oC),
                     Under (c.kind == 193) (.int .i64 (s.oN : Int)),
                     Under (c.kind == 193) (.bool (decide ((s.oN : Int) < 1))),
                     Under (c.kind == 193) (.bool (decide ((s.oN : Int) < 1))),
                     Under ((c.kind == 193) && (!(decide ((s.oN : Int) < 1)))) (.pointer (some ⟨w.heap.size, 20, none⟩)),
                     Under ((c.kind == 193) && (!(decide ((s.oN : Int) < 1)))) (.slice s.oA s.oN s.oC),
                     Under ((c.kind == 193) && (!(decide ((s.oN : Int) < 1)))) (.int .i64 (s.oN : Int)),
                     Under ((c.kind == 193) && (!(decide ((s.oN : Int) < 1)))) (.bool (decide ((s.oN : Int) > 9))),
                     Under (c.kind == 193) (.bool (gd37_3 c s)),
                     Is (.bool (gd37_5 c s)),
                     Is (.bool (gd37_5 c s)),
                     Under (!(gd37_5 c s)) (.int .i64 c.kind),
                     Under (!(gd37_5 c s)) (.bool (c.kind != 193)),
                     Under (!(gd37_5 c s)) (.bool (c.kind != 193)),
                     Under ((!(gd37_5 c s)) && (c.kind != 193)) (.pointer (some ⟨w.heap.size, 20, none⟩)),
                     Under ((!(gd37_5 c s)) && (c.kind != 193)) (.slice s.oA s.oN s.oC),
                     Under ((!(gd37_5 c s)) && (c.kind != 193)) (.int .i64 (s.oN : Int)),
                     Under ((!(gd37_5 c s)) && (c.kind != 193)) (.bool (decide ((s.oN : Int) > 0))),
                     Under (!(gd37_5 c s)) (.bool (gd37_2 c s)),
                     Is (.bool (gd37_6 c s)),
                     Is (.bool (gd37_6 c s)),
                     Under (!(gd37_6 c s)) (.pointer (some ⟨w.heap.size, 19, none⟩)),
                     Under (!(gd37_6 c s)) (.int .u32 (c.serial : Int)),
                     Under (!(gd37_6 c s)) (.bool ((c.serial : Int) != 0)),
                     Under (!(gd37_6 c s)) (.bool ((c.serial : Int) != 0)),
                     Under ((!(gd37_6 c s)) && ((c.serial : Int) != 0)) (.int .i64 c.kind),
                     Under ((!(gd37_6 c s)) && ((c.serial : Int) != 0)) (.bool (c.kind != 193)),
                     Under (!(gd37_6 c s)) (.bool (gd37_1 c s)),
                     Under (!(gd37_6 c s)) (.bool (gd37_1 c s)),
                     Under ((!(gd37_6 c s)) && (gd37_1 c s)) (.int .i64 c.kind),
                     Under ((!(gd37_6 c s)) && (gd37_1 c s)) (.bool (c.kind != 128)),
                     Under (!(gd37_6 c s)) (.bool (gd37_4 c s)),
                     Is (.bool (gd37_7 c s)),
                     Is (.bool (gd37_7 c s)),
                     Under (!(gd37_7 c s)) (.pointer (some ⟨w.heap.size, 21, none⟩)),
                     Under (!(gd37_7 c s)) (.bool c.ok),
                     Under (!(gd37_7 c s)) (.bool c.ok),
                     Under ((!(gd37_7 c s)) && (c.ok)) (.int .i64 c.kind),
                     Under ((!(gd37_7 c s)) && (c.ok)) (.bool (c.kind != 128)),
                     Under (!(gd37_7 c s)) (.bool (gd37_0 c s)),
                     Is (.bool (gd37_8 c s))]
                    rfl (by kernel_rfl) rfl Ext.refl (fun _ _ _ => Ext.trans) (Ks (Ks (Ks (Ku (Ku (Ku (Ku (Ku (Ku (Ku (Ku (Ku (Ku (Ks (Ks (Ku (Ku (Ku (Ku (Ku (Ku (Ku (Ku (Ks (Ks (Ku (Ku (Ku (Ku (Ku (Ku (Ku (Ku (Ku (Ku (Ku (Ks (Ks (Ku (Ku (Ku (Ku (Ku (Ku (Ks (KeepAll.nil)))))))))))))))))))))))))))))))))))))))))))))) ?_ ?_
                   ·
                    refine Gc (lmv rfl (.inl rfl) rfl rfl iB) ?_
                    refine Gc (ln2 (gd0 rfl) rfl (ouI rfl) iA iA (fun r wx hR h1 h2 => by simp [execOp, h1, h2, go_sem])) ?_
                    refine Gc (lmv rfl (.inl rfl) rfl rfl iB) ?_
                    refine Gc (ln1 (gT rfl iB) rfl (ouU rfl) iA (fun r wx hR h1 => by simp [execOp, h1, go_sem])) ?_
                    refine Gc (ln1 (gT rfl iB) rfl (ouU rfl) iC (fun r wx hR h1 => exg oneSO2 rfl h1 (cv20 (HEM.out.2.ext hR)))) ?_
                    refine Gc (ln1 (gT rfl iB) rfl (ouU rfl) iC (fun r wx hR h1 => by replace h1 : r (.tmp 312) = _ := h1; simp [execOp, h1, go_sem])) ?_
                    refine Gc (ln2 (gT rfl iB) rfl (ouU rfl) iC iA (fun r wx hR h1 h2 => by simp [execOp, h1, h2, go_sem])) ?_
                    refine Gc (ln1 (gT rfl iB) rfl (ouU rfl) iC (fun r wx hR h1 => exec_mv (.inl rfl) h1)) ?_
                    refine Gc (ln1 (nF rfl iB) rfl (ouU rfl) iA (fun r wx hR h1 => by simp [execOp, h1, go_sem])) ?_
                    refine Gc (ln1 (nF rfl iB) rfl (ouU rfl) iC (fun r wx hR h1 => exg oneSO2 rfl h1 (cv20 (HEM.out.2.ext hR)))) ?_
                    refine Gc (ln1 (nF rfl iB) rfl (ouU rfl) iC (fun r wx hR h1 => by replace h1 : r (.tmp 317) = _ := h1; simp [execOp, h1, go_sem])) ?_
                    refine Gc (ln2 (nF rfl iB) rfl (ouU rfl) iC iA (fun r wx hR h1 h2 => by simp [execOp, h1, h2, go_sem])) ?_
                    refine Gc (lnO (gT rfl iB) rfl (ouU rfl) iC iG) ?_
                    refine Gc (lnA (gd0 rfl) rfl (ouI rfl) iA iD) ?_
                    refine Gc (lmv rfl (.inl rfl) rfl rfl iB) ?_
                    refine Gc (ln1 (gF rfl iB) rfl (ouU rfl) iA (fun r wx hR h1 => exec_mv (.inl rfl) h1)) ?_
                    refine Gc (ln2 (gF rfl iB) rfl (ouU rfl) iC iA (fun r wx hR h1 h2 => by simp [execOp, h1, h2, go_sem])) ?_
                    refine Gc (ln1 (gF rfl iB) rfl (ouU rfl) iC (fun r wx hR h1 => exec_mv (.inl rfl) h1)) ?_
                    refine Gc (ln1 (nT rfl iB) rfl (ouU rfl) iA (fun r wx hR h1 => by simp [execOp, h1, go_sem])) ?_
                    refine Gc (ln1 (nT rfl iB) rfl (ouU rfl) iC (fun r wx hR h1 => exg oneSO2 rfl h1 (cv20 (HEM.out.2.ext hR)))) ?_
                    refine Gc (ln1 (nT rfl iB) rfl (ouU rfl) iC (fun r wx hR h1 => by replace h1 : r (.tmp 327) = _ := h1; simp [execOp, h1, go_sem])) ?_
                    refine Gc (ln2 (nT rfl iB) rfl (ouU rfl) iC iA (fun r wx hR h1 h2 => by simp [execOp, h1, h2, go_sem])) ?_
                    refine Gc (lnA (gF rfl iB) rfl (ouU rfl) iC iF) ?_
                    refine Gc (lnO (gd0 rfl) rfl (ouI rfl) iA iE) ?_
                    refine Gc (lmv rfl (.inl rfl) rfl rfl iB) ?_
                    refine Gc (ln1 (gF rfl iB) rfl (ouU rfl) iA (fun r wx hR h1 => by simp [execOp, h1, go_sem])) ?_
                    refine Gc (ln1 (gF rfl iB) rfl (ouU rfl) iC (fun r wx hR h1 => exg one22 rfl h1 (cv19 (HEM.out.2.ext hR)))) ?_
                    refine Gc (ln2 (gF rfl iB) rfl (ouU rfl) iC iA (fun r wx hR h1 h2 => by simp [execOp, h1, h2, go_sem])) ?_
                    refine Gc (ln1 (gF rfl iB) rfl (ouU rfl) iC (fun r wx hR h1 => exec_mv (.inl rfl) h1)) ?_
                    refine Gc (ln1 (nT rfl iB) rfl (ouU rfl) iA (fun r wx hR h1 => exec_mv (.inl rfl) h1)) ?_
                    refine Gc (ln2 (nT rfl iB) rfl (ouU rfl) iC iA (fun r wx hR h1 h2 => by simp [execOp, h1, h2, go_sem])) ?_
                    refine Gc (lnA (gF rfl iB) rfl (ouU rfl) iC iF) ?_
                    refine Gc (ln1 (gF rfl iB) rfl (ouU rfl) iC (fun r wx hR h1 => exec_mv (.inl rfl) h1)) ?_
                    refine Gc (ln1 (nT rfl iB) rfl (ouU rfl) iA (fun r wx hR h1 => exec_mv (.inl rfl) h1)) ?_
                    refine Gc (ln2 (nT rfl iB) rfl (ouU rfl) iC iA (fun r wx hR h1 h2 => by simp [execOp, h1, h2, go_sem])) ?_
                    refine Gc (lnA (gF rfl iB) rfl (ouU rfl) iC iF) ?_
                    refine Gc (lnO (gd0 rfl) rfl (ouI rfl) iA iE) ?_
                    refine Gc (lmv rfl (.inl rfl) rfl rfl iB) ?_
                    refine Gc (ln1 (gF rfl iB) rfl (ouU rfl) iA (fun r wx hR h1 => by simp [execOp, h1, go_sem])) ?_
                    refine Gc (ln1 (gF rfl iB) rfl (ouU rfl) iC (fun r wx hR h1 => exg one4 rfl h1 (cv21 (HEM.out.2.ext hR)))) ?_
                    refine Gc (ln1 (gF rfl iB) rfl (ouU rfl) iC (fun r wx hR h1 => exec_mv (.inl rfl) h1)) ?_
                    refine Gc (ln1 (nT rfl iB) rfl (ouU rfl) iA (fun r wx hR h1 => exec_mv (.inl rfl) h1)) ?_
                    refine Gc (ln2 (nT rfl iB) rfl (ouU rfl) iC iA (fun r wx hR h1 h2 => by simp [execOp, h1, h2, go_sem])) ?_
                    refine Gc (lnA (gF rfl iB) rfl (ouU rfl) iC iF) ?_
                    refine Gc (lnO (gd0 rfl) rfl (ouI rfl) iA iE) ?_
                    exact GoodAll.nil
                   ·
                    intro vs w7 a7 hR hold ha
                    have hv44 : vs 44 = .bool (gd37_8 c s) := hold.at 44
                    clear hold
                    simp only [putAll, Act.put, Nat.zero_add, Nat.reduceAdd, hv44, List.setIfInBounds_toArray, List.set_cons_succ, List.set_cons_zero] at ha
                    subst ha
                    refine HB7.go _ _ ?_
                    have HE7 : Hid (Ext w w7 ∧ Blk w7 w.heap.size (CV c s) 32) := ⟨HEM.out.1.trans hR, HEM.out.2.ext hR⟩
                    clear HEM hR HB7 hv44
                    cases hg37 : (gd37_8 c s) with
                    | true =>
                     go_wp2
                     go_ret
                     exact ⟨.inl ⟨.gd37 hg37, rfl⟩, HE7.out.1⟩
                    | false =>
                     go_wp2_with fail
                     refine HA7.go _ _ ?_
                     clear HA7
                     refine wp_seq_k (fun L4 hK => ?_)
                     have HL4 := Stop.mk hK
                     clear hK
                     obtain ⟨N3, hN0⟩ : ∃ N, N = s.oN := ⟨_, rfl⟩
                     have HN3 : Hid (s.oN = N3 ∧ N3 = c.ops.length) := ⟨hN0.symm, hN0.trans (PairsAt.len HA.out.o).1⟩
                     have hm3 : N3 ≤ 9223372036854775807 := by have := (PairsAt.len HA.out.o).2.1; rw [← hN0] at this; exact this
                     clear hN0
                     go_wp2
                     go_loopg [7] N3 (fun gm t wr => ∃ k : Nat, k ≤ N3 ∧ gm = N3 - k ∧ t = .int .i64 (k : Int) ∧ Hid (Ext w7 wr ∧ ∀ j, j < k → refOpNo c j = false))
                     case atStart => exact ⟨0, Nat.zero_le _, rfl, rfl, Ext.refl _, fun j hj => absurd hj (by omega)⟩
                     case round =>
                      obtain ⟨k, hk, rfl, rfl, HR⟩ := hrel
                      have c20 := cv20 (HE7.out.2.ext HR.out.1)
                      rw [HN3.out.1] at c20
                      by_cases hlt : k < N3
                      ·
                       have hd : decide ((k : Int) < (N3 : Int)) = true := decide_eq_true (by omega)
                       have hkn : (k : Int) < (N3 : Int) := by omega
                       have HkL : Hid (k < c.ops.length) := show _ by rw [← HN3.out.2]; exact hlt
                       obtain ⟨b, off, ea, hc0, hc1⟩ := PairsAt.cellAt (HA.out.o.ext (HE7.out.1.trans HR.out.1)) k HkL.out
                       rw [ea] at c20
                       clear ea
                       have HX : Hid (refOpNo c k = refOpB (c.ops.getD k (0, 0)).1 (c.ops.getD k (0, 0)).2) := rfl
                       generalize (c.ops.getD k (0, 0)).1 = x at hc0 HX
                       generalize (c.ops.getD k (0, 0)).2 = y at hc1 HX
                       by_cases o1 : x = 1
                       ·
                        have o1b : (x != 1) = false := by rw [o1]; rfl
                        cases had : adB y with
                        | false =>
                         go_wp2_with (first
                          | (go_at_call 33; refine (refAddr_any _ _).mono ?_; rintro e w6 ⟨rfl, he6⟩; rw [had]))
                         go_ret
                         exact ⟨.inl ⟨.ops k HkL.out (HX.out.trans (refOp_a had)), rfl⟩, (HE7.out.1.trans HR.out.1).trans he6⟩
                        | true =>
                         have HF : Hid (refOpNo c k = false) := HX.out.trans (refOp_no (.inl o1) had)
                         go_wp2_with (first
                          | (go_at_call 33; refine (refAddr_any _ _).mono ?_; rintro e w6 ⟨rfl, he6⟩; rw [had]))
                         go_roundg (N3 - (k + 1))
                         case measure => omega
                         case rel =>
                          refine ⟨k + 1, by omega, rfl, by simp, HR.out.1.trans he6, fun j hj => ?_⟩
                          by_cases hjk : j = k
                          ·
                           subst hjk; exact HF.out
                          ·
                           exact HR.out.2 j (by omega)
                       ·
                        have o1b : (x != 1) = true := bne_iff_ne.2 o1
                        by_cases o2 : x = 2
                        ·
                         have o2b : (x != 2) = false := by rw [o2]; rfl
                         cases had : adB y with
                         | false =>
                          go_wp2_with (first
                           | (go_at_call 33; refine (refAddr_any _ _).mono ?_; rintro e w6 ⟨rfl, he6⟩; rw [had]))
                          go_ret
                          exact ⟨.inl ⟨.ops k HkL.out (HX.out.trans (refOp_a had)), rfl⟩, (HE7.out.1.trans HR.out.1).trans he6⟩
                         | true =>
                          have HF : Hid (refOpNo c k = false) := HX.out.trans (refOp_no (.inr (.inl o2)) had)
                          go_wp2_with (first
                           | (go_at_call 33; refine (refAddr_any _ _).mono ?_; rintro e w6 ⟨rfl, he6⟩; rw [had]))
                          go_roundg (N3 - (k + 1))
                          case measure => omega
                          case rel =>
                           refine ⟨k + 1, by omega, rfl, by simp, HR.out.1.trans he6, fun j hj => ?_⟩
                           by_cases hjk : j = k
                           ·
                            subst hjk; exact HF.out
                           ·
                            exact HR.out.2 j (by omega)
                        ·
                         have o2b : (x != 2) = true := bne_iff_ne.2 o2
                         by_cases o4 : x = 4
                         ·
                          have o4b : (x != 4) = false := by rw [o4]; rfl
                          cases had : adB y with
                          | false =>
                           go_wp2_with (first
                            | (go_at_call 33; refine (refAddr_any _ _).mono ?_; rintro e w6 ⟨rfl, he6⟩; rw [had]))
                           go_ret
                           exact ⟨.inl ⟨.ops k HkL.out (HX.out.trans (refOp_a had)), rfl⟩, (HE7.out.1.trans HR.out.1).trans he6⟩
                          | true =>
                           have HF : Hid (refOpNo c k = false) := HX.out.trans (refOp_no (.inr (.inr o4)) had)
                           go_wp2_with (first
                            | (go_at_call 33; refine (refAddr_any _ _).mono ?_; rintro e w6 ⟨rfl, he6⟩; rw [had]))
                           go_roundg (N3 - (k + 1))
                           case measure => omega
                           case rel =>
                            refine ⟨k + 1, by omega, rfl, by simp, HR.out.1.trans he6, fun j hj => ?_⟩
                            by_cases hjk : j = k
                            ·
                             subst hjk; exact HF.out
                            ·
                             exact HR.out.2 j (by omega)
                         ·
                          have o4b : (x != 4) = true := bne_iff_ne.2 o4
                          go_wp2_with fail
                          go_ret
                          exact ⟨.inl ⟨.ops k HkL.out (HX.out.trans (refOp_k o1 o2 o4)), rfl⟩, HE7.out.1.trans HR.out.1⟩
                      ·
                       have hd : decide ((k : Int) < (N3 : Int)) = false := decide_eq_false (by omega)
                       have HOd : Hid (∀ j, j < c.ops.length → refOpNo c j = false) := fun j hj => HR.out.2 j (by have := HN3.out.2; omega)
                       go_wp2_with fail
                       refine HL4.go _ _ ?_
                       go_wp2
                       go_ret
                       refine ⟨.inr ⟨fun h => ?_, rfl⟩, HE7.out.1.trans HR.out.1⟩
                       cases h with
                       | gd3 h => rw [hg3] at h; cases h
                       | gd5 h => rw [hg5] at h; cases h
                       | gd7 h => rw [hg7] at h; cases h
                       | gd9 h => rw [hg9] at h; cases h
                       | gd16 h => rw [hg16] at h; cases h
                       | gd30 h => rw [hg30] at h; cases h
                       | gd37 h => rw [hg37] at h; cases h
                       | addrs k hk h => rw [HAd.out k hk] at h; cases h
                       | sw h => rw [hsw] at h; cases h
                       | gaps k hk h => rw [HGd.out k hk] at h; cases h
                       | ops k hk h => rw [HOd.out k hk] at h; cases h
end Tlv
end Go.Proofs.Ytigocaconkbalaa
