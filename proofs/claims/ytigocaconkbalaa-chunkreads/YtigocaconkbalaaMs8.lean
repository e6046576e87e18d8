/- Texts of the seat, one behind the other. No condition of its own. -/
import Derived.Test.YtigocaconkbalaaMs7
set_option linter.unusedVariables false
set_option linter.unusedSimpArgs false
set_option maxHeartbeats 32000000
set_option maxRecDepth 100000
namespace Go.Proofs.Ytigocaconkbalaa
namespace Tlv
open Go Go.RowKit
theorem pairs_one (w : World) (p : Int × Int) (e : TypeId) : PairsAt (w.alloc (.cells #[.int .i64 p.1, .int .i64 p.2] e)) (.slice (some ⟨w.heap.size, 0, none⟩) 1 1) [p] := by
 refine ⟨by simp [maxLen], _, 1, rfl, ⟨by simp, fun h => by cases h⟩, by simp [maxLen], fun i q hq => ?_⟩
 match i with
 | 0 =>
  simp at hq
  subst hq
  exact ⟨_, 0, rfl, cellNew _ _ _ _ _ _ rfl, cellNew _ _ _ _ _ _ rfl⟩
 | i + 1 => simp at hq
theorem wl_pushPr {t e : TypeId} (hT : PrT t e) {wr : World} {ops : Array Oper} {rest : List Oper} {o : Oper} {a : Act} {Q : Exit → Act → World → Prop} {C : Array Value} (hgd : o.guard = none) {s x : Operand} (ho : o.op = .call { callee := .builtin .append, args := #[s, x], argTypes := #[t, t] })
  {base b : Nat} {v : Value} {L : List (Int × Int)} {p : Int × Int} (hC : C = #[.int .i64 p.1, .int .i64 p.2]) (hs : a.eval s = v) (hx : a.eval x = .slice (some ⟨b, 0, none⟩) 1 1) (hb : b = wr.heap.size) (hv : OwnP e wr base v L) (hlen : L.length ≤ 900000) (hbase : base ≤ wr.heap.size)
  (h : ∀ ad n cap w', Hid (n = L.length + 1) → OwnP e w' base (.slice ad n cap) (L ++ [p]) → KeepBut (fun q => v.ownBlock = some q) wr w' → (∀ g, (Value.slice ad n cap).ownBlock = some g → v.ownBlock = some g ∨ wr.heap.size ≤ g) → wpList Try.prog ops Q rest (a.put o.dst (.slice ad n cap)) w') : wpList Try.prog ops Q (o :: rest) a (wr.alloc (.cells C e)) := by
 subst hC hb
 have he : Ext wr (wr.alloc (.cells #[.int .i64 p.1, .int .i64 p.2] e)) := Ext.alloc _ _
 refine wl_appP hT hgd ho hs hx (hv.ext he) (pairs_one wr p e) (by simp; omega) (Nat.le_trans hbase he.size) ?_
 intro ad n cap w' hn ho' hk hg
 exact h ad n cap w' (show _ = _ by rw [hn.out]; simp) ho' ((KeepBut.ext he).trans hk) (fun g hgg => (hg g hgg).imp id (fun e => by rw [e]; exact he.size))
theorem own_apart {w : World} {base base' e e' n n' size size' : Nat} {v v' : Value} {xs xs' : List Value} (h : w.ownsRow base e size v n xs) (h' : w.ownsRow base' e' size' v' n' xs') (he : e ≠ e') : ∀ k, v.ownBlock = some k → ¬ v'.ownBlock = some k := by
 intro k h1 h2
 rcases h'.2 with ⟨rfl, _⟩ | ⟨g', cap, cur, rfl, _, hg, _⟩
 ·
  cases h2
 ·
  simp only [Value.ownBlock, Option.some.injEq] at h2
  subst h2
  exact ownsRow_ne h (show Blk w _ cur e' from hg) he.symm _ h1 rfl
theorem take_snocP {L : List (Int × Int)} {k : Nat} (h : k < L.length) : L.take (k + 1) = L.take k ++ [L.getD k (0, 0)] := take_snocD (0, 0) h
theorem zeroD : (Try.prog.info? 32).bind (·.zero) = some (.agg (CV (ck0 0) sv0)) := by kernel_rfl
theorem wl_buildC {w : World} {ops : Array Oper} {rest : List Oper} {o : Oper} {a : Act} {Q : Exit → Act → World → Prop} (hgd : o.guard = none) {t : TypeId} {parts : Array (Nat × Operand)} {vals : List (Nat × Value)} {cells : Array Value} (ho : o.op = .build t parts)
  (hv : (parts.map fun (i, x) => (i, a.eval x)).toList = vals) (hc : Try.prog.built t vals = some cells) (h : wpList Try.prog ops Q rest (a.put o.dst (.agg cells)) w) : wpList Try.prog ops Q (o :: rest) a w := by
 refine wpList_of_run hgd (v := .agg cells) ?_ h
 have := run_build (P := Try.prog) w t (parts.map fun (i, x) => (i, a.eval x)) cells (by rw [hv]; exact hc)
 simp [execOp, ho, this]
theorem builtD (c : Ck) (s : Sv) : Try.prog.built 32 [(0, .int .i64 c.kind), (1, .agg (PV c s)), (2, .int .u32 (c.tag : Int)), (3, .int .i64 c.win), (4, .int .i64 c.out), (5, .int .i64 c.inn), (6, .int .u32 (c.tsn : Int)), (7, .slice s.rA s.rN s.rC), (8, .slice s.aA s.aN s.aC), (9, .slice s.iA s.iN s.iC), (11, .slice s.dA s.dN s.dC), (12, .int .i64 c.cause), (13, .int .u32 (c.serial : Int)), (15, .bool c.ok)] = some (CV c { s with gA := none, gN := 0, gC := 0, oA := none, oN := 0, oC := 0 }) := by kernel_rfl
def LikeIs (w : World) (c : Ck) (e : Ending) (w' : World) : Prop := ∃ s, e = .returned (.agg (CV c s)) ∧ CkAt w' s c ∧ Ext w w'
theorem document_any {w : World} {c : Ck} {s : Sv} (ha : CkAt w s c) (hs : Small c) :
  Calls Try.prog 14 #[.agg (CV c s)] w (LikeIs w c) := by
 have HA : Hid (CkAt w s c ∧ Small c) := ⟨ha, hs⟩
 have hgN : s.gN = c.gaps.length := (PairsAt.len ha.g).1
 have hoN : Hid (s.oN = c.ops.length) := (PairsAt.len ha.o).1
 clear ha hs
 go_enter Try.func14, Try.ntmps14
 refine wp_seq_k (fun K hK => ?_)
 have HK := Stop.mk hK
 clear hK
 go_wp2_with (first
  | (have q := hb1; clear q; refine wl_alloc rfl rfl zeroD ?_; intro w2 hb2 he2 hx; clear hx; have HQ1 : Hid (w.heap.size < w1.heap.size) := hb1.lt; replace hb1 := hb1.ext he2; have HE2 : Hid (Ext w w2) := he1.trans he2; clear he1 he2)
  | (refine wl_box (C := CV c s) rfl rfl rfl ?_; intro w1 hb1 he1 hx; clear hx))
 refine HK.go _ _ ?_
 refine wp_seq_k (fun K2 hK2 => ?_)
 have HK2 := Stop.mk hK2
 clear hK2
 refine wp_region_lit ?_
 refine wpList_of_run (v := .pointer (some ⟨w.heap.size, 0, none⟩)) (w' := w2) rfl (by first | rfl | simp [execOp, go_sem]) ?_
 simp only [Act.put, List.setIfInBounds_toArray, List.set_cons_succ, List.set_cons_zero]
 refine wpList_of_run rfl (exg one3 rfl rfl (cv0 hb1)) ?_
 simp only [Act.put, List.setIfInBounds_toArray, List.set_cons_succ, List.set_cons_zero]
 refine wpList_of_run (v := .pointer (some ⟨w.heap.size, 1, none⟩)) (w' := w2) rfl (by first | rfl | simp [execOp, go_sem]) ?_
 simp only [Act.put, List.setIfInBounds_toArray, List.set_cons_succ, List.set_cons_zero]
 refine wpList_of_run (v := .agg (PV c s)) rfl (exec_load rowPc rfl rfl hb1 (PV c s).toList (CV.piece c s) rfl) ?_
 simp only [Act.put, List.setIfInBounds_toArray, List.set_cons_succ, List.set_cons_zero]
 refine wpList_of_run (v := .pointer (some ⟨w.heap.size, 8, none⟩)) (w' := w2) rfl (by first | rfl | simp [execOp, go_sem]) ?_
 simp only [Act.put, List.setIfInBounds_toArray, List.set_cons_succ, List.set_cons_zero]
 refine wpList_of_run rfl (exg one22 rfl rfl (cv8 hb1)) ?_
 simp only [Act.put, List.setIfInBounds_toArray, List.set_cons_succ, List.set_cons_zero]
 refine wpList_of_run (v := .pointer (some ⟨w.heap.size, 9, none⟩)) (w' := w2) rfl (by first | rfl | simp [execOp, go_sem]) ?_
 simp only [Act.put, List.setIfInBounds_toArray, List.set_cons_succ, List.set_cons_zero]
 refine wpList_of_run rfl (exg one3 rfl rfl (cv9 hb1)) ?_
 simp only [Act.put, List.setIfInBounds_toArray, List.set_cons_succ, List.set_cons_zero]
 refine wpList_of_run (v := .pointer (some ⟨w.heap.size, 10, none⟩)) (w' := w2) rfl (by first | rfl | simp [execOp, go_sem]) ?_
 simp only [Act.put, List.setIfInBounds_toArray, List.set_cons_succ, List.set_cons_zero]
 refine wpList_of_run rfl (exg one3 rfl rfl (cv10 hb1)) ?_
 simp only [Act.put, List.setIfInBounds_toArray, List.set_cons_succ, List.set_cons_zero]
 refine wpList_of_run (v := .pointer (some ⟨w.heap.size, 11, none⟩)) (w' := w2) rfl (by first | rfl | simp [execOp, go_sem]) ?_
 simp only [Act.put, List.setIfInBounds_toArray, List.set_cons_succ, List.set_cons_zero]
 refine wpList_of_run rfl (exg one3 rfl rfl (cv11 hb1)) ?_
 simp only [Act.put, List.setIfInBounds_toArray, List.set_cons_succ, List.set_cons_zero]
 refine wpList_of_run (v := .pointer (some ⟨w.heap.size, 12, none⟩)) (w' := w2) rfl (by first | rfl | simp [execOp, go_sem]) ?_
 simp only [Act.put, List.setIfInBounds_toArray, List.set_cons_succ, List.set_cons_zero]
 refine wpList_of_run rfl (exg one22 rfl rfl (cv12 hb1)) ?_
 simp only [Act.put, List.setIfInBounds_toArray, List.set_cons_succ, List.set_cons_zero]
 refine wpList_of_run (v := .pointer (some ⟨w.heap.size, 13, none⟩)) (w' := w2) rfl (by first | rfl | simp [execOp, go_sem]) ?_
 simp only [Act.put, List.setIfInBounds_toArray, List.set_cons_succ, List.set_cons_zero]
 refine wpList_of_run rfl (exg oneS rfl rfl (cv13 hb1)) ?_
 simp only [Act.put, List.setIfInBounds_toArray, List.set_cons_succ, List.set_cons_zero]
 refine wpList_of_run (v := .pointer (some ⟨w.heap.size, 14, none⟩)) (w' := w2) rfl (by first | rfl | simp [execOp, go_sem]) ?_
 simp only [Act.put, List.setIfInBounds_toArray, List.set_cons_succ, List.set_cons_zero]
 refine wpList_of_run rfl (exg oneSA rfl rfl (cv14 hb1)) ?_
 simp only [Act.put, List.setIfInBounds_toArray, List.set_cons_succ, List.set_cons_zero]
 refine wpList_of_run (v := .pointer (some ⟨w.heap.size, 15, none⟩)) (w' := w2) rfl (by first | rfl | simp [execOp, go_sem]) ?_
 simp only [Act.put, List.setIfInBounds_toArray, List.set_cons_succ, List.set_cons_zero]
 refine wpList_of_run rfl (exg oneS rfl rfl (cv15 hb1)) ?_
 simp only [Act.put, List.setIfInBounds_toArray, List.set_cons_succ, List.set_cons_zero]
 refine wpList_of_run (v := .pointer (some ⟨w.heap.size, 17, none⟩)) (w' := w2) rfl (by first | rfl | simp [execOp, go_sem]) ?_
 simp only [Act.put, List.setIfInBounds_toArray, List.set_cons_succ, List.set_cons_zero]
 refine wpList_of_run rfl (exg oneSD rfl rfl (cv17 hb1)) ?_
 simp only [Act.put, List.setIfInBounds_toArray, List.set_cons_succ, List.set_cons_zero]
 refine wpList_of_run (v := .pointer (some ⟨w.heap.size, 18, none⟩)) (w' := w2) rfl (by first | rfl | simp [execOp, go_sem]) ?_
 simp only [Act.put, List.setIfInBounds_toArray, List.set_cons_succ, List.set_cons_zero]
 refine wpList_of_run rfl (exg one3 rfl rfl (cv18 hb1)) ?_
 simp only [Act.put, List.setIfInBounds_toArray, List.set_cons_succ, List.set_cons_zero]
 refine wpList_of_run (v := .pointer (some ⟨w.heap.size, 19, none⟩)) (w' := w2) rfl (by first | rfl | simp [execOp, go_sem]) ?_
 simp only [Act.put, List.setIfInBounds_toArray, List.set_cons_succ, List.set_cons_zero]
 refine wpList_of_run rfl (exg one22 rfl rfl (cv19 hb1)) ?_
 simp only [Act.put, List.setIfInBounds_toArray, List.set_cons_succ, List.set_cons_zero]
 refine wpList_of_run (v := .pointer (some ⟨w.heap.size, 21, none⟩)) (w' := w2) rfl (by first | rfl | simp [execOp, go_sem]) ?_
 simp only [Act.put, List.setIfInBounds_toArray, List.set_cons_succ, List.set_cons_zero]
 refine wpList_of_run rfl (exg one4 rfl rfl (cv21 hb1)) ?_
 simp only [Act.put, List.setIfInBounds_toArray, List.set_cons_succ, List.set_cons_zero]
 refine wl_buildC rfl rfl ?hv (builtD c s) ?hk
 case hv => first | kernel_rfl | (simp only [List.map_toArray, List.map_cons, List.map_nil]; rfl)
 simp only [Act.put, List.setIfInBounds_toArray, List.set_cons_succ, List.set_cons_zero]
 refine wl_alloc rfl rfl zeroD ?_
 intro w3 hb3 he3 hx
 clear hx
 have HW : Hid (w.heap.size < w2.heap.size) := hb1.lt
 have HQ2 : Hid (w1.heap.size < w2.heap.size) := hb2.lt
 replace hb1 := hb1.ext he3
 replace hb2 := hb2.ext he3
 have HE3 : Hid (Ext w w3) := HE2.out.trans he3
 clear he3
 refine wl_store (D := CV c { s with gA := none, gN := 0, gC := 0, oA := none, oN := 0, oC := 0 }) rfl rowC2 rfl rfl rfl hb3 rfl rfl (CV.one _ _) ?_
 intro w4 hb4 hk4 hx4
 clear hx4
 simp only [Act.put]
 go_wp2
 refine HK2.go _ _ ?_
 have HG3 : Hid (w.heap.size ≤ w2.heap.size) := Nat.le_of_lt HW.out
 have HG2 : Hid (w1.heap.size < w2.heap.size ∧ w.heap.size < w1.heap.size) := ⟨HQ2.out, HQ1.out⟩
 have HS : Hid (Blk w4 w2.heap.size (CV c { s with gA := none, gN := 0, gC := 0, oA := none, oN := 0, oC := 0 }) 32 ∧ Ext w w4 ∧ Blk w4 w.heap.size (CV c s) 38 ∧ Blk w4 w1.heap.size (CV (ck0 0) sv0) 32) := ⟨hb4, HE3.out.of_but hk4 (fun g e => by subst e; exact HG3.out), hb1.but hk4 (Nat.ne_of_lt HW.out), hb2.but hk4 (Nat.ne_of_lt HQ2.out)⟩
 clear hb1 hb2 hb3 hb4 hk4
 have g16 := cv16 HS.out.2.2.1
 obtain ⟨N, hN⟩ : ∃ N, N = c.gaps.length := ⟨_, rfl⟩
 rw [hgN, ← hN] at g16
 have HNg : Hid (N = c.gaps.length) := hN
 have hn3 : N ≤ 3000 := by rw [hN]; exact HA.out.2.gaps
 have HSmg : Hid (c.gaps.length ≤ 3000) := HA.out.2.gaps
 have HSmo : Hid (c.ops.length ≤ 3000) := HA.out.2.ops
 have HAt : Hid (PairsAt w (.slice s.gA N s.gC) c.gaps) := show PairsAt _ _ _ by rw [hN, ← hgN]; exact HA.out.1.g
 clear hN hgN
 obtain ⟨aA, haA⟩ : ∃ x, x = s.gA := ⟨_, rfl⟩
 rw [← haA] at HAt
 go_wp2
 rw [← haA]
 clear g16 haA
 go_loopg [40] N (fun gm t wr => ∃ (k : Nat) (ga : Option Addr) (gn gc : Nat), k ≤ N ∧ gm = N - k ∧ t = .int .i64 (k : Int) ∧ Hid (OwnP 70 wr w.heap.size (.slice ga gn gc) (c.gaps.take k) ∧ Blk wr w2.heap.size (CV c { s with gA := ga, gN := gn, gC := gc, oA := none, oN := 0, oC := 0 }) 32 ∧ Ext w wr ∧ Blk wr w.heap.size (CV c s) 38 ∧ Blk wr w1.heap.size (CV (ck0 0) sv0) 32))
 case atStart => exact ⟨0, none, 0, 0, Nat.zero_le _, rfl, rfl, by rw [List.take_zero]; exact OwnP.nil _ _ _, HS.out.1, HS.out.2.1, HS.out.2.2⟩
 case round =>
  obtain ⟨k, ga, gn, gc, hk, rfl, rfl, HR⟩ := hrel
  by_cases hlt : k < N
  ·
   have hd : decide ((k : Int) < (N : Int)) = true := decide_eq_true (by omega)
   have hkL : k < c.gaps.length := by rw [← HNg.out]; exact hlt
   have hkn : (k : Int) < (N : Int) := by omega
   obtain ⟨b, off, rfl, hc0, hc1⟩ := HAt.out.cellAt k hkL
   replace hc0 := HR.out.2.2.1.cell hc0
   replace hc1 := HR.out.2.2.1.cell hc1
   have HL : Hid (c.gaps.take (k + 1) = c.gaps.take k ++ [c.gaps.getD k (0, 0)] ∧ (c.gaps.take k).length ≤ 3000 ∧ (c.gaps.take k).length = k) := ⟨take_snocP hkL, by rw [List.length_take]; have := HSmg.out; omega, by rw [List.length_take]; omega⟩
   obtain ⟨q, hq⟩ : ∃ q, q = c.gaps.getD k (0, 0) := ⟨_, rfl⟩
   rw [← hq] at hc0 hc1 HL
   clear hq hkL
   go_wp2_with (first
    | (refine wl_loadP rfl rowGp rfl rfl hc0 hc1 ?_)
    | (refine wl_alloc rfl rfl zeroGp ?_; intro w6 hb6 he6 hx; clear hx)
    | (refine wl_store (D := #[.int .i64 q.1, .int .i64 q.2]) rfl rowGp rfl rfl rfl hb6 rfl rfl (one_pair _ _) ?_; intro w7 hb7 hk7 hx; clear hx; have hO7 := (HR.out.1.ext he6).but hk7 (ownsRow_ne (HR.out.1.ext he6).1 hb6 (by decide)); have hB7 := (HR.out.2.1.ext he6).but hk7 (Nat.ne_of_lt HR.out.2.1.lt); have HE7 : Hid (Ext w w7) := (HR.out.2.2.1.trans he6).of_but hk7 (fun g e => by subst e; exact HR.out.2.2.1.size); have x70 := ((HR.out.2.2.2.1).ext he6).but hk7 (Nat.ne_of_lt (HR.out.2.2.2.1).lt); have x71 := ((HR.out.2.2.2.2).ext he6).but hk7 (Nat.ne_of_lt (HR.out.2.2.2.2).lt); clear hk7 hb6; have d7 := cv16 hB7)
    | (refine wl_load rfl rowGp rfl rfl hb7 rfl ?_)
    | (at_builtin; refine wl_pushPr prG2 (L := c.gaps.take k) (p := q) (v := .slice ga gn gc) (base := w.heap.size) rfl rfl rfl rfl rfl rfl hO7 (by have := HL.out.2.1; omega) HE7.out.size ?_; intro ad n8 cap w8 hn8 ho8 hk8 hg8; clear hg8; have hB8 := hB7.but hk8 (fun e => ownsRow_ne hO7.1 hB7 (by decide) _ e rfl); have HE8 : Hid (Ext w w8) := HE7.out.of_but hk8 (fun g e => (hO7.lt e).1); have x80 := (x70).but hk8 (fun e => ownsRow_ne hO7.1 (x70) (by decide) _ e rfl); have x81 := (x71).but hk8 (fun e => ownsRow_ne hO7.1 (x71) (by decide) _ e rfl); clear hk8 d7 hb7)
    | (refine wl_set (v := .slice ad n8 cap) rfl oneSG2 rfl rfl rfl rfl rfl hB8 (of_decide_eq_true rfl) ?_; intro w9 hbx hk9 hx9; clear hx9; have hB9 : Blk w9 w2.heap.size (CV c { s with gA := ad, gN := n8, gC := cap, oA := none, oN := 0, oC := 0 }) 32 := hbx; have hO9 := ho8.but hk9 (ownsRow_ne ho8.1 hB8 (by decide)); have HE9 : Hid (Ext w w9) := HE8.out.of_but hk9 (fun g e => by subst e; exact HG3.out); have x90 := (x80).but hk9 (Nat.ne_of_lt HW.out); have x91 := (x81).but hk9 (Nat.ne_of_lt HQ2.out); clear hbx hk9))
   rw [← HL.out.1] at hO9
   go_roundg (N - (k + 1))
   case measure => omega
   case rel => exact ⟨k + 1, ad, n8, cap, by omega, rfl, by simp, hO9, hB9, HE9.out, x90, x91⟩
  ·
   have hd : decide ((k : Int) < (N : Int)) = false := decide_eq_false (by omega)
   have hke : c.gaps.take k = c.gaps := List.take_of_length_le (by rw [← HNg.out]; omega)
   rw [hke] at HR
   clear hke
   have g20 := cv20 HR.out.2.2.2.1
   obtain ⟨M, hM⟩ : ∃ M, M = c.ops.length := ⟨_, rfl⟩
   rw [hoN.out, ← hM] at g20
   have HNo : Hid (M = c.ops.length) := hM
   have hm3 : M ≤ 3000 := by rw [hM]; exact HA.out.2.ops
   have HBt : Hid (PairsAt w (.slice s.oA M s.oC) c.ops) := show PairsAt _ _ _ by rw [hM, ← hoN.out]; exact HA.out.1.o
   obtain ⟨bA, hbA⟩ : ∃ x, x = s.oA := ⟨_, rfl⟩
   rw [← hbA] at HBt
   clear hM
   go_wp2
   rw [← hbA]
   clear g20 hbA hd hlt hk
   have HS : Hid (Blk wr w2.heap.size (CV c { s with gA := ga, gN := gn, gC := gc, oA := none, oN := 0, oC := 0 }) 32 ∧ Ext w wr ∧ Blk wr w.heap.size (CV c s) 38 ∧ Blk wr w1.heap.size (CV (ck0 0) sv0) 32 ∧ OwnP 70 wr w.heap.size (.slice ga gn gc) c.gaps) := ⟨HR.out.2.1, HR.out.2.2.1, HR.out.2.2.2.1, HR.out.2.2.2.2, HR.out.1⟩
   clear HR
   go_loopg [54] M (fun gm t wr => ∃ (k : Nat) (oa : Option Addr) (on oc : Nat), k ≤ M ∧ gm = M - k ∧ t = .int .i64 (k : Int) ∧ Hid (OwnP 71 wr w.heap.size (.slice oa on oc) (c.ops.take k) ∧ Blk wr w2.heap.size (CV c { s with gA := ga, gN := gn, gC := gc, oA := oa, oN := on, oC := oc }) 32 ∧ Ext w wr ∧ Blk wr w.heap.size (CV c s) 38 ∧ Blk wr w1.heap.size (CV (ck0 0) sv0) 32 ∧ OwnP 70 wr w.heap.size (.slice ga gn gc) c.gaps))
   case atStart => exact ⟨0, none, 0, 0, Nat.zero_le _, rfl, rfl, by rw [List.take_zero]; exact OwnP.nil _ _ _, HS.out.1, HS.out.2.1, HS.out.2.2⟩
   case round =>
    obtain ⟨k, oa, on, oc, hk, rfl, rfl, HR⟩ := hrel
    by_cases hlt : k < M
    ·
     have hd : decide ((k : Int) < (M : Int)) = true := decide_eq_true (by omega)
     have hkL : k < c.ops.length := by rw [← HNo.out]; exact hlt
     have hkn : (k : Int) < (M : Int) := by omega
     obtain ⟨b, off, rfl, hc0, hc1⟩ := HBt.out.cellAt k hkL
     replace hc0 := HR.out.2.2.1.cell hc0
     replace hc1 := HR.out.2.2.1.cell hc1
     have HL : Hid (c.ops.take (k + 1) = c.ops.take k ++ [c.ops.getD k (0, 0)] ∧ (c.ops.take k).length ≤ 3000 ∧ (c.ops.take k).length = k) := ⟨take_snocP hkL, by rw [List.length_take]; have := HSmo.out; omega, by rw [List.length_take]; omega⟩
     obtain ⟨q, hq⟩ : ∃ q, q = c.ops.getD k (0, 0) := ⟨_, rfl⟩
     rw [← hq] at hc0 hc1 HL
     clear hq hkL
     go_wp2_with (first
      | (refine wl_loadP rfl rowOp rfl rfl hc0 hc1 ?_)
      | (refine wl_alloc rfl rfl zeroOp ?_; intro w6 hb6 he6 hx; clear hx)
      | (refine wl_store (D := #[.int .i64 q.1, .int .i64 q.2]) rfl rowOp rfl rfl rfl hb6 rfl rfl (one_pair _ _) ?_; intro w7 hb7 hk7 hx; clear hx; have hO7 := (HR.out.1.ext he6).but hk7 (ownsRow_ne (HR.out.1.ext he6).1 hb6 (by decide)); have hB7 := (HR.out.2.1.ext he6).but hk7 (Nat.ne_of_lt HR.out.2.1.lt); have HE7 : Hid (Ext w w7) := (HR.out.2.2.1.trans he6).of_but hk7 (fun g e => by subst e; exact HR.out.2.2.1.size); have x70 := ((HR.out.2.2.2.1).ext he6).but hk7 (Nat.ne_of_lt (HR.out.2.2.2.1).lt); have x71 := ((HR.out.2.2.2.2.1).ext he6).but hk7 (Nat.ne_of_lt (HR.out.2.2.2.2.1).lt); have x72 := ((HR.out.2.2.2.2.2).ext he6).but hk7 (ownsRow_ne ((HR.out.2.2.2.2.2).ext he6).1 hb6 (by decide)); clear hk7 hb6; have d7 := cv20 hB7)
      | (refine wl_load rfl rowOp rfl rfl hb7 rfl ?_)
      | (at_builtin; refine wl_pushPr prO2 (L := c.ops.take k) (p := q) (v := .slice oa on oc) (base := w.heap.size) rfl rfl rfl rfl rfl rfl hO7 (by have := HL.out.2.1; omega) HE7.out.size ?_; intro ad n8 cap w8 hn8 ho8 hk8 hg8; clear hg8; have hB8 := hB7.but hk8 (fun e => ownsRow_ne hO7.1 hB7 (by decide) _ e rfl); have HE8 : Hid (Ext w w8) := HE7.out.of_but hk8 (fun g e => (hO7.lt e).1); have x80 := (x70).but hk8 (fun e => ownsRow_ne hO7.1 (x70) (by decide) _ e rfl); have x81 := (x71).but hk8 (fun e => ownsRow_ne hO7.1 (x71) (by decide) _ e rfl); have x82 := (x72).but hk8 (fun k e1 e2 => own_apart (x72).1 hO7.1 (by decide) k e1 e2); clear hk8 d7 hb7)
      | (refine wl_set (v := .slice ad n8 cap) rfl oneSO2 rfl rfl rfl rfl rfl hB8 (of_decide_eq_true rfl) ?_; intro w9 hbx hk9 hx9; clear hx9; have hB9 : Blk w9 w2.heap.size (CV c { s with gA := ga, gN := gn, gC := gc, oA := ad, oN := n8, oC := cap }) 32 := hbx; have hO9 := ho8.but hk9 (ownsRow_ne ho8.1 hB8 (by decide)); have HE9 : Hid (Ext w w9) := HE8.out.of_but hk9 (fun g e => by subst e; exact HG3.out); have x90 := (x80).but hk9 (Nat.ne_of_lt HW.out); have x91 := (x81).but hk9 (Nat.ne_of_lt HQ2.out); have x92 := (x82).but hk9 (ownsRow_ne (x82).1 hB8 (by decide)); clear hbx hk9))
     rw [← HL.out.1] at hO9
     go_roundg (M - (k + 1))
     case measure => omega
     case rel => exact ⟨k + 1, ad, n8, cap, by omega, rfl, by simp, hO9, hB9, HE9.out, x90, x91, x92⟩
    ·
     have hd : decide ((k : Int) < (M : Int)) = false := decide_eq_false (by omega)
     have hke : c.ops.take k = c.ops := List.take_of_length_le (by rw [← HNo.out]; omega)
     rw [hke] at HR
     clear hke
     go_wp2_with (first
      | (refine wl_load rfl rowC2 rfl rfl HR.out.2.1 rfl ?_)
      | (refine wl_store (D := CV c { s with gA := ga, gN := gn, gC := gc, oA := oa, oN := on, oC := oc }) rfl rowC2 rfl rfl rfl HR.out.2.2.2.2.1 rfl rfl (CV.one _ _) ?_; intro w9 hb9 hk9 hx9; clear hx9))
     refine bodyPost_ret (results_cell_row (fn := Try.f14) (p := 2) rfl _ w9 _ _ _ (0, 0) _ rfl hb9 Try.underlying32 rfl (by kernel_rfl)) rfl ?_
     have hE : Ext w w9 := HR.out.2.2.1.of_but hk9 (fun g e => by subst e; exact Nat.le_of_lt HG2.out.2)
     exact ⟨_, rfl, ⟨HA.out.1.t.ext hE, HA.out.1.r.ext hE, HA.out.1.a.ext hE, HA.out.1.i.ext hE, (HR.out.2.2.2.2.2.but hk9 (ownsRow_ne HR.out.2.2.2.2.2.1 HR.out.2.2.2.2.1 (by decide))).pairs, HA.out.1.d.ext hE, (HR.out.1.but hk9 (ownsRow_ne HR.out.1.1 HR.out.2.2.2.2.1 (by decide))).pairs⟩, hE⟩
theorem be_fold (n k : Nat) : ∀ a : Nat, (be n k).foldl (fun a b => 256 * a + b) a = a * 256 ^ k + n % 256 ^ k := by
 induction k with
 | zero => intro a; simp [be, Nat.mod_one]
 | succ k ih =>
  intro a
  rw [be, List.foldl_cons, ih, Nat.mod_pow_succ, Nat.pow_succ]
  generalize n / 256 ^ k % 256 = x
  generalize n % 256 ^ k = y
  generalize 256 ^ k = z
  rw [Nat.add_mul, Nat.mul_comm x z, show 256 * a * z = a * (z * 256) by rw [Nat.mul_comm 256 a, Nat.mul_assoc, Nat.mul_comm 256 z]]
  omega
theorem val_be {n k : Nat} (h : n < 256 ^ k) : val (be n k) = n := by
 unfold val; rw [be_fold, Nat.mod_eq_of_lt h]; omega
theorem take_at {P Q R B : List Nat} {a : Nat} {n : Int} (hB : B = P ++ (Q ++ R)) (ha : a = P.length) (hn : n = (Q.length : Int)) : takeS B (some a) n = (some (a + Q.length), Q) := by
 subst hB ha hn
 rw [takeS_yes (by omega) (by simp; omega), Int.toNat_natCast, List.drop_left, List.take_left]
theorem numS_at {P R B : List Nat} {n k a : Nat} (hk : k = 1 ∨ k = 2 ∨ k = 4) (hn : n < 256 ^ k) (hB : B = P ++ (be n k ++ R)) (ha : a = P.length) : numS B (some a) (k : Int) = (some (a + k), n) := by
 have hs : isSz (k : Int) = true := by rcases hk with rfl | rfl | rfl <;> rfl
 unfold numS
 rw [if_pos hs, take_at hB ha (by rw [be_len]), be_len, val_be hn]
theorem num4_at {P R B : List Nat} {n a : Nat} (hn : n < 4294967296) (hB : B = P ++ (be n 4 ++ R)) (ha : a = P.length) : numS B (some a) 4 = (some (a + 4), n) := numS_at (k := 4) (.inr (.inr rfl)) hn hB ha
theorem num2_at {P R B : List Nat} {n a : Nat} (hn : n < 65536) (hB : B = P ++ (be n 2 ++ R)) (ha : a = P.length) : numS B (some a) 2 = (some (a + 2), n) := numS_at (k := 2) (.inr (.inl rfl)) hn hB ha
theorem num1_at {P R B : List Nat} {n a : Nat} (hn : n < 256) (hB : B = P ++ (be n 1 ++ R)) (ha : a = P.length) : numS B (some a) 1 = (some (a + 1), n) := numS_at (k := 1) (.inl rfl) hn hB ha
def rdRest (V : List Nat) (s : Option Nat) : List Nat := (takeS V s (leftS V s : Nat)).2
def rdRestS (V : List Nat) (s : Option Nat) : Option Nat := (takeS V s (leftS V s : Nat)).1
theorem rest_at {P R B : List Nat} {a : Nat} (hB : B = P ++ R) (ha : a = P.length) : rdRest B (some a) = R ∧ rdRestS B (some a) = some B.length := by
 have h := take_at (P := P) (Q := R) (R := []) (B := B) (a := a) (n := (leftS B (some a) : Nat)) (by rw [List.append_nil]; exact hB) ha (by subst hB ha; simp [leftS])
 unfold rdRest rdRestS
 rw [h]
 subst hB ha
 simp
theorem hd_bytes {K F : Nat} {V B : List Nat} (hB : B = padB (((be K 1 ++ be F 1) ++ be (V.length + 4) 2) ++ V)) (hK : K < 256) (hF : F < 256) (hV : V.length + 4 < 65536) : hdK B = K ∧ hdF B = F ∧ hdV B = V := by
 obtain ⟨Z, hZ⟩ : ∃ Z, padB (((be K 1 ++ be F 1) ++ be (V.length + 4) 2) ++ V) = (((be K 1 ++ be F 1) ++ be (V.length + 4) 2) ++ V) ++ Z := ⟨_, rfl⟩
 have e : B = be K 1 ++ (be F 1 ++ (be (V.length + 4) 2 ++ (V ++ Z))) := by
  rw [hB, hZ]; simp only [List.append_assoc]
 have h1 : numS B (some 0) 1 = (some 1, K) := num1_at (P := []) hK e rfl
 have h2 : numS B (some 1) 1 = (some 2, F) := num1_at (P := be K 1) hF e rfl
 have h3 : numS B (some 2) 2 = (some 4, V.length + 4) := num2_at (P := be K 1 ++ be F 1) hV (by rw [e]; simp only [List.append_assoc]; try rfl) rfl
 have k1 : hdS1 B = some 1 := by unfold hdS1; rw [h1]
 have k2 : hdS2 B = some 2 := by unfold hdS2; rw [k1, h2]
 have k3 : hdS3 B = some 4 := by unfold hdS3; rw [k2, h3]
 have kl : hdL B = V.length + 4 := by unfold hdL; rw [k2, h3]
 refine ⟨by unfold hdK; rw [h1], by unfold hdF; rw [k1, h2], ?_⟩
 unfold hdV
 have h4 : takeS B (some 4) (((V.length + 4 : Nat) : Int) - 4) = (some (4 + V.length), V) := take_at (P := (be K 1 ++ be F 1) ++ be (V.length + 4) 2) (Q := V) (R := Z) (by rw [e]; simp only [List.append_assoc]) rfl (by omega)
 rw [k3, kl, h4]
def rdPiece (F : Nat) (V : List Nat) : Ck :=
 { ck0 0 with ptsn := (numS V (some 0) 4).2, pstr := (numS V (numS V (some 0) 4).1 2).2, pseq := (numS V (numS V (numS V (some 0) 4).1 2).1 2).2, pb := decide (F / 2 % 2 = 1), pe := decide (F % 2 = 1), pu := decide (F / 4 % 2 = 1), text := rdRest V (numS V (numS V (numS V (some 0) 4).1 2).1 2).1 }
def addrV (m : List Nat) : Int := ((numS m (some 0) 4).2 : Nat)
def parK (d : Ck) (p : Par) : Ck :=
 if p.1 = 32770 then { d with rand := p.2 } else if p.1 = 5 then { d with addrs := d.addrs ++ [addrV p.2] }
 else if p.1 = 1 ∨ p.1 = 7 then { d with info := p.2 }
 else if p.1 = 49153 ∨ p.1 = 49154 ∨ p.1 = 49156 then { d with ops := d.ops ++ [(p.1 - 49152, addrV p.2)] } else d
def parsT (d : Ck) (L : List Par) : Ck := L.foldl parK d
def rdPars (d : Ck) (m : List Nat) : Ck := parsT d ((readAll m).getD [])
def gapsS (V : List Nat) (s : Option Nat) : Nat → Option Nat × List (Int × Int)
 | 0 => (s, [])
 | i + 1 => ((numS V (numS V (gapsS V s i).1 2).1 2).1, (gapsS V s i).2 ++ [((((numS V (gapsS V s i).1 2).2 : Nat) : Int), (((numS V (numS V (gapsS V s i).1 2).1 2).2 : Nat) : Int))])
def dupsS (V : List Nat) (s : Option Nat) : Nat → Option Nat × List Nat
 | 0 => (s, [])
 | i + 1 => ((numS V (dupsS V s i).1 4).1, (dupsS V s i).2 ++ [(numS V (dupsS V s i).1 4).2])
def st1 (V : List Nat) : Option Nat := (numS V (some 0) 4).1
def st2 (V : List Nat) : Option Nat := (numS V (st1 V) 4).1
def st3 (V : List Nat) : Option Nat := (numS V (st2 V) 2).1
def st4 (V : List Nat) : Option Nat := (numS V (st3 V) 2).1
def st5 (V : List Nat) : Option Nat := (numS V (st4 V) 4).1
def hdStart (k : Int) (V : List Nat) : Ck := { ck0 k with tag := (numS V (some 0) 4).2, win := ((numS V (st1 V) 4).2 : Nat), out := ((numS V (st2 V) 2).2 : Nat), inn := ((numS V (st3 V) 2).2 : Nat), tsn := (numS V (st4 V) 4).2 }
def hdSack (V : List Nat) : Ck := { ck0 3 with tsn := (numS V (some 0) 4).2, win := ((numS V (st1 V) 4).2 : Nat) }
def nGaps (V : List Nat) : Nat := min (numS V (st2 V) 2).2 (leftS V (st4 V) / 4)
def sgS (V : List Nat) : Option Nat := (gapsS V (st4 V) (nGaps V)).1
def nDups (V : List Nat) : Nat := min (numS V (st3 V) 2).2 (leftS V (sgS V) / 4)
def rdSack (V : List Nat) : Ck := { hdSack V with gaps := (gapsS V (st4 V) (nGaps V)).2, dups := (dupsS V (sgS V) (nDups V)).2 }
def rdC (k : Int) (F : Nat) (V : List Nat) : Ck :=
 if k = 0 then rdPiece F V
 else if k = 1 ∨ k = 2 then rdPars (hdStart k V) (rdRest V (st5 V))
 else if k = 3 then rdSack V
 else if k = 4 ∨ k = 5 then rdPars (ck0 k) (rdRest V (some 0))
 else if k = 6 ∨ k = 9 then { ck0 k with cause := ((numS V (some 0) 2).2 : Nat) }
 else if k = 7 then { ck0 k with tsn := (numS V (some 0) 4).2 }
 else if k = 10 ∨ k = 15 then { ck0 k with info := rdRest V (some 0) }
 else if k = 193 then rdPars { ck0 k with serial := (numS V (some 0) 4).2 } (rdRest V (st1 V))
 else if k = 128 then { ck0 k with serial := (numS V (some 0) 4).2, ok := decide ((numS V (st1 V) 4).2 = 1) }
 else ck0 k
theorem addrV_be {A : Nat} (h : A < 4294967296) : addrV (be A 4) = (A : Int) := by
 unfold addrV
 rw [num4_at (P := []) (R := []) (B := be A 4) (a := 0) h (by simp) rfl]
theorem parsT_app (d : Ck) (L M : List Par) : parsT d (L ++ M) = parsT (parsT d L) M := by simp [parsT]
theorem parsT_addrs : ∀ (A : List Int) (d : Ck), adsB A = true → parsT d (pAddrs A) = { d with addrs := d.addrs ++ A }
 | [], d, _ => by simp [parsT, pAddrs]
 | a :: A, d, h => by
  have h' : adB a = true ∧ adsB A = true := by simpa [adsB] using h
  obtain ⟨N, rfl, hN⟩ := adB_nat h'.1
  have e : parK d (5, be (N : Int).toNat 4) = { d with addrs := d.addrs ++ [(N : Int)] } := by
   simp only [parK, Int.toNat_natCast, addrV_be (show N < 4294967296 by omega)]
   rw [if_neg (by decide), if_pos True.intro]
  have := parsT_addrs A { d with addrs := d.addrs ++ [(N : Int)] } h'.2
  unfold parsT pAddrs at *
  rw [List.map_cons, List.foldl_cons, e, this]
  simp
theorem parsT_ops : ∀ (O : List (Int × Int)) (d : Ck), opsB O = true → parsT d (pOps O) = { d with ops := d.ops ++ O }
 | [], d, _ => by simp [parsT, pOps]
 | p :: O, d, h => by
  have h' : opB p = true ∧ opsB O = true := by simpa [opsB] using h
  obtain ⟨_, N, hp, hN⟩ := opB_at h'.1
  have hk : p.1 = 1 ∨ p.1 = 2 ∨ p.1 = 4 := by have := h'.1; simp [opB, opK] at this; omega
  obtain ⟨k, y⟩ := p
  dsimp only at hp hk
  subst hp
  have e : parK d (49152 + k, be (N : Int).toNat 4) = { d with ops := d.ops ++ [(k, (N : Int))] } := by
   simp only [parK, Int.toNat_natCast, addrV_be (show N < 4294967296 by omega)]
   rw [if_neg (by omega), if_neg (by omega), if_neg (by omega), if_pos (by omega)]
   rw [show 49152 + k - 49152 = k by omega]
  have := parsT_ops O { d with ops := d.ops ++ [(k, (N : Int))] } h'.2
  unfold parsT pOps at *
  rw [List.map_cons, List.foldl_cons, e, this]
  simp
theorem num2_0 {R B : List Nat} {n : Nat} (hn : n < 65536) (hB : B = be n 2 ++ R) : numS B (some 0) 2 = (some 2, n) := num2_at (P := []) (a := 0) hn hB rfl
theorem num4_0 {R B : List Nat} {n : Nat} (hn : n < 4294967296) (hB : B = be n 4 ++ R) : numS B (some 0) 4 = (some 4, n) := num4_at (P := []) (a := 0) hn hB rfl
theorem rest_0 (B : List Nat) : rdRest B (some 0) = B := (rest_at (P := []) (R := B) (B := B) (a := 0) rfl rfl).1
theorem gapV_app (L M : List (Int × Int)) : gapV (L ++ M) = gapV L ++ gapV M := by simp [gapV]
theorem dupV_app (L M : List Nat) : dupV (L ++ M) = dupV L ++ dupV M := by simp [dupV]
theorem leftS_at {P R B : List Nat} {a : Nat} (hB : B = P ++ R) (ha : a = P.length) : leftS B (some a) = R.length := by
 subst hB ha; simp [leftS]
theorem rd_0 {c : Ck} (h : GoodC c) (hf : Fit c) (hk : c.kind = 0) : rdPiece (flagN c.pb c.pe c.pu) (valB c) = c := by
 have hu := h.use
 rw [usedC_0 hk] at hu
 have hV : valB c = be c.ptsn 4 ++ (be c.pstr 2 ++ (be c.pseq 2 ++ c.text)) := by simp [valB, hk]
 have n1 : numS (valB c) (some 0) 4 = (some 4, c.ptsn) := num4_at (P := []) hf.ptsn hV rfl
 have n2 : numS (valB c) (some 4) 2 = (some 6, c.pstr) := num2_at (P := be c.ptsn 4) hf.pstr hV rfl
 have n3 : numS (valB c) (some 6) 2 = (some 8, c.pseq) := num2_at (P := be c.ptsn 4 ++ be c.pstr 2) hf.pseq (by rw [hV]; simp only [List.append_assoc]; try rfl) rfl
 have n4 := (rest_at (P := be c.ptsn 4 ++ (be c.pstr 2 ++ be c.pseq 2)) (R := c.text) (B := valB c) (a := 8) (by rw [hV]; simp only [List.append_assoc]; try rfl) rfl).1
 have f1 : decide (flagN c.pb c.pe c.pu / 2 % 2 = 1) = c.pb := by cases c.pb <;> cases c.pe <;> cases c.pu <;> rfl
 have f2 : decide (flagN c.pb c.pe c.pu % 2 = 1) = c.pe := by cases c.pb <;> cases c.pe <;> cases c.pu <;> rfl
 have f3 : decide (flagN c.pb c.pe c.pu / 4 % 2 = 1) = c.pu := by cases c.pb <;> cases c.pe <;> cases c.pu <;> rfl
 unfold rdPiece
 rw [n1]; dsimp only
 rw [n2]; dsimp only
 rw [n3]; dsimp only
 rw [n4, f1, f2, f3]
 exact hu.symm
theorem nat_of {x : Int} {m : Nat} (h : 0 ≤ x ∧ x ≤ (m : Int)) : ((x.toNat : Nat) : Int) = x ∧ x.toNat ≤ m := by omega
theorem goodPar {k : Int} {m : List Nat} (h : 0 ≤ k ∧ k ≤ 65535) (hm : m.length ≤ 4000) : goodP (k, m) = true := (goodP_iff _).2 ⟨h.1, h.2, hm⟩
theorem pAddrs_good (A : List Int) : ∀ p ∈ pAddrs A, goodP p = true := by
 intro p hp
 simp [pAddrs] at hp
 obtain ⟨a, _, rfl⟩ := hp
 exact goodPar (by decide) (by rw [be_len]; decide)
theorem pOps_good {O : List (Int × Int)} (h : opsB O = true) : ∀ p ∈ pOps O, goodP p = true := by
 intro p hp
 simp only [pOps, List.mem_map] at hp
 obtain ⟨a, ha, rfl⟩ := hp
 have := (opB_at (List.all_eq_true.1 h a ha)).1
 exact goodPar (by omega) (by rw [be_len]; decide)
def startP (c : Ck) : List Par := (32770, c.rand) :: (pAddrs c.addrs ++ if c.kind = 2 then [(7, c.info)] else [])
theorem startP_write (c : Ck) : parB (32770, c.rand) ++ (writeB (pAddrs c.addrs) ++ if c.kind = 2 then parB (7, c.info) else []) = writeB (startP c) := by
 unfold startP
 rw [writeB_cons]
 congr 1
 have : ∀ L M : List Par, writeB (L ++ M) = writeB L ++ writeB M := by intro L M; simp [writeB]
 rw [this]
 congr 1
 split
 ·
  simp [writeB]
 ·
  simp [writeB]
theorem startP_good {c : Ck} (h1 : c.rand.length ≤ 64) (h2 : c.kind = 2 → c.info.length ≤ 300) : ∀ p ∈ startP c, goodP p = true := by
 intro p hp
 unfold startP at hp
 simp only [List.mem_cons, List.mem_append] at hp
 rcases hp with rfl | hp | hp
 ·
  exact goodPar (by decide) (by omega)
 ·
  exact pAddrs_good _ p hp
 ·
  split at hp
  ·
   rename_i hk
   simp only [List.mem_singleton] at hp
   subst hp
   exact goodPar (by decide) (by have := h2 hk; omega)
  ·
   cases hp
theorem rdPars_write {d : Ck} {L : List Par} (h : ∀ p ∈ L, goodP p = true) : rdPars d (writeB L) = parsT d L := by
 unfold rdPars; rw [readAll_write L h]; rfl
theorem start_at {c : Ck} {k : Int} (hs : StartC c) (hf : Fit c) (hV : valB c = startV c) :
  hdStart k (valB c) = { ck0 k with tag := c.tag, win := c.win, out := c.out, inn := c.inn, tsn := c.tsn } ∧ rdRest (valB c) (st5 (valB c)) = writeB (startP c) := by
 have w := nat_of (m := 2147483647) hs.win
 have o := nat_of (x := c.out) (m := 8) (by have := hs.out; omega)
 have i := nat_of (x := c.inn) (m := 8) (by have := hs.inn; omega)
 have e : valB c = be c.tag 4 ++ (be c.win.toNat 4 ++ (be c.out.toNat 2 ++ (be c.inn.toNat 2 ++ (be c.tsn 4 ++ writeB (startP c))))) := by rw [hV, startV, startP_write]
 have n1 : numS (valB c) (some 0) 4 = (some 4, c.tag) := num4_at (P := []) hf.tag e rfl
 have n2 : numS (valB c) (some 4) 4 = (some 8, c.win.toNat) := num4_at (P := be c.tag 4) (by omega) e rfl
 have n3 : numS (valB c) (some 8) 2 = (some 10, c.out.toNat) := num2_at (P := be c.tag 4 ++ be c.win.toNat 4) (by omega) (by rw [e]; simp only [List.append_assoc]; try rfl) rfl
 have n4 : numS (valB c) (some 10) 2 = (some 12, c.inn.toNat) := num2_at (P := be c.tag 4 ++ (be c.win.toNat 4 ++ be c.out.toNat 2)) (by omega) (by rw [e]; simp only [List.append_assoc]; try rfl) rfl
 have n5 : numS (valB c) (some 12) 4 = (some 16, c.tsn) := num4_at (P := be c.tag 4 ++ (be c.win.toNat 4 ++ (be c.out.toNat 2 ++ be c.inn.toNat 2))) hf.tsn (by rw [e]; simp only [List.append_assoc]; try rfl) rfl
 have s1 : st1 (valB c) = some 4 := by unfold st1; rw [n1]
 have s2 : st2 (valB c) = some 8 := by unfold st2; rw [s1, n2]
 have s3 : st3 (valB c) = some 10 := by unfold st3; rw [s2, n3]
 have s4 : st4 (valB c) = some 12 := by unfold st4; rw [s3, n4]
 have s5 : st5 (valB c) = some 16 := by unfold st5; rw [s4, n5]
 refine ⟨?_, ?_⟩
 ·
  unfold hdStart
  rw [s1, s2, s3, s4, n1, n2, n3, n4, n5]
  simp only [w.1, o.1, i.1]
 ·
  rw [s5]
  exact (rest_at (P := be c.tag 4 ++ (be c.win.toNat 4 ++ (be c.out.toNat 2 ++ (be c.inn.toNat 2 ++ be c.tsn 4)))) (by rw [e]; simp only [List.append_assoc]; try rfl) rfl).1
theorem rd_12 {c : Ck} (h : GoodC c) (hf : Fit c) (hk : c.kind = 1 ∨ c.kind = 2) : rdPars (hdStart c.kind (valB c)) (rdRest (valB c) (st5 (valB c))) = c := by
 have hV : valB c = startV c := by rcases hk with hk | hk <;> simp [valB, hk]
 have hs : StartC c := hk.elim (good_1 h) (fun e => (good_2 h e).1)
 obtain ⟨h1, h2⟩ := start_at (k := c.kind) hs hf hV
 rw [h1, h2, rdPars_write (startP_good hs.rand.2 (fun e => (good_2 h e).2.2))]
 unfold startP
 rw [show ∀ (p : Par) (L : List Par) (d : Ck), parsT d (p :: L) = parsT (parK d p) L from fun _ _ _ => rfl, parsT_app, parsT_addrs _ _ hs.ads]
 have hu := h.use
 rcases hk with hk | hk
 ·
  rw [usedC_1 hk] at hu
  rw [hk, if_neg (by decide)]
  simp only [parsT, List.foldl_nil, parK, if_true]
  refine Eq.trans ?_ hu.symm
  simp [ck0]
 ·
  rw [usedC_2 hk] at hu
  rw [hk, if_pos rfl]
  simp only [parsT, List.foldl_nil, List.foldl_cons, parK, if_true]
  rw [if_neg (by decide), if_neg (by decide), if_pos (by decide)]
  refine Eq.trans ?_ hu.symm
  simp [ck0]
theorem gapsS_at {P R B : List Nat} {a : Nat} : ∀ (L M : List (Int × Int)), (∀ p ∈ L, (0 ≤ p.1 ∧ p.1 ≤ 65535) ∧ (0 ≤ p.2 ∧ p.2 ≤ 65535)) → B = P ++ (gapV L ++ R) → a = P.length → ∀ i, i ≤ L.length → gapsS B (some a) i = (some (a + 4 * i), L.take i) := by
 intro L M hL hB ha i
 induction i with
 | zero => intro _; simp [gapsS]
 | succ i ih =>
  intro hi
  have h := ih (by omega)
  have hp := hL (L.getD i (0, 0)) (getD_mem L _ i (by omega))
  have x1 := nat_of (m := 65535) hp.1
  have x2 := nat_of (m := 65535) hp.2
  have e : gapV L = gapV (L.take i) ++ (be (L.getD i (0, 0)).1.toNat 2 ++ (be (L.getD i (0, 0)).2.toNat 2 ++ gapV (L.drop (i + 1)))) := by
   have : L = L.take (i + 1) ++ L.drop (i + 1) := (List.take_append_drop _ _).symm
   have k : gapV L = gapV (L.take (i + 1)) ++ gapV (L.drop (i + 1)) := by
    conv => lhs; rw [this]
    exact gapV_app _ _
   rw [k, gapV_snoc (by omega)]
   simp only [List.append_assoc]
  have hl : (gapV (L.take i)).length = 4 * i := by rw [gapV_len, List.length_take]; omega
  have n1 : numS B (some (a + 4 * i)) 2 = (some (a + 4 * i + 2), (L.getD i (0, 0)).1.toNat) := num2_at (P := P ++ gapV (L.take i)) (by omega) (by rw [hB, e]; simp only [List.append_assoc]; try rfl) (by rw [List.length_append, hl, ha])
  have n2 : numS B (some (a + 4 * i + 2)) 2 = (some (a + 4 * i + 2 + 2), (L.getD i (0, 0)).2.toNat) := num2_at (P := P ++ (gapV (L.take i) ++ be (L.getD i (0, 0)).1.toNat 2)) (by omega) (by rw [hB, e]; simp only [List.append_assoc]; try rfl) (by rw [List.length_append, List.length_append, hl, be_len, ha]; omega)
  rw [gapsS, h]; dsimp only
  rw [n1]; dsimp only
  rw [n2]; dsimp only
  rw [x1.1, x2.1, take_snocP (by omega)]
  simp only [Prod.mk.injEq, Option.some.injEq, and_true]
  omega
theorem dupsS_at {P R B : List Nat} {a : Nat} (L : List Nat) (hL : ∀ p ∈ L, p < 4294967296) (hB : B = P ++ (dupV L ++ R)) (ha : a = P.length) : ∀ i, i ≤ L.length → dupsS B (some a) i = (some (a + 4 * i), L.take i) := by
 intro i
 induction i with
 | zero => intro _; simp [dupsS]
 | succ i ih =>
  intro hi
  have h := ih (by omega)
  have hp := hL (L.getD i 0) (getD_mem L _ i (by omega))
  have e : dupV L = dupV (L.take i) ++ (be (L.getD i 0) 4 ++ dupV (L.drop (i + 1))) := by
   have : L = L.take (i + 1) ++ L.drop (i + 1) := (List.take_append_drop _ _).symm
   have k : dupV L = dupV (L.take (i + 1)) ++ dupV (L.drop (i + 1)) := by
    conv => lhs; rw [this]
    exact dupV_app _ _
   rw [k, dupV_snoc (by omega)]
   simp only [List.append_assoc]
  have hl : (dupV (L.take i)).length = 4 * i := by rw [dupV_len, List.length_take]; omega
  have n1 : numS B (some (a + 4 * i)) 4 = (some (a + 4 * i + 4), L.getD i 0) := num4_at (P := P ++ dupV (L.take i)) hp (by rw [hB, e]; simp only [List.append_assoc]; try rfl) (by rw [List.length_append, hl, ha])
  rw [dupsS, h]; dsimp only
  rw [n1]; dsimp only
  rw [take_snocD 0 (by omega)]
  simp only [Prod.mk.injEq, Option.some.injEq, and_true]
  omega
theorem sack_at {c : Ck} (hw : 0 ≤ c.win ∧ c.win ≤ 2147483647) (hg : ∀ p ∈ c.gaps, (0 ≤ p.1 ∧ p.1 ≤ 65535) ∧ (0 ≤ p.2 ∧ p.2 ≤ 65535)) (hd : ∀ p ∈ c.dups, p < 4294967296) (hgn : c.gaps.length ≤ 16) (hdn : c.dups.length ≤ 16) (ht : c.tsn < 4294967296) {V : List Nat} (hV : V = sackV c) :
  rdSack V = { ck0 3 with tsn := c.tsn, win := c.win, gaps := c.gaps, dups := c.dups } := by
 have w := nat_of (m := 2147483647) hw
 have e : V = be c.tsn 4 ++ (be c.win.toNat 4 ++ (be c.gaps.length 2 ++ (be c.dups.length 2 ++ (gapV c.gaps ++ dupV c.dups)))) := by rw [hV, sackV]
 have n1 : numS V (some 0) 4 = (some 4, c.tsn) := num4_at (P := []) ht e rfl
 have n2 : numS V (some 4) 4 = (some 8, c.win.toNat) := num4_at (P := be c.tsn 4) (by omega) e rfl
 have n3 : numS V (some 8) 2 = (some 10, c.gaps.length) := num2_at (P := be c.tsn 4 ++ be c.win.toNat 4) (by omega) (by rw [e]; simp only [List.append_assoc]; try rfl) rfl
 have n4 : numS V (some 10) 2 = (some 12, c.dups.length) := num2_at (P := be c.tsn 4 ++ (be c.win.toNat 4 ++ be c.gaps.length 2)) (by omega) (by rw [e]; simp only [List.append_assoc]; try rfl) rfl
 have s1 : st1 V = some 4 := by unfold st1; rw [n1]
 have s2 : st2 V = some 8 := by unfold st2; rw [s1, n2]
 have s3 : st3 V = some 10 := by unfold st3; rw [s2, n3]
 have s4 : st4 V = some 12 := by unfold st4; rw [s3, n4]
 obtain ⟨H, hH⟩ : ∃ H, H = be c.tsn 4 ++ (be c.win.toNat 4 ++ (be c.gaps.length 2 ++ be c.dups.length 2)) := ⟨_, rfl⟩
 have hHl : H.length = 12 := by rw [hH]; simp only [List.length_append, be_len]
 have e2 : V = H ++ (gapV c.gaps ++ dupV c.dups) := by rw [e, hH]; simp only [List.append_assoc]
 have l12 : leftS V (some 12) = 4 * c.gaps.length + 4 * c.dups.length := by rw [leftS_at e2 hHl.symm, List.length_append, gapV_len, dupV_len]
 have g0 : nGaps V = c.gaps.length := by unfold nGaps; rw [s2, s4, n3, l12]; dsimp only; omega
 have g1 := gapsS_at c.gaps c.gaps hg e2 hHl.symm c.gaps.length (Nat.le_refl _)
 have g2 : sgS V = some (12 + 4 * c.gaps.length) := by unfold sgS; rw [s4, g0, g1]
 have e3 : V = (H ++ gapV c.gaps) ++ (dupV c.dups ++ []) := by rw [e2]; simp only [List.append_assoc, List.append_nil]
 have hHl2 : 12 + 4 * c.gaps.length = (H ++ gapV c.gaps).length := by rw [List.length_append, gapV_len, hHl]
 have l2 : leftS V (some (12 + 4 * c.gaps.length)) = 4 * c.dups.length := by rw [leftS_at e3 hHl2, List.append_nil, dupV_len]
 have d0 : nDups V = c.dups.length := by unfold nDups; rw [s3, g2, n4, l2]; dsimp only; omega
 have d1 := dupsS_at c.dups hd e3 hHl2 c.dups.length (Nat.le_refl _)
 unfold rdSack hdSack
 rw [s4, g0, g1, g2, d0, d1, s1, n1, n2]
 simp only [List.take_length, w.1]
theorem rd_3 {c : Ck} (h : GoodC c) (hf : Fit c) (hk : c.kind = 3) : rdSack (valB c) = c := by
 have hg := good_3 h hk
 have hu := h.use
 rw [usedC_3 hk] at hu
 have hb := gapsB_at c.gaps (-1) (by omega) hg.2.1
 refine Eq.trans (sack_at hg.1 ?_ hf.dups hg.2.2.1 hg.2.2.2 hf.tsn (by simp [valB, hk])) hu.symm
 intro p hp
 obtain ⟨k, hk', rfl⟩ := List.getElem_of_mem hp
 have := hb k hk'
 simp only [List.getD_eq_getElem?_getD, List.getElem?_eq_getElem hk', Option.getD_some] at this
 omega
theorem rd_good {c : Ck} (h : GoodC c) (hf : Fit c) : rdC c.kind (flagN c.pb c.pe c.pu) (valB c) = c := by
 have hu := h.use
 rcases knB_cases h.kn with hk | hk | hk | hk | hk | hk | hk | hk | hk | hk | hk | hk | hk | hk | hk | hk
 ·
  rw [rdC, if_pos hk]; exact rd_0 h hf hk
 ·
  rw [rdC, if_neg (by omega), if_pos (.inl hk)]; exact rd_12 h hf (.inl hk)
 ·
  rw [rdC, if_neg (by omega), if_pos (.inr hk)]; exact rd_12 h hf (.inr hk)
 ·
  rw [rdC, if_neg (by omega), if_neg (by omega), if_pos hk]; exact rd_3 h hf hk
 ·
  rw [usedC_4 hk] at hu
  have hV : valB c = writeB [((1 : Int), c.info)] := by rw [writeB_one]; simp [valB, hk]
  rw [rdC, if_neg (by omega), if_neg (by omega), if_neg (by omega), if_pos (by omega), rest_0, hV, rdPars_write (fun p hp => by simp at hp; subst hp; exact goodPar (by decide) (by have := good_info h (by omega); omega)), hk]
  simp only [parsT, List.foldl_nil, List.foldl_cons, parK]
  exact hu.symm
 ·
  rw [usedC_5 hk] at hu
  have hV : valB c = writeB [((1 : Int), c.info)] := by rw [writeB_one]; simp [valB, hk]
  rw [rdC, if_neg (by omega), if_neg (by omega), if_neg (by omega), if_pos (by omega), rest_0, hV, rdPars_write (fun p hp => by simp at hp; subst hp; exact goodPar (by decide) (by have := good_info h (by omega); omega)), hk]
  simp only [parsT, List.foldl_nil, List.foldl_cons, parK]
  exact hu.symm
 ·
  rw [usedC_6 hk] at hu
  have hg := good_cause h (by omega)
  have x := nat_of (m := 65535) hg
  rw [rdC, if_neg (by omega), if_neg (by omega), if_neg (by omega), if_neg (by omega), if_pos (by omega), num2_0 (n := c.cause.toNat) (R := be 4 2) (by omega) (by simp [valB, hk]), hk, x.1]
  exact hu.symm
 ·
  rw [usedC_7 hk] at hu
  rw [rdC, if_neg (by omega), if_neg (by omega), if_neg (by omega), if_neg (by omega), if_neg (by omega), if_pos (by omega), num4_0 (n := c.tsn) (R := []) hf.tsn (by simp [valB, hk]), hk]
  exact hu.symm
 ·
  have hu8 : usedC c = ck0 8 := by simp [usedC, hk]
  have hu' : c = ck0 c.kind := by rw [hk]; rw [hu8] at hu; exact hu
  rw [rdC, if_neg (by omega), if_neg (by omega), if_neg (by omega), if_neg (by omega), if_neg (by omega), if_neg (by omega), if_neg (by omega), if_neg (by omega), if_neg (by omega)]
  exact hu'.symm
 ·
  rw [usedC_9 hk] at hu
  have hg := good_cause h (by omega)
  have x := nat_of (m := 65535) hg
  rw [rdC, if_neg (by omega), if_neg (by omega), if_neg (by omega), if_neg (by omega), if_pos (by omega), num2_0 (n := c.cause.toNat) (R := be 4 2) (by omega) (by simp [valB, hk]), hk, x.1]
  exact hu.symm
 ·
  rw [usedC_10 hk] at hu
  rw [rdC, if_neg (by omega), if_neg (by omega), if_neg (by omega), if_neg (by omega), if_neg (by omega), if_neg (by omega), if_pos (by omega), rest_0, hk]
  have hV : valB c = c.info := by simp [valB, hk]
  rw [hV]
  exact hu.symm
 ·
  have hu8 : usedC c = ck0 11 := by simp [usedC, hk]
  have hu' : c = ck0 c.kind := by rw [hk]; rw [hu8] at hu; exact hu
  rw [rdC, if_neg (by omega), if_neg (by omega), if_neg (by omega), if_neg (by omega), if_neg (by omega), if_neg (by omega), if_neg (by omega), if_neg (by omega), if_neg (by omega)]
  exact hu'.symm
 ·
  have hu8 : usedC c = ck0 14 := by simp [usedC, hk]
  have hu' : c = ck0 c.kind := by rw [hk]; rw [hu8] at hu; exact hu
  rw [rdC, if_neg (by omega), if_neg (by omega), if_neg (by omega), if_neg (by omega), if_neg (by omega), if_neg (by omega), if_neg (by omega), if_neg (by omega), if_neg (by omega)]
  exact hu'.symm
 ·
  rw [usedC_15 hk] at hu
  rw [rdC, if_neg (by omega), if_neg (by omega), if_neg (by omega), if_neg (by omega), if_neg (by omega), if_neg (by omega), if_pos (by omega), rest_0, hk]
  have hV : valB c = c.info := by simp [valB, hk]
  rw [hV]
  exact hu.symm
 ·
  rw [usedC_128 hk] at hu
  have e : valB c = be c.serial 4 ++ (be (if c.ok = true then 1 else 0) 4 ++ []) := by simp [valB, hk]
  have n1 : numS (valB c) (some 0) 4 = (some 4, c.serial) := num4_at (P := []) hf.serial e rfl
  have n2 : numS (valB c) (some 4) 4 = (some 8, if c.ok = true then 1 else 0) := num4_at (P := be c.serial 4) (by split <;> decide) e rfl
  have s1 : st1 (valB c) = some 4 := by unfold st1; rw [n1]
  rw [rdC, if_neg (by omega), if_neg (by omega), if_neg (by omega), if_neg (by omega), if_neg (by omega), if_neg (by omega), if_neg (by omega), if_neg (by omega), if_pos (by omega), s1, n1, n2, hk]
  refine Eq.trans ?_ hu.symm
  cases c.ok <;> rfl
 ·
  rw [usedC_193 hk] at hu
  have hg := good_193 h hk
  have e : valB c = be c.serial 4 ++ (writeB (pOps c.ops)) := by simp [valB, hk, opsV]
  have n1 : numS (valB c) (some 0) 4 = (some 4, c.serial) := num4_at (P := []) hf.serial e rfl
  have s1 : st1 (valB c) = some 4 := by unfold st1; rw [n1]
  rw [rdC, if_neg (by omega), if_neg (by omega), if_neg (by omega), if_neg (by omega), if_neg (by omega), if_neg (by omega), if_neg (by omega), if_pos (by omega), s1, (rest_at (P := be c.serial 4) (a := 4) e rfl).1, n1, rdPars_write (pOps_good hg.2), parsT_ops _ _ hg.2, hk]
  refine Eq.trans ?_ hu.symm
  simp [ck0]
theorem rd_bytes {c : Ck} (h : GoodC c) (hf : Fit c) {B : List Nat} (hB : bytesB c = B) : rdC (hdK B : Int) (hdF B) (hdV B) = c := by
 have hk : c.kind = ((c.kind.toNat : Nat) : Int) ∧ c.kind.toNat < 256 := by rcases knB_cases h.kn with hk | hk | hk | hk | hk | hk | hk | hk | hk | hk | hk | hk | hk | hk | hk | hk <;> rw [hk] <;> decide
 have hF : flagN c.pb c.pe c.pu < 256 := by cases c.pb <;> cases c.pe <;> cases c.pu <;> decide
 have hl := valB_len h
 obtain ⟨h1, h2, h3⟩ := hd_bytes (B := B) (V := valB c) (by rw [← hB]; rfl) hk.2 hF (by omega)
 rw [h1, h2, h3, ← hk.1]
 exact rd_good h hf
theorem fold_val (l : List Nat) : ∀ a : Nat, l.foldl (fun a b => 256 * a + b) a = a * 256 ^ l.length + val l := by
 induction l with
 | nil => intro a; simp [val]
 | cons x l ih =>
  intro a
  unfold val
  rw [List.foldl_cons, List.foldl_cons, ih, ih (256 * 0 + x), List.length_cons, Nat.pow_succ]
  generalize 256 ^ l.length = z
  rw [Nat.add_mul, Nat.mul_comm 256 a, Nat.mul_assoc a 256 z, Nat.mul_comm z 256, Nat.mul_zero, Nat.zero_add]
  omega
theorem val_cons (x : Nat) (l : List Nat) : val (x :: l) = x * 256 ^ l.length + val l := by
 have := fold_val l x
 unfold val at *
 rw [List.foldl_cons, Nat.mul_zero, Nat.zero_add]
 exact this
theorem be_mod (k : Nat) : ∀ (n m z : Nat), 256 ^ k ∣ z → be (z + n) k = be n k := by
 induction k with
 | zero => intro n m z _; rfl
 | succ k ih =>
  intro n m z hz
  obtain ⟨y, rfl⟩ := hz
  have hp : 0 < 256 ^ k := Nat.pow_pos (by decide)
  rw [be, be, ih n m _ ⟨256 * y, by rw [Nat.pow_succ, Nat.mul_assoc]⟩]
  congr 1
  rw [Nat.pow_succ, Nat.mul_assoc, Nat.mul_add_div hp]
  omega
theorem be_val : ∀ (l : List Nat), AllB l → be (val l) l.length = l
 | [], _ => rfl
 | x :: l, h => by
  have hx : x < 256 := h x (by simp)
  have hl : AllB l := fun y hy => h y (by simp [hy])
  have hv := val_lt hl l.length (Nat.le_refl _)
  have hp : 0 < 256 ^ l.length := Nat.pow_pos (by decide)
  rw [val_cons, List.length_cons, be, be_mod _ _ 0 _ ⟨x, Nat.mul_comm _ _⟩, be_val l hl]
  congr 1
  rw [Nat.mul_comm, Nat.mul_add_div hp, Nat.div_eq_of_lt hv]
  omega
theorem num_some {V : List Nat} {s : Option Nat} {n : Int} {p : Nat} (h : (numS V s n).1 = some p) : ∃ a, s = some a := by
 cases s with
 | none => rw [numS_none] at h; cases h
 | some a => exact ⟨a, rfl⟩
theorem num_inv {V : List Nat} (hV : AllB V) {a n p : Nat} (hn : n = 2 ∨ n = 4) (h : (numS V (some a) (n : Int)).1 = some p) : p = a + n ∧ a + n ≤ V.length ∧ V.drop a = be (numS V (some a) (n : Int)).2 n ++ V.drop (a + n) := by
 have hs : isSz (n : Int) = true := by rcases hn with rfl | rfl <;> rfl
 unfold numS at h ⊢
 rw [if_pos hs] at h ⊢
 by_cases hr : 0 ≤ (n : Int) ∧ (n : Int) ≤ (V.length : Int) - a
 ·
  rw [takeS_yes hr.1 hr.2] at h ⊢
  simp only [Int.toNat_natCast, Option.some.injEq] at h ⊢
  have hle : a + n ≤ V.length := by omega
  refine ⟨h.symm, hle, ?_⟩
  have hlen : ((V.drop a).take n).length = n := by rw [List.length_take, List.length_drop]; omega
  have := be_val ((V.drop a).take n) ((hV.drop a).take n)
  rw [hlen] at this
  rw [this, ← List.drop_drop, List.take_append_drop]
 ·
  rw [takeS_no hr] at h
  cases h
theorem num4_inv {V : List Nat} (hV : AllB V) {a p : Nat} (h : (numS V (some a) 4).1 = some p) : p = a + 4 ∧ a + 4 ≤ V.length ∧ V.drop a = be (numS V (some a) 4).2 4 ++ V.drop (a + 4) := num_inv (n := 4) hV (.inr rfl) h
theorem num2_inv {V : List Nat} (hV : AllB V) {a p : Nat} (h : (numS V (some a) 2).1 = some p) : p = a + 2 ∧ a + 2 ≤ V.length ∧ V.drop a = be (numS V (some a) 2).2 2 ++ V.drop (a + 2) := num_inv (n := 2) hV (.inl rfl) h
theorem rest_inv {V : List Nat} {a p : Nat} (ha : a ≤ V.length) (h : rdRestS V (some a) = some p) : p = V.length ∧ rdRest V (some a) = V.drop a := by
 have := rest_at (P := V.take a) (R := V.drop a) (B := V) (a := a) (List.take_append_drop a V).symm (by rw [List.length_take]; omega)
 rw [this.2] at h
 exact ⟨by simpa using h.symm, this.1⟩
def fourV (m : List Nat) : Int := if m.length = 4 then addrV m else 0
def withK (k : Int) (n i : Nat) (d : Ck) (p : Par) : Option Ck :=
 if (k = 1 ∨ k = 2) ∧ i = 0 ∧ p.1 = 32770 then some { d with rand := p.2 }
 else if (k = 1 ∨ k = 2) ∧ 0 < i ∧ p.1 = 5 then some { d with addrs := d.addrs ++ [fourV p.2] }
 else if k = 2 ∧ 0 < i ∧ i + 1 = n ∧ p.1 = 7 then some { d with info := p.2 }
 else if (k = 4 ∨ k = 5) ∧ i = 0 ∧ i + 1 = n ∧ p.1 = 1 then some { d with info := p.2 }
 else if k = 193 then some { d with ops := d.ops ++ [(p.1 - 49152, fourV p.2)] }
 else none
def withS (k : Int) (n : Nat) : Nat → Ck → List Par → Option Ck
 | _, d, [] => some d
 | i, d, p :: L => match withK k n i d p with
  | none => none
  | some e => withS k n (i + 1) e L
def finS (c : Ck) (F : Nat) (V : List Nat) (s : Option Nat) : Option Ck :=
 match s with
 | none => none
 | some a => if F ≠ 0 then none else match readAll (V.drop a) with
  | none => none
  | some L => withS c.kind L.length 0 c L
theorem finS_inv {c d : Ck} {F : Nat} {V : List Nat} {s : Option Nat} (h : finS c F V s = some d) : F = 0 ∧ ∃ a L, s = some a ∧ readAll (V.drop a) = some L ∧ withS c.kind L.length 0 c L = some d := by
 unfold finS at h
 cases s with
 | none => cases h
 | some a =>
  simp only at h
  by_cases hF : F = 0
  ·
   rw [if_neg (by simpa using hF)] at h
   cases hr : readAll (V.drop a) with
   | none => rw [hr] at h; cases h
   | some L => rw [hr] at h; exact ⟨hF, a, L, rfl, hr, h⟩
  ·
   rw [if_pos hF] at h; cases h
theorem finS_at {c d : Ck} {V : List Nat} {a : Nat} {L : List Par} (hr : readAll (V.drop a) = some L) (hw : withS c.kind L.length 0 c L = some d) : finS c 0 V (some a) = some d := by
 unfold finS
 simp only [ne_eq, not_true_eq_false, if_false, hr]
 exact hw
theorem withS_none {k : Int} {n i : Nat} {c d : Ck} {L : List Par} (hk : k ≠ 1 ∧ k ≠ 2 ∧ k ≠ 4 ∧ k ≠ 5 ∧ k ≠ 193) (h : withS k n i c L = some d) : L = [] ∧ d = c := by
 cases L with
 | nil => simp [withS] at h; exact ⟨rfl, h.symm⟩
 | cons p L =>
  exfalso
  simp [withS, withK, hk] at h
theorem readAll_empty {b : List Nat} (hb : AllB b) (h : readAll b = some []) : b = [] := by
 have := (readAll_some b.length b [] (Nat.le_refl _) hb h).2
 simpa [writeB] using this.symm
theorem withS_45 {k : Int} {c d : Ck} {L : List Par} (hk : k = 4 ∨ k = 5) (hi : c.info = []) (h : withS k L.length 0 c L = some d) : (L = [] ∧ d = c) ∨ ∃ m, L = [(1, m)] ∧ d = { c with info := m } := by
 cases L with
 | nil => simp [withS] at h; exact .inl ⟨rfl, h.symm⟩
 | cons p L =>
  right
  have h1 : ¬ (k = 1 ∨ k = 2) := by omega
  have h2 : ¬ k = 2 := by omega
  have h3 : ¬ k = 193 := by omega
  obtain ⟨x, m⟩ := p
  unfold withS withK at h
  rw [if_neg (fun e => h1 e.1), if_neg (fun e => h1 e.1), if_neg (fun e => h2 e.1), if_neg h3] at h
  by_cases hc : (k = 4 ∨ k = 5) ∧ 0 = 0 ∧ 0 + 1 = ((x, m) :: L).length ∧ (x, m).1 = 1
  ·
   rw [if_pos hc] at h
   have hl : L = [] := by have := hc.2.2.1; simp at this; exact this
   have hx : x = 1 := hc.2.2.2
   subst hl hx
   simp [withS] at h
   exact ⟨m, rfl, h.symm⟩
  ·
   rw [if_neg hc] at h; cases h
theorem withS_193 {n : Nat} : ∀ {L : List Par} {i : Nat} {c : Ck}, withS 193 n i c L = some { c with ops := c.ops ++ L.map fun p => (p.1 - 49152, fourV p.2) }
 | [], i, c => by simp [withS]
 | p :: L, i, c => by
  unfold withS withK
  simp only [Int.reduceEq, false_or, false_and, if_false, if_true]
  rw [withS_193 (L := L)]
  simp [List.append_assoc]
theorem four_inv {m : List Nat} (hm : AllB m) (h : adB (fourV m) = true) : m = be (fourV m).toNat 4 := by
 unfold fourV at h ⊢
 by_cases h4 : m.length = 4
 ·
  rw [if_pos h4] at h ⊢
  have := be_val m hm
  rw [h4] at this
  unfold addrV
  rw [Int.toNat_natCast, show (numS m (some 0) 4).2 = val m from ?_]
  ·
   exact this.symm
  ·
   unfold numS
   rw [if_pos (by rfl), takeS_yes (by decide) (by omega)]
   simp only [List.drop_zero]
   rw [List.take_of_length_le (by rw [h4]; decide)]
 ·
  rw [if_neg h4] at h
  simp [adB, inB] at h
theorem withS_tail {k : Int} (hk : k = 1 ∨ k = 2) : ∀ {L : List Par} {n i : Nat} {c d : Ck}, 0 < i → i + L.length = n → withS k n i c L = some d →
  ∃ ms : List (List Nat), (L = ms.map (fun m => (5, m)) ∧ d = { c with addrs := c.addrs ++ ms.map fourV }) ∨ (k = 2 ∧ ∃ m, L = ms.map (fun m => (5, m)) ++ [(7, m)] ∧ d = { c with addrs := c.addrs ++ ms.map fourV, info := m })
 | [], n, i, c, d, hi, hn, h => by
  simp [withS] at h
  subst h
  exact ⟨[], .inl ⟨rfl, by simp⟩⟩
 | (x, m) :: L, n, i, c, d, hi, hn, h => by
  have h0 : ¬ i = 0 := by omega
  have h4 : ¬ (k = 4 ∨ k = 5) := by omega
  have h193 : ¬ k = 193 := by omega
  unfold withS withK at h
  rw [if_neg (fun e => h0 e.2.1)] at h
  by_cases h5 : x = 5
  ·
   subst h5
   rw [if_pos ⟨hk, hi, rfl⟩] at h
   obtain ⟨ms, ⟨e1, e2⟩ | ⟨e0, m2, e1, e2⟩⟩ := withS_tail hk (by omega) (by simp at hn; omega) h
   ·
    exact ⟨m :: ms, .inl ⟨by rw [e1]; rfl, by rw [e2]; simp⟩⟩
   ·
    exact ⟨m :: ms, .inr ⟨e0, m2, by rw [e1]; rfl, by rw [e2]; simp⟩⟩
  ·
   rw [if_neg (fun e => h5 e.2.2)] at h
   by_cases h7 : k = 2 ∧ 0 < i ∧ i + 1 = n ∧ (x, m).1 = 7
   ·
    rw [if_pos h7] at h
    have hl : L = [] := List.length_eq_zero_iff.1 (by have := h7.2.2.1; simp at hn; omega)
    have hx : x = 7 := h7.2.2.2
    subst hl hx
    simp [withS] at h
    exact ⟨[], .inr ⟨h7.1, m, rfl, by rw [← h]; simp⟩⟩
   ·
    rw [if_neg h7, if_neg (fun e => h4 e.1), if_neg h193] at h
    cases h
theorem withS_12 {k : Int} (hk : k = 1 ∨ k = 2) {L : List Par} {c d : Ck} (hr : c.rand = []) (h : withS k L.length 0 c L = some d) :
  d = c ∨ ∃ (r : List Nat) (ms : List (List Nat)), (L = (32770, r) :: ms.map (fun m => (5, m)) ∧ d = { c with rand := r, addrs := c.addrs ++ ms.map fourV }) ∨ (k = 2 ∧ ∃ m, L = (32770, r) :: (ms.map (fun m => (5, m)) ++ [(7, m)]) ∧ d = { c with rand := r, addrs := c.addrs ++ ms.map fourV, info := m }) := by
 cases L with
 | nil => simp [withS] at h; exact .inl h.symm
 | cons p L =>
  right
  obtain ⟨x, r⟩ := p
  have h4 : ¬ (k = 4 ∨ k = 5) := by omega
  have h193 : ¬ k = 193 := by omega
  unfold withS withK at h
  by_cases hx : x = 32770
  ·
   subst hx
   rw [if_pos ⟨hk, rfl, rfl⟩] at h
   obtain ⟨ms, ⟨e1, e2⟩ | ⟨e0, m2, e1, e2⟩⟩ := withS_tail hk (by decide) (by simp; omega) h
   ·
    exact ⟨r, ms, .inl ⟨by rw [e1], e2⟩⟩
   ·
    exact ⟨r, ms, .inr ⟨e0, m2, by rw [e1], e2⟩⟩
  ·
   rw [if_neg (fun e => hx e.2.2), if_neg (fun e => absurd e.2.1 (by decide)), if_neg (fun e => absurd e.2.1 (by decide)), if_neg (fun e => h4 e.1), if_neg h193] at h
   cases h
theorem ms_addrs {ms : List (List Nat)} (hm : ∀ m ∈ ms, AllB m) (h : adsB (ms.map fourV) = true) : ms.map (fun m => ((5, m) : Par)) = pAddrs (ms.map fourV) := by
 unfold pAddrs
 rw [List.map_map]
 apply List.map_congr_left
 intro m hmm
 unfold adsB at h
 have := List.all_eq_true.1 h (fourV m) (List.mem_map_of_mem hmm)
 show ((5, m) : Par) = (5, be (fourV m).toNat 4)
 rw [← four_inv (hm m hmm) this]
theorem ms_ops {L : List Par} (hm : ∀ p ∈ L, AllB p.2) (h : opsB (L.map fun p => (p.1 - 49152, fourV p.2)) = true) : L = pOps (L.map fun p => (p.1 - 49152, fourV p.2)) := by
 unfold pOps
 rw [List.map_map]
 conv => lhs; rw [← List.map_id L]
 apply List.map_congr_left
 intro p hp
 unfold opsB at h
 have h1 := List.all_eq_true.1 h (p.1 - 49152, fourV p.2) (List.mem_map.2 ⟨p, hp, rfl⟩)
 have h2 : adB (fourV p.2) = true := by
  unfold opB at h1
  rw [Bool.and_eq_true] at h1
  exact h1.2
 obtain ⟨x, m⟩ := p
 show (x, m) = (49152 + (x - 49152), be (fourV m).toNat 4)
 have h3 : m = be (fourV m).toNat 4 := four_inv (hm _ hp) h2
 rw [show 49152 + (x - 49152) = x by omega, ← h3]
theorem gaps_inv {V : List Nat} (hV : AllB V) {a : Nat} (ha : a ≤ V.length) : ∀ (n p : Nat), (gapsS V (some a) n).1 = some p → p = a + 4 * n ∧ p ≤ V.length ∧ V.drop a = gapV (gapsS V (some a) n).2 ++ V.drop p
 | 0, p, h => by
  simp [gapsS] at h ⊢
  subst h
  exact ⟨rfl, ha, by simp [gapV]⟩
 | n + 1, p, h => by
  have h' : (numS V (numS V (gapsS V (some a) n).1 2).1 2).1 = some p := h
  obtain ⟨y, hy⟩ := num_some h'
  obtain ⟨x, hx⟩ := num_some hy
  obtain ⟨i1, i2, i3⟩ := gaps_inv hV ha n x hx
  rw [hx] at hy
  obtain ⟨j1, j2, j3⟩ := num2_inv hV hy
  rw [hx, hy] at h'
  obtain ⟨k1, k2, k3⟩ := num2_inv hV h'
  refine ⟨by omega, by omega, ?_⟩
  show V.drop a = gapV ((gapsS V (some a) n).2 ++ [((((numS V (gapsS V (some a) n).1 2).2 : Nat) : Int), (((numS V (numS V (gapsS V (some a) n).1 2).1 2).2 : Nat) : Int))]) ++ V.drop p
  rw [hx, hy, gapV_app, i3, j3, ← j1, k3, ← k1]
  simp [gapV, List.append_assoc]
theorem dups_inv {V : List Nat} (hV : AllB V) {a : Nat} (ha : a ≤ V.length) : ∀ (n p : Nat), (dupsS V (some a) n).1 = some p → p = a + 4 * n ∧ p ≤ V.length ∧ V.drop a = dupV (dupsS V (some a) n).2 ++ V.drop p
 | 0, p, h => by
  simp [dupsS] at h ⊢
  subst h
  exact ⟨rfl, ha, by simp [dupV]⟩
 | n + 1, p, h => by
  have h' : (numS V (dupsS V (some a) n).1 4).1 = some p := h
  obtain ⟨x, hx⟩ := num_some h'
  obtain ⟨i1, i2, i3⟩ := dups_inv hV ha n x hx
  rw [hx] at h'
  obtain ⟨k1, k2, k3⟩ := num4_inv hV h'
  refine ⟨by omega, by omega, ?_⟩
  show V.drop a = dupV ((dupsS V (some a) n).2 ++ [(numS V (dupsS V (some a) n).1 4).2]) ++ V.drop p
  rw [hx, dupV_app, i3, k3, ← k1]
  simp [dupV, List.append_assoc]
theorem gapsQ_len (V : List Nat) (s : Option Nat) : ∀ n, (gapsS V s n).2.length = n
 | 0 => rfl
 | n + 1 => by show (_ ++ [_]).length = _; rw [List.length_append, gapsQ_len V s n]; rfl
theorem dupsQ_len (V : List Nat) (s : Option Nat) : ∀ n, (dupsS V s n).2.length = n
 | 0 => rfl
 | n + 1 => by show (_ ++ [_]).length = _; rw [List.length_append, dupsQ_len V s n]; rfl
theorem gapsS_some {V : List Nat} {s : Option Nat} : ∀ {n p : Nat}, (gapsS V s n).1 = some p → ∃ a, s = some a
 | 0, p, h => ⟨p, h⟩
 | n + 1, p, h => by
  have h' : (numS V (numS V (gapsS V s n).1 2).1 2).1 = some p := h
  obtain ⟨y, hy⟩ := num_some h'
  obtain ⟨x, hx⟩ := num_some hy
  exact gapsS_some hx
theorem dupsS_some {V : List Nat} {s : Option Nat} : ∀ {n p : Nat}, (dupsS V s n).1 = some p → ∃ a, s = some a
 | 0, p, h => ⟨p, h⟩
 | n + 1, p, h => by
  have h' : (numS V (dupsS V s n).1 4).1 = some p := h
  obtain ⟨x, hx⟩ := num_some h'
  exact dupsS_some hx
def pieceS (V : List Nat) : Option Nat := (numS V (numS V (numS V (some 0) 4).1 2).1 2).1
def nG (V : List Nat) : Nat := (numS V (st2 V) 2).2
def nD (V : List Nat) : Nat := (numS V (st3 V) 2).2
def gS (V : List Nat) : Option Nat := (gapsS V (st4 V) (nG V)).1
def dS (V : List Nat) : Option Nat := (dupsS V (gS V) (nD V)).1
def docSack (V : List Nat) : Ck := { hdSack V with gaps := (gapsS V (st4 V) (nG V)).2, dups := (dupsS V (gS V) (nD V)).2 }
def ca1 (V : List Nat) : Option Nat := (numS V (some 0) 2).1
def ca2 (V : List Nat) : Option Nat := (numS V (ca1 V) 2).1
def docRd (k : Int) (F : Nat) (V : List Nat) : Option Ck :=
 if k = 0 then finS (rdPiece F V) (F / 8) V (rdRestS V (pieceS V))
 else if k = 1 ∨ k = 2 then finS (hdStart k V) F V (st5 V)
 else if k = 3 then (if 16 < nG V ∨ 16 < nD V then none else finS (docSack V) F V (dS V))
 else if k = 6 ∨ k = 9 then (if (numS V (ca1 V) 2).2 ≠ 4 then none else finS { ck0 k with cause := ((numS V (some 0) 2).2 : Nat) } F V (ca2 V))
 else if k = 7 then finS { ck0 k with tsn := (numS V (some 0) 4).2 } F V (st1 V)
 else if k = 10 ∨ k = 15 then finS { ck0 k with info := rdRest V (some 0) } F V (rdRestS V (some 0))
 else if k = 193 then finS { ck0 k with serial := (numS V (some 0) 4).2 } F V (st1 V)
 else if k = 128 then (if 1 < (numS V (st1 V) 4).2 then none else finS { ck0 k with serial := (numS V (some 0) 4).2, ok := decide ((numS V (st1 V) 4).2 = 1) } F V (st2 V))
 else finS (ck0 k) F V (some 0)
theorem fit_good {d : Ck} (g : GoodC d) (h1 : d.ptsn < 4294967296) (h2 : d.pstr < 65536) (h3 : d.pseq < 65536) (h4 : d.tag < 4294967296) (h5 : d.tsn < 4294967296) (h6 : d.serial < 4294967296) (h7 : ∀ x ∈ d.dups, x < 4294967296) : Fit d := by
 have y := (yes_iff d).2 g
 have hb : (1 ≤ d.out ∧ d.out ≤ 8) ∧ (1 ≤ d.inn ∧ d.inn ≤ 8) ∨ d.out = 0 ∧ d.inn = 0 := by
  by_cases hk : d.kind = 1 ∨ d.kind = 2
  ·
   have := y.beg hk; exact .inl ⟨this.2.1, this.2.2.1⟩
  ·
   have := y.nbeg hk; exact .inr ⟨this.2.1, this.2.2.1⟩
 have hkd := knB_cases g.kn
 refine ⟨by unfold W64; omega, h1, h2, h3, h4, by have := y.win; unfold W64; omega, by unfold W64; omega, by unfold W64; omega, h5, by have := y.cause; unfold W64; omega, h6, fun x hx => ?_, fun x hx => ?_, h7, fun x hx => ?_⟩
 ·
  have h := y.ads
  unfold adsB at h
  have := (inB_iff _ _ _).1 (List.all_eq_true.1 h x hx)
  unfold W64; omega
 ·
  obtain ⟨k, hk, rfl⟩ := List.getElem_of_mem hx
  have := gapsB_at d.gaps (-1) (by omega) y.gps k hk
  simp only [List.getD_eq_getElem?_getD, List.getElem?_eq_getElem hk, Option.getD_some] at this
  unfold W64; omega
 ·
  have h := y.opsy
  unfold opsB at h
  obtain ⟨h8, N, h9, h10⟩ := opB_at (List.all_eq_true.1 h x hx)
  unfold W64; omega
structure Reads (K F : Nat) (V : List Nat) (d : Ck) : Prop where
 kind : d.kind = (K : Int)
 val : valB d = V
 flags : flagN d.pb d.pe d.pu = F
 fit : Fit d
theorem z0 : (0 : Nat) < 4294967296 := by decide
theorem z1 : (0 : Nat) < 65536 := by decide
theorem zero_dups : ∀ x ∈ ([] : List Nat), x < 4294967296 := fun x hx => absurd hx (List.not_mem_nil)
theorem sound_0 {F : Nat} {V : List Nat} {d : Ck} (hV : AllB V) (h : finS (rdPiece F V) (F / 8) V (rdRestS V (pieceS V)) = some d) (g : GoodC d) : Reads 0 F V d := by
 obtain ⟨hF, a, L, hs, hr, hw⟩ := finS_inv h
 obtain ⟨hL, rfl⟩ := withS_none (show (rdPiece F V).kind ≠ 1 ∧ _ from by simp [rdPiece, ck0]) hw
 have hp : ∃ p3, pieceS V = some p3 := by
  cases hq : pieceS V with
  | none => rw [hq] at hs; simp [rdRestS, takeS] at hs
  | some p => exact ⟨p, rfl⟩
 obtain ⟨p3, h3⟩ := hp
 obtain ⟨p2, h2⟩ := num_some h3
 obtain ⟨p1, h1⟩ := num_some h2
 obtain ⟨e1, l1, d1⟩ := num4_inv hV h1
 have h1' := h1
 rw [e1] at h1
 have h2' : (numS V (some (0 + 4)) 2).1 = some p2 := by rw [← h1]; exact h2
 obtain ⟨e2, l2, d2⟩ := num2_inv hV h2'
 have h3' : (numS V (some (0 + 4 + 2)) 2).1 = some p3 := by rw [← e2, ← h2, h1]; unfold pieceS at h3; rw [← h3]; rw [h1]
 obtain ⟨e3, l3, d3⟩ := num2_inv hV h3'
 rw [h3, e3] at hs
 obtain ⟨e4, d4⟩ := rest_inv l3 hs
 have hs1 : (numS V (some 0) 4).1 = some (0 + 4) := h1
 have hs2 : (numS V (some (0 + 4)) 2).1 = some (0 + 4 + 2) := by rw [h2', e2]
 have f1 : (rdPiece F V).pstr = (numS V (some (0 + 4)) 2).2 := by unfold rdPiece; rw [hs1]
 have f2 : (rdPiece F V).pseq = (numS V (some (0 + 4 + 2)) 2).2 := by unfold rdPiece; rw [hs1, hs2]
 have f3 : (rdPiece F V).text = V.drop (0 + 4 + 2 + 2) := by
  unfold rdPiece; dsimp only
  rw [hs1, hs2, h3', e3]; exact d4
 have hFl : F < 8 := by omega
 refine ⟨rfl, ?_, ?_, fit_good g (numS_u32 hV _) (by rw [f1]; exact numS2_lt hV _) (by rw [f2]; exact numS2_lt hV _) z0 z0 z0 zero_dups⟩
 ·
  unfold valB
  rw [if_pos (show (rdPiece F V).kind = 0 from rfl), f1, f2, f3]
  show ((be (numS V (some 0) 4).2 4 ++ _) ++ _) ++ _ = V
  rw [List.append_assoc, List.append_assoc, ← d3, ← d2, ← d1, List.drop_zero]
 ·
  show flagN (decide (F / 2 % 2 = 1)) (decide (F % 2 = 1)) (decide (F / 4 % 2 = 1)) = F
  obtain h | h | h | h | h | h | h | h : F = 0 ∨ F = 1 ∨ F = 2 ∨ F = 3 ∨ F = 4 ∨ F = 5 ∨ F = 6 ∨ F = 7 := by omega
  all_goals subst h; rfl
theorem start_inv {V : List Nat} (hV : AllB V) {p : Nat} (h : st5 V = some p) : p = 16 ∧ 16 ≤ V.length ∧ V = be (numS V (some 0) 4).2 4 ++ (be (numS V (st1 V) 4).2 4 ++ (be (numS V (st2 V) 2).2 2 ++ (be (numS V (st3 V) 2).2 2 ++ (be (numS V (st4 V) 4).2 4 ++ V.drop 16)))) := by
 obtain ⟨p4, h4⟩ := num_some h
 obtain ⟨p3, h3⟩ := num_some h4
 obtain ⟨p2, h2⟩ := num_some h3
 obtain ⟨p1, h1⟩ := num_some h2
 obtain ⟨e1, l1, d1⟩ := num4_inv hV h1
 have s1 : st1 V = some (0 + 4) := by rw [h1, e1]
 unfold st2 at h2; rw [s1] at h2
 obtain ⟨e2, l2, d2⟩ := num4_inv hV h2
 have s2 : st2 V = some (0 + 4 + 4) := by unfold st2; rw [s1, h2, e2]
 unfold st3 at h3; rw [s2] at h3
 obtain ⟨e3, l3, d3⟩ := num2_inv hV h3
 have s3 : st3 V = some (0 + 4 + 4 + 2) := by unfold st3; rw [s2, h3, e3]
 unfold st4 at h4; rw [s3] at h4
 obtain ⟨e4, l4, d4⟩ := num2_inv hV h4
 have s4 : st4 V = some (0 + 4 + 4 + 2 + 2) := by unfold st4; rw [s3, h4, e4]
 unfold st5 at h; rw [s4] at h
 obtain ⟨e5, l5, d5⟩ := num4_inv hV h
 refine ⟨by omega, by omega, ?_⟩
 rw [s1, s2, s3, s4]
 conv => lhs; rw [← List.drop_zero (l := V), d1, d2, d3, d4, d5]
theorem sound_12 {K F : Nat} {V : List Nat} {d : Ck} (hK : K = 1 ∨ K = 2) (hV : AllB V) (h : finS (hdStart (K : Int) V) F V (st5 V) = some d) (g : GoodC d) : Reads K F V d := by
 obtain ⟨hF, a, L, hs, hr, hw⟩ := finS_inv h
 have hk : ((K : Int) = 1 ∨ (K : Int) = 2) := by omega
 obtain ⟨e16, l16, eV⟩ := start_inv hV hs
 subst e16
 have hAd : AllB (V.drop 16) := hV.drop 16
 obtain ⟨hg, hWb⟩ := readAll_some (V.drop 16).length (V.drop 16) L (Nat.le_refl _) hAd hr
 have hkk : (hdStart (K : Int) V).kind = (K : Int) := rfl
 rw [hkk] at hw
 have w1 := Int.toNat_natCast (numS V (st1 V) 4).2
 have w2 := Int.toNat_natCast (numS V (st2 V) 2).2
 have w3 := Int.toNat_natCast (numS V (st3 V) 2).2
 have key : ∀ (r : List Nat) (ms : List (List Nat)) (i : List Nat), d = { hdStart (K : Int) V with rand := r, addrs := ms.map fourV, info := i } → writeB L = parB (32770, r) ++ (writeB (pAddrs (ms.map fourV)) ++ if (K : Int) = 2 then parB (7, i) else []) → Reads K F V d := by
  intro r ms i hd hL
  have f0 : d.kind = (K : Int) := by rw [hd]; rfl
  have f1 : d.tag = (numS V (some 0) 4).2 := by rw [hd]; rfl
  have f2 : d.win = ((numS V (st1 V) 4).2 : Nat) := by rw [hd]; rfl
  have f3 : d.out = ((numS V (st2 V) 2).2 : Nat) := by rw [hd]; rfl
  have f4 : d.inn = ((numS V (st3 V) 2).2 : Nat) := by rw [hd]; rfl
  have f5 : d.tsn = (numS V (st4 V) 4).2 := by rw [hd]; rfl
  have f6 : d.rand = r ∧ d.addrs = ms.map fourV ∧ d.info = i := by rw [hd]; exact ⟨rfl, rfl, rfl⟩
  have f7 : d.ptsn = 0 ∧ d.pstr = 0 ∧ d.pseq = 0 ∧ d.serial = 0 ∧ d.dups = [] ∧ flagN d.pb d.pe d.pu = 0 := by rw [hd]; exact ⟨rfl, rfl, rfl, rfl, rfl, rfl⟩
  refine ⟨f0, ?_, by rw [f7.2.2.2.2.2, hF], fit_good g (by rw [f7.1]; exact z0) (by rw [f7.2.1]; exact z1) (by rw [f7.2.2.1]; exact z1) (by rw [f1]; exact numS_u32 hV _) (by rw [f5]; exact numS_u32 hV _) (by rw [f7.2.2.2.1]; exact z0) (by rw [f7.2.2.2.2.1]; exact zero_dups)⟩
  unfold valB
  rw [if_neg (by rw [f0]; omega), if_pos (by rw [f0]; exact hk)]
  unfold startV
  rw [f0, f1, f2, f3, f4, f5, f6.1, f6.2.1, f6.2.2, w1, w2, w3, ← hL, hWb, ← eV]
 have hads : ∀ ms : List (List Nat), d.addrs = ms.map fourV → (∀ m ∈ ms, AllB m) → ms.map (fun m => ((5, m) : Par)) = pAddrs (ms.map fourV) := fun ms e hm => ms_addrs hm (by rw [← e]; exact ((yes_iff d).2 g).ads)
 rcases withS_12 hk rfl hw with rfl | ⟨r, ms, ⟨e1, e2⟩ | ⟨e0, m, e1, e2⟩⟩
 ·
  exfalso
  have := ((yes_iff _).2 g).beg hk
  have h1 := this.2.2.2.1.1
  simp [hdStart, ck0] at h1
 ·
  have hall : ∀ m ∈ ms, AllB m := fun m hm => (hg (5, m) (by rw [e1]; exact List.mem_cons_of_mem _ (List.mem_map.2 ⟨m, hm, rfl⟩))).2
  have ha := hads ms (by rw [e2]; simp [hdStart, ck0]) hall
  have h1 : ¬ (K : Int) = 2 := by
   intro h2
   have := ((yes_iff d).2 g).i1 (.inl (by rw [e2]; exact h2))
   rw [e2] at this
   simp [hdStart, ck0] at this
  refine key r ms [] (by rw [e2]; simp [hdStart, ck0]) ?_
  rw [if_neg h1, e1, writeB_cons, ha, List.append_nil]
 ·
  have hall : ∀ m ∈ ms, AllB m := fun m' hm => (hg (5, m') (by rw [e1]; exact List.mem_cons_of_mem _ (List.mem_append_left _ (List.mem_map.2 ⟨m', hm, rfl⟩)))).2
  have ha := hads ms (by rw [e2]; simp [hdStart, ck0]) hall
  refine key r ms m (by rw [e2]; simp [hdStart, ck0]) ?_
  rw [if_pos e0, e1, writeB_cons, ha, writeB_app]
  simp [writeB]
theorem sack_inv {V : List Nat} (hV : AllB V) {p : Nat} (h : dS V = some p) : p ≤ V.length ∧ V = be (numS V (some 0) 4).2 4 ++ (be (numS V (st1 V) 4).2 4 ++ (be (nG V) 2 ++ (be (nD V) 2 ++ (gapV (docSack V).gaps ++ (dupV (docSack V).dups ++ V.drop p))))) := by
 obtain ⟨pg, hg⟩ := dupsS_some h
 obtain ⟨p4, h4⟩ := gapsS_some hg
 have h4a := h4
 obtain ⟨p3, h3⟩ := num_some h4
 obtain ⟨p2, h2⟩ := num_some h3
 obtain ⟨p1, h1⟩ := num_some h2
 obtain ⟨e1, l1, d1⟩ := num4_inv hV h1
 have s1 : st1 V = some (0 + 4) := by rw [h1, e1]
 unfold st2 at h2; rw [s1] at h2
 obtain ⟨e2, l2, d2⟩ := num4_inv hV h2
 have s2 : st2 V = some (0 + 4 + 4) := by unfold st2; rw [s1, h2, e2]
 unfold st3 at h3; rw [s2] at h3
 obtain ⟨e3, l3, d3⟩ := num2_inv hV h3
 have s3 : st3 V = some (0 + 4 + 4 + 2) := by unfold st3; rw [s2, h3, e3]
 unfold st4 at h4; rw [s3] at h4
 obtain ⟨e4, l4, d4⟩ := num2_inv hV h4
 have s4 : st4 V = some (0 + 4 + 4 + 2 + 2) := by unfold st4; rw [s3, h4, e4]
 unfold gS at hg; rw [s4] at hg
 obtain ⟨e5, l5, d5⟩ := gaps_inv hV l4 _ _ hg
 have s5 : gS V = some pg := by unfold gS; rw [s4]; exact hg
 unfold dS at h; rw [s5] at h
 obtain ⟨e6, l6, d6⟩ := dups_inv hV l5 _ _ h
 refine ⟨l6, ?_⟩
 have g1 : (docSack V).gaps = (gapsS V (some (0 + 4 + 4 + 2 + 2)) (nG V)).2 := by unfold docSack; rw [s4]
 have g2 : (docSack V).dups = (dupsS V (some pg) (nD V)).2 := by unfold docSack; rw [s5]
 have g3 : nG V = (numS V (some (0 + 4 + 4)) 2).2 := by unfold nG; rw [s2]
 have g4 : nD V = (numS V (some (0 + 4 + 4 + 2)) 2).2 := by unfold nD; rw [s3]
 rw [g1, g2, s1]
 conv => lhs; rw [← List.drop_zero (l := V), d1, d2, d3, ← g3, d4, ← g4, d5, d6]
theorem sound_3 {F : Nat} {V : List Nat} {d : Ck} (hV : AllB V) (h : finS (docSack V) F V (dS V) = some d) (g : GoodC d) : Reads 3 F V d := by
 obtain ⟨hF, a, L, hs, hr, hw⟩ := finS_inv h
 obtain ⟨hL, rfl⟩ := withS_none (show (docSack V).kind ≠ 1 ∧ _ from by simp [docSack, hdSack, ck0]) hw
 obtain ⟨la, eV⟩ := sack_inv hV hs
 have hnil := readAll_empty (hV.drop a) (by rw [hr, hL])
 have hdl : ∀ x ∈ (docSack V).dups, x < 4294967296 := by
  have key : ∀ (n : Nat) (s : Option Nat), ∀ x ∈ (dupsS V s n).2, x < 4294967296 := by
   intro n s
   induction n with
   | zero => intro x hx; cases hx
   | succ n ih =>
    intro x hx
    have hx' : x ∈ (dupsS V s n).2 ++ [(numS V (dupsS V s n).1 4).2] := hx
    rcases List.mem_append.1 hx' with h | h
    ·
     exact ih x h
    ·
     rw [List.mem_singleton] at h; subst h; exact numS_u32 hV _
  exact key _ _
 refine ⟨rfl, ?_, hF.symm, fit_good g z0 z1 z1 z0 (numS_u32 hV _) z0 hdl⟩
 have hgl : (docSack V).gaps.length = nG V := gapsQ_len V _ _
 have hdl2 : (docSack V).dups.length = nD V := dupsQ_len V _ _
 unfold valB
 rw [if_neg (show ¬ (docSack V).kind = 0 by simp [docSack, hdSack, ck0]), if_neg (show ¬ ((docSack V).kind = 1 ∨ (docSack V).kind = 2) by simp [docSack, hdSack, ck0]), if_pos (show (docSack V).kind = 3 from rfl)]
 unfold sackV
 rw [hgl, hdl2]
 show be (numS V (some 0) 4).2 4 ++ (be ((numS V (st1 V) 4).2 : Int).toNat 4 ++ _) = V
 rw [Int.toNat_natCast]
 conv => rhs; rw [eV]
 rw [hnil, List.append_nil]
theorem valB_69 {c : Ck} (h : c.kind = 6 ∨ c.kind = 9) : valB c = be c.cause.toNat 2 ++ be 4 2 := by
 unfold valB
 rw [if_neg (by omega), if_neg (by omega), if_neg (by omega), if_neg (by omega), if_pos h]
theorem valB_1015 {c : Ck} (h : c.kind = 10 ∨ c.kind = 15) : valB c = c.info := by
 unfold valB
 rw [if_neg (by omega), if_neg (by omega), if_neg (by omega), if_neg (by omega), if_neg (by omega), if_neg (by omega), if_pos h]
theorem sound_45 {K F : Nat} {V : List Nat} {d : Ck} (hK : K = 4 ∨ K = 5) (hV : AllB V) (h : finS (ck0 (K : Int)) F V (some 0) = some d) (g : GoodC d) : Reads K F V d := by
 obtain ⟨hF, a, L, hs, hr, hw⟩ := finS_inv h
 cases hs
 rw [List.drop_zero] at hr
 obtain ⟨hg, hWb⟩ := readAll_some V.length V L (Nat.le_refl _) hV hr
 rcases withS_45 (show (ck0 (K : Int)).kind = 4 ∨ (ck0 (K : Int)).kind = 5 from by show (K : Int) = 4 ∨ (K : Int) = 5; omega) rfl hw with ⟨_, rfl⟩ | ⟨m, e1, e2⟩
 ·
  exfalso
  have := ((yes_iff _).2 g).i1 (by show (K : Int) = 2 ∨ (K : Int) = 4 ∨ (K : Int) = 5 ∨ (K : Int) = 10; omega)
  have h1 := this.1
  simp [ck0] at h1
 ·
  have f0 : d.kind = (K : Int) := by rw [e2]; rfl
  have f1 : d.info = m := by rw [e2]
  have f7 : d.ptsn = 0 ∧ d.pstr = 0 ∧ d.pseq = 0 ∧ d.serial = 0 ∧ d.dups = [] ∧ flagN d.pb d.pe d.pu = 0 ∧ d.tag = 0 ∧ d.tsn = 0 := by rw [e2]; exact ⟨rfl, rfl, rfl, rfl, rfl, rfl, rfl, rfl⟩
  refine ⟨f0, ?_, by rw [f7.2.2.2.2.2.1, hF], fit_good g (by rw [f7.1]; exact z0) (by rw [f7.2.1]; exact z1) (by rw [f7.2.2.1]; exact z1) (by rw [f7.2.2.2.2.2.2.1]; exact z0) (by rw [f7.2.2.2.2.2.2.2]; exact z0) (by rw [f7.2.2.2.1]; exact z0) (by rw [f7.2.2.2.2.1]; exact zero_dups)⟩
  unfold valB
  rw [if_neg (by rw [f0]; omega), if_neg (by rw [f0]; omega), if_neg (by rw [f0]; omega), if_pos (by rw [f0]; omega), f1, ← hWb, e1]
  simp [writeB]
theorem sound_flat {K F : Nat} {V : List Nat} {c d : Ck} {s : Option Nat} (hV : AllB V) (hk : c.kind = (K : Int)) (hkk : (K : Int) ≠ 1 ∧ (K : Int) ≠ 2 ∧ (K : Int) ≠ 4 ∧ (K : Int) ≠ 5 ∧ (K : Int) ≠ 193) (h : finS c F V s = some d) (g : GoodC d)
  (hz : c.ptsn = 0 ∧ c.pstr = 0 ∧ c.pseq = 0 ∧ c.tag = 0 ∧ c.dups = [] ∧ flagN c.pb c.pe c.pu = 0) (ht : c.tsn < 4294967296) (hse : c.serial < 4294967296) (hval : ∀ a, s = some a → V.drop a = [] → valB c = V) : Reads K F V d := by
 obtain ⟨hF, a, L, hs, hr, hw⟩ := finS_inv h
 rw [hk] at hw
 obtain ⟨hL, rfl⟩ := withS_none hkk hw
 have hnil := readAll_empty (hV.drop a) (by rw [hr, hL])
 exact ⟨hk, hval a hs hnil, by rw [hz.2.2.2.2.2, hF], fit_good g (by rw [hz.1]; exact z0) (by rw [hz.2.1]; exact z1) (by rw [hz.2.2.1]; exact z1) (by rw [hz.2.2.2.1]; exact z0) ht hse (by rw [hz.2.2.2.2.1]; exact zero_dups)⟩
theorem sound_69 {K F : Nat} {V : List Nat} {d : Ck} (hK : K = 6 ∨ K = 9) (hV : AllB V) (h4 : ¬ (numS V (ca1 V) 2).2 ≠ 4) (h : finS { ck0 (K : Int) with cause := ((numS V (some 0) 2).2 : Nat) } F V (ca2 V) = some d) (g : GoodC d) : Reads K F V d := by
 refine sound_flat hV rfl (by omega) h g ⟨rfl, rfl, rfl, rfl, rfl, rfl⟩ z0 z0 fun a hs hnil => ?_
 have h4' : (numS V (ca1 V) 2).2 = 4 := Decidable.not_not.1 h4
 obtain ⟨p1, h1⟩ := num_some hs
 obtain ⟨e1, l1, d1⟩ := num2_inv hV h1
 have s1 : ca1 V = some (0 + 2) := by rw [h1, e1]
 unfold ca2 at hs; rw [s1] at hs
 obtain ⟨e2, l2, d2⟩ := num2_inv hV hs
 rw [s1] at h4'
 rw [valB_69 (show (K : Int) = 6 ∨ (K : Int) = 9 by omega)]
 show be (((numS V (some 0) 2).2 : Nat) : Int).toNat 2 ++ be 4 2 = V
 conv => rhs; rw [← List.drop_zero (l := V), d1, d2, h4', ← e2, hnil, List.append_nil]
 rw [Int.toNat_natCast]
theorem sound_7 {F : Nat} {V : List Nat} {d : Ck} (hV : AllB V) (h : finS { ck0 7 with tsn := (numS V (some 0) 4).2 } F V (st1 V) = some d) (g : GoodC d) : Reads 7 F V d := by
 refine sound_flat hV rfl (by decide) h g ⟨rfl, rfl, rfl, rfl, rfl, rfl⟩ (numS_u32 hV _) z0 fun a hs hnil => ?_
 obtain ⟨e1, l1, d1⟩ := num4_inv hV hs
 show be (numS V (some 0) 4).2 4 = V
 conv => rhs; rw [← List.drop_zero (l := V), d1, ← e1, hnil, List.append_nil]
theorem sound_1015 {K F : Nat} {V : List Nat} {d : Ck} (hK : K = 10 ∨ K = 15) (hV : AllB V) (h : finS { ck0 (K : Int) with info := rdRest V (some 0) } F V (rdRestS V (some 0)) = some d) (g : GoodC d) : Reads K F V d := by
 refine sound_flat hV rfl (by omega) h g ⟨rfl, rfl, rfl, rfl, rfl, rfl⟩ z0 z0 fun a hs hnil => ?_
 rw [valB_1015 (show (K : Int) = 10 ∨ (K : Int) = 15 by omega)]
 exact rest_0 V
theorem sound_128 {F : Nat} {V : List Nat} {d : Ck} (hV : AllB V) (h1 : ¬ 1 < (numS V (st1 V) 4).2) (h : finS { ck0 128 with serial := (numS V (some 0) 4).2, ok := decide ((numS V (st1 V) 4).2 = 1) } F V (st2 V) = some d) (g : GoodC d) : Reads 128 F V d := by
 refine sound_flat hV rfl (by decide) h g ⟨rfl, rfl, rfl, rfl, rfl, rfl⟩ z0 (numS_u32 hV _) fun a hs hnil => ?_
 obtain ⟨p1, h2⟩ := num_some hs
 obtain ⟨e1, l1, d1⟩ := num4_inv hV h2
 have s1 : st1 V = some (0 + 4) := by rw [h2, e1]
 unfold st2 at hs; rw [s1] at hs
 obtain ⟨e2, l2, d2⟩ := num4_inv hV hs
 rw [s1] at h1
 rw [s1]
 have hx : (numS V (some (0 + 4)) 4).2 = if (decide ((numS V (some (0 + 4)) 4).2 = 1)) = true then 1 else 0 := by
  rcases (show (numS V (some (0 + 4)) 4).2 = 0 ∨ (numS V (some (0 + 4)) 4).2 = 1 by omega) with e | e <;> rw [e] <;> rfl
 show be (numS V (some 0) 4).2 4 ++ be (if (decide ((numS V (some (0 + 4)) 4).2 = 1)) = true then 1 else 0) 4 = V
 rw [← hx]
 conv => rhs; rw [← List.drop_zero (l := V), d1, d2, ← e2, hnil, List.append_nil]
theorem sound_none {K F : Nat} {V : List Nat} {d : Ck} (hK : K = 8 ∨ K = 11 ∨ K = 14) (hV : AllB V) (h : finS (ck0 (K : Int)) F V (some 0) = some d) (g : GoodC d) : Reads K F V d := by
 refine sound_flat hV rfl (by omega) h g ⟨rfl, rfl, rfl, rfl, rfl, rfl⟩ z0 z0 fun a hs hnil => ?_
 cases hs
 rw [List.drop_zero] at hnil
 rw [hnil]
 rcases hK with rfl | rfl | rfl <;> rfl
theorem sound_193 {F : Nat} {V : List Nat} {d : Ck} (hV : AllB V) (h : finS { ck0 193 with serial := (numS V (some 0) 4).2 } F V (st1 V) = some d) (g : GoodC d) : Reads 193 F V d := by
 obtain ⟨hF, a, L, hs, hr, hw⟩ := finS_inv h
 obtain ⟨e1, l1, d1⟩ := num4_inv hV hs
 obtain ⟨hg, hWb⟩ := readAll_some (V.drop a).length (V.drop a) L (Nat.le_refl _) (hV.drop a) hr
 have hw' : withS 193 L.length 0 { ck0 193 with serial := (numS V (some 0) 4).2 } L = some d := hw
 rw [withS_193] at hw'
 have e2 := (Option.some.inj hw').symm
 have f0 : d.kind = 193 := by rw [e2]; rfl
 have f1 : d.serial = (numS V (some 0) 4).2 := by rw [e2]
 have f2 : d.ops = L.map fun p => (p.1 - 49152, fourV p.2) := by rw [e2]; simp [ck0]
 have f7 : d.ptsn = 0 ∧ d.pstr = 0 ∧ d.pseq = 0 ∧ d.dups = [] ∧ flagN d.pb d.pe d.pu = 0 ∧ d.tag = 0 ∧ d.tsn = 0 := by rw [e2]; exact ⟨rfl, rfl, rfl, rfl, rfl, rfl, rfl⟩
 refine ⟨f0, ?_, by rw [f7.2.2.2.2.1, hF], fit_good g (by rw [f7.1]; exact z0) (by rw [f7.2.1]; exact z1) (by rw [f7.2.2.1]; exact z1) (by rw [f7.2.2.2.2.2.1]; exact z0) (by rw [f7.2.2.2.2.2.2]; exact z0) (by rw [f1]; exact numS_u32 hV _) (by rw [f7.2.2.2.1]; exact zero_dups)⟩
 have hops : L = pOps d.ops := by
  rw [f2]
  exact ms_ops (fun p hp => (hg p hp).2) (by rw [← f2]; exact ((yes_iff d).2 g).opsy)
 unfold valB
 rw [if_neg (by rw [f0]; decide), if_neg (by rw [f0]; decide), if_neg (by rw [f0]; decide), if_neg (by rw [f0]; decide), if_neg (by rw [f0]; decide), if_neg (by rw [f0]; decide), if_neg (by rw [f0]; decide), if_pos f0]
 unfold opsV
 rw [f1, ← hops, hWb]
 conv => rhs; rw [← List.drop_zero (l := V), d1, ← e1]
theorem docRd_sound {K F : Nat} {V : List Nat} {d : Ck} (hV : AllB V) (hK : knB (K : Int) = true) (h : docRd (K : Int) F V = some d) (g : GoodC d) : Reads K F V d := by
 have hc := knB_cases hK
 unfold docRd at h
 by_cases h0 : (K : Int) = 0
 ·
  rw [if_pos h0] at h
  have : K = 0 := by omega
  subst this
  exact sound_0 hV h g
 rw [if_neg h0] at h
 by_cases h1 : (K : Int) = 1 ∨ (K : Int) = 2
 ·
  rw [if_pos h1] at h
  exact sound_12 (by omega) hV h g
 rw [if_neg h1] at h
 by_cases h3 : (K : Int) = 3
 ·
  rw [if_pos h3] at h
  have : K = 3 := by omega
  subst this
  by_cases hb : 16 < nG V ∨ 16 < nD V
  ·
   rw [if_pos hb] at h; cases h
  ·
   rw [if_neg hb] at h; exact sound_3 hV h g
 rw [if_neg h3] at h
 by_cases h6 : (K : Int) = 6 ∨ (K : Int) = 9
 ·
  rw [if_pos h6] at h
  by_cases hb : (numS V (ca1 V) 2).2 ≠ 4
  ·
   rw [if_pos hb] at h; cases h
  ·
   rw [if_neg hb] at h; exact sound_69 (by omega) hV hb h g
 rw [if_neg h6] at h
 by_cases h7 : (K : Int) = 7
 ·
  rw [if_pos h7] at h
  have : K = 7 := by omega
  subst this
  exact sound_7 hV h g
 rw [if_neg h7] at h
 by_cases h10 : (K : Int) = 10 ∨ (K : Int) = 15
 ·
  rw [if_pos h10] at h
  exact sound_1015 (by omega) hV h g
 rw [if_neg h10] at h
 by_cases h193 : (K : Int) = 193
 ·
  rw [if_pos h193] at h
  have : K = 193 := by omega
  subst this
  exact sound_193 hV h g
 rw [if_neg h193] at h
 by_cases h128 : (K : Int) = 128
 ·
  rw [if_pos h128] at h
  have : K = 128 := by omega
  subst this
  by_cases hb : 1 < (numS V (st1 V) 4).2
  ·
   rw [if_pos hb] at h; cases h
  ·
   rw [if_neg hb] at h; exact sound_128 hV hb h g
 rw [if_neg h128] at h
 by_cases h45 : K = 4 ∨ K = 5
 ·
  exact sound_45 h45 hV h g
 ·
  exact sound_none (by omega) hV h g
theorem fourV_be {N : Nat} (h : N < 4294967296) : fourV (be N 4) = (N : Int) := by
 unfold fourV; rw [if_pos (be_len _ _), addrV_be h]
theorem withS_addrs {k : Int} (hk : k = 1 ∨ k = 2) {n : Nat} {M : List Par} : ∀ (A : List Int) (i : Nat) (c : Ck), 0 < i → adsB A = true → withS k n i c (pAddrs A ++ M) = withS k n (i + A.length) { c with addrs := c.addrs ++ A } M
 | [], i, c, _, _ => by simp [pAddrs]
 | a :: A, i, c, hi, h => by
  have h' : adB a = true ∧ adsB A = true := by simpa [adsB] using h
  obtain ⟨N, rfl, hN⟩ := adB_nat h'.1
  have e : withK k n i c (5, be (N : Int).toNat 4) = some { c with addrs := c.addrs ++ [(N : Int)] } := by
   unfold withK
   rw [if_neg (fun e => by have := e.2.1; omega), if_pos ⟨hk, hi, rfl⟩]
   simp only [Int.toNat_natCast, fourV_be (show N < 4294967296 by omega)]
  have ih := withS_addrs hk (n := n) (M := M) A (i + 1) { c with addrs := c.addrs ++ [(N : Int)] } (by omega) h'.2
  have e2 : pAddrs ((N : Int) :: A) ++ M = (5, be (N : Int).toNat 4) :: (pAddrs A ++ M) := by simp [pAddrs]
  rw [e2, withS, e]
  simp only
  rw [ih, List.length_cons, show i + 1 + A.length = i + (A.length + 1) by omega]
  simp
theorem withS_startP {c : Ck} {k : Int} (hk : k = 1 ∨ k = 2) (hck : c.kind = k) (ha : adsB c.addrs = true) (d : Ck) (hd : d.addrs = []) : withS k (startP c).length 0 d (startP c) = some (if k = 2 then { d with rand := c.rand, addrs := c.addrs, info := c.info } else { d with rand := c.rand, addrs := c.addrs }) := by
 unfold startP
 rw [hck, withS]
 have e : ∀ n, withK k n 0 d (32770, c.rand) = some { d with rand := c.rand } := by
  intro n; unfold withK; rw [if_pos ⟨hk, rfl, rfl⟩]
 rw [e]
 simp only
 rw [withS_addrs hk _ _ _ (by decide) ha]
 by_cases h2 : k = 2
 ·
  rw [if_pos h2, if_pos h2, withS]
  have e7 : ∀ D : Ck, withK k ((32770, c.rand) :: (pAddrs c.addrs ++ [((7 : Int), c.info)])).length (0 + 1 + c.addrs.length) D (7, c.info) = some { D with info := c.info } := by
   intro D; unfold withK
   rw [if_neg (fun e => by have := e.2.1; omega), if_neg (fun e => by exact absurd (show (7 : Int) = 5 from e.2.2) (by decide)), if_pos ⟨h2, by omega, by simp [pAddrs]; omega, rfl⟩]
  rw [e7]
  simp only [withS, hd, List.nil_append]
 ·
  rw [if_neg h2, if_neg h2, withS, hd]
  simp only [List.nil_append]
theorem withS_ops {n : Nat} {c : Ck} {O : List (Int × Int)} (h : opsB O = true) : withS 193 n 0 c (pOps O) = some { c with ops := c.ops ++ O } := by
 rw [withS_193]
 congr 2
 congr 1
 unfold pOps
 rw [List.map_map]
 conv => rhs; rw [← List.map_id O]
 refine List.map_congr_left fun p hp => ?_
 obtain ⟨_, N, hN, hl⟩ := opB_at (List.all_eq_true.1 h p hp)
 obtain ⟨k, y⟩ := p
 dsimp only at hN
 subst hN
 simp only [Function.comp, Int.toNat_natCast, fourV_be (show N < 4294967296 by omega), id]
 rw [show 49152 + k - 49152 = k by omega]
theorem drop_at {P R V : List Nat} {a : Nat} (h : V = P ++ R) (ha : a = P.length) : V.drop a = R := by
 subst h ha; exact List.drop_left
theorem finS_end {c : Ck} {V : List Nat} {a : Nat} (h : a = V.length) : finS c 0 V (some a) = some c := by
 subst h
 exact finS_at (L := []) (by rw [List.drop_length]; exact readAll_nil) rfl
theorem done_0 {c : Ck} (h : GoodC c) (hf : Fit c) (hk : c.kind = 0) : finS (rdPiece (flagN c.pb c.pe c.pu) (valB c)) (flagN c.pb c.pe c.pu / 8) (valB c) (rdRestS (valB c) (pieceS (valB c))) = some c := by
 have hV : valB c = be c.ptsn 4 ++ (be c.pstr 2 ++ (be c.pseq 2 ++ c.text)) := by simp [valB, hk]
 have n1 : numS (valB c) (some 0) 4 = (some 4, c.ptsn) := num4_at (P := []) hf.ptsn hV rfl
 have n2 : numS (valB c) (some 4) 2 = (some 6, c.pstr) := num2_at (P := be c.ptsn 4) hf.pstr hV rfl
 have n3 : numS (valB c) (some 6) 2 = (some 8, c.pseq) := num2_at (P := be c.ptsn 4 ++ be c.pstr 2) hf.pseq (by rw [hV]; simp only [List.append_assoc]; try rfl) rfl
 have n4 := (rest_at (P := be c.ptsn 4 ++ (be c.pstr 2 ++ be c.pseq 2)) (R := c.text) (B := valB c) (a := 8) (by rw [hV]; simp only [List.append_assoc]; try rfl) rfl).2
 have s : pieceS (valB c) = some 8 := by unfold pieceS; rw [n1]; dsimp only; rw [n2]; dsimp only; rw [n3]
 have f : flagN c.pb c.pe c.pu / 8 = 0 := by cases c.pb <;> cases c.pe <;> cases c.pu <;> rfl
 rw [rd_0 h hf hk, f, s, n4]
 exact finS_end rfl
theorem done_12 {c : Ck} (h : GoodC c) (hf : Fit c) (hk : c.kind = 1 ∨ c.kind = 2) : finS (hdStart c.kind (valB c)) (flagN c.pb c.pe c.pu) (valB c) (st5 (valB c)) = some c := by
 have hV : valB c = startV c := by rcases hk with hk | hk <;> simp [valB, hk]
 have hs : StartC c := hk.elim (good_1 h) (fun e => (good_2 h e).1)
 obtain ⟨h1, h2⟩ := start_at (k := c.kind) hs hf hV
 have w := nat_of (m := 2147483647) hs.win
 have o := nat_of (x := c.out) (m := 8) (by have := hs.out; omega)
 have i := nat_of (x := c.inn) (m := 8) (by have := hs.inn; omega)
 have e : valB c = be c.tag 4 ++ (be c.win.toNat 4 ++ (be c.out.toNat 2 ++ (be c.inn.toNat 2 ++ (be c.tsn 4 ++ writeB (startP c))))) := by rw [hV, startV, startP_write]
 have n1 : numS (valB c) (some 0) 4 = (some 4, c.tag) := num4_at (P := []) hf.tag e rfl
 have n2 : numS (valB c) (some 4) 4 = (some 8, c.win.toNat) := num4_at (P := be c.tag 4) (by omega) e rfl
 have n3 : numS (valB c) (some 8) 2 = (some 10, c.out.toNat) := num2_at (P := be c.tag 4 ++ be c.win.toNat 4) (by omega) (by rw [e]; simp only [List.append_assoc]; try rfl) rfl
 have n4 : numS (valB c) (some 10) 2 = (some 12, c.inn.toNat) := num2_at (P := be c.tag 4 ++ (be c.win.toNat 4 ++ be c.out.toNat 2)) (by omega) (by rw [e]; simp only [List.append_assoc]; try rfl) rfl
 have n5 : numS (valB c) (some 12) 4 = (some 16, c.tsn) := num4_at (P := be c.tag 4 ++ (be c.win.toNat 4 ++ (be c.out.toNat 2 ++ be c.inn.toNat 2))) hf.tsn (by rw [e]; simp only [List.append_assoc]; try rfl) rfl
 have s1 : st1 (valB c) = some 4 := by unfold st1; rw [n1]
 have s2 : st2 (valB c) = some 8 := by unfold st2; rw [s1, n2]
 have s3 : st3 (valB c) = some 10 := by unfold st3; rw [s2, n3]
 have s4 : st4 (valB c) = some 12 := by unfold st4; rw [s3, n4]
 have s5 : st5 (valB c) = some 16 := by unfold st5; rw [s4, n5]
 have hd : (valB c).drop 16 = writeB (startP c) := drop_at (P := be c.tag 4 ++ (be c.win.toNat 4 ++ (be c.out.toNat 2 ++ (be c.inn.toNat 2 ++ be c.tsn 4)))) (by rw [e]; simp only [List.append_assoc]; try rfl) rfl
 have hr : readAll ((valB c).drop 16) = some (startP c) := by rw [hd, readAll_write _ (startP_good hs.rand.2 (fun e => (good_2 h e).2.2))]
 have hu := h.use
 have hfl : flagN c.pb c.pe c.pu = 0 := by
  rcases hk with hk | hk
  ·
   rw [usedC_1 hk] at hu; rw [hu]; rfl
  ·
   rw [usedC_2 hk] at hu; rw [hu]; rfl
 rw [h1, s5, hfl]
 refine finS_at hr ?_
 have hw := withS_startP (c := c) hk rfl hs.ads { ck0 c.kind with tag := c.tag, win := c.win, out := c.out, inn := c.inn, tsn := c.tsn } rfl
 refine Eq.trans hw ?_
 congr 1
 rcases hk with hk | hk
 ·
  rw [usedC_1 hk] at hu
  rw [hk, if_neg (by decide)]
  exact hu.symm
 ·
  rw [usedC_2 hk] at hu
  rw [hk, if_pos rfl]
  exact hu.symm
theorem done_3 {c : Ck} (h : GoodC c) (hf : Fit c) (hk : c.kind = 3) : ¬ (16 < nG (valB c) ∨ 16 < nD (valB c)) ∧ finS (docSack (valB c)) (flagN c.pb c.pe c.pu) (valB c) (dS (valB c)) = some c := by
 obtain ⟨hw, hgb, hgn, hdn⟩ := good_3 h hk
 have hb := gapsB_at c.gaps (-1) (by omega) hgb
 have hg : ∀ p ∈ c.gaps, (0 ≤ p.1 ∧ p.1 ≤ 65535) ∧ (0 ≤ p.2 ∧ p.2 ≤ 65535) := by
  intro p hp
  obtain ⟨k, hk', rfl⟩ := List.getElem_of_mem hp
  have := hb k hk'
  simp only [List.getD_eq_getElem?_getD, List.getElem?_eq_getElem hk', Option.getD_some] at this
  omega
 have hu := h.use
 rw [usedC_3 hk] at hu
 have hV : valB c = sackV c := by simp [valB, hk]
 obtain ⟨V, hVV⟩ : ∃ V, V = valB c := ⟨_, rfl⟩
 rw [← hVV] at hV ⊢
 have w := nat_of (m := 2147483647) hw
 have e : V = be c.tsn 4 ++ (be c.win.toNat 4 ++ (be c.gaps.length 2 ++ (be c.dups.length 2 ++ (gapV c.gaps ++ dupV c.dups)))) := by rw [hV, sackV]
 have n1 : numS V (some 0) 4 = (some 4, c.tsn) := num4_at (P := []) hf.tsn e rfl
 have n2 : numS V (some 4) 4 = (some 8, c.win.toNat) := num4_at (P := be c.tsn 4) (by omega) e rfl
 have n3 : numS V (some 8) 2 = (some 10, c.gaps.length) := num2_at (P := be c.tsn 4 ++ be c.win.toNat 4) (by omega) (by rw [e]; simp only [List.append_assoc]; try rfl) rfl
 have n4 : numS V (some 10) 2 = (some 12, c.dups.length) := num2_at (P := be c.tsn 4 ++ (be c.win.toNat 4 ++ be c.gaps.length 2)) (by omega) (by rw [e]; simp only [List.append_assoc]; try rfl) rfl
 have s1 : st1 V = some 4 := by unfold st1; rw [n1]
 have s2 : st2 V = some 8 := by unfold st2; rw [s1, n2]
 have s3 : st3 V = some 10 := by unfold st3; rw [s2, n3]
 have s4 : st4 V = some 12 := by unfold st4; rw [s3, n4]
 obtain ⟨H, hH⟩ : ∃ H, H = be c.tsn 4 ++ (be c.win.toNat 4 ++ (be c.gaps.length 2 ++ be c.dups.length 2)) := ⟨_, rfl⟩
 have hHl : H.length = 12 := by rw [hH]; simp only [List.length_append, be_len]
 have e2 : V = H ++ (gapV c.gaps ++ dupV c.dups) := by rw [e, hH]; simp only [List.append_assoc]
 have g0 : nG V = c.gaps.length := by unfold nG; rw [s2, n3]
 have d0 : nD V = c.dups.length := by unfold nD; rw [s3, n4]
 have g1 := gapsS_at c.gaps c.gaps hg e2 hHl.symm c.gaps.length (Nat.le_refl _)
 have g2 : gS V = some (12 + 4 * c.gaps.length) := by unfold gS; rw [s4, g0, g1]
 have e3 : V = (H ++ gapV c.gaps) ++ (dupV c.dups ++ []) := by rw [e2]; simp only [List.append_assoc, List.append_nil]
 have hHl2 : 12 + 4 * c.gaps.length = (H ++ gapV c.gaps).length := by rw [List.length_append, gapV_len, hHl]
 have d1 := dupsS_at c.dups hf.dups e3 hHl2 c.dups.length (Nat.le_refl _)
 have d2 : dS V = some (12 + 4 * c.gaps.length + 4 * c.dups.length) := by unfold dS; rw [g2, d0, d1]
 have hfl : flagN c.pb c.pe c.pu = 0 := by rw [hu]; rfl
 refine ⟨by rw [g0, d0]; omega, ?_⟩
 have hd : docSack V = c := by
  unfold docSack hdSack
  rw [s4, g0, g1, g2, d0, d1, s1, n1, n2]
  simp only [List.take_length, w.1]
  exact hu.symm
 rw [hd, hfl, d2]
 refine finS_end ?_
 rw [e2, List.length_append, List.length_append, gapV_len, dupV_len, hHl]
 omega
theorem done_69 {c : Ck} (h : GoodC c) (hf : Fit c) (hk : c.kind = 6 ∨ c.kind = 9) : ¬ (numS (valB c) (ca1 (valB c)) 2).2 ≠ 4 ∧ finS { ck0 c.kind with cause := ((numS (valB c) (some 0) 2).2 : Nat) } (flagN c.pb c.pe c.pu) (valB c) (ca2 (valB c)) = some c := by
 have hg := good_cause h hk
 have x := nat_of (m := 65535) hg
 have e : valB c = be c.cause.toNat 2 ++ (be 4 2 ++ []) := by rw [valB_69 hk, List.append_nil]
 have n1 : numS (valB c) (some 0) 2 = (some 2, c.cause.toNat) := num2_0 (by omega) e
 have n2 : numS (valB c) (some 2) 2 = (some 4, 4) := num2_at (P := be c.cause.toNat 2) (by decide) e rfl
 have s1 : ca1 (valB c) = some 2 := by unfold ca1; rw [n1]
 have s2 : ca2 (valB c) = some 4 := by unfold ca2; rw [s1, n2]
 have hu := h.use
 have hfl : flagN c.pb c.pe c.pu = 0 := by
  rcases hk with hk | hk
  ·
   rw [usedC_6 hk] at hu; rw [hu]; rfl
  ·
   rw [usedC_9 hk] at hu; rw [hu]; rfl
 refine ⟨by rw [s1, n2]; simp, ?_⟩
 rw [s2, n1, hfl, x.1]
 refine (finS_end (by rw [e]; simp [be_len])).trans ?_
 congr 1
 rcases hk with hk | hk
 ·
  rw [usedC_6 hk] at hu; rw [hk]; exact hu.symm
 ·
  rw [usedC_9 hk] at hu; rw [hk]; exact hu.symm
theorem done_7 {c : Ck} (h : GoodC c) (hf : Fit c) (hk : c.kind = 7) : finS { ck0 c.kind with tsn := (numS (valB c) (some 0) 4).2 } (flagN c.pb c.pe c.pu) (valB c) (st1 (valB c)) = some c := by
 have e : valB c = be c.tsn 4 ++ [] := by simp [valB, hk]
 have n1 : numS (valB c) (some 0) 4 = (some 4, c.tsn) := num4_0 hf.tsn e
 have hu := h.use
 rw [usedC_7 hk] at hu
 have hfl : flagN c.pb c.pe c.pu = 0 := by rw [hu]; rfl
 unfold st1
 rw [n1, hfl, hk]
 refine (finS_end (by rw [e]; simp [be_len])).trans ?_
 congr 1
 exact hu.symm
theorem done_1015 {c : Ck} (h : GoodC c) (hf : Fit c) (hk : c.kind = 10 ∨ c.kind = 15) : finS { ck0 c.kind with info := rdRest (valB c) (some 0) } (flagN c.pb c.pe c.pu) (valB c) (rdRestS (valB c) (some 0)) = some c := by
 have hu := h.use
 have hfl : flagN c.pb c.pe c.pu = 0 := by
  rcases hk with hk | hk
  ·
   rw [usedC_10 hk] at hu; rw [hu]; rfl
  ·
   rw [usedC_15 hk] at hu; rw [hu]; rfl
 rw [rest_0, (rest_at (P := []) (R := valB c) (B := valB c) (a := 0) rfl rfl).2, hfl]
 refine (finS_end rfl).trans ?_
 congr 1
 rw [valB_1015 hk]
 rcases hk with hk | hk
 ·
  rw [usedC_10 hk] at hu; rw [hk]; exact hu.symm
 ·
  rw [usedC_15 hk] at hu; rw [hk]; exact hu.symm
theorem done_128 {c : Ck} (h : GoodC c) (hf : Fit c) (hk : c.kind = 128) : ¬ 1 < (numS (valB c) (st1 (valB c)) 4).2 ∧ finS { ck0 c.kind with serial := (numS (valB c) (some 0) 4).2, ok := decide ((numS (valB c) (st1 (valB c)) 4).2 = 1) } (flagN c.pb c.pe c.pu) (valB c) (st2 (valB c)) = some c := by
 have e : valB c = be c.serial 4 ++ (be (if c.ok = true then 1 else 0) 4 ++ []) := by simp [valB, hk]
 have n1 : numS (valB c) (some 0) 4 = (some 4, c.serial) := num4_at (P := []) hf.serial e rfl
 have n2 : numS (valB c) (some 4) 4 = (some 8, if c.ok = true then 1 else 0) := num4_at (P := be c.serial 4) (by split <;> decide) e rfl
 have s1 : st1 (valB c) = some 4 := by unfold st1; rw [n1]
 have s2 : st2 (valB c) = some 8 := by unfold st2; rw [s1, n2]
 have hu := h.use
 rw [usedC_128 hk] at hu
 have hfl : flagN c.pb c.pe c.pu = 0 := by rw [hu]; rfl
 refine ⟨by rw [s1, n2]; cases c.ok <;> decide, ?_⟩
 rw [s1, s2, n1, n2, hfl, hk]
 refine (finS_end (by rw [e]; simp [be_len])).trans ?_
 congr 1
 refine Eq.trans ?_ hu.symm
 cases c.ok <;> rfl
theorem done_193 {c : Ck} (h : GoodC c) (hf : Fit c) (hk : c.kind = 193) : finS { ck0 c.kind with serial := (numS (valB c) (some 0) 4).2 } (flagN c.pb c.pe c.pu) (valB c) (st1 (valB c)) = some c := by
 have hg := good_193 h hk
 have e : valB c = be c.serial 4 ++ (writeB (pOps c.ops)) := by simp [valB, hk, opsV]
 have n1 : numS (valB c) (some 0) 4 = (some 4, c.serial) := num4_at (P := []) hf.serial e rfl
 have hu := h.use
 rw [usedC_193 hk] at hu
 have hfl : flagN c.pb c.pe c.pu = 0 := by rw [hu]; rfl
 unfold st1
 rw [n1, hfl, hk]
 refine (finS_at (L := pOps c.ops) (by rw [drop_at (a := 4) e rfl, readAll_write _ (pOps_good hg.2)]) (withS_ops hg.2)).trans ?_
 congr 1
 refine Eq.trans ?_ hu.symm
 simp [ck0]
theorem done_45 {c : Ck} (h : GoodC c) (hf : Fit c) (hk : c.kind = 4 ∨ c.kind = 5) : finS (ck0 c.kind) (flagN c.pb c.pe c.pu) (valB c) (some 0) = some c := by
 have hV : valB c = writeB [((1 : Int), c.info)] := by rw [writeB_one]; rcases hk with hk | hk <;> simp [valB, hk]
 have hu := h.use
 have hfl : flagN c.pb c.pe c.pu = 0 := by
  rcases hk with hk | hk
  ·
   rw [usedC_4 hk] at hu; rw [hu]; rfl
  ·
   rw [usedC_5 hk] at hu; rw [hu]; rfl
 rw [hfl]
 refine (finS_at (L := [((1 : Int), c.info)]) (d := { ck0 c.kind with info := c.info }) (by rw [List.drop_zero, hV, readAll_write _ (fun p hp => by simp at hp; subst hp; exact goodPar (by decide) (by have := good_info h (by omega); omega))]) ?_).trans ?_
 ·
  show withS c.kind 1 0 (ck0 c.kind) [((1 : Int), c.info)] = _
  have e : withK c.kind 1 0 (ck0 c.kind) ((1 : Int), c.info) = some { ck0 c.kind with info := c.info } := by
   unfold withK
   rw [if_neg (fun e => by have := e.1; omega), if_neg (fun e => by have := e.1; omega), if_neg (fun e => by have := e.1; omega), if_pos ⟨hk, rfl, rfl, rfl⟩]
  rw [withS, e]
  rfl
 ·
  congr 1
  rcases hk with hk | hk
  ·
   rw [usedC_4 hk] at hu; rw [hk]; exact hu.symm
  ·
   rw [usedC_5 hk] at hu; rw [hk]; exact hu.symm
theorem done_none {c : Ck} (h : GoodC c) (hk : c.kind = 8 ∨ c.kind = 11 ∨ c.kind = 14) : finS (ck0 c.kind) (flagN c.pb c.pe c.pu) (valB c) (some 0) = some c := by
 have hu := h.use
 have hu8 : usedC c = ck0 c.kind := by rcases hk with hk | hk | hk <;> simp [usedC, hk]
 rw [hu8] at hu
 have hfl : flagN c.pb c.pe c.pu = 0 := by rw [hu]; rfl
 have hV : valB c = [] := by rcases hk with hk | hk | hk <;> simp [valB, hk]
 rw [hfl, hV, ← hu]
 exact finS_end rfl
theorem docRd_done {c : Ck} (h : GoodC c) (hf : Fit c) : docRd c.kind (flagN c.pb c.pe c.pu) (valB c) = some c := by
 have hc := knB_cases h.kn
 unfold docRd
 by_cases h0 : c.kind = 0
 ·
  rw [if_pos h0]; exact done_0 h hf h0
 rw [if_neg h0]
 by_cases h1 : c.kind = 1 ∨ c.kind = 2
 ·
  rw [if_pos h1]; exact done_12 h hf h1
 rw [if_neg h1]
 by_cases h3 : c.kind = 3
 ·
  rw [if_pos h3, if_neg (done_3 h hf h3).1]; exact (done_3 h hf h3).2
 rw [if_neg h3]
 by_cases h6 : c.kind = 6 ∨ c.kind = 9
 ·
  rw [if_pos h6, if_neg (done_69 h hf h6).1]; exact (done_69 h hf h6).2
 rw [if_neg h6]
 by_cases h7 : c.kind = 7
 ·
  rw [if_pos h7]; exact done_7 h hf h7
 rw [if_neg h7]
 by_cases h10 : c.kind = 10 ∨ c.kind = 15
 ·
  rw [if_pos h10]; exact done_1015 h hf h10
 rw [if_neg h10]
 by_cases h193 : c.kind = 193
 ·
  rw [if_pos h193]; exact done_193 h hf h193
 rw [if_neg h193]
 by_cases h128 : c.kind = 128
 ·
  rw [if_pos h128, if_neg (done_128 h hf h128).1]; exact (done_128 h hf h128).2
 rw [if_neg h128]
 by_cases h45 : c.kind = 4 ∨ c.kind = 5
 ·
  exact done_45 h hf h45
 ·
  exact done_none h (by omega)
theorem wl_setR {w0 w : World} {q : Nat} {c : Ck} {s : Sv} {B : List Nat} {st : Option Nat} (h : RS w0 w q c s B st) {ops : Array Oper} {rest : List Oper} {o : Oper} {a : Act} {Q : Exit → Act → World → Prop} (hgd : o.guard = none) {t : TypeId} (hT : OneT Try.prog t) {x y : Operand} (j : Nat) {v : Value} (ho : o.op = .store t x y) (hx : a.eval x = .pointer (some ⟨q, j, none⟩)) (hy : a.eval y = v) (hv : v.cells = #[v]) (h1 : v.oneCell' = true) (hj : j < 23) (c' : Ck) (s' : Sv) (hset : ∀ z, (RV c s z).setIfInBounds j v = RV c' s' z) (hown : OwnC w w0.heap.size s' c') (hfit : Fit c')
  (hk : ∀ w', RS w0 w' q c' s' B st → wpList Try.prog ops Q rest (a.put o.dst undef) w') : wpList Try.prog ops Q (o :: rest) a w := by
 obtain ⟨gi, bv, hb, hq, hl, hi⟩ := h.rd
 refine wl_set hgd hT ho hx hy hv h1 hb (show j < (RV c s (ptr gi)).size from hj) ?_
 intro w' hb' hk' _
 rw [hset] at hb'
 exact hk w' (h.put hb hq hl hi hb' hk' hown hfit)
structure RSg (w0 w : World) (q : Nat) (c : Ck) (s : Sv) (B : List Nat) (st : Option Nat) (gi : Nat) (bv : Value) : Prop where
 rs : RS w0 w q c s B st
 hb : Blk w q (RV c s (ptr gi)) 91
 ne : gi ≠ q
 lo : w0.heap.size ≤ gi
 hi : InAt w w0.heap.size gi bv B st
theorem RS.g {w0 w : World} {q : Nat} {c : Ck} {s : Sv} {B : List Nat} {st : Option Nat} (h : RS w0 w q c s B st) : ∃ gi bv, RSg w0 w q c s B st gi bv := by
 obtain ⟨gi, bv, h1, h2, h3, h4⟩ := h.rd
 exact ⟨gi, bv, h, h1, h2, h3, h4⟩
theorem RSg.grow {w0 w w' : World} {q : Nat} {c : Ck} {s : Sv} {B : List Nat} {st : Option Nat} {gi : Nat} {bv : Value} (h : RSg w0 w q c s B st gi bv) (he : Ext w w') : RSg w0 w' q c s B st gi bv :=
 ⟨h.rs.grow he, h.hb.ext he, h.ne, h.lo, h.hi.ext he⟩
theorem RSg.step {w0 w w' : World} {q : Nat} {c : Ck} {s : Sv} {B : List Nat} {st st' : Option Nat} {gi : Nat} {bv : Value} (h : RSg w0 w q c s B st gi bv) (hi : InAt w' w0.heap.size gi bv B st') (hk : KeepBut (· = gi) w w') : RSg w0 w' q c s B st' gi bv :=
 ⟨h.rs.step h.hb h.ne h.lo h.hi hi hk, h.hb.but hk (fun e => h.ne e.symm), h.ne, h.lo, hi⟩
structure RestI (w0 : World) (q gi : Nat) (bv : Value) (c : Ck) (s : Sv) (B : List Nat) (st : Option Nat) (L : Nat → Bool) (vs : Nat → Value) (wx : World) : Prop where
 a : L 9 = false → RSg w0 wx q c s B st gi bv
 k0 : L 0 = true → vs 0 = ptr q
 k1 : L 1 = true → vs 1 = ptr q
 k2 : L 2 = true → vs 2 = .pointer (some ⟨q, 22, none⟩)
 k3 : L 3 = true → vs 3 = ptr gi
 k4 : L 4 = true → vs 4 = ptr q
 k5 : L 5 = true → vs 5 = ptr q
 k6 : L 6 = true → vs 6 = .pointer (some ⟨q, 22, none⟩)
 k7 : L 7 = true → vs 7 = ptr gi
 k8 : L 8 = true → vs 8 = .int .i64 (leftS B st : Nat)
 k9 : L 9 = true → ∃ a cp, vs 9 = .slice a (rdRest B st).length cp ∧ OB wx w0.heap.size (.slice a (rdRest B st).length cp) (rdRest B st) ∧ RS w0 wx q c s B (rdRestS B st)
 kA : L 10 = true → L 9 = true ∧ vs 10 = vs 9
 i9 : L 9 = true → L 8 = true
 j9 : L 9 = true → L 3 = true ∧ L 7 = true
 j8 : L 8 = true → L 7 = true
def RestIs (w0 : World) (q : Nat) (c : Ck) (s : Sv) (B : List Nat) (st : Option Nat) (e : Ending) (w' : World) : Prop := ∃ a cp, e = .returned (.slice a (rdRest B st).length cp) ∧ OB w' w0.heap.size (.slice a (rdRest B st).length cp) (rdRest B st) ∧ RS w0 w' q c s B (rdRestS B st)
theorem rest_any {w0 w : World} {q : Nat} {c : Ck} {s : Sv} {B : List Nat} {st : Option Nat} (h : RS w0 w q c s B st) (hB : B.length ≤ 1000000) :
  Calls Try.prog 83 #[ptr q] w (RestIs w0 q c s B st) := by
 obtain ⟨gi, bv, hg⟩ := h.g
 have HX : Hid (RSg w0 w q c s B st gi bv ∧ B.length ≤ 1000000) := ⟨hg, hB⟩
 clear h hg hB
 go_enter Try.func83, Try.ntmps83
 refine wp_seq_k (fun K hK => ?_)
 have HK := Stop.mk hK
 clear hK
 go_wp2
 refine HK.go _ _ ?_
 clear HK
 refine wp_seq_k (fun K2 hK2 => ?_)
 have HK2 := Stop.mk hK2
 clear hK2
 refine wp_region_W (RestI w0 q gi bv c s B st) (fun t => bif Nat.ble 3 t && Nat.ble t 12 then some (t - 3) else bif Nat.beq t 2 then some 10 else none) 13 rfl (by kernel_rfl) rfl (fun vs => ⟨fun _ => HX.out.1.grow (Ext.drew _), fun h => by simp at h, fun h => by simp at h, fun h => by simp at h, fun h => by simp at h, fun h => by simp at h, fun h => by simp at h, fun h => by simp at h, fun h => by simp at h, fun h => by simp at h, fun h => by simp at h, fun h => by simp at h, fun h => by simp at h, fun h => by simp at h, fun h => by simp at h⟩) ?_ ?_
 ·
  refine Ow ⟨rfl, ?_⟩ (Ow ⟨rfl, ?_⟩ (Ow ⟨rfl, ?_⟩ (Ow ⟨rfl, ?_⟩ (Ow ⟨rfl, ?_⟩ (Ow ⟨rfl, ?_⟩ (Ow ⟨rfl, ?_⟩ (Ow ⟨rfl, ?_⟩ (Ow ⟨rfl, ?_⟩ (Ow ⟨rfl, ?_⟩ (Ow ⟨rfl, ?_⟩ OwedVs.nil))))))))))
  ·
   rintro L vs wx r H hl hL ⟨h1, _⟩
   replace h1 : r (.tmp 0) = ptr q := h1
   exact give_move (.inl rfl) (by rw [h1]; exact { H with k0 := fun _ => rfl })
  ·
   rintro L vs wx r H hl hL ⟨h1, _⟩
   replace h1 : r (.tmp 3) = ptr q := Eq.trans h1 (H.k0 (hL 0 (by kernel_rfl)))
   exact gvo (by simp [execOp, h1, ptr, go_sem]; done) { H with k1 := fun _ => rfl }
  ·
   rintro L vs wx r H hl hL ⟨h1, _⟩
   replace h1 : r (.tmp 4) = ptr q := Eq.trans h1 (H.k1 (hL 1 (by kernel_rfl)))
   exact gvo (by simp [execOp, h1, ptr, go_sem]; done) { H with k2 := fun _ => rfl }
  ·
   rintro L vs wx r H hl hL ⟨h1, _⟩
   replace h1 : r (.tmp 5) = .pointer (some ⟨q, 22, none⟩) := Eq.trans h1 (H.k2 (hL 2 (by kernel_rfl)))
   have h9 : L 9 = false := by cases h : L 9 with
    | false => rfl
    | true => exact absurd ((H.j9 h).1.symm.trans hl) (by decide)
   exact gvo (exg onePI rfl h1 (rv22 (H.a h9).hb)) { H with k3 := fun _ => rfl, j9 := fun h => ⟨rfl, (H.j9 h).2⟩ }
  ·
   rintro L vs wx r H hl hL ⟨h1, _⟩
   replace h1 : r (.tmp 0) = ptr q := h1
   exact give_move (.inl rfl) (by rw [h1]; exact { H with k4 := fun _ => rfl })
  ·
   rintro L vs wx r H hl hL ⟨h1, _⟩
   replace h1 : r (.tmp 7) = ptr q := Eq.trans h1 (H.k4 (hL 4 (by kernel_rfl)))
   exact gvo (by simp [execOp, h1, ptr, go_sem]; done) { H with k5 := fun _ => rfl }
  ·
   rintro L vs wx r H hl hL ⟨h1, _⟩
   replace h1 : r (.tmp 8) = ptr q := Eq.trans h1 (H.k5 (hL 5 (by kernel_rfl)))
   exact gvo (by simp [execOp, h1, ptr, go_sem]; done) { H with k6 := fun _ => rfl }
  ·
   rintro L vs wx r H hl hL ⟨h1, _⟩
   replace h1 : r (.tmp 9) = .pointer (some ⟨q, 22, none⟩) := Eq.trans h1 (H.k6 (hL 6 (by kernel_rfl)))
   have h9 : L 9 = false := by cases h : L 9 with
    | false => rfl
    | true => exact absurd ((H.j9 h).2.symm.trans hl) (by decide)
   exact gvo (exg onePI rfl h1 (rv22 (H.a h9).hb)) { H with k7 := fun _ => rfl, j9 := fun h => ⟨(H.j9 h).1, rfl⟩, j8 := fun _ => rfl }
  ·
   rintro L vs wx r H hl hL ⟨h1, h2, _⟩
   replace h1 : r (.func 49) = .func (.func 49) #[] #[] := h1
   replace h2 : r (.tmp 10) = ptr gi := Eq.trans h2 (H.k7 (hL 7 (by kernel_rfl)))
   have h9 : L 9 = false := by cases h : L 9 with
    | false => rfl
    | true => exact absurd ((H.i9 h).symm.trans hl) (by decide)
   refine give_func #[ptr gi] rfl h1 Try.call49 (by simp [h2]) ?_
   refine (left_any (H.a h9).hi HX.out.2).mono ?_
   rintro e w' ⟨rfl, he⟩
   exact ⟨_, rfl, { H with a := fun _ => (H.a h9).grow he, k8 := fun _ => rfl, k9 := fun h => absurd (h.symm.trans h9) (by decide), i9 := fun _ => rfl, j8 := fun _ => hL 7 (by kernel_rfl) }⟩
  ·
   rintro L vs wx r H hl hL ⟨h1, h2, h3, _⟩
   replace h1 : r (.func 41) = .func (.func 41) #[] #[] := h1
   replace h2 : r (.tmp 6) = ptr gi := Eq.trans h2 (H.k3 (hL 3 (by kernel_rfl)))
   replace h3 : r (.tmp 11) = .int .i64 (leftS B st : Nat) := Eq.trans h3 (H.k8 (hL 8 (by kernel_rfl)))
   refine give_func #[ptr gi, .int .i64 (leftS B st : Nat)] rfl h1 Try.call41 (by simp [h2, h3]) ?_
   refine (inTake_any (H.a hl).hi HX.out.2 (leftS B st : Nat)).mono ?_
   rintro e w' ⟨a, m, cp, rfl, rfl, ho, hi, hk⟩
   exact ⟨_, rfl, { H with a := fun h => absurd h (by simp [met1]), k9 := fun _ => ⟨a, cp, rfl, ⟨ho.own.base (H.a hl).rs.ext.size, ho.all⟩, ((H.a hl).step hi hk).rs⟩, kA := fun h => absurd ((H.kA h).1.symm.trans hl) (by decide), i9 := fun _ => hL 8 (by kernel_rfl), j9 := fun _ => ⟨hL 3 (by kernel_rfl), H.j8 (hL 8 (by kernel_rfl))⟩ }⟩
  ·
   rintro L vs wx r H hl hL ⟨h1, _⟩
   replace h1 : r (.tmp 12) = vs 9 := h1
   exact give_move (.inr rfl) (by rw [h1]; exact { H with kA := fun _ => ⟨hL 9 (by kernel_rfl), rfl⟩ })
 ·
  intro vs a1 w1 H ha1
  obtain ⟨a, cp, e9, ho, hr⟩ := H.k9 rfl
  have eA := (H.kA rfl).2.trans e9
  have hs : a1.tmps[2]? = some (.slice a (rdRest B st).length cp) := by rw [ha1, ← eA]; kernel_rfl
  have hdf : a1.defers = [] := by rw [ha1]; exact putAll_defers _ _ _ _
  refine HK2.go _ _ ?_
  clear HK2 ha1
  refine wp_ret ?_
  refine bodyPost_ret (v := .slice a (rdRest B st).length cp) ?_ hdf ⟨a, cp, rfl, ho, hr⟩
  simp [results, Try.results83, go_sem, hs]
end Tlv
end Go.Proofs.Ytigocaconkbalaa
