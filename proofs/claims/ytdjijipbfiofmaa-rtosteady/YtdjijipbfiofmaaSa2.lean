/- For any answer and any count the law RtoSteady answers true: where each answer takes as long as the first one the smoothed time stays that, and the deviation never rises. Conditions: none. -/
import Derived.Test.YtdjijipbfiofmaaSa1
import Derived.Laws.StructEq
import Derived.Test.YtdjijipbfiofmaaRows
import Derived.WalkKit
import Derived.ProofKit
import Derived.OpenShut
import Derived.ShutString
import Derived.ChangeOld
import Derived.Below
set_option linter.unusedVariables false
set_option linter.unusedSimpArgs false
/- Estimates in their blocks; Twice and Times. No condition of its own. -/
namespace Go.Proofs.Ytdjijipbfiofmaa
namespace Rto
open Go Go.RowKit
set_option maxRecDepth 100000
/-- Two estimates in blocks of the own. -/
structure Two (w0 w : World) (g h T : Nat) (x y : E) : Prop where
 a : Blk w g (EV x) T
 b : Blk w h (EV y) T
 ext : Ext w0 w
 g0 : w0.heap.size ≤ g
 lt : g < h
theorem Two.grow {w0 w w' : World} {g h T : Nat} {x y : E} (H : Two w0 w g h T x y) (he : Ext w w') : Two w0 w' g h T x y := ⟨H.a.ext he, H.b.ext he, H.ext.trans he, H.g0, H.lt⟩
theorem Two.setA {w0 w w' : World} {g h T : Nat} {x y z : E} (H : Two w0 w g h T x y) (hz : Blk w' g (EV z) T) (hk : KeepBut (· = g) w w') : Two w0 w' g h T z y := ⟨hz, H.b.but hk (by have := H.lt; omega), H.ext.of_but hk (fun q e => by subst e; exact H.g0), H.g0, H.lt⟩
theorem Two.setB {w0 w w' : World} {g h T : Nat} {x y z : E} (H : Two w0 w g h T x y) (hz : Blk w' h (EV z) T) (hk : KeepBut (· = h) w w') : Two w0 w' g h T x z := ⟨H.a.but hk (by have := H.lt; omega), hz, H.ext.of_but hk (fun q e => by subst e; have := H.g0; have := H.lt; omega), H.g0, H.lt⟩
section
variable {w : World} {ops : Array Oper} {rest : List Oper} {o : Oper} {a : Act} {Q : Exit → Act → World → Prop} {g T : Nat} {e : E}
theorem wl_get0 (hB : Blk w g (EV e) T) (hgd : o.guard = none) {x : Operand} (ho : o.op = .load 3 x) (hx : a.eval x = .pointer (some ⟨g, 0, none⟩)) (h : wpList Try.prog ops Q rest (a.put o.dst (.int .i64 e.sm)) w) : wpList Try.prog ops Q (o :: rest) a w := wpList_of_run hgd (exg one3 ho hx (ev0 hB)) h
theorem wl_get1 (hB : Blk w g (EV e) T) (hgd : o.guard = none) {x : Operand} (ho : o.op = .load 3 x) (hx : a.eval x = .pointer (some ⟨g, 1, none⟩)) (h : wpList Try.prog ops Q rest (a.put o.dst (.int .i64 e.sp)) w) : wpList Try.prog ops Q (o :: rest) a w := wpList_of_run hgd (exg one3 ho hx (ev1 hB)) h
theorem wl_get2 (hB : Blk w g (EV e) T) (hgd : o.guard = none) {x : Operand} (ho : o.op = .load 3 x) (hx : a.eval x = .pointer (some ⟨g, 2, none⟩)) (h : wpList Try.prog ops Q rest (a.put o.dst (.int .i64 e.wt)) w) : wpList Try.prog ops Q (o :: rest) a w := wpList_of_run hgd (exg one3 ho hx (ev2 hB)) h
theorem wl_get3 (hB : Blk w g (EV e) T) (hgd : o.guard = none) {x : Operand} (ho : o.op = .load 4 x) (hx : a.eval x = .pointer (some ⟨g, 3, none⟩)) (h : wpList Try.prog ops Q rest (a.put o.dst (.bool e.me)) w) : wpList Try.prog ops Q (o :: rest) a w := wpList_of_run hgd (exg one4 ho hx (ev3 hB)) h
theorem wl_set0 (hB : Blk w g (EV e) T) (hgd : o.guard = none) {x y : Operand} {v : Int} (ho : o.op = .store 3 x y) (hx : a.eval x = .pointer (some ⟨g, 0, none⟩)) (hy : a.eval y = .int .i64 v) (h : ∀ w', Blk w' g (EV { e with sm := v }) T → KeepBut (· = g) w w' → wpList Try.prog ops Q rest (a.put o.dst undef) w') : wpList Try.prog ops Q (o :: rest) a w :=
 wl_set hgd one3 ho hx hy rfl rfl hB (by rw [EV.size]; decide) (fun w' h1 h2 _ => h w' h1 h2)
theorem wl_set1 (hB : Blk w g (EV e) T) (hgd : o.guard = none) {x y : Operand} {v : Int} (ho : o.op = .store 3 x y) (hx : a.eval x = .pointer (some ⟨g, 1, none⟩)) (hy : a.eval y = .int .i64 v) (h : ∀ w', Blk w' g (EV { e with sp := v }) T → KeepBut (· = g) w w' → wpList Try.prog ops Q rest (a.put o.dst undef) w') : wpList Try.prog ops Q (o :: rest) a w :=
 wl_set hgd one3 ho hx hy rfl rfl hB (by rw [EV.size]; decide) (fun w' h1 h2 _ => h w' h1 h2)
theorem wl_set2 (hB : Blk w g (EV e) T) (hgd : o.guard = none) {x y : Operand} {v : Int} (ho : o.op = .store 3 x y) (hx : a.eval x = .pointer (some ⟨g, 2, none⟩)) (hy : a.eval y = .int .i64 v) (h : ∀ w', Blk w' g (EV { e with wt := v }) T → KeepBut (· = g) w w' → wpList Try.prog ops Q rest (a.put o.dst undef) w') : wpList Try.prog ops Q (o :: rest) a w :=
 wl_set hgd one3 ho hx hy rfl rfl hB (by rw [EV.size]; decide) (fun w' h1 h2 _ => h w' h1 h2)
end
section
variable {w : World} {ops : Array Oper} {rest : List Oper} {o : Oper} {a : Act} {Q : Exit → Act → World → Prop}
/-- A new block whose number is a name of its own. -/
theorem wl_boxG (hgd : o.guard = none) {t : TypeId} {x : Operand} {C : Array Value} (ho : o.op = .box t x) (hx : a.eval x = .agg C)
  (h : ∀ w' g, g = w.heap.size → Blk w' g C t → Ext w w' → wpList Try.prog ops Q rest (a.put o.dst (.pointer (some ⟨g, 0, none⟩))) w') : wpList Try.prog ops Q (o :: rest) a w :=
 wl_box hgd ho hx fun w' hb he _ => h w' _ rfl hb he
theorem wl_allocG (hgd : o.guard = none) {t : TypeId} {C : Array Value} (ho : o.op = .alloc t) (hz : (Try.prog.info? t).bind (·.zero) = some (.agg C))
  (h : ∀ w' g, g = w.heap.size → Blk w' g C t → Ext w w' → wpList Try.prog ops Q rest (a.put o.dst (.pointer (some ⟨g, 0, none⟩))) w') : wpList Try.prog ops Q (o :: rest) a w :=
 wl_alloc hgd ho hz fun w' hb he _ => h w' _ rfl hb he
end
/-- Whole ticks. -/
def timesE (e : E) : Int × Int := if goodB e = true then (e.sm / 8, e.sp / 4) else (0, 0)
set_option maxHeartbeats 4000000 in
theorem times_any (e : E) (w : World) : Calls Try.prog 10 #[.agg (EV e)] w fun x w' => x = .returned (.tuple #[.int .i64 (timesE e).1, .int .i64 (timesE e).2]) ∧ Ext w w' := by
 cases hg : goodB e with
 | false =>
  rw [show timesE e = (0, 0) from if_neg (by rw [hg]; decide)]
  go_enter Try.func10, Try.ntmps10
  go_wp2_with (first
   | (refine wl_box (C := EV e) rfl rfl rfl ?_; intro w1 hb1 he1 hx1; clear hx1)
   | (refine wl_load rfl rowE rfl rfl hb1 rfl ?_)
   | (go_at_call 11; refine (good_any _ _).mono ?_; rintro e w3 ⟨rfl, he3⟩; rw [hg]))
  go_ret2
  exact ⟨rfl, he1.trans he3⟩
 | true =>
  have hn := (goodB_iff e).1 hg
  obtain ⟨p, hp⟩ : ∃ p, p = e.sm / 8 := ⟨_, rfl⟩
  obtain ⟨q, hq⟩ : ∃ q, q = e.sp / 4 := ⟨_, rfl⟩
  have hp1 : e.sm.tdiv 8 = p := by rw [Int.tdiv_eq_ediv_of_nonneg (by omega), hp]
  have hq1 : e.sp.tdiv 4 = q := by rw [Int.tdiv_eq_ediv_of_nonneg (by omega), hq]
  have hp2 : IntKind.i64.wrap p = p := by rw [IntKind.wrap_i64]; omega
  have hq2 : IntKind.i64.wrap q = q := by rw [IntKind.wrap_i64]; omega
  rw [show timesE e = (p, q) from (if_pos hg).trans (by rw [hp, hq])]
  clear hn hp hq
  go_enter Try.func10, Try.ntmps10
  go_wp2_with (first
   | (refine wl_box (C := EV e) rfl rfl rfl ?_; intro w1 hb1 he1 hx1; clear hx1)
   | (refine wl_load rfl rowE rfl rfl hb1 rfl ?_)
   | (go_at_call 11; refine (good_any _ _).mono ?_; rintro e w3 ⟨rfl, he3⟩; rw [hg]; have x0 := ev0 (hb1.ext he3); have x1 := ev1 (hb1.ext he3)))
  go_quiet (fail)
  go_wp2
  go_ret2
  exact ⟨rfl, (he1.trans he3).trans (Ext.drewN _ _)⟩
end Rto
end Go.Proofs.Ytdjijipbfiofmaa
/- The estimate behind an answer. No condition of its own. -/
namespace Go.Proofs.Ytdjijipbfiofmaa
namespace Rto
open Go Go.RowKit
set_option maxRecDepth 100000
theorem res_two {fn : Func} {p u : Tmp} {ty g t : Nat} {cs : Array Value} {fs : Array Field} {x : Value} (h : fn.results = #[.cell p ty, .tmp u]) (tmps : Array Value) (w : World) (hp : tmps.getD p undef = .pointer (some ⟨g, 0, none⟩)) (hx : tmps.getD u undef = x) (hg : Blk w g cs t) (hu : Try.prog.underlying ty = some (.struct fs)) (hi : (Try.prog.info? ty).map (·.size) = some cs.size) :
  (results fn tmps).run Try.prog w = .ok (.tuple #[.agg cs, x]) w := by
 rw [results_cell_tmp h, hp, hx]
 have := run_loadVar_row (P := Try.prog) w g t ty cs (0, 0) _ hg hu rfl hi
 simp [asAddr, this]
def absI (d : Int) : Int := if d < 0 then -d else d
/-- The estimate behind an answer that took r ticks. -/
def tookE (e : E) (r : Int) : E :=
 if e.me = true then ⟨e.sm + (r - e.sm / 8), e.sp + (absI (r - e.sm / 8) - e.sp / 4), bd ((e.sm + (r - e.sm / 8)) / 8 + (e.sp + (absI (r - e.sm / 8) - e.sp / 4))), true⟩
 else ⟨8 * r, 2 * r, bd (r + 2 * r), true⟩
def okT (e : E) (r : Int) : Bool := goodB e && decide (0 ≤ r) && decide (r ≤ 65535)
theorem okT_iff (e : E) (r : Int) : okT e r = true ↔ goodB e = true ∧ 0 ≤ r ∧ r ≤ 65535 := by simp [okT, and_assoc]
def tookV (e : E) (r : Int) : E := if okT e r = true then tookE e r else e0
def tookN (e : E) (r : Int) : Int := if okT e r = true then 0 else 1
theorem took_no {e : E} {r : Int} (h : okT e r = false) : tookV e r = e0 ∧ tookN e r = 1 := ⟨if_neg (by rw [h]; decide), if_neg (by rw [h]; decide)⟩
theorem took_yes {e : E} {r : Int} (h : okT e r = true) : tookV e r = tookE e r ∧ tookN e r = 0 := ⟨if_pos h, if_pos h⟩
theorem tookE_good {e : E} {r : Int} (h : okT e r = true) : goodB (tookE e r) = true := by
 rw [okT_iff, goodB_iff] at h
 rw [goodB_iff]
 unfold tookE absI
 split
 ·
  have := bd_in ((e.sm + (r - e.sm / 8)) / 8 + (e.sp + ((if r - e.sm / 8 < 0 then -(r - e.sm / 8) else r - e.sm / 8) - e.sp / 4)))
  refine ⟨this.1, this.2, ?_, ?_, ?_, ?_, .inl rfl⟩
  ·
   show 0 ≤ e.sm + (r - e.sm / 8); omega
  ·
   show e.sm + (r - e.sm / 8) ≤ 524280; omega
  ·
   show 0 ≤ e.sp + ((if r - e.sm / 8 < 0 then -(r - e.sm / 8) else r - e.sm / 8) - e.sp / 4)
   split <;> omega
  ·
   show e.sp + ((if r - e.sm / 8 < 0 then -(r - e.sm / 8) else r - e.sm / 8) - e.sp / 4) ≤ 262140
   split <;> omega
 ·
  have := bd_in (r + 2 * r)
  exact ⟨this.1, this.2, by show 0 ≤ 8 * r; omega, by show 8 * r ≤ 524280; omega, by show 0 ≤ 2 * r; omega, by show 2 * r ≤ 262140; omega, .inl rfl⟩
set_option maxHeartbeats 8000000 in
theorem took_any (e : E) (r : Int) (w : World) : Calls Try.prog 8 #[.agg (EV e), .int .i64 r] w fun x w' => x = .returned (.tuple #[.agg (EV (tookV e r)), errV (tookN e r)]) ∧ Ext w w' := by
 cases hg : goodB e with
 | false =>
  obtain ⟨a1, a2⟩ := took_no (show okT e r = false by simp [okT, hg])
  rw [a1, a2]
  clear a1 a2
  go_enter Try.func8, Try.ntmps8
  go_wp2_with (first
   | (refine wl_boxG (C := EV e) rfl rfl rfl ?_; intro w1 g1 hg1 hb1 he1; have HG1 : Hid (g1 = w.heap.size) := hg1; clear hg1)
   | (have q := hb1; clear q; refine wl_allocG rfl rfl zeroE ?_; intro w2 g2 hg2 hb2 he2; have HT : Hid (Two w w2 g1 g2 _ e e0) := ⟨hb1.ext he2, hb2, he1.trans he2, Nat.le_of_eq HG1.out.symm, (by rw [hg2]; exact hb1.lt)⟩; clear hb1 hb2 he1 he2 hg2 HG1)
   | (have q := HT; clear q; refine wl_load rfl rowE rfl rfl HT.out.a rfl ?_)
   | (go_at_call 11; refine (good_any _ _).mono ?_; rintro e w3 ⟨rfl, he3⟩; rw [hg]; replace HT : Hid (Two _ _ _ _ _ _ _) := HT.out.grow he3; clear he3)
   | (refine wl_build rfl rfl rfl built0 ?_)
   | (have q := HT; clear q; refine wl_store (D := EV e0) rfl rowE rfl rfl rfl HT.out.b rfl rfl (EV.one _) ?_; intro w4 hb4 hk4 hx4; clear hx4; replace HT : Hid (Two _ _ _ _ _ _ _) := HT.out.setB hb4 hk4; clear hb4 hk4)
   | (have q := HT; clear q; refine wl_get0 HT.out.a rfl rfl rfl ?_)
   | (have q := HT; clear q; refine wl_get1 HT.out.a rfl rfl rfl ?_)
   | (have q := HT; clear q; refine wl_get2 HT.out.a rfl rfl rfl ?_)
   | (have q := HT; clear q; refine wl_get3 HT.out.a rfl rfl rfl ?_))
  refine bodyPost_ret (res_two (fn := Try.f8) (p := 4) (u := 5) rfl _ _ rfl rfl HT.out.b Try.underlying25 (by kernel_rfl)) rfl ?_
  exact ⟨rfl, HT.out.ext⟩
 | true =>
 by_cases h1 : r < 0
 ·
  have d1 : decide (r < 0) = true := decide_eq_true h1
  obtain ⟨a1, a2⟩ := took_no (show okT e r = false by rw [Bool.eq_false_iff, Ne, okT_iff]; omega)
  rw [a1, a2]
  clear a1 a2
  go_enter Try.func8, Try.ntmps8
  go_wp2_with (first
   | (refine wl_boxG (C := EV e) rfl rfl rfl ?_; intro w1 g1 hg1 hb1 he1; have HG1 : Hid (g1 = w.heap.size) := hg1; clear hg1)
   | (have q := hb1; clear q; refine wl_allocG rfl rfl zeroE ?_; intro w2 g2 hg2 hb2 he2; have HT : Hid (Two w w2 g1 g2 _ e e0) := ⟨hb1.ext he2, hb2, he1.trans he2, Nat.le_of_eq HG1.out.symm, (by rw [hg2]; exact hb1.lt)⟩; clear hb1 hb2 he1 he2 hg2 HG1)
   | (have q := HT; clear q; refine wl_load rfl rowE rfl rfl HT.out.a rfl ?_)
   | (go_at_call 11; refine (good_any _ _).mono ?_; rintro e w3 ⟨rfl, he3⟩; rw [hg]; replace HT : Hid (Two _ _ _ _ _ _ _) := HT.out.grow he3; clear he3)
   | (refine wl_build rfl rfl rfl built0 ?_)
   | (have q := HT; clear q; refine wl_store (D := EV e0) rfl rowE rfl rfl rfl HT.out.b rfl rfl (EV.one _) ?_; intro w4 hb4 hk4 hx4; clear hx4; replace HT : Hid (Two _ _ _ _ _ _ _) := HT.out.setB hb4 hk4; clear hb4 hk4)
   | (have q := HT; clear q; refine wl_get0 HT.out.a rfl rfl rfl ?_)
   | (have q := HT; clear q; refine wl_get1 HT.out.a rfl rfl rfl ?_)
   | (have q := HT; clear q; refine wl_get2 HT.out.a rfl rfl rfl ?_)
   | (have q := HT; clear q; refine wl_get3 HT.out.a rfl rfl rfl ?_))
  refine bodyPost_ret (res_two (fn := Try.f8) (p := 4) (u := 5) rfl _ _ rfl rfl HT.out.b Try.underlying25 (by kernel_rfl)) rfl ?_
  exact ⟨rfl, HT.out.ext⟩
 have hd1 : decide (r < 0) = false := decide_eq_false h1
 by_cases h2 : r > 65535
 ·
  have d2 : decide (r > 65535) = true := decide_eq_true h2
  obtain ⟨a1, a2⟩ := took_no (show okT e r = false by rw [Bool.eq_false_iff, Ne, okT_iff]; omega)
  rw [a1, a2]
  clear a1 a2
  go_enter Try.func8, Try.ntmps8
  go_wp2_with (first
   | (refine wl_boxG (C := EV e) rfl rfl rfl ?_; intro w1 g1 hg1 hb1 he1; have HG1 : Hid (g1 = w.heap.size) := hg1; clear hg1)
   | (have q := hb1; clear q; refine wl_allocG rfl rfl zeroE ?_; intro w2 g2 hg2 hb2 he2; have HT : Hid (Two w w2 g1 g2 _ e e0) := ⟨hb1.ext he2, hb2, he1.trans he2, Nat.le_of_eq HG1.out.symm, (by rw [hg2]; exact hb1.lt)⟩; clear hb1 hb2 he1 he2 hg2 HG1)
   | (have q := HT; clear q; refine wl_load rfl rowE rfl rfl HT.out.a rfl ?_)
   | (go_at_call 11; refine (good_any _ _).mono ?_; rintro e w3 ⟨rfl, he3⟩; rw [hg]; replace HT : Hid (Two _ _ _ _ _ _ _) := HT.out.grow he3; clear he3)
   | (refine wl_build rfl rfl rfl built0 ?_)
   | (have q := HT; clear q; refine wl_store (D := EV e0) rfl rowE rfl rfl rfl HT.out.b rfl rfl (EV.one _) ?_; intro w4 hb4 hk4 hx4; clear hx4; replace HT : Hid (Two _ _ _ _ _ _ _) := HT.out.setB hb4 hk4; clear hb4 hk4)
   | (have q := HT; clear q; refine wl_get0 HT.out.a rfl rfl rfl ?_)
   | (have q := HT; clear q; refine wl_get1 HT.out.a rfl rfl rfl ?_)
   | (have q := HT; clear q; refine wl_get2 HT.out.a rfl rfl rfl ?_)
   | (have q := HT; clear q; refine wl_get3 HT.out.a rfl rfl rfl ?_))
  refine bodyPost_ret (res_two (fn := Try.f8) (p := 4) (u := 5) rfl _ _ rfl rfl HT.out.b Try.underlying25 (by kernel_rfl)) rfl ?_
  exact ⟨rfl, HT.out.ext⟩
 have hd2 : decide (r > 65535) = false := decide_eq_false h2
 obtain ⟨a1, a2⟩ := took_yes ((okT_iff e r).2 ⟨hg, by omega, by omega⟩)
 rw [a1, a2]
 clear a1 a2
 have hn := (goodB_iff e).1 hg
 cases hme : e.me with
 | false =>
  obtain ⟨A, hA⟩ : ∃ A, A = 8 * r := ⟨_, rfl⟩
  have A1 : IntKind.i64.wrap (8 * r) = A := by rw [IntKind.wrap_i64]; omega
  obtain ⟨B, hB⟩ : ∃ B, B = 2 * r := ⟨_, rfl⟩
  have B1 : IntKind.i64.wrap (2 * r) = B := by rw [IntKind.wrap_i64]; omega
  have A2 : A.tdiv 8 = r := by rw [Int.tdiv_eq_ediv_of_nonneg (by omega)]; omega
  have A3 : IntKind.i64.wrap r = r := by rw [IntKind.wrap_i64]; omega
  obtain ⟨C, hC⟩ : ∃ C, C = r + B := ⟨_, rfl⟩
  have C1 : IntKind.i64.wrap (r + B) = C := by rw [IntKind.wrap_i64]; omega
  rw [show tookE e r = ⟨A, B, bd C, true⟩ from by unfold tookE; rw [if_neg (by rw [hme]; decide), hC, hA, hB]]
  clear hn h1 h2 hA hB hC
  go_enter Try.func8, Try.ntmps8
  go_wp2_with (first
   | (refine wl_boxG (C := EV e) rfl rfl rfl ?_; intro w1 g1 hg1 hb1 he1; have HG1 : Hid (g1 = w.heap.size) := hg1; clear hg1)
   | (have q := hb1; clear q; refine wl_allocG rfl rfl zeroE ?_; intro w2 g2 hg2 hb2 he2; have HT : Hid (Two w w2 g1 g2 _ e e0) := ⟨hb1.ext he2, hb2, he1.trans he2, Nat.le_of_eq HG1.out.symm, (by rw [hg2]; exact hb1.lt)⟩; clear hb1 hb2 he1 he2 hg2 HG1)
   | (have q := HT; clear q; refine wl_load rfl rowE rfl rfl HT.out.a rfl ?_)
   | (go_at_call 11; refine (good_any _ _).mono ?_; rintro e w3 ⟨rfl, he3⟩; rw [hg]; replace HT : Hid (Two _ _ _ _ _ _ _) := HT.out.grow he3; clear he3)
   | (refine wl_build rfl rfl rfl (builtM A B) ?_)
   | (have q := HT; clear q; refine wl_store (D := EV ⟨A, B, 0, true⟩) rfl rowE rfl rfl rfl HT.out.a rfl rfl (EV.one _) ?_; intro w4 hb4 hk4 hx4; clear hx4; replace HT : Hid (Two _ _ _ _ _ _ _) := HT.out.setA hb4 hk4; clear hb4 hk4)
   | (go_at_call 20; refine (bounded_any _ _).mono ?_; rintro e w3 ⟨rfl, he3⟩; replace HT : Hid (Two _ _ _ _ _ _ _) := HT.out.grow he3; clear he3)
   | (have q := HT; clear q; refine wl_set2 HT.out.a rfl rfl rfl rfl ?_; intro w4 hb4 hk4; replace HT : Hid (Two _ _ _ _ _ _ _) := HT.out.setA hb4 hk4; clear hb4 hk4)
   | (have q := HT; clear q; refine wl_store rfl rowE rfl rfl rfl HT.out.b rfl rfl (EV.one _) ?_; intro w4 hb4 hk4 hx4; clear hx4; replace HT : Hid (Two _ _ _ _ _ _ _) := HT.out.setB hb4 hk4; clear hb4 hk4)
   | (have q := HT; clear q; refine wl_get0 HT.out.a rfl rfl rfl ?_)
   | (have q := HT; clear q; refine wl_get1 HT.out.a rfl rfl rfl ?_)
   | (have q := HT; clear q; refine wl_get2 HT.out.a rfl rfl rfl ?_)
   | (have q := HT; clear q; refine wl_get3 HT.out.a rfl rfl rfl ?_; rw [hme]))
  refine bodyPost_ret (res_two (fn := Try.f8) (p := 4) (u := 5) rfl _ _ rfl rfl HT.out.b Try.underlying25 (by kernel_rfl)) rfl ?_
  exact ⟨rfl, HT.out.ext⟩
 | true =>
  obtain ⟨q, hq⟩ : ∃ q, q = e.sm / 8 := ⟨_, rfl⟩
  have q1 : e.sm.tdiv 8 = q := by rw [Int.tdiv_eq_ediv_of_nonneg (by omega), hq]
  have q2 : IntKind.i64.wrap q = q := by rw [IntKind.wrap_i64]; omega
  obtain ⟨d, hd⟩ : ∃ d, d = r - q := ⟨_, rfl⟩
  have d1 : IntKind.i64.wrap (r - q) = d := by rw [IntKind.wrap_i64]; omega
  obtain ⟨S, hS⟩ : ∃ S, S = e.sm + d := ⟨_, rfl⟩
  have s1 : IntKind.i64.wrap (e.sm + d) = S := by rw [IntKind.wrap_i64]; omega
  obtain ⟨n, hnn⟩ : ∃ n, n = -d := ⟨_, rfl⟩
  have n1 : IntKind.i64.wrap (-d) = n := by rw [IntKind.wrap_i64]; omega
  obtain ⟨p, hp⟩ : ∃ p, p = e.sp / 4 := ⟨_, rfl⟩
  have p1 : e.sp.tdiv 4 = p := by rw [Int.tdiv_eq_ediv_of_nonneg (by omega), hp]
  have p2 : IntKind.i64.wrap p = p := by rw [IntKind.wrap_i64]; omega
  obtain ⟨u, hu⟩ : ∃ u, u = S / 8 := ⟨_, rfl⟩
  have u1 : S.tdiv 8 = u := by rw [Int.tdiv_eq_ediv_of_nonneg (by omega), hu]
  have u2 : IntKind.i64.wrap u = u := by rw [IntKind.wrap_i64]; omega
  have hM : absI d = if d < n then n else d := by rw [hnn]; unfold absI; split <;> split <;> omega
  have hM2 : 0 ≤ absI d ∧ absI d ≤ 65535 := by unfold absI; split <;> omega
  obtain ⟨v, hv⟩ : ∃ v, v = absI d - p := ⟨_, rfl⟩
  have v1 : IntKind.i64.wrap ((if d < n then n else d) - p) = v := by rw [← hM, IntKind.wrap_i64]; omega
  obtain ⟨Z, hZ⟩ : ∃ Z, Z = e.sp + v := ⟨_, rfl⟩
  have z1 : IntKind.i64.wrap (e.sp + v) = Z := by rw [IntKind.wrap_i64]; omega
  obtain ⟨C, hC⟩ : ∃ C, C = u + Z := ⟨_, rfl⟩
  have C1 : IntKind.i64.wrap (u + Z) = C := by rw [IntKind.wrap_i64]; omega
  rw [show tookE e r = ⟨S, Z, bd C, true⟩ from by unfold tookE; rw [if_pos hme, ← hq, ← hd, ← hS, ← hu, ← hp, ← hv, ← hZ, ← hC]]
  clear hn hnn h1 h2 hq hd hS hp hu hM hM2 hv hZ hC
  go_enter Try.func8, Try.ntmps8
  go_wp2_with (first
   | (refine wl_boxG (C := EV e) rfl rfl rfl ?_; intro w1 g1 hg1 hb1 he1; have HG1 : Hid (g1 = w.heap.size) := hg1; clear hg1)
   | (have q := hb1; clear q; refine wl_allocG rfl rfl zeroE ?_; intro w2 g2 hg2 hb2 he2; have HT : Hid (Two w w2 g1 g2 _ e e0) := ⟨hb1.ext he2, hb2, he1.trans he2, Nat.le_of_eq HG1.out.symm, (by rw [hg2]; exact hb1.lt)⟩; clear hb1 hb2 he1 he2 hg2 HG1)
   | (have q := HT; clear q; refine wl_load rfl rowE rfl rfl HT.out.a rfl ?_)
   | (go_at_call 11; refine (good_any _ _).mono ?_; rintro e w3 ⟨rfl, he3⟩; rw [hg]; replace HT : Hid (Two _ _ _ _ _ _ _) := HT.out.grow he3; clear he3)
   | (go_at_call 20; refine (bounded_any _ _).mono ?_; rintro e w3 ⟨rfl, he3⟩; replace HT : Hid (Two _ _ _ _ _ _ _) := HT.out.grow he3; clear he3)
   | (have q := HT; clear q; refine wl_set0 HT.out.a rfl rfl rfl rfl ?_; intro w4 hb4 hk4; replace HT : Hid (Two _ _ _ _ _ _ _) := HT.out.setA hb4 hk4; clear hb4 hk4)
   | (have q := HT; clear q; refine wl_set1 HT.out.a rfl rfl rfl rfl ?_; intro w4 hb4 hk4; replace HT : Hid (Two _ _ _ _ _ _ _) := HT.out.setA hb4 hk4; clear hb4 hk4)
   | (have q := HT; clear q; refine wl_set2 HT.out.a rfl rfl rfl rfl ?_; intro w4 hb4 hk4; replace HT : Hid (Two _ _ _ _ _ _ _) := HT.out.setA hb4 hk4; clear hb4 hk4)
   | (have q := HT; clear q; refine wl_store rfl rowE rfl rfl rfl HT.out.b rfl rfl (EV.one _) ?_; intro w4 hb4 hk4 hx4; clear hx4; replace HT : Hid (Two _ _ _ _ _ _ _) := HT.out.setB hb4 hk4; clear hb4 hk4)
   | (have q := HT; clear q; refine wl_get0 HT.out.a rfl rfl rfl ?_)
   | (have q := HT; clear q; refine wl_get1 HT.out.a rfl rfl rfl ?_)
   | (have q := HT; clear q; refine wl_get2 HT.out.a rfl rfl rfl ?_)
   | (have q := HT; clear q; refine wl_get3 HT.out.a rfl rfl rfl ?_; rw [hme]))
  all_goals
   refine bodyPost_ret (res_two (fn := Try.f8) (p := 4) (u := 5) rfl _ _ rfl rfl HT.out.b Try.underlying25 (by kernel_rfl)) rfl ?_
   exact ⟨by rw [show ({ sm := S, sp := Z, wt := bd C, me := e.me } : E) = ⟨S, Z, bd C, true⟩ from by rw [hme]]; rfl, HT.out.ext⟩
end Rto
end Go.Proofs.Ytdjijipbfiofmaa
/- The document's estimate behind an answer; of one that is not measured, or where there is none. No condition of its own. -/
namespace Go.Proofs.Ytdjijipbfiofmaa
namespace Rto
open Go Go.RowKit
set_option maxRecDepth 100000
/-- Three estimates in blocks of the own. -/
structure Tri (w0 w : World) (g h k T : Nat) (x y z : E) : Prop where
 a : Blk w g (EV x) T
 b : Blk w h (EV y) T
 c : Blk w k (EV z) T
 ext : Ext w0 w
 g0 : w0.heap.size ≤ g
 lt : g < h
 lk : h < k
theorem Tri.grow {w0 w w' : World} {g h k T : Nat} {x y z : E} (H : Tri w0 w g h k T x y z) (he : Ext w w') : Tri w0 w' g h k T x y z := ⟨H.a.ext he, H.b.ext he, H.c.ext he, H.ext.trans he, H.g0, H.lt, H.lk⟩
theorem Tri.setB {w0 w w' : World} {g h k T : Nat} {x y z u : E} (H : Tri w0 w g h k T x y z) (hz : Blk w' h (EV u) T) (hk : KeepBut (· = h) w w') : Tri w0 w' g h k T x u z := ⟨H.a.but hk (by have := H.lt; omega), hz, H.c.but hk (by have := H.lk; omega), H.ext.of_but hk (fun q e => by subst e; have := H.g0; have := H.lt; omega), H.g0, H.lt, H.lk⟩
end Rto
end Go.Proofs.Ytdjijipbfiofmaa
/- The document's estimate behind an answer, of one that is measured. No condition of its own. -/
namespace Go.Proofs.Ytdjijipbfiofmaa
namespace Rto
open Go Go.RowKit
set_option maxRecDepth 100000
end Rto
end Go.Proofs.Ytdjijipbfiofmaa
/- The document's estimate behind an answer, of one that is measured, whose answer was not early. No condition of its own. -/
namespace Go.Proofs.Ytdjijipbfiofmaa
namespace Rto
open Go Go.RowKit
set_option maxRecDepth 100000
end Rto
end Go.Proofs.Ytdjijipbfiofmaa
/- The document's estimate behind an answer. No condition of its own. -/
namespace Go.Proofs.Ytdjijipbfiofmaa
namespace Rto
open Go Go.RowKit
set_option maxRecDepth 100000
end Rto
end Go.Proofs.Ytdjijipbfiofmaa
/- Estimates compared. No condition of its own. -/
namespace Go.Proofs.Ytdjijipbfiofmaa
namespace Rto
open Go Go.RowKit
set_option maxRecDepth 100000
/-- A type of three whole numbers and a truth. -/
structure EstEq (t : TypeId) : Prop where
 u : Try.prog.underlying t = some (.struct (Try.prog.fieldsOf t))
 gd : Try.prog.eqGuardType Try.prog.depth t = false
 hd : Try.prog.stoodInHeld t = false
 fo : (Try.prog.fieldsOf t).toList.map (fun f => f.offset) = [0, 1, 2, 3]
 fa : (Try.prog.fieldsOf t).toList.map (fun f => decide (f.name = "_")) = [false, false, false, false]
 fy : (Try.prog.fieldsOf t).toList.map (fun f => f.type) = [3, 3, 3, 4]
theorem four_of {α : Type} : ∀ {L : List α}, L.length = 4 → ∃ f g h k, L = [f, g, h, k]
 | [f, g, h, k], _ => ⟨f, g, h, k, rfl⟩
 | [], h => by cases h
 | [_], h => by cases h
 | [_, _], h => by cases h
 | [_, _, _], h => by cases h
 | _ :: _ :: _ :: _ :: _ :: _, h => by simp at h
def sameE (x y : E) : Bool := x.sm == y.sm && x.sp == y.sp && x.wt == y.wt && x.me == y.me
set_option maxHeartbeats 4000000 in
theorem equal_est {t : TypeId} (hT : EstEq t) (w : World) (x y : E) :
  (Op.equal t (.agg (EV x)) (.agg (EV y))).run Try.prog w = .ok (sameE x y) w := by
 show (Op.equalIn (9999 + 1) t _ _).run Try.prog w = _
 unfold EV
 rw [run_equalIn_struct w 9999 t _ _ hT.u hT.hd]
 have h1 := hT.fo
 have h2 := hT.fa
 have h3 := hT.fy
 clear hT
 generalize (Try.prog.fieldsOf t).toList = L at *
 have hl : L.length = 4 := by simpa using congrArg List.length h1
 obtain ⟨f, g, h, k, rfl⟩ := four_of hl
 clear hl
 simp only [List.map_cons, List.map_nil, List.cons.injEq, and_true] at h1 h2 h3
 obtain ⟨f1, g1, i1, k1⟩ := h1
 have f2 : f.name ≠ "_" := of_decide_eq_false h2.1
 have g2 : g.name ≠ "_" := of_decide_eq_false h2.2.1
 have i2 : h.name ≠ "_" := of_decide_eq_false h2.2.2.1
 have k2 : k.name ≠ "_" := of_decide_eq_false h2.2.2.2
 obtain ⟨f3, g3, i3, k3⟩ := h3
 have u3 := Try.underlying3
 have u4 := Try.underlying4
 have s3 : (Try.prog.info? 3).map (·.size) = some 1 := by kernel_rfl
 have s4 : (Try.prog.info? 4).map (·.size) = some 1 := by kernel_rfl
 cases hq3 : Try.prog.info? 3 with
 | none => simp [hq3] at s3
 | some i =>
  cases hq4 : Try.prog.info? 4 with
  | none => simp [hq4] at s4
  | some j =>
   have hi : i.size = 1 := by simpa [hq3] using s3
   have hj : j.size = 1 := by simpa [hq4] using s4
   have ha3 : (isAgg 3).run Try.prog w = .ok false w := by unfold isAgg; rw [Sem.run_bind, run_underlying u3 w]; rfl
   have ha4 : (isAgg 4).run Try.prog w = .ok false w := by unfold isAgg; rw [Sem.run_bind, run_underlying u4 w]; rfl
   simp [Op.eqFields, f1, f2, f3, g1, g2, g3, i1, i2, i3, k1, k2, k3, part, sizeOf, typeInfo, hq3, hq4, hi, hj, ha3, ha4, go_sem, run_equalIn_int w 9998 3 .i64 .i64 _ _ u3, run_equalIn_bool w 9998 4 _ _ u4]
   unfold sameE
   by_cases e1 : x.sm = y.sm
   ·
    by_cases e2 : x.sp = y.sp
    ·
     by_cases e3 : x.wt = y.wt
     ·
      simp [e1, e2, e3]
      cases x.me <;> cases y.me <;> rfl
     ·
      simp [e1, e2, e3, beq_false_of_ne e3]
    ·
     simp [e1, e2, beq_false_of_ne e2]
   ·
    simp [e1, beq_false_of_ne e1]
theorem exec_eqlS {t : TypeId} (hT : EstEq t) {r : Operand → Value} {o : Oper} {x y : Operand} {ty : TypeId} {w : World} (ho : o.op = .binOp .eql t x y ty) {a b : E} (hx : r x = .agg (EV a)) (hy : r y = .agg (EV b)) :
  (execOp r o).run Try.prog w = .ok (.value (.bool (sameE a b))) w := by
 simp [execOp, ho, hx, hy, binOp, eqGuard, hT.gd, go_sem, equal_est hT]
theorem esE : EstEq 25 := ⟨by kernel_rfl, by kernel_rfl, by kernel_rfl, by kernel_rfl, by kernel_rfl, by kernel_rfl⟩
end Rto
end Go.Proofs.Ytdjijipbfiofmaa
/- The chapter's example: it holds. No condition of its own. -/
namespace Go.Proofs.Ytdjijipbfiofmaa
namespace Rto
open Go Go.RowKit
set_option maxRecDepth 100000
theorem took1 : tookV eF 8 = ⟨64, 16, 24, true⟩ ∧ tookN eF 8 = 0 := ⟨by kernel_rfl, by kernel_rfl⟩
theorem took2 : tookV ⟨64, 16, 24, true⟩ 8 = ⟨64, 12, 20, true⟩ ∧ tookN ⟨64, 16, 24, true⟩ 8 = 0 := ⟨by kernel_rfl, by kernel_rfl⟩
theorem exec_buildc {r : Operand → Value} {o : Oper} {w : World} {t : TypeId} {parts : Array (Nat × Operand)} {vals : List (Nat × Value)} {cells : Array Value} (ho : o.op = .build t parts) (hv : (parts.map fun (i, x) => (i, r x)).toList = vals) (hc : Try.prog.built t vals = some cells) : (execOp r o).run Try.prog w = .ok (.value (.agg cells)) w := by
 have := run_build (P := Try.prog) w t (parts.map fun (i, x) => (i, r x)) cells (by rw [hv]; exact hc)
 simp [execOp, ho, this]
theorem built64 : Try.prog.built 25 [(0, .int .i64 64), (1, .int .i64 16), (2, .int .i64 24), (3, .bool true)] = some (EV ⟨64, 16, 24, true⟩) := by kernel_rfl
set_option maxHeartbeats 8000000 in
theorem alive_any (w : World) : Calls Try.prog 7 #[] w fun e w' => e = .returned (.bool true) ∧ Ext w w' := by
 go_enter Try.func7, Try.ntmps7
 go_wp2_with (first
  | (have q := HB1; clear q; refine stop_at 21 rfl ?_)
  | (go_at_call 14; refine (first_any _).mono ?_; rintro e w1 ⟨rfl, he1⟩)
  | (have q := HA1; clear q; go_at_call 8; refine (took_any _ _ _).mono ?_; rintro e w5 ⟨rfl, he5⟩; rw [took2.1, took2.2]; have HA2 : Hid (Blk w5 _ (EV ⟨64, 16, 24, true⟩) _ ∧ Ext w w5) := ⟨HA1.out.1.ext he5, HA1.out.2.trans he5⟩; clear HA1 he5)
  | (go_at_call 8; refine (took_any _ _ _).mono ?_; rintro e w2 ⟨rfl, he2⟩; rw [took1.1, took1.2]; have HW : Hid (Ext w w2) := he1.trans he2; clear he1 he2)
  | (have q := HA1; clear q; refine wl_load rfl rowE rfl rfl HA1.out.1 rfl ?_)
  | (have q := HA2; clear q; refine wl_alloc rfl rfl zeroE ?_; intro w6 hb6 he6 hx6; have HA3 : Hid (Blk w6 _ (EV ⟨64, 16, 24, true⟩) _ ∧ Ext w w6 ∧ _ ≠ w5.heap.size ∧ w.heap.size ≤ w5.heap.size) := ⟨HA2.out.1.ext he6, HA2.out.2.trans he6, Nat.ne_of_lt HA2.out.1.lt, HA2.out.2.size⟩; clear HA2 he6 hx6)
  | (refine wl_alloc rfl rfl zeroE ?_; intro w3 hb3 he3 hx3; clear hx3)
  | (have q := HA3; clear q; refine wl_store (D := EV ⟨64, 12, 20, true⟩) rfl rowE rfl rfl rfl hb6 rfl rfl (EV.one _) ?_; intro w7 hb7 hk7 hx7; clear hx7; have HB1 : Hid (Blk w7 _ (EV ⟨64, 16, 24, true⟩) _ ∧ Blk w7 w5.heap.size (EV ⟨64, 12, 20, true⟩) _ ∧ Ext w w7) := ⟨HA3.out.1.but hk7 HA3.out.2.2.1, hb7, HA3.out.2.1.of_but hk7 (fun q e => by subst e; exact HA3.out.2.2.2)⟩; clear HA3 hb6 hb7 hk7)
  | (refine wl_store (D := EV ⟨64, 16, 24, true⟩) rfl rowE rfl rfl rfl hb3 rfl rfl (EV.one _) ?_; intro w4 hb4 hk4 hx4; clear hx4; have HA1 : Hid (Blk w4 _ (EV ⟨64, 16, 24, true⟩) _ ∧ Ext w w4) := ⟨hb4, (HW.out.trans he3).of_but hk4 (fun q e => by subst e; exact HW.out.size)⟩; clear hb3 hb4 hk4 he3 HW))
 refine ⟨?_⟩
 refine wpList_line 1 (fun t => bif Nat.ble 15 t && Nat.ble t 35 then some (t - 15) else bif Nat.beq t 0 then some 21 else none) 36 Ext
  [Is (.nilIface),
   Is (.bool true),
   Is (.bool true),
   Under ((true)) (.nilIface),
   Under ((true)) (.bool true),
   Is (.bool (true && (true))),
   Is (.bool (true && (true))),
   Under (((true && (true)))) (.agg (EV ⟨64, 16, 24, true⟩)),
   Under (((true && (true)))) (.agg (EV ⟨64, 16, 24, true⟩)),
   Under (((true && (true)))) (.bool true),
   Is (.bool ((true && (true)) && (true))),
   Is (.bool ((true && (true)) && (true))),
   Under ((((true && (true)) && (true)))) (.pointer (some ⟨w5.heap.size, 1, none⟩)),
   Under ((((true && (true)) && (true)))) (.int .i64 12),
   Under ((((true && (true)) && (true)))) (.bool ((12 : Int) == (12 : Int))),
   Is (.bool (((true && (true)) && (true)) && (((12 : Int) == (12 : Int))))),
   Is (.bool (((true && (true)) && (true)) && (((12 : Int) == (12 : Int))))),
   Under (((((true && (true)) && (true)) && (((12 : Int) == (12 : Int)))))) (.pointer (some ⟨w5.heap.size, 2, none⟩)),
   Under (((((true && (true)) && (true)) && (((12 : Int) == (12 : Int)))))) (.int .i64 20),
   Under (((((true && (true)) && (true)) && (((12 : Int) == (12 : Int)))))) (.bool ((20 : Int) == (20 : Int))),
   Is (.bool ((((true && (true)) && (true)) && (((12 : Int) == (12 : Int)))) && (((20 : Int) == (20 : Int))))),
   Is (.bool ((((true && (true)) && (true)) && (((12 : Int) == (12 : Int)))) && (((20 : Int) == (20 : Int)))))]
  rfl (by kernel_rfl) rfl Ext.refl (fun _ _ _ => Ext.trans) (Ks (Ks (Ks (Ku (Ku (Ks (Ks (Ku (Ku (Ku (Ks (Ks (Ku (Ku (Ku (Ks (Ks (Ku (Ku (Ku (Ks (Ks (KeepAll.nil))))))))))))))))))))))) ?_ ?_ ?_
 ·
  intro i o hi ho
  by_cases hi0 : i = 0
  ·
   subst hi0; cases ho; exact ⟨_, fun d hd => by cases hd; rfl, rfl⟩
  exact absurd hi (by omega)
 ·
  refine goodFrom 1 ?_
  refine Gc (ln2 (gd0 rfl) rfl (ouI rfl) (fun _ _ h _ => h) (fun _ _ h _ => h) (fun r wx hR h1 h2 => exec_eqlV 0 rfl h1 h2)) ?_
  refine Gc (ln1 (gd0 rfl) rfl (ouI rfl) (fun _ _ h _ => h) (fun r wx hR h1 => exec_mv (.inl rfl) h1)) ?_
  refine Gc (ln1 (gdU rfl (fun _ _ h => h) (want_t _)) rfl (ouU rfl) (fun _ _ h _ => h) (fun r wx hR h1 => exec_mv (.inl rfl) h1)) ?_
  refine Gc (ln2 (gdU rfl (fun _ _ h => h) (want_t _)) rfl (ouU rfl) (fun _ _ h c => Eq.trans h (if_pos c)) (fun _ _ h _ => h) (fun r wx hR h1 h2 => exec_eqlV 0 rfl h1 h2)) ?_
  refine Gc (lnA (gd0 rfl) rfl (ouI rfl) (fun _ _ h _ => h) (fun _ _ h c hb => Eq.trans h (if_pos (by first | exact hb | (rw [hb]; rfl) | (rw [c, hb]; rfl))))) ?_
  refine Gc (ln1 (gd0 rfl) rfl (ouI rfl) (fun _ _ h _ => h) (fun r wx hR h1 => exec_mv (.inl rfl) h1)) ?_
  refine Gc (ln1 (gdU rfl (fun _ _ h => h) (want_t _)) rfl (ouU rfl) (fun _ _ h _ => h) (fun r wx hR h1 => exec_loadW rowE rfl h1 (HB1.out.1.ext hR) rfl)) ?_
  refine Gc ?_ ?_
  ·
   rintro r wx hR ⟨h1, h2, h3, h4, _⟩
   replace h1 : r (.const (.int .i64 64)) = .int .i64 64 := h1
   replace h2 : r (.const (.int .i64 16)) = .int .i64 16 := h2
   replace h3 : r (.const (.int .i64 24)) = .int .i64 24 := h3
   replace h4 : r (.const (.bool true)) = .bool true := h4
   intro gb hgb
   refine guard_u (C := ((true && (true)))) (b := (true && (true))) (want := true) hgb (want_t _) (fun hc => ?_) (fun hc => un_ hc)
   exact gvo (exec_buildc (vals := _) rfl (by simp [h1, h2, h3, h4]) built64) ⟨Ext.refl _, uy hc⟩
  refine Gc (ln2 (gdU rfl (fun _ _ h => h) (want_t _)) rfl (ouU rfl) (fun _ _ h c => Eq.trans h (if_pos c)) (fun _ _ h c => Eq.trans h (if_pos c)) (fun r wx hR h1 h2 => exec_eqlS (a := ⟨64, 16, 24, true⟩) (b := ⟨64, 16, 24, true⟩) esE rfl h1 h2)) ?_
  refine Gc (lnA (gd0 rfl) rfl (ouI rfl) (fun _ _ h _ => h) (fun _ _ h c hb => Eq.trans h (if_pos (by first | exact hb | (rw [hb]; rfl) | (rw [c, hb]; rfl))))) ?_
  refine Gc (ln1 (gd0 rfl) rfl (ouI rfl) (fun _ _ h _ => h) (fun r wx hR h1 => exec_mv (.inl rfl) h1)) ?_
  refine Gc (ln1 (gdU rfl (fun _ _ h => h) (want_t _)) rfl (ouU rfl) (fun _ _ h _ => h) (fun r wx hR h1 => by simp [execOp, h1, go_sem])) ?_
  refine Gc (ln1 (gdU rfl (fun _ _ h => h) (want_t _)) rfl (ouU rfl) (fun _ _ h c => Eq.trans h (if_pos c)) (fun r wx hR h1 => exg one3 rfl h1 (ev1 (HB1.out.2.1.ext hR)))) ?_
  refine Gc (ln2 (gdU rfl (fun _ _ h => h) (want_t _)) rfl (ouU rfl) (fun _ _ h c => Eq.trans h (if_pos c)) (fun _ _ h _ => h) (fun r wx hR h1 h2 => by simp [execOp, h1, h2, go_sem])) ?_
  refine Gc (lnA (gd0 rfl) rfl (ouI rfl) (fun _ _ h _ => h) (fun _ _ h c hb => Eq.trans h (if_pos (by first | exact hb | (rw [hb]; rfl) | (rw [c, hb]; rfl))))) ?_
  refine Gc (ln1 (gd0 rfl) rfl (ouI rfl) (fun _ _ h _ => h) (fun r wx hR h1 => exec_mv (.inl rfl) h1)) ?_
  refine Gc (ln1 (gdU rfl (fun _ _ h => h) (want_t _)) rfl (ouU rfl) (fun _ _ h _ => h) (fun r wx hR h1 => by simp [execOp, h1, go_sem])) ?_
  refine Gc (ln1 (gdU rfl (fun _ _ h => h) (want_t _)) rfl (ouU rfl) (fun _ _ h c => Eq.trans h (if_pos c)) (fun r wx hR h1 => exg one3 rfl h1 (ev2 (HB1.out.2.1.ext hR)))) ?_
  refine Gc (ln2 (gdU rfl (fun _ _ h => h) (want_t _)) rfl (ouU rfl) (fun _ _ h c => Eq.trans h (if_pos c)) (fun _ _ h _ => h) (fun r wx hR h1 h2 => by simp [execOp, h1, h2, go_sem])) ?_
  refine Gc (lnA (gd0 rfl) rfl (ouI rfl) (fun _ _ h _ => h) (fun _ _ h c hb => Eq.trans h (if_pos (by first | exact hb | (rw [hb]; rfl) | (rw [c, hb]; rfl))))) ?_
  refine Gc (ln1 (gd0 rfl) rfl (ouI rfl) (fun _ _ h _ => h) (fun r wx hR h1 => exec_mv (.inr rfl) h1)) ?_
  exact GoodAll.nil
 ·
  intro vs wE aE hR hold haE
  have hv : vs 21 = .bool ((((true && (true)) && (true)) && (((12 : Int) == (12 : Int)))) && (((20 : Int) == (20 : Int)))) := hold.at 21
  refine ‹∀ (a : Act) (w : World), Code.wp Try.prog Code.ret _ a w → _› _ _ ?_
  refine wp_ret ?_
  have hs : aE.tmps[0]? = some (.bool ((((true && (true)) && (true)) && (((12 : Int) == (12 : Int)))) && (((20 : Int) == (20 : Int))))) := by rw [haE, ← hv]; kernel_rfl
  have hdf : aE.defers = [] := by rw [haE]; exact putAll_defers _ _ _ _
  clear haE
  try unfold Exit.then
  try unfold Exit.inBlock
  try dsimp only
  refine bodyPost_ret (v := .bool ((((true && (true)) && (true)) && (((12 : Int) == (12 : Int)))) && (((20 : Int) == (20 : Int))))) ?_ hdf ⟨rfl, HB1.out.2.2.trans hR⟩
  simp [results, Try.results7, go_sem, hs]
end Rto
end Go.Proofs.Ytdjijipbfiofmaa
/- Estimates in own blocks, one behind the other. No condition of its own. -/
namespace Go.Proofs.Ytdjijipbfiofmaa
namespace Rto
open Go Go.RowKit
set_option maxRecDepth 100000
/-- Estimates in blocks of the own: the newest first. -/
def Bs (w0 w : World) (L : List (Nat × E × Nat)) : Prop := Ext w0 w ∧ (∀ p, p ∈ L → Blk w p.1 (EV p.2.1) p.2.2 ∧ w0.heap.size ≤ p.1) ∧ L.Pairwise (fun a b => b.1 < a.1)
theorem Bs.nil {w0 w : World} (h : Ext w0 w) : Bs w0 w [] := ⟨h, fun _ hp => (by cases hp), List.Pairwise.nil⟩
theorem Bs.at {w0 w : World} {L : List (Nat × E × Nat)} (h : Bs w0 w L) (i : Nat) {g T : Nat} {x : E} (hp : L[i]? = some (g, x, T)) : Blk w g (EV x) T := (h.2.1 (g, x, T) (List.mem_of_getElem? hp)).1
theorem Bs.grow {w0 w w' : World} {L : List (Nat × E × Nat)} (h : Bs w0 w L) (he : Ext w w') : Bs w0 w' L := ⟨h.1.trans he, fun p hp => ⟨(h.2.1 p hp).1.ext he, (h.2.1 p hp).2⟩, h.2.2⟩
theorem Bs.put {w0 w w' : World} {L : List (Nat × E × Nat)} {z : E} {T : Nat} (h : Bs w0 w L) (he : Ext w w') (hb : Blk w' w.heap.size (EV z) T) : Bs w0 w' ((w.heap.size, z, T) :: L) := by
 refine ⟨h.1.trans he, fun p hp => ?_, List.Pairwise.cons (fun p hp => (h.2.1 p hp).1.lt) h.2.2⟩
 rcases List.mem_cons.1 hp with rfl | hp
 ·
  exact ⟨hb, h.1.size⟩
 ·
  exact ⟨(h.2.1 p hp).1.ext he, (h.2.1 p hp).2⟩
theorem Bs.set {w0 w w' : World} {L : List (Nat × E × Nat)} {g T : Nat} {z y : E} (h : Bs w0 w ((g, z, T) :: L)) (hb : Blk w' g (EV y) T) (hk : KeepBut (· = g) w w') : Bs w0 w' ((g, y, T) :: L) := by
 have hg := (h.2.1 _ List.mem_cons_self).2
 have hp := List.pairwise_cons.1 h.2.2
 refine ⟨h.1.of_but hk (fun q e => by subst e; exact hg), fun p hq => ?_, List.Pairwise.cons hp.1 hp.2⟩
 rcases List.mem_cons.1 hq with rfl | hq
 ·
  exact ⟨hb, hg⟩
 ·
  have := h.2.1 p (List.mem_cons_of_mem _ hq)
  exact ⟨this.1.but hk (Nat.ne_of_lt (hp.1 p hq)), this.2⟩
end Rto
end Go.Proofs.Ytdjijipbfiofmaa
/- How many ticks go by. No condition of its own. -/
namespace Go.Proofs.Ytdjijipbfiofmaa
namespace Rto
open Go Go.RowKit
set_option maxRecDepth 100000
/-- One estimate in a block of the own. -/
structure One (w0 w : World) (g T : Nat) (x : E) : Prop where
 a : Blk w g (EV x) T
 ext : Ext w0 w
 g0 : w0.heap.size ≤ g
theorem One.grow {w0 w w' : World} {g T : Nat} {x : E} (H : One w0 w g T x) (he : Ext w w') : One w0 w' g T x := ⟨H.a.ext he, H.ext.trans he, H.g0⟩
theorem One.setA {w0 w w' : World} {g T : Nat} {x z : E} (H : One w0 w g T x) (hz : Blk w' g (EV z) T) (hk : KeepBut (· = g) w w') : One w0 w' g T z := ⟨hz, H.ext.of_but hk (fun q e => by subst e; exact H.g0), H.g0⟩
end Rto
end Go.Proofs.Ytdjijipbfiofmaa
/- The law RtoSteady walked: it answers true. No condition of its own. -/
namespace Go.Proofs.Ytdjijipbfiofmaa
namespace Rto
open Go Go.RowKit
set_option maxRecDepth 100000
/-- An estimate each answer of which took r ticks. -/
structure Std (r : Int) (x : E) : Prop where
 me : x.me = true
 sm : x.sm = 8 * r
 good : goodB x = true
 wt : x.wt = bd (r + x.sp)
theorem std_first {r : Int} (h : okT eF r = true) : Std r (tookE eF r) := ⟨rfl, rfl, tookE_good h, rfl⟩
theorem bd_mono {a b : Int} (h : a ≤ b) : bd a ≤ bd b := by unfold bd; split <;> split <;> (try split) <;> (try split) <;> omega
theorem std_next {r : Int} {x : E} (hx : Std r x) (h : okT x r = true) : Std r (tookE x r) ∧ (tookE x r).sp ≤ x.sp ∧ (tookE x r).wt ≤ x.wt ∧ timesE (tookE x r) = (r, (tookE x r).sp / 4) := by
 have hd : r - x.sm / 8 = 0 := by rw [hx.sm]; omega
 have hs := (goodB_iff _).1 hx.good
 have he : tookE x r = ⟨8 * r, x.sp + (0 - x.sp / 4), bd (r + (x.sp + (0 - x.sp / 4))), true⟩ := by
  unfold tookE
  rw [if_pos hx.me, hd, show absI 0 = 0 from rfl, hx.sm, show (8 * r + 0) / 8 = r from by omega, show 8 * r + 0 = 8 * r from by omega]
 have hg := tookE_good h
 refine ⟨⟨by rw [he], by rw [he], hg, by rw [he]⟩, ?_, ?_, ?_⟩
 ·
  rw [he]; show x.sp + (0 - x.sp / 4) ≤ x.sp; omega
 ·
  rw [he, hx.wt]; exact bd_mono (by show r + (x.sp + (0 - x.sp / 4)) ≤ r + x.sp; omega)
 ·
  refine (if_pos hg).trans ?_
  rw [he]
  show ((8 * r) / 8, _) = (r, _)
  rw [show (8 * r) / 8 = r from by omega]
theorem Two.one' {w0 w : World} {g h T : Nat} {x y : E} (H : Two w0 w g h T x y) : One w0 w g T x := ⟨H.a, H.ext, H.g0⟩
theorem One.two' {w0 w w' : World} {g T : Nat} {x z : E} (H : One w0 w g T x) (he : Ext w w') (hb : Blk w' w.heap.size (EV z) T) : Two w0 w' g w.heap.size T x z := ⟨H.a.ext he, hb, H.ext.trans he, H.g0, H.a.lt⟩
set_option maxHeartbeats 16000000 in
theorem steady_walk (r many : Int) (w : World) : Calls Try.prog 6 #[.int .i64 r, .int .i64 many] w fun x w' => x = .returned (.bool true) ∧ Ext w w' := by
 cases hk : okT eF r with
 | false =>
  have hN : tookN eF r = 1 := (took_no hk).2
  have hV : tookV eF r = e0 := (took_no hk).1
  by_cases h0 : r < 0
  ·
   have d1 : decide (r < 0) = true := decide_eq_true h0
   go_enter Try.func6, Try.ntmps6
   go_wp2_with (first
    | (go_at_call 7; refine (alive_any _).mono ?_; rintro x w2 ⟨rfl, he2⟩; have HB : Hid (Bs w w2 []) := Bs.nil he2; clear he2)
    | (go_at_call 14; refine (first_any _).mono ?_; rintro x wF ⟨rfl, heq⟩; replace HB : Hid (Bs _ _ _) := HB.out.grow heq; clear heq)
    | (go_at_call 8; refine (took_any _ _ _).mono ?_; rintro x wT ⟨rfl, heq⟩; rw [hN, hV]; replace HB : Hid (Bs _ _ _) := HB.out.grow heq; clear heq)
    | (have q := HB; clear q; refine wl_alloc rfl rfl zeroE ?_; intro w3 hb3 he3 hx3; clear hx3; replace HB : Hid (Bs _ _ (_ :: _)) := HB.out.put he3 hb3; clear hb3 he3)
    | (have q := HB; clear q; refine wl_store (D := EV e0) rfl rowE rfl rfl rfl (HB.out.at 0 rfl) rfl rfl (EV.one _) ?_; intro w4 hb4 hk4 hx4; clear hx4; replace HB : Hid (Bs _ _ (_ :: _)) := HB.out.set hb4 hk4; clear hb4 hk4)
    | (have q := HB; clear q; refine wpList_of_run (v := .bool true) rfl (exec_neqV 1 rfl rfl rfl) ?_))
   go_ret
   exact ⟨rfl, HB.out.1⟩
  ·
   have d1 : decide (r < 0) = false := decide_eq_false h0
   have d2 : decide (r > 65535) = true := decide_eq_true (by
    rw [Bool.eq_false_iff, Ne, okT_iff] at hk
    by_cases h3 : r > 65535
    ·
     exact h3
    ·
     exact absurd ⟨rfl, by omega, by omega⟩ hk)
   go_enter Try.func6, Try.ntmps6
   go_wp2_with (first
    | (go_at_call 7; refine (alive_any _).mono ?_; rintro x w2 ⟨rfl, he2⟩; have HB : Hid (Bs w w2 []) := Bs.nil he2; clear he2)
    | (go_at_call 14; refine (first_any _).mono ?_; rintro x wF ⟨rfl, heq⟩; replace HB : Hid (Bs _ _ _) := HB.out.grow heq; clear heq)
    | (go_at_call 8; refine (took_any _ _ _).mono ?_; rintro x wT ⟨rfl, heq⟩; rw [hN, hV]; replace HB : Hid (Bs _ _ _) := HB.out.grow heq; clear heq)
    | (have q := HB; clear q; refine wl_alloc rfl rfl zeroE ?_; intro w3 hb3 he3 hx3; clear hx3; replace HB : Hid (Bs _ _ (_ :: _)) := HB.out.put he3 hb3; clear hb3 he3)
    | (have q := HB; clear q; refine wl_store (D := EV e0) rfl rowE rfl rfl rfl (HB.out.at 0 rfl) rfl rfl (EV.one _) ?_; intro w4 hb4 hk4 hx4; clear hx4; replace HB : Hid (Bs _ _ (_ :: _)) := HB.out.set hb4 hk4; clear hb4 hk4)
    | (have q := HB; clear q; refine wpList_of_run (v := .bool true) rfl (exec_neqV 1 rfl rfl rfl) ?_))
   go_ret
   exact ⟨rfl, HB.out.1⟩
 | true =>
  have hN : tookN eF r = 0 := (took_yes hk).2
  obtain ⟨X, hX⟩ : ∃ X, X = tookE eF r := ⟨_, rfl⟩
  have hV : tookV eF r = X := (took_yes hk).1.trans hX.symm
  have HS0 : Hid (Std r X) := by rw [hX]; exact std_first hk
  have HR : Hid (0 ≤ r ∧ r ≤ 65535) := ((okT_iff _ _).1 hk).2
  obtain ⟨U, hU⟩ : ∃ U : Int, U = many % 18446744073709551616 := ⟨_, rfl⟩
  have u1 : IntKind.u64.wrap many = U := by rw [IntKind.wrap_u64, hU]
  have hU0 : 0 ≤ U := by rw [hU]; exact Int.emod_nonneg _ (by decide)
  clear hU
  obtain ⟨M, hM⟩ : ∃ M : Nat, (M : Int) = U % 40 := ⟨(U % 40).toNat, Int.toNat_of_nonneg (Int.emod_nonneg _ (by decide))⟩
  have hM40 : M < 40 := by clear u1; omega
  have u2 : U.tmod 40 = (M : Int) := by rw [Int.tmod_eq_emod_of_nonneg hU0, hM]
  clear hM
  have u3 : IntKind.u64.wrap (M : Int) = (M : Int) := by rw [IntKind.wrap_u64]; omega
  have u4 : IntKind.i64.wrap (M : Int) = (M : Int) := by rw [IntKind.wrap_i64]; omega
  have u5 : wrap64 (M : Int) = (M : Int) := by unfold wrap64; omega
  have HM : Hid (M < 40) := hM40
  clear hM40 hU0 hX hk
  go_enter Try.func6, Try.ntmps6
  go_wp2_with (first
   | (go_at_call 7; refine (alive_any _).mono ?_; rintro x w2 ⟨rfl, he2⟩; have HB : Hid (Bs w w2 []) := Bs.nil he2; clear he2)
   | (go_at_call 14; refine (first_any _).mono ?_; rintro x wF ⟨rfl, heq⟩; replace HB : Hid (Bs _ _ _) := HB.out.grow heq; clear heq)
   | (go_at_call 8; refine (took_any _ _ _).mono ?_; rintro x wT ⟨rfl, heq⟩; rw [hN, hV]; replace HB : Hid (Bs _ _ _) := HB.out.grow heq; clear heq)
   | (have q := HB; clear q; refine wl_alloc rfl rfl zeroE ?_; intro w3 hb3 he3 hx3; clear hx3; replace HB : Hid (Bs _ _ (_ :: _)) := HB.out.put he3 hb3; clear hb3 he3)
   | (have q := HB; clear q; refine wl_store (D := EV X) rfl rowE rfl rfl rfl (HB.out.at 0 rfl) rfl rfl (EV.one _) ?_; intro w4 hb4 hk4 hx4; clear hx4; replace HB : Hid (Bs _ _ (_ :: _)) := HB.out.set hb4 hk4; clear hb4 hk4)
   | (have q := HB; clear q; refine wpList_of_run (v := .bool false) rfl (exec_neqV 0 rfl rfl rfl) ?_))
  have HT0 : Hid (One w _ wT.heap.size 25 X) := ⟨HB.out.at 0 rfl, HB.out.1, (HB.out.2.1 _ List.mem_cons_self).2⟩
  clear HB hN hV u1 u2 u3 u4 u5
  go_loopg [31] M (fun gm t wr => ∃ (k : Nat) (x : E), k ≤ M ∧ gm = M - k ∧ t = .int .i64 (k : Int) ∧ Hid (Std r x) ∧ Hid (One w wr wT.heap.size 25 x))
  case atStart => exact ⟨0, X, Nat.zero_le _, rfl, rfl, HS0, HT0⟩
  case round =>
   obtain ⟨k, x, hk, rfl, rfl, HS, HT⟩ := hrel
   clear HT0 HS0
   by_cases hlt : k < M
   ·
    have hd : decide ((k : Int) < (M : Int)) = true := decide_eq_true (by omega)
    have k1 : IntKind.i64.wrap ((k : Int) + 1) = ((k + 1 : Nat) : Int) := by rw [IntKind.wrap_i64]; have := HM.out; omega
    have HK : Hid (k + 1 ≤ M) := hlt
    have hk2 : okT x r = true := (okT_iff _ _).2 ⟨HS.out.good, HR.out.1, HR.out.2⟩
    obtain ⟨hs, hsp, hwt, htm⟩ := std_next HS.out hk2
    have hN : tookN x r = 0 := (took_yes hk2).2
    obtain ⟨y, hy⟩ : ∃ y, tookE x r = y := ⟨_, rfl⟩
    have hV : tookV x r = y := (took_yes hk2).1.trans hy
    rw [hy] at hs hsp hwt htm
    have HSY : Hid (Std r y) := hs
    have HTM : Hid (timesE y = (r, y.sp / 4)) := htm
    have e2 : decide (y.sp > x.sp) = false := decide_eq_false (by omega)
    have e3 : decide (y.wt > x.wt) = false := decide_eq_false (by omega)
    clear hs hsp hwt htm hy hk2 hlt
    go_wp2_with (first
     | (have q := HX; clear q; refine wpList_of_run (v := .bool false) rfl (exec_neqV 0 rfl rfl rfl) ?_)
     | (have q := HX; clear q; refine wl_load rfl rowE rfl rfl HU.out.b rfl ?_; clear HX xa1 xa2 xb1 xb2)
     | (have q := HT; clear q; refine wl_load rfl rowE rfl rfl HT.out.a rfl ?_)
     | (go_at_call 8; refine (took_any _ _ _).mono ?_; rintro xx w3 ⟨rfl, he3⟩; rw [hN, hV]; replace HT : Hid (One _ _ _ _ _) := HT.out.grow he3; clear he3)
     | (have q := HT; clear q; refine wl_alloc rfl rfl zeroE ?_; intro w5 hb5 he5 hx5; clear hx5; have HU : Hid (Two _ _ _ _ _ _ _) := HT.out.two' he5 hb5; clear hb5 he5 HT)
     | (have q := HU; clear q; refine wl_store (D := EV y) rfl rowE rfl rfl rfl HU.out.b rfl rfl (EV.one _) ?_; intro w6 hb6 hk6 hx6; clear hx6; replace HU : Hid (Two _ _ _ _ _ _ _) := HU.out.setB hb6 hk6; clear hb6 hk6)
     | (have q := HU; clear q; refine wl_load rfl rowE rfl rfl HU.out.b rfl ?_)
     | (go_at_call 10; refine (times_any _ _).mono ?_; rintro xx w8 ⟨rfl, he8⟩; rw [HTM.out]; replace HU : Hid (Two _ _ _ _ _ _ _) := HU.out.grow he8; clear he8; have HX : Hid True := trivial; have xa1 := ev1 HU.out.a; have xa2 := ev2 HU.out.a; have xb1 := ev1 HU.out.b; have xb2 := ev2 HU.out.b)
     | (have q := HU; clear q; refine wl_store (D := EV y) rfl rowE rfl rfl rfl HU.out.a rfl rfl (EV.one _) ?_; intro w7 hb7 hk7 hx7; clear hx7; have HT : Hid (One _ _ _ _ _) := (HU.out.setA hb7 hk7).one'; clear hb7 hk7 HU))
    go_roundg (M - (k + 1))
    case measure => have := HK.out; omega
    case rel => exact ⟨k + 1, y, HK.out, rfl, rfl, HSY, HT⟩
   ·
    have hd : decide ((k : Int) < (M : Int)) = false := decide_eq_false (by omega)
    go_wp2
    go_ret
    exact ⟨rfl, HT.out.ext⟩
end Rto
end Go.Proofs.Ytdjijipbfiofmaa
namespace Go.Proofs.Ytdjijipbfiofmaa
open Go.ChangeShapes Go.WideShapes Go.ChangeAt Go.RowKit
open Go.ChangeMaps (open_string shut_string)
theorem rtoSteadyOwn : ownKnob Try.prog.godebug = none := by kernel_rfl
theorem rtoSteadyLaidOut : laidOutB Try.prog = true := by kernel_rfl
set_option maxRecDepth 100000 in
theorem rtoSteadyLifted (os : Os) (started : os.Started) (H : Type) (enc : TypeId × Value → H) :
  ReturnsInHanded {} Try.checked os 6 .any (Rows.rtoSteadySpec.pre6 enc Try.prog Try.f6 Rows.rtoSteadyRow.domain false) (Rows.rtoSteadySpec.post enc Try.prog Try.f6 false true false false) := by
 refine returnsInHanded_of_change (C := Try.checked) rtoSteadyOwn started (by kernel_rfl) Try.func6
  (ChangeSpec.witness6 (enc := enc) (C := Try.checked) false ⟨#[], #[.int .i64 0, .int .i64 0], []⟩ 8 (by kernel_rfl) (by kernel_rfl) (by kernel_rfl) (by kernel_rfl)) ?_
 intro W base args ds gs before hval0 hW hcnd _
 have hval : ∀ (j : Nat) t v, Try.f6.params[j]? = some t → args[j]? = some v → Value.okWide Try.prog W .any base t v := hval0
 have hW' := hW
 obtain ⟨p, q, hA0, hV, rfl, hfz, hnd⟩ := hW
 have hA : DataW.TrodAll enc Try.prog W 0 (fun _ => true) true Try.f6.params.toList args.toList ds p := hA0
 rw [Try.params6] at hA hval
 obtain ⟨v0, vs0, d0, ds0, p0, q0, hargs, rfl, rfl, h0, r0⟩ := trodAll_cons hA
 obtain ⟨v1, vs1, d1, ds1, p1, q1, rfl, rfl, rfl, h1, r1⟩ := trodAll_cons r0
 obtain ⟨rfl, rfl, rfl⟩ := trodAll_nil r1
 obtain rfl : args = #[v0, v1] := by cases args; simp_all
 obtain ⟨rfl, rfl⟩ := trodVars_none hV
 obtain ⟨a0, rfl, rfl, rfl, w0⟩ := open_int Try.underlying3 (hval 0 3 v0 rfl rfl) h0
 obtain ⟨a1, rfl, rfl, rfl, w1⟩ := open_int Try.underlying3 (hval 1 3 v1 rfl rfl) h1
 clear hA0 hval0
 refine (Rto.steady_walk a0 a1 W).mono fun e W' ⟨he, bel⟩ => ?_
 subst he
 exact ⟨_, rfl, _, _, _, [], _, [], hW', trodAll_mk1 (shut_bool Try.underlying4 _), (trodAll_cons_mk (shut_int Try.underlying3 w0) (trodAll_cons_mk (shut_int Try.underlying3 w1) (trodAll_mk0))), rfl, bel.frame _, fun h => by cases h⟩
theorem rtoSteadyOver : Rows.rtoSteadyRow.holds Try.pinned (OpenSpec.ofChange Rows.rtoSteadySpec) :=
 OpenClaim.holds_of_wide 6 Try.f6 rfl rfl rfl rfl rfl rfl rfl ⟨rfl, rfl, rfl, rfl, rfl⟩ rfl rfl rfl rfl rfl (by kernel_rfl) Try.func6 (by kernel_rfl)
  (of_decide_eq_true (by kernel_rfl)) (by unfold Func.isWrapper; first | (rw [if_pos (by decide +kernel)]; kernel_rfl) | (rw [if_neg (by decide +kernel)]; exact ⟨rfl, rfl⟩))
  (fun os started H enc _ => rtoSteadyLifted os started H enc)
/-- THE STATEMENT. -/
theorem rtoSteady_holds : Rows.RtoSteadySaid := rtoSteadyOver
#print axioms rtoSteady_holds
end Go.Proofs.Ytdjijipbfiofmaa
