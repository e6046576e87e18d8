/- Texts of the seat, one behind the other. No condition of its own. -/
import Derived.Test.YtkfohggdaooieaaCwl1
import Derived.BigQuiet
import Derived.Deep.LoopGhost
import Derived.Deep.QuietTactic
import Derived.Laws.ResultCell
import Derived.Test.YtkfohggdaooieaaProg
import Derived.Laws.StructEq
set_option linter.unusedVariables false
set_option linter.unusedSimpArgs false
/- A law on regions that draw their order and whose writers stand in one chain: facts that are kept, and what holds of the world behind each writer. No condition of its own. -/
namespace Go.Proofs.Ytkfohggdaooieaa
open Go
/-- What is owed for operation number i, from a world of S to one of S'. -/
def GoodH (P : Program) (mk : Tmp → Option Nat) (a0 : Act) (R : World → World → Prop) (V : Nat → World → Value → Prop) (w0 : World) (i : Nat) (o : Oper) (S S' : World → Prop) : Prop :=
 ∀ (r : Operand → Value) (w : World), R w0 w → S w → factsOf mk a0 V r w o.op.operands.toList →
  match o.guard with
  | none => give P (fun v x => R w x ∧ S' x ∧ V i x v) ((execOp r o).run P w)
  | some (g, want) => ∀ b, V g w b → if asBool b == some want then give P (fun v x => R w x ∧ S' x ∧ V i x v) ((execOp r o).run P w) else (S' w ∧ V i w undef)
section
variable {P : Program} {mk : Tmp → Option Nat} {ops : List Oper} {a0 : Act} {R : World → World → Prop} {V : Nat → World → Value → Prop} {w0 : World} {Q : Exit → Act → World → Prop} {n : Nat}
end
def GoodHAll (P : Program) (mk : Tmp → Option Nat) (a0 : Act) (R : World → World → Prop) (V : Nat → World → Value → Prop) (w0 : World) (wr ub : List Nat) (S : Nat → World → Prop) : Nat → List Oper → Prop
 | _, [] => True
 | i, o :: l => (if wr.contains i then GoodH P mk a0 R V w0 i o (S (wr.idxOf i)) (S (wr.idxOf i + 1)) else ∀ k, k ≤ ub.getD i 0 → GoodH P mk a0 R V w0 i o (S k) (S k)) ∧ GoodHAll P mk a0 R V w0 wr ub S (i + 1) l
theorem GoodHAll.at {P : Program} {mk : Tmp → Option Nat} {a0 : Act} {R : World → World → Prop} {V : Nat → World → Value → Prop} {w0 : World} {wr ub : List Nat} {S : Nat → World → Prop} : ∀ {ops : List Oper} {s : Nat}, GoodHAll P mk a0 R V w0 wr ub S s ops → ∀ i o, ops[i]? = some o → (if wr.contains (s + i) then GoodH P mk a0 R V w0 (s + i) o (S (wr.idxOf (s + i))) (S (wr.idxOf (s + i) + 1)) else ∀ k, k ≤ ub.getD (s + i) 0 → GoodH P mk a0 R V w0 (s + i) o (S k) (S k))
 | [], _, _, i, o, ho => by simp at ho
 | _ :: _, s, h, 0, o, ho => by simp at ho; subst ho; exact h.1
 | _ :: l, s, h, i + 1, o, ho => by
  have := GoodHAll.at (ops := l) h.2 i o (by simpa using ho)
  rwa [show s + 1 + i = s + (i + 1) by omega] at this
theorem GoodHAll.nil {P : Program} {mk : Tmp → Option Nat} {a0 : Act} {R : World → World → Prop} {V : Nat → World → Value → Prop} {w0 : World} {wr ub : List Nat} {S : Nat → World → Prop} {i : Nat} : GoodHAll P mk a0 R V w0 wr ub S i [] := trivial
theorem GoodHAll.reads {P : Program} {mk : Tmp → Option Nat} {a0 : Act} {R : World → World → Prop} {V : Nat → World → Value → Prop} {w0 : World} {wr ub : List Nat} {S : Nat → World → Prop} {i : Nat} {o : Oper} {l : List Oper} (u : Nat) (hc : wr.contains i = false) (hu : ub.getD i 0 = u) (h : ∀ k, k ≤ u → GoodH P mk a0 R V w0 i o (S k) (S k)) (hl : GoodHAll P mk a0 R V w0 wr ub S (i + 1) l) : GoodHAll P mk a0 R V w0 wr ub S i (o :: l) :=
 ⟨by rw [if_neg (by rw [hc]; simp), hu]; exact h, hl⟩
end Go.Proofs.Ytkfohggdaooieaa
/- Windows as cells; which are good. No condition of its own. -/
namespace Go.Proofs.Ytkfohggdaooieaa
namespace Cw
open Go Go.RowKit
set_option maxRecDepth 100000
theorem one3 : OneT Try.prog 3 := ⟨⟨_, Try.underlying3, rfl⟩, by kernel_rfl⟩
/-- What a window holds. -/
structure E where
 sz : Int
 th : Int
 ct : Int
def EV (e : E) : Array Value := #[.int .i64 e.sz, .int .i64 e.th, .int .i64 e.ct]
theorem ev0 {w : World} {g T : Nat} {e : E} (h : Blk w g (EV e) T) : w.cell? ⟨g, 0, none⟩ = some (.int .i64 e.sz) := h.cell 0
theorem ev1 {w : World} {g T : Nat} {e : E} (h : Blk w g (EV e) T) : w.cell? ⟨g, 1, none⟩ = some (.int .i64 e.th) := h.cell 1
theorem ev2 {w : World} {g T : Nat} {e : E} (h : Blk w g (EV e) T) : w.cell? ⟨g, 2, none⟩ = some (.int .i64 e.ct) := h.cell 2
theorem EV.size (e : E) : (EV e).size = 3 := rfl
theorem EV.one (e : E) : ∀ v ∈ (EV e).toList, v.oneCell' = true := by
 intro v hv
 simp [EV] at hv
 rcases hv with rfl | rfl | rfl <;> rfl
theorem rowE : RowT Try.prog 25 3 := ⟨⟨_, Try.underlying25, rfl⟩, by kernel_rfl⟩
theorem rowR : RowT Try.prog 23 3 := ⟨⟨_, Try.underlying23, rfl⟩, by kernel_rfl⟩
def e0 : E := ⟨0, 0, 0⟩
def eF : E := ⟨512, 2000, 0⟩
theorem zeroE : (Try.prog.info? 25).bind (·.zero) = some (.agg (EV e0)) := by kernel_rfl
theorem zeroR : (Try.prog.info? 23).bind (·.zero) = some (.agg (EV e0)) := by kernel_rfl
theorem builtF : Try.prog.built 25 [(0, .int .i64 512), (1, .int .i64 2000)] = some (EV eF) := by kernel_rfl
theorem builtFR : Try.prog.built 23 [(0, .int .i64 512), (1, .int .i64 2000), (2, .int .i64 0)] = some (EV eF) := by kernel_rfl
theorem built2 (a b : Int) : Try.prog.built 25 [(0, .int .i64 a), (1, .int .i64 b)] = some (EV ⟨a, b, 0⟩) := by kernel_rfl
theorem built3 (a b c : Int) : Try.prog.built 23 [(0, .int .i64 a), (1, .int .i64 b), (2, .int .i64 c)] = some (EV ⟨a, b, c⟩) := by kernel_rfl
def szB (n : Int) : Bool := decide (128 ≤ n) && decide (n ≤ 8192)
/-- Which are good. -/
def goodB (e : E) : Bool := szB e.sz && szB e.th && decide (0 ≤ e.ct) && decide (e.ct ≤ 2147483648)
theorem goodB_iff (e : E) : goodB e = true ↔ (128 ≤ e.sz ∧ e.sz ≤ 8192 ∧ 128 ≤ e.th ∧ e.th ≤ 8192 ∧ 0 ≤ e.ct ∧ e.ct ≤ 2147483648) := by
 simp [goodB, szB, and_assoc]
theorem sized_any (n : Int) (w : World) : Calls Try.prog 20 #[.int .i64 n] w fun x w' => x = .returned (.bool (szB n)) ∧ w' = w := by
 by_cases h1 : 128 ≤ n
 ·
  have d1 : decide (n ≥ 128) = true := decide_eq_true h1
  by_cases h2 : n ≤ 8192
  ·
   have d2 : decide (n ≤ 8192) = true := decide_eq_true h2
   have HS : Hid (szB n = true) := show _ = _ by simp [szB, h1, h2]
   rw [HS.out]
   go_enter Try.func20, Try.ntmps20
   go_wp2
   go_ret
   exact ⟨rfl, rfl⟩
  ·
   have d2 : decide (n ≤ 8192) = false := decide_eq_false h2
   have HS : Hid (szB n = false) := show _ = _ by simp [szB, h2]
   rw [HS.out]
   go_enter Try.func20, Try.ntmps20
   go_wp2
   go_ret
   exact ⟨rfl, rfl⟩
 ·
  have d1 : decide (n ≥ 128) = false := decide_eq_false h1
  have HS : Hid (szB n = false) := show _ = _ by simp [szB, h1]
  rw [HS.out]
  go_enter Try.func20, Try.ntmps20
  go_wp2
  go_ret
  exact ⟨rfl, rfl⟩
set_option maxHeartbeats 4000000 in
theorem good_any (e : E) (w : World) : Calls Try.prog 12 #[.agg (EV e)] w fun x w' => x = .returned (.bool (goodB e)) ∧ Ext w w' := by
 cases s1 : szB e.sz with
 | false =>
  rw [show goodB e = false from by simp [goodB, s1]]
  go_enter Try.func12, Try.ntmps12
  go_wp2_with (first
   | (refine wl_box (C := EV e) rfl rfl rfl ?_; intro w1 hb1 he1 hx; clear hx; have x0 := ev0 hb1; have x1 := ev1 hb1; have x2 := ev2 hb1)
   | (go_at_call 20; refine (sized_any _ _).mono ?_; rintro x w2 ⟨rfl, hw⟩; subst w2; rw [s1]; clear s1)
   | (go_at_call 20; refine (sized_any _ _).mono ?_; rintro x w2 ⟨rfl, hw⟩; subst w2; rw [s2]; clear s2))
  go_ret
  exact ⟨rfl, he1⟩
 | true =>
 cases s2 : szB e.th with
 | false =>
  rw [show goodB e = false from by simp [goodB, s1, s2]]
  go_enter Try.func12, Try.ntmps12
  go_wp2_with (first
   | (refine wl_box (C := EV e) rfl rfl rfl ?_; intro w1 hb1 he1 hx; clear hx; have x0 := ev0 hb1; have x1 := ev1 hb1; have x2 := ev2 hb1)
   | (go_at_call 20; refine (sized_any _ _).mono ?_; rintro x w2 ⟨rfl, hw⟩; subst w2; rw [s1]; clear s1)
   | (go_at_call 20; refine (sized_any _ _).mono ?_; rintro x w2 ⟨rfl, hw⟩; subst w2; rw [s2]; clear s2))
  go_ret
  exact ⟨rfl, he1⟩
 | true =>
 by_cases h3 : 0 ≤ e.ct
 ·
  have d3 : decide (e.ct ≥ 0) = true := decide_eq_true h3
  by_cases h4 : e.ct ≤ 2147483648
  ·
   have d4 : decide (e.ct ≤ 2147483648) = true := decide_eq_true h4
   rw [show goodB e = true from by simp [goodB, s1, s2, h3, h4]]
   go_enter Try.func12, Try.ntmps12
   go_wp2_with (first
    | (refine wl_box (C := EV e) rfl rfl rfl ?_; intro w1 hb1 he1 hx; clear hx; have x0 := ev0 hb1; have x1 := ev1 hb1; have x2 := ev2 hb1)
    | (go_at_call 20; refine (sized_any _ _).mono ?_; rintro x w2 ⟨rfl, hw⟩; subst w2; rw [s1]; clear s1)
    | (go_at_call 20; refine (sized_any _ _).mono ?_; rintro x w2 ⟨rfl, hw⟩; subst w2; rw [s2]; clear s2))
   go_ret
   exact ⟨rfl, he1⟩
  ·
   have d4 : decide (e.ct ≤ 2147483648) = false := decide_eq_false h4
   rw [show goodB e = false from by simp [goodB, s1, s2, h3, h4]]
   go_enter Try.func12, Try.ntmps12
   go_wp2_with (first
    | (refine wl_box (C := EV e) rfl rfl rfl ?_; intro w1 hb1 he1 hx; clear hx; have x0 := ev0 hb1; have x1 := ev1 hb1; have x2 := ev2 hb1)
    | (go_at_call 20; refine (sized_any _ _).mono ?_; rintro x w2 ⟨rfl, hw⟩; subst w2; rw [s1]; clear s1)
    | (go_at_call 20; refine (sized_any _ _).mono ?_; rintro x w2 ⟨rfl, hw⟩; subst w2; rw [s2]; clear s2))
   go_ret
   exact ⟨rfl, he1⟩
 ·
  have d3 : decide (e.ct ≥ 0) = false := decide_eq_false h3
  rw [show goodB e = false from by simp [goodB, s1, s2, h3]]
  go_enter Try.func12, Try.ntmps12
  go_wp2_with (first
   | (refine wl_box (C := EV e) rfl rfl rfl ?_; intro w1 hb1 he1 hx; clear hx; have x0 := ev0 hb1; have x1 := ev1 hb1; have x2 := ev2 hb1)
   | (go_at_call 20; refine (sized_any _ _).mono ?_; rintro x w2 ⟨rfl, hw⟩; subst w2; rw [s1]; clear s1)
   | (go_at_call 20; refine (sized_any _ _).mono ?_; rintro x w2 ⟨rfl, hw⟩; subst w2; rw [s2]; clear s2))
  go_ret
  exact ⟨rfl, he1⟩
set_option maxHeartbeats 4000000 in
theorem refGood_any (e : E) (w : World) : Calls Try.prog 18 #[.agg (EV e)] w fun x w' => x = .returned (.bool (goodB e)) ∧ Ext w w' := by
 have HG : Hid (goodB e = ((((((decide ((e.sz : Int) ≥ (128 : Int))) && ((decide ((e.sz : Int) ≤ (8192 : Int))))) && ((decide ((e.th : Int) ≥ (128 : Int))))) && ((decide ((e.th : Int) ≤ (8192 : Int))))) && ((decide ((e.ct : Int) ≥ (0 : Int))))) && ((decide ((e.ct : Int) ≤ (2147483648 : Int)))))) := show _ = _ by rw [Bool.eq_iff_iff, goodB_iff]; simp; omega
 rw [HG.out]
 go_enter Try.func18, Try.ntmps18
 go_wp2_with (first
  | (refine stop_at 29 rfl ?_)
  | (refine wl_box (C := EV e) rfl rfl rfl ?_; intro w1 hb1 he1 hx; clear hx))
 refine ⟨?_⟩
 refine wpList_line 0 (fun t => bif Nat.ble 3 t && Nat.ble t 30 then some (t - 3) else bif Nat.beq t 2 then some 28 else none) 31 Ext
  [Is (.pointer (some ⟨w.heap.size, 0, none⟩)),
   Is (.int .i64 e.sz),
   Is (.bool (decide ((e.sz : Int) ≥ (128 : Int)))),
   Is (.bool (decide ((e.sz : Int) ≥ (128 : Int)))),
   Under (((decide ((e.sz : Int) ≥ (128 : Int))))) (.pointer (some ⟨w.heap.size, 0, none⟩)),
   Under (((decide ((e.sz : Int) ≥ (128 : Int))))) (.int .i64 e.sz),
   Under (((decide ((e.sz : Int) ≥ (128 : Int))))) (.bool (decide ((e.sz : Int) ≤ (8192 : Int)))),
   Is (.bool ((decide ((e.sz : Int) ≥ (128 : Int))) && ((decide ((e.sz : Int) ≤ (8192 : Int)))))),
   Is (.bool ((decide ((e.sz : Int) ≥ (128 : Int))) && ((decide ((e.sz : Int) ≤ (8192 : Int)))))),
   Under ((((decide ((e.sz : Int) ≥ (128 : Int))) && ((decide ((e.sz : Int) ≤ (8192 : Int))))))) (.pointer (some ⟨w.heap.size, 1, none⟩)),
   Under ((((decide ((e.sz : Int) ≥ (128 : Int))) && ((decide ((e.sz : Int) ≤ (8192 : Int))))))) (.int .i64 e.th),
   Under ((((decide ((e.sz : Int) ≥ (128 : Int))) && ((decide ((e.sz : Int) ≤ (8192 : Int))))))) (.bool (decide ((e.th : Int) ≥ (128 : Int)))),
   Is (.bool (((decide ((e.sz : Int) ≥ (128 : Int))) && ((decide ((e.sz : Int) ≤ (8192 : Int))))) && ((decide ((e.th : Int) ≥ (128 : Int)))))),
   Is (.bool (((decide ((e.sz : Int) ≥ (128 : Int))) && ((decide ((e.sz : Int) ≤ (8192 : Int))))) && ((decide ((e.th : Int) ≥ (128 : Int)))))),
   Under (((((decide ((e.sz : Int) ≥ (128 : Int))) && ((decide ((e.sz : Int) ≤ (8192 : Int))))) && ((decide ((e.th : Int) ≥ (128 : Int))))))) (.pointer (some ⟨w.heap.size, 1, none⟩)),
   Under (((((decide ((e.sz : Int) ≥ (128 : Int))) && ((decide ((e.sz : Int) ≤ (8192 : Int))))) && ((decide ((e.th : Int) ≥ (128 : Int))))))) (.int .i64 e.th),
   Under (((((decide ((e.sz : Int) ≥ (128 : Int))) && ((decide ((e.sz : Int) ≤ (8192 : Int))))) && ((decide ((e.th : Int) ≥ (128 : Int))))))) (.bool (decide ((e.th : Int) ≤ (8192 : Int)))),
   Is (.bool ((((decide ((e.sz : Int) ≥ (128 : Int))) && ((decide ((e.sz : Int) ≤ (8192 : Int))))) && ((decide ((e.th : Int) ≥ (128 : Int))))) && ((decide ((e.th : Int) ≤ (8192 : Int)))))),
   Is (.bool ((((decide ((e.sz : Int) ≥ (128 : Int))) && ((decide ((e.sz : Int) ≤ (8192 : Int))))) && ((decide ((e.th : Int) ≥ (128 : Int))))) && ((decide ((e.th : Int) ≤ (8192 : Int)))))),
   Under ((((((decide ((e.sz : Int) ≥ (128 : Int))) && ((decide ((e.sz : Int) ≤ (8192 : Int))))) && ((decide ((e.th : Int) ≥ (128 : Int))))) && ((decide ((e.th : Int) ≤ (8192 : Int))))))) (.pointer (some ⟨w.heap.size, 2, none⟩)),
   Under ((((((decide ((e.sz : Int) ≥ (128 : Int))) && ((decide ((e.sz : Int) ≤ (8192 : Int))))) && ((decide ((e.th : Int) ≥ (128 : Int))))) && ((decide ((e.th : Int) ≤ (8192 : Int))))))) (.int .i64 e.ct),
   Under ((((((decide ((e.sz : Int) ≥ (128 : Int))) && ((decide ((e.sz : Int) ≤ (8192 : Int))))) && ((decide ((e.th : Int) ≥ (128 : Int))))) && ((decide ((e.th : Int) ≤ (8192 : Int))))))) (.bool (decide ((e.ct : Int) ≥ (0 : Int)))),
   Is (.bool (((((decide ((e.sz : Int) ≥ (128 : Int))) && ((decide ((e.sz : Int) ≤ (8192 : Int))))) && ((decide ((e.th : Int) ≥ (128 : Int))))) && ((decide ((e.th : Int) ≤ (8192 : Int))))) && ((decide ((e.ct : Int) ≥ (0 : Int)))))),
   Is (.bool (((((decide ((e.sz : Int) ≥ (128 : Int))) && ((decide ((e.sz : Int) ≤ (8192 : Int))))) && ((decide ((e.th : Int) ≥ (128 : Int))))) && ((decide ((e.th : Int) ≤ (8192 : Int))))) && ((decide ((e.ct : Int) ≥ (0 : Int)))))),
   Under (((((((decide ((e.sz : Int) ≥ (128 : Int))) && ((decide ((e.sz : Int) ≤ (8192 : Int))))) && ((decide ((e.th : Int) ≥ (128 : Int))))) && ((decide ((e.th : Int) ≤ (8192 : Int))))) && ((decide ((e.ct : Int) ≥ (0 : Int))))))) (.pointer (some ⟨w.heap.size, 2, none⟩)),
   Under (((((((decide ((e.sz : Int) ≥ (128 : Int))) && ((decide ((e.sz : Int) ≤ (8192 : Int))))) && ((decide ((e.th : Int) ≥ (128 : Int))))) && ((decide ((e.th : Int) ≤ (8192 : Int))))) && ((decide ((e.ct : Int) ≥ (0 : Int))))))) (.int .i64 e.ct),
   Under (((((((decide ((e.sz : Int) ≥ (128 : Int))) && ((decide ((e.sz : Int) ≤ (8192 : Int))))) && ((decide ((e.th : Int) ≥ (128 : Int))))) && ((decide ((e.th : Int) ≤ (8192 : Int))))) && ((decide ((e.ct : Int) ≥ (0 : Int))))))) (.bool (decide ((e.ct : Int) ≤ (2147483648 : Int)))),
   Is (.bool ((((((decide ((e.sz : Int) ≥ (128 : Int))) && ((decide ((e.sz : Int) ≤ (8192 : Int))))) && ((decide ((e.th : Int) ≥ (128 : Int))))) && ((decide ((e.th : Int) ≤ (8192 : Int))))) && ((decide ((e.ct : Int) ≥ (0 : Int))))) && ((decide ((e.ct : Int) ≤ (2147483648 : Int)))))),
   Is (.bool ((((((decide ((e.sz : Int) ≥ (128 : Int))) && ((decide ((e.sz : Int) ≤ (8192 : Int))))) && ((decide ((e.th : Int) ≥ (128 : Int))))) && ((decide ((e.th : Int) ≤ (8192 : Int))))) && ((decide ((e.ct : Int) ≥ (0 : Int))))) && ((decide ((e.ct : Int) ≤ (2147483648 : Int))))))]
  rfl (by kernel_rfl) rfl Ext.refl (fun _ _ _ => Ext.trans) (Ks (Ks (Ks (Ks (Ku (Ku (Ku (Ks (Ks (Ku (Ku (Ku (Ks (Ks (Ku (Ku (Ku (Ks (Ks (Ku (Ku (Ku (Ks (Ks (Ku (Ku (Ku (Ks (Ks (KeepAll.nil)))))))))))))))))))))))))))))) ?_ ?_ ?_
 ·
  intro i o hi ho
  exact absurd hi (by omega)
 ·
  refine goodFrom 0 ?_
  refine Gc (ln1 (gd0 rfl) rfl (ouI rfl) (fun _ _ h _ => h) (fun r wx hR h1 => by simp [execOp, h1, go_sem])) ?_
  refine Gc (ln1 (gd0 rfl) rfl (ouI rfl) (fun _ _ h _ => h) (fun r wx hR h1 => exg one3 rfl h1 (ev0 (hb1.ext hR)))) ?_
  refine Gc (ln2 (gd0 rfl) rfl (ouI rfl) (fun _ _ h _ => h) (fun _ _ h _ => h) (fun r wx hR h1 h2 => by simp [execOp, h1, h2, go_sem])) ?_
  refine Gc (ln1 (gd0 rfl) rfl (ouI rfl) (fun _ _ h _ => h) (fun r wx hR h1 => exec_mv (.inl rfl) h1)) ?_
  refine Gc (ln1 (gdU rfl (fun _ _ h => h) (want_t _)) rfl (ouU rfl) (fun _ _ h _ => h) (fun r wx hR h1 => by simp [execOp, h1, go_sem])) ?_
  refine Gc (ln1 (gdU rfl (fun _ _ h => h) (want_t _)) rfl (ouU rfl) (fun _ _ h c => Eq.trans h (if_pos c)) (fun r wx hR h1 => exg one3 rfl h1 (ev0 (hb1.ext hR)))) ?_
  refine Gc (ln2 (gdU rfl (fun _ _ h => h) (want_t _)) rfl (ouU rfl) (fun _ _ h c => Eq.trans h (if_pos c)) (fun _ _ h _ => h) (fun r wx hR h1 h2 => by simp [execOp, h1, h2, go_sem])) ?_
  refine Gc (lnA (gd0 rfl) rfl (ouI rfl) (fun _ _ h _ => h) (fun _ _ h c hb => Eq.trans h (if_pos (by first | exact hb | (rw [hb]; rfl) | (rw [c, hb]; rfl))))) ?_
  refine Gc (ln1 (gd0 rfl) rfl (ouI rfl) (fun _ _ h _ => h) (fun r wx hR h1 => exec_mv (.inl rfl) h1)) ?_
  refine Gc (ln1 (gdU rfl (fun _ _ h => h) (want_t _)) rfl (ouU rfl) (fun _ _ h _ => h) (fun r wx hR h1 => by simp [execOp, h1, go_sem])) ?_
  refine Gc (ln1 (gdU rfl (fun _ _ h => h) (want_t _)) rfl (ouU rfl) (fun _ _ h c => Eq.trans h (if_pos c)) (fun r wx hR h1 => exg one3 rfl h1 (ev1 (hb1.ext hR)))) ?_
  refine Gc (ln2 (gdU rfl (fun _ _ h => h) (want_t _)) rfl (ouU rfl) (fun _ _ h c => Eq.trans h (if_pos c)) (fun _ _ h _ => h) (fun r wx hR h1 h2 => by simp [execOp, h1, h2, go_sem])) ?_
  refine Gc (lnA (gd0 rfl) rfl (ouI rfl) (fun _ _ h _ => h) (fun _ _ h c hb => Eq.trans h (if_pos (by first | exact hb | (rw [hb]; rfl) | (rw [c, hb]; rfl))))) ?_
  refine Gc (ln1 (gd0 rfl) rfl (ouI rfl) (fun _ _ h _ => h) (fun r wx hR h1 => exec_mv (.inl rfl) h1)) ?_
  refine Gc (ln1 (gdU rfl (fun _ _ h => h) (want_t _)) rfl (ouU rfl) (fun _ _ h _ => h) (fun r wx hR h1 => by simp [execOp, h1, go_sem])) ?_
  refine Gc (ln1 (gdU rfl (fun _ _ h => h) (want_t _)) rfl (ouU rfl) (fun _ _ h c => Eq.trans h (if_pos c)) (fun r wx hR h1 => exg one3 rfl h1 (ev1 (hb1.ext hR)))) ?_
  refine Gc (ln2 (gdU rfl (fun _ _ h => h) (want_t _)) rfl (ouU rfl) (fun _ _ h c => Eq.trans h (if_pos c)) (fun _ _ h _ => h) (fun r wx hR h1 h2 => by simp [execOp, h1, h2, go_sem])) ?_
  refine Gc (lnA (gd0 rfl) rfl (ouI rfl) (fun _ _ h _ => h) (fun _ _ h c hb => Eq.trans h (if_pos (by first | exact hb | (rw [hb]; rfl) | (rw [c, hb]; rfl))))) ?_
  refine Gc (ln1 (gd0 rfl) rfl (ouI rfl) (fun _ _ h _ => h) (fun r wx hR h1 => exec_mv (.inl rfl) h1)) ?_
  refine Gc (ln1 (gdU rfl (fun _ _ h => h) (want_t _)) rfl (ouU rfl) (fun _ _ h _ => h) (fun r wx hR h1 => by simp [execOp, h1, go_sem])) ?_
  refine Gc (ln1 (gdU rfl (fun _ _ h => h) (want_t _)) rfl (ouU rfl) (fun _ _ h c => Eq.trans h (if_pos c)) (fun r wx hR h1 => exg one3 rfl h1 (ev2 (hb1.ext hR)))) ?_
  refine Gc (ln2 (gdU rfl (fun _ _ h => h) (want_t _)) rfl (ouU rfl) (fun _ _ h c => Eq.trans h (if_pos c)) (fun _ _ h _ => h) (fun r wx hR h1 h2 => by simp [execOp, h1, h2, go_sem])) ?_
  refine Gc (lnA (gd0 rfl) rfl (ouI rfl) (fun _ _ h _ => h) (fun _ _ h c hb => Eq.trans h (if_pos (by first | exact hb | (rw [hb]; rfl) | (rw [c, hb]; rfl))))) ?_
  refine Gc (ln1 (gd0 rfl) rfl (ouI rfl) (fun _ _ h _ => h) (fun r wx hR h1 => exec_mv (.inl rfl) h1)) ?_
  refine Gc (ln1 (gdU rfl (fun _ _ h => h) (want_t _)) rfl (ouU rfl) (fun _ _ h _ => h) (fun r wx hR h1 => by simp [execOp, h1, go_sem])) ?_
  refine Gc (ln1 (gdU rfl (fun _ _ h => h) (want_t _)) rfl (ouU rfl) (fun _ _ h c => Eq.trans h (if_pos c)) (fun r wx hR h1 => exg one3 rfl h1 (ev2 (hb1.ext hR)))) ?_
  refine Gc (ln2 (gdU rfl (fun _ _ h => h) (want_t _)) rfl (ouU rfl) (fun _ _ h c => Eq.trans h (if_pos c)) (fun _ _ h _ => h) (fun r wx hR h1 h2 => by simp [execOp, h1, h2, go_sem])) ?_
  refine Gc (lnA (gd0 rfl) rfl (ouI rfl) (fun _ _ h _ => h) (fun _ _ h c hb => Eq.trans h (if_pos (by first | exact hb | (rw [hb]; rfl) | (rw [c, hb]; rfl))))) ?_
  refine Gc (ln1 (gd0 rfl) rfl (ouI rfl) (fun _ _ h _ => h) (fun r wx hR h1 => exec_mv (.inr rfl) h1)) ?_
  exact GoodAll.nil
 ·
  intro vs wE aE hR hold haE
  have hv : vs 28 = .bool ((((((decide ((e.sz : Int) ≥ (128 : Int))) && ((decide ((e.sz : Int) ≤ (8192 : Int))))) && ((decide ((e.th : Int) ≥ (128 : Int))))) && ((decide ((e.th : Int) ≤ (8192 : Int))))) && ((decide ((e.ct : Int) ≥ (0 : Int))))) && ((decide ((e.ct : Int) ≤ (2147483648 : Int))))) := hold.at 28
  refine ‹∀ (a : Act) (w : World), Code.wp Try.prog Code.ret _ a w → _› _ _ ?_
  refine wp_ret ?_
  have hs : aE.tmps[2]? = some (.bool ((((((decide ((e.sz : Int) ≥ (128 : Int))) && ((decide ((e.sz : Int) ≤ (8192 : Int))))) && ((decide ((e.th : Int) ≥ (128 : Int))))) && ((decide ((e.th : Int) ≤ (8192 : Int))))) && ((decide ((e.ct : Int) ≥ (0 : Int))))) && ((decide ((e.ct : Int) ≤ (2147483648 : Int)))))) := by rw [haE, ← hv]; kernel_rfl
  have hdf : aE.defers = [] := by rw [haE]; exact putAll_defers _ _ _ _
  clear haE
  try unfold Exit.then
  try unfold Exit.inBlock
  try dsimp only
  refine bodyPost_ret (v := .bool ((((((decide ((e.sz : Int) ≥ (128 : Int))) && ((decide ((e.sz : Int) ≤ (8192 : Int))))) && ((decide ((e.th : Int) ≥ (128 : Int))))) && ((decide ((e.th : Int) ≤ (8192 : Int))))) && ((decide ((e.ct : Int) ≥ (0 : Int))))) && ((decide ((e.ct : Int) ≤ (2147483648 : Int)))))) ?_ hdf ⟨rfl, he1.trans hR⟩
  simp [results, Try.results18, go_sem, hs]
end Cw
end Go.Proofs.Ytkfohggdaooieaa
/- Windows in their blocks; the first one, and the one in place of one that is not good. No condition of its own. -/
namespace Go.Proofs.Ytkfohggdaooieaa
namespace Cw
open Go Go.RowKit
set_option maxRecDepth 100000
theorem wl_minI {w : World} {ops : Array Oper} {rest : List Oper} {o : Oper} {a : Act} {Q : Exit → Act → World → Prop} (hgd : o.guard = none) {x y : Operand} {m n k : Int} (ho : o.op = .call { callee := .builtin .min, args := #[x, y], argTypes := #[3, 3] }) (hx : a.eval x = .int .i64 m) (hy : a.eval y = .int .i64 n) (hk : k = if n < m then n else m)
  (h : wpList Try.prog ops Q rest (a.put o.dst (.int .i64 k)) w) : wpList Try.prog ops Q (o :: rest) a w := by
 have hr : (Builtin.min_ #[3, 3] o.type #[.int .i64 m, .int .i64 n]).run Try.prog w = .ok (.int .i64 k) w := by
  subst hk
  by_cases hl : n < m
  ·
   simp [Builtin.min_, Builtin.min2, go_sem, hl]
  ·
   simp [Builtin.min_, Builtin.min2, go_sem, hl]
 refine wpList_of_run hgd (v := .int .i64 k) (w' := w) ?_ h
 simp only [execOp, ho, resolve, invoke, builtin, Sem.run_bind, Sem.run_pure, Result.andThen_ok, List.map_toArray, List.map_cons, List.map_nil, hx, hy, hr]
theorem wl_maxI {w : World} {ops : Array Oper} {rest : List Oper} {o : Oper} {a : Act} {Q : Exit → Act → World → Prop} (hgd : o.guard = none) {x y : Operand} {m n k : Int} (ho : o.op = .call { callee := .builtin .max, args := #[x, y], argTypes := #[3, 3] }) (hx : a.eval x = .int .i64 m) (hy : a.eval y = .int .i64 n) (hk : k = if m < n then n else m)
  (h : wpList Try.prog ops Q rest (a.put o.dst (.int .i64 k)) w) : wpList Try.prog ops Q (o :: rest) a w := by
 have hr : (Builtin.max_ #[3, 3] o.type #[.int .i64 m, .int .i64 n]).run Try.prog w = .ok (.int .i64 k) w := by
  subst hk
  by_cases hl : m < n
  ·
   simp [Builtin.max_, Builtin.max2, go_sem, hl]
  ·
   simp [Builtin.max_, Builtin.max2, go_sem, hl]
 refine wpList_of_run hgd (v := .int .i64 k) (w' := w) ?_ h
 simp only [execOp, ho, resolve, invoke, builtin, Sem.run_bind, Sem.run_pure, Result.andThen_ok, List.map_toArray, List.map_cons, List.map_nil, hx, hy, hr]
theorem wl_build {w : World} {ops : Array Oper} {rest : List Oper} {o : Oper} {a : Act} {Q : Exit → Act → World → Prop} (hgd : o.guard = none) {t : TypeId} {parts : Array (Nat × Operand)} {vals : List (Nat × Value)} {cells : Array Value} (ho : o.op = .build t parts)
  (hv : (parts.map fun (i, x) => (i, a.eval x)).toList = vals) (hc : Try.prog.built t vals = some cells) (h : wpList Try.prog ops Q rest (a.put o.dst (.agg cells)) w) : wpList Try.prog ops Q (o :: rest) a w := by
 refine wpList_of_run hgd (v := .agg cells) ?_ h
 have := run_build (P := Try.prog) w t (parts.map fun (i, x) => (i, a.eval x)) cells (by rw [hv]; exact hc)
 simp [execOp, ho, this]
/-- Two windows in blocks of the own. -/
structure Two (w0 w : World) (g h T : Nat) (x y : E) : Prop where
 a : Blk w g (EV x) T
 b : Blk w h (EV y) T
 ext : Ext w0 w
 g0 : w0.heap.size ≤ g
 lt : g < h
theorem Two.grow {w0 w w' : World} {g h T : Nat} {x y : E} (H : Two w0 w g h T x y) (he : Ext w w') : Two w0 w' g h T x y := ⟨H.a.ext he, H.b.ext he, H.ext.trans he, H.g0, H.lt⟩
theorem Two.setA {w0 w w' : World} {g h T : Nat} {x y z : E} (H : Two w0 w g h T x y) (hz : Blk w' g (EV z) T) (hk : KeepBut (· = g) w w') : Two w0 w' g h T z y := ⟨hz, H.b.but hk (by have := H.lt; omega), H.ext.of_but hk (fun q e => by subst e; exact H.g0), H.g0, H.lt⟩
theorem Two.setB {w0 w w' : World} {g h T : Nat} {x y z : E} (H : Two w0 w g h T x y) (hz : Blk w' h (EV z) T) (hk : KeepBut (· = h) w w') : Two w0 w' g h T x z := ⟨H.a.but hk (by have := H.lt; omega), hz, H.ext.of_but hk (fun q e => by subst e; have := H.g0; have := H.lt; omega), H.g0, H.lt⟩
section
variable {w : World} {ops : Array Oper} {rest : List Oper} {o : Oper} {a : Act} {Q : Exit → Act → World → Prop} {g T : Nat} {e : E}
theorem wl_get0 (hB : Blk w g (EV e) T) (hgd : o.guard = none) {x : Operand} (ho : o.op = .load 3 x) (hx : a.eval x = .pointer (some ⟨g, 0, none⟩)) (h : wpList Try.prog ops Q rest (a.put o.dst (.int .i64 e.sz)) w) : wpList Try.prog ops Q (o :: rest) a w := wpList_of_run hgd (exg one3 ho hx (ev0 hB)) h
theorem wl_get1 (hB : Blk w g (EV e) T) (hgd : o.guard = none) {x : Operand} (ho : o.op = .load 3 x) (hx : a.eval x = .pointer (some ⟨g, 1, none⟩)) (h : wpList Try.prog ops Q rest (a.put o.dst (.int .i64 e.th)) w) : wpList Try.prog ops Q (o :: rest) a w := wpList_of_run hgd (exg one3 ho hx (ev1 hB)) h
theorem wl_get2 (hB : Blk w g (EV e) T) (hgd : o.guard = none) {x : Operand} (ho : o.op = .load 3 x) (hx : a.eval x = .pointer (some ⟨g, 2, none⟩)) (h : wpList Try.prog ops Q rest (a.put o.dst (.int .i64 e.ct)) w) : wpList Try.prog ops Q (o :: rest) a w := wpList_of_run hgd (exg one3 ho hx (ev2 hB)) h
theorem wl_set0 (hB : Blk w g (EV e) T) (hgd : o.guard = none) {x y : Operand} {v : Int} (ho : o.op = .store 3 x y) (hx : a.eval x = .pointer (some ⟨g, 0, none⟩)) (hy : a.eval y = .int .i64 v) (h : ∀ w', Blk w' g (EV { e with sz := v }) T → KeepBut (· = g) w w' → wpList Try.prog ops Q rest (a.put o.dst undef) w') : wpList Try.prog ops Q (o :: rest) a w :=
 wl_set hgd one3 ho hx hy rfl rfl hB (by rw [EV.size]; decide) (fun w' h1 h2 _ => h w' h1 h2)
theorem wl_set2 (hB : Blk w g (EV e) T) (hgd : o.guard = none) {x y : Operand} {v : Int} (ho : o.op = .store 3 x y) (hx : a.eval x = .pointer (some ⟨g, 2, none⟩)) (hy : a.eval y = .int .i64 v) (h : ∀ w', Blk w' g (EV { e with ct := v }) T → KeepBut (· = g) w w' → wpList Try.prog ops Q rest (a.put o.dst undef) w') : wpList Try.prog ops Q (o :: rest) a w :=
 wl_set hgd one3 ho hx hy rfl rfl hB (by rw [EV.size]; decide) (fun w' h1 h2 _ => h w' h1 h2)
end
section
variable {w : World} {ops : Array Oper} {rest : List Oper} {o : Oper} {a : Act} {Q : Exit → Act → World → Prop}
/-- A new block whose number is a name of its own. -/
theorem wl_boxG (hgd : o.guard = none) {t : TypeId} {x : Operand} {C : Array Value} (ho : o.op = .box t x) (hx : a.eval x = .agg C)
  (h : ∀ w' g, g = w.heap.size → Blk w' g C t → Ext w w' → wpList Try.prog ops Q rest (a.put o.dst (.pointer (some ⟨g, 0, none⟩))) w') : wpList Try.prog ops Q (o :: rest) a w :=
 wl_box hgd ho hx fun w' hb he _ => h w' _ rfl hb he
theorem wl_allocG (hgd : o.guard = none) {t : TypeId} {C : Array Value} (ho : o.op = .alloc t) (hz : (Try.prog.info? t).bind (·.zero) = some (.agg C))
  (h : ∀ w' g, g = w.heap.size → Blk w' g C t → Ext w w' → wpList Try.prog ops Q rest (a.put o.dst (.pointer (some ⟨g, 0, none⟩))) w') : wpList Try.prog ops Q (o :: rest) a w :=
 wl_alloc hgd ho hz fun w' hb he _ => h w' _ rfl hb he
end
set_option maxHeartbeats 2000000 in
theorem first_any (w : World) : Calls Try.prog 15 #[] w fun e w' => e = .returned (.agg (EV eF)) ∧ Ext w w' := by
 go_enter Try.func15, Try.ntmps15
 go_wp2_with (first
  | (refine wl_alloc rfl rfl zeroE ?_; intro w1 hb1 he1 hx; clear hx)
  | (refine wl_build rfl rfl rfl builtF ?_)
  | (refine wl_store (D := EV eF) rfl rowE rfl rfl rfl hb1 rfl rfl (EV.one _) ?_; intro w2 hb2 hk2 hx2; clear hx2))
 refine bodyPost_ret (results_cell_row (fn := Try.f15) (p := 0) rfl _ w2 _ _ _ (0, 0) _ rfl hb2 Try.underlying25 rfl (by kernel_rfl)) rfl ?_
 exact ⟨rfl, he1.of_but hk2 (fun q e => by subst e; exact Nat.le_refl _)⟩
set_option maxHeartbeats 2000000 in
theorem refFirst_any (w : World) : Calls Try.prog 19 #[] w fun e w' => e = .returned (.agg (EV eF)) ∧ Ext w w' := by
 go_enter Try.func19, Try.ntmps19
 go_wp2_with (first
  | (refine wl_alloc rfl rfl zeroR ?_; intro w1 hb1 he1 hx; clear hx)
  | (refine wl_build rfl rfl rfl builtFR ?_)
  | (refine wl_store (D := EV eF) rfl rowR rfl rfl rfl hb1 rfl rfl (EV.one _) ?_; intro w2 hb2 hk2 hx2; clear hx2))
 refine bodyPost_ret (results_cell_row (fn := Try.f19) (p := 0) rfl _ w2 _ _ _ (0, 0) _ rfl hb2 Try.underlying23 rfl (by kernel_rfl)) rfl ?_
 exact ⟨rfl, he1.of_but hk2 (fun q e => by subst e; exact Nat.le_refl _)⟩
/-- A good window itself, and the first one for any other. -/
def okE (e : E) : E := if goodB e = true then e else eF
theorem okE_yes {e : E} (h : goodB e = true) : okE e = e := if_pos h
theorem okE_no {e : E} (h : goodB e = false) : okE e = eF := if_neg (by rw [h]; decide)
theorem okE_good (e : E) : goodB (okE e) = true := by
 cases h : goodB e with
 | true => rw [okE_yes h]; exact h
 | false => rw [okE_no h]; rfl
theorem okE_ok (e : E) : okE (okE e) = okE e := okE_yes (okE_good e)
set_option maxHeartbeats 4000000 in
theorem orFirst_any (e : E) (w : World) : Calls Try.prog 16 #[.agg (EV e)] w fun x w' => x = .returned (.agg (EV (okE e))) ∧ Ext w w' := by
 cases hg : goodB e with
 | true =>
  rw [okE_yes hg]
  go_enter Try.func16, Try.ntmps16
  go_wp2_with (first
   | (refine wl_boxG (C := EV e) rfl rfl rfl ?_; intro w1 g1 hg1 hb1 he1; have HG1 : Hid (g1 = w.heap.size) := hg1; clear hg1)
   | (have q := hb1; clear q; refine wl_allocG rfl rfl zeroE ?_; intro w2 g2 hg2 hb2 he2; have HT : Hid (Two w w2 g1 g2 _ e e0) := ⟨hb1.ext he2, hb2, he1.trans he2, Nat.le_of_eq HG1.out.symm, (by rw [hg2]; exact hb1.lt)⟩; clear hb1 hb2 he1 he2 hg2 HG1)
   | (have q := HT; clear q; refine wl_load rfl rowE rfl rfl HT.out.a rfl ?_)
   | (go_at_call 12; refine (good_any _ _).mono ?_; rintro e w3 ⟨rfl, he3⟩; rw [hg]; replace HT : Hid (Two _ _ _ _ _ _ _) := HT.out.grow he3; clear he3)
   | (have q := HT; clear q; refine wl_store rfl rowE rfl rfl rfl HT.out.b rfl rfl (EV.one _) ?_; intro w4 hb4 hk4 hx4; clear hx4; replace HT : Hid (Two _ _ _ _ _ _ _) := HT.out.setB hb4 hk4; clear hb4 hk4))
  refine bodyPost_ret (results_cell_row (fn := Try.f16) (p := 2) rfl _ _ _ _ _ (0, 0) _ rfl HT.out.b Try.underlying25 rfl (by kernel_rfl)) rfl ?_
  exact ⟨rfl, HT.out.ext⟩
 | false =>
  rw [okE_no hg]
  go_enter Try.func16, Try.ntmps16
  go_wp2_with (first
   | (refine wl_boxG (C := EV e) rfl rfl rfl ?_; intro w1 g1 hg1 hb1 he1; have HG1 : Hid (g1 = w.heap.size) := hg1; clear hg1)
   | (have q := hb1; clear q; refine wl_allocG rfl rfl zeroE ?_; intro w2 g2 hg2 hb2 he2; have HT : Hid (Two w w2 g1 g2 _ e e0) := ⟨hb1.ext he2, hb2, he1.trans he2, Nat.le_of_eq HG1.out.symm, (by rw [hg2]; exact hb1.lt)⟩; clear hb1 hb2 he1 he2 hg2 HG1)
   | (have q := HT; clear q; refine wl_load rfl rowE rfl rfl HT.out.a rfl ?_)
   | (go_at_call 12; refine (good_any _ _).mono ?_; rintro e w3 ⟨rfl, he3⟩; rw [hg]; replace HT : Hid (Two _ _ _ _ _ _ _) := HT.out.grow he3; clear he3)
   | (go_at_call 15; refine (first_any _).mono ?_; rintro e w3 ⟨rfl, he3⟩; replace HT : Hid (Two _ _ _ _ _ _ _) := HT.out.grow he3; clear he3)
   | (have q := HT; clear q; refine wl_store rfl rowE rfl rfl rfl HT.out.b rfl rfl (EV.one _) ?_; intro w4 hb4 hk4 hx4; clear hx4; replace HT : Hid (Two _ _ _ _ _ _ _) := HT.out.setB hb4 hk4; clear hb4 hk4))
  refine bodyPost_ret (results_cell_row (fn := Try.f16) (p := 2) rfl _ _ _ _ _ (0, 0) _ rfl HT.out.b Try.underlying25 rfl (by kernel_rfl)) rfl ?_
  exact ⟨rfl, HT.out.ext⟩
/-- Half of a size, not below four units. -/
def halfI (s : Int) : Int := if s / 2 < 512 then 512 else s / 2
theorem half_any {e : E} (hg : goodB e = true) (w : World) : Calls Try.prog 17 #[.agg (EV e)] w fun x w' => x = .returned (.int .i64 (halfI e.sz)) ∧ Ext w w' := by
 have hn := (goodB_iff e).1 hg
 obtain ⟨p, hp⟩ : ∃ p, p = e.sz / 2 := ⟨_, rfl⟩
 have p1 : e.sz.tdiv 2 = p := by rw [Int.tdiv_eq_ediv_of_nonneg (by omega), hp]
 have p2 : IntKind.i64.wrap p = p := by rw [IntKind.wrap_i64]; omega
 obtain ⟨r, hr⟩ : ∃ r, r = halfI e.sz := ⟨_, rfl⟩
 have HR : Hid (r = if p < 512 then 512 else p) := show _ = _ by rw [hr, hp]; rfl
 rw [← hr]
 clear hn hp hr hg
 go_enter Try.func17, Try.ntmps17
 go_wp2_with (first
  | (have q := hb1; clear q; refine stop_at 2 rfl ?_)
  | (refine wl_box (C := EV e) rfl rfl rfl ?_; intro w1 hb1 he1 hx; clear hx; have x0 := ev0 hb1; have x1 := ev1 hb1; have x2 := ev2 hb1))
 refine ⟨?_⟩
 refine wl_maxI (k := r) rfl rfl (by first | rfl | go_simp) (by first | rfl | go_simp) (by exact HR.out) ?_
 go_wp2
 go_ret
 exact ⟨rfl, he1⟩
/-- A number of bytes. -/
def bdI (n : Int) : Int := if n < 0 then 0 else if 1048576 < n then 1048576 else n
theorem bounded_any (n : Int) (w : World) : Calls Try.prog 21 #[.int .i64 n] w fun x w' => x = .returned (.int .i64 (bdI n)) ∧ w' = w := by
 obtain ⟨m, hm⟩ : ∃ m : Int, m = if n < 0 then 0 else n := ⟨_, rfl⟩
 have HM : Hid (m = if n < 0 then 0 else n) := hm
 have HR : Hid (bdI n = if 1048576 < m then 1048576 else m) := show _ = _ by rw [hm]; unfold bdI; split <;> split <;> (try split) <;> omega
 generalize bdI n = r at HR ⊢
 clear hm
 go_enter Try.func21, Try.ntmps21
 go_wp2_with (first
  | (refine stop_at 3 rfl ?_))
 refine ⟨?_⟩
 refine wl_maxI (k := m) rfl rfl (by first | rfl | go_simp) (by first | rfl | go_simp) (by exact HM.out) ?_
 refine wl_minI (k := r) rfl rfl (by first | rfl | go_simp) (by first | rfl | go_simp) (by exact HR.out) ?_
 go_wp2
 go_ret
 exact ⟨rfl, rfl⟩
end Cw
end Go.Proofs.Ytkfohggdaooieaa
/- Lost, Late, Empty. No condition of its own. -/
namespace Go.Proofs.Ytkfohggdaooieaa
namespace Cw
open Go Go.RowKit
set_option maxRecDepth 100000
def lostE (e : E) : E := ⟨halfI (okE e).sz, halfI (okE e).sz, 0⟩
def lateE (e : E) : E := ⟨128, halfI (okE e).sz, 0⟩
def emptyE (e : E) : E := ⟨(okE e).sz, (okE e).th, 0⟩
def idleE (e : E) : E := ⟨if halfI (okE e).sz < (okE e).sz then halfI (okE e).sz else (okE e).sz, (okE e).th, 0⟩
theorem emptyE_good (e : E) : goodB (emptyE e) = true := by
 have := (goodB_iff _).1 (okE_good e)
 rw [goodB_iff]
 exact ⟨this.1, this.2.1, this.2.2.1, this.2.2.2.1, Int.le_refl _, (by decide : (0 : Int) ≤ 2147483648)⟩
set_option maxHeartbeats 4000000 in
theorem lost_any (e : E) (w : World) : Calls Try.prog 6 #[.agg (EV e)] w fun x w' => x = .returned (.agg (EV (lostE e))) ∧ Ext w w' := by
 obtain ⟨h, hh⟩ : ∃ h, h = halfI (okE e).sz := ⟨_, rfl⟩
 have HH : Hid (halfI (okE e).sz = h) := hh.symm
 rw [show lostE e = ⟨h, h, 0⟩ from by rw [hh]; rfl]
 clear hh
 go_enter Try.func6, Try.ntmps6
 go_wp2_with (first
  | (refine wl_boxG (C := EV e) rfl rfl rfl ?_; intro w1 g1 hg1 hb1 he1; have HG1 : Hid (g1 = w.heap.size) := hg1; clear hg1)
  | (have q := hb1; clear q; refine wl_allocG rfl rfl zeroE ?_; intro w2 g2 hg2 hb2 he2; have HT : Hid (Two w w2 g1 g2 _ e e0) := ⟨hb1.ext he2, hb2, he1.trans he2, Nat.le_of_eq HG1.out.symm, (by rw [hg2]; exact hb1.lt)⟩; clear hb1 hb2 he1 he2 hg2 HG1)
  | (have q := HT; clear q; refine wl_load rfl rowE rfl rfl HT.out.a rfl ?_)
  | (go_at_call 16; refine (orFirst_any _ _).mono ?_; rintro x w3 ⟨rfl, he3⟩; replace HT : Hid (Two _ _ _ _ _ _ _) := HT.out.grow he3; clear he3)
  | (go_at_call 17; refine (half_any (okE_good e) _).mono ?_; rintro x w3 ⟨rfl, he3⟩; rw [HH.out]; replace HT : Hid (Two _ _ _ _ _ _ _) := HT.out.grow he3; clear he3)
  | (have q := HT; clear q; refine wl_build rfl rfl rfl (built2 _ _) ?_)
  | (have q := HT; clear q; refine wl_store (D := EV ⟨h, h, 0⟩) rfl rowE rfl rfl rfl HT.out.b rfl rfl (EV.one _) ?_; intro w4 hb4 hk4 hx4; clear hx4; replace HT : Hid (Two _ _ _ _ _ _ _) := HT.out.setB hb4 hk4; clear hb4 hk4))
 refine bodyPost_ret (results_cell_row (fn := Try.f6) (p := 2) rfl _ _ _ _ _ (0, 0) _ rfl HT.out.b Try.underlying25 rfl (by kernel_rfl)) rfl ?_
 exact ⟨rfl, HT.out.ext⟩
set_option maxHeartbeats 4000000 in
theorem late_any (e : E) (w : World) : Calls Try.prog 8 #[.agg (EV e)] w fun x w' => x = .returned (.agg (EV (lateE e))) ∧ Ext w w' := by
 obtain ⟨h, hh⟩ : ∃ h, h = halfI (okE e).sz := ⟨_, rfl⟩
 have HH : Hid (halfI (okE e).sz = h) := hh.symm
 rw [show lateE e = ⟨128, h, 0⟩ from by rw [hh]; rfl]
 clear hh
 go_enter Try.func8, Try.ntmps8
 go_wp2_with (first
  | (refine wl_boxG (C := EV e) rfl rfl rfl ?_; intro w1 g1 hg1 hb1 he1; have HG1 : Hid (g1 = w.heap.size) := hg1; clear hg1)
  | (have q := hb1; clear q; refine wl_allocG rfl rfl zeroE ?_; intro w2 g2 hg2 hb2 he2; have HT : Hid (Two w w2 g1 g2 _ e e0) := ⟨hb1.ext he2, hb2, he1.trans he2, Nat.le_of_eq HG1.out.symm, (by rw [hg2]; exact hb1.lt)⟩; clear hb1 hb2 he1 he2 hg2 HG1)
  | (have q := HT; clear q; refine wl_load rfl rowE rfl rfl HT.out.a rfl ?_)
  | (go_at_call 16; refine (orFirst_any _ _).mono ?_; rintro x w3 ⟨rfl, he3⟩; replace HT : Hid (Two _ _ _ _ _ _ _) := HT.out.grow he3; clear he3)
  | (go_at_call 17; refine (half_any (okE_good e) _).mono ?_; rintro x w3 ⟨rfl, he3⟩; rw [HH.out]; replace HT : Hid (Two _ _ _ _ _ _ _) := HT.out.grow he3; clear he3)
  | (have q := HT; clear q; refine wl_build rfl rfl rfl (built2 _ _) ?_)
  | (have q := HT; clear q; refine wl_store (D := EV ⟨128, h, 0⟩) rfl rowE rfl rfl rfl HT.out.b rfl rfl (EV.one _) ?_; intro w4 hb4 hk4 hx4; clear hx4; replace HT : Hid (Two _ _ _ _ _ _ _) := HT.out.setB hb4 hk4; clear hb4 hk4))
 refine bodyPost_ret (results_cell_row (fn := Try.f8) (p := 2) rfl _ _ _ _ _ (0, 0) _ rfl HT.out.b Try.underlying25 rfl (by kernel_rfl)) rfl ?_
 exact ⟨rfl, HT.out.ext⟩
set_option maxHeartbeats 4000000 in
theorem empty_any (e : E) (w : World) : Calls Try.prog 11 #[.agg (EV e)] w fun x w' => x = .returned (.agg (EV (emptyE e))) ∧ Ext w w' := by
 go_enter Try.func11, Try.ntmps11
 go_wp2_with (first
  | (refine wl_boxG (C := EV e) rfl rfl rfl ?_; intro w1 g1 hg1 hb1 he1; have HG1 : Hid (g1 = w.heap.size) := hg1; clear hg1)
  | (have q := hb1; clear q; refine wl_allocG rfl rfl zeroE ?_; intro w2 g2 hg2 hb2 he2; have HT : Hid (Two w w2 g1 g2 _ e e0) := ⟨hb1.ext he2, hb2, he1.trans he2, Nat.le_of_eq HG1.out.symm, (by rw [hg2]; exact hb1.lt)⟩; clear hb1 hb2 he1 he2 hg2 HG1)
  | (have q := HT; clear q; refine wl_load rfl rowE rfl rfl HT.out.a rfl ?_)
  | (go_at_call 16; refine (orFirst_any _ _).mono ?_; rintro x w3 ⟨rfl, he3⟩; replace HT : Hid (Two _ _ _ _ _ _ _) := HT.out.grow he3; clear he3)
  | (have q := HT; clear q; refine wl_store (D := EV (emptyE e)) rfl rowE rfl rfl rfl HT.out.b rfl rfl (EV.one _) ?_; intro w4 hb4 hk4 hx4; clear hx4; replace HT : Hid (Two _ _ _ _ _ _ _) := HT.out.setB hb4 hk4; clear hb4 hk4)
  | (have q := HT; clear q; refine wl_store (D := EV (okE e)) rfl rowE rfl rfl rfl HT.out.a rfl rfl (EV.one _) ?_; intro w4 hb4 hk4 hx4; clear hx4; replace HT : Hid (Two _ _ _ _ _ _ _) := HT.out.setA hb4 hk4; clear hb4 hk4)
  | (have q := HT; clear q; refine wl_set2 HT.out.a rfl rfl rfl rfl ?_; intro w4 hb4 hk4; replace HT : Hid (Two _ _ _ _ _ _ _) := HT.out.setA hb4 hk4; clear hb4 hk4))
 refine bodyPost_ret (results_cell_row (fn := Try.f11) (p := 2) rfl _ _ _ _ _ (0, 0) _ rfl HT.out.b Try.underlying25 rfl (by kernel_rfl)) rfl ?_
 exact ⟨rfl, HT.out.ext⟩
end Cw
end Go.Proofs.Ytkfohggdaooieaa
/- Slow and Idle. No condition of its own. -/
namespace Go.Proofs.Ytkfohggdaooieaa
namespace Cw
open Go Go.RowKit
set_option maxRecDepth 100000
set_option maxHeartbeats 4000000 in
theorem slow_any (e : E) (w : World) : Calls Try.prog 13 #[.agg (EV e)] w fun x w' => x = .returned (.bool (decide ((okE e).sz ≤ (okE e).th))) ∧ Ext w w' := by
 go_enter Try.func13, Try.ntmps13
 go_wp2_with (first
  | (refine wl_box (C := EV e) rfl rfl rfl ?_; intro w1 hb1 he1 hx; clear hx)
  | (have q := hb1; clear q; refine wl_load rfl rowE rfl rfl hb1 rfl ?_)
  | (go_at_call 16; refine (orFirst_any _ _).mono ?_; rintro x w3 ⟨rfl, he3⟩; have hb3 := hb1.ext he3; clear hb1)
  | (have q := hb3; clear q; refine wl_store (D := EV (okE e)) rfl rowE rfl rfl rfl hb3 rfl rfl (EV.one _) ?_; intro w4 hb4 hk4 hx4; clear hx4; have x0 := ev0 hb4; have x1 := ev1 hb4; have x2 := ev2 hb4; have HX : Hid (Ext w w4) := (he1.trans he3).of_but hk4 (fun q e => by subst e; exact Nat.le_refl _); clear hb3 he3 he1 hk4))
 go_ret
 exact ⟨rfl, HX.out⟩
theorem exec_minI {r : Operand → Value} {w : World} {o : Oper} {x y : Operand} {m n k : Int} (ho : o.op = .call { callee := .builtin .min, args := #[x, y], argTypes := #[3, 3] }) (hx : r x = .int .i64 m) (hy : r y = .int .i64 n) (hk : k = if n < m then n else m) : (execOp r o).run Try.prog w = .ok (.value (.int .i64 k)) w := by
 have hr : (Builtin.min_ #[3, 3] o.type #[.int .i64 m, .int .i64 n]).run Try.prog w = .ok (.int .i64 k) w := by
  subst hk
  by_cases hl : n < m
  ·
   simp [Builtin.min_, Builtin.min2, go_sem, hl]
  ·
   simp [Builtin.min_, Builtin.min2, go_sem, hl]
 simp only [execOp, ho, resolve, invoke, builtin, Sem.run_bind, Sem.run_pure, Result.andThen_ok, List.map_toArray, List.map_cons, List.map_nil, hx, hy, hr]
set_option maxHeartbeats 8000000 in
theorem idle_any (e : E) (w : World) : Calls Try.prog 9 #[.agg (EV e)] w fun x w' => x = .returned (.agg (EV (idleE e))) ∧ Ext w w' := by
 obtain ⟨h, hh⟩ : ∃ h, h = halfI (okE e).sz := ⟨_, rfl⟩
 have HH : Hid (halfI (emptyE e).sz = h) := hh.symm
 obtain ⟨k, hk⟩ : ∃ k, k = if h < (okE e).sz then h else (okE e).sz := ⟨_, rfl⟩
 have HK : Hid (k = if h < (okE e).sz then h else (okE e).sz) := hk
 have HI : Hid (idleE e = ⟨k, (okE e).th, 0⟩) := show _ = _ by rw [hk, hh]; rfl
 clear hk hh
 go_enter Try.func9, Try.ntmps9
 go_wp2_with (first
  | (refine wl_boxG (C := EV e) rfl rfl rfl ?_; intro w1 g1 hg1 hb1 he1; have HG1 : Hid (g1 = w.heap.size) := hg1; clear hg1)
  | (have q := hb1; clear q; refine wl_allocG rfl rfl zeroE ?_; intro w2 g2 hg2 hb2 he2; have HT : Hid (Two w w2 g1 g2 _ e e0) := ⟨hb1.ext he2, hb2, he1.trans he2, Nat.le_of_eq HG1.out.symm, (by rw [hg2]; exact hb1.lt)⟩; clear hb1 hb2 he1 he2 hg2 HG1)
  | (have q := HT; clear q; refine wl_load rfl rowE rfl rfl HT.out.a rfl ?_)
  | (go_at_call 11; refine (empty_any _ _).mono ?_; rintro x w3 ⟨rfl, he3⟩; replace HT : Hid (Two _ _ _ _ _ _ _) := HT.out.grow he3; clear he3)
  | (have q := HT; clear q; refine wl_store (D := EV (emptyE e)) rfl rowE rfl rfl rfl HT.out.a rfl rfl (EV.one _) ?_; intro w4 hb4 hk4 hx4; clear hx4; replace HT : Hid (Two _ _ _ _ _ _ _) := HT.out.setA hb4 hk4; clear hb4 hk4))
 have HBx : ∀ {wx : World}, Ext _ wx → Two w wx g1 g2 _ (emptyE e) e0 := fun hx => HT.out.grow ((Ext.drew _).trans hx)
 refine wp_region_lastD (fun t => bif Nat.ble 5 t && Nat.ble t 10 then some (t - 5) else none) 12 Ext
  [Is (.pointer (some ⟨g1, 0, none⟩)),
   Is (.int .i64 (okE e).sz),
   Is (.agg (EV (emptyE e))),
   Is (.int .i64 h),
   Is (.int .i64 k),
   Is (.pointer (some ⟨g1, 0, none⟩))]
  (by intro h; cases h) rfl (by kernel_rfl) (by kernel_rfl) rfl (by kernel_rfl) Ext.refl (fun _ _ _ => Ext.trans) ?_ (fun wx wy => wy = wx.setCell ⟨g1, 0, none⟩ (.int .i64 k)) ?_ ?_ ?_
 ·
  exact Ks (Ks (Ks (Ks (Ks (Ks (KeepAll.nil))))))
 ·
  refine Gc (lr1 Ext.refl rfl rfl rfl (fun _ _ h => h) (fun r wx hR h1 => by simp [execOp, h1, go_sem])) ?_
  refine Gc (lr1 Ext.refl rfl rfl rfl (fun _ _ h => h) (fun r wx hR h1 => exg one3 rfl h1 (ev0 (e := emptyE e) (HBx hR).a))) ?_
  refine Gc (lr1 Ext.refl rfl rfl rfl (fun _ _ h => h) (fun r wx hR h1 => exec_loadW rowE rfl h1 (HBx hR).a rfl)) ?_
  refine Gc ?_ ?_
  ·
   rintro r wx hR ⟨h1, h2, _⟩
   replace h1 : r (.func 17) = .func (.func 17) #[] #[] := h1
   replace h2 : r (.tmp 7) = (.agg (EV (emptyE e))) := h2
   refine give_func #[.agg (EV (emptyE e))] rfl h1 Try.call17 (by simp [h2]) ?_
   refine (half_any (emptyE_good e) _).mono ?_
   rintro x w' ⟨rfl, he⟩
   rw [HH.out]
   exact ⟨_, rfl, he, rfl⟩
  refine Gc (lr2 Ext.refl rfl rfl rfl (fun _ _ h => h) (fun _ _ h => h) (fun r wx hR h1 h2 => exec_minI rfl h1 h2 HK.out)) ?_
  refine Gc (lr1 Ext.refl rfl rfl rfl (fun _ _ h => h) (fun r wx hR h1 => by simp [execOp, h1, go_sem])) ?_
  exact GoodAll.nil
 ·
  rintro r wx hR ⟨h1, h2, _⟩
  replace h1 : r (.tmp 10) = (.pointer (some ⟨g1, 0, none⟩)) := h1
  replace h2 : r (.tmp 9) = (.int .i64 k) := h2
  exact give_skip (exec_set one3 rfl h1 h2 rfl rfl (HBx hR).a (by rw [EV.size]; decide)) rfl
 ·
  intro vs wx wy aE hR hE hold ha
  have hv0 : vs 0 = (.pointer (some ⟨g1, 0, none⟩)) := hold.at 0
  have hv1 : vs 1 = (.int .i64 (okE e).sz) := hold.at 1
  have hv2 : vs 2 = (.agg (EV (emptyE e))) := hold.at 2
  have hv3 : vs 3 = (.int .i64 h) := hold.at 3
  have hv4 : vs 4 = (.int .i64 k) := hold.at 4
  have hv5 : vs 5 = (.pointer (some ⟨g1, 0, none⟩)) := hold.at 5
  simp only [putAll, Act.put, hv0, hv1, hv2, hv3, hv4, hv5, List.setIfInBounds_toArray, List.set_cons_succ, List.set_cons_zero] at ha
  subst ha
  subst hE
  have HU := HBx hR
  clear hold hv0 hv1 hv2 hv3 hv4 hv5
  replace HT : Hid (Two w (wx.setCell ⟨g1, 0, none⟩ (.int .i64 k)) g1 g2 _ ⟨k, (okE e).th, 0⟩ e0) := ⟨HU.a.set 0 (.int .i64 k), HU.b.other (Nat.ne_of_gt HU.lt) 0 _, HU.ext.set HU.g0 0 _, HU.g0, HU.lt⟩
  clear HU HBx hR
  go_wp2_with (first
   | (have q := HT; clear q; refine wl_load rfl rowE rfl rfl HT.out.a rfl ?_)
   | (have q := HT; clear q; refine wl_store rfl rowE rfl rfl rfl HT.out.b rfl rfl (EV.one _) ?_; intro w4 hb4 hk4 hx4; clear hx4; replace HT : Hid (Two _ _ _ _ _ _ _) := HT.out.setB hb4 hk4; clear hb4 hk4))
  refine bodyPost_ret (results_cell_row (fn := Try.f9) (p := 2) rfl _ _ _ _ _ (0, 0) _ rfl HT.out.b Try.underlying25 rfl (by kernel_rfl)) rfl ?_
  exact ⟨by rw [HI.out], HT.out.ext⟩
end Cw
end Go.Proofs.Ytkfohggdaooieaa
/- What the document says of a loss. No condition of its own. -/
namespace Go.Proofs.Ytkfohggdaooieaa
namespace Cw
open Go Go.RowKit
set_option maxRecDepth 100000
def lossE (e : E) (late : Bool) : E := if late = true then lateE e else lostE e
set_option maxHeartbeats 4000000 in
theorem refLost_y {e : E} (hg : goodB e = true) (late : Bool) (w : World) : Calls Try.prog 7 #[.agg (EV e), .bool late] w fun x w' => x = .returned (.agg (EV (lossE e late))) ∧ Ext w w' := by
 have hn := (goodB_iff e).1 hg
 have ho : okE e = e := okE_yes hg
 obtain ⟨p, hp⟩ : ∃ p, p = e.sz / 2 := ⟨_, rfl⟩
 have p1 : e.sz.tdiv 2 = p := by rw [Int.tdiv_eq_ediv_of_nonneg (by omega), hp]
 have p2 : IntKind.i64.wrap p = p := by rw [IntKind.wrap_i64]; omega
 obtain ⟨h, hh⟩ : ∃ h, h = halfI e.sz := ⟨_, rfl⟩
 have h2 : h = if p < 512 then 512 else p := by rw [hh, hp]; rfl
 rw [show lossE e late = if late = true then ⟨128, h, 0⟩ else ⟨h, h, 0⟩ from by rw [hh]; unfold lossE lateE lostE; rw [ho]]
 clear hn hp hh ho
 by_cases hq : p < 512
 ·
  have d1 : decide (p < 512) = true := decide_eq_true hq
  rw [if_pos hq] at h2
  subst h2
  clear hq
  cases late with
  | true =>
   have HL : Hid ((if (true : Bool) = true then (⟨128, 512, 0⟩ : E) else ⟨512, 512, 0⟩) = ⟨128, 512, 0⟩) := rfl
   rw [HL.out]
   go_enter Try.func7, Try.ntmps7
   go_wp2_with (first
    | (refine wl_boxG (C := EV e) rfl rfl rfl ?_; intro w1 g1 hg1 hb1 he1; have HG1 : Hid (g1 = w.heap.size) := hg1; clear hg1)
    | (have q := hb1; clear q; refine wl_allocG rfl rfl zeroR ?_; intro w2 g2 hg2 hb2 he2; have HT : Hid (Two w w2 g1 g2 _ e e0) := ⟨hb1.ext he2, hb2, he1.trans he2, Nat.le_of_eq HG1.out.symm, (by rw [hg2]; exact hb1.lt)⟩; clear hb1 hb2 he1 he2 hg2 HG1)
    | (go_at_call 18; refine (refGood_any _ _).mono ?_; rintro xx w3 ⟨rfl, he3⟩; rw [hg]; replace HT : Hid (Two _ _ _ _ _ _ _) := HT.out.grow he3; clear he3)
    | (have q := HT; clear q; refine wl_load rfl rowR rfl rfl HT.out.a rfl ?_)
    | (have q := HT; clear q; refine wl_build rfl rfl rfl (built3 _ _ _) ?_)
    | (have q := HT; clear q; refine wl_store (D := EV ⟨128, 512, 0⟩) rfl rowR rfl rfl rfl HT.out.b rfl rfl (EV.one _) ?_; intro w4 hb4 hk4 hx4; clear hx4; replace HT : Hid (Two _ _ _ _ _ _ _) := HT.out.setB hb4 hk4; clear hb4 hk4)
    | (have q := HT; clear q; refine wl_get0 HT.out.a rfl rfl rfl ?_)
    | (have q := HT; clear q; refine wl_get1 HT.out.a rfl rfl rfl ?_)
    | (have q := HT; clear q; refine wl_get2 HT.out.a rfl rfl rfl ?_))
   refine bodyPost_ret (results_cell_row (fn := Try.f7) (p := 4) rfl _ _ _ _ _ (0, 0) _ rfl HT.out.b Try.underlying23 rfl (by kernel_rfl)) rfl ?_
   exact ⟨rfl, HT.out.ext⟩
  | false =>
   have HL : Hid ((if (false : Bool) = true then (⟨128, 512, 0⟩ : E) else ⟨512, 512, 0⟩) = ⟨512, 512, 0⟩) := rfl
   rw [HL.out]
   go_enter Try.func7, Try.ntmps7
   go_wp2_with (first
    | (refine wl_boxG (C := EV e) rfl rfl rfl ?_; intro w1 g1 hg1 hb1 he1; have HG1 : Hid (g1 = w.heap.size) := hg1; clear hg1)
    | (have q := hb1; clear q; refine wl_allocG rfl rfl zeroR ?_; intro w2 g2 hg2 hb2 he2; have HT : Hid (Two w w2 g1 g2 _ e e0) := ⟨hb1.ext he2, hb2, he1.trans he2, Nat.le_of_eq HG1.out.symm, (by rw [hg2]; exact hb1.lt)⟩; clear hb1 hb2 he1 he2 hg2 HG1)
    | (go_at_call 18; refine (refGood_any _ _).mono ?_; rintro xx w3 ⟨rfl, he3⟩; rw [hg]; replace HT : Hid (Two _ _ _ _ _ _ _) := HT.out.grow he3; clear he3)
    | (have q := HT; clear q; refine wl_load rfl rowR rfl rfl HT.out.a rfl ?_)
    | (have q := HT; clear q; refine wl_build rfl rfl rfl (built3 _ _ _) ?_)
    | (have q := HT; clear q; refine wl_store (D := EV ⟨512, 512, 0⟩) rfl rowR rfl rfl rfl HT.out.b rfl rfl (EV.one _) ?_; intro w4 hb4 hk4 hx4; clear hx4; replace HT : Hid (Two _ _ _ _ _ _ _) := HT.out.setB hb4 hk4; clear hb4 hk4)
    | (have q := HT; clear q; refine wl_get0 HT.out.a rfl rfl rfl ?_)
    | (have q := HT; clear q; refine wl_get1 HT.out.a rfl rfl rfl ?_)
    | (have q := HT; clear q; refine wl_get2 HT.out.a rfl rfl rfl ?_))
   refine bodyPost_ret (results_cell_row (fn := Try.f7) (p := 4) rfl _ _ _ _ _ (0, 0) _ rfl HT.out.b Try.underlying23 rfl (by kernel_rfl)) rfl ?_
   exact ⟨rfl, HT.out.ext⟩
 ·
  have d1 : decide (p < 512) = false := decide_eq_false hq
  rw [if_neg hq] at h2
  subst h2
  clear hq
  cases late with
  | true =>
   have HL : Hid ((if (true : Bool) = true then (⟨128, h, 0⟩ : E) else ⟨h, h, 0⟩) = ⟨128, h, 0⟩) := rfl
   rw [HL.out]
   go_enter Try.func7, Try.ntmps7
   go_wp2_with (first
    | (refine wl_boxG (C := EV e) rfl rfl rfl ?_; intro w1 g1 hg1 hb1 he1; have HG1 : Hid (g1 = w.heap.size) := hg1; clear hg1)
    | (have q := hb1; clear q; refine wl_allocG rfl rfl zeroR ?_; intro w2 g2 hg2 hb2 he2; have HT : Hid (Two w w2 g1 g2 _ e e0) := ⟨hb1.ext he2, hb2, he1.trans he2, Nat.le_of_eq HG1.out.symm, (by rw [hg2]; exact hb1.lt)⟩; clear hb1 hb2 he1 he2 hg2 HG1)
    | (go_at_call 18; refine (refGood_any _ _).mono ?_; rintro xx w3 ⟨rfl, he3⟩; rw [hg]; replace HT : Hid (Two _ _ _ _ _ _ _) := HT.out.grow he3; clear he3)
    | (have q := HT; clear q; refine wl_load rfl rowR rfl rfl HT.out.a rfl ?_)
    | (have q := HT; clear q; refine wl_build rfl rfl rfl (built3 _ _ _) ?_)
    | (have q := HT; clear q; refine wl_store (D := EV ⟨128, h, 0⟩) rfl rowR rfl rfl rfl HT.out.b rfl rfl (EV.one _) ?_; intro w4 hb4 hk4 hx4; clear hx4; replace HT : Hid (Two _ _ _ _ _ _ _) := HT.out.setB hb4 hk4; clear hb4 hk4)
    | (have q := HT; clear q; refine wl_get0 HT.out.a rfl rfl rfl ?_)
    | (have q := HT; clear q; refine wl_get1 HT.out.a rfl rfl rfl ?_)
    | (have q := HT; clear q; refine wl_get2 HT.out.a rfl rfl rfl ?_))
   refine bodyPost_ret (results_cell_row (fn := Try.f7) (p := 4) rfl _ _ _ _ _ (0, 0) _ rfl HT.out.b Try.underlying23 rfl (by kernel_rfl)) rfl ?_
   exact ⟨rfl, HT.out.ext⟩
  | false =>
   have HL : Hid ((if (false : Bool) = true then (⟨128, h, 0⟩ : E) else ⟨h, h, 0⟩) = ⟨h, h, 0⟩) := rfl
   rw [HL.out]
   go_enter Try.func7, Try.ntmps7
   go_wp2_with (first
    | (refine wl_boxG (C := EV e) rfl rfl rfl ?_; intro w1 g1 hg1 hb1 he1; have HG1 : Hid (g1 = w.heap.size) := hg1; clear hg1)
    | (have q := hb1; clear q; refine wl_allocG rfl rfl zeroR ?_; intro w2 g2 hg2 hb2 he2; have HT : Hid (Two w w2 g1 g2 _ e e0) := ⟨hb1.ext he2, hb2, he1.trans he2, Nat.le_of_eq HG1.out.symm, (by rw [hg2]; exact hb1.lt)⟩; clear hb1 hb2 he1 he2 hg2 HG1)
    | (go_at_call 18; refine (refGood_any _ _).mono ?_; rintro xx w3 ⟨rfl, he3⟩; rw [hg]; replace HT : Hid (Two _ _ _ _ _ _ _) := HT.out.grow he3; clear he3)
    | (have q := HT; clear q; refine wl_load rfl rowR rfl rfl HT.out.a rfl ?_)
    | (have q := HT; clear q; refine wl_build rfl rfl rfl (built3 _ _ _) ?_)
    | (have q := HT; clear q; refine wl_store (D := EV ⟨h, h, 0⟩) rfl rowR rfl rfl rfl HT.out.b rfl rfl (EV.one _) ?_; intro w4 hb4 hk4 hx4; clear hx4; replace HT : Hid (Two _ _ _ _ _ _ _) := HT.out.setB hb4 hk4; clear hb4 hk4)
    | (have q := HT; clear q; refine wl_get0 HT.out.a rfl rfl rfl ?_)
    | (have q := HT; clear q; refine wl_get1 HT.out.a rfl rfl rfl ?_)
    | (have q := HT; clear q; refine wl_get2 HT.out.a rfl rfl rfl ?_))
   refine bodyPost_ret (results_cell_row (fn := Try.f7) (p := 4) rfl _ _ _ _ _ (0, 0) _ rfl HT.out.b Try.underlying23 rfl (by kernel_rfl)) rfl ?_
   exact ⟨rfl, HT.out.ext⟩
set_option maxHeartbeats 4000000 in
theorem refLost_n {e : E} (hg : goodB e = false) (late : Bool) (w : World) : Calls Try.prog 7 #[.agg (EV e), .bool late] w fun x w' => x = .returned (.agg (EV (lossE e late))) ∧ Ext w w' := by
 obtain ⟨x, hx⟩ : ∃ x, eF = x := ⟨_, rfl⟩
 have ho : okE e = x := (okE_no hg).trans hx
 have hn := (goodB_iff x).1 (by rw [← ho]; exact okE_good e)
 obtain ⟨p, hp⟩ : ∃ p, p = x.sz / 2 := ⟨_, rfl⟩
 have p1 : x.sz.tdiv 2 = p := by rw [Int.tdiv_eq_ediv_of_nonneg (by omega), hp]
 have p2 : IntKind.i64.wrap p = p := by rw [IntKind.wrap_i64]; omega
 obtain ⟨h, hh⟩ : ∃ h, h = halfI x.sz := ⟨_, rfl⟩
 have h2 : h = if p < 512 then 512 else p := by rw [hh, hp]; rfl
 rw [show lossE e late = if late = true then ⟨128, h, 0⟩ else ⟨h, h, 0⟩ from by rw [hh]; unfold lossE lateE lostE; rw [ho]]
 clear hn hp hh ho
 by_cases hq : p < 512
 ·
  have d1 : decide (p < 512) = true := decide_eq_true hq
  rw [if_pos hq] at h2
  subst h2
  clear hq
  cases late with
  | true =>
   have HL : Hid ((if (true : Bool) = true then (⟨128, 512, 0⟩ : E) else ⟨512, 512, 0⟩) = ⟨128, 512, 0⟩) := rfl
   rw [HL.out]
   go_enter Try.func7, Try.ntmps7
   go_wp2_with (first
    | (refine wl_boxG (C := EV e) rfl rfl rfl ?_; intro w1 g1 hg1 hb1 he1; have HG1 : Hid (g1 = w.heap.size) := hg1; clear hg1)
    | (have q := hb1; clear q; refine wl_allocG rfl rfl zeroR ?_; intro w2 g2 hg2 hb2 he2; have HT : Hid (Two w w2 g1 g2 _ e e0) := ⟨hb1.ext he2, hb2, he1.trans he2, Nat.le_of_eq HG1.out.symm, (by rw [hg2]; exact hb1.lt)⟩; clear hb1 hb2 he1 he2 hg2 HG1)
    | (go_at_call 18; refine (refGood_any _ _).mono ?_; rintro xx w3 ⟨rfl, he3⟩; rw [hg]; replace HT : Hid (Two _ _ _ _ _ _ _) := HT.out.grow he3; clear he3)
    | (have q := HT; clear q; refine wl_load rfl rowR rfl rfl HT.out.a rfl ?_)
    | (go_at_call 19; refine (refFirst_any _).mono ?_; rintro xx w3 ⟨rfl, he3⟩; rw [hx]; replace HT : Hid (Two _ _ _ _ _ _ _) := HT.out.grow he3; clear he3)
    | (have q := HT; clear q; refine wl_build rfl rfl rfl (built3 _ _ _) ?_)
    | (have q := HT; clear q; refine wl_store (D := EV x) rfl rowR rfl rfl rfl HT.out.a rfl rfl (EV.one _) ?_; intro w4 hb4 hk4 hx4; clear hx4; replace HT : Hid (Two _ _ _ _ _ _ _) := HT.out.setA hb4 hk4; clear hb4 hk4)
    | (have q := HT; clear q; refine wl_store (D := EV ⟨128, 512, 0⟩) rfl rowR rfl rfl rfl HT.out.b rfl rfl (EV.one _) ?_; intro w4 hb4 hk4 hx4; clear hx4; replace HT : Hid (Two _ _ _ _ _ _ _) := HT.out.setB hb4 hk4; clear hb4 hk4)
    | (have q := HT; clear q; refine wl_get0 HT.out.a rfl rfl rfl ?_)
    | (have q := HT; clear q; refine wl_get1 HT.out.a rfl rfl rfl ?_)
    | (have q := HT; clear q; refine wl_get2 HT.out.a rfl rfl rfl ?_))
   refine bodyPost_ret (results_cell_row (fn := Try.f7) (p := 4) rfl _ _ _ _ _ (0, 0) _ rfl HT.out.b Try.underlying23 rfl (by kernel_rfl)) rfl ?_
   exact ⟨rfl, HT.out.ext⟩
  | false =>
   have HL : Hid ((if (false : Bool) = true then (⟨128, 512, 0⟩ : E) else ⟨512, 512, 0⟩) = ⟨512, 512, 0⟩) := rfl
   rw [HL.out]
   go_enter Try.func7, Try.ntmps7
   go_wp2_with (first
    | (refine wl_boxG (C := EV e) rfl rfl rfl ?_; intro w1 g1 hg1 hb1 he1; have HG1 : Hid (g1 = w.heap.size) := hg1; clear hg1)
    | (have q := hb1; clear q; refine wl_allocG rfl rfl zeroR ?_; intro w2 g2 hg2 hb2 he2; have HT : Hid (Two w w2 g1 g2 _ e e0) := ⟨hb1.ext he2, hb2, he1.trans he2, Nat.le_of_eq HG1.out.symm, (by rw [hg2]; exact hb1.lt)⟩; clear hb1 hb2 he1 he2 hg2 HG1)
    | (go_at_call 18; refine (refGood_any _ _).mono ?_; rintro xx w3 ⟨rfl, he3⟩; rw [hg]; replace HT : Hid (Two _ _ _ _ _ _ _) := HT.out.grow he3; clear he3)
    | (have q := HT; clear q; refine wl_load rfl rowR rfl rfl HT.out.a rfl ?_)
    | (go_at_call 19; refine (refFirst_any _).mono ?_; rintro xx w3 ⟨rfl, he3⟩; rw [hx]; replace HT : Hid (Two _ _ _ _ _ _ _) := HT.out.grow he3; clear he3)
    | (have q := HT; clear q; refine wl_build rfl rfl rfl (built3 _ _ _) ?_)
    | (have q := HT; clear q; refine wl_store (D := EV x) rfl rowR rfl rfl rfl HT.out.a rfl rfl (EV.one _) ?_; intro w4 hb4 hk4 hx4; clear hx4; replace HT : Hid (Two _ _ _ _ _ _ _) := HT.out.setA hb4 hk4; clear hb4 hk4)
    | (have q := HT; clear q; refine wl_store (D := EV ⟨512, 512, 0⟩) rfl rowR rfl rfl rfl HT.out.b rfl rfl (EV.one _) ?_; intro w4 hb4 hk4 hx4; clear hx4; replace HT : Hid (Two _ _ _ _ _ _ _) := HT.out.setB hb4 hk4; clear hb4 hk4)
    | (have q := HT; clear q; refine wl_get0 HT.out.a rfl rfl rfl ?_)
    | (have q := HT; clear q; refine wl_get1 HT.out.a rfl rfl rfl ?_)
    | (have q := HT; clear q; refine wl_get2 HT.out.a rfl rfl rfl ?_))
   refine bodyPost_ret (results_cell_row (fn := Try.f7) (p := 4) rfl _ _ _ _ _ (0, 0) _ rfl HT.out.b Try.underlying23 rfl (by kernel_rfl)) rfl ?_
   exact ⟨rfl, HT.out.ext⟩
 ·
  have d1 : decide (p < 512) = false := decide_eq_false hq
  rw [if_neg hq] at h2
  subst h2
  clear hq
  cases late with
  | true =>
   have HL : Hid ((if (true : Bool) = true then (⟨128, h, 0⟩ : E) else ⟨h, h, 0⟩) = ⟨128, h, 0⟩) := rfl
   rw [HL.out]
   go_enter Try.func7, Try.ntmps7
   go_wp2_with (first
    | (refine wl_boxG (C := EV e) rfl rfl rfl ?_; intro w1 g1 hg1 hb1 he1; have HG1 : Hid (g1 = w.heap.size) := hg1; clear hg1)
    | (have q := hb1; clear q; refine wl_allocG rfl rfl zeroR ?_; intro w2 g2 hg2 hb2 he2; have HT : Hid (Two w w2 g1 g2 _ e e0) := ⟨hb1.ext he2, hb2, he1.trans he2, Nat.le_of_eq HG1.out.symm, (by rw [hg2]; exact hb1.lt)⟩; clear hb1 hb2 he1 he2 hg2 HG1)
    | (go_at_call 18; refine (refGood_any _ _).mono ?_; rintro xx w3 ⟨rfl, he3⟩; rw [hg]; replace HT : Hid (Two _ _ _ _ _ _ _) := HT.out.grow he3; clear he3)
    | (have q := HT; clear q; refine wl_load rfl rowR rfl rfl HT.out.a rfl ?_)
    | (go_at_call 19; refine (refFirst_any _).mono ?_; rintro xx w3 ⟨rfl, he3⟩; rw [hx]; replace HT : Hid (Two _ _ _ _ _ _ _) := HT.out.grow he3; clear he3)
    | (have q := HT; clear q; refine wl_build rfl rfl rfl (built3 _ _ _) ?_)
    | (have q := HT; clear q; refine wl_store (D := EV x) rfl rowR rfl rfl rfl HT.out.a rfl rfl (EV.one _) ?_; intro w4 hb4 hk4 hx4; clear hx4; replace HT : Hid (Two _ _ _ _ _ _ _) := HT.out.setA hb4 hk4; clear hb4 hk4)
    | (have q := HT; clear q; refine wl_store (D := EV ⟨128, h, 0⟩) rfl rowR rfl rfl rfl HT.out.b rfl rfl (EV.one _) ?_; intro w4 hb4 hk4 hx4; clear hx4; replace HT : Hid (Two _ _ _ _ _ _ _) := HT.out.setB hb4 hk4; clear hb4 hk4)
    | (have q := HT; clear q; refine wl_get0 HT.out.a rfl rfl rfl ?_)
    | (have q := HT; clear q; refine wl_get1 HT.out.a rfl rfl rfl ?_)
    | (have q := HT; clear q; refine wl_get2 HT.out.a rfl rfl rfl ?_))
   refine bodyPost_ret (results_cell_row (fn := Try.f7) (p := 4) rfl _ _ _ _ _ (0, 0) _ rfl HT.out.b Try.underlying23 rfl (by kernel_rfl)) rfl ?_
   exact ⟨rfl, HT.out.ext⟩
  | false =>
   have HL : Hid ((if (false : Bool) = true then (⟨128, h, 0⟩ : E) else ⟨h, h, 0⟩) = ⟨h, h, 0⟩) := rfl
   rw [HL.out]
   go_enter Try.func7, Try.ntmps7
   go_wp2_with (first
    | (refine wl_boxG (C := EV e) rfl rfl rfl ?_; intro w1 g1 hg1 hb1 he1; have HG1 : Hid (g1 = w.heap.size) := hg1; clear hg1)
    | (have q := hb1; clear q; refine wl_allocG rfl rfl zeroR ?_; intro w2 g2 hg2 hb2 he2; have HT : Hid (Two w w2 g1 g2 _ e e0) := ⟨hb1.ext he2, hb2, he1.trans he2, Nat.le_of_eq HG1.out.symm, (by rw [hg2]; exact hb1.lt)⟩; clear hb1 hb2 he1 he2 hg2 HG1)
    | (go_at_call 18; refine (refGood_any _ _).mono ?_; rintro xx w3 ⟨rfl, he3⟩; rw [hg]; replace HT : Hid (Two _ _ _ _ _ _ _) := HT.out.grow he3; clear he3)
    | (have q := HT; clear q; refine wl_load rfl rowR rfl rfl HT.out.a rfl ?_)
    | (go_at_call 19; refine (refFirst_any _).mono ?_; rintro xx w3 ⟨rfl, he3⟩; rw [hx]; replace HT : Hid (Two _ _ _ _ _ _ _) := HT.out.grow he3; clear he3)
    | (have q := HT; clear q; refine wl_build rfl rfl rfl (built3 _ _ _) ?_)
    | (have q := HT; clear q; refine wl_store (D := EV x) rfl rowR rfl rfl rfl HT.out.a rfl rfl (EV.one _) ?_; intro w4 hb4 hk4 hx4; clear hx4; replace HT : Hid (Two _ _ _ _ _ _ _) := HT.out.setA hb4 hk4; clear hb4 hk4)
    | (have q := HT; clear q; refine wl_store (D := EV ⟨h, h, 0⟩) rfl rowR rfl rfl rfl HT.out.b rfl rfl (EV.one _) ?_; intro w4 hb4 hk4 hx4; clear hx4; replace HT : Hid (Two _ _ _ _ _ _ _) := HT.out.setB hb4 hk4; clear hb4 hk4)
    | (have q := HT; clear q; refine wl_get0 HT.out.a rfl rfl rfl ?_)
    | (have q := HT; clear q; refine wl_get1 HT.out.a rfl rfl rfl ?_)
    | (have q := HT; clear q; refine wl_get2 HT.out.a rfl rfl rfl ?_))
   refine bodyPost_ret (results_cell_row (fn := Try.f7) (p := 4) rfl _ _ _ _ _ (0, 0) _ rfl HT.out.b Try.underlying23 rfl (by kernel_rfl)) rfl ?_
   exact ⟨rfl, HT.out.ext⟩
theorem refLost_any (e : E) (late : Bool) (w : World) : Calls Try.prog 7 #[.agg (EV e), .bool late] w fun x w' => x = .returned (.agg (EV (lossE e late))) ∧ Ext w w' := by
 cases hg : goodB e with
 | true => exact refLost_y hg late w
 | false => exact refLost_n hg late w
end Cw
end Go.Proofs.Ytkfohggdaooieaa
/- What the document says of a rest. No condition of its own. -/
namespace Go.Proofs.Ytkfohggdaooieaa
namespace Cw
open Go Go.RowKit
set_option maxRecDepth 100000
def restE (e : E) (long : Bool) : E := if long = true then idleE e else emptyE e
set_option maxHeartbeats 4000000 in
theorem refRest_y {e : E} (hg : goodB e = true) (long : Bool) (w : World) : Calls Try.prog 10 #[.agg (EV e), .bool long] w fun x w' => x = .returned (.agg (EV (restE e long))) ∧ Ext w w' := by
 have hn := (goodB_iff e).1 hg
 have ho : okE e = e := okE_yes hg
 cases long with
 | false =>
  have HL : Hid (restE e false = ⟨e.sz, e.th, 0⟩) := show emptyE e = _ by unfold emptyE; rw [ho]
  rw [HL.out]
  clear hn ho
  go_enter Try.func10, Try.ntmps10
  go_wp2_with (first
   | (refine wl_boxG (C := EV e) rfl rfl rfl ?_; intro w1 g1 hg1 hb1 he1; have HG1 : Hid (g1 = w.heap.size) := hg1; clear hg1)
   | (have q := hb1; clear q; refine wl_allocG rfl rfl zeroR ?_; intro w2 g2 hg2 hb2 he2; have HT : Hid (Two w w2 g1 g2 _ e e0) := ⟨hb1.ext he2, hb2, he1.trans he2, Nat.le_of_eq HG1.out.symm, (by rw [hg2]; exact hb1.lt)⟩; clear hb1 hb2 he1 he2 hg2 HG1)
   | (go_at_call 18; refine (refGood_any _ _).mono ?_; rintro xx w3 ⟨rfl, he3⟩; rw [hg]; replace HT : Hid (Two _ _ _ _ _ _ _) := HT.out.grow he3; clear he3)
   | (have q := HT; clear q; refine wl_load rfl rowR rfl rfl HT.out.a rfl ?_)
   | (have q := HT; clear q; refine wl_set2 HT.out.a rfl rfl rfl rfl ?_; intro w4 hb4 hk4; have x0 := ev0 hb4; dsimp only at x0; replace HT : Hid (Two _ _ _ _ _ _ _) := HT.out.setA hb4 hk4; clear hb4 hk4)
   | (have q := HT; clear q; refine wl_set0 HT.out.a rfl rfl rfl rfl ?_; intro w4 hb4 hk4; replace HT : Hid (Two _ _ _ _ _ _ _) := HT.out.setA hb4 hk4; clear hb4 hk4)
   | (have q := HT; clear q; refine wl_store rfl rowR rfl rfl rfl HT.out.b rfl rfl (EV.one _) ?_; intro w4 hb4 hk4 hx4; clear hx4; replace HT : Hid (Two _ _ _ _ _ _ _) := HT.out.setB hb4 hk4; clear hb4 hk4))
  refine bodyPost_ret (results_cell_row (fn := Try.f10) (p := 4) rfl _ _ _ _ _ (0, 0) _ rfl HT.out.b Try.underlying23 rfl (by kernel_rfl)) rfl ?_
  exact ⟨rfl, HT.out.ext⟩
 | true =>
 obtain ⟨p, hp⟩ : ∃ p, p = e.sz / 2 := ⟨_, rfl⟩
 have p1 : e.sz.tdiv 2 = p := by rw [Int.tdiv_eq_ediv_of_nonneg (by omega), hp]
 have p2 : IntKind.i64.wrap p = p := by rw [IntKind.wrap_i64]; omega
 by_cases h1 : e.sz ≥ 1024
 ·
  have d1 : decide (e.sz ≥ 1024) = true := decide_eq_true h1
  have HL : Hid (restE e true = ⟨p, e.th, 0⟩) := show idleE e = _ by
   unfold idleE
   rw [ho, show halfI e.sz = p from by unfold halfI; rw [← hp, if_neg (by omega)], if_pos (by omega)]
  rw [HL.out]
  clear hn ho h1 hp
  go_enter Try.func10, Try.ntmps10
  go_wp2_with (first
   | (refine wl_boxG (C := EV e) rfl rfl rfl ?_; intro w1 g1 hg1 hb1 he1; have HG1 : Hid (g1 = w.heap.size) := hg1; clear hg1)
   | (have q := hb1; clear q; refine wl_allocG rfl rfl zeroR ?_; intro w2 g2 hg2 hb2 he2; have HT : Hid (Two w w2 g1 g2 _ e e0) := ⟨hb1.ext he2, hb2, he1.trans he2, Nat.le_of_eq HG1.out.symm, (by rw [hg2]; exact hb1.lt)⟩; clear hb1 hb2 he1 he2 hg2 HG1)
   | (go_at_call 18; refine (refGood_any _ _).mono ?_; rintro xx w3 ⟨rfl, he3⟩; rw [hg]; replace HT : Hid (Two _ _ _ _ _ _ _) := HT.out.grow he3; clear he3)
   | (have q := HT; clear q; refine wl_load rfl rowR rfl rfl HT.out.a rfl ?_)
   | (have q := HT; clear q; refine wl_set2 HT.out.a rfl rfl rfl rfl ?_; intro w4 hb4 hk4; have x0 := ev0 hb4; dsimp only at x0; replace HT : Hid (Two _ _ _ _ _ _ _) := HT.out.setA hb4 hk4; clear hb4 hk4)
   | (have q := HT; clear q; refine wl_set0 HT.out.a rfl rfl rfl rfl ?_; intro w4 hb4 hk4; replace HT : Hid (Two _ _ _ _ _ _ _) := HT.out.setA hb4 hk4; clear hb4 hk4)
   | (have q := HT; clear q; refine wl_store rfl rowR rfl rfl rfl HT.out.b rfl rfl (EV.one _) ?_; intro w4 hb4 hk4 hx4; clear hx4; replace HT : Hid (Two _ _ _ _ _ _ _) := HT.out.setB hb4 hk4; clear hb4 hk4))
  refine bodyPost_ret (results_cell_row (fn := Try.f10) (p := 4) rfl _ _ _ _ _ (0, 0) _ rfl HT.out.b Try.underlying23 rfl (by kernel_rfl)) rfl ?_
  exact ⟨rfl, HT.out.ext⟩
 have d1 : decide (e.sz ≥ 1024) = false := decide_eq_false h1
 have e1 : halfI e.sz = 512 := by unfold halfI; rw [← hp]; by_cases hq : p < 512
                                  · rw [if_pos hq]
                                  · exfalso; omega
 by_cases h2 : e.sz > 512
 ·
  have d2 : decide (e.sz > 512) = true := decide_eq_true h2
  have HL : Hid (restE e true = ⟨512, e.th, 0⟩) := show idleE e = _ by
   unfold idleE
   rw [ho, e1, if_pos (by omega)]
  rw [HL.out]
  clear hn ho h1 hp h2 e1
  go_enter Try.func10, Try.ntmps10
  go_wp2_with (first
   | (refine wl_boxG (C := EV e) rfl rfl rfl ?_; intro w1 g1 hg1 hb1 he1; have HG1 : Hid (g1 = w.heap.size) := hg1; clear hg1)
   | (have q := hb1; clear q; refine wl_allocG rfl rfl zeroR ?_; intro w2 g2 hg2 hb2 he2; have HT : Hid (Two w w2 g1 g2 _ e e0) := ⟨hb1.ext he2, hb2, he1.trans he2, Nat.le_of_eq HG1.out.symm, (by rw [hg2]; exact hb1.lt)⟩; clear hb1 hb2 he1 he2 hg2 HG1)
   | (go_at_call 18; refine (refGood_any _ _).mono ?_; rintro xx w3 ⟨rfl, he3⟩; rw [hg]; replace HT : Hid (Two _ _ _ _ _ _ _) := HT.out.grow he3; clear he3)
   | (have q := HT; clear q; refine wl_load rfl rowR rfl rfl HT.out.a rfl ?_)
   | (have q := HT; clear q; refine wl_set2 HT.out.a rfl rfl rfl rfl ?_; intro w4 hb4 hk4; have x0 := ev0 hb4; dsimp only at x0; replace HT : Hid (Two _ _ _ _ _ _ _) := HT.out.setA hb4 hk4; clear hb4 hk4)
   | (have q := HT; clear q; refine wl_set0 HT.out.a rfl rfl rfl rfl ?_; intro w4 hb4 hk4; replace HT : Hid (Two _ _ _ _ _ _ _) := HT.out.setA hb4 hk4; clear hb4 hk4)
   | (have q := HT; clear q; refine wl_store rfl rowR rfl rfl rfl HT.out.b rfl rfl (EV.one _) ?_; intro w4 hb4 hk4 hx4; clear hx4; replace HT : Hid (Two _ _ _ _ _ _ _) := HT.out.setB hb4 hk4; clear hb4 hk4))
  refine bodyPost_ret (results_cell_row (fn := Try.f10) (p := 4) rfl _ _ _ _ _ (0, 0) _ rfl HT.out.b Try.underlying23 rfl (by kernel_rfl)) rfl ?_
  exact ⟨rfl, HT.out.ext⟩
 ·
  have d2 : decide (e.sz > 512) = false := decide_eq_false h2
  have HL : Hid (restE e true = ⟨e.sz, e.th, 0⟩) := show idleE e = _ by
   unfold idleE
   rw [ho, e1, if_neg (by omega)]
  rw [HL.out]
  clear hn ho h1 hp h2 e1
  go_enter Try.func10, Try.ntmps10
  go_wp2_with (first
   | (refine wl_boxG (C := EV e) rfl rfl rfl ?_; intro w1 g1 hg1 hb1 he1; have HG1 : Hid (g1 = w.heap.size) := hg1; clear hg1)
   | (have q := hb1; clear q; refine wl_allocG rfl rfl zeroR ?_; intro w2 g2 hg2 hb2 he2; have HT : Hid (Two w w2 g1 g2 _ e e0) := ⟨hb1.ext he2, hb2, he1.trans he2, Nat.le_of_eq HG1.out.symm, (by rw [hg2]; exact hb1.lt)⟩; clear hb1 hb2 he1 he2 hg2 HG1)
   | (go_at_call 18; refine (refGood_any _ _).mono ?_; rintro xx w3 ⟨rfl, he3⟩; rw [hg]; replace HT : Hid (Two _ _ _ _ _ _ _) := HT.out.grow he3; clear he3)
   | (have q := HT; clear q; refine wl_load rfl rowR rfl rfl HT.out.a rfl ?_)
   | (have q := HT; clear q; refine wl_set2 HT.out.a rfl rfl rfl rfl ?_; intro w4 hb4 hk4; have x0 := ev0 hb4; dsimp only at x0; replace HT : Hid (Two _ _ _ _ _ _ _) := HT.out.setA hb4 hk4; clear hb4 hk4)
   | (have q := HT; clear q; refine wl_set0 HT.out.a rfl rfl rfl rfl ?_; intro w4 hb4 hk4; replace HT : Hid (Two _ _ _ _ _ _ _) := HT.out.setA hb4 hk4; clear hb4 hk4)
   | (have q := HT; clear q; refine wl_store rfl rowR rfl rfl rfl HT.out.b rfl rfl (EV.one _) ?_; intro w4 hb4 hk4 hx4; clear hx4; replace HT : Hid (Two _ _ _ _ _ _ _) := HT.out.setB hb4 hk4; clear hb4 hk4))
  refine bodyPost_ret (results_cell_row (fn := Try.f10) (p := 4) rfl _ _ _ _ _ (0, 0) _ rfl HT.out.b Try.underlying23 rfl (by kernel_rfl)) rfl ?_
  exact ⟨rfl, HT.out.ext⟩
set_option maxHeartbeats 4000000 in
theorem refRest_n {e : E} (hg : goodB e = false) (long : Bool) (w : World) : Calls Try.prog 10 #[.agg (EV e), .bool long] w fun x w' => x = .returned (.agg (EV (restE e long))) ∧ Ext w w' := by
 obtain ⟨x, hx⟩ : ∃ x, eF = x := ⟨_, rfl⟩
 have ho : okE e = x := (okE_no hg).trans hx
 have hn := (goodB_iff x).1 (by rw [← ho]; exact okE_good e)
 cases long with
 | false =>
  have HL : Hid (restE e false = ⟨x.sz, x.th, 0⟩) := show emptyE e = _ by unfold emptyE; rw [ho]
  rw [HL.out]
  clear hn ho
  go_enter Try.func10, Try.ntmps10
  go_wp2_with (first
   | (refine wl_boxG (C := EV e) rfl rfl rfl ?_; intro w1 g1 hg1 hb1 he1; have HG1 : Hid (g1 = w.heap.size) := hg1; clear hg1)
   | (have q := hb1; clear q; refine wl_allocG rfl rfl zeroR ?_; intro w2 g2 hg2 hb2 he2; have HT : Hid (Two w w2 g1 g2 _ e e0) := ⟨hb1.ext he2, hb2, he1.trans he2, Nat.le_of_eq HG1.out.symm, (by rw [hg2]; exact hb1.lt)⟩; clear hb1 hb2 he1 he2 hg2 HG1)
   | (go_at_call 18; refine (refGood_any _ _).mono ?_; rintro xx w3 ⟨rfl, he3⟩; rw [hg]; replace HT : Hid (Two _ _ _ _ _ _ _) := HT.out.grow he3; clear he3)
   | (have q := HT; clear q; refine wl_load rfl rowR rfl rfl HT.out.a rfl ?_)
   | (go_at_call 19; refine (refFirst_any _).mono ?_; rintro xx w3 ⟨rfl, he3⟩; rw [hx]; replace HT : Hid (Two _ _ _ _ _ _ _) := HT.out.grow he3; clear he3)
   | (have q := HT; clear q; refine wl_set2 HT.out.a rfl rfl rfl rfl ?_; intro w4 hb4 hk4; have x0 := ev0 hb4; dsimp only at x0; replace HT : Hid (Two _ _ _ _ _ _ _) := HT.out.setA hb4 hk4; clear hb4 hk4)
   | (have q := HT; clear q; refine wl_set0 HT.out.a rfl rfl rfl rfl ?_; intro w4 hb4 hk4; replace HT : Hid (Two _ _ _ _ _ _ _) := HT.out.setA hb4 hk4; clear hb4 hk4)
   | (have q := HT; clear q; refine wl_store (D := EV x) rfl rowR rfl rfl rfl HT.out.a rfl rfl (EV.one _) ?_; intro w4 hb4 hk4 hx4; clear hx4; replace HT : Hid (Two _ _ _ _ _ _ _) := HT.out.setA hb4 hk4; clear hb4 hk4)
   | (have q := HT; clear q; refine wl_store rfl rowR rfl rfl rfl HT.out.b rfl rfl (EV.one _) ?_; intro w4 hb4 hk4 hx4; clear hx4; replace HT : Hid (Two _ _ _ _ _ _ _) := HT.out.setB hb4 hk4; clear hb4 hk4))
  refine bodyPost_ret (results_cell_row (fn := Try.f10) (p := 4) rfl _ _ _ _ _ (0, 0) _ rfl HT.out.b Try.underlying23 rfl (by kernel_rfl)) rfl ?_
  exact ⟨rfl, HT.out.ext⟩
 | true =>
 obtain ⟨p, hp⟩ : ∃ p, p = x.sz / 2 := ⟨_, rfl⟩
 have p1 : x.sz.tdiv 2 = p := by rw [Int.tdiv_eq_ediv_of_nonneg (by omega), hp]
 have p2 : IntKind.i64.wrap p = p := by rw [IntKind.wrap_i64]; omega
 by_cases h1 : x.sz ≥ 1024
 ·
  have d1 : decide (x.sz ≥ 1024) = true := decide_eq_true h1
  have HL : Hid (restE e true = ⟨p, x.th, 0⟩) := show idleE e = _ by
   unfold idleE
   rw [ho, show halfI x.sz = p from by unfold halfI; rw [← hp, if_neg (by omega)], if_pos (by omega)]
  rw [HL.out]
  clear hn ho h1 hp
  go_enter Try.func10, Try.ntmps10
  go_wp2_with (first
   | (refine wl_boxG (C := EV e) rfl rfl rfl ?_; intro w1 g1 hg1 hb1 he1; have HG1 : Hid (g1 = w.heap.size) := hg1; clear hg1)
   | (have q := hb1; clear q; refine wl_allocG rfl rfl zeroR ?_; intro w2 g2 hg2 hb2 he2; have HT : Hid (Two w w2 g1 g2 _ e e0) := ⟨hb1.ext he2, hb2, he1.trans he2, Nat.le_of_eq HG1.out.symm, (by rw [hg2]; exact hb1.lt)⟩; clear hb1 hb2 he1 he2 hg2 HG1)
   | (go_at_call 18; refine (refGood_any _ _).mono ?_; rintro xx w3 ⟨rfl, he3⟩; rw [hg]; replace HT : Hid (Two _ _ _ _ _ _ _) := HT.out.grow he3; clear he3)
   | (have q := HT; clear q; refine wl_load rfl rowR rfl rfl HT.out.a rfl ?_)
   | (go_at_call 19; refine (refFirst_any _).mono ?_; rintro xx w3 ⟨rfl, he3⟩; rw [hx]; replace HT : Hid (Two _ _ _ _ _ _ _) := HT.out.grow he3; clear he3)
   | (have q := HT; clear q; refine wl_set2 HT.out.a rfl rfl rfl rfl ?_; intro w4 hb4 hk4; have x0 := ev0 hb4; dsimp only at x0; replace HT : Hid (Two _ _ _ _ _ _ _) := HT.out.setA hb4 hk4; clear hb4 hk4)
   | (have q := HT; clear q; refine wl_set0 HT.out.a rfl rfl rfl rfl ?_; intro w4 hb4 hk4; replace HT : Hid (Two _ _ _ _ _ _ _) := HT.out.setA hb4 hk4; clear hb4 hk4)
   | (have q := HT; clear q; refine wl_store (D := EV x) rfl rowR rfl rfl rfl HT.out.a rfl rfl (EV.one _) ?_; intro w4 hb4 hk4 hx4; clear hx4; replace HT : Hid (Two _ _ _ _ _ _ _) := HT.out.setA hb4 hk4; clear hb4 hk4)
   | (have q := HT; clear q; refine wl_store rfl rowR rfl rfl rfl HT.out.b rfl rfl (EV.one _) ?_; intro w4 hb4 hk4 hx4; clear hx4; replace HT : Hid (Two _ _ _ _ _ _ _) := HT.out.setB hb4 hk4; clear hb4 hk4))
  refine bodyPost_ret (results_cell_row (fn := Try.f10) (p := 4) rfl _ _ _ _ _ (0, 0) _ rfl HT.out.b Try.underlying23 rfl (by kernel_rfl)) rfl ?_
  exact ⟨rfl, HT.out.ext⟩
 have d1 : decide (x.sz ≥ 1024) = false := decide_eq_false h1
 have e1 : halfI x.sz = 512 := by unfold halfI; rw [← hp]; by_cases hq : p < 512
                                  · rw [if_pos hq]
                                  · exfalso; omega
 by_cases h2 : x.sz > 512
 ·
  have d2 : decide (x.sz > 512) = true := decide_eq_true h2
  have HL : Hid (restE e true = ⟨512, x.th, 0⟩) := show idleE e = _ by
   unfold idleE
   rw [ho, e1, if_pos (by omega)]
  rw [HL.out]
  clear hn ho h1 hp h2 e1
  go_enter Try.func10, Try.ntmps10
  go_wp2_with (first
   | (refine wl_boxG (C := EV e) rfl rfl rfl ?_; intro w1 g1 hg1 hb1 he1; have HG1 : Hid (g1 = w.heap.size) := hg1; clear hg1)
   | (have q := hb1; clear q; refine wl_allocG rfl rfl zeroR ?_; intro w2 g2 hg2 hb2 he2; have HT : Hid (Two w w2 g1 g2 _ e e0) := ⟨hb1.ext he2, hb2, he1.trans he2, Nat.le_of_eq HG1.out.symm, (by rw [hg2]; exact hb1.lt)⟩; clear hb1 hb2 he1 he2 hg2 HG1)
   | (go_at_call 18; refine (refGood_any _ _).mono ?_; rintro xx w3 ⟨rfl, he3⟩; rw [hg]; replace HT : Hid (Two _ _ _ _ _ _ _) := HT.out.grow he3; clear he3)
   | (have q := HT; clear q; refine wl_load rfl rowR rfl rfl HT.out.a rfl ?_)
   | (go_at_call 19; refine (refFirst_any _).mono ?_; rintro xx w3 ⟨rfl, he3⟩; rw [hx]; replace HT : Hid (Two _ _ _ _ _ _ _) := HT.out.grow he3; clear he3)
   | (have q := HT; clear q; refine wl_set2 HT.out.a rfl rfl rfl rfl ?_; intro w4 hb4 hk4; have x0 := ev0 hb4; dsimp only at x0; replace HT : Hid (Two _ _ _ _ _ _ _) := HT.out.setA hb4 hk4; clear hb4 hk4)
   | (have q := HT; clear q; refine wl_set0 HT.out.a rfl rfl rfl rfl ?_; intro w4 hb4 hk4; replace HT : Hid (Two _ _ _ _ _ _ _) := HT.out.setA hb4 hk4; clear hb4 hk4)
   | (have q := HT; clear q; refine wl_store (D := EV x) rfl rowR rfl rfl rfl HT.out.a rfl rfl (EV.one _) ?_; intro w4 hb4 hk4 hx4; clear hx4; replace HT : Hid (Two _ _ _ _ _ _ _) := HT.out.setA hb4 hk4; clear hb4 hk4)
   | (have q := HT; clear q; refine wl_store rfl rowR rfl rfl rfl HT.out.b rfl rfl (EV.one _) ?_; intro w4 hb4 hk4 hx4; clear hx4; replace HT : Hid (Two _ _ _ _ _ _ _) := HT.out.setB hb4 hk4; clear hb4 hk4))
  refine bodyPost_ret (results_cell_row (fn := Try.f10) (p := 4) rfl _ _ _ _ _ (0, 0) _ rfl HT.out.b Try.underlying23 rfl (by kernel_rfl)) rfl ?_
  exact ⟨rfl, HT.out.ext⟩
 ·
  have d2 : decide (x.sz > 512) = false := decide_eq_false h2
  have HL : Hid (restE e true = ⟨x.sz, x.th, 0⟩) := show idleE e = _ by
   unfold idleE
   rw [ho, e1, if_neg (by omega)]
  rw [HL.out]
  clear hn ho h1 hp h2 e1
  go_enter Try.func10, Try.ntmps10
  go_wp2_with (first
   | (refine wl_boxG (C := EV e) rfl rfl rfl ?_; intro w1 g1 hg1 hb1 he1; have HG1 : Hid (g1 = w.heap.size) := hg1; clear hg1)
   | (have q := hb1; clear q; refine wl_allocG rfl rfl zeroR ?_; intro w2 g2 hg2 hb2 he2; have HT : Hid (Two w w2 g1 g2 _ e e0) := ⟨hb1.ext he2, hb2, he1.trans he2, Nat.le_of_eq HG1.out.symm, (by rw [hg2]; exact hb1.lt)⟩; clear hb1 hb2 he1 he2 hg2 HG1)
   | (go_at_call 18; refine (refGood_any _ _).mono ?_; rintro xx w3 ⟨rfl, he3⟩; rw [hg]; replace HT : Hid (Two _ _ _ _ _ _ _) := HT.out.grow he3; clear he3)
   | (have q := HT; clear q; refine wl_load rfl rowR rfl rfl HT.out.a rfl ?_)
   | (go_at_call 19; refine (refFirst_any _).mono ?_; rintro xx w3 ⟨rfl, he3⟩; rw [hx]; replace HT : Hid (Two _ _ _ _ _ _ _) := HT.out.grow he3; clear he3)
   | (have q := HT; clear q; refine wl_set2 HT.out.a rfl rfl rfl rfl ?_; intro w4 hb4 hk4; have x0 := ev0 hb4; dsimp only at x0; replace HT : Hid (Two _ _ _ _ _ _ _) := HT.out.setA hb4 hk4; clear hb4 hk4)
   | (have q := HT; clear q; refine wl_set0 HT.out.a rfl rfl rfl rfl ?_; intro w4 hb4 hk4; replace HT : Hid (Two _ _ _ _ _ _ _) := HT.out.setA hb4 hk4; clear hb4 hk4)
   | (have q := HT; clear q; refine wl_store (D := EV x) rfl rowR rfl rfl rfl HT.out.a rfl rfl (EV.one _) ?_; intro w4 hb4 hk4 hx4; clear hx4; replace HT : Hid (Two _ _ _ _ _ _ _) := HT.out.setA hb4 hk4; clear hb4 hk4)
   | (have q := HT; clear q; refine wl_store rfl rowR rfl rfl rfl HT.out.b rfl rfl (EV.one _) ?_; intro w4 hb4 hk4 hx4; clear hx4; replace HT : Hid (Two _ _ _ _ _ _ _) := HT.out.setB hb4 hk4; clear hb4 hk4))
  refine bodyPost_ret (results_cell_row (fn := Try.f10) (p := 4) rfl _ _ _ _ _ (0, 0) _ rfl HT.out.b Try.underlying23 rfl (by kernel_rfl)) rfl ?_
  exact ⟨rfl, HT.out.ext⟩
theorem refRest_any (e : E) (long : Bool) (w : World) : Calls Try.prog 10 #[.agg (EV e), .bool long] w fun x w' => x = .returned (.agg (EV (restE e long))) ∧ Ext w w' := by
 cases hg : goodB e with
 | true => exact refRest_y hg long w
 | false => exact refRest_n hg long w
end Cw
end Go.Proofs.Ytkfohggdaooieaa
/- Acked. No condition of its own. -/
namespace Go.Proofs.Ytkfohggdaooieaa
namespace Cw
open Go Go.RowKit
set_option maxRecDepth 100000
/-- A good window that is used whole, when m bytes are acknowledged. -/
def growE (x : E) (m : Int) : E :=
 if x.sz ≤ x.th then ⟨(if 8192 < x.sz + (if 128 < m then 128 else m) then 8192 else x.sz + (if 128 < m then 128 else m)), x.th, x.ct⟩
 else if (if 2147483648 < x.ct + m then 2147483648 else x.ct + m) ≥ x.sz then ⟨(if 8192 < x.sz + 128 then 8192 else x.sz + 128), x.th, (if 2147483648 < x.ct + m then 2147483648 else x.ct + m) - x.sz⟩
 else ⟨x.sz, x.th, (if 2147483648 < x.ct + m then 2147483648 else x.ct + m)⟩
def ackedE (e : E) (n f : Int) : E := if bdI f < (okE e).sz then okE e else growE (okE e) (bdI n)
theorem bdI_in (n : Int) : 0 ≤ bdI n ∧ bdI n ≤ 1048576 := by unfold bdI; split <;> (try split) <;> omega
set_option maxHeartbeats 4000000 in
theorem acked_0 (e : E) (n f : Int) (w : World) (h : bdI f < (okE e).sz) : Calls Try.prog 14 #[.agg (EV e), .int .i64 n, .int .i64 f] w fun x w' => x = .returned (.agg (EV (okE e))) ∧ Ext w w' := by
 obtain ⟨x, hx'⟩ : ∃ x, okE e = x := ⟨_, rfl⟩
 have hx : Hid (okE e = x) := hx'
 have hok : Hid (okE x = x) := show _ = _ by rw [← hx', okE_ok]
 obtain ⟨m, hm'⟩ : ∃ m, bdI n = m := ⟨_, rfl⟩
 have hm : Hid (bdI n = m) := hm'
 obtain ⟨k, hk'⟩ : ∃ k, bdI f = k := ⟨_, rfl⟩
 have hk : Hid (bdI f = k) := hk'
 rw [hx']
 rw [hx', hk'] at h
 have d1 : decide (k < x.sz) = true := decide_eq_true h
 clear h hx' hm' hk'
 go_enter Try.func14, Try.ntmps14
 go_wp2_with (first
  | (refine wl_boxG (C := EV e) rfl rfl rfl ?_; intro w1 g1 hg1 hb1 he1; have HG1 : Hid (g1 = w.heap.size) := hg1; clear hg1)
  | (have q := hb1; clear q; refine wl_allocG rfl rfl zeroE ?_; intro w2 g2 hg2 hb2 he2; have HT : Hid (Two w w2 g1 g2 _ e e0) := ⟨hb1.ext he2, hb2, he1.trans he2, Nat.le_of_eq HG1.out.symm, (by rw [hg2]; exact hb1.lt)⟩; clear hb1 hb2 he1 he2 hg2 HG1)
  | (have q := HT; clear q; refine wl_load rfl rowE rfl rfl HT.out.a rfl ?_)
  | (go_at_call 16; refine (orFirst_any _ _).mono ?_; rintro y w3 ⟨rfl, he3⟩; rw [hx.out]; replace HT : Hid (Two _ _ _ _ _ _ _) := HT.out.grow he3; clear he3)
  | (go_at_call 21; refine (bounded_any _ _).mono ?_; rintro y w3 ⟨rfl, rfl⟩; first | rw [hm.out] | rw [hk.out])
  | (go_at_call 13; refine (slow_any _ _).mono ?_; rintro y w3 ⟨rfl, he3⟩; rw [hok.out, ds]; have HS : Hid True := trivial; replace HT : Hid (Two _ _ _ _ _ _ _) := HT.out.grow he3; clear he3)
  | (have q := HT; clear q; refine wl_get0 HT.out.a rfl rfl rfl ?_)
  | (have q := HT; clear q; refine wl_get1 HT.out.a rfl rfl rfl ?_)
  | (have q := HT; clear q; refine wl_get2 HT.out.a rfl rfl rfl ?_)
  | (have q := HT; clear q; refine wl_store (D := EV x) rfl rowE rfl rfl rfl HT.out.a rfl rfl (EV.one _) ?_; intro w4 hb4 hk4 hx4; clear hx4; replace HT : Hid (Two _ _ _ _ _ _ _) := HT.out.setA hb4 hk4; clear hb4 hk4)
  | (have q := HT; clear q; refine wl_store rfl rowE rfl rfl rfl HT.out.b rfl rfl (EV.one _) ?_; intro w4 hb4 hk4 hx4; clear hx4; replace HT : Hid (Two _ _ _ _ _ _ _) := HT.out.setB hb4 hk4; clear hb4 hk4)
  | (have q := HT; clear q; refine wl_set0 HT.out.a rfl rfl rfl rfl ?_; intro w4 hb4 hk4; replace HT : Hid (Two _ _ _ _ _ _ _) := HT.out.setA hb4 hk4; clear hb4 hk4)
  | (have q := HT; clear q; refine wl_set2 HT.out.a rfl rfl rfl rfl ?_; intro w4 hb4 hk4; replace HT : Hid (Two _ _ _ _ _ _ _) := HT.out.setA hb4 hk4; clear hb4 hk4))
 refine bodyPost_ret (results_cell_row (fn := Try.f14) (p := 6) rfl _ _ _ _ _ (0, 0) _ rfl HT.out.b Try.underlying25 rfl (by kernel_rfl)) rfl ?_
 exact ⟨rfl, HT.out.ext⟩
set_option maxHeartbeats 4000000 in
theorem acked_1 (e : E) (n f : Int) (w : World) (h : ¬ bdI f < (okE e).sz) (hs : (okE e).sz ≤ (okE e).th) : Calls Try.prog 14 #[.agg (EV e), .int .i64 n, .int .i64 f] w fun x w' => x = .returned (.agg (EV (growE (okE e) (bdI n)))) ∧ Ext w w' := by
 obtain ⟨x, hx'⟩ : ∃ x, okE e = x := ⟨_, rfl⟩
 have hx : Hid (okE e = x) := hx'
 have hok : Hid (okE x = x) := show _ = _ by rw [← hx', okE_ok]
 obtain ⟨m, hm'⟩ : ∃ m, bdI n = m := ⟨_, rfl⟩
 have hm : Hid (bdI n = m) := hm'
 obtain ⟨k, hk'⟩ : ∃ k, bdI f = k := ⟨_, rfl⟩
 have hk : Hid (bdI f = k) := hk'
 have hn := (goodB_iff _).1 (okE_good e)
 have hb := bdI_in n
 rw [hm'] at hb
 rw [hx'] at hn hs
 rw [hx', hm']
 rw [hx', hk'] at h
 have d1 : decide (k < x.sz) = false := decide_eq_false h
 have ds : decide (x.sz ≤ x.th) = true := decide_eq_true hs
 obtain ⟨v, hv⟩ : ∃ v, (if 128 < m then 128 else m) = v := ⟨_, rfl⟩
 have HV : Hid (v = if 128 < m then 128 else m) := hv.symm
 have hvb : 0 ≤ v ∧ v ≤ 128 := by rw [← hv]; split <;> omega
 have s1 : IntKind.i64.wrap (x.sz + v) = x.sz + v := by rw [IntKind.wrap_i64]; omega
 obtain ⟨z, hz⟩ : ∃ z, (if 8192 < x.sz + v then 8192 else x.sz + v) = z := ⟨_, rfl⟩
 have HZ : Hid (z = if 8192 < x.sz + v then 8192 else x.sz + v) := hz.symm
 have HG : Hid (growE x m = ⟨z, x.th, x.ct⟩) := show _ = _ by unfold growE; rw [if_pos hs, hv, hz]
 clear h hx' hm' hk' hn hb hs hv hvb hz
 go_enter Try.func14, Try.ntmps14
 go_wp2_with (first
  | (refine wl_boxG (C := EV e) rfl rfl rfl ?_; intro w1 g1 hg1 hb1 he1; have HG1 : Hid (g1 = w.heap.size) := hg1; clear hg1)
  | (have q := hb1; clear q; refine wl_allocG rfl rfl zeroE ?_; intro w2 g2 hg2 hb2 he2; have HT : Hid (Two w w2 g1 g2 _ e e0) := ⟨hb1.ext he2, hb2, he1.trans he2, Nat.le_of_eq HG1.out.symm, (by rw [hg2]; exact hb1.lt)⟩; clear hb1 hb2 he1 he2 hg2 HG1)
  | (have q := HT; clear q; refine wl_load rfl rowE rfl rfl HT.out.a rfl ?_)
  | (go_at_call 16; refine (orFirst_any _ _).mono ?_; rintro y w3 ⟨rfl, he3⟩; rw [hx.out]; replace HT : Hid (Two _ _ _ _ _ _ _) := HT.out.grow he3; clear he3)
  | (go_at_call 21; refine (bounded_any _ _).mono ?_; rintro y w3 ⟨rfl, rfl⟩; first | rw [hm.out] | rw [hk.out])
  | (go_at_call 13; refine (slow_any _ _).mono ?_; rintro y w3 ⟨rfl, he3⟩; rw [hok.out, ds]; have HS : Hid True := trivial; replace HT : Hid (Two _ _ _ _ _ _ _) := HT.out.grow he3; clear he3)
  | (have q := HT; clear q; refine wl_get0 HT.out.a rfl rfl rfl ?_)
  | (have q := HT; clear q; refine wl_get1 HT.out.a rfl rfl rfl ?_)
  | (have q := HT; clear q; refine wl_get2 HT.out.a rfl rfl rfl ?_)
  | (have q := HT; clear q; refine wl_store (D := EV x) rfl rowE rfl rfl rfl HT.out.a rfl rfl (EV.one _) ?_; intro w4 hb4 hk4 hx4; clear hx4; replace HT : Hid (Two _ _ _ _ _ _ _) := HT.out.setA hb4 hk4; clear hb4 hk4)
  | (have q := HT; clear q; refine wl_store rfl rowE rfl rfl rfl HT.out.b rfl rfl (EV.one _) ?_; intro w4 hb4 hk4 hx4; clear hx4; replace HT : Hid (Two _ _ _ _ _ _ _) := HT.out.setB hb4 hk4; clear hb4 hk4)
  | (have q := HT; clear q; refine wl_set0 HT.out.a rfl rfl rfl rfl ?_; intro w4 hb4 hk4; replace HT : Hid (Two _ _ _ _ _ _ _) := HT.out.setA hb4 hk4; clear hb4 hk4)
  | (have q := HT; clear q; refine wl_set2 HT.out.a rfl rfl rfl rfl ?_; intro w4 hb4 hk4; replace HT : Hid (Two _ _ _ _ _ _ _) := HT.out.setA hb4 hk4; clear hb4 hk4)
  | (have q := HS; clear q; refine stop_at 5 rfl ?_))
 refine ⟨?_⟩
 refine wl_minI (k := v) rfl rfl (by first | rfl | go_simp) (by first | rfl | go_simp) (by exact HV.out) ?_
 go_wp2_with (first
  | (refine wl_boxG (C := EV e) rfl rfl rfl ?_; intro w1 g1 hg1 hb1 he1; have HG1 : Hid (g1 = w.heap.size) := hg1; clear hg1)
  | (have q := hb1; clear q; refine wl_allocG rfl rfl zeroE ?_; intro w2 g2 hg2 hb2 he2; have HT : Hid (Two w w2 g1 g2 _ e e0) := ⟨hb1.ext he2, hb2, he1.trans he2, Nat.le_of_eq HG1.out.symm, (by rw [hg2]; exact hb1.lt)⟩; clear hb1 hb2 he1 he2 hg2 HG1)
  | (have q := HT; clear q; refine wl_load rfl rowE rfl rfl HT.out.a rfl ?_)
  | (go_at_call 16; refine (orFirst_any _ _).mono ?_; rintro y w3 ⟨rfl, he3⟩; rw [hx.out]; replace HT : Hid (Two _ _ _ _ _ _ _) := HT.out.grow he3; clear he3)
  | (go_at_call 21; refine (bounded_any _ _).mono ?_; rintro y w3 ⟨rfl, rfl⟩; first | rw [hm.out] | rw [hk.out])
  | (go_at_call 13; refine (slow_any _ _).mono ?_; rintro y w3 ⟨rfl, he3⟩; rw [hok.out, ds]; have HS : Hid True := trivial; replace HT : Hid (Two _ _ _ _ _ _ _) := HT.out.grow he3; clear he3)
  | (have q := HT; clear q; refine wl_get0 HT.out.a rfl rfl rfl ?_)
  | (have q := HT; clear q; refine wl_get1 HT.out.a rfl rfl rfl ?_)
  | (have q := HT; clear q; refine wl_get2 HT.out.a rfl rfl rfl ?_)
  | (have q := HT; clear q; refine wl_store (D := EV x) rfl rowE rfl rfl rfl HT.out.a rfl rfl (EV.one _) ?_; intro w4 hb4 hk4 hx4; clear hx4; replace HT : Hid (Two _ _ _ _ _ _ _) := HT.out.setA hb4 hk4; clear hb4 hk4)
  | (have q := HT; clear q; refine wl_store rfl rowE rfl rfl rfl HT.out.b rfl rfl (EV.one _) ?_; intro w4 hb4 hk4 hx4; clear hx4; replace HT : Hid (Two _ _ _ _ _ _ _) := HT.out.setB hb4 hk4; clear hb4 hk4)
  | (have q := HT; clear q; refine wl_set0 HT.out.a rfl rfl rfl rfl ?_; intro w4 hb4 hk4; replace HT : Hid (Two _ _ _ _ _ _ _) := HT.out.setA hb4 hk4; clear hb4 hk4)
  | (have q := HT; clear q; refine wl_set2 HT.out.a rfl rfl rfl rfl ?_; intro w4 hb4 hk4; replace HT : Hid (Two _ _ _ _ _ _ _) := HT.out.setA hb4 hk4; clear hb4 hk4)
  | (have q := HS; clear q; refine stop_at 3 rfl ?_))
 refine ⟨?_⟩
 refine wl_minI (k := z) rfl rfl (by first | rfl | go_simp) (by first | rfl | go_simp) (by exact HZ.out) ?_
 go_wp2_with (first
  | (refine wl_boxG (C := EV e) rfl rfl rfl ?_; intro w1 g1 hg1 hb1 he1; have HG1 : Hid (g1 = w.heap.size) := hg1; clear hg1)
  | (have q := hb1; clear q; refine wl_allocG rfl rfl zeroE ?_; intro w2 g2 hg2 hb2 he2; have HT : Hid (Two w w2 g1 g2 _ e e0) := ⟨hb1.ext he2, hb2, he1.trans he2, Nat.le_of_eq HG1.out.symm, (by rw [hg2]; exact hb1.lt)⟩; clear hb1 hb2 he1 he2 hg2 HG1)
  | (have q := HT; clear q; refine wl_load rfl rowE rfl rfl HT.out.a rfl ?_)
  | (go_at_call 16; refine (orFirst_any _ _).mono ?_; rintro y w3 ⟨rfl, he3⟩; rw [hx.out]; replace HT : Hid (Two _ _ _ _ _ _ _) := HT.out.grow he3; clear he3)
  | (go_at_call 21; refine (bounded_any _ _).mono ?_; rintro y w3 ⟨rfl, rfl⟩; first | rw [hm.out] | rw [hk.out])
  | (go_at_call 13; refine (slow_any _ _).mono ?_; rintro y w3 ⟨rfl, he3⟩; rw [hok.out, ds]; have HS : Hid True := trivial; replace HT : Hid (Two _ _ _ _ _ _ _) := HT.out.grow he3; clear he3)
  | (have q := HT; clear q; refine wl_get0 HT.out.a rfl rfl rfl ?_)
  | (have q := HT; clear q; refine wl_get1 HT.out.a rfl rfl rfl ?_)
  | (have q := HT; clear q; refine wl_get2 HT.out.a rfl rfl rfl ?_)
  | (have q := HT; clear q; refine wl_store (D := EV x) rfl rowE rfl rfl rfl HT.out.a rfl rfl (EV.one _) ?_; intro w4 hb4 hk4 hx4; clear hx4; replace HT : Hid (Two _ _ _ _ _ _ _) := HT.out.setA hb4 hk4; clear hb4 hk4)
  | (have q := HT; clear q; refine wl_store rfl rowE rfl rfl rfl HT.out.b rfl rfl (EV.one _) ?_; intro w4 hb4 hk4 hx4; clear hx4; replace HT : Hid (Two _ _ _ _ _ _ _) := HT.out.setB hb4 hk4; clear hb4 hk4)
  | (have q := HT; clear q; refine wl_set0 HT.out.a rfl rfl rfl rfl ?_; intro w4 hb4 hk4; replace HT : Hid (Two _ _ _ _ _ _ _) := HT.out.setA hb4 hk4; clear hb4 hk4)
  | (have q := HT; clear q; refine wl_set2 HT.out.a rfl rfl rfl rfl ?_; intro w4 hb4 hk4; replace HT : Hid (Two _ _ _ _ _ _ _) := HT.out.setA hb4 hk4; clear hb4 hk4))
 refine bodyPost_ret (results_cell_row (fn := Try.f14) (p := 6) rfl _ _ _ _ _ (0, 0) _ rfl HT.out.b Try.underlying25 rfl (by kernel_rfl)) rfl ?_
 exact ⟨by rw [HG.out], HT.out.ext⟩
set_option maxHeartbeats 4000000 in
theorem acked_2 (e : E) (n f : Int) (w : World) (h : ¬ bdI f < (okE e).sz) (hs : ¬ (okE e).sz ≤ (okE e).th) (hc : ¬ (if 2147483648 < (okE e).ct + bdI n then 2147483648 else (okE e).ct + bdI n) ≥ (okE e).sz) : Calls Try.prog 14 #[.agg (EV e), .int .i64 n, .int .i64 f] w fun x w' => x = .returned (.agg (EV (growE (okE e) (bdI n)))) ∧ Ext w w' := by
 obtain ⟨x, hx'⟩ : ∃ x, okE e = x := ⟨_, rfl⟩
 have hx : Hid (okE e = x) := hx'
 have hok : Hid (okE x = x) := show _ = _ by rw [← hx', okE_ok]
 obtain ⟨m, hm'⟩ : ∃ m, bdI n = m := ⟨_, rfl⟩
 have hm : Hid (bdI n = m) := hm'
 obtain ⟨k, hk'⟩ : ∃ k, bdI f = k := ⟨_, rfl⟩
 have hk : Hid (bdI f = k) := hk'
 have hn := (goodB_iff _).1 (okE_good e)
 have hb := bdI_in n
 rw [hm'] at hb
 rw [hx'] at hn hs
 rw [hx', hm'] at hc
 rw [hx', hm']
 rw [hx', hk'] at h
 have d1 : decide (k < x.sz) = false := decide_eq_false h
 have ds : decide (x.sz ≤ x.th) = false := decide_eq_false hs
 have s1 : IntKind.i64.wrap (x.ct + m) = x.ct + m := by rw [IntKind.wrap_i64]; omega
 obtain ⟨c, hv⟩ : ∃ c, (if 2147483648 < x.ct + m then 2147483648 else x.ct + m) = c := ⟨_, rfl⟩
 have HC : Hid (c = if 2147483648 < x.ct + m then 2147483648 else x.ct + m) := hv.symm
 have hcb : 0 ≤ c ∧ c ≤ 2147483648 := by rw [← hv]; split <;> omega
 rw [hv] at hc
 have d2 : decide (c ≥ x.sz) = false := decide_eq_false hc
 have HG : Hid (growE x m = ⟨x.sz, x.th, c⟩) := show _ = _ by unfold growE; rw [if_neg hs, hv, if_neg hc]
 clear h hx' hm' hk' hn hb hs hv hcb hc
 go_enter Try.func14, Try.ntmps14
 go_wp2_with (first
  | (refine wl_boxG (C := EV e) rfl rfl rfl ?_; intro w1 g1 hg1 hb1 he1; have HG1 : Hid (g1 = w.heap.size) := hg1; clear hg1)
  | (have q := hb1; clear q; refine wl_allocG rfl rfl zeroE ?_; intro w2 g2 hg2 hb2 he2; have HT : Hid (Two w w2 g1 g2 _ e e0) := ⟨hb1.ext he2, hb2, he1.trans he2, Nat.le_of_eq HG1.out.symm, (by rw [hg2]; exact hb1.lt)⟩; clear hb1 hb2 he1 he2 hg2 HG1)
  | (have q := HT; clear q; refine wl_load rfl rowE rfl rfl HT.out.a rfl ?_)
  | (go_at_call 16; refine (orFirst_any _ _).mono ?_; rintro y w3 ⟨rfl, he3⟩; rw [hx.out]; replace HT : Hid (Two _ _ _ _ _ _ _) := HT.out.grow he3; clear he3)
  | (go_at_call 21; refine (bounded_any _ _).mono ?_; rintro y w3 ⟨rfl, rfl⟩; first | rw [hm.out] | rw [hk.out])
  | (go_at_call 13; refine (slow_any _ _).mono ?_; rintro y w3 ⟨rfl, he3⟩; rw [hok.out, ds]; have HS : Hid True := trivial; replace HT : Hid (Two _ _ _ _ _ _ _) := HT.out.grow he3; clear he3)
  | (have q := HT; clear q; refine wl_get0 HT.out.a rfl rfl rfl ?_)
  | (have q := HT; clear q; refine wl_get1 HT.out.a rfl rfl rfl ?_)
  | (have q := HT; clear q; refine wl_get2 HT.out.a rfl rfl rfl ?_)
  | (have q := HT; clear q; refine wl_store (D := EV x) rfl rowE rfl rfl rfl HT.out.a rfl rfl (EV.one _) ?_; intro w4 hb4 hk4 hx4; clear hx4; replace HT : Hid (Two _ _ _ _ _ _ _) := HT.out.setA hb4 hk4; clear hb4 hk4)
  | (have q := HT; clear q; refine wl_store rfl rowE rfl rfl rfl HT.out.b rfl rfl (EV.one _) ?_; intro w4 hb4 hk4 hx4; clear hx4; replace HT : Hid (Two _ _ _ _ _ _ _) := HT.out.setB hb4 hk4; clear hb4 hk4)
  | (have q := HT; clear q; refine wl_set0 HT.out.a rfl rfl rfl rfl ?_; intro w4 hb4 hk4; replace HT : Hid (Two _ _ _ _ _ _ _) := HT.out.setA hb4 hk4; clear hb4 hk4)
  | (have q := HT; clear q; refine wl_set2 HT.out.a rfl rfl rfl rfl ?_; intro w4 hb4 hk4; replace HT : Hid (Two _ _ _ _ _ _ _) := HT.out.setA hb4 hk4; clear hb4 hk4)
  | (have q := HS; clear q; refine stop_at 3 rfl ?_))
 refine ⟨?_⟩
 refine wl_minI (k := c) rfl rfl (by first | rfl | go_simp) (by first | rfl | go_simp) (by exact HC.out) ?_
 go_wp2_with (first
  | (refine wl_boxG (C := EV e) rfl rfl rfl ?_; intro w1 g1 hg1 hb1 he1; have HG1 : Hid (g1 = w.heap.size) := hg1; clear hg1)
  | (have q := hb1; clear q; refine wl_allocG rfl rfl zeroE ?_; intro w2 g2 hg2 hb2 he2; have HT : Hid (Two w w2 g1 g2 _ e e0) := ⟨hb1.ext he2, hb2, he1.trans he2, Nat.le_of_eq HG1.out.symm, (by rw [hg2]; exact hb1.lt)⟩; clear hb1 hb2 he1 he2 hg2 HG1)
  | (have q := HT; clear q; refine wl_load rfl rowE rfl rfl HT.out.a rfl ?_)
  | (go_at_call 16; refine (orFirst_any _ _).mono ?_; rintro y w3 ⟨rfl, he3⟩; rw [hx.out]; replace HT : Hid (Two _ _ _ _ _ _ _) := HT.out.grow he3; clear he3)
  | (go_at_call 21; refine (bounded_any _ _).mono ?_; rintro y w3 ⟨rfl, rfl⟩; first | rw [hm.out] | rw [hk.out])
  | (go_at_call 13; refine (slow_any _ _).mono ?_; rintro y w3 ⟨rfl, he3⟩; rw [hok.out, ds]; have HS : Hid True := trivial; replace HT : Hid (Two _ _ _ _ _ _ _) := HT.out.grow he3; clear he3)
  | (have q := HT; clear q; refine wl_get0 HT.out.a rfl rfl rfl ?_)
  | (have q := HT; clear q; refine wl_get1 HT.out.a rfl rfl rfl ?_)
  | (have q := HT; clear q; refine wl_get2 HT.out.a rfl rfl rfl ?_)
  | (have q := HT; clear q; refine wl_store (D := EV x) rfl rowE rfl rfl rfl HT.out.a rfl rfl (EV.one _) ?_; intro w4 hb4 hk4 hx4; clear hx4; replace HT : Hid (Two _ _ _ _ _ _ _) := HT.out.setA hb4 hk4; clear hb4 hk4)
  | (have q := HT; clear q; refine wl_store rfl rowE rfl rfl rfl HT.out.b rfl rfl (EV.one _) ?_; intro w4 hb4 hk4 hx4; clear hx4; replace HT : Hid (Two _ _ _ _ _ _ _) := HT.out.setB hb4 hk4; clear hb4 hk4)
  | (have q := HT; clear q; refine wl_set0 HT.out.a rfl rfl rfl rfl ?_; intro w4 hb4 hk4; replace HT : Hid (Two _ _ _ _ _ _ _) := HT.out.setA hb4 hk4; clear hb4 hk4)
  | (have q := HT; clear q; refine wl_set2 HT.out.a rfl rfl rfl rfl ?_; intro w4 hb4 hk4; replace HT : Hid (Two _ _ _ _ _ _ _) := HT.out.setA hb4 hk4; clear hb4 hk4))
 refine bodyPost_ret (results_cell_row (fn := Try.f14) (p := 6) rfl _ _ _ _ _ (0, 0) _ rfl HT.out.b Try.underlying25 rfl (by kernel_rfl)) rfl ?_
 exact ⟨by rw [HG.out], HT.out.ext⟩
set_option maxHeartbeats 4000000 in
theorem acked_3 (e : E) (n f : Int) (w : World) (h : ¬ bdI f < (okE e).sz) (hs : ¬ (okE e).sz ≤ (okE e).th) (hc : (if 2147483648 < (okE e).ct + bdI n then 2147483648 else (okE e).ct + bdI n) ≥ (okE e).sz) : Calls Try.prog 14 #[.agg (EV e), .int .i64 n, .int .i64 f] w fun x w' => x = .returned (.agg (EV (growE (okE e) (bdI n)))) ∧ Ext w w' := by
 obtain ⟨x, hx'⟩ : ∃ x, okE e = x := ⟨_, rfl⟩
 have hx : Hid (okE e = x) := hx'
 have hok : Hid (okE x = x) := show _ = _ by rw [← hx', okE_ok]
 obtain ⟨m, hm'⟩ : ∃ m, bdI n = m := ⟨_, rfl⟩
 have hm : Hid (bdI n = m) := hm'
 obtain ⟨k, hk'⟩ : ∃ k, bdI f = k := ⟨_, rfl⟩
 have hk : Hid (bdI f = k) := hk'
 have hn := (goodB_iff _).1 (okE_good e)
 have hb := bdI_in n
 rw [hm'] at hb
 rw [hx'] at hn hs
 rw [hx', hm'] at hc
 rw [hx', hm']
 rw [hx', hk'] at h
 have d1 : decide (k < x.sz) = false := decide_eq_false h
 have ds : decide (x.sz ≤ x.th) = false := decide_eq_false hs
 have s1 : IntKind.i64.wrap (x.ct + m) = x.ct + m := by rw [IntKind.wrap_i64]; omega
 obtain ⟨c, hv⟩ : ∃ c, (if 2147483648 < x.ct + m then 2147483648 else x.ct + m) = c := ⟨_, rfl⟩
 have HC : Hid (c = if 2147483648 < x.ct + m then 2147483648 else x.ct + m) := hv.symm
 have hcb : 0 ≤ c ∧ c ≤ 2147483648 := by rw [← hv]; split <;> omega
 rw [hv] at hc
 have d2 : decide (c ≥ x.sz) = true := decide_eq_true hc
 have s2 : IntKind.i64.wrap (c - x.sz) = c - x.sz := by rw [IntKind.wrap_i64]; omega
 have s3 : IntKind.i64.wrap (x.sz + 128) = x.sz + 128 := by rw [IntKind.wrap_i64]; omega
 obtain ⟨z, hz⟩ : ∃ z, (if 8192 < x.sz + 128 then 8192 else x.sz + 128) = z := ⟨_, rfl⟩
 have HZ : Hid (z = if 8192 < x.sz + 128 then 8192 else x.sz + 128) := hz.symm
 have HG : Hid (growE x m = ⟨z, x.th, c - x.sz⟩) := show _ = _ by unfold growE; rw [if_neg hs, hv, if_pos hc, hz]
 clear h hx' hm' hk' hn hb hs hv hcb hc hz
 go_enter Try.func14, Try.ntmps14
 go_wp2_with (first
  | (refine wl_boxG (C := EV e) rfl rfl rfl ?_; intro w1 g1 hg1 hb1 he1; have HG1 : Hid (g1 = w.heap.size) := hg1; clear hg1)
  | (have q := hb1; clear q; refine wl_allocG rfl rfl zeroE ?_; intro w2 g2 hg2 hb2 he2; have HT : Hid (Two w w2 g1 g2 _ e e0) := ⟨hb1.ext he2, hb2, he1.trans he2, Nat.le_of_eq HG1.out.symm, (by rw [hg2]; exact hb1.lt)⟩; clear hb1 hb2 he1 he2 hg2 HG1)
  | (have q := HT; clear q; refine wl_load rfl rowE rfl rfl HT.out.a rfl ?_)
  | (go_at_call 16; refine (orFirst_any _ _).mono ?_; rintro y w3 ⟨rfl, he3⟩; rw [hx.out]; replace HT : Hid (Two _ _ _ _ _ _ _) := HT.out.grow he3; clear he3)
  | (go_at_call 21; refine (bounded_any _ _).mono ?_; rintro y w3 ⟨rfl, rfl⟩; first | rw [hm.out] | rw [hk.out])
  | (go_at_call 13; refine (slow_any _ _).mono ?_; rintro y w3 ⟨rfl, he3⟩; rw [hok.out, ds]; have HS : Hid True := trivial; replace HT : Hid (Two _ _ _ _ _ _ _) := HT.out.grow he3; clear he3)
  | (have q := HT; clear q; refine wl_get0 HT.out.a rfl rfl rfl ?_)
  | (have q := HT; clear q; refine wl_get1 HT.out.a rfl rfl rfl ?_)
  | (have q := HT; clear q; refine wl_get2 HT.out.a rfl rfl rfl ?_)
  | (have q := HT; clear q; refine wl_store (D := EV x) rfl rowE rfl rfl rfl HT.out.a rfl rfl (EV.one _) ?_; intro w4 hb4 hk4 hx4; clear hx4; replace HT : Hid (Two _ _ _ _ _ _ _) := HT.out.setA hb4 hk4; clear hb4 hk4)
  | (have q := HT; clear q; refine wl_store rfl rowE rfl rfl rfl HT.out.b rfl rfl (EV.one _) ?_; intro w4 hb4 hk4 hx4; clear hx4; replace HT : Hid (Two _ _ _ _ _ _ _) := HT.out.setB hb4 hk4; clear hb4 hk4)
  | (have q := HT; clear q; refine wl_set0 HT.out.a rfl rfl rfl rfl ?_; intro w4 hb4 hk4; replace HT : Hid (Two _ _ _ _ _ _ _) := HT.out.setA hb4 hk4; clear hb4 hk4)
  | (have q := HT; clear q; refine wl_set2 HT.out.a rfl rfl rfl rfl ?_; intro w4 hb4 hk4; replace HT : Hid (Two _ _ _ _ _ _ _) := HT.out.setA hb4 hk4; clear hb4 hk4)
  | (have q := HS; clear q; refine stop_at 3 rfl ?_))
 refine ⟨?_⟩
 refine wl_minI (k := c) rfl rfl (by first | rfl | go_simp) (by first | rfl | go_simp) (by exact HC.out) ?_
 go_wp2_with (first
  | (refine wl_boxG (C := EV e) rfl rfl rfl ?_; intro w1 g1 hg1 hb1 he1; have HG1 : Hid (g1 = w.heap.size) := hg1; clear hg1)
  | (have q := hb1; clear q; refine wl_allocG rfl rfl zeroE ?_; intro w2 g2 hg2 hb2 he2; have HT : Hid (Two w w2 g1 g2 _ e e0) := ⟨hb1.ext he2, hb2, he1.trans he2, Nat.le_of_eq HG1.out.symm, (by rw [hg2]; exact hb1.lt)⟩; clear hb1 hb2 he1 he2 hg2 HG1)
  | (have q := HT; clear q; refine wl_load rfl rowE rfl rfl HT.out.a rfl ?_)
  | (go_at_call 16; refine (orFirst_any _ _).mono ?_; rintro y w3 ⟨rfl, he3⟩; rw [hx.out]; replace HT : Hid (Two _ _ _ _ _ _ _) := HT.out.grow he3; clear he3)
  | (go_at_call 21; refine (bounded_any _ _).mono ?_; rintro y w3 ⟨rfl, rfl⟩; first | rw [hm.out] | rw [hk.out])
  | (go_at_call 13; refine (slow_any _ _).mono ?_; rintro y w3 ⟨rfl, he3⟩; rw [hok.out, ds]; have HS : Hid True := trivial; replace HT : Hid (Two _ _ _ _ _ _ _) := HT.out.grow he3; clear he3)
  | (have q := HT; clear q; refine wl_get0 HT.out.a rfl rfl rfl ?_)
  | (have q := HT; clear q; refine wl_get1 HT.out.a rfl rfl rfl ?_)
  | (have q := HT; clear q; refine wl_get2 HT.out.a rfl rfl rfl ?_)
  | (have q := HT; clear q; refine wl_store (D := EV x) rfl rowE rfl rfl rfl HT.out.a rfl rfl (EV.one _) ?_; intro w4 hb4 hk4 hx4; clear hx4; replace HT : Hid (Two _ _ _ _ _ _ _) := HT.out.setA hb4 hk4; clear hb4 hk4)
  | (have q := HT; clear q; refine wl_store rfl rowE rfl rfl rfl HT.out.b rfl rfl (EV.one _) ?_; intro w4 hb4 hk4 hx4; clear hx4; replace HT : Hid (Two _ _ _ _ _ _ _) := HT.out.setB hb4 hk4; clear hb4 hk4)
  | (have q := HT; clear q; refine wl_set0 HT.out.a rfl rfl rfl rfl ?_; intro w4 hb4 hk4; replace HT : Hid (Two _ _ _ _ _ _ _) := HT.out.setA hb4 hk4; clear hb4 hk4)
  | (have q := HF; clear q; have q := HT; clear q; refine wl_set2 HT.out.a rfl rfl rfl rfl ?_; intro w4 hb4 hk4; replace HT : Hid (Two _ _ _ _ _ _ _) := HT.out.setA hb4 hk4; clear hb4 hk4; have HS2 : Hid True := trivial)
  | (have q := HT; clear q; refine wl_set2 HT.out.a rfl rfl rfl rfl ?_; intro w4 hb4 hk4; replace HT : Hid (Two _ _ _ _ _ _ _) := HT.out.setA hb4 hk4; clear hb4 hk4; have HF : Hid True := trivial)
  | (have q := HS2; clear q; refine stop_at 3 rfl ?_))
 refine ⟨?_⟩
 refine wl_minI (k := z) rfl rfl (by first | rfl | go_simp) (by first | rfl | go_simp) (by exact HZ.out) ?_
 go_wp2_with (first
  | (refine wl_boxG (C := EV e) rfl rfl rfl ?_; intro w1 g1 hg1 hb1 he1; have HG1 : Hid (g1 = w.heap.size) := hg1; clear hg1)
  | (have q := hb1; clear q; refine wl_allocG rfl rfl zeroE ?_; intro w2 g2 hg2 hb2 he2; have HT : Hid (Two w w2 g1 g2 _ e e0) := ⟨hb1.ext he2, hb2, he1.trans he2, Nat.le_of_eq HG1.out.symm, (by rw [hg2]; exact hb1.lt)⟩; clear hb1 hb2 he1 he2 hg2 HG1)
  | (have q := HT; clear q; refine wl_load rfl rowE rfl rfl HT.out.a rfl ?_)
  | (go_at_call 16; refine (orFirst_any _ _).mono ?_; rintro y w3 ⟨rfl, he3⟩; rw [hx.out]; replace HT : Hid (Two _ _ _ _ _ _ _) := HT.out.grow he3; clear he3)
  | (go_at_call 21; refine (bounded_any _ _).mono ?_; rintro y w3 ⟨rfl, rfl⟩; first | rw [hm.out] | rw [hk.out])
  | (go_at_call 13; refine (slow_any _ _).mono ?_; rintro y w3 ⟨rfl, he3⟩; rw [hok.out, ds]; have HS : Hid True := trivial; replace HT : Hid (Two _ _ _ _ _ _ _) := HT.out.grow he3; clear he3)
  | (have q := HT; clear q; refine wl_get0 HT.out.a rfl rfl rfl ?_)
  | (have q := HT; clear q; refine wl_get1 HT.out.a rfl rfl rfl ?_)
  | (have q := HT; clear q; refine wl_get2 HT.out.a rfl rfl rfl ?_)
  | (have q := HT; clear q; refine wl_store (D := EV x) rfl rowE rfl rfl rfl HT.out.a rfl rfl (EV.one _) ?_; intro w4 hb4 hk4 hx4; clear hx4; replace HT : Hid (Two _ _ _ _ _ _ _) := HT.out.setA hb4 hk4; clear hb4 hk4)
  | (have q := HT; clear q; refine wl_store rfl rowE rfl rfl rfl HT.out.b rfl rfl (EV.one _) ?_; intro w4 hb4 hk4 hx4; clear hx4; replace HT : Hid (Two _ _ _ _ _ _ _) := HT.out.setB hb4 hk4; clear hb4 hk4)
  | (have q := HT; clear q; refine wl_set0 HT.out.a rfl rfl rfl rfl ?_; intro w4 hb4 hk4; replace HT : Hid (Two _ _ _ _ _ _ _) := HT.out.setA hb4 hk4; clear hb4 hk4)
  | (have q := HT; clear q; refine wl_set2 HT.out.a rfl rfl rfl rfl ?_; intro w4 hb4 hk4; replace HT : Hid (Two _ _ _ _ _ _ _) := HT.out.setA hb4 hk4; clear hb4 hk4))
 refine bodyPost_ret (results_cell_row (fn := Try.f14) (p := 6) rfl _ _ _ _ _ (0, 0) _ rfl HT.out.b Try.underlying25 rfl (by kernel_rfl)) rfl ?_
 exact ⟨by rw [HG.out], HT.out.ext⟩
theorem acked_any (e : E) (n f : Int) (w : World) : Calls Try.prog 14 #[.agg (EV e), .int .i64 n, .int .i64 f] w fun x w' => x = .returned (.agg (EV (ackedE e n f))) ∧ Ext w w' := by
 unfold ackedE
 by_cases h : bdI f < (okE e).sz
 ·
  rw [if_pos h]; exact acked_0 e n f w h
 ·
  rw [if_neg h]
  by_cases hs : (okE e).sz ≤ (okE e).th
  ·
   exact acked_1 e n f w h hs
  ·
   by_cases hc : (if 2147483648 < (okE e).ct + bdI n then 2147483648 else (okE e).ct + bdI n) ≥ (okE e).sz
   ·
    exact acked_3 e n f w h hs hc
   ·
    exact acked_2 e n f w h hs hc
end Cw
end Go.Proofs.Ytkfohggdaooieaa
/- Windows compared; windows in own blocks, one behind the other; the chapter's example. No condition of its own. -/
namespace Go.Proofs.Ytkfohggdaooieaa
namespace Cw
open Go Go.RowKit
set_option maxRecDepth 100000
/-- A type of three whole numbers. -/
structure WinEq (t : TypeId) : Prop where
 u : Try.prog.underlying t = some (.struct (Try.prog.fieldsOf t))
 gd : Try.prog.eqGuardType Try.prog.depth t = false
 hd : Try.prog.stoodInHeld t = false
 fo : (Try.prog.fieldsOf t).toList.map (fun f => f.offset) = [0, 1, 2]
 fa : (Try.prog.fieldsOf t).toList.map (fun f => decide (f.name = "_")) = [false, false, false]
 fy : (Try.prog.fieldsOf t).toList.map (fun f => f.type) = [3, 3, 3]
theorem three_of {α : Type} : ∀ {L : List α}, L.length = 3 → ∃ f g h, L = [f, g, h]
 | [f, g, h], _ => ⟨f, g, h, rfl⟩
 | [], h => by cases h
 | [_], h => by cases h
 | [_, _], h => by cases h
 | _ :: _ :: _ :: _ :: _, h => by simp at h
def sameE (x y : E) : Bool := x.sz == y.sz && x.th == y.th && x.ct == y.ct
theorem sameE_self (x : E) : sameE x x = true := by simp [sameE]
set_option maxHeartbeats 4000000 in
theorem equal_win {t : TypeId} (hT : WinEq t) (w : World) (x y : E) :
  (Op.equal t (.agg (EV x)) (.agg (EV y))).run Try.prog w = .ok (sameE x y) w := by
 show (Op.equalIn (9999 + 1) t _ _).run Try.prog w = _
 unfold EV
 rw [run_equalIn_struct w 9999 t _ _ hT.u hT.hd]
 have h1 := hT.fo
 have h2 := hT.fa
 have h3 := hT.fy
 clear hT
 generalize (Try.prog.fieldsOf t).toList = L at *
 have hl : L.length = 3 := by simpa using congrArg List.length h1
 obtain ⟨f, g, h, rfl⟩ := three_of hl
 clear hl
 simp only [List.map_cons, List.map_nil, List.cons.injEq, and_true] at h1 h2 h3
 obtain ⟨f1, g1, i1⟩ := h1
 have f2 : f.name ≠ "_" := of_decide_eq_false h2.1
 have g2 : g.name ≠ "_" := of_decide_eq_false h2.2.1
 have i2 : h.name ≠ "_" := of_decide_eq_false h2.2.2
 obtain ⟨f3, g3, i3⟩ := h3
 have u3 := Try.underlying3
 have s3 : (Try.prog.info? 3).map (·.size) = some 1 := by kernel_rfl
 cases hq3 : Try.prog.info? 3 with
 | none => simp [hq3] at s3
 | some i =>
  have hi : i.size = 1 := by simpa [hq3] using s3
  have ha3 : (isAgg 3).run Try.prog w = .ok false w := by unfold isAgg; rw [Sem.run_bind, run_underlying u3 w]; rfl
  simp [Op.eqFields, f1, f2, f3, g1, g2, g3, i1, i2, i3, part, sizeOf, typeInfo, hq3, hi, ha3, go_sem, run_equalIn_int w 9998 3 .i64 .i64 _ _ u3]
  unfold sameE
  by_cases e1 : x.sz = y.sz
  ·
   by_cases e2 : x.th = y.th
   ·
    by_cases e3 : x.ct = y.ct
    ·
     simp [e1, e2, e3]
    ·
     simp [e1, e2, e3, beq_false_of_ne e3]
   ·
    simp [e1, e2, beq_false_of_ne e2]
  ·
   simp [e1, beq_false_of_ne e1]
theorem exec_eqlS {t : TypeId} (hT : WinEq t) {r : Operand → Value} {o : Oper} {x y : Operand} {ty : TypeId} {w : World} (ho : o.op = .binOp .eql t x y ty) {a b : E} (hx : r x = .agg (EV a)) (hy : r y = .agg (EV b)) :
  (execOp r o).run Try.prog w = .ok (.value (.bool (sameE a b))) w := by
 simp [execOp, ho, hx, hy, binOp, eqGuard, hT.gd, go_sem, equal_win hT]
theorem weE : WinEq 25 := ⟨by kernel_rfl, by kernel_rfl, by kernel_rfl, by kernel_rfl, by kernel_rfl, by kernel_rfl⟩
theorem weR : WinEq 23 := ⟨by kernel_rfl, by kernel_rfl, by kernel_rfl, by kernel_rfl, by kernel_rfl, by kernel_rfl⟩
/-- Windows in blocks of the own: the newest first. -/
def Bs (w0 w : World) (L : List (Nat × E × Nat)) : Prop := Ext w0 w ∧ (∀ p, p ∈ L → Blk w p.1 (EV p.2.1) p.2.2 ∧ w0.heap.size ≤ p.1) ∧ L.Pairwise (fun a b => b.1 < a.1)
theorem Bs.nil {w0 w : World} (h : Ext w0 w) : Bs w0 w [] := ⟨h, fun _ hp => (by cases hp), List.Pairwise.nil⟩
theorem Bs.at {w0 w : World} {L : List (Nat × E × Nat)} (h : Bs w0 w L) (i : Nat) {g T : Nat} {x : E} (hp : L[i]? = some (g, x, T)) : Blk w g (EV x) T := (h.2.1 (g, x, T) (List.mem_of_getElem? hp)).1
theorem Bs.grow {w0 w w' : World} {L : List (Nat × E × Nat)} (h : Bs w0 w L) (he : Ext w w') : Bs w0 w' L := ⟨h.1.trans he, fun p hp => ⟨(h.2.1 p hp).1.ext he, (h.2.1 p hp).2⟩, h.2.2⟩
theorem Bs.put {w0 w w' : World} {L : List (Nat × E × Nat)} {z : E} {T : Nat} (h : Bs w0 w L) (he : Ext w w') (hb : Blk w' w.heap.size (EV z) T) : Bs w0 w' ((w.heap.size, z, T) :: L) := by
 refine ⟨h.1.trans he, fun p hp => ?_, List.Pairwise.cons (fun p hp => (h.2.1 p hp).1.lt) h.2.2⟩
 rcases List.mem_cons.1 hp with rfl | hp
 ·
  exact ⟨hb, h.1.size⟩
 ·
  exact ⟨(h.2.1 p hp).1.ext he, (h.2.1 p hp).2⟩
theorem Bs.set {w0 w w' : World} {L : List (Nat × E × Nat)} {g T : Nat} {z y : E} (h : Bs w0 w ((g, z, T) :: L)) (hb : Blk w' g (EV y) T) (hk : KeepBut (· = g) w w') : Bs w0 w' ((g, y, T) :: L) := by
 have hg := (h.2.1 _ List.mem_cons_self).2
 have hp := List.pairwise_cons.1 h.2.2
 refine ⟨h.1.of_but hk (fun q e => by subst e; exact hg), fun p hq => ?_, List.Pairwise.cons hp.1 hp.2⟩
 rcases List.mem_cons.1 hq with rfl | hq
 ·
  exact ⟨hb, hg⟩
 ·
  have := h.2.1 p (List.mem_cons_of_mem _ hq)
  exact ⟨this.1.but hk (Nat.ne_of_lt (hp.1 p hq)), this.2⟩
theorem acked1 : ackedE eF 100 512 = ⟨612, 2000, 0⟩ := by kernel_rfl
set_option maxHeartbeats 4000000 in
theorem alive_any (w : World) : Calls Try.prog 5 #[] w fun e w' => e = .returned (.bool true) ∧ Ext w w' := by
 go_enter Try.func5, Try.ntmps5
 go_wp2_with (first
  | (go_at_call 15; refine (first_any _).mono ?_; rintro y w1 ⟨rfl, he1⟩)
  | (go_at_call 14; refine (acked_any _ _ _ _).mono ?_; rintro y w2 ⟨rfl, he2⟩; rw [acked1])
  | (refine stop_at 3 rfl ?_))
 refine ⟨?_⟩
 refine wl_build rfl rfl (by first | rfl | go_simp) (built2 612 2000) ?_
 refine wpList_of_run rfl (exec_eqlS (a := ⟨612, 2000, 0⟩) (b := ⟨612, 2000, 0⟩) weE rfl (by first | rfl | go_simp) (by first | rfl | go_simp)) ?_
 rw [sameE_self]
 go_wp2
 go_ret
 exact ⟨rfl, he1.trans he2⟩
end Cw
end Go.Proofs.Ytkfohggdaooieaa
