/- For any estimate and any answer the law RtoTook answers true and leaves its arguments as they were: what an estimate comes to by an answer, or when nothing came, is what the document says. Conditions: none. -/
import Derived.Test.YtdjijipbfiofmaaTa2
import Derived.Laws.StructEq
import Derived.Lib.SmallJoins
import Derived.Test.YtdjijipbfiofmaaRows
import Derived.WalkKit
import Derived.ProofKit
import Derived.OpenShut
import Derived.ShutString
import Derived.ChangeOld
import Derived.Below
set_option linter.unusedVariables false
set_option linter.unusedSimpArgs false
/- Estimates compared. No condition of its own. -/
namespace Go.Proofs.Ytdjijipbfiofmaa
namespace Rto
open Go Go.RowKit
set_option maxRecDepth 100000
/-- A type of three whole numbers and a truth. -/
structure EstEq (t : TypeId) : Prop where
 u : Try.prog.underlying t = some (.struct (Try.prog.fieldsOf t))
 gd : Try.prog.eqGuardType Try.prog.depth t = false
 hd : Try.prog.stoodInHeld t = false
 fo : (Try.prog.fieldsOf t).toList.map (fun f => f.offset) = [0, 1, 2, 3]
 fa : (Try.prog.fieldsOf t).toList.map (fun f => decide (f.name = "_")) = [false, false, false, false]
 fy : (Try.prog.fieldsOf t).toList.map (fun f => f.type) = [3, 3, 3, 4]
theorem four_of {α : Type} : ∀ {L : List α}, L.length = 4 → ∃ f g h k, L = [f, g, h, k]
 | [f, g, h, k], _ => ⟨f, g, h, k, rfl⟩
 | [], h => by cases h
 | [_], h => by cases h
 | [_, _], h => by cases h
 | [_, _, _], h => by cases h
 | _ :: _ :: _ :: _ :: _ :: _, h => by simp at h
def sameE (x y : E) : Bool := x.sm == y.sm && x.sp == y.sp && x.wt == y.wt && x.me == y.me
theorem sameE_self (x : E) : sameE x x = true := by simp [sameE]
set_option maxHeartbeats 4000000 in
theorem equal_est {t : TypeId} (hT : EstEq t) (w : World) (x y : E) :
  (Op.equal t (.agg (EV x)) (.agg (EV y))).run Try.prog w = .ok (sameE x y) w := by
 show (Op.equalIn (9999 + 1) t _ _).run Try.prog w = _
 unfold EV
 rw [run_equalIn_struct w 9999 t _ _ hT.u hT.hd]
 have h1 := hT.fo
 have h2 := hT.fa
 have h3 := hT.fy
 clear hT
 generalize (Try.prog.fieldsOf t).toList = L at *
 have hl : L.length = 4 := by simpa using congrArg List.length h1
 obtain ⟨f, g, h, k, rfl⟩ := four_of hl
 clear hl
 simp only [List.map_cons, List.map_nil, List.cons.injEq, and_true] at h1 h2 h3
 obtain ⟨f1, g1, i1, k1⟩ := h1
 have f2 : f.name ≠ "_" := of_decide_eq_false h2.1
 have g2 : g.name ≠ "_" := of_decide_eq_false h2.2.1
 have i2 : h.name ≠ "_" := of_decide_eq_false h2.2.2.1
 have k2 : k.name ≠ "_" := of_decide_eq_false h2.2.2.2
 obtain ⟨f3, g3, i3, k3⟩ := h3
 have u3 := Try.underlying3
 have u4 := Try.underlying4
 have s3 : (Try.prog.info? 3).map (·.size) = some 1 := by kernel_rfl
 have s4 : (Try.prog.info? 4).map (·.size) = some 1 := by kernel_rfl
 cases hq3 : Try.prog.info? 3 with
 | none => simp [hq3] at s3
 | some i =>
  cases hq4 : Try.prog.info? 4 with
  | none => simp [hq4] at s4
  | some j =>
   have hi : i.size = 1 := by simpa [hq3] using s3
   have hj : j.size = 1 := by simpa [hq4] using s4
   have ha3 : (isAgg 3).run Try.prog w = .ok false w := by unfold isAgg; rw [Sem.run_bind, run_underlying u3 w]; rfl
   have ha4 : (isAgg 4).run Try.prog w = .ok false w := by unfold isAgg; rw [Sem.run_bind, run_underlying u4 w]; rfl
   simp [Op.eqFields, f1, f2, f3, g1, g2, g3, i1, i2, i3, k1, k2, k3, part, sizeOf, typeInfo, hq3, hq4, hi, hj, ha3, ha4, go_sem, run_equalIn_int w 9998 3 .i64 .i64 _ _ u3, run_equalIn_bool w 9998 4 _ _ u4]
   unfold sameE
   by_cases e1 : x.sm = y.sm
   ·
    by_cases e2 : x.sp = y.sp
    ·
     by_cases e3 : x.wt = y.wt
     ·
      simp [e1, e2, e3]
      cases x.me <;> cases y.me <;> rfl
     ·
      simp [e1, e2, e3, beq_false_of_ne e3]
    ·
     simp [e1, e2, beq_false_of_ne e2]
   ·
    simp [e1, beq_false_of_ne e1]
theorem exec_neqS {t : TypeId} (hT : EstEq t) {r : Operand → Value} {o : Oper} {x y : Operand} {ty : TypeId} {w : World} (ho : o.op = .binOp .neq t x y ty) {a b : E} (hx : r x = .agg (EV a)) (hy : r y = .agg (EV b)) :
  (execOp r o).run Try.prog w = .ok (.value (.bool (!sameE a b))) w := by
 simp [execOp, ho, hx, hy, binOp, eqGuard, hT.gd, go_sem, equal_est hT]
theorem exec_eqlS {t : TypeId} (hT : EstEq t) {r : Operand → Value} {o : Oper} {x y : Operand} {ty : TypeId} {w : World} (ho : o.op = .binOp .eql t x y ty) {a b : E} (hx : r x = .agg (EV a)) (hy : r y = .agg (EV b)) :
  (execOp r o).run Try.prog w = .ok (.value (.bool (sameE a b))) w := by
 simp [execOp, ho, hx, hy, binOp, eqGuard, hT.gd, go_sem, equal_est hT]
theorem esE : EstEq 25 := ⟨by kernel_rfl, by kernel_rfl, by kernel_rfl, by kernel_rfl, by kernel_rfl, by kernel_rfl⟩
theorem esR : EstEq 23 := ⟨by kernel_rfl, by kernel_rfl, by kernel_rfl, by kernel_rfl, by kernel_rfl, by kernel_rfl⟩
end Rto
end Go.Proofs.Ytdjijipbfiofmaa
/- The chapter's example: it holds. No condition of its own. -/
namespace Go.Proofs.Ytdjijipbfiofmaa
namespace Rto
open Go Go.RowKit
set_option maxRecDepth 100000
theorem took1 : tookV eF 8 = ⟨64, 16, 24, true⟩ ∧ tookN eF 8 = 0 := ⟨by kernel_rfl, by kernel_rfl⟩
theorem took2 : tookV ⟨64, 16, 24, true⟩ 8 = ⟨64, 12, 20, true⟩ ∧ tookN ⟨64, 16, 24, true⟩ 8 = 0 := ⟨by kernel_rfl, by kernel_rfl⟩
theorem exec_buildc {r : Operand → Value} {o : Oper} {w : World} {t : TypeId} {parts : Array (Nat × Operand)} {vals : List (Nat × Value)} {cells : Array Value} (ho : o.op = .build t parts) (hv : (parts.map fun (i, x) => (i, r x)).toList = vals) (hc : Try.prog.built t vals = some cells) : (execOp r o).run Try.prog w = .ok (.value (.agg cells)) w := by
 have := run_build (P := Try.prog) w t (parts.map fun (i, x) => (i, r x)) cells (by rw [hv]; exact hc)
 simp [execOp, ho, this]
theorem built64 : Try.prog.built 25 [(0, .int .i64 64), (1, .int .i64 16), (2, .int .i64 24), (3, .bool true)] = some (EV ⟨64, 16, 24, true⟩) := by kernel_rfl
set_option maxHeartbeats 8000000 in
theorem alive_any (w : World) : Calls Try.prog 7 #[] w fun e w' => e = .returned (.bool true) ∧ Ext w w' := by
 go_enter Try.func7, Try.ntmps7
 go_wp2_with (first
  | (have q := HB1; clear q; refine stop_at 21 rfl ?_)
  | (go_at_call 14; refine (first_any _).mono ?_; rintro e w1 ⟨rfl, he1⟩)
  | (have q := HA1; clear q; go_at_call 8; refine (took_any _ _ _).mono ?_; rintro e w5 ⟨rfl, he5⟩; rw [took2.1, took2.2]; have HA2 : Hid (Blk w5 _ (EV ⟨64, 16, 24, true⟩) _ ∧ Ext w w5) := ⟨HA1.out.1.ext he5, HA1.out.2.trans he5⟩; clear HA1 he5)
  | (go_at_call 8; refine (took_any _ _ _).mono ?_; rintro e w2 ⟨rfl, he2⟩; rw [took1.1, took1.2]; have HW : Hid (Ext w w2) := he1.trans he2; clear he1 he2)
  | (have q := HA1; clear q; refine wl_load rfl rowE rfl rfl HA1.out.1 rfl ?_)
  | (have q := HA2; clear q; refine wl_alloc rfl rfl zeroE ?_; intro w6 hb6 he6 hx6; have HA3 : Hid (Blk w6 _ (EV ⟨64, 16, 24, true⟩) _ ∧ Ext w w6 ∧ _ ≠ w5.heap.size ∧ w.heap.size ≤ w5.heap.size) := ⟨HA2.out.1.ext he6, HA2.out.2.trans he6, Nat.ne_of_lt HA2.out.1.lt, HA2.out.2.size⟩; clear HA2 he6 hx6)
  | (refine wl_alloc rfl rfl zeroE ?_; intro w3 hb3 he3 hx3; clear hx3)
  | (have q := HA3; clear q; refine wl_store (D := EV ⟨64, 12, 20, true⟩) rfl rowE rfl rfl rfl hb6 rfl rfl (EV.one _) ?_; intro w7 hb7 hk7 hx7; clear hx7; have HB1 : Hid (Blk w7 _ (EV ⟨64, 16, 24, true⟩) _ ∧ Blk w7 w5.heap.size (EV ⟨64, 12, 20, true⟩) _ ∧ Ext w w7) := ⟨HA3.out.1.but hk7 HA3.out.2.2.1, hb7, HA3.out.2.1.of_but hk7 (fun q e => by subst e; exact HA3.out.2.2.2)⟩; clear HA3 hb6 hb7 hk7)
  | (refine wl_store (D := EV ⟨64, 16, 24, true⟩) rfl rowE rfl rfl rfl hb3 rfl rfl (EV.one _) ?_; intro w4 hb4 hk4 hx4; clear hx4; have HA1 : Hid (Blk w4 _ (EV ⟨64, 16, 24, true⟩) _ ∧ Ext w w4) := ⟨hb4, (HW.out.trans he3).of_but hk4 (fun q e => by subst e; exact HW.out.size)⟩; clear hb3 hb4 hk4 he3 HW))
 refine ⟨?_⟩
 refine wpList_line 1 (fun t => bif Nat.ble 15 t && Nat.ble t 35 then some (t - 15) else bif Nat.beq t 0 then some 21 else none) 36 Ext
  [Is (.nilIface),
   Is (.bool true),
   Is (.bool true),
   Under ((true)) (.nilIface),
   Under ((true)) (.bool true),
   Is (.bool (true && (true))),
   Is (.bool (true && (true))),
   Under (((true && (true)))) (.agg (EV ⟨64, 16, 24, true⟩)),
   Under (((true && (true)))) (.agg (EV ⟨64, 16, 24, true⟩)),
   Under (((true && (true)))) (.bool true),
   Is (.bool ((true && (true)) && (true))),
   Is (.bool ((true && (true)) && (true))),
   Under ((((true && (true)) && (true)))) (.pointer (some ⟨w5.heap.size, 1, none⟩)),
   Under ((((true && (true)) && (true)))) (.int .i64 12),
   Under ((((true && (true)) && (true)))) (.bool ((12 : Int) == (12 : Int))),
   Is (.bool (((true && (true)) && (true)) && (((12 : Int) == (12 : Int))))),
   Is (.bool (((true && (true)) && (true)) && (((12 : Int) == (12 : Int))))),
   Under (((((true && (true)) && (true)) && (((12 : Int) == (12 : Int)))))) (.pointer (some ⟨w5.heap.size, 2, none⟩)),
   Under (((((true && (true)) && (true)) && (((12 : Int) == (12 : Int)))))) (.int .i64 20),
   Under (((((true && (true)) && (true)) && (((12 : Int) == (12 : Int)))))) (.bool ((20 : Int) == (20 : Int))),
   Is (.bool ((((true && (true)) && (true)) && (((12 : Int) == (12 : Int)))) && (((20 : Int) == (20 : Int))))),
   Is (.bool ((((true && (true)) && (true)) && (((12 : Int) == (12 : Int)))) && (((20 : Int) == (20 : Int)))))]
  rfl (by kernel_rfl) rfl Ext.refl (fun _ _ _ => Ext.trans) (Ks (Ks (Ks (Ku (Ku (Ks (Ks (Ku (Ku (Ku (Ks (Ks (Ku (Ku (Ku (Ks (Ks (Ku (Ku (Ku (Ks (Ks (KeepAll.nil))))))))))))))))))))))) ?_ ?_ ?_
 ·
  intro i o hi ho
  by_cases hi0 : i = 0
  ·
   subst hi0; cases ho; exact ⟨_, fun d hd => by cases hd; rfl, rfl⟩
  exact absurd hi (by omega)
 ·
  refine goodFrom 1 ?_
  refine Gc (ln2 (gd0 rfl) rfl (ouI rfl) (fun _ _ h _ => h) (fun _ _ h _ => h) (fun r wx hR h1 h2 => exec_eqlV 0 rfl h1 h2)) ?_
  refine Gc (ln1 (gd0 rfl) rfl (ouI rfl) (fun _ _ h _ => h) (fun r wx hR h1 => exec_mv (.inl rfl) h1)) ?_
  refine Gc (ln1 (gdU rfl (fun _ _ h => h) (want_t _)) rfl (ouU rfl) (fun _ _ h _ => h) (fun r wx hR h1 => exec_mv (.inl rfl) h1)) ?_
  refine Gc (ln2 (gdU rfl (fun _ _ h => h) (want_t _)) rfl (ouU rfl) (fun _ _ h c => Eq.trans h (if_pos c)) (fun _ _ h _ => h) (fun r wx hR h1 h2 => exec_eqlV 0 rfl h1 h2)) ?_
  refine Gc (lnA (gd0 rfl) rfl (ouI rfl) (fun _ _ h _ => h) (fun _ _ h c hb => Eq.trans h (if_pos (by first | exact hb | (rw [hb]; rfl) | (rw [c, hb]; rfl))))) ?_
  refine Gc (ln1 (gd0 rfl) rfl (ouI rfl) (fun _ _ h _ => h) (fun r wx hR h1 => exec_mv (.inl rfl) h1)) ?_
  refine Gc (ln1 (gdU rfl (fun _ _ h => h) (want_t _)) rfl (ouU rfl) (fun _ _ h _ => h) (fun r wx hR h1 => exec_loadW rowE rfl h1 (HB1.out.1.ext hR) rfl)) ?_
  refine Gc ?_ ?_
  ·
   rintro r wx hR ⟨h1, h2, h3, h4, _⟩
   replace h1 : r (.const (.int .i64 64)) = .int .i64 64 := h1
   replace h2 : r (.const (.int .i64 16)) = .int .i64 16 := h2
   replace h3 : r (.const (.int .i64 24)) = .int .i64 24 := h3
   replace h4 : r (.const (.bool true)) = .bool true := h4
   intro gb hgb
   refine guard_u (C := ((true && (true)))) (b := (true && (true))) (want := true) hgb (want_t _) (fun hc => ?_) (fun hc => un_ hc)
   exact gvo (exec_buildc (vals := _) rfl (by simp [h1, h2, h3, h4]) built64) ⟨Ext.refl _, uy hc⟩
  refine Gc (ln2 (gdU rfl (fun _ _ h => h) (want_t _)) rfl (ouU rfl) (fun _ _ h c => Eq.trans h (if_pos c)) (fun _ _ h c => Eq.trans h (if_pos c)) (fun r wx hR h1 h2 => exec_eqlS (a := ⟨64, 16, 24, true⟩) (b := ⟨64, 16, 24, true⟩) esE rfl h1 h2)) ?_
  refine Gc (lnA (gd0 rfl) rfl (ouI rfl) (fun _ _ h _ => h) (fun _ _ h c hb => Eq.trans h (if_pos (by first | exact hb | (rw [hb]; rfl) | (rw [c, hb]; rfl))))) ?_
  refine Gc (ln1 (gd0 rfl) rfl (ouI rfl) (fun _ _ h _ => h) (fun r wx hR h1 => exec_mv (.inl rfl) h1)) ?_
  refine Gc (ln1 (gdU rfl (fun _ _ h => h) (want_t _)) rfl (ouU rfl) (fun _ _ h _ => h) (fun r wx hR h1 => by simp [execOp, h1, go_sem])) ?_
  refine Gc (ln1 (gdU rfl (fun _ _ h => h) (want_t _)) rfl (ouU rfl) (fun _ _ h c => Eq.trans h (if_pos c)) (fun r wx hR h1 => exg one3 rfl h1 (ev1 (HB1.out.2.1.ext hR)))) ?_
  refine Gc (ln2 (gdU rfl (fun _ _ h => h) (want_t _)) rfl (ouU rfl) (fun _ _ h c => Eq.trans h (if_pos c)) (fun _ _ h _ => h) (fun r wx hR h1 h2 => by simp [execOp, h1, h2, go_sem])) ?_
  refine Gc (lnA (gd0 rfl) rfl (ouI rfl) (fun _ _ h _ => h) (fun _ _ h c hb => Eq.trans h (if_pos (by first | exact hb | (rw [hb]; rfl) | (rw [c, hb]; rfl))))) ?_
  refine Gc (ln1 (gd0 rfl) rfl (ouI rfl) (fun _ _ h _ => h) (fun r wx hR h1 => exec_mv (.inl rfl) h1)) ?_
  refine Gc (ln1 (gdU rfl (fun _ _ h => h) (want_t _)) rfl (ouU rfl) (fun _ _ h _ => h) (fun r wx hR h1 => by simp [execOp, h1, go_sem])) ?_
  refine Gc (ln1 (gdU rfl (fun _ _ h => h) (want_t _)) rfl (ouU rfl) (fun _ _ h c => Eq.trans h (if_pos c)) (fun r wx hR h1 => exg one3 rfl h1 (ev2 (HB1.out.2.1.ext hR)))) ?_
  refine Gc (ln2 (gdU rfl (fun _ _ h => h) (want_t _)) rfl (ouU rfl) (fun _ _ h c => Eq.trans h (if_pos c)) (fun _ _ h _ => h) (fun r wx hR h1 h2 => by simp [execOp, h1, h2, go_sem])) ?_
  refine Gc (lnA (gd0 rfl) rfl (ouI rfl) (fun _ _ h _ => h) (fun _ _ h c hb => Eq.trans h (if_pos (by first | exact hb | (rw [hb]; rfl) | (rw [c, hb]; rfl))))) ?_
  refine Gc (ln1 (gd0 rfl) rfl (ouI rfl) (fun _ _ h _ => h) (fun r wx hR h1 => exec_mv (.inr rfl) h1)) ?_
  exact GoodAll.nil
 ·
  intro vs wE aE hR hold haE
  have hv : vs 21 = .bool ((((true && (true)) && (true)) && (((12 : Int) == (12 : Int)))) && (((20 : Int) == (20 : Int)))) := hold.at 21
  refine ‹∀ (a : Act) (w : World), Code.wp Try.prog Code.ret _ a w → _› _ _ ?_
  refine wp_ret ?_
  have hs : aE.tmps[0]? = some (.bool ((((true && (true)) && (true)) && (((12 : Int) == (12 : Int)))) && (((20 : Int) == (20 : Int))))) := by rw [haE, ← hv]; kernel_rfl
  have hdf : aE.defers = [] := by rw [haE]; exact putAll_defers _ _ _ _
  clear haE
  try unfold Exit.then
  try unfold Exit.inBlock
  try dsimp only
  refine bodyPost_ret (v := .bool ((((true && (true)) && (true)) && (((12 : Int) == (12 : Int)))) && (((20 : Int) == (20 : Int))))) ?_ hdf ⟨rfl, HB1.out.2.2.trans hR⟩
  simp [results, Try.results7, go_sem, hs]
end Rto
end Go.Proofs.Ytdjijipbfiofmaa
/- Estimates in own blocks, one behind the other. No condition of its own. -/
namespace Go.Proofs.Ytdjijipbfiofmaa
namespace Rto
open Go Go.RowKit
set_option maxRecDepth 100000
/-- Estimates in blocks of the own: the newest first. -/
def Bs (w0 w : World) (L : List (Nat × E × Nat)) : Prop := Ext w0 w ∧ (∀ p, p ∈ L → Blk w p.1 (EV p.2.1) p.2.2 ∧ w0.heap.size ≤ p.1) ∧ L.Pairwise (fun a b => b.1 < a.1)
theorem Bs.nil {w0 w : World} (h : Ext w0 w) : Bs w0 w [] := ⟨h, fun _ hp => (by cases hp), List.Pairwise.nil⟩
theorem Bs.at {w0 w : World} {L : List (Nat × E × Nat)} (h : Bs w0 w L) (i : Nat) {g T : Nat} {x : E} (hp : L[i]? = some (g, x, T)) : Blk w g (EV x) T := (h.2.1 (g, x, T) (List.mem_of_getElem? hp)).1
theorem Bs.grow {w0 w w' : World} {L : List (Nat × E × Nat)} (h : Bs w0 w L) (he : Ext w w') : Bs w0 w' L := ⟨h.1.trans he, fun p hp => ⟨(h.2.1 p hp).1.ext he, (h.2.1 p hp).2⟩, h.2.2⟩
theorem Bs.put {w0 w w' : World} {L : List (Nat × E × Nat)} {z : E} {T : Nat} (h : Bs w0 w L) (he : Ext w w') (hb : Blk w' w.heap.size (EV z) T) : Bs w0 w' ((w.heap.size, z, T) :: L) := by
 refine ⟨h.1.trans he, fun p hp => ?_, List.Pairwise.cons (fun p hp => (h.2.1 p hp).1.lt) h.2.2⟩
 rcases List.mem_cons.1 hp with rfl | hp
 ·
  exact ⟨hb, h.1.size⟩
 ·
  exact ⟨(h.2.1 p hp).1.ext he, (h.2.1 p hp).2⟩
theorem Bs.set {w0 w w' : World} {L : List (Nat × E × Nat)} {g T : Nat} {z y : E} (h : Bs w0 w ((g, z, T) :: L)) (hb : Blk w' g (EV y) T) (hk : KeepBut (· = g) w w') : Bs w0 w' ((g, y, T) :: L) := by
 have hg := (h.2.1 _ List.mem_cons_self).2
 have hp := List.pairwise_cons.1 h.2.2
 refine ⟨h.1.of_but hk (fun q e => by subst e; exact hg), fun p hq => ?_, List.Pairwise.cons hp.1 hp.2⟩
 rcases List.mem_cons.1 hq with rfl | hq
 ·
  exact ⟨hb, hg⟩
 ·
  have := h.2.1 p (List.mem_cons_of_mem _ hq)
  exact ⟨this.1.but hk (Nat.ne_of_lt (hp.1 p hq)), this.2⟩
end Rto
end Go.Proofs.Ytdjijipbfiofmaa
/- The law RtoTook walked: it answers true; an answer is taken. No condition of its own. -/
namespace Go.Proofs.Ytdjijipbfiofmaa
namespace Rto
open Go Go.RowKit
set_option maxRecDepth 100000
set_option maxHeartbeats 16000000 in
theorem took_walk_yy {e : E} {r : Int} {w : World} (hk : okT e r = true) (hg : goodB e = true) : Calls Try.prog 3 #[.agg (EV e), .int .i64 r] w fun x w' => x = .returned (.bool true) ∧ Ext w w' := by
 have hN : tookN e r = 0 := (took_yes hk).2
 obtain ⟨V, hV⟩ : ∃ V, tookV e r = V := ⟨_, rfl⟩
 have hn := (goodB_iff e).1 hg
 obtain ⟨p, hp⟩ : ∃ p, p = e.sm / 8 := ⟨_, rfl⟩
 obtain ⟨q, hq⟩ : ∃ q, q = e.sp / 4 := ⟨_, rfl⟩
 have p1 : e.sm.tdiv 8 = p := by rw [Int.tdiv_eq_ediv_of_nonneg (by omega), hp]
 have q1 : e.sp.tdiv 4 = q := by rw [Int.tdiv_eq_ediv_of_nonneg (by omega), hq]
 have p2 : IntKind.i64.wrap p = p := by rw [IntKind.wrap_i64]; omega
 have q2 : IntKind.i64.wrap q = q := by rw [IntKind.wrap_i64]; omega
 have HTM : Hid (timesE e = (p, q)) := show _ = _ from (if_pos hg).trans (by rw [hp, hq])
 clear hn hp hq
 go_enter Try.func3, Try.ntmps3
 go_wp2_with (first
  | (refine wl_box (C := EV e) rfl rfl rfl ?_; intro w1 hb1 he1 hx1; clear hx1; have HB : Hid (Bs w w1 [(w.heap.size, e, 23)]) := (Bs.nil (Ext.refl w)).put he1 hb1; clear hb1 he1)
  | (go_at_call 7; refine (alive_any _).mono ?_; rintro x w2 ⟨rfl, heq⟩; replace HB : Hid (Bs _ _ _) := HB.out.grow heq; clear heq)
  | (have q := HB; clear q; refine wl_load rfl rowE rfl rfl (HB.out.at 0 rfl) rfl ?_)
  | (have q := HB; clear q; refine wl_load rfl rowR rfl rfl (HB.out.at 1 rfl) rfl ?_)
  | (have q := HB; clear q; refine wl_load rfl rowR rfl rfl (HB.out.at 2 rfl) rfl ?_)
  | (have q := HB; clear q; refine wl_load rfl rowE rfl rfl (HB.out.at 2 rfl) rfl ?_)
  | (have q := HB; clear q; refine wl_load rfl rowE rfl rfl (HB.out.at 1 rfl) rfl ?_)
  | (have q := HB; clear q; refine wl_load rfl rowR rfl rfl (HB.out.at 0 rfl) rfl ?_)
  | (have q := HB; clear q; refine wl_alloc rfl rfl zeroE ?_; intro w3 hb3 he3 hx3; clear hx3; replace HB : Hid (Bs _ _ (_ :: _)) := HB.out.put he3 hb3; clear hb3 he3)
  | (have q := HB; clear q; refine wl_alloc rfl rfl zeroR ?_; intro w3 hb3 he3 hx3; clear hx3; replace HB : Hid (Bs _ _ (_ :: _)) := HB.out.put he3 hb3; clear hb3 he3)
  | (have q := HB; clear q; refine wl_store (D := EV e) rfl rowE rfl rfl rfl (HB.out.at 0 rfl) rfl rfl (EV.one _) ?_; intro w4 hb4 hk4 hx4; clear hx4; replace HB : Hid (Bs _ _ (_ :: _)) := HB.out.set hb4 hk4; clear hb4 hk4)
  | (have q := HB; clear q; refine wl_store (D := EV V) rfl rowE rfl rfl rfl (HB.out.at 0 rfl) rfl rfl (EV.one _) ?_; intro w4 hb4 hk4 hx4; clear hx4; replace HB : Hid (Bs _ _ (_ :: _)) := HB.out.set hb4 hk4; clear hb4 hk4)
  | (have q := HB; clear q; refine wl_store (D := EV V) rfl rowR rfl rfl rfl (HB.out.at 0 rfl) rfl rfl (EV.one _) ?_; intro w4 hb4 hk4 hx4; clear hx4; replace HB : Hid (Bs _ _ (_ :: _)) := HB.out.set hb4 hk4; clear hb4 hk4)
  | (go_at_call 8; refine (took_any _ _ _).mono ?_; rintro x wT ⟨rfl, heq⟩; rw [hN, hV]; replace HB : Hid (Bs _ _ _) := HB.out.grow heq; clear heq)
  | (go_at_call 9; refine (refTook_any _ _ _).mono ?_; rintro x wR ⟨rfl, heq⟩; rw [hk, hV]; replace HB : Hid (Bs _ _ _) := HB.out.grow heq; clear heq)
  | (go_at_call 10; refine (times_any _ _).mono ?_; rintro x wS ⟨rfl, heq⟩; rw [HTM.out]; replace HB : Hid (Bs _ _ _) := HB.out.grow heq; clear heq))
 have HBx : ∀ {wx : World}, Ext wS.drew wx → Bs w wx [(wR.heap.size, V, 23), (wT.heap.size, V, 25), (w2.heap.size, e, 25), (w.heap.size, e, 23)] := fun hx => HB.out.grow ((Ext.drew _).trans hx)
 refine wp_region_facts (fun t => bif Nat.ble 32 t && Nat.ble t 61 then some (t - 32) else none) 96 Ext
  [Is (.agg (EV e)),
   Is (.bool (goodB e)),
   Is (.agg (EV e)),
   Is (.bool (goodB e)),
   Is (.bool false),
   Is (.bool false),
   Is (.agg (EV V)),
   Is (.agg (EV V)),
   Is (.bool false),
   Is (.bool false),
   Is (.bool false),
   Is (.bool true),
   Is (errV 0),
   Is (.bool true),
   Is (.bool false),
   Is (.bool false),
   Is (.bool false),
   Is (.bool true),
   Is (.bool false),
   Is (.bool false),
   Is undef,
   Is undef,
   Is undef,
   Is (.bool false),
   Is (.bool false),
   Is (.bool false),
   Is (.agg (EV eF)),
   Is (.agg (EV eF)),
   Is (.bool false),
   Is (.bool false)]
  rfl (by kernel_rfl) (by kernel_rfl) rfl Ext.refl (fun _ _ _ => Ext.trans) ?_ ?_ ?_
 ·
  exact Ks (Ks (Ks (Ks (Ks (Ks (Ks (Ks (Ks (Ks (Ks (Ks (Ks (Ks (Ks (Ks (Ks (Ks (Ks (Ks (Ks (Ks (Ks (Ks (Ks (Ks (Ks (Ks (Ks (Ks (KeepAll.nil))))))))))))))))))))))))))))))
 ·
  refine Gc (lr1 Ext.refl rfl rfl rfl (fun _ _ h => h) (fun r wx hR h1 => exec_loadW rowE rfl h1 ((HBx hR).at 2 rfl) rfl)) ?_
  refine Gc ?_ ?_
  ·
   rintro r wx hR ⟨h1, h2, _⟩
   replace h1 : r (.func 11) = .func (.func 11) #[] #[] := h1
   replace h2 : r (.tmp 32) = (.agg (EV e)) := h2
   refine give_func #[.agg (EV e)] rfl h1 Try.call11 (by simp [h2]) ?_
   refine (good_any _ _).mono ?_
   rintro x w' ⟨rfl, he⟩
   exact ⟨_, rfl, he, rfl⟩
  refine Gc (lr1 Ext.refl rfl rfl rfl (fun _ _ h => h) (fun r wx hR h1 => exec_loadW rowR rfl h1 ((HBx hR).at 3 rfl) rfl)) ?_
  refine Gc ?_ ?_
  ·
   rintro r wx hR ⟨h1, h2, _⟩
   replace h1 : r (.func 12) = .func (.func 12) #[] #[] := h1
   replace h2 : r (.tmp 34) = (.agg (EV e)) := h2
   refine give_func #[.agg (EV e)] rfl h1 Try.call12 (by simp [h2]) ?_
   refine (refGood_any _ _).mono ?_
   rintro x w' ⟨rfl, he⟩
   exact ⟨_, rfl, he, rfl⟩
  refine Gc (lr2 Ext.refl rfl rfl rfl (fun _ _ h => h) (fun _ _ h => h) (fun r wx hR h1 h2 => by simp [execOp, h1, h2, go_sem])) ?_
  refine Gc (lr1 Ext.refl rfl rfl rfl (fun _ _ h => h) (fun r wx hR h1 => exec_mv (.inl rfl) h1)) ?_
  refine Gc ?_ ?_
  ·
   rintro r wx hR ⟨h1, _⟩
   replace h1 : r (.tmp 6) = (.pointer (some ⟨wT.heap.size, 0, none⟩)) := h1
   intro gb hgb
   refine guard_in (b := gb) (want := false) hgb ?_
   exact gvo (exec_loadW rowE rfl h1 ((HBx hR).at 1 rfl) rfl) ⟨Ext.refl _, rfl⟩
  refine Gc ?_ ?_
  ·
   rintro r wx hR ⟨h1, _⟩
   replace h1 : r (.tmp 8) = (.pointer (some ⟨wR.heap.size, 0, none⟩)) := h1
   intro gb hgb
   refine guard_in (b := gb) (want := false) hgb ?_
   exact gvo (exec_loadW rowR rfl h1 ((HBx hR).at 0 rfl) rfl) ⟨Ext.refl _, rfl⟩
  refine Gc ?_ ?_
  ·
   rintro r wx hR ⟨h1, h2, _⟩
   replace h1 : r (.tmp 38) = (.agg (EV V)) := h1
   replace h2 : r (.tmp 39) = (.agg (EV V)) := h2
   intro gb hgb
   refine guard_in (b := gb) (want := false) hgb ?_
   exact gvo (exec_neqS (a := V) (b := V) esR rfl h1 h2) ⟨Ext.refl _, by rw [sameE_self]; rfl⟩
  refine Gc ?_ ?_
  ·
   rintro r wx hR ⟨h1, h2, h3, _⟩
   replace h1 : r (.tmp 37) = (.bool false) := h1
   replace h2 : r (.const (.bool true)) = .bool true := h2
   replace h3 : r (.tmp 40) = (.bool false) := h3
   exact give_pickF rfl h1 ⟨Ext.refl _, h3⟩
  refine Gc (lr1 Ext.refl rfl rfl rfl (fun _ _ h => h) (fun r wx hR h1 => exec_mv (.inl rfl) h1)) ?_
  refine Gc ?_ ?_
  ·
   rintro r wx hR ⟨h1, _⟩
   replace h1 : r (.tmp 9) = (.bool true) := h1
   intro gb hgb
   refine guard_in (b := gb) (want := false) hgb ?_
   exact give_move (.inl rfl) ⟨Ext.refl _, h1⟩
  refine Gc ?_ ?_
  ·
   rintro r wx hR ⟨h1, _⟩
   replace h1 : r (.tmp 7) = (errV 0) := h1
   intro gb hgb
   refine guard_in (b := gb) (want := false) hgb ?_
   exact give_move (.inl rfl) ⟨Ext.refl _, h1⟩
  refine Gc ?_ ?_
  ·
   rintro r wx hR ⟨h1, h2, _⟩
   replace h1 : r (.tmp 44) = (errV 0) := h1
   replace h2 : r (.const (.nilIface)) = .nilIface := h2
   intro gb hgb
   refine guard_in (b := gb) (want := false) hgb ?_
   exact gvo (exec_eqlV 0 rfl h1 h2) ⟨Ext.refl _, rfl⟩
  refine Gc ?_ ?_
  ·
   rintro r wx hR ⟨h1, h2, _⟩
   replace h1 : r (.tmp 43) = (.bool true) := h1
   replace h2 : r (.tmp 45) = (.bool true) := h2
   intro gb hgb
   refine guard_in (b := gb) (want := false) hgb ?_
   exact gvo (by simp [execOp, h1, h2, go_sem]) ⟨Ext.refl _, rfl⟩
  refine Gc ?_ ?_
  ·
   rintro r wx hR ⟨h1, h2, h3, _⟩
   replace h1 : r (.tmp 42) = (.bool false) := h1
   replace h2 : r (.const (.bool true)) = .bool true := h2
   replace h3 : r (.tmp 46) = (.bool false) := h3
   exact give_pickF rfl h1 ⟨Ext.refl _, h3⟩
  refine Gc (lr1 Ext.refl rfl rfl rfl (fun _ _ h => h) (fun r wx hR h1 => exec_mv (.inl rfl) h1)) ?_
  refine Gc ?_ ?_
  ·
   rintro r wx hR ⟨h1, _⟩
   replace h1 : r (.tmp 9) = (.bool true) := h1
   intro gb hgb
   refine guard_in (b := gb) (want := false) hgb ?_
   exact give_move (.inl rfl) ⟨Ext.refl _, h1⟩
  refine Gc ?_ ?_
  ·
   rintro r wx hR ⟨h1, _⟩
   replace h1 : r (.tmp 49) = (.bool true) := h1
   intro gb hgb
   refine guard_in (b := gb) (want := false) hgb ?_
   exact gvo (by simp [execOp, h1, go_sem]) ⟨Ext.refl _, rfl⟩
  refine Gc ?_ ?_
  ·
   rintro r wx hR ⟨h1, _⟩
   replace h1 : r (.tmp 50) = (.bool false) := h1
   intro gb hgb
   refine guard_in (b := gb) (want := false) hgb ?_
   exact give_move (.inl rfl) ⟨Ext.refl _, h1⟩
  refine Gc ?_ ?_
  ·
   rintro r wx hR ⟨h1, _⟩
   replace h1 : r (.tmp 7) = (errV 0) := h1
   intro gb hgb
   exact guard_out (b := gb) (want := true) hgb rfl
  refine Gc ?_ ?_
  ·
   rintro r wx hR ⟨h1, h2, h3, _⟩
   replace h1 : r (.func 13) = .func (.func 13) #[] #[] := h1
   replace h2 : r (.tmp 52) = undef := h2
   replace h3 : r (.const (.int .i64 1)) = .int .i64 1 := h3
   intro gb hgb
   exact guard_out (b := gb) (want := true) hgb rfl
  refine Gc ?_ ?_
  ·
   rintro r wx hR ⟨h1, _⟩
   replace h1 : r (.tmp 53) = undef := h1
   intro gb hgb
   exact guard_out (b := gb) (want := true) hgb rfl
  refine Gc ?_ ?_
  ·
   rintro r wx hR ⟨h1, h2, h3, _⟩
   replace h1 : r (.tmp 51) = (.bool false) := h1
   replace h2 : r (.tmp 54) = undef := h2
   replace h3 : r (.const (.bool false)) = .bool false := h3
   intro gb hgb
   refine guard_in (b := gb) (want := false) hgb ?_
   exact give_pickF rfl h1 ⟨Ext.refl _, h3⟩
  refine Gc ?_ ?_
  ·
   rintro r wx hR ⟨h1, h2, h3, _⟩
   replace h1 : r (.tmp 48) = (.bool false) := h1
   replace h2 : r (.const (.bool true)) = .bool true := h2
   replace h3 : r (.tmp 55) = (.bool false) := h3
   exact give_pickF rfl h1 ⟨Ext.refl _, h3⟩
  refine Gc (lr1 Ext.refl rfl rfl rfl (fun _ _ h => h) (fun r wx hR h1 => exec_mv (.inl rfl) h1)) ?_
  refine Gc ?_ ?_
  ·
   rintro r wx hR ⟨h1, _⟩
   replace h1 : r (.func 14) = .func (.func 14) #[] #[] := h1
   intro gb hgb
   refine guard_in (b := gb) (want := false) hgb ?_
   refine give_func #[] rfl h1 Try.call14 (by simp) ?_
   refine (first_any _).mono ?_
   rintro x w' ⟨rfl, he⟩
   exact ⟨_, rfl, he, rfl⟩
  refine Gc ?_ ?_
  ·
   rintro r wx hR ⟨h1, _⟩
   replace h1 : r (.func 15) = .func (.func 15) #[] #[] := h1
   intro gb hgb
   refine guard_in (b := gb) (want := false) hgb ?_
   refine give_func #[] rfl h1 Try.call15 (by simp) ?_
   refine (refFirst_any _).mono ?_
   rintro x w' ⟨rfl, he⟩
   exact ⟨_, rfl, he, rfl⟩
  refine Gc ?_ ?_
  ·
   rintro r wx hR ⟨h1, h2, _⟩
   replace h1 : r (.tmp 58) = (.agg (EV eF)) := h1
   replace h2 : r (.tmp 59) = (.agg (EV eF)) := h2
   intro gb hgb
   refine guard_in (b := gb) (want := false) hgb ?_
   exact gvo (exec_neqS (a := eF) (b := eF) esR rfl h1 h2) ⟨Ext.refl _, by rw [sameE_self]; rfl⟩
  refine Gc ?_ ?_
  ·
   rintro r wx hR ⟨h1, h2, h3, _⟩
   replace h1 : r (.tmp 57) = (.bool false) := h1
   replace h2 : r (.const (.bool true)) = .bool true := h2
   replace h3 : r (.tmp 60) = (.bool false) := h3
   exact give_pickF rfl h1 ⟨Ext.refl _, h3⟩
  exact GoodAll.nil
 ·
  intro vs wE aE hR hold haE
  have hv0 : vs 0 = (.agg (EV e)) := hold.at 0
  have hv1 : vs 1 = (.bool (goodB e)) := hold.at 1
  have hv2 : vs 2 = (.agg (EV e)) := hold.at 2
  have hv3 : vs 3 = (.bool (goodB e)) := hold.at 3
  have hv4 : vs 4 = (.bool false) := hold.at 4
  have hv5 : vs 5 = (.bool false) := hold.at 5
  have hv6 : vs 6 = (.agg (EV V)) := hold.at 6
  have hv7 : vs 7 = (.agg (EV V)) := hold.at 7
  have hv8 : vs 8 = (.bool false) := hold.at 8
  have hv9 : vs 9 = (.bool false) := hold.at 9
  have hv10 : vs 10 = (.bool false) := hold.at 10
  have hv11 : vs 11 = (.bool true) := hold.at 11
  have hv12 : vs 12 = (errV 0) := hold.at 12
  have hv13 : vs 13 = (.bool true) := hold.at 13
  have hv14 : vs 14 = (.bool false) := hold.at 14
  have hv15 : vs 15 = (.bool false) := hold.at 15
  have hv16 : vs 16 = (.bool false) := hold.at 16
  have hv17 : vs 17 = (.bool true) := hold.at 17
  have hv18 : vs 18 = (.bool false) := hold.at 18
  have hv19 : vs 19 = (.bool false) := hold.at 19
  have hv20 : vs 20 = undef := hold.at 20
  have hv21 : vs 21 = undef := hold.at 21
  have hv22 : vs 22 = undef := hold.at 22
  have hv23 : vs 23 = (.bool false) := hold.at 23
  have hv24 : vs 24 = (.bool false) := hold.at 24
  have hv25 : vs 25 = (.bool false) := hold.at 25
  have hv26 : vs 26 = (.agg (EV eF)) := hold.at 26
  have hv27 : vs 27 = (.agg (EV eF)) := hold.at 27
  have hv28 : vs 28 = (.bool false) := hold.at 28
  have hv29 : vs 29 = (.bool false) := hold.at 29
  simp only [putAll, Act.put, Nat.zero_add, Nat.reduceAdd, hv0, hv1, hv2, hv3, hv4, hv5, hv6, hv7, hv8, hv9, hv10, hv11, hv12, hv13, hv14, hv15, hv16, hv17, hv18, hv19, hv20, hv21, hv22, hv23, hv24, hv25, hv26, hv27, hv28, hv29, List.setIfInBounds_toArray, List.set_cons_succ, List.set_cons_zero] at haE
  subst haE
  clear hold hv0 hv1 hv2 hv3 hv4 hv5 hv6 hv7 hv8 hv9 hv10 hv11 hv12 hv13 hv14 hv15 hv16 hv17 hv18 hv19 hv20 hv21 hv22 hv23 hv24 hv25 hv26 hv27 hv28 hv29
  have HB' : Hid (Bs w wE [(wR.heap.size, V, 23), (wT.heap.size, V, 25), (w2.heap.size, e, 25), (w.heap.size, e, 23)]) := HBx hR
  clear HB HBx hR
  go_wp2_with (first
   | (have q := HB'; clear q; refine wl_load rfl rowE rfl rfl (HB'.out.at 2 rfl) rfl ?_)
   | (go_at_call 11; refine (good_any _ _).mono ?_; rintro x wG ⟨rfl, heq⟩; rw [hg]; have HBG : Hid (Bs w wG [(wR.heap.size, V, 23), (wT.heap.size, V, 25), (w2.heap.size, e, 25), (w.heap.size, e, 23)]) := HB'.out.grow heq; clear heq HB'))
  have HBx : ∀ {wx : World}, Ext wG.drew wx → Bs w wx [(wR.heap.size, V, 23), (wT.heap.size, V, 25), (w2.heap.size, e, 25), (w.heap.size, e, 23)] := fun hx => HBG.out.grow ((Ext.drew _).trans hx)
  refine wp_region_facts (fun t => bif Nat.ble 77 t && Nat.ble t 95 then some (t - 77) else bif Nat.beq t 4 then some 19 else none) 96 Ext
   [Is (.int .i64 p),
    Is (.pointer (some ⟨w.heap.size, 0, none⟩)),
    Is (.int .i64 e.sm),
    Is (.int .i64 p),
    Is (.bool true),
    Is (.bool true),
    Is (.int .i64 q),
    Is (.pointer (some ⟨w.heap.size, 1, none⟩)),
    Is (.int .i64 e.sp),
    Is (.int .i64 q),
    Is (.bool true),
    Is (.bool true),
    Is (.bool true),
    Is (.agg (EV e)),
    Is (.agg (EV (twiceE e))),
    Is (.agg (EV e)),
    Is (.agg (EV (twiceE e))),
    Is (.bool true),
    Is (.bool true),
    Is (.bool true)]
   rfl (by kernel_rfl) (by kernel_rfl) rfl Ext.refl (fun _ _ _ => Ext.trans) ?_ ?_ ?_
  ·
   exact Ks (Ks (Ks (Ks (Ks (Ks (Ks (Ks (Ks (Ks (Ks (Ks (Ks (Ks (Ks (Ks (Ks (Ks (Ks (Ks (KeepAll.nil))))))))))))))))))))
  ·
   refine Gc (lr1 Ext.refl rfl rfl rfl (fun _ _ h => h) (fun r wx hR h1 => exec_mv (.inl rfl) h1)) ?_
   refine Gc (lr1 Ext.refl rfl rfl rfl (fun _ _ h => h) (fun r wx hR h1 => by simp [execOp, h1, go_sem])) ?_
   refine Gc (lr1 Ext.refl rfl rfl rfl (fun _ _ h => h) (fun r wx hR h1 => exg one3 rfl h1 (ev0 ((HBx hR).at 3 rfl)))) ?_
   refine Gc (lr2 Ext.refl rfl rfl rfl (fun _ _ h => h) (fun _ _ h => h) (fun r wx hR h1 h2 => by simp [execOp, h1, h2, go_sem, p1, p2])) ?_
   refine Gc (lr2 Ext.refl rfl rfl rfl (fun _ _ h => h) (fun _ _ h => h) (fun r wx hR h1 h2 => by simp [execOp, h1, h2, go_sem])) ?_
   refine Gc (lr1 Ext.refl rfl rfl rfl (fun _ _ h => h) (fun r wx hR h1 => exec_mv (.inl rfl) h1)) ?_
   refine Gc ?_ ?_
   ·
    rintro r wx hR ⟨h1, _⟩
    replace h1 : r (.tmp 11) = (.int .i64 q) := h1
    intro gb hgb
    refine guard_in (b := gb) (want := true) hgb ?_
    exact give_move (.inl rfl) ⟨Ext.refl _, h1⟩
   refine Gc ?_ ?_
   ·
    rintro r wx hR ⟨h1, _⟩
    replace h1 : r (.tmp 2) = (.pointer (some ⟨w.heap.size, 0, none⟩)) := h1
    intro gb hgb
    refine guard_in (b := gb) (want := true) hgb ?_
    exact gvo (by simp [execOp, h1, go_sem]) ⟨Ext.refl _, rfl⟩
   refine Gc ?_ ?_
   ·
    rintro r wx hR ⟨h1, _⟩
    replace h1 : r (.tmp 84) = (.pointer (some ⟨w.heap.size, 1, none⟩)) := h1
    intro gb hgb
    refine guard_in (b := gb) (want := true) hgb ?_
    exact gvo (exg one3 rfl h1 (ev1 ((HBx hR).at 3 rfl))) ⟨Ext.refl _, rfl⟩
   refine Gc ?_ ?_
   ·
    rintro r wx hR ⟨h1, h2, _⟩
    replace h1 : r (.tmp 85) = (.int .i64 e.sp) := h1
    replace h2 : r (.const (.int .i64 4)) = .int .i64 4 := h2
    intro gb hgb
    refine guard_in (b := gb) (want := true) hgb ?_
    exact gvo (by simp [execOp, h1, h2, go_sem, q1, q2]) ⟨Ext.refl _, rfl⟩
   refine Gc ?_ ?_
   ·
    rintro r wx hR ⟨h1, h2, _⟩
    replace h1 : r (.tmp 83) = (.int .i64 q) := h1
    replace h2 : r (.tmp 86) = (.int .i64 q) := h2
    intro gb hgb
    refine guard_in (b := gb) (want := true) hgb ?_
    exact gvo (by simp [execOp, h1, h2, go_sem]) ⟨Ext.refl _, rfl⟩
   refine Gc ?_ ?_
   ·
    rintro r wx hR ⟨h1, h2, h3, _⟩
    replace h1 : r (.tmp 82) = (.bool true) := h1
    replace h2 : r (.tmp 87) = (.bool true) := h2
    replace h3 : r (.const (.bool false)) = .bool false := h3
    exact give_pick rfl h1 ⟨Ext.refl _, h2⟩
   refine Gc (lr1 Ext.refl rfl rfl rfl (fun _ _ h => h) (fun r wx hR h1 => exec_mv (.inl rfl) h1)) ?_
   refine Gc ?_ ?_
   ·
    rintro r wx hR ⟨h1, _⟩
    replace h1 : r (.tmp 5) = (.pointer (some ⟨w2.heap.size, 0, none⟩)) := h1
    intro gb hgb
    refine guard_in (b := gb) (want := true) hgb ?_
    exact gvo (exec_loadW rowE rfl h1 ((HBx hR).at 2 rfl) rfl) ⟨Ext.refl _, rfl⟩
   refine Gc ?_ ?_
   ·
    rintro r wx hR ⟨h1, h2, _⟩
    replace h1 : r (.func 16) = .func (.func 16) #[] #[] := h1
    replace h2 : r (.tmp 90) = (.agg (EV e)) := h2
    intro gb hgb
    refine guard_in (b := gb) (want := true) hgb ?_
    refine give_func #[.agg (EV e)] rfl h1 Try.call16 (by simp [h2]) ?_
    refine (twice_any _ _).mono ?_
    rintro x w' ⟨rfl, he⟩
    exact ⟨_, rfl, he, rfl⟩
   refine Gc ?_ ?_
   ·
    rintro r wx hR ⟨h1, _⟩
    replace h1 : r (.tmp 2) = (.pointer (some ⟨w.heap.size, 0, none⟩)) := h1
    intro gb hgb
    refine guard_in (b := gb) (want := true) hgb ?_
    exact gvo (exec_loadW rowR rfl h1 ((HBx hR).at 3 rfl) rfl) ⟨Ext.refl _, rfl⟩
   refine Gc ?_ ?_
   ·
    rintro r wx hR ⟨h1, h2, _⟩
    replace h1 : r (.func 17) = .func (.func 17) #[] #[] := h1
    replace h2 : r (.tmp 92) = (.agg (EV e)) := h2
    intro gb hgb
    refine guard_in (b := gb) (want := true) hgb ?_
    refine give_func #[.agg (EV e)] rfl h1 Try.call17 (by simp [h2]) ?_
    refine (refTwice_any _ _).mono ?_
    rintro x w' ⟨rfl, he⟩
    exact ⟨_, rfl, he, rfl⟩
   refine Gc ?_ ?_
   ·
    rintro r wx hR ⟨h1, h2, _⟩
    replace h1 : r (.tmp 91) = (.agg (EV (twiceE e))) := h1
    replace h2 : r (.tmp 93) = (.agg (EV (twiceE e))) := h2
    intro gb hgb
    refine guard_in (b := gb) (want := true) hgb ?_
    exact gvo (exec_eqlS (a := twiceE e) (b := twiceE e) esR rfl h1 h2) ⟨Ext.refl _, by rw [sameE_self]; rfl⟩
   refine Gc ?_ ?_
   ·
    rintro r wx hR ⟨h1, h2, h3, _⟩
    replace h1 : r (.tmp 89) = (.bool true) := h1
    replace h2 : r (.tmp 94) = (.bool true) := h2
    replace h3 : r (.const (.bool false)) = .bool false := h3
    exact give_pick rfl h1 ⟨Ext.refl _, h2⟩
   refine Gc (lr1 Ext.refl rfl rfl rfl (fun _ _ h => h) (fun r wx hR h1 => exec_mv (.inr rfl) h1)) ?_
   exact GoodAll.nil
  ·
   intro vs wE aE hR hold haE
   have hv : vs 19 = .bool true := hold.at 19
   refine ‹∀ (a : Act) (w : World), Code.wp Try.prog Code.ret _ a w → _› _ _ ?_
   refine wp_ret ?_
   have hs : aE.tmps[4]? = some (.bool true) := by rw [haE, ← hv]; kernel_rfl
   have hdf : aE.defers = [] := by rw [haE]; exact putAll_defers _ _ _ _
   clear haE
   try unfold Exit.then
   try unfold Exit.inBlock
   try dsimp only
   refine bodyPost_ret (v := .bool true) ?_ hdf ⟨rfl, (HBx hR).1⟩
   simp [results, Try.results3, go_sem, hs]
end Rto
end Go.Proofs.Ytdjijipbfiofmaa
/- The law RtoTook walked: it answers true; no answer is taken. No condition of its own. -/
namespace Go.Proofs.Ytdjijipbfiofmaa
namespace Rto
open Go Go.RowKit
set_option maxRecDepth 100000
set_option maxHeartbeats 16000000 in
theorem took_walk_ny {e : E} {r : Int} {w : World} (hk : okT e r = false) (hg : goodB e = true) : Calls Try.prog 3 #[.agg (EV e), .int .i64 r] w fun x w' => x = .returned (.bool true) ∧ Ext w w' := by
 have hN : tookN e r = 1 := (took_no hk).2
 obtain ⟨V, hV⟩ : ∃ V, tookV e r = V := ⟨_, rfl⟩
 have hn := (goodB_iff e).1 hg
 obtain ⟨p, hp⟩ : ∃ p, p = e.sm / 8 := ⟨_, rfl⟩
 obtain ⟨q, hq⟩ : ∃ q, q = e.sp / 4 := ⟨_, rfl⟩
 have p1 : e.sm.tdiv 8 = p := by rw [Int.tdiv_eq_ediv_of_nonneg (by omega), hp]
 have q1 : e.sp.tdiv 4 = q := by rw [Int.tdiv_eq_ediv_of_nonneg (by omega), hq]
 have p2 : IntKind.i64.wrap p = p := by rw [IntKind.wrap_i64]; omega
 have q2 : IntKind.i64.wrap q = q := by rw [IntKind.wrap_i64]; omega
 have HTM : Hid (timesE e = (p, q)) := show _ = _ from (if_pos hg).trans (by rw [hp, hq])
 clear hn hp hq
 go_enter Try.func3, Try.ntmps3
 go_wp2_with (first
  | (refine wl_box (C := EV e) rfl rfl rfl ?_; intro w1 hb1 he1 hx1; clear hx1; have HB : Hid (Bs w w1 [(w.heap.size, e, 23)]) := (Bs.nil (Ext.refl w)).put he1 hb1; clear hb1 he1)
  | (go_at_call 7; refine (alive_any _).mono ?_; rintro x w2 ⟨rfl, heq⟩; replace HB : Hid (Bs _ _ _) := HB.out.grow heq; clear heq)
  | (have q := HB; clear q; refine wl_load rfl rowE rfl rfl (HB.out.at 0 rfl) rfl ?_)
  | (have q := HB; clear q; refine wl_load rfl rowR rfl rfl (HB.out.at 1 rfl) rfl ?_)
  | (have q := HB; clear q; refine wl_load rfl rowR rfl rfl (HB.out.at 2 rfl) rfl ?_)
  | (have q := HB; clear q; refine wl_load rfl rowE rfl rfl (HB.out.at 2 rfl) rfl ?_)
  | (have q := HB; clear q; refine wl_load rfl rowE rfl rfl (HB.out.at 1 rfl) rfl ?_)
  | (have q := HB; clear q; refine wl_load rfl rowR rfl rfl (HB.out.at 0 rfl) rfl ?_)
  | (have q := HB; clear q; refine wl_alloc rfl rfl zeroE ?_; intro w3 hb3 he3 hx3; clear hx3; replace HB : Hid (Bs _ _ (_ :: _)) := HB.out.put he3 hb3; clear hb3 he3)
  | (have q := HB; clear q; refine wl_alloc rfl rfl zeroR ?_; intro w3 hb3 he3 hx3; clear hx3; replace HB : Hid (Bs _ _ (_ :: _)) := HB.out.put he3 hb3; clear hb3 he3)
  | (have q := HB; clear q; refine wl_store (D := EV e) rfl rowE rfl rfl rfl (HB.out.at 0 rfl) rfl rfl (EV.one _) ?_; intro w4 hb4 hk4 hx4; clear hx4; replace HB : Hid (Bs _ _ (_ :: _)) := HB.out.set hb4 hk4; clear hb4 hk4)
  | (have q := HB; clear q; refine wl_store (D := EV V) rfl rowE rfl rfl rfl (HB.out.at 0 rfl) rfl rfl (EV.one _) ?_; intro w4 hb4 hk4 hx4; clear hx4; replace HB : Hid (Bs _ _ (_ :: _)) := HB.out.set hb4 hk4; clear hb4 hk4)
  | (have q := HB; clear q; refine wl_store (D := EV V) rfl rowR rfl rfl rfl (HB.out.at 0 rfl) rfl rfl (EV.one _) ?_; intro w4 hb4 hk4 hx4; clear hx4; replace HB : Hid (Bs _ _ (_ :: _)) := HB.out.set hb4 hk4; clear hb4 hk4)
  | (go_at_call 8; refine (took_any _ _ _).mono ?_; rintro x wT ⟨rfl, heq⟩; rw [hN, hV]; replace HB : Hid (Bs _ _ _) := HB.out.grow heq; clear heq)
  | (go_at_call 9; refine (refTook_any _ _ _).mono ?_; rintro x wR ⟨rfl, heq⟩; rw [hk, hV]; replace HB : Hid (Bs _ _ _) := HB.out.grow heq; clear heq)
  | (go_at_call 10; refine (times_any _ _).mono ?_; rintro x wS ⟨rfl, heq⟩; rw [HTM.out]; replace HB : Hid (Bs _ _ _) := HB.out.grow heq; clear heq))
 have HBx : ∀ {wx : World}, Ext wS.drew wx → Bs w wx [(wR.heap.size, V, 23), (wT.heap.size, V, 25), (w2.heap.size, e, 25), (w.heap.size, e, 23)] := fun hx => HB.out.grow ((Ext.drew _).trans hx)
 refine wp_region_facts (fun t => bif Nat.ble 32 t && Nat.ble t 61 then some (t - 32) else none) 96 Ext
  [Is (.agg (EV e)),
   Is (.bool (goodB e)),
   Is (.agg (EV e)),
   Is (.bool (goodB e)),
   Is (.bool false),
   Is (.bool false),
   Is (.agg (EV V)),
   Is (.agg (EV V)),
   Is (.bool false),
   Is (.bool false),
   Is (.bool false),
   Is (.bool false),
   Is (errV 1),
   Is (.bool false),
   Is (.bool false),
   Is (.bool false),
   Is (.bool false),
   Is (.bool false),
   Is (.bool true),
   Is (.bool true),
   Is (errV 1),
   Is (.bool true),
   Is (.bool false),
   Is (.bool false),
   Is (.bool false),
   Is (.bool false),
   Is (.agg (EV eF)),
   Is (.agg (EV eF)),
   Is (.bool false),
   Is (.bool false)]
  rfl (by kernel_rfl) (by kernel_rfl) rfl Ext.refl (fun _ _ _ => Ext.trans) ?_ ?_ ?_
 ·
  exact Ks (Ks (Ks (Ks (Ks (Ks (Ks (Ks (Ks (Ks (Ks (Ks (Ks (Ks (Ks (Ks (Ks (Ks (Ks (Ks (Ks (Ks (Ks (Ks (Ks (Ks (Ks (Ks (Ks (Ks (KeepAll.nil))))))))))))))))))))))))))))))
 ·
  refine Gc (lr1 Ext.refl rfl rfl rfl (fun _ _ h => h) (fun r wx hR h1 => exec_loadW rowE rfl h1 ((HBx hR).at 2 rfl) rfl)) ?_
  refine Gc ?_ ?_
  ·
   rintro r wx hR ⟨h1, h2, _⟩
   replace h1 : r (.func 11) = .func (.func 11) #[] #[] := h1
   replace h2 : r (.tmp 32) = (.agg (EV e)) := h2
   refine give_func #[.agg (EV e)] rfl h1 Try.call11 (by simp [h2]) ?_
   refine (good_any _ _).mono ?_
   rintro x w' ⟨rfl, he⟩
   exact ⟨_, rfl, he, rfl⟩
  refine Gc (lr1 Ext.refl rfl rfl rfl (fun _ _ h => h) (fun r wx hR h1 => exec_loadW rowR rfl h1 ((HBx hR).at 3 rfl) rfl)) ?_
  refine Gc ?_ ?_
  ·
   rintro r wx hR ⟨h1, h2, _⟩
   replace h1 : r (.func 12) = .func (.func 12) #[] #[] := h1
   replace h2 : r (.tmp 34) = (.agg (EV e)) := h2
   refine give_func #[.agg (EV e)] rfl h1 Try.call12 (by simp [h2]) ?_
   refine (refGood_any _ _).mono ?_
   rintro x w' ⟨rfl, he⟩
   exact ⟨_, rfl, he, rfl⟩
  refine Gc (lr2 Ext.refl rfl rfl rfl (fun _ _ h => h) (fun _ _ h => h) (fun r wx hR h1 h2 => by simp [execOp, h1, h2, go_sem])) ?_
  refine Gc (lr1 Ext.refl rfl rfl rfl (fun _ _ h => h) (fun r wx hR h1 => exec_mv (.inl rfl) h1)) ?_
  refine Gc ?_ ?_
  ·
   rintro r wx hR ⟨h1, _⟩
   replace h1 : r (.tmp 6) = (.pointer (some ⟨wT.heap.size, 0, none⟩)) := h1
   intro gb hgb
   refine guard_in (b := gb) (want := false) hgb ?_
   exact gvo (exec_loadW rowE rfl h1 ((HBx hR).at 1 rfl) rfl) ⟨Ext.refl _, rfl⟩
  refine Gc ?_ ?_
  ·
   rintro r wx hR ⟨h1, _⟩
   replace h1 : r (.tmp 8) = (.pointer (some ⟨wR.heap.size, 0, none⟩)) := h1
   intro gb hgb
   refine guard_in (b := gb) (want := false) hgb ?_
   exact gvo (exec_loadW rowR rfl h1 ((HBx hR).at 0 rfl) rfl) ⟨Ext.refl _, rfl⟩
  refine Gc ?_ ?_
  ·
   rintro r wx hR ⟨h1, h2, _⟩
   replace h1 : r (.tmp 38) = (.agg (EV V)) := h1
   replace h2 : r (.tmp 39) = (.agg (EV V)) := h2
   intro gb hgb
   refine guard_in (b := gb) (want := false) hgb ?_
   exact gvo (exec_neqS (a := V) (b := V) esR rfl h1 h2) ⟨Ext.refl _, by rw [sameE_self]; rfl⟩
  refine Gc ?_ ?_
  ·
   rintro r wx hR ⟨h1, h2, h3, _⟩
   replace h1 : r (.tmp 37) = (.bool false) := h1
   replace h2 : r (.const (.bool true)) = .bool true := h2
   replace h3 : r (.tmp 40) = (.bool false) := h3
   exact give_pickF rfl h1 ⟨Ext.refl _, h3⟩
  refine Gc (lr1 Ext.refl rfl rfl rfl (fun _ _ h => h) (fun r wx hR h1 => exec_mv (.inl rfl) h1)) ?_
  refine Gc ?_ ?_
  ·
   rintro r wx hR ⟨h1, _⟩
   replace h1 : r (.tmp 9) = (.bool false) := h1
   intro gb hgb
   refine guard_in (b := gb) (want := false) hgb ?_
   exact give_move (.inl rfl) ⟨Ext.refl _, h1⟩
  refine Gc ?_ ?_
  ·
   rintro r wx hR ⟨h1, _⟩
   replace h1 : r (.tmp 7) = (errV 1) := h1
   intro gb hgb
   refine guard_in (b := gb) (want := false) hgb ?_
   exact give_move (.inl rfl) ⟨Ext.refl _, h1⟩
  refine Gc ?_ ?_
  ·
   rintro r wx hR ⟨h1, h2, _⟩
   replace h1 : r (.tmp 44) = (errV 1) := h1
   replace h2 : r (.const (.nilIface)) = .nilIface := h2
   intro gb hgb
   refine guard_in (b := gb) (want := false) hgb ?_
   exact gvo (exec_eqlV 1 rfl h1 h2) ⟨Ext.refl _, rfl⟩
  refine Gc ?_ ?_
  ·
   rintro r wx hR ⟨h1, h2, _⟩
   replace h1 : r (.tmp 43) = (.bool false) := h1
   replace h2 : r (.tmp 45) = (.bool false) := h2
   intro gb hgb
   refine guard_in (b := gb) (want := false) hgb ?_
   exact gvo (by simp [execOp, h1, h2, go_sem]) ⟨Ext.refl _, rfl⟩
  refine Gc ?_ ?_
  ·
   rintro r wx hR ⟨h1, h2, h3, _⟩
   replace h1 : r (.tmp 42) = (.bool false) := h1
   replace h2 : r (.const (.bool true)) = .bool true := h2
   replace h3 : r (.tmp 46) = (.bool false) := h3
   exact give_pickF rfl h1 ⟨Ext.refl _, h3⟩
  refine Gc (lr1 Ext.refl rfl rfl rfl (fun _ _ h => h) (fun r wx hR h1 => exec_mv (.inl rfl) h1)) ?_
  refine Gc ?_ ?_
  ·
   rintro r wx hR ⟨h1, _⟩
   replace h1 : r (.tmp 9) = (.bool false) := h1
   intro gb hgb
   refine guard_in (b := gb) (want := false) hgb ?_
   exact give_move (.inl rfl) ⟨Ext.refl _, h1⟩
  refine Gc ?_ ?_
  ·
   rintro r wx hR ⟨h1, _⟩
   replace h1 : r (.tmp 49) = (.bool false) := h1
   intro gb hgb
   refine guard_in (b := gb) (want := false) hgb ?_
   exact gvo (by simp [execOp, h1, go_sem]) ⟨Ext.refl _, rfl⟩
  refine Gc ?_ ?_
  ·
   rintro r wx hR ⟨h1, _⟩
   replace h1 : r (.tmp 50) = (.bool true) := h1
   intro gb hgb
   refine guard_in (b := gb) (want := false) hgb ?_
   exact give_move (.inl rfl) ⟨Ext.refl _, h1⟩
  refine Gc ?_ ?_
  ·
   rintro r wx hR ⟨h1, _⟩
   replace h1 : r (.tmp 7) = (errV 1) := h1
   intro gb hgb
   refine guard_in (b := gb) (want := true) hgb ?_
   exact give_move (.inl rfl) ⟨Ext.refl _, h1⟩
  refine Gc ?_ ?_
  ·
   rintro r wx hR ⟨h1, h2, h3, _⟩
   replace h1 : r (.func 13) = .func (.func 13) #[] #[] := h1
   replace h2 : r (.tmp 52) = (errV 1) := h2
   replace h3 : r (.const (.int .i64 1)) = .int .i64 1 := h3
   intro gb hgb
   refine guard_in (b := gb) (want := true) hgb ?_
   refine give_func #[errV 1, .int .i64 1] rfl h1 Try.call13 (by simp [h2, h3]) ?_
   refine (is_any _ _ _).mono ?_
   rintro x w' ⟨rfl, rfl⟩
   exact ⟨_, rfl, Ext.refl _, rfl⟩
  refine Gc ?_ ?_
  ·
   rintro r wx hR ⟨h1, _⟩
   replace h1 : r (.tmp 53) = (.bool true) := h1
   intro gb hgb
   refine guard_in (b := gb) (want := true) hgb ?_
   exact gvo (by simp [execOp, h1, go_sem]) ⟨Ext.refl _, rfl⟩
  refine Gc ?_ ?_
  ·
   rintro r wx hR ⟨h1, h2, h3, _⟩
   replace h1 : r (.tmp 51) = (.bool true) := h1
   replace h2 : r (.tmp 54) = (.bool false) := h2
   replace h3 : r (.const (.bool false)) = .bool false := h3
   intro gb hgb
   refine guard_in (b := gb) (want := false) hgb ?_
   exact give_pick rfl h1 ⟨Ext.refl _, h2⟩
  refine Gc ?_ ?_
  ·
   rintro r wx hR ⟨h1, h2, h3, _⟩
   replace h1 : r (.tmp 48) = (.bool false) := h1
   replace h2 : r (.const (.bool true)) = .bool true := h2
   replace h3 : r (.tmp 55) = (.bool false) := h3
   exact give_pickF rfl h1 ⟨Ext.refl _, h3⟩
  refine Gc (lr1 Ext.refl rfl rfl rfl (fun _ _ h => h) (fun r wx hR h1 => exec_mv (.inl rfl) h1)) ?_
  refine Gc ?_ ?_
  ·
   rintro r wx hR ⟨h1, _⟩
   replace h1 : r (.func 14) = .func (.func 14) #[] #[] := h1
   intro gb hgb
   refine guard_in (b := gb) (want := false) hgb ?_
   refine give_func #[] rfl h1 Try.call14 (by simp) ?_
   refine (first_any _).mono ?_
   rintro x w' ⟨rfl, he⟩
   exact ⟨_, rfl, he, rfl⟩
  refine Gc ?_ ?_
  ·
   rintro r wx hR ⟨h1, _⟩
   replace h1 : r (.func 15) = .func (.func 15) #[] #[] := h1
   intro gb hgb
   refine guard_in (b := gb) (want := false) hgb ?_
   refine give_func #[] rfl h1 Try.call15 (by simp) ?_
   refine (refFirst_any _).mono ?_
   rintro x w' ⟨rfl, he⟩
   exact ⟨_, rfl, he, rfl⟩
  refine Gc ?_ ?_
  ·
   rintro r wx hR ⟨h1, h2, _⟩
   replace h1 : r (.tmp 58) = (.agg (EV eF)) := h1
   replace h2 : r (.tmp 59) = (.agg (EV eF)) := h2
   intro gb hgb
   refine guard_in (b := gb) (want := false) hgb ?_
   exact gvo (exec_neqS (a := eF) (b := eF) esR rfl h1 h2) ⟨Ext.refl _, by rw [sameE_self]; rfl⟩
  refine Gc ?_ ?_
  ·
   rintro r wx hR ⟨h1, h2, h3, _⟩
   replace h1 : r (.tmp 57) = (.bool false) := h1
   replace h2 : r (.const (.bool true)) = .bool true := h2
   replace h3 : r (.tmp 60) = (.bool false) := h3
   exact give_pickF rfl h1 ⟨Ext.refl _, h3⟩
  exact GoodAll.nil
 ·
  intro vs wE aE hR hold haE
  have hv0 : vs 0 = (.agg (EV e)) := hold.at 0
  have hv1 : vs 1 = (.bool (goodB e)) := hold.at 1
  have hv2 : vs 2 = (.agg (EV e)) := hold.at 2
  have hv3 : vs 3 = (.bool (goodB e)) := hold.at 3
  have hv4 : vs 4 = (.bool false) := hold.at 4
  have hv5 : vs 5 = (.bool false) := hold.at 5
  have hv6 : vs 6 = (.agg (EV V)) := hold.at 6
  have hv7 : vs 7 = (.agg (EV V)) := hold.at 7
  have hv8 : vs 8 = (.bool false) := hold.at 8
  have hv9 : vs 9 = (.bool false) := hold.at 9
  have hv10 : vs 10 = (.bool false) := hold.at 10
  have hv11 : vs 11 = (.bool false) := hold.at 11
  have hv12 : vs 12 = (errV 1) := hold.at 12
  have hv13 : vs 13 = (.bool false) := hold.at 13
  have hv14 : vs 14 = (.bool false) := hold.at 14
  have hv15 : vs 15 = (.bool false) := hold.at 15
  have hv16 : vs 16 = (.bool false) := hold.at 16
  have hv17 : vs 17 = (.bool false) := hold.at 17
  have hv18 : vs 18 = (.bool true) := hold.at 18
  have hv19 : vs 19 = (.bool true) := hold.at 19
  have hv20 : vs 20 = (errV 1) := hold.at 20
  have hv21 : vs 21 = (.bool true) := hold.at 21
  have hv22 : vs 22 = (.bool false) := hold.at 22
  have hv23 : vs 23 = (.bool false) := hold.at 23
  have hv24 : vs 24 = (.bool false) := hold.at 24
  have hv25 : vs 25 = (.bool false) := hold.at 25
  have hv26 : vs 26 = (.agg (EV eF)) := hold.at 26
  have hv27 : vs 27 = (.agg (EV eF)) := hold.at 27
  have hv28 : vs 28 = (.bool false) := hold.at 28
  have hv29 : vs 29 = (.bool false) := hold.at 29
  simp only [putAll, Act.put, Nat.zero_add, Nat.reduceAdd, hv0, hv1, hv2, hv3, hv4, hv5, hv6, hv7, hv8, hv9, hv10, hv11, hv12, hv13, hv14, hv15, hv16, hv17, hv18, hv19, hv20, hv21, hv22, hv23, hv24, hv25, hv26, hv27, hv28, hv29, List.setIfInBounds_toArray, List.set_cons_succ, List.set_cons_zero] at haE
  subst haE
  clear hold hv0 hv1 hv2 hv3 hv4 hv5 hv6 hv7 hv8 hv9 hv10 hv11 hv12 hv13 hv14 hv15 hv16 hv17 hv18 hv19 hv20 hv21 hv22 hv23 hv24 hv25 hv26 hv27 hv28 hv29
  have HB' : Hid (Bs w wE [(wR.heap.size, V, 23), (wT.heap.size, V, 25), (w2.heap.size, e, 25), (w.heap.size, e, 23)]) := HBx hR
  clear HB HBx hR
  go_wp2_with (first
   | (have q := HB'; clear q; refine wl_load rfl rowE rfl rfl (HB'.out.at 2 rfl) rfl ?_)
   | (go_at_call 11; refine (good_any _ _).mono ?_; rintro x wG ⟨rfl, heq⟩; rw [hg]; have HBG : Hid (Bs w wG [(wR.heap.size, V, 23), (wT.heap.size, V, 25), (w2.heap.size, e, 25), (w.heap.size, e, 23)]) := HB'.out.grow heq; clear heq HB'))
  have HBx : ∀ {wx : World}, Ext wG.drew wx → Bs w wx [(wR.heap.size, V, 23), (wT.heap.size, V, 25), (w2.heap.size, e, 25), (w.heap.size, e, 23)] := fun hx => HBG.out.grow ((Ext.drew _).trans hx)
  refine wp_region_facts (fun t => bif Nat.ble 77 t && Nat.ble t 95 then some (t - 77) else bif Nat.beq t 4 then some 19 else none) 96 Ext
   [Is (.int .i64 p),
    Is (.pointer (some ⟨w.heap.size, 0, none⟩)),
    Is (.int .i64 e.sm),
    Is (.int .i64 p),
    Is (.bool true),
    Is (.bool true),
    Is (.int .i64 q),
    Is (.pointer (some ⟨w.heap.size, 1, none⟩)),
    Is (.int .i64 e.sp),
    Is (.int .i64 q),
    Is (.bool true),
    Is (.bool true),
    Is (.bool true),
    Is (.agg (EV e)),
    Is (.agg (EV (twiceE e))),
    Is (.agg (EV e)),
    Is (.agg (EV (twiceE e))),
    Is (.bool true),
    Is (.bool true),
    Is (.bool true)]
   rfl (by kernel_rfl) (by kernel_rfl) rfl Ext.refl (fun _ _ _ => Ext.trans) ?_ ?_ ?_
  ·
   exact Ks (Ks (Ks (Ks (Ks (Ks (Ks (Ks (Ks (Ks (Ks (Ks (Ks (Ks (Ks (Ks (Ks (Ks (Ks (Ks (KeepAll.nil))))))))))))))))))))
  ·
   refine Gc (lr1 Ext.refl rfl rfl rfl (fun _ _ h => h) (fun r wx hR h1 => exec_mv (.inl rfl) h1)) ?_
   refine Gc (lr1 Ext.refl rfl rfl rfl (fun _ _ h => h) (fun r wx hR h1 => by simp [execOp, h1, go_sem])) ?_
   refine Gc (lr1 Ext.refl rfl rfl rfl (fun _ _ h => h) (fun r wx hR h1 => exg one3 rfl h1 (ev0 ((HBx hR).at 3 rfl)))) ?_
   refine Gc (lr2 Ext.refl rfl rfl rfl (fun _ _ h => h) (fun _ _ h => h) (fun r wx hR h1 h2 => by simp [execOp, h1, h2, go_sem, p1, p2])) ?_
   refine Gc (lr2 Ext.refl rfl rfl rfl (fun _ _ h => h) (fun _ _ h => h) (fun r wx hR h1 h2 => by simp [execOp, h1, h2, go_sem])) ?_
   refine Gc (lr1 Ext.refl rfl rfl rfl (fun _ _ h => h) (fun r wx hR h1 => exec_mv (.inl rfl) h1)) ?_
   refine Gc ?_ ?_
   ·
    rintro r wx hR ⟨h1, _⟩
    replace h1 : r (.tmp 11) = (.int .i64 q) := h1
    intro gb hgb
    refine guard_in (b := gb) (want := true) hgb ?_
    exact give_move (.inl rfl) ⟨Ext.refl _, h1⟩
   refine Gc ?_ ?_
   ·
    rintro r wx hR ⟨h1, _⟩
    replace h1 : r (.tmp 2) = (.pointer (some ⟨w.heap.size, 0, none⟩)) := h1
    intro gb hgb
    refine guard_in (b := gb) (want := true) hgb ?_
    exact gvo (by simp [execOp, h1, go_sem]) ⟨Ext.refl _, rfl⟩
   refine Gc ?_ ?_
   ·
    rintro r wx hR ⟨h1, _⟩
    replace h1 : r (.tmp 84) = (.pointer (some ⟨w.heap.size, 1, none⟩)) := h1
    intro gb hgb
    refine guard_in (b := gb) (want := true) hgb ?_
    exact gvo (exg one3 rfl h1 (ev1 ((HBx hR).at 3 rfl))) ⟨Ext.refl _, rfl⟩
   refine Gc ?_ ?_
   ·
    rintro r wx hR ⟨h1, h2, _⟩
    replace h1 : r (.tmp 85) = (.int .i64 e.sp) := h1
    replace h2 : r (.const (.int .i64 4)) = .int .i64 4 := h2
    intro gb hgb
    refine guard_in (b := gb) (want := true) hgb ?_
    exact gvo (by simp [execOp, h1, h2, go_sem, q1, q2]) ⟨Ext.refl _, rfl⟩
   refine Gc ?_ ?_
   ·
    rintro r wx hR ⟨h1, h2, _⟩
    replace h1 : r (.tmp 83) = (.int .i64 q) := h1
    replace h2 : r (.tmp 86) = (.int .i64 q) := h2
    intro gb hgb
    refine guard_in (b := gb) (want := true) hgb ?_
    exact gvo (by simp [execOp, h1, h2, go_sem]) ⟨Ext.refl _, rfl⟩
   refine Gc ?_ ?_
   ·
    rintro r wx hR ⟨h1, h2, h3, _⟩
    replace h1 : r (.tmp 82) = (.bool true) := h1
    replace h2 : r (.tmp 87) = (.bool true) := h2
    replace h3 : r (.const (.bool false)) = .bool false := h3
    exact give_pick rfl h1 ⟨Ext.refl _, h2⟩
   refine Gc (lr1 Ext.refl rfl rfl rfl (fun _ _ h => h) (fun r wx hR h1 => exec_mv (.inl rfl) h1)) ?_
   refine Gc ?_ ?_
   ·
    rintro r wx hR ⟨h1, _⟩
    replace h1 : r (.tmp 5) = (.pointer (some ⟨w2.heap.size, 0, none⟩)) := h1
    intro gb hgb
    refine guard_in (b := gb) (want := true) hgb ?_
    exact gvo (exec_loadW rowE rfl h1 ((HBx hR).at 2 rfl) rfl) ⟨Ext.refl _, rfl⟩
   refine Gc ?_ ?_
   ·
    rintro r wx hR ⟨h1, h2, _⟩
    replace h1 : r (.func 16) = .func (.func 16) #[] #[] := h1
    replace h2 : r (.tmp 90) = (.agg (EV e)) := h2
    intro gb hgb
    refine guard_in (b := gb) (want := true) hgb ?_
    refine give_func #[.agg (EV e)] rfl h1 Try.call16 (by simp [h2]) ?_
    refine (twice_any _ _).mono ?_
    rintro x w' ⟨rfl, he⟩
    exact ⟨_, rfl, he, rfl⟩
   refine Gc ?_ ?_
   ·
    rintro r wx hR ⟨h1, _⟩
    replace h1 : r (.tmp 2) = (.pointer (some ⟨w.heap.size, 0, none⟩)) := h1
    intro gb hgb
    refine guard_in (b := gb) (want := true) hgb ?_
    exact gvo (exec_loadW rowR rfl h1 ((HBx hR).at 3 rfl) rfl) ⟨Ext.refl _, rfl⟩
   refine Gc ?_ ?_
   ·
    rintro r wx hR ⟨h1, h2, _⟩
    replace h1 : r (.func 17) = .func (.func 17) #[] #[] := h1
    replace h2 : r (.tmp 92) = (.agg (EV e)) := h2
    intro gb hgb
    refine guard_in (b := gb) (want := true) hgb ?_
    refine give_func #[.agg (EV e)] rfl h1 Try.call17 (by simp [h2]) ?_
    refine (refTwice_any _ _).mono ?_
    rintro x w' ⟨rfl, he⟩
    exact ⟨_, rfl, he, rfl⟩
   refine Gc ?_ ?_
   ·
    rintro r wx hR ⟨h1, h2, _⟩
    replace h1 : r (.tmp 91) = (.agg (EV (twiceE e))) := h1
    replace h2 : r (.tmp 93) = (.agg (EV (twiceE e))) := h2
    intro gb hgb
    refine guard_in (b := gb) (want := true) hgb ?_
    exact gvo (exec_eqlS (a := twiceE e) (b := twiceE e) esR rfl h1 h2) ⟨Ext.refl _, by rw [sameE_self]; rfl⟩
   refine Gc ?_ ?_
   ·
    rintro r wx hR ⟨h1, h2, h3, _⟩
    replace h1 : r (.tmp 89) = (.bool true) := h1
    replace h2 : r (.tmp 94) = (.bool true) := h2
    replace h3 : r (.const (.bool false)) = .bool false := h3
    exact give_pick rfl h1 ⟨Ext.refl _, h2⟩
   refine Gc (lr1 Ext.refl rfl rfl rfl (fun _ _ h => h) (fun r wx hR h1 => exec_mv (.inr rfl) h1)) ?_
   exact GoodAll.nil
  ·
   intro vs wE aE hR hold haE
   have hv : vs 19 = .bool true := hold.at 19
   refine ‹∀ (a : Act) (w : World), Code.wp Try.prog Code.ret _ a w → _› _ _ ?_
   refine wp_ret ?_
   have hs : aE.tmps[4]? = some (.bool true) := by rw [haE, ← hv]; kernel_rfl
   have hdf : aE.defers = [] := by rw [haE]; exact putAll_defers _ _ _ _
   clear haE
   try unfold Exit.then
   try unfold Exit.inBlock
   try dsimp only
   refine bodyPost_ret (v := .bool true) ?_ hdf ⟨rfl, (HBx hR).1⟩
   simp [results, Try.results3, go_sem, hs]
end Rto
end Go.Proofs.Ytdjijipbfiofmaa
/- The law RtoTook walked: it answers true; no answer is taken. No condition of its own. -/
namespace Go.Proofs.Ytdjijipbfiofmaa
namespace Rto
open Go Go.RowKit
set_option maxRecDepth 100000
set_option maxHeartbeats 16000000 in
theorem took_walk_nn {e : E} {r : Int} {w : World} (hk : okT e r = false) (hg : goodB e = false) : Calls Try.prog 3 #[.agg (EV e), .int .i64 r] w fun x w' => x = .returned (.bool true) ∧ Ext w w' := by
 have hN : tookN e r = 1 := (took_no hk).2
 obtain ⟨V, hV⟩ : ∃ V, tookV e r = V := ⟨_, rfl⟩
 have HTM : Hid (timesE e = (0, 0)) := show _ = _ from if_neg (by rw [hg]; decide)
 have HTW : Hid (twiceE e = eF) := twiceE_no hg
 go_enter Try.func3, Try.ntmps3
 go_wp2_with (first
  | (refine wl_box (C := EV e) rfl rfl rfl ?_; intro w1 hb1 he1 hx1; clear hx1; have HB : Hid (Bs w w1 [(w.heap.size, e, 23)]) := (Bs.nil (Ext.refl w)).put he1 hb1; clear hb1 he1)
  | (go_at_call 7; refine (alive_any _).mono ?_; rintro x w2 ⟨rfl, heq⟩; replace HB : Hid (Bs _ _ _) := HB.out.grow heq; clear heq)
  | (have q := HB; clear q; refine wl_load rfl rowE rfl rfl (HB.out.at 0 rfl) rfl ?_)
  | (have q := HB; clear q; refine wl_load rfl rowR rfl rfl (HB.out.at 1 rfl) rfl ?_)
  | (have q := HB; clear q; refine wl_load rfl rowR rfl rfl (HB.out.at 2 rfl) rfl ?_)
  | (have q := HB; clear q; refine wl_load rfl rowE rfl rfl (HB.out.at 2 rfl) rfl ?_)
  | (have q := HB; clear q; refine wl_load rfl rowE rfl rfl (HB.out.at 1 rfl) rfl ?_)
  | (have q := HB; clear q; refine wl_load rfl rowR rfl rfl (HB.out.at 0 rfl) rfl ?_)
  | (have q := HB; clear q; refine wl_alloc rfl rfl zeroE ?_; intro w3 hb3 he3 hx3; clear hx3; replace HB : Hid (Bs _ _ (_ :: _)) := HB.out.put he3 hb3; clear hb3 he3)
  | (have q := HB; clear q; refine wl_alloc rfl rfl zeroR ?_; intro w3 hb3 he3 hx3; clear hx3; replace HB : Hid (Bs _ _ (_ :: _)) := HB.out.put he3 hb3; clear hb3 he3)
  | (have q := HB; clear q; refine wl_store (D := EV e) rfl rowE rfl rfl rfl (HB.out.at 0 rfl) rfl rfl (EV.one _) ?_; intro w4 hb4 hk4 hx4; clear hx4; replace HB : Hid (Bs _ _ (_ :: _)) := HB.out.set hb4 hk4; clear hb4 hk4)
  | (have q := HB; clear q; refine wl_store (D := EV V) rfl rowE rfl rfl rfl (HB.out.at 0 rfl) rfl rfl (EV.one _) ?_; intro w4 hb4 hk4 hx4; clear hx4; replace HB : Hid (Bs _ _ (_ :: _)) := HB.out.set hb4 hk4; clear hb4 hk4)
  | (have q := HB; clear q; refine wl_store (D := EV V) rfl rowR rfl rfl rfl (HB.out.at 0 rfl) rfl rfl (EV.one _) ?_; intro w4 hb4 hk4 hx4; clear hx4; replace HB : Hid (Bs _ _ (_ :: _)) := HB.out.set hb4 hk4; clear hb4 hk4)
  | (go_at_call 8; refine (took_any _ _ _).mono ?_; rintro x wT ⟨rfl, heq⟩; rw [hN, hV]; replace HB : Hid (Bs _ _ _) := HB.out.grow heq; clear heq)
  | (go_at_call 9; refine (refTook_any _ _ _).mono ?_; rintro x wR ⟨rfl, heq⟩; rw [hk, hV]; replace HB : Hid (Bs _ _ _) := HB.out.grow heq; clear heq)
  | (go_at_call 10; refine (times_any _ _).mono ?_; rintro x wS ⟨rfl, heq⟩; rw [HTM.out]; replace HB : Hid (Bs _ _ _) := HB.out.grow heq; clear heq))
 have HBx : ∀ {wx : World}, Ext wS.drew wx → Bs w wx [(wR.heap.size, V, 23), (wT.heap.size, V, 25), (w2.heap.size, e, 25), (w.heap.size, e, 23)] := fun hx => HB.out.grow ((Ext.drew _).trans hx)
 refine wp_region_facts (fun t => bif Nat.ble 32 t && Nat.ble t 61 then some (t - 32) else none) 96 Ext
  [Is (.agg (EV e)),
   Is (.bool (goodB e)),
   Is (.agg (EV e)),
   Is (.bool (goodB e)),
   Is (.bool false),
   Is (.bool false),
   Is (.agg (EV V)),
   Is (.agg (EV V)),
   Is (.bool false),
   Is (.bool false),
   Is (.bool false),
   Is (.bool false),
   Is (errV 1),
   Is (.bool false),
   Is (.bool false),
   Is (.bool false),
   Is (.bool false),
   Is (.bool false),
   Is (.bool true),
   Is (.bool true),
   Is (errV 1),
   Is (.bool true),
   Is (.bool false),
   Is (.bool false),
   Is (.bool false),
   Is (.bool false),
   Is (.agg (EV eF)),
   Is (.agg (EV eF)),
   Is (.bool false),
   Is (.bool false)]
  rfl (by kernel_rfl) (by kernel_rfl) rfl Ext.refl (fun _ _ _ => Ext.trans) ?_ ?_ ?_
 ·
  exact Ks (Ks (Ks (Ks (Ks (Ks (Ks (Ks (Ks (Ks (Ks (Ks (Ks (Ks (Ks (Ks (Ks (Ks (Ks (Ks (Ks (Ks (Ks (Ks (Ks (Ks (Ks (Ks (Ks (Ks (KeepAll.nil))))))))))))))))))))))))))))))
 ·
  refine Gc (lr1 Ext.refl rfl rfl rfl (fun _ _ h => h) (fun r wx hR h1 => exec_loadW rowE rfl h1 ((HBx hR).at 2 rfl) rfl)) ?_
  refine Gc ?_ ?_
  ·
   rintro r wx hR ⟨h1, h2, _⟩
   replace h1 : r (.func 11) = .func (.func 11) #[] #[] := h1
   replace h2 : r (.tmp 32) = (.agg (EV e)) := h2
   refine give_func #[.agg (EV e)] rfl h1 Try.call11 (by simp [h2]) ?_
   refine (good_any _ _).mono ?_
   rintro x w' ⟨rfl, he⟩
   exact ⟨_, rfl, he, rfl⟩
  refine Gc (lr1 Ext.refl rfl rfl rfl (fun _ _ h => h) (fun r wx hR h1 => exec_loadW rowR rfl h1 ((HBx hR).at 3 rfl) rfl)) ?_
  refine Gc ?_ ?_
  ·
   rintro r wx hR ⟨h1, h2, _⟩
   replace h1 : r (.func 12) = .func (.func 12) #[] #[] := h1
   replace h2 : r (.tmp 34) = (.agg (EV e)) := h2
   refine give_func #[.agg (EV e)] rfl h1 Try.call12 (by simp [h2]) ?_
   refine (refGood_any _ _).mono ?_
   rintro x w' ⟨rfl, he⟩
   exact ⟨_, rfl, he, rfl⟩
  refine Gc (lr2 Ext.refl rfl rfl rfl (fun _ _ h => h) (fun _ _ h => h) (fun r wx hR h1 h2 => by simp [execOp, h1, h2, go_sem])) ?_
  refine Gc (lr1 Ext.refl rfl rfl rfl (fun _ _ h => h) (fun r wx hR h1 => exec_mv (.inl rfl) h1)) ?_
  refine Gc ?_ ?_
  ·
   rintro r wx hR ⟨h1, _⟩
   replace h1 : r (.tmp 6) = (.pointer (some ⟨wT.heap.size, 0, none⟩)) := h1
   intro gb hgb
   refine guard_in (b := gb) (want := false) hgb ?_
   exact gvo (exec_loadW rowE rfl h1 ((HBx hR).at 1 rfl) rfl) ⟨Ext.refl _, rfl⟩
  refine Gc ?_ ?_
  ·
   rintro r wx hR ⟨h1, _⟩
   replace h1 : r (.tmp 8) = (.pointer (some ⟨wR.heap.size, 0, none⟩)) := h1
   intro gb hgb
   refine guard_in (b := gb) (want := false) hgb ?_
   exact gvo (exec_loadW rowR rfl h1 ((HBx hR).at 0 rfl) rfl) ⟨Ext.refl _, rfl⟩
  refine Gc ?_ ?_
  ·
   rintro r wx hR ⟨h1, h2, _⟩
   replace h1 : r (.tmp 38) = (.agg (EV V)) := h1
   replace h2 : r (.tmp 39) = (.agg (EV V)) := h2
   intro gb hgb
   refine guard_in (b := gb) (want := false) hgb ?_
   exact gvo (exec_neqS (a := V) (b := V) esR rfl h1 h2) ⟨Ext.refl _, by rw [sameE_self]; rfl⟩
  refine Gc ?_ ?_
  ·
   rintro r wx hR ⟨h1, h2, h3, _⟩
   replace h1 : r (.tmp 37) = (.bool false) := h1
   replace h2 : r (.const (.bool true)) = .bool true := h2
   replace h3 : r (.tmp 40) = (.bool false) := h3
   exact give_pickF rfl h1 ⟨Ext.refl _, h3⟩
  refine Gc (lr1 Ext.refl rfl rfl rfl (fun _ _ h => h) (fun r wx hR h1 => exec_mv (.inl rfl) h1)) ?_
  refine Gc ?_ ?_
  ·
   rintro r wx hR ⟨h1, _⟩
   replace h1 : r (.tmp 9) = (.bool false) := h1
   intro gb hgb
   refine guard_in (b := gb) (want := false) hgb ?_
   exact give_move (.inl rfl) ⟨Ext.refl _, h1⟩
  refine Gc ?_ ?_
  ·
   rintro r wx hR ⟨h1, _⟩
   replace h1 : r (.tmp 7) = (errV 1) := h1
   intro gb hgb
   refine guard_in (b := gb) (want := false) hgb ?_
   exact give_move (.inl rfl) ⟨Ext.refl _, h1⟩
  refine Gc ?_ ?_
  ·
   rintro r wx hR ⟨h1, h2, _⟩
   replace h1 : r (.tmp 44) = (errV 1) := h1
   replace h2 : r (.const (.nilIface)) = .nilIface := h2
   intro gb hgb
   refine guard_in (b := gb) (want := false) hgb ?_
   exact gvo (exec_eqlV 1 rfl h1 h2) ⟨Ext.refl _, rfl⟩
  refine Gc ?_ ?_
  ·
   rintro r wx hR ⟨h1, h2, _⟩
   replace h1 : r (.tmp 43) = (.bool false) := h1
   replace h2 : r (.tmp 45) = (.bool false) := h2
   intro gb hgb
   refine guard_in (b := gb) (want := false) hgb ?_
   exact gvo (by simp [execOp, h1, h2, go_sem]) ⟨Ext.refl _, rfl⟩
  refine Gc ?_ ?_
  ·
   rintro r wx hR ⟨h1, h2, h3, _⟩
   replace h1 : r (.tmp 42) = (.bool false) := h1
   replace h2 : r (.const (.bool true)) = .bool true := h2
   replace h3 : r (.tmp 46) = (.bool false) := h3
   exact give_pickF rfl h1 ⟨Ext.refl _, h3⟩
  refine Gc (lr1 Ext.refl rfl rfl rfl (fun _ _ h => h) (fun r wx hR h1 => exec_mv (.inl rfl) h1)) ?_
  refine Gc ?_ ?_
  ·
   rintro r wx hR ⟨h1, _⟩
   replace h1 : r (.tmp 9) = (.bool false) := h1
   intro gb hgb
   refine guard_in (b := gb) (want := false) hgb ?_
   exact give_move (.inl rfl) ⟨Ext.refl _, h1⟩
  refine Gc ?_ ?_
  ·
   rintro r wx hR ⟨h1, _⟩
   replace h1 : r (.tmp 49) = (.bool false) := h1
   intro gb hgb
   refine guard_in (b := gb) (want := false) hgb ?_
   exact gvo (by simp [execOp, h1, go_sem]) ⟨Ext.refl _, rfl⟩
  refine Gc ?_ ?_
  ·
   rintro r wx hR ⟨h1, _⟩
   replace h1 : r (.tmp 50) = (.bool true) := h1
   intro gb hgb
   refine guard_in (b := gb) (want := false) hgb ?_
   exact give_move (.inl rfl) ⟨Ext.refl _, h1⟩
  refine Gc ?_ ?_
  ·
   rintro r wx hR ⟨h1, _⟩
   replace h1 : r (.tmp 7) = (errV 1) := h1
   intro gb hgb
   refine guard_in (b := gb) (want := true) hgb ?_
   exact give_move (.inl rfl) ⟨Ext.refl _, h1⟩
  refine Gc ?_ ?_
  ·
   rintro r wx hR ⟨h1, h2, h3, _⟩
   replace h1 : r (.func 13) = .func (.func 13) #[] #[] := h1
   replace h2 : r (.tmp 52) = (errV 1) := h2
   replace h3 : r (.const (.int .i64 1)) = .int .i64 1 := h3
   intro gb hgb
   refine guard_in (b := gb) (want := true) hgb ?_
   refine give_func #[errV 1, .int .i64 1] rfl h1 Try.call13 (by simp [h2, h3]) ?_
   refine (is_any _ _ _).mono ?_
   rintro x w' ⟨rfl, rfl⟩
   exact ⟨_, rfl, Ext.refl _, rfl⟩
  refine Gc ?_ ?_
  ·
   rintro r wx hR ⟨h1, _⟩
   replace h1 : r (.tmp 53) = (.bool true) := h1
   intro gb hgb
   refine guard_in (b := gb) (want := true) hgb ?_
   exact gvo (by simp [execOp, h1, go_sem]) ⟨Ext.refl _, rfl⟩
  refine Gc ?_ ?_
  ·
   rintro r wx hR ⟨h1, h2, h3, _⟩
   replace h1 : r (.tmp 51) = (.bool true) := h1
   replace h2 : r (.tmp 54) = (.bool false) := h2
   replace h3 : r (.const (.bool false)) = .bool false := h3
   intro gb hgb
   refine guard_in (b := gb) (want := false) hgb ?_
   exact give_pick rfl h1 ⟨Ext.refl _, h2⟩
  refine Gc ?_ ?_
  ·
   rintro r wx hR ⟨h1, h2, h3, _⟩
   replace h1 : r (.tmp 48) = (.bool false) := h1
   replace h2 : r (.const (.bool true)) = .bool true := h2
   replace h3 : r (.tmp 55) = (.bool false) := h3
   exact give_pickF rfl h1 ⟨Ext.refl _, h3⟩
  refine Gc (lr1 Ext.refl rfl rfl rfl (fun _ _ h => h) (fun r wx hR h1 => exec_mv (.inl rfl) h1)) ?_
  refine Gc ?_ ?_
  ·
   rintro r wx hR ⟨h1, _⟩
   replace h1 : r (.func 14) = .func (.func 14) #[] #[] := h1
   intro gb hgb
   refine guard_in (b := gb) (want := false) hgb ?_
   refine give_func #[] rfl h1 Try.call14 (by simp) ?_
   refine (first_any _).mono ?_
   rintro x w' ⟨rfl, he⟩
   exact ⟨_, rfl, he, rfl⟩
  refine Gc ?_ ?_
  ·
   rintro r wx hR ⟨h1, _⟩
   replace h1 : r (.func 15) = .func (.func 15) #[] #[] := h1
   intro gb hgb
   refine guard_in (b := gb) (want := false) hgb ?_
   refine give_func #[] rfl h1 Try.call15 (by simp) ?_
   refine (refFirst_any _).mono ?_
   rintro x w' ⟨rfl, he⟩
   exact ⟨_, rfl, he, rfl⟩
  refine Gc ?_ ?_
  ·
   rintro r wx hR ⟨h1, h2, _⟩
   replace h1 : r (.tmp 58) = (.agg (EV eF)) := h1
   replace h2 : r (.tmp 59) = (.agg (EV eF)) := h2
   intro gb hgb
   refine guard_in (b := gb) (want := false) hgb ?_
   exact gvo (exec_neqS (a := eF) (b := eF) esR rfl h1 h2) ⟨Ext.refl _, by rw [sameE_self]; rfl⟩
  refine Gc ?_ ?_
  ·
   rintro r wx hR ⟨h1, h2, h3, _⟩
   replace h1 : r (.tmp 57) = (.bool false) := h1
   replace h2 : r (.const (.bool true)) = .bool true := h2
   replace h3 : r (.tmp 60) = (.bool false) := h3
   exact give_pickF rfl h1 ⟨Ext.refl _, h3⟩
  exact GoodAll.nil
 ·
  intro vs wE aE hR hold haE
  have hv0 : vs 0 = (.agg (EV e)) := hold.at 0
  have hv1 : vs 1 = (.bool (goodB e)) := hold.at 1
  have hv2 : vs 2 = (.agg (EV e)) := hold.at 2
  have hv3 : vs 3 = (.bool (goodB e)) := hold.at 3
  have hv4 : vs 4 = (.bool false) := hold.at 4
  have hv5 : vs 5 = (.bool false) := hold.at 5
  have hv6 : vs 6 = (.agg (EV V)) := hold.at 6
  have hv7 : vs 7 = (.agg (EV V)) := hold.at 7
  have hv8 : vs 8 = (.bool false) := hold.at 8
  have hv9 : vs 9 = (.bool false) := hold.at 9
  have hv10 : vs 10 = (.bool false) := hold.at 10
  have hv11 : vs 11 = (.bool false) := hold.at 11
  have hv12 : vs 12 = (errV 1) := hold.at 12
  have hv13 : vs 13 = (.bool false) := hold.at 13
  have hv14 : vs 14 = (.bool false) := hold.at 14
  have hv15 : vs 15 = (.bool false) := hold.at 15
  have hv16 : vs 16 = (.bool false) := hold.at 16
  have hv17 : vs 17 = (.bool false) := hold.at 17
  have hv18 : vs 18 = (.bool true) := hold.at 18
  have hv19 : vs 19 = (.bool true) := hold.at 19
  have hv20 : vs 20 = (errV 1) := hold.at 20
  have hv21 : vs 21 = (.bool true) := hold.at 21
  have hv22 : vs 22 = (.bool false) := hold.at 22
  have hv23 : vs 23 = (.bool false) := hold.at 23
  have hv24 : vs 24 = (.bool false) := hold.at 24
  have hv25 : vs 25 = (.bool false) := hold.at 25
  have hv26 : vs 26 = (.agg (EV eF)) := hold.at 26
  have hv27 : vs 27 = (.agg (EV eF)) := hold.at 27
  have hv28 : vs 28 = (.bool false) := hold.at 28
  have hv29 : vs 29 = (.bool false) := hold.at 29
  simp only [putAll, Act.put, Nat.zero_add, Nat.reduceAdd, hv0, hv1, hv2, hv3, hv4, hv5, hv6, hv7, hv8, hv9, hv10, hv11, hv12, hv13, hv14, hv15, hv16, hv17, hv18, hv19, hv20, hv21, hv22, hv23, hv24, hv25, hv26, hv27, hv28, hv29, List.setIfInBounds_toArray, List.set_cons_succ, List.set_cons_zero] at haE
  subst haE
  clear hold hv0 hv1 hv2 hv3 hv4 hv5 hv6 hv7 hv8 hv9 hv10 hv11 hv12 hv13 hv14 hv15 hv16 hv17 hv18 hv19 hv20 hv21 hv22 hv23 hv24 hv25 hv26 hv27 hv28 hv29
  have HB' : Hid (Bs w wE [(wR.heap.size, V, 23), (wT.heap.size, V, 25), (w2.heap.size, e, 25), (w.heap.size, e, 23)]) := HBx hR
  clear HB HBx hR
  go_wp2_with (first
   | (have q := HBG; clear q; refine stop_at 6 rfl ?_)
   | (have q := HB'; clear q; refine wl_load rfl rowE rfl rfl (HB'.out.at 2 rfl) rfl ?_)
   | (go_at_call 11; refine (good_any _ _).mono ?_; rintro x wG ⟨rfl, heq⟩; rw [hg]; have HBG : Hid (Bs w wG [(wR.heap.size, V, 23), (wT.heap.size, V, 25), (w2.heap.size, e, 25), (w.heap.size, e, 23)]) := HB'.out.grow heq; clear heq HB'))
  refine ⟨?_⟩
  refine wpList_line 7 (fun t => bif Nat.ble 65 t && Nat.ble t 76 then some (t - 65) else bif Nat.beq t 4 then some 12 else none) 96 Ext
   [Is (.int .i64 0),
    Is (.bool ((0 : Int) == (0 : Int))),
    Is (.bool ((0 : Int) == (0 : Int))),
    Under ((((0 : Int) == (0 : Int)))) (.int .i64 0),
    Under ((((0 : Int) == (0 : Int)))) (.bool ((0 : Int) == (0 : Int))),
    Is (.bool (((0 : Int) == (0 : Int)) && (((0 : Int) == (0 : Int))))),
    Is (.bool (((0 : Int) == (0 : Int)) && (((0 : Int) == (0 : Int))))),
    Under (((((0 : Int) == (0 : Int)) && (((0 : Int) == (0 : Int)))))) (.agg (EV e)),
    Under (((((0 : Int) == (0 : Int)) && (((0 : Int) == (0 : Int)))))) (.agg (EV (twiceE e))),
    Under (((((0 : Int) == (0 : Int)) && (((0 : Int) == (0 : Int)))))) (.agg (EV eF)),
    Under (((((0 : Int) == (0 : Int)) && (((0 : Int) == (0 : Int)))))) (.bool (sameE (twiceE e) eF)),
    Is (.bool ((((0 : Int) == (0 : Int)) && (((0 : Int) == (0 : Int)))) && ((sameE (twiceE e) eF)))),
    Is (.bool ((((0 : Int) == (0 : Int)) && (((0 : Int) == (0 : Int)))) && ((sameE (twiceE e) eF))))]
   rfl (by kernel_rfl) rfl Ext.refl (fun _ _ _ => Ext.trans) (Ks (Ks (Ks (Ku (Ku (Ks (Ks (Ku (Ku (Ku (Ku (Ks (Ks (KeepAll.nil)))))))))))))) ?_ ?_ ?_
  ·
   intro i o hi ho
   by_cases hi0 : i = 0
   ·
    subst hi0; cases ho; exact ⟨_, fun d hd => by cases hd; rfl, rfl⟩
   by_cases hi1 : i = 1
   ·
    subst hi1; cases ho; exact ⟨_, fun d hd => by cases hd; rfl, rfl⟩
   by_cases hi2 : i = 2
   ·
    subst hi2; cases ho; exact ⟨_, fun d hd => by cases hd; rfl, rfl⟩
   by_cases hi3 : i = 3
   ·
    subst hi3; cases ho; exact ⟨_, fun d hd => by cases hd; rfl, rfl⟩
   by_cases hi4 : i = 4
   ·
    subst hi4; cases ho; exact ⟨_, fun d hd => by cases hd; rfl, rfl⟩
   by_cases hi5 : i = 5
   ·
    subst hi5; cases ho; exact ⟨_, fun d hd => by cases hd; rfl, rfl⟩
   by_cases hi6 : i = 6
   ·
    subst hi6; cases ho; exact ⟨_, fun d hd => by cases hd; rfl, rfl⟩
   exact absurd hi (by omega)
  ·
   refine goodFrom 7 ?_
   refine Gc (ln1 (gdU rfl (fun _ _ h => h) (want_t _)) rfl (ouU rfl) (fun _ _ h _ => h) (fun r wx hR h1 => exec_loadW rowE rfl h1 ((HBG.out.grow hR).at 2 rfl) rfl)) ?_
   refine Gc ?_ ?_
   ·
    rintro r wx hR ⟨h1, h2, _⟩
    replace h1 : r (.func 16) = .func (.func 16) #[] #[] := h1
    replace h2 : Under (((((0 : Int) == (0 : Int)) && (((0 : Int) == (0 : Int)))))) (.agg (EV e)) wx (r (.tmp 72)) := h2
    intro gb hgb
    refine guard_u (C := ((((0 : Int) == (0 : Int)) && (((0 : Int) == (0 : Int)))))) (b := (((0 : Int) == (0 : Int)) && (((0 : Int) == (0 : Int))))) (want := true) hgb (want_t _) (fun hc => ?_) (fun hc => un_ hc)
    replace h2 := h2.get hc
    refine give_func #[.agg (EV e)] rfl h1 Try.call16 (by simp [h2]) ?_
    refine (twice_any _ _).mono ?_
    rintro e wz ⟨rfl, hez⟩
    exact ⟨_, rfl, hez, uy hc⟩
   refine Gc ?_ ?_
   ·
    rintro r wx hR ⟨h1, _⟩
    replace h1 : r (.func 14) = .func (.func 14) #[] #[] := h1
    intro gb hgb
    refine guard_u (C := ((((0 : Int) == (0 : Int)) && (((0 : Int) == (0 : Int)))))) (b := (((0 : Int) == (0 : Int)) && (((0 : Int) == (0 : Int))))) (want := true) hgb (want_t _) (fun hc => ?_) (fun hc => un_ hc)
    refine give_func #[] rfl h1 Try.call14 (by simp []) ?_
    refine (first_any _).mono ?_
    rintro e wz ⟨rfl, hez⟩
    exact ⟨_, rfl, hez, uy hc⟩
   refine Gc (ln2 (gdU rfl (fun _ _ h => h) (want_t _)) rfl (ouU rfl) (fun _ _ h c => Eq.trans h (if_pos c)) (fun _ _ h c => Eq.trans h (if_pos c)) (fun r wx hR h1 h2 => exec_eqlS (a := twiceE e) (b := eF) esE rfl h1 h2)) ?_
   refine Gc (lnA (gd0 rfl) rfl (ouI rfl) (fun _ _ h _ => h) (fun _ _ h c hb => Eq.trans h (if_pos (by first | exact hb | (rw [hb]; rfl) | (rw [c, hb]; rfl))))) ?_
   refine Gc (ln1 (gd0 rfl) rfl (ouI rfl) (fun _ _ h _ => h) (fun r wx hR h1 => exec_mv (.inr rfl) h1)) ?_
   exact GoodAll.nil
  ·
   intro vs wE aE hR hold haE
   have hv : vs 12 = .bool ((((0 : Int) == (0 : Int)) && (((0 : Int) == (0 : Int)))) && ((sameE (twiceE e) eF))) := hold.at 12
   refine ‹∀ (a : Act) (w : World), Code.wp Try.prog Code.ret _ a w → _› _ _ ?_
   refine wp_ret ?_
   have hs : aE.tmps[4]? = some (.bool ((((0 : Int) == (0 : Int)) && (((0 : Int) == (0 : Int)))) && ((sameE (twiceE e) eF)))) := by rw [haE, ← hv]; kernel_rfl
   have hdf : aE.defers = [] := by rw [haE]; exact putAll_defers _ _ _ _
   clear haE
   try unfold Exit.then
   try unfold Exit.inBlock
   try dsimp only
   refine bodyPost_ret (v := .bool ((((0 : Int) == (0 : Int)) && (((0 : Int) == (0 : Int)))) && ((sameE (twiceE e) eF)))) ?_ hdf ⟨?_, HBG.out.1.trans hR⟩
   simp [results, Try.results3, go_sem, hs]
   rw [HTW.out, sameE_self]; rfl
end Rto
end Go.Proofs.Ytdjijipbfiofmaa
/- The law RtoTook walked: it answers true. No condition of its own. -/
namespace Go.Proofs.Ytdjijipbfiofmaa
namespace Rto
open Go Go.RowKit
set_option maxRecDepth 100000
theorem took_walk (e : E) (r : Int) (w : World) : Calls Try.prog 3 #[.agg (EV e), .int .i64 r] w fun x w' => x = .returned (.bool true) ∧ Ext w w' := by
 cases hk : okT e r with
 | true => exact took_walk_yy hk ((okT_iff e r).1 hk).1
 | false =>
  cases hg : goodB e with
  | true => exact took_walk_ny hk hg
  | false => exact took_walk_nn hk hg
end Rto
end Go.Proofs.Ytdjijipbfiofmaa
/- An argument that is a slice of numbers, opened. No condition of its own. -/
namespace Go.Proofs.Ytdjijipbfiofmaa
open Go.RowKit Go.ChangeShapes
end Go.Proofs.Ytdjijipbfiofmaa
namespace Go.Proofs.Ytdjijipbfiofmaa
open Go.ChangeShapes Go.WideShapes Go.ChangeAt Go.RowKit
open Go.ChangeMaps (open_string shut_string)
theorem rtoTookOwn : ownKnob Try.prog.godebug = none := by kernel_rfl
theorem rtoTookLaidOut : laidOutB Try.prog = true := by kernel_rfl
set_option maxRecDepth 100000 in
theorem rtoTookLifted (os : Os) (started : os.Started) (H : Type) (enc : TypeId × Value → H) :
  ReturnsInHanded {} Try.checked os 3 .any (Rows.rtoTookSpec.pre6 enc Try.prog Try.f3 Rows.rtoTookRow.domain false) (Rows.rtoTookSpec.post enc Try.prog Try.f3 false true false false) := by
 refine returnsInHanded_of_change (C := Try.checked) rtoTookOwn started (by kernel_rfl) Try.func3
  (ChangeSpec.witness6 (enc := enc) (C := Try.checked) false ⟨#[], #[.agg #[.int .i64 0, .int .i64 0, .int .i64 0, .bool false], .int .i64 0], []⟩ 8 (by kernel_rfl) (by kernel_rfl) (by kernel_rfl) (by kernel_rfl)) ?_
 intro W base args ds gs before hval0 hW hcnd _
 have hval : ∀ (j : Nat) t v, Try.f3.params[j]? = some t → args[j]? = some v → Value.okWide Try.prog W .any base t v := hval0
 have hW' := hW
 obtain ⟨p, q, hA0, hV, rfl, hfz, hnd⟩ := hW
 have hA : DataW.TrodAll enc Try.prog W 0 (fun _ => true) true Try.f3.params.toList args.toList ds p := hA0
 rw [Try.params3] at hA hval
 obtain ⟨v0, vs0, d0, ds0, p0, q0, hargs, rfl, rfl, h0, r0⟩ := trodAll_cons hA
 obtain ⟨v1, vs1, d1, ds1, p1, q1, rfl, rfl, rfl, h1, r1⟩ := trodAll_cons r0
 obtain ⟨rfl, rfl, rfl⟩ := trodAll_nil r1
 obtain rfl : args = #[v0, v1] := by cases args; simp_all
 obtain ⟨rfl, rfl⟩ := trodVars_none hV
 have k0 := h0
 have lt0 : ∀ x ∈ p0, x.block < W.heap.size := by obtain ⟨m, hm⟩ := k0; exact DataW.trod_lt m _ _ _ hm
 obtain ⟨x0, x1, x2, x3, y0, y1, y2, y3, fu0, rfl, hd0, hp0, t0, t1, t2, t3⟩ := Go.Joins.open_agg4 Try.underlying23 (by kernel_rfl) (by kernel_rfl) (hval 0 23 v0 rfl rfl) h0
 obtain ⟨f0, e0, _, w0⟩ := DataW.trod_int Try.underlying3 t0
 obtain ⟨f1, e1, _, w1⟩ := DataW.trod_int Try.underlying3 t1
 obtain ⟨f2, e2, _, w2⟩ := DataW.trod_int Try.underlying3 t2
 obtain ⟨f3, e3, _⟩ := DataW.trod_bool Try.underlying4 t3
 simp only [List.cons.injEq, and_true] at e0 e1 e2 e3
 subst e0 e1 e2 e3
 obtain ⟨a1, rfl, rfl, rfl, w1⟩ := open_int Try.underlying3 (hval 1 3 v1 rfl rfl) h1
 clear hA0 hval0
 refine (Rto.took_walk ⟨f0, f1, f2, f3⟩ a1 W).mono fun e W' ⟨he, bel⟩ => ?_
 subst he
 exact ⟨_, rfl, _, _, _, [], _, [], hW', trodAll_mk1 (shut_bool Try.underlying4 _), (trodAll_cons_mk (Below.trod rtoTookLaidOut (by kernel_rfl) (of_decide_eq_true (by kernel_rfl)) k0 bel lt0) (trodAll_cons_mk (shut_int Try.underlying3 w1) (trodAll_mk0))), rfl, bel.frame _, fun h => by cases h⟩
theorem rtoTookOver : Rows.rtoTookRow.holds Try.pinned (OpenSpec.ofChange Rows.rtoTookSpec) :=
 OpenClaim.holds_of_wide 3 Try.f3 rfl rfl rfl rfl rfl rfl rfl ⟨rfl, rfl, rfl, rfl, rfl⟩ rfl rfl rfl rfl rfl (by kernel_rfl) Try.func3 (by kernel_rfl)
  (of_decide_eq_true (by kernel_rfl)) (by unfold Func.isWrapper; first | (rw [if_pos (by decide +kernel)]; kernel_rfl) | (rw [if_neg (by decide +kernel)]; exact ⟨rfl, rfl⟩))
  (fun os started H enc _ => rtoTookLifted os started H enc)
/-- THE STATEMENT. -/
theorem rtoTook_holds : Rows.RtoTookSaid := rtoTookOver
#print axioms rtoTook_holds
end Go.Proofs.Ytdjijipbfiofmaa
