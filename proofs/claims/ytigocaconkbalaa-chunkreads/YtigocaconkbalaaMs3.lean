/- Texts of the seat, one behind the other. No condition of its own. -/
import Derived.Test.YtigocaconkbalaaMs2
import Derived.BigQuiet
import Derived.Deep.QuietTactic
import Derived.Laws.StructEq
set_option linter.unusedVariables false
set_option linter.unusedSimpArgs false
set_option maxHeartbeats 32000000
set_option maxRecDepth 100000
namespace Go.Proofs.Ytigocaconkbalaa
namespace Tlv
open Go Go.RowKit
theorem bytes_lt {w : World} {v : Value} {l : List Nat} (h : BytesAt w v l) (hne : l ≠ []) {k : Nat} (hk : blockOf v = some k) : k < w.heap.size := by
 obtain ⟨_, _, ⟨h0, _⟩ | ⟨ad, cap, rfl, _, _, hc⟩⟩ := h
 ·
  exact absurd h0 hne
 ·
  have hl : 0 < l.length := List.length_pos_iff.2 hne
  have := cell_lt (hc 0 hl)
  rw [add_block] at this
  cases hk
  exact this
def Off (g : Nat) (v u : Value) (m : List Nat) : Prop := m ≠ [] → ∀ k, blockOf u = some k → k ≠ g ∧ v.ownBlock ≠ some k
theorem Moved.bytes {w w' : World} {g : Nat} {v v' u : Value} {m : List Nat} (hm : Moved w w' g v v') (hu : BytesAt w u m) (ho : Off g v u m) : BytesAt w' u m ∧ Off g v' u m := by
 by_cases h0 : m = []
 ·
  subst h0
  obtain ⟨h1, h2, ⟨_, rfl⟩ | ⟨ad, cap, rfl, h4, h5, _⟩⟩ := hu
  ·
   exact ⟨BytesAt.none _, fun h => absurd rfl h⟩
  ·
   exact ⟨⟨h1, h2, .inr ⟨ad, cap, rfl, h4, h5, fun j hj => by simp at hj⟩⟩, fun h => absurd rfl h⟩
 ·
  refine ⟨bytes_but hu hm.keep (fun k hk => ?_), fun _ k hk => ⟨(ho h0 k hk).1, fun e => ?_⟩⟩
  ·
   rintro (e | e)
   ·
    exact (ho h0 k hk).1 e
   ·
    exact (ho h0 k hk).2 e
  ·
   rcases hm.came k e with e1 | e1
   ·
    exact (ho h0 k hk).2 e1
   ·
    have := bytes_lt hu h0 hk; omega
theorem Moved.blk {w w' : World} {base g q t : Nat} {v v' : Value} {l : List Nat} {C : Array Value} (hm : Moved w w' g v v') (ho : OutAt w base g v l) (hb : Blk w q C t) (ht : t ≠ 5) (hq : q ≠ g) : Blk w' q C t :=
 hb.but hm.keep (fun e => e.elim hq (fun e => ho.own.ne hb ht q e rfl))
theorem wrapM (M : Nat) (h : M < 1000000) : IntKind.i64.wrap (M : Int) = (M : Int) ∧ IntKind.u64.wrap (M : Int) = (M : Int) ∧ wrap64 (M : Int) = (M : Int) ∧ (M : Int) % 18446744073709551616 = (M : Int) := by
 refine ⟨by rw [IntKind.wrap_i64]; omega, by rw [IntKind.wrap_u64]; omega, by unfold wrap64; omega, Int.emod_eq_of_lt (by omega) (by omega)⟩
theorem numB2 (N : Nat) : numB N 2 = be N 2 := rfl
theorem outParam_any {w : World} {base g : Nat} {v u : Value} {l m : List Nat} (h : OutAt w base g v l) (K : Nat) (hK : K < 65536) (hu : BytesAt w u m) (ho : Off g v u m) (hm : m.length ≤ 4000) (h4 : l.length % 4 = 0) (hl : l.length ≤ 800000) (hbase : base ≤ w.heap.size) :
  Calls Try.prog 98 #[ptr g, .agg #[.int .i64 (K : Int), u]] w fun e w' => (∃ y, e = .returned y) ∧ ∃ v', OutAt w' base g v' (l ++ parB ((K : Int), m)) ∧ Moved w w' g v v' := by
 obtain ⟨ua, uc, rfl, _, _⟩ := hu.form
 rename_i z1 z2
 clear z1 z2
 have HE : Hid (padB (((l ++ numB K 2) ++ numB (m.length + 4) 2) ++ m) = l ++ parB ((K : Int), m)) := show _ = _ by
  rw [padB_app (by rw [List.length_append, List.length_append, numB2, numB2, be_len, be_len]; omega), numB2, numB2]
  unfold parB
  simp
 have H : Hid (OutAt w base g v l ∧ g < w.heap.size ∧ l.length ≤ 800000 ∧ base ≤ w.heap.size ∧ m.length ≤ 4000) := ⟨h, h.blk.lt, hl, hbase, hm⟩
 have HU : Hid (BytesAt w (.slice ua m.length uc) m ∧ Off g v (.slice ua m.length uc) m) := ⟨hu, ho⟩
 have wK := (wrapM K (by omega)).2.1
 obtain ⟨M, hM⟩ : ∃ M, M = m.length + 4 := ⟨_, rfl⟩
 have HM : Hid (M = m.length + 4) := hM
 have eM : (m.length : Int) + 4 = (M : Int) := by omega
 have hM1 : M < 1000000 := by omega
 have wM1 := (wrapM M hM1).1
 have wM2 := (wrapM M hM1).2.1
 have wM3 := (wrapM M hM1).2.2.1
 have wM4 := (wrapM M hM1).2.2.2
 rw [← hM] at HE
 clear h hl hbase hu ho hM
 go_enter Try.func98, Try.ntmps98
 go_wp2_with (first
  | (refine wl_box (C := #[.int .i64 (K : Int), .slice ua m.length uc]) rfl rfl rfl ?_; intro w1 hb1 he1 hx; clear hx; have c0 := hb1.cell 0; have HB1 : Hid (OutAt w1 base g v l ∧ base ≤ w1.heap.size ∧ BytesAt w1 (.slice ua m.length uc) m) := ⟨H.out.1.ext he1, Nat.le_trans H.out.2.2.2.1 he1.size, HU.out.1.ext he1⟩; have HN1 : Hid (Blk w1 w.heap.size #[.int .i64 (K : Int), .slice ua m.length uc] 138 ∧ w.heap.size ≠ g) := ⟨hb1, by have := H.out; omega⟩; clear hb1)
  | (go_at_call 27; have q := hm2; clear q; refine (outNum_any ho2 M 2 (by have := H.out; have := numB_len K 2; rw [List.length_append]; omega) (Nat.le_trans HB1.out.2.1 hm2.keep.size)).mono ?_; rintro e w3 ⟨⟨y3, rfl⟩, v3, ho3, hm3⟩; have hb3 := hm3.blk ho2 HN2.out (by decide) HN1.out.2; have c1 := hb3.cell 1; have HN3 : Hid (Blk w3 w.heap.size #[.int .i64 (K : Int), .slice ua m.length uc] 138) := hb3; have HU3 : Hid _ := hm3.bytes HU2.out.1 HU2.out.2; clear hb3)
  | (go_at_call 27; refine (outNum_any HB1.out.1 K 2 (by have := H.out; omega) HB1.out.2.1).mono ?_; rintro e w2 ⟨⟨y2, rfl⟩, v2, ho2, hm2⟩; have hb2 := hm2.blk HB1.out.1 HN1.out.1 (by decide) HN1.out.2; have c1 := hb2.cell 1; have HN2 : Hid (Blk w2 w.heap.size #[.int .i64 (K : Int), .slice ua m.length uc] 138) := hb2; have HU2 : Hid _ := hm2.bytes HB1.out.2.2 HU.out.2; clear hb2)
  | (go_at_call 29; refine (outPut_any ho3 HU3.out.1 (by have := H.out; have := numB_len K 2; have := numB_len M 2; rw [List.length_append, List.length_append]; omega) (Nat.le_trans HB1.out.2.1 (Nat.le_trans hm2.keep.size hm3.keep.size))).mono ?_; rintro e w4 ⟨⟨y4, rfl⟩, v4, ho4, hm4⟩)
  | (go_at_call 30; refine (outPad_any ho4 (by have := H.out; have := numB_len K 2; have := numB_len M 2; rw [List.length_append, List.length_append, List.length_append]; omega) (Nat.le_trans HB1.out.2.1 (Nat.le_trans hm2.keep.size (Nat.le_trans hm3.keep.size hm4.keep.size)))).mono ?_; rintro e w5 ⟨⟨y5, rfl⟩, v5, ho5, hm5⟩))
 go_end0
 refine ⟨⟨_, rfl⟩, v5, by rw [← HE.out]; exact ho5, (((((Moved.ext he1 _ _).trans hm2).trans hm3).trans hm4).trans hm5)⟩
def pc (M : List (Par × Value)) : List Value := M.flatMap fun m => [.int .i64 m.1.1, m.2]
theorem pc_app (M N : List (Par × Value)) : pc (M ++ N) = pc M ++ pc N := by simp [pc]
theorem pc_get {M : List (Par × Value)} : ∀ {i : Nat} {m : Par × Value}, M[i]? = some m → (pc M)[i * 2]? = some (.int .i64 m.1.1) ∧ (pc M)[i * 2 + 1]? = some m.2 := by
 induction M with
 | nil => intro i m h; simp at h
 | cons x M ih =>
  intro i m h
  have e : pc (x :: M) = .int .i64 x.1.1 :: x.2 :: pc M := rfl
  cases i with
  | zero => simp at h; subst h; exact ⟨rfl, rfl⟩
  | succ i =>
   have := ih (i := i) (m := m) (by simpa using h)
   rw [e, show (i + 1) * 2 = i * 2 + 1 + 1 by omega]
   simpa using this
def ParsAt (w : World) (v : Value) (L : List Par) : Prop :=
 L.length ≤ maxLen ∧ ∃ a cap, v = .slice a L.length cap ∧ ∀ i p, L[i]? = some p → ∃ b off u, a = some ⟨b, off, none⟩ ∧ w.cell? ⟨b, off + i * 2, none⟩ = some (.int .i64 p.1) ∧ w.cell? ⟨b, off + i * 2 + 1, none⟩ = some u ∧ BytesAt w u p.2
theorem ParsAt.ext {w w' : World} {v : Value} {L : List Par} (h : ParsAt w v L) (he : Ext w w') : ParsAt w' v L := by
 obtain ⟨h1, a, cap, rfl, hc⟩ := h
 refine ⟨h1, a, cap, rfl, fun i p hp => ?_⟩
 obtain ⟨b, off, u, e, h2, h3, h4⟩ := hc i p hp
 exact ⟨b, off, u, e, he.cell h2, he.cell h3, h4.ext he⟩
structure OwnL (e : TypeId) (w : World) (base : Nat) (v : Value) (L : List Par) : Prop where
 it : ∃ M : List (Par × Value), L = M.map (·.1) ∧ w.ownsRow base e 2 v M.length (pc M) ∧ ∀ m ∈ M, OB w base m.2 m.1.2
theorem OwnL.nil (e : TypeId) (w : World) (base : Nat) : OwnL e w base (.slice none 0 0) [] := ⟨[], rfl, World.ownsRow_nil _ _ _ _, fun m hm => by cases hm⟩
theorem OwnL.lt {e : TypeId} {w : World} {base : Nat} {v : Value} {L : List Par} (h : OwnL e w base v L) {g : Nat} (hg : v.ownBlock = some g) : base ≤ g ∧ ∃ C, Blk w g C e := by
 obtain ⟨M, _, hr, _⟩ := h
 rcases hr.2 with ⟨rfl, _⟩ | ⟨g', cap, cur, rfl, hb, hgb, _⟩
 ·
  cases hg
 ·
  cases hg; exact ⟨hb, cur, hgb⟩
theorem ownsRow_but {S : Nat → Prop} {w w' : World} {base e size n : Nat} {v : Value} {xs : List Value} (h : w.ownsRow base e size v n xs) (hk : KeepBut S w w') (hn : ∀ g, v.ownBlock = some g → ¬ S g) : w'.ownsRow base e size v n xs := by
 refine ⟨h.1, ?_⟩
 rcases h.2 with h0 | ⟨g, cap, cur, rfl, hb, hg, h4⟩
 ·
  exact .inl h0
 ·
  exact .inr ⟨g, cap, cur, rfl, hb, (hk.block g (Array.getElem?_eq_some_iff.1 hg).1 (hn g rfl)).trans hg, h4⟩
theorem OwnL.but {S : Nat → Prop} {e : TypeId} {w w' : World} {base : Nat} {v : Value} {L : List Par} (h : OwnL e w base v L) (hk : KeepBut S w w') (hn : ∀ k C, Blk w k C e ∨ Blk w k C 5 → base ≤ k → ¬ S k) : OwnL e w' base v L := by
 obtain ⟨M, hM, hr, ho⟩ := id h.it
 refine ⟨M, hM, ownsRow_but hr hk (fun g hg => ?_), fun m hm => (ho m hm).but hk (fun k hk' => ?_)⟩
 ·
  obtain ⟨h1, C, h2⟩ := h.lt hg
  exact hn g C (.inl h2) h1
 ·
  have hb := (ho m hm).lt hk'
  rcases (ho m hm).own.1.2 with ⟨e1, _⟩ | ⟨g', cap, cur, e1, _, hg, _⟩
  ·
   rw [e1] at hk'; cases hk'
  ·
   rw [e1] at hk'; cases hk'
   exact hn _ cur (.inr hg) hb.1
theorem OwnL.ext {e : TypeId} {w w' : World} {base : Nat} {v : Value} {L : List Par} (h : OwnL e w base v L) (he : Ext w w') : OwnL e w' base v L := h.but (KeepBut.ext (S := fun _ => False) he) (fun _ _ _ _ h => h)
theorem OwnL.base {e : TypeId} {w : World} {base base' : Nat} {v : Value} {L : List Par} (h : OwnL e w base v L) (hb : base' ≤ base) : OwnL e w base' v L := by
 obtain ⟨M, hM, hr, ho⟩ := h
 refine ⟨M, hM, ⟨hr.1, ?_⟩, fun m hm => (ho m hm).base hb⟩
 rcases hr.2 with h0 | ⟨g, cap, cur, rfl, h1, h2⟩
 ·
  exact .inl h0
 ·
  exact .inr ⟨g, cap, cur, rfl, Nat.le_trans hb h1, h2⟩
theorem OwnL.form {e : TypeId} {w : World} {base : Nat} {v : Value} {L : List Par} (h : OwnL e w base v L) : ∃ a cap, v = .slice a L.length cap := by
 obtain ⟨M, rfl, hr, _⟩ := h
 rw [List.length_map]
 rcases hr.2 with ⟨rfl, h0⟩ | ⟨g, cap, cur, rfl, _⟩
 ·
  exact ⟨none, 0, by rw [h0]⟩
 ·
  exact ⟨_, _, rfl⟩
structure ParT (t e : TypeId) : Prop where
 ut : Try.prog.underlying t = some (.slice e)
 info : (Try.prog.info? e).map (fun i => (i.zero, i.size, i.bytes)) = some (some (.agg #[.int .i64 0, .slice none 0 0]), 2, 32)
 ne : e ≠ 5
theorem parT : ParT 142 138 := ⟨Try.underlying142, by kernel_rfl, by decide⟩
theorem run_pushP {t e : TypeId} (hT : ParT t e) (w : World) (base ty b : Nat) (v u : Value) (L : List Par) (k : Int) (val : List Nat) (hv : OwnL e w base v L) (h0 : w.cell? ⟨b, 0, none⟩ = some (.int .i64 k)) (h1 : w.cell? ⟨b, 1, none⟩ = some u) (hu : OB w base u val) (hlen : L.length ≤ 100000) (hbase : base ≤ w.heap.size) :
  ∃ a c w', (Builtin.append_ #[t, t] ty #[v, .slice (some ⟨b, 0, none⟩) 1 1]).run Try.prog w = .ok (.slice a (L.length + 1) c) w' ∧ OwnL e w' base (.slice a (L.length + 1) c) (L ++ [(k, val)]) ∧ KeepBut (fun q => v.ownBlock = some q) w w' ∧ ∀ g, (Value.slice a (L.length + 1) c).ownBlock = some g → v.ownBlock = some g ∨ g = w.heap.size := by
 obtain ⟨M, rfl, hr, ho⟩ := id hv.it
 obtain ⟨i, hi, hinf⟩ := Option.map_eq_some_iff.1 hT.info
 simp only [Prod.mk.injEq] at hinf
 obtain ⟨ua, uc, hue⟩ := hu.form
 rw [List.length_map] at hlen
 obtain ⟨v', w', hrun, g1, g2, _, g4⟩ := run_append_own_at (P := Try.prog) w base t ty e i _ 2 32 hT.ut hi hinf.1 hinf.2.1 hinf.2.2 rfl (by omega) v M.length (pc M) hr ⟨b, 0, none⟩ 1 1 [.int .i64 k, u] rfl
  (fun j x hx => by
   rw [add_plain, Nat.zero_add]
   match j with
   | 0 => simp at hx; subst hx; exact h0
   | 1 => simp at hx; subst hx; exact h1
   | j + 2 => simp at hx)
  (fun x hx => by
   simp at hx
   rcases hx with rfl | rfl
   ·
    rfl
   ·
    rw [hue]; rfl) (by unfold maxLen; omega) (by omega) hbase
 have hk : KeepBut (fun q => v.ownBlock = some q) w w' := KeepBut.grown g2 (fun r e => e)
 have hOB : ∀ x l, OB w base x l → OB w' base x l := fun x l hx => hx.but hk (fun q hq hvq => by
  obtain ⟨_, C, hC⟩ := hv.lt hvq
  exact hx.ne hC hT.ne q hq rfl)
 have hL : OwnL e w' base v' (M.map (·.1) ++ [(k, val)]) := ⟨M ++ [((k, val), u)], by simp, by
  rw [List.length_append, pc_app]; exact g1, fun m hm => by
  rcases List.mem_append.1 hm with hm | hm
  ·
   exact hOB _ _ (ho m hm)
  ·
   simp at hm; subst hm; exact hOB _ _ hu⟩
 obtain ⟨a, c, rfl⟩ := hL.form
 rw [List.length_append, List.length_singleton] at hL hrun g4
 refine ⟨a, c, w', hrun, hL, hk, fun g hg => ?_⟩
 rcases g4 with g4 | g4
 ·
  exact .inl (by rw [← g4]; exact hg)
 ·
  exact .inr (by have := g4.symm.trans hg; simpa using this.symm)
theorem exec_loadC {r : Operand → Value} {o : Oper} {t : TypeId} {n : Nat} (hT : RowT Try.prog t n) {x : Operand} {b off : Nat} {w : World} (ho : o.op = .load t x) (hx : r x = .pointer (some ⟨b, off, none⟩)) (L : List Value) (hL : ∀ j v, L[j]? = some v → w.cell? ⟨b, off + j, none⟩ = some v) (hn : L.length = n) :
  (execOp r o).run Try.prog w = .ok (.value (.agg L.toArray)) w := by
 obtain ⟨d, hu, hd⟩ := hT.d
 have := run_loadVar_mid (P := Try.prog) w b off t L d hL hu hd (by rw [hn]; exact hT.s)
 simp only [execOp, ho, hx, Instr.loadAt, Instr.sureAddr, Sem.run_bind, Sem.run_pure, Result.andThen_ok, this]
theorem wl_loadP {w : World} {ops : Array Oper} {rest : List Oper} {o : Oper} {a : Act} {Q : Exit → Act → World → Prop} (hgd : o.guard = none) {t : TypeId} (hT : RowT Try.prog t 2) {x : Operand} {b off : Nat} {v0 v1 : Value} (ho : o.op = .load t x) (hx : a.eval x = .pointer (some ⟨b, off, none⟩)) (h0 : w.cell? ⟨b, off, none⟩ = some v0) (h1 : w.cell? ⟨b, off + 1, none⟩ = some v1)
  (h : wpList Try.prog ops Q rest (a.put o.dst (.agg #[v0, v1])) w) : wpList Try.prog ops Q (o :: rest) a w :=
 wpList_of_run hgd (exec_loadC hT ho hx [v0, v1] (fun j v hv => by
  match j with
  | 0 => simp at hv; subst hv; exact h0
  | 1 => simp at hv; subst hv; exact h1
  | j + 2 => simp at hv) rfl) h
theorem zeroO : (Try.prog.info? 74).bind (·.zero) = some (.agg #[.slice none 0 0]) := by kernel_rfl
theorem Moved.extO {w0 w w' : World} {base g : Nat} {v v' : Value} {l : List Nat} (hm : Moved w w' g v v') (ho : OutAt w base g v l) (he : Ext w0 w) (hb : w0.heap.size ≤ base) (hg : w0.heap.size ≤ g) : Ext w0 w' :=
 he.of_but hm.keep (fun k e => e.elim (fun e => by omega) (fun e => Nat.le_trans hb (ho.own.lt e).1))
theorem writeB_app (A B : List Par) : writeB (A ++ B) = writeB A ++ writeB B := by simp [writeB]
theorem writeB_take (L : List Par) (i : Nat) : (writeB (L.take i)).length ≤ (writeB L).length := by
 have e : writeB L = writeB (L.take i) ++ writeB (L.drop i) := by rw [← writeB_app, List.take_append_drop]
 have e2 := congrArg List.length e
 rw [List.length_append] at e2
 omega
theorem goodP_of {k : Int} {m : List Nat} (h1 : isKd k = true) (h2 : m.length ≤ 4000) : goodP (k, m) = true := by
 unfold isKd at h1; simp at h1
 rw [goodP_iff]; exact ⟨h1.1, h1.2, h2⟩
theorem good_kd {p : Par} (h : goodP p = true) : isKd p.1 = true ∧ p.2.length ≤ 4000 := by
 have := (goodP_iff p).1 h
 exact ⟨by unfold isKd; simp; omega, this.2.2⟩
theorem take_getD {L : List Par} {i : Nat} {p : Par} (h : L[i]? = some p) : L.take (i + 1) = L.take i ++ [p] := by
 have hi := (List.getElem?_eq_some_iff.1 h)
 rw [List.take_succ_eq_append_getElem hi.1, hi.2]
def WriteIs (w : World) (L : List Par) (e : Ending) (w' : World) : Prop :=
 Ext w w' ∧ ((∃ a n c, e = .returned (.tuple #[.slice a n c, .nilIface]) ∧ n = (writeB L).length ∧ OB w' w.heap.size (.slice a n c) (writeB L) ∧ ∀ p ∈ L, goodP p = true) ∨ (e = .returned (.tuple #[.slice none 0 0, errF]) ∧ ∃ p ∈ L, goodP p = false))
theorem write_any {w : World} {v : Value} {L : List Par} (hv : ParsAt w v L) (hlen : (writeB L).length ≤ 700000) (hL : L.length ≤ 100000) :
  Calls Try.prog 89 #[v] w (WriteIs w L) := by
 obtain ⟨_, a, cap, rfl, hc⟩ := hv
 have HC : Hid (∀ i p, L[i]? = some p → ∃ b off u, a = some ⟨b, off, none⟩ ∧ w.cell? ⟨b, off + i * 2, none⟩ = some (.int .i64 p.1) ∧ w.cell? ⟨b, off + i * 2 + 1, none⟩ = some u ∧ BytesAt w u p.2) := hc
 have HL : Hid ((writeB L).length ≤ 700000) := hlen
 clear hc hlen
 obtain ⟨n, hn⟩ : ∃ n, n = L.length := ⟨_, rfl⟩
 have HN : Hid (n = L.length) := hn
 rw [← hn] at hL ⊢
 clear hn
 go_enter Try.func89, Try.ntmps89
 go_wp2_with (first
  | (refine wl_alloc rfl rfl zeroO ?_; intro w1 hb1 he1 hx; clear hx))
 have HO : Hid (OutAt w1 w.heap.size w.heap.size (.slice none 0 0) [] ∧ Ext w w1) := ⟨⟨hb1, OB.nil _ _⟩, he1⟩
 clear hb1 he1
 go_loopg [9] n (fun gm t wr => ∃ (i : Nat) (v1 : Value), i ≤ n ∧ gm = n - i ∧ t = .int .i64 (i : Int) ∧ Hid (OutAt wr w.heap.size w.heap.size v1 (writeB (L.take i)) ∧ Ext w wr ∧ ∀ p ∈ L.take i, goodP p = true))
 case atStart => exact ⟨0, _, Nat.zero_le _, rfl, rfl, HO.out.1, HO.out.2, fun p hp => by cases hp⟩
 case round =>
  obtain ⟨i, v1, hi, rfl, rfl, HR⟩ := hrel
  by_cases hlt : i < n
  ·
   have hd : decide ((i : Int) < (n : Int)) = true := decide_eq_true (by omega)
   obtain ⟨p, hp⟩ : ∃ p, L[i]? = some p := ⟨L[i]'(by rw [← HN.out]; exact hlt), by simp⟩
   have HP : Hid (L[i]? = some p ∧ L.take (i + 1) = L.take i ++ [p] ∧ p ∈ L) := ⟨hp, take_getD hp, List.mem_of_getElem? hp⟩
   obtain ⟨b, off, u, rfl, hc0, hc1, hbu⟩ := HC.out i p hp
   clear hp
   have c0 := HR.out.2.1.cell hc0
   have c1 := HR.out.2.1.cell hc1
   clear hc0 hc1
   obtain ⟨k, m⟩ := p
   obtain ⟨ua, uc, rfl, _, _⟩ := hbu.form
   rename_i z1 z2
   clear z1 z2
   have HU : Hid (BytesAt w (.slice ua m.length uc) m ∧ Off w.heap.size v1 (.slice ua m.length uc) m) := ⟨hbu, fun hne q hq => by
    have h1 := bytes_lt hbu hne hq
    exact ⟨by omega, fun e => by have := (HR.out.1.own.lt e).1; omega⟩⟩
   clear hbu
   have LD : ∀ {w2 : World}, Blk w2 wr.heap.size #[.int .i64 k, .slice ua m.length uc] 138 → w2.cell? ⟨wr.heap.size, 0, none⟩ = some (.int .i64 k) ∧ w2.cell? ⟨wr.heap.size, 1, none⟩ = some (.slice ua m.length uc) := fun h => ⟨h.cell 0, h.cell 1⟩
   cases hkd : isKd k with
   | false =>
    go_wp2_with (first
     | (refine wl_loadP rfl rowP rfl rfl c0 c1 ?_)
     | (refine wl_alloc rfl rfl zeroP ?_; intro w2 hb2 he2 hx; clear hx)
     | (refine wl_store (D := #[.int .i64 k, .slice ua m.length uc]) rfl rowP rfl rfl rfl hb2 rfl rfl (one_par _ _ rfl) ?_; intro w3 hb3 hk3 hx; clear hx; have c3 := (LD hb3).1; have c4 := (LD hb3).2; have HE3 : Hid (Ext wr w3) := he2.of_but hk3 (fun q e => by subst e; exact Nat.le_refl _); clear hk3 he2 hb2)
     | (go_at_call 97; refine (isKind_any _ _).mono ?_; rintro e w4 ⟨rfl, hw⟩; subst w4; rw [hkd]))
    go_ret2
    exact ⟨HR.out.2.1.trans HE3.out, .inr ⟨rfl, (k, m), HP.out.2.2, by
     cases hg : goodP (k, m) with
     | false => rfl
     | true => have := (good_kd hg).1; rw [show isKd (k, m).1 = isKd k from rfl, hkd] at this; cases this⟩⟩
   | true =>
    by_cases hm : m.length ≤ 4000
    ·
     have hdm : decide ((m.length : Int) > 4000) = false := decide_eq_false (by omega)
     have hgood := goodP_of hkd hm
     obtain ⟨K, rfl⟩ : ∃ K : Nat, k = (K : Int) := ⟨k.toNat, by have := (goodP_iff (k, m)).1 hgood; simp only at this; omega⟩
     have hK : K < 65536 := by have := (goodP_iff ((K : Int), m)).1 hgood; simp only at this; omega
     have HG : Hid (goodP ((K : Int), m) = true ∧ writeB (L.take (i + 1)) = writeB (L.take i) ++ parB ((K : Int), m)) := ⟨hgood, by rw [HP.out.2.1, writeB_snoc]⟩
     clear hgood
     go_wp2_with (first
      | (have q := HE3; clear q; refine wl_load rfl rowP rfl rfl hb3 rfl ?_)
      | (refine wl_loadP rfl rowP rfl rfl c0 c1 ?_)
      | (refine wl_alloc rfl rfl zeroP ?_; intro w2 hb2 he2 hx; clear hx)
      | (refine wl_store (D := #[.int .i64 (K : Int), .slice ua m.length uc]) rfl rowP rfl rfl rfl hb2 rfl rfl (one_par _ _ rfl) ?_; intro w3 hb3 hk3 hx; clear hx; have c3 := (LD hb3).1; have c4 := (LD hb3).2; have HE3 : Hid (Ext wr w3) := he2.of_but hk3 (fun q e => by subst e; exact Nat.le_refl _); clear hk3 he2 hb2)
      | (go_at_call 97; refine (isKind_any _ _).mono ?_; rintro e w4 ⟨rfl, hw⟩; subst w4; rw [hkd])
      | (go_at_call 98; refine (outParam_any (HR.out.1.ext HE3.out) K hK (HU.out.1.ext (HR.out.2.1.trans HE3.out)) HU.out.2 hm (writeB_mod _) (by have := writeB_take L i; have := HL.out; omega) (Nat.le_trans HR.out.2.1.size HE3.out.size)).mono ?_; rintro e w5 ⟨⟨y5, rfl⟩, v5, ho5, hm5⟩))
     go_roundg (n - (i + 1))
     case measure => omega
     case rel =>
      refine ⟨i + 1, v5, by omega, rfl, by simp, by rw [HG.out.2]; exact ho5, hm5.extO (HR.out.1.ext HE3.out) (HR.out.2.1.trans HE3.out) (Nat.le_refl _) (Nat.le_refl _), fun p hp => ?_⟩
      rw [HP.out.2.1] at hp
      rcases List.mem_append.1 hp with hp | hp
      ·
       exact HR.out.2.2 p hp
      ·
       simp at hp; subst hp; exact HG.out.1
    ·
     have hdm : decide ((m.length : Int) > 4000) = true := decide_eq_true (by omega)
     go_wp2_with (first
      | (refine wl_loadP rfl rowP rfl rfl c0 c1 ?_)
      | (refine wl_alloc rfl rfl zeroP ?_; intro w2 hb2 he2 hx; clear hx)
      | (refine wl_store (D := #[.int .i64 k, .slice ua m.length uc]) rfl rowP rfl rfl rfl hb2 rfl rfl (one_par _ _ rfl) ?_; intro w3 hb3 hk3 hx; clear hx; have c3 := (LD hb3).1; have c4 := (LD hb3).2; have HE3 : Hid (Ext wr w3) := he2.of_but hk3 (fun q e => by subst e; exact Nat.le_refl _); clear hk3 he2 hb2)
      | (go_at_call 97; refine (isKind_any _ _).mono ?_; rintro e w4 ⟨rfl, hw⟩; subst w4; rw [hkd]))
     go_ret2
     exact ⟨HR.out.2.1.trans HE3.out, .inr ⟨rfl, (k, m), HP.out.2.2, by
      cases hg : goodP (k, m) with
      | false => rfl
      | true => exact absurd (good_kd hg).2 hm⟩⟩
  ·
   have hd : decide ((i : Int) < (n : Int)) = false := decide_eq_false (by omega)
   have HT : Hid (L.take i = L) := List.take_of_length_le (by rw [← HN.out]; omega)
   rw [HT.out] at HR
   obtain ⟨oa, oc, rfl⟩ := HR.out.1.len
   obtain ⟨q, hq⟩ : ∃ q, q = (writeB L).length := ⟨_, rfl⟩
   have HQ : Hid (q = (writeB L).length) := hq
   rw [← hq] at HR
   clear hq
   have c0 := HR.out.1.blk.cell 0
   go_wp2
   go_ret2
   exact ⟨HR.out.2.1, .inl ⟨_, _, _, rfl, HQ.out, HR.out.1.own, HR.out.2.2⟩⟩
def ParamsIs (w : World) (B : List Nat) (e : Ending) (w' : World) : Prop :=
 Ext w w' ∧ ((readAll B = none ∧ e = .returned (.tuple #[.slice none 0 0, errF])) ∨ ∃ L lv, readAll B = some L ∧ e = .returned (.tuple #[lv, .nilIface]) ∧ OwnL 138 w' w.heap.size lv L)
theorem wl_pushP {t e : TypeId} (hT : ParT t e) {wr : World} {ops : Array Oper} {rest : List Oper} {o : Oper} {a : Act} {Q : Exit → Act → World → Prop} {C : Array Value} (hgd : o.guard = none) {s x : Operand} (ho : o.op = .call { callee := .builtin .append, args := #[s, x], argTypes := #[t, t] })
  {base b : Nat} {v u : Value} {L : List Par} {k : Int} {val : List Nat} (hC : C = #[.int .i64 k, u]) (hs : a.eval s = v) (hx : a.eval x = .slice (some ⟨b, 0, none⟩) 1 1) (hb : b = wr.heap.size) (hv : OwnL e wr base v L) (hu : OB wr base u val) (hlen : L.length ≤ 100000) (hbase : base ≤ wr.heap.size)
  (h : ∀ ad cap w', OwnL e w' base (.slice ad (L.length + 1) cap) (L ++ [(k, val)]) → KeepBut (fun q => v.ownBlock = some q) wr w' → (∀ g, (Value.slice ad (L.length + 1) cap).ownBlock = some g → v.ownBlock = some g ∨ wr.heap.size ≤ g) → wpList Try.prog ops Q rest (a.put o.dst (.slice ad (L.length + 1) cap)) w') : wpList Try.prog ops Q (o :: rest) a (wr.alloc (.cells C e)) := by
 subst hC hb
 have he : Ext wr (wr.alloc (.cells #[.int .i64 k, u] e)) := Ext.alloc _ _
 obtain ⟨ad, c, w', hr, h1, h2, h3⟩ := run_pushP hT (wr.alloc (.cells #[.int .i64 k, u] e)) base o.type wr.heap.size v u L k val (hv.ext he) (cellNew _ _ _ _ _ _ rfl) (cellNew _ _ _ _ _ _ rfl) (hu.ext he) hlen (Nat.le_trans hbase he.size)
 refine wpList_of_run hgd (v := .slice ad (L.length + 1) c) (w' := w') ?_ (h ad c w' h1 ((KeepBut.ext he).trans h2) (fun g hg => (h3 g hg).imp id (fun e => by rw [e]; exact he.size)))
 simp only [execOp, ho, resolve, invoke, builtin, Sem.run_bind, Sem.run_pure, Result.andThen_ok, List.map_toArray, List.map_cons, List.map_nil, hs, hx, hr]
theorem readAll_next {B : List Nat} {a : Nat} (ha : a < B.length) (h : okP (B.drop a) = true) : readAll (B.drop a) = (readAll (B.drop (a + allP (B.drop a)))).map (headP (B.drop a) :: ·) := by
 rw [readAll_ok (by intro e; have := congrArg List.length e; rw [List.length_drop] at this; simp at this; omega) h, List.drop_drop]
def RdAt (B : List Nat) (s : Option Nat) (L : List Par) : Prop :=
 (s = none ∧ readAll B = none) ∨ ∃ a, s = some a ∧ a ≤ B.length ∧ a % 4 = 0 ∧ 4 * L.length ≤ a ∧ readAll B = (readAll (B.drop a)).map (L ++ ·)
theorem RdAt.start (B : List Nat) : RdAt B (some 0) [] := .inr ⟨0, rfl, by simp, rfl, by simp, by simp⟩
theorem RdAt.step {B : List Nat} {a : Nat} {L : List Par} (h : RdAt B (some a) L) (ha : a < B.length) : RdAt B (paramS B (some a)).1 (L ++ [(paramS B (some a)).2]) := by
 rcases h with ⟨h, _⟩ | ⟨a', e, h1, h2, h3, h4⟩
 ·
  cases h
 ·
  cases e
  cases hk : okP (B.drop a) with
  | false =>
   refine .inl ⟨paramS_bad h2 hk, ?_⟩
   rw [h4, readAll_bad (by intro e; have := congrArg List.length e; rw [List.length_drop] at this; simp at this; omega) hk]; rfl
  | true =>
   rw [paramS_ok h2 hk]
   have hp := allP_pos hk
   have hm := allP_mod (B.drop a)
   have hle := ((okP_iff _).1 hk).2.2.2.1
   rw [List.length_drop] at hle
   refine .inr ⟨_, rfl, by omega, by omega, by rw [List.length_append, List.length_singleton]; omega, ?_⟩
   rw [h4, readAll_next ha hk]
   cases readAll (B.drop (a + allP (B.drop a))) <;> simp
theorem RdAt.len {B : List Nat} {a : Nat} {L : List Par} (h : RdAt B (some a) L) : 4 * L.length ≤ B.length := by
 rcases h with ⟨h, _⟩ | ⟨a', e, h1, h2, h3, h4⟩
 ·
  cases h
 ·
  cases e; omega
theorem RdAt.fin {B : List Nat} {s : Option Nat} {L : List Par} (h : RdAt B s L) (he : leftS B s = 0) : (endS B s = false ∧ readAll B = none) ∨ (endS B s = true ∧ readAll B = some L) := by
 rcases h with ⟨rfl, h⟩ | ⟨a, rfl, h1, h2, h3, h4⟩
 ·
  exact .inl ⟨rfl, h⟩
 ·
  refine .inr ⟨by unfold endS; rw [he]; rfl, ?_⟩
  unfold leftS at he
  simp only at he
  rw [h4, List.drop_eq_nil_of_le (by omega), readAll_nil]; simp
theorem left_lt {B : List Nat} {s : Option Nat} (h : leftS B s ≠ 0) : ∃ a, s = some a ∧ a < B.length := by
 cases s with
 | none => exact absurd rfl h
 | some a => refine ⟨a, rfl, ?_⟩; unfold leftS at h; simp only at h; omega
theorem left_dec {B : List Nat} {a : Nat} (ha : a < B.length) (s' : Option Nat) (h : ∀ a', s' = some a' → a < a') : leftS B s' < leftS B (some a) := by
 cases s' with
 | none => unfold leftS; simp only; omega
 | some x => have := h x rfl; unfold leftS; simp only; omega
theorem paramS_lt {B : List Nat} {a : Nat} (h2 : a % 4 = 0) (a' : Nat) (h : (paramS B (some a)).1 = some a') : a < a' := by
 cases hk : okP (B.drop a) with
 | false => rw [paramS_bad h2 hk] at h; cases h
 | true =>
  rw [paramS_ok h2 hk] at h
  have := allP_pos hk
  simp only [Option.some.injEq] at h; omega
theorem RdAt.mod {B : List Nat} {a : Nat} {L : List Par} (h : RdAt B (some a) L) : a % 4 = 0 := by
 rcases h with ⟨h, _⟩ | ⟨a', e, h1, h2, _⟩
 ·
  cases h
 ·
  cases e; exact h2
theorem params_any {w : World} {v : Value} {B : List Nat} (hv : BytesAt w v B) (hB : B.length ≤ 100000) :
  Calls Try.prog 95 #[v] w (ParamsIs w B) := by
 have H : Hid (BytesAt w v B ∧ B.length ≤ 100000) := ⟨hv, hB⟩
 clear hv hB
 go_enter Try.func95, Try.ntmps95
 go_wp2_with (first
  | (go_at_call 39; refine (read_any H.out.1 (by have := H.out; omega)).mono ?_; rintro e w1 ⟨g, bv, rfl, hg1, hi1, he1⟩))
 have HI : Hid (InAt w1 w.heap.size g bv B (some 0) ∧ Ext w w1 ∧ w.heap.size ≤ g) := ⟨hi1, he1, hg1⟩
 clear hi1 he1 hg1
 go_loopg [4] (leftS B (some 0)) (fun gm t wr => ∃ (s : Option Nat) (a : Option Addr) (n c : Nat) (L : List Par), gm = leftS B s ∧ t = .slice a n c ∧ Hid (n = L.length ∧ RdAt B s L ∧ InAt wr w.heap.size g bv B s ∧ OwnL 138 wr w.heap.size (.slice a n c) L ∧ Ext w wr))
 case atStart => exact ⟨some 0, none, 0, 0, [], rfl, rfl, rfl, RdAt.start B, HI.out.1, OwnL.nil _ _ _, HI.out.2.1⟩
 case round =>
  obtain ⟨s, a, n, c, L, rfl, rfl, HR⟩ := hrel
  obtain ⟨l, hl⟩ : ∃ l, leftS B s = l := ⟨_, rfl⟩
  have HL : Hid (leftS B s = l) := hl
  by_cases h0 : l = 0
  ·
   have hd : decide ((l : Int) > 0) = false := decide_eq_false (by omega)
   rcases HR.out.2.1.fin (hl.trans h0) with ⟨q1, q2⟩ | ⟨q1, q2⟩
   ·
    have HE : Hid (endS B s = false ∧ readAll B = none) := ⟨q1, q2⟩
    clear q1 q2 hl
    go_wp2_with (first
     | (go_at_call 49; refine (left_any HR.out.2.2.1 (by have := H.out; omega)).mono ?_; rintro e w2 ⟨rfl, he2⟩; rw [HL.out])
     | (go_at_call 50; refine (end_any (HR.out.2.2.1.ext he2) (by have := H.out; omega)).mono ?_; rintro e w3 ⟨rfl, he3⟩; rw [HE.out.1, show endV false = errF from rfl]))
    go_ret2
    exact ⟨(HR.out.2.2.2.2.trans he2).trans he3, .inl ⟨HE.out.2, rfl⟩⟩
   ·
    have HE : Hid (endS B s = true ∧ readAll B = some L) := ⟨q1, q2⟩
    clear q1 q2 hl
    go_wp2_with (first
     | (go_at_call 49; refine (left_any HR.out.2.2.1 (by have := H.out; omega)).mono ?_; rintro e w2 ⟨rfl, he2⟩; rw [HL.out])
     | (go_at_call 50; refine (end_any (HR.out.2.2.1.ext he2) (by have := H.out; omega)).mono ?_; rintro e w3 ⟨rfl, he3⟩; rw [HE.out.1, show endV true = .nilIface from rfl]))
    go_ret2
    exact ⟨(HR.out.2.2.2.2.trans he2).trans he3, .inr ⟨L, _, HE.out.2, rfl, (HR.out.2.2.2.1.ext he2).ext he3⟩⟩
  ·
   have hd : decide ((l : Int) > 0) = true := decide_eq_true (by omega)
   obtain ⟨x, rfl, hx⟩ := left_lt (by rw [hl]; exact h0)
   have HX : Hid (x < B.length ∧ x % 4 = 0 ∧ 4 * L.length ≤ B.length) := ⟨hx, HR.out.2.1.mod, HR.out.2.1.len⟩
   obtain ⟨r, hr⟩ : ∃ r, r = paramS B (some x) := ⟨_, rfl⟩
   have HP : Hid (r = paramS B (some x)) := hr
   have HS : Hid (RdAt B r.1 (L ++ [r.2]) ∧ leftS B r.1 < leftS B (some x)) := ⟨by rw [hr]; exact HR.out.2.1.step hx, left_dec hx _ (fun a' h => paramS_lt HX.out.2.1 a' (by rw [← hr]; exact h))⟩
   clear hx hl hr
   obtain ⟨s2, k2, m2⟩ := r
   go_wp2_with (first
    | (go_at_call 49; refine (left_any HR.out.2.2.1 (by have := H.out; omega)).mono ?_; rintro e w2 ⟨rfl, he2⟩; rw [HL.out])
    | (go_at_call 102; refine (param_any (HR.out.2.2.1.ext he2) (by have := H.out; omega)).mono ?_; rintro e w3 ⟨u3, rfl, ho3, hi3, hk3⟩; rw [← HP.out] at ho3 hi3 ⊢; obtain ⟨ua, uc, rfl⟩ := ho3.form; have HL3 : Hid (OwnL 138 w3 w.heap.size (.slice a n c) L) := (HR.out.2.2.2.1.ext he2).but hk3 (fun k C hb hbase e => by
      subst e
      obtain ⟨_, a', b', hb', _⟩ := HR.out.2.2.1.ext he2
      unfold Blk at hb hb'
      rw [hb'] at hb
      simp at hb))
    | (at_builtin; refine wl_pushP parT (L := L) (k := k2) (val := m2) (v := .slice a n c) (base := w.heap.size) rfl rfl rfl rfl rfl rfl HL3.out (ho3.base (Nat.le_trans HR.out.2.2.2.2.size he2.size)) (by have := HX.out; have := H.out; omega) (Nat.le_trans (Nat.le_trans HR.out.2.2.2.2.size he2.size) hk3.size) ?_; intro ad cap w5 hl5 hk5 hg5))
   have hne : ∀ k, (Value.slice a n c).ownBlock = some k → k ≠ g := fun k e h => by
    subst h
    obtain ⟨_, C, hC⟩ := HL3.out.lt e
    obtain ⟨_, a', b', hb', _⟩ := hi3
    unfold Blk at hC hb'
    rw [hb'] at hC
    simp at hC
   go_roundg (leftS B s2)
   case measure => exact HS.out.2
   case rel =>
    refine ⟨s2, _, _, _, L ++ [(k2, m2)], rfl, rfl, by simp, HS.out.1, hi3.but hk5 (fun e => hne g e rfl) (fun k e1 e2 => ?_), hl5, ((HR.out.2.2.2.2.trans he2).of_but hk3 (fun k e => by subst e; exact HI.out.2.2)).of_but hk5 (fun k e => (HL3.out.lt e).1)⟩
    obtain ⟨_, C, hC⟩ := HL3.out.lt e2
    exact hi3.own.ne hC (by decide) k e1 rfl
def inB (n lo hi : Int) : Bool := decide (lo ≤ n) && decide (n ≤ hi)
theorem inB_iff (n lo hi : Int) : inB n lo hi = true ↔ lo ≤ n ∧ n ≤ hi := by simp [inB]
theorem within_any (n lo hi : Int) (w : World) : Calls Try.prog 69 #[.int .i64 n, .int .i64 lo, .int .i64 hi] w fun e w' => e = .returned (.bool (inB n lo hi)) ∧ Ext w w' := by
 unfold inB
 by_cases h1 : lo ≤ n
 ·
  have d1 : decide (n ≥ lo) = true := decide_eq_true h1
  have d1' : decide (lo ≤ n) = true := decide_eq_true h1
  rw [d1']
  go_enter Try.func69, Try.ntmps69
  go_wp2
  go_ret
  exact ⟨by simp, Ext.refl _⟩
 ·
  have d1 : decide (n ≥ lo) = false := decide_eq_false h1
  have d1' : decide (lo ≤ n) = false := decide_eq_false h1
  rw [d1']
  go_enter Try.func69, Try.ntmps69
  go_wp2
  go_ret
  exact ⟨by simp, Ext.refl _⟩
def adB (a : Int) : Bool := inB a 1 2147483647
theorem isAddr_any (a : Int) (w : World) : Calls Try.prog 94 #[.int .i64 a] w fun e w' => e = .returned (.bool (adB a)) ∧ Ext w w' := by
 go_enter Try.func94, Try.ntmps94
 go_wp2_with (first | (go_at_call 69; refine (within_any _ _ _ _).mono ?_; rintro e w1 ⟨rfl, he1⟩))
 go_ret
 exact ⟨rfl, he1⟩
def opK (k : Int) : Bool := decide (k = 1) || (decide (k = 2) || decide (k = 4))
theorem isOp_any (k : Int) (w : World) : Calls Try.prog 93 #[.int .i64 k] w fun e w' => e = .returned (.bool (opK k)) ∧ Ext w w' := by
 by_cases h1 : k = 1
 ·
  subst h1
  go_enter Try.func93, Try.ntmps93
  go_wp2
  go_ret
  exact ⟨rfl, Ext.refl _⟩
 by_cases h2 : k = 2
 ·
  subst h2
  go_enter Try.func93, Try.ntmps93
  go_wp2
  go_ret
  exact ⟨rfl, Ext.refl _⟩
 by_cases h3 : k = 4
 ·
  subst h3
  go_enter Try.func93, Try.ntmps93
  go_wp2
  go_ret
  exact ⟨rfl, Ext.refl _⟩
 have d1 : (k == 1) = false := beq_false_of_ne h1
 have d2 : (k == 2) = false := beq_false_of_ne h2
 have d3 : (k == 4) = false := beq_false_of_ne h3
 go_enter Try.func93, Try.ntmps93
 go_wp2
 go_ret
 exact ⟨by simp [opK, h1, h2, h3], Ext.refl _⟩
def kinds : List Int := [0, 1, 2, 3, 4, 5, 6, 7, 8, 9, 10, 11, 14, 15, 128, 193]
def knB (k : Int) : Bool := kinds.contains k
theorem kn_cases (k : Int) : k = 0 ∨ k = 1 ∨ k = 2 ∨ k = 3 ∨ k = 4 ∨ k = 5 ∨ k = 6 ∨ k = 7 ∨ k = 8 ∨ k = 9 ∨ k = 10 ∨ k = 11 ∨ k = 14 ∨ k = 15 ∨ k = 128 ∨ k = 193 ∨ (k ≠ 0 ∧ k ≠ 1 ∧ k ≠ 2 ∧ k ≠ 3 ∧ k ≠ 4 ∧ k ≠ 5 ∧ k ≠ 6 ∧ k ≠ 7 ∧ k ≠ 8 ∧ k ≠ 9 ∧ k ≠ 10 ∧ k ≠ 11 ∧ k ≠ 14 ∧ k ≠ 15 ∧ k ≠ 128 ∧ k ≠ 193) := by omega
theorem knB_no {k : Int} (h : k ≠ 0 ∧ k ≠ 1 ∧ k ≠ 2 ∧ k ≠ 3 ∧ k ≠ 4 ∧ k ≠ 5 ∧ k ≠ 6 ∧ k ≠ 7 ∧ k ≠ 8 ∧ k ≠ 9 ∧ k ≠ 10 ∧ k ≠ 11 ∧ k ≠ 14 ∧ k ≠ 15 ∧ k ≠ 128 ∧ k ≠ 193) : knB k = false := by
 simp [knB, kinds, h]
theorem known_any (k : Int) (w : World) : Calls Try.prog 22 #[.int .i64 k] w fun e w' => e = .returned (.bool (knB k)) ∧ Ext w w' := by
 rcases kn_cases k with rfl | rfl | rfl | rfl | rfl | rfl | rfl | rfl | rfl | rfl | rfl | rfl | rfl | rfl | rfl | rfl | hn
 case inr.inr.inr.inr.inr.inr.inr.inr.inr.inr.inr.inr.inr.inr.inr.inr =>
  rw [knB_no hn]
  obtain ⟨h0, h1, h2, h3, h4, h5, h6, h7, h8, h9, h10, h11, h12, h13, h14, h15⟩ := hn
  have d0 := beq_false_of_ne h0
  have d1 := beq_false_of_ne h1
  have d2 := beq_false_of_ne h2
  have d3 := beq_false_of_ne h3
  have d4 := beq_false_of_ne h4
  have d5 := beq_false_of_ne h5
  have d6 := beq_false_of_ne h6
  have d7 := beq_false_of_ne h7
  have d8 := beq_false_of_ne h8
  have d9 := beq_false_of_ne h9
  have d10 := beq_false_of_ne h10
  have d11 := beq_false_of_ne h11
  have d12 := beq_false_of_ne h12
  have d13 := beq_false_of_ne h13
  have d14 := beq_false_of_ne h14
  have d15 := beq_false_of_ne h15
  go_enter Try.func22, Try.ntmps22
  go_wp2
  go_ret
  exact ⟨rfl, Ext.refl _⟩
 all_goals
  go_enter Try.func22, Try.ntmps22
  go_wp2
  go_ret
  exact ⟨rfl, Ext.refl _⟩
theorem refKnown_any (k : Int) (w : World) : Calls Try.prog 23 #[.int .i64 k] w fun e w' => e = .returned (.bool (knB k)) ∧ Ext w w' := by
 rcases kn_cases k with rfl | rfl | rfl | rfl | rfl | rfl | rfl | rfl | rfl | rfl | rfl | rfl | rfl | rfl | rfl | rfl | hn
 case inr.inr.inr.inr.inr.inr.inr.inr.inr.inr.inr.inr.inr.inr.inr.inr =>
  rw [knB_no hn]
  have hx : decide (k ≥ 0) = false ∨ decide (k ≤ 11) = false := by
   rcases Int.lt_or_le k 0 with h | h
   ·
    exact .inl (decide_eq_false (by omega))
   ·
    exact .inr (decide_eq_false (by omega))
  obtain ⟨h0, h1, h2, h3, h4, h5, h6, h7, h8, h9, h10, h11, h12, h13, h14, h15⟩ := hn
  clear h0 h1 h2 h3 h4 h5 h6 h7 h8 h9 h10 h11
  have d12 := beq_false_of_ne h12
  have d13 := beq_false_of_ne h13
  have d14 := beq_false_of_ne h14
  have d15 := beq_false_of_ne h15
  rcases hx with hx | hx
  ·
   have hy : decide (0 ≤ k) = false := hx
   go_enter Try.func23, Try.ntmps23
   go_wp2
   go_ret
   exact ⟨rfl, Ext.refl _⟩
  ·
   by_cases h0 : 0 ≤ k
   ·
    have hy : decide (0 ≤ k) = true := decide_eq_true h0
    have hy' : decide (k ≥ 0) = true := decide_eq_true h0
    go_enter Try.func23, Try.ntmps23
    go_wp2
    go_ret
    exact ⟨rfl, Ext.refl _⟩
   ·
    have hy : decide (0 ≤ k) = false := decide_eq_false h0
    have hy' : decide (k ≥ 0) = false := decide_eq_false h0
    go_enter Try.func23, Try.ntmps23
    go_wp2
    go_ret
    exact ⟨rfl, Ext.refl _⟩
 all_goals
  go_enter Try.func23, Try.ntmps23
  go_wp2
  go_ret
  exact ⟨rfl, Ext.refl _⟩
theorem refAddr_any (a : Int) (w : World) : Calls Try.prog 33 #[.int .i64 a] w fun e w' => e = .returned (.bool (adB a)) ∧ Ext w w' := by
 unfold adB inB
 by_cases h1 : 1 ≤ a
 ·
  have d1 : decide (a ≥ 1) = true := decide_eq_true h1
  have d1' : decide (1 ≤ a) = true := decide_eq_true h1
  rw [d1']
  go_enter Try.func33, Try.ntmps33
  go_wp2
  go_ret
  exact ⟨by simp, Ext.refl _⟩
 ·
  have d1 : decide (a ≥ 1) = false := decide_eq_false h1
  have d1' : decide (1 ≤ a) = false := decide_eq_false h1
  rw [d1']
  go_enter Try.func33, Try.ntmps33
  go_wp2
  go_ret
  exact ⟨by simp, Ext.refl _⟩
theorem numberOf_any (b : Bool) (w : World) : Calls Try.prog 65 #[.bool b] w fun e w' => e = .returned (.int .u64 ((if b = true then 1 else 0 : Nat) : Int)) ∧ Ext w w' := by
 cases b
 ·
  go_enter Try.func65, Try.ntmps65
  go_wp2
  go_ret
  exact ⟨rfl, Ext.refl _⟩
 ·
  go_enter Try.func65, Try.ntmps65
  go_wp2
  go_ret
  exact ⟨rfl, Ext.refl _⟩
def flagN (pb pe pu : Bool) : Nat := (if pe = true then 1 else 0) + (if pb = true then 2 else 0) + (if pu = true then 4 else 0)
structure Ck where
 kind : Int
 ptsn : Nat
 pstr : Nat
 pseq : Nat
 pb : Bool
 pe : Bool
 pu : Bool
 text : List Nat
 tag : Nat
 win : Int
 out : Int
 inn : Int
 tsn : Nat
 rand : List Nat
 addrs : List Int
 info : List Nat
 gaps : List (Int × Int)
 dups : List Nat
 cause : Int
 serial : Nat
 ops : List (Int × Int)
 ok : Bool
structure Sv where
 tA : Option Addr
 tN : Nat
 tC : Nat
 rA : Option Addr
 rN : Nat
 rC : Nat
 aA : Option Addr
 aN : Nat
 aC : Nat
 iA : Option Addr
 iN : Nat
 iC : Nat
 gA : Option Addr
 gN : Nat
 gC : Nat
 dA : Option Addr
 dN : Nat
 dC : Nat
 oA : Option Addr
 oN : Nat
 oC : Nat
def CV (c : Ck) (s : Sv) : Array Value := #[.int .i64 c.kind, .int .u32 (c.ptsn : Int), .int .u16 (c.pstr : Int), .int .u16 (c.pseq : Int), .bool c.pb, .bool c.pe, .bool c.pu, .slice s.tA s.tN s.tC, .int .u32 (c.tag : Int), .int .i64 c.win, .int .i64 c.out, .int .i64 c.inn, .int .u32 (c.tsn : Int), .slice s.rA s.rN s.rC, .slice s.aA s.aN s.aC, .slice s.iA s.iN s.iC, .slice s.gA s.gN s.gC, .slice s.dA s.dN s.dC, .int .i64 c.cause, .int .u32 (c.serial : Int), .slice s.oA s.oN s.oC, .bool c.ok]
def PV (c : Ck) (s : Sv) : Array Value := #[.int .u32 (c.ptsn : Int), .int .u16 (c.pstr : Int), .int .u16 (c.pseq : Int), .bool c.pb, .bool c.pe, .bool c.pu, .slice s.tA s.tN s.tC]
theorem cv0 {w : World} {g T : Nat} {c : Ck} {s : Sv} (h : Blk w g (CV c s) T) : w.cell? ⟨g, 0, none⟩ = some (.int .i64 c.kind) := h.cell 0
theorem cv1 {w : World} {g T : Nat} {c : Ck} {s : Sv} (h : Blk w g (CV c s) T) : w.cell? ⟨g, 1, none⟩ = some (.int .u32 (c.ptsn : Int)) := h.cell 1
theorem cv2 {w : World} {g T : Nat} {c : Ck} {s : Sv} (h : Blk w g (CV c s) T) : w.cell? ⟨g, 2, none⟩ = some (.int .u16 (c.pstr : Int)) := h.cell 2
theorem cv3 {w : World} {g T : Nat} {c : Ck} {s : Sv} (h : Blk w g (CV c s) T) : w.cell? ⟨g, 3, none⟩ = some (.int .u16 (c.pseq : Int)) := h.cell 3
theorem cv7 {w : World} {g T : Nat} {c : Ck} {s : Sv} (h : Blk w g (CV c s) T) : w.cell? ⟨g, 7, none⟩ = some (.slice s.tA s.tN s.tC) := h.cell 7
theorem cv8 {w : World} {g T : Nat} {c : Ck} {s : Sv} (h : Blk w g (CV c s) T) : w.cell? ⟨g, 8, none⟩ = some (.int .u32 (c.tag : Int)) := h.cell 8
theorem cv9 {w : World} {g T : Nat} {c : Ck} {s : Sv} (h : Blk w g (CV c s) T) : w.cell? ⟨g, 9, none⟩ = some (.int .i64 c.win) := h.cell 9
theorem cv10 {w : World} {g T : Nat} {c : Ck} {s : Sv} (h : Blk w g (CV c s) T) : w.cell? ⟨g, 10, none⟩ = some (.int .i64 c.out) := h.cell 10
theorem cv11 {w : World} {g T : Nat} {c : Ck} {s : Sv} (h : Blk w g (CV c s) T) : w.cell? ⟨g, 11, none⟩ = some (.int .i64 c.inn) := h.cell 11
theorem cv12 {w : World} {g T : Nat} {c : Ck} {s : Sv} (h : Blk w g (CV c s) T) : w.cell? ⟨g, 12, none⟩ = some (.int .u32 (c.tsn : Int)) := h.cell 12
theorem cv13 {w : World} {g T : Nat} {c : Ck} {s : Sv} (h : Blk w g (CV c s) T) : w.cell? ⟨g, 13, none⟩ = some (.slice s.rA s.rN s.rC) := h.cell 13
theorem cv14 {w : World} {g T : Nat} {c : Ck} {s : Sv} (h : Blk w g (CV c s) T) : w.cell? ⟨g, 14, none⟩ = some (.slice s.aA s.aN s.aC) := h.cell 14
theorem cv15 {w : World} {g T : Nat} {c : Ck} {s : Sv} (h : Blk w g (CV c s) T) : w.cell? ⟨g, 15, none⟩ = some (.slice s.iA s.iN s.iC) := h.cell 15
theorem cv16 {w : World} {g T : Nat} {c : Ck} {s : Sv} (h : Blk w g (CV c s) T) : w.cell? ⟨g, 16, none⟩ = some (.slice s.gA s.gN s.gC) := h.cell 16
theorem cv17 {w : World} {g T : Nat} {c : Ck} {s : Sv} (h : Blk w g (CV c s) T) : w.cell? ⟨g, 17, none⟩ = some (.slice s.dA s.dN s.dC) := h.cell 17
theorem cv18 {w : World} {g T : Nat} {c : Ck} {s : Sv} (h : Blk w g (CV c s) T) : w.cell? ⟨g, 18, none⟩ = some (.int .i64 c.cause) := h.cell 18
theorem cv19 {w : World} {g T : Nat} {c : Ck} {s : Sv} (h : Blk w g (CV c s) T) : w.cell? ⟨g, 19, none⟩ = some (.int .u32 (c.serial : Int)) := h.cell 19
theorem cv20 {w : World} {g T : Nat} {c : Ck} {s : Sv} (h : Blk w g (CV c s) T) : w.cell? ⟨g, 20, none⟩ = some (.slice s.oA s.oN s.oC) := h.cell 20
theorem cv21 {w : World} {g T : Nat} {c : Ck} {s : Sv} (h : Blk w g (CV c s) T) : w.cell? ⟨g, 21, none⟩ = some (.bool c.ok) := h.cell 21
theorem pv0 {w : World} {g T : Nat} {c : Ck} {s : Sv} (h : Blk w g (PV c s) T) : w.cell? ⟨g, 0, none⟩ = some (.int .u32 (c.ptsn : Int)) := h.cell 0
theorem pv1 {w : World} {g T : Nat} {c : Ck} {s : Sv} (h : Blk w g (PV c s) T) : w.cell? ⟨g, 1, none⟩ = some (.int .u16 (c.pstr : Int)) := h.cell 1
theorem pv2 {w : World} {g T : Nat} {c : Ck} {s : Sv} (h : Blk w g (PV c s) T) : w.cell? ⟨g, 2, none⟩ = some (.int .u16 (c.pseq : Int)) := h.cell 2
theorem pv3 {w : World} {g T : Nat} {c : Ck} {s : Sv} (h : Blk w g (PV c s) T) : w.cell? ⟨g, 3, none⟩ = some (.bool c.pb) := h.cell 3
theorem pv4 {w : World} {g T : Nat} {c : Ck} {s : Sv} (h : Blk w g (PV c s) T) : w.cell? ⟨g, 4, none⟩ = some (.bool c.pe) := h.cell 4
theorem pv5 {w : World} {g T : Nat} {c : Ck} {s : Sv} (h : Blk w g (PV c s) T) : w.cell? ⟨g, 5, none⟩ = some (.bool c.pu) := h.cell 5
theorem pv6 {w : World} {g T : Nat} {c : Ck} {s : Sv} (h : Blk w g (PV c s) T) : w.cell? ⟨g, 6, none⟩ = some (.slice s.tA s.tN s.tC) := h.cell 6
theorem CV.size (c : Ck) (s : Sv) : (CV c s).size = 22 := rfl
theorem PV.size (c : Ck) (s : Sv) : (PV c s).size = 7 := rfl
theorem CV.one (c : Ck) (s : Sv) : ∀ v ∈ (CV c s).toList, v.oneCell' = true := by
 intro v hv
 simp [CV] at hv
 rcases hv with rfl | rfl | rfl | rfl | rfl | rfl | rfl | rfl | rfl | rfl | rfl | rfl | rfl | rfl | rfl | rfl | rfl | rfl | rfl | rfl | rfl | rfl <;> rfl
theorem PV.one (c : Ck) (s : Sv) : ∀ v ∈ (PV c s).toList, v.oneCell' = true := by
 intro v hv
 simp [PV] at hv
 rcases hv with rfl | rfl | rfl | rfl | rfl | rfl | rfl <;> rfl
theorem CV.piece (c : Ck) (s : Sv) : ∀ (j : Nat) v, (PV c s).toList[j]? = some v → (CV c s)[1 + j]? = some v := by
 intro j v h
 match j with
 | 0 => exact h
 | 1 => exact h
 | 2 => exact h
 | 3 => exact h
 | 4 => exact h
 | 5 => exact h
 | 6 => exact h
 | j + 7 => simp [PV] at h
def PairsAt (w : World) (v : Value) (L : List (Int × Int)) : Prop :=
 L.length ≤ maxLen ∧ ∃ a cap, v = .slice a L.length cap ∧ (L.length ≤ cap ∧ (a = none → cap = 0)) ∧ cap ≤ maxLen ∧ ∀ i p, L[i]? = some p → ∃ b off, a = some ⟨b, off, none⟩ ∧ w.cell? ⟨b, off + i * 2, none⟩ = some (.int .i64 p.1) ∧ w.cell? ⟨b, off + i * 2 + 1, none⟩ = some (.int .i64 p.2)
theorem PairsAt.ext {w w' : World} {v : Value} {L : List (Int × Int)} (h : PairsAt w v L) (he : Ext w w') : PairsAt w' v L := by
 obtain ⟨h1, a, cap, rfl, h2, h3, hc⟩ := h
 refine ⟨h1, a, cap, rfl, h2, h3, fun i p hp => ?_⟩
 obtain ⟨b, off, e, h4, h5⟩ := hc i p hp
 exact ⟨b, off, e, he.cell h4, he.cell h5⟩
theorem PairsAt.nil (w : World) : PairsAt w (.slice none 0 0) [] := ⟨by simp, none, 0, rfl, ⟨by simp, fun _ => rfl⟩, by simp, fun i p h => by simp at h⟩
theorem PairsAt.len {w : World} {a : Option Addr} {n c : Nat} {L : List (Int × Int)} (h : PairsAt w (.slice a n c) L) : n = L.length ∧ n ≤ maxLen ∧ n ≤ c ∧ c ≤ maxLen := by
 obtain ⟨h1, x, cap, e, h2, h3, _⟩ := h
 simp only [Value.slice.injEq] at e
 obtain ⟨rfl, rfl, rfl⟩ := e
 exact ⟨rfl, h1, h2.1, h3⟩
theorem PairsAt.cellAt {w : World} {a : Option Addr} {n c : Nat} {L : List (Int × Int)} (h : PairsAt w (.slice a n c) L) (i : Nat) (hi : i < L.length) : ∃ b off, a = some ⟨b, off, none⟩ ∧ w.cell? ⟨b, off + i * 2, none⟩ = some (.int .i64 (L.getD i (0, 0)).1) ∧ w.cell? ⟨b, off + i * 2 + 1, none⟩ = some (.int .i64 (L.getD i (0, 0)).2) := by
 obtain ⟨_, x, cap, e, _, _, hc⟩ := h
 simp only [Value.slice.injEq] at e
 obtain ⟨rfl, _, _⟩ := e
 have := hc i (L.getD i (0, 0)) (by simp [List.getD_eq_getElem?_getD, hi])
 exact this
theorem nums_len {k : IntKind} {w : World} {a : Option Addr} {n c : Nat} {l : List Int} (h : NumsAt k w (.slice a n c) l) : n = l.length ∧ n ≤ maxLen := by
 obtain ⟨x, y, e, _⟩ := h.form
 simp only [Value.slice.injEq] at e
 obtain ⟨rfl, rfl, rfl⟩ := e
 exact ⟨rfl, h.1⟩
theorem bytes_len {w : World} {a : Option Addr} {n c : Nat} {l : List Nat} (h : BytesAt w (.slice a n c) l) : n = l.length ∧ n ≤ maxLen := by
 obtain ⟨x, y, e, _⟩ := h.form
 simp only [Value.slice.injEq] at e
 obtain ⟨rfl, rfl, rfl⟩ := e
 exact ⟨rfl, h.2.1⟩
structure CkAt (w : World) (s : Sv) (c : Ck) : Prop where
 t : BytesAt w (.slice s.tA s.tN s.tC) c.text
 r : BytesAt w (.slice s.rA s.rN s.rC) c.rand
 a : NumsAt .i64 w (.slice s.aA s.aN s.aC) c.addrs
 i : BytesAt w (.slice s.iA s.iN s.iC) c.info
 g : PairsAt w (.slice s.gA s.gN s.gC) c.gaps
 d : NumsAt .u32 w (.slice s.dA s.dN s.dC) (ci c.dups)
 o : PairsAt w (.slice s.oA s.oN s.oC) c.ops
theorem CkAt.ext {w w' : World} {s : Sv} {c : Ck} (h : CkAt w s c) (he : Ext w w') : CkAt w' s c := ⟨h.t.ext he, h.r.ext he, h.a.ext he, h.i.ext he, h.g.ext he, h.d.ext he, h.o.ext he⟩
structure Fit (c : Ck) : Prop where
 kind : W64 c.kind
 ptsn : c.ptsn < 4294967296
 pstr : c.pstr < 65536
 pseq : c.pseq < 65536
 tag : c.tag < 4294967296
 win : W64 c.win
 out : W64 c.out
 inn : W64 c.inn
 tsn : c.tsn < 4294967296
 cause : W64 c.cause
 serial : c.serial < 4294967296
 addrs : ∀ x ∈ c.addrs, W64 x
 gaps : ∀ x ∈ c.gaps, W64 x.1 ∧ W64 x.2
 dups : ∀ x ∈ c.dups, x < 4294967296
 ops : ∀ x ∈ c.ops, W64 x.1 ∧ W64 x.2
theorem rowC : RowT Try.prog 38 22 := ⟨⟨_, Try.underlying38, rfl⟩, by kernel_rfl⟩
theorem rowC2 : RowT Try.prog 32 22 := ⟨⟨_, Try.underlying32, rfl⟩, by kernel_rfl⟩
theorem rowPc : RowT Try.prog 26 7 := ⟨⟨_, Try.underlying26, rfl⟩, by kernel_rfl⟩
theorem one22 : OneT Try.prog 22 := ⟨⟨_, Try.underlying22, rfl⟩, by kernel_rfl⟩
theorem one23 : OneT Try.prog 23 := ⟨⟨_, Try.underlying23, rfl⟩, by kernel_rfl⟩
theorem oneSA : OneT Try.prog 27 := ⟨⟨_, Try.underlying27, rfl⟩, by kernel_rfl⟩
theorem oneSG : OneT Try.prog 35 := ⟨⟨_, Try.underlying35, rfl⟩, by kernel_rfl⟩
theorem oneSD : OneT Try.prog 29 := ⟨⟨_, Try.underlying29, rfl⟩, by kernel_rfl⟩
theorem oneSO : OneT Try.prog 36 := ⟨⟨_, Try.underlying36, rfl⟩, by kernel_rfl⟩
theorem oneSG2 : OneT Try.prog 28 := ⟨⟨_, Try.underlying28, rfl⟩, by kernel_rfl⟩
theorem oneSO2 : OneT Try.prog 30 := ⟨⟨_, Try.underlying30, rfl⟩, by kernel_rfl⟩
theorem rowGp : RowT Try.prog 67 2 := ⟨⟨_, Try.underlying67, rfl⟩, by kernel_rfl⟩
theorem rowOp : RowT Try.prog 69 2 := ⟨⟨_, Try.underlying69, rfl⟩, by kernel_rfl⟩
theorem rowGp2 : RowT Try.prog 70 2 := ⟨⟨_, Try.underlying70, rfl⟩, by kernel_rfl⟩
theorem rowOp2 : RowT Try.prog 71 2 := ⟨⟨_, Try.underlying71, rfl⟩, by kernel_rfl⟩
theorem windowFits_any (c : Ck) (s : Sv) (w : World) : Calls Try.prog 72 #[.agg (CV c s)] w fun e w' => e = .returned (.bool (inB c.win 0 2147483647)) ∧ Ext w w' := by
 go_enter Try.func72, Try.ntmps72
 go_wp2_with (first
  | (refine wl_box (C := CV c s) rfl rfl rfl ?_; intro w1 hb1 he1 hx; clear hx; have c9 := cv9 hb1)
  | (go_at_call 69; refine (within_any _ _ _ _).mono ?_; rintro e w2 ⟨rfl, he2⟩))
 go_ret
 exact ⟨rfl, he1.trans he2⟩
theorem infoFits_any (c : Ck) (s : Sv) (hn : s.iN = c.info.length) (w : World) : Calls Try.prog 71 #[.agg (CV c s)] w fun e w' => e = .returned (.bool (inB (c.info.length : Int) 1 300)) ∧ Ext w w' := by
 have HN : Hid (s.iN = c.info.length) := hn
 clear hn
 go_enter Try.func71, Try.ntmps71
 go_wp2_with (first
  | (refine wl_box (C := CV c s) rfl rfl rfl ?_; intro w1 hb1 he1 hx; clear hx; have c9 := cv15 hb1)
  | (go_at_call 69; refine (within_any _ _ _ _).mono ?_; rintro e w2 ⟨rfl, he2⟩))
 go_ret
 exact ⟨by rw [HN.out]; rfl, he1.trans he2⟩
def adsB (L : List Int) : Bool := L.all adB
def opB (p : Int × Int) : Bool := opK p.1 && adB p.2
def opsB (L : List (Int × Int)) : Bool := L.all opB
theorem addrsC_any (a : Int) (w : World) : Calls Try.prog 100 #[.int .i64 a] w fun e w' => e = .returned (.bool (!adB a)) ∧ Ext w w' := by
 go_enter Try.func100, Try.ntmps100
 go_wp2_with (first
  | (go_at_call 94; refine (isAddr_any _ _).mono ?_; rintro e w2 ⟨rfl, he2⟩))
 go_ret
 exact ⟨rfl, he2⟩
theorem opsC_any (p q : Int) (w : World) : Calls Try.prog 92 #[.agg #[.int .i64 p, .int .i64 q]] w fun e w' => e = .returned (.bool (!opB (p, q))) ∧ Ext w w' := by
 have e0 : opB (p, q) = (opK p && adB q) := rfl
 rw [e0]
 have LD : ∀ {w2 : World}, Blk w2 w.heap.size #[.int .i64 p, .int .i64 q] 69 → w2.cell? ⟨w.heap.size, 0, none⟩ = some (.int .i64 p) ∧ w2.cell? ⟨w.heap.size, 1, none⟩ = some (.int .i64 q) := fun h => ⟨h.cell 0, h.cell 1⟩
 cases hk : opK p with
 | true =>
  go_enter Try.func92, Try.ntmps92
  go_wp2_with (first
   | (refine wl_box (C := #[.int .i64 p, .int .i64 q]) rfl rfl rfl ?_; intro w1 hb1 he1 hx; clear hx; have c0 := (LD hb1).1)
   | (go_at_call 93; refine (isOp_any _ _).mono ?_; rintro e w2 ⟨rfl, he2⟩; have c1 := (LD (hb1.ext he2)).2)
   | (go_at_call 94; refine (isAddr_any _ _).mono ?_; rintro e w3 ⟨rfl, he3⟩))
  go_ret
  exact ⟨by simp, (he1.trans he2).trans he3⟩
 | false =>
  go_enter Try.func92, Try.ntmps92
  go_wp2_with (first
   | (refine wl_box (C := #[.int .i64 p, .int .i64 q]) rfl rfl rfl ?_; intro w1 hb1 he1 hx; clear hx; have c0 := (LD hb1).1)
   | (go_at_call 93; refine (isOp_any _ _).mono ?_; rintro e w2 ⟨rfl, he2⟩; have c1 := (LD (hb1.ext he2)).2))
  go_ret
  exact ⟨by simp, he1.trans he2⟩
theorem not_all_at {α : Type} {f : α → Bool} {L : List α} (d : α) {k : Nat} (hk : k < L.length) (h : f (L.getD k d) = false) : L.all f = false := by
 rw [List.all_eq_false]
 exact ⟨_, getD_mem L d k hk, by rw [h]; simp⟩
theorem all_at {α : Type} {f : α → Bool} {L : List α} (d : α) (h : ∀ j, j < L.length → f (L.getD j d) = true) : L.all f = true := by
 rw [List.all_eq_true]
 intro x hx
 obtain ⟨j, hj, rfl⟩ := List.getElem_of_mem hx
 have := h j hj
 simpa [List.getD_eq_getElem?_getD, hj] using this
def FindIs (w : World) (b : Bool) (e : Ending) (w' : World) : Prop := ∃ i : Int, e = .returned (.int .i64 i) ∧ decide (i ≥ 0) = !b ∧ Ext w w'
theorem indexA_any {w : World} {a : Option Addr} {n cp : Nat} {L : List Int} (h : NumsAt .i64 w (.slice a n cp) L) :
  Calls Try.prog 103 #[.slice a n cp, .func (.func 100) #[] #[]] w (FindIs w (adsB L)) := by
 have HN : Hid (NumsAt .i64 w (.slice a n cp) L ∧ n = L.length) := ⟨h, (nums_len h).1⟩
 have hmx := (nums_len h).2
 unfold maxLen at hmx
 clear h
 go_enter Try.func103, Try.ntmps103
 go_wp2
 go_loopg [8] n (fun gm t wr => ∃ k : Nat, k ≤ n ∧ gm = n - k ∧ t = .int .i64 (k : Int) ∧ Hid (Ext w wr ∧ ∀ j, j < k → adB (L.getD j 0) = true))
 case atStart => exact ⟨0, Nat.zero_le _, rfl, rfl, Ext.refl _, fun j hj => by omega⟩
 case round =>
  obtain ⟨k, hk, rfl, rfl, HR⟩ := hrel
  by_cases hlt : k < n
  ·
   have hd : decide ((k : Int) < (n : Int)) = true := decide_eq_true (by omega)
   have hkL : k < L.length := by rw [← HN.out.2]; exact hlt
   obtain ⟨b, off, rfl, hc⟩ := HN.out.1.cellAt k hkL
   have hc' := HR.out.1.cell hc
   have HX : Hid (∀ j, j = k → L.getD j 0 = L.getD k 0) := fun j h => by rw [h]
   have HKL : Hid (k < L.length) := hkL
   clear hc hkL
   obtain ⟨x, hx⟩ : ∃ x, x = L.getD k 0 := ⟨_, rfl⟩
   rw [← hx] at hc'
   have HXX : Hid (x = L.getD k 0) := hx
   clear hx
   cases hb : adB x with
   | true =>
    go_wp2_with (first
     | (go_at_call 100; refine (addrsC_any _ _).mono ?_; rintro e w2 ⟨rfl, he2⟩; rw [hb]))
    go_roundg (n - (k + 1))
    case measure => omega
    case rel =>
     refine ⟨k + 1, by omega, rfl, by simp, HR.out.1.trans he2, fun j hj => ?_⟩
     by_cases hjk : j = k
     ·
      subst hjk; rw [← HXX.out]; exact hb
     ·
      exact HR.out.2 j (by omega)
   | false =>
    have HF : Hid (adsB L = false) := not_all_at 0 HKL.out (by rw [← HXX.out]; exact hb)
    go_wp2_with (first
     | (go_at_call 100; refine (addrsC_any _ _).mono ?_; rintro e w2 ⟨rfl, he2⟩; rw [hb]))
    go_ret
    exact ⟨_, rfl, by rw [HF.out]; simp, HR.out.1.trans he2⟩
  ·
   have hd : decide ((k : Int) < (n : Int)) = false := decide_eq_false (by omega)
   have HF : Hid (adsB L = true) := all_at 0 (fun j hj => HR.out.2 j (by have := HN.out.2; omega))
   go_wp2
   go_ret
   exact ⟨_, rfl, by rw [HF.out]; rfl, HR.out.1⟩
end Tlv
end Go.Proofs.Ytigocaconkbalaa
namespace Go.Proofs.Ytigocaconkbalaa
open Go
section
variable {P : Program} {mk : Tmp → Option Nat} {a0 : Act} {V : Nat → Fact} {w0 : World} {i : Nat} {o : Oper}
def GdB (V : Nat → Fact) (o : Oper) (C : Bool) : Prop := (o.guard = none ∧ C = true) ∨ ∃ (g : Nat) (want b C0 : Bool), o.guard = some (g, want) ∧ (∀ w y, V g w y → Under C0 (.bool b) w y) ∧ C = (C0 && (b == want))
theorem gd0 (h : o.guard = none) : GdB V o true := .inl ⟨h, rfl⟩
theorem gdU {g : Nat} {want b C : Bool} (h : o.guard = some (g, want)) (hb : ∀ w y, V g w y → y = .bool b) (hC : C = (b == want)) : GdB V o C := .inr ⟨g, want, b, true, h, fun w y hy => (hb w y hy).trans (if_pos rfl).symm, by rw [Bool.true_and]; exact hC⟩
theorem gdN {g : Nat} {want b C0 me : Bool} (h : o.guard = some (g, want)) (hb : ∀ w y, V g w y → y = if C0 = true then .bool b else undef) (hC : me = (b == want)) : GdB V o (C0 && me) := .inr ⟨g, want, b, C0, h, hb, by rw [hC]⟩
def OutB (V : Nat → Fact) (i : Nat) (C : Bool) (v : Value) : Prop := (∀ w, C = true → V i w v) ∧ (∀ w, C = false → V i w undef)
theorem ouI {v : Value} (h : V i = Is v) : OutB V i true v := ⟨fun w _ => by rw [h]; rfl, fun w h => by cases h⟩
theorem ouU {C : Bool} {v : Value} (h : V i = Under C v) : OutB V i C v := ⟨fun w hc => by rw [h]; exact uy hc, fun w hc => by rw [h]; exact un_ hc⟩
theorem good_by {C : Bool} {v : Value} (G : GdB V o C) (O : OutB V i C v) (h : C = true → ∀ (r : Operand → Value) (w : World), Ext w0 w → factsOf mk a0 V r w o.op.operands.toList → (execOp r o).run P w = .ok (.value v) w) : Good P mk a0 Ext V w0 i o := by
 intro r w hR hf
 rcases G with ⟨hg, rfl⟩ | ⟨g, want, b, C0, hg, hb, rfl⟩
 ·
  rw [hg]
  exact gvo (h rfl r w hR hf) ⟨Ext.refl _, O.1 _ rfl⟩
 ·
  rw [hg]
  intro gb hgb
  exact guard_n (hb w gb hgb) rfl (fun hc => gvo (h hc r w hR hf) ⟨Ext.refl _, O.1 _ hc⟩) (fun hc => O.2 _ hc)
theorem ln1 {C : Bool} {x : Operand} {v1 v : Value} (G : GdB V o C) (ho : o.op.operands.toList = [x]) (O : OutB V i C v) (hx : ∀ r w, factOf mk a0 V r w x → C = true → r x = v1) (he : ∀ (r : Operand → Value) (w : World), Ext w0 w → r x = v1 → (execOp r o).run P w = .ok (.value v) w) : Good P mk a0 Ext V w0 i o :=
 good_by G O fun hc r w hR hf => by rw [ho] at hf; exact he r w hR (hx r w hf.1 hc)
theorem ln2 {C : Bool} {x y : Operand} {v1 v2 v : Value} (G : GdB V o C) (ho : o.op.operands.toList = [x, y]) (O : OutB V i C v) (hx : ∀ r w, factOf mk a0 V r w x → C = true → r x = v1) (hy : ∀ r w, factOf mk a0 V r w y → C = true → r y = v2) (he : ∀ (r : Operand → Value) (w : World), Ext w0 w → r x = v1 → r y = v2 → (execOp r o).run P w = .ok (.value v) w) : Good P mk a0 Ext V w0 i o :=
 good_by G O fun hc r w hR hf => by rw [ho] at hf; exact he r w hR (hx r w hf.1 hc) (hy r w hf.2.1 hc)
theorem exec_mv {r : Operand → Value} {w : World} {x : Operand} {v : Value} (ho : o.op = .move x ∨ o.op = .assign x) (h : r x = v) : (execOp r o).run P w = .ok (.value v) w := by
 rcases ho with e | e <;> simp [execOp, e, h, go_sem]
theorem lnA {C b q : Bool} {c x : Operand} (G : GdB V o C) (ho : o.op = .pick c x (.const (.bool false))) (O : OutB V i C (.bool (b && q))) (hc : ∀ r w, factOf mk a0 V r w c → C = true → r c = .bool b) (hx : ∀ r w, factOf mk a0 V r w x → C = true → b = true → r x = .bool q) : Good P mk a0 Ext V w0 i o :=
 good_by G O fun hC r w hR hf => by
  have e : o.op.operands.toList = [c, x, .const (.bool false)] := by rw [ho]; rfl
  rw [e] at hf
  have h1 := hc r w hf.1 hC
  have h2 := hx r w hf.2.1 hC
  have h3 : r (.const (.bool false)) = .bool false := hf.2.2.1
  cases b with
  | true => simp [execOp, ho, h1, h2 rfl, go_sem]
  | false => simp [execOp, ho, h1, h3, go_sem]
theorem lnO {C b q : Bool} {c x : Operand} (G : GdB V o C) (ho : o.op = .pick c (.const (.bool true)) x) (O : OutB V i C (.bool (b || q))) (hc : ∀ r w, factOf mk a0 V r w c → C = true → r c = .bool b) (hx : ∀ r w, factOf mk a0 V r w x → C = true → b = false → r x = .bool q) : Good P mk a0 Ext V w0 i o :=
 good_by G O fun hC r w hR hf => by
  have e : o.op.operands.toList = [c, .const (.bool true), x] := by rw [ho]; rfl
  rw [e] at hf
  have h1 := hc r w hf.1 hC
  have h2 := hx r w hf.2.2.1 hC
  have h3 : r (.const (.bool true)) = .bool true := hf.2.1
  cases b with
  | true => simp [execOp, ho, h1, h3, go_sem]
  | false => simp [execOp, ho, h1, h2 rfl, go_sem]
theorem lr1 {R : World → World → Prop} {x : Operand} {v1 v : Value} (hRf : ∀ w, R w w) (hg : o.guard = none) (ho : o.op.operands.toList = [x]) (hV : V i = Is v) (hx : ∀ r w, factOf mk a0 V r w x → r x = v1) (he : ∀ (r : Operand → Value) (w : World), R w0 w → r x = v1 → (execOp r o).run P w = .ok (.value v) w) : Good P mk a0 R V w0 i o := by
 intro r w hR hf
 rw [hg]
 rw [ho] at hf
 exact gvo (he r w hR (hx r w hf.1)) ⟨hRf _, by rw [hV]; rfl⟩
theorem lr2 {R : World → World → Prop} {x y : Operand} {v1 v2 v : Value} (hRf : ∀ w, R w w) (hg : o.guard = none) (ho : o.op.operands.toList = [x, y]) (hV : V i = Is v) (hx : ∀ r w, factOf mk a0 V r w x → r x = v1) (hy : ∀ r w, factOf mk a0 V r w y → r y = v2) (he : ∀ (r : Operand → Value) (w : World), R w0 w → r x = v1 → r y = v2 → (execOp r o).run P w = .ok (.value v) w) : Good P mk a0 R V w0 i o := by
 intro r w hR hf
 rw [hg]
 rw [ho] at hf
 exact gvo (he r w hR (hx r w hf.1) (hy r w hf.2.1)) ⟨hRf _, by rw [hV]; rfl⟩
end
theorem iA {α β : Sort _} {Q : α → β → Prop} {C : Prop} (a : α) (b : β) (h : Q a b) (_ : C) : Q a b := h
theorem iB {α β : Sort _} {Q : α → β → Prop} (a : α) (b : β) (h : Q a b) : Q a b := h
theorem iC {α β : Sort _} {C : Prop} [Decidable C] {f : α → β → Value} {v u : Value} (a : α) (b : β) (h : f a b = if C then v else u) (c : C) : f a b = v := h.trans (if_pos c)
theorem iD {α β : Sort _} {C : Prop} {q : Bool} {f : α → β → Value} {v u : Value} (a : α) (b : β) (h : f a b = if q = true then v else u) (_ : C) (hq : q = true) : f a b = v := h.trans (if_pos hq)
theorem iE {α β : Sort _} {C : Prop} {q : Bool} {f : α → β → Value} {v u : Value} (a : α) (b : β) (h : f a b = if (!q) = true then v else u) (_ : C) (hq : q = false) : f a b = v := h.trans (if_pos (by rw [hq]; rfl))
theorem iF {α β : Sort _} {C q : Bool} {f : α → β → Value} {v u : Value} (a : α) (b : β) (h : f a b = if (C && q) = true then v else u) (c : C = true) (hq : q = true) : f a b = v := h.trans (if_pos (by rw [c, hq]; rfl))
theorem iG {α β : Sort _} {C q : Bool} {f : α → β → Value} {v u : Value} (a : α) (b : β) (h : f a b = if (C && !q) = true then v else u) (c : C = true) (hq : q = false) : f a b = v := h.trans (if_pos (by rw [c, hq]; rfl))
section
variable {V : Nat → Fact} {o : Oper}
theorem lmv {P : Program} {mk : Tmp → Option Nat} {a0 : Act} {w0 : World} {i : Nat} {x : Operand} {v : Value} (hg : o.guard = none) (hm : o.op = .move x ∨ o.op = .assign x) (ho : o.op.operands.toList = [x]) (hv : V i = Is v) (hx : ∀ r w, factOf mk a0 V r w x → r x = v) : Good P mk a0 Ext V w0 i o := ln1 (gd0 hg) ho (ouI hv) (fun r w h _ => hx r w h) (fun r w hR h1 => exec_mv hm h1)
theorem gT {g : Nat} {b : Bool} (h : o.guard = some (g, true)) (hb : ∀ w y, V g w y → y = .bool b) : GdB V o b := gdU h hb (want_t _)
theorem gF {g : Nat} {b : Bool} (h : o.guard = some (g, false)) (hb : ∀ w y, V g w y → y = .bool b) : GdB V o (!b) := gdU h hb (want_f _)
theorem nT {g : Nat} {b C0 : Bool} (h : o.guard = some (g, true)) (hb : ∀ w y, V g w y → y = if C0 = true then .bool b else undef) : GdB V o (C0 && b) := gdN h hb (want_t _)
theorem nF {g : Nat} {b C0 : Bool} (h : o.guard = some (g, false)) (hb : ∀ w y, V g w y → y = if C0 = true then .bool b else undef) : GdB V o (C0 && !b) := gdN h hb (want_f _)
end
end Go.Proofs.Ytigocaconkbalaa
namespace Go.Proofs.Ytigocaconkbalaa
namespace Tlv
open Go Go.RowKit
theorem ParsAt.one (w : World) (n : Nat) (hn : n = w.heap.size) {t : TypeId} {k : Int} {u : Value} {m : List Nat} (hu : BytesAt w u m) : ParsAt (w.alloc (.cells #[.int .i64 k, u] t)) (.slice (some ⟨n, 0, none⟩) 1 1) [(k, m)] := by
 refine ⟨by simp [maxLen], _, _, rfl, fun i p hp => ?_⟩
 have hi := (List.getElem?_eq_some_iff.1 hp).1
 obtain rfl : i = 0 := by simp at hi; exact hi
 simp at hp
 subst hp
 exact ⟨n, 0, u, rfl, cellNew _ _ _ _ _ _ hn, cellNew _ _ _ _ _ _ hn, hu.ext (Ext.alloc _ _)⟩
theorem write_good {w : World} {v : Value} {L : List Par} (hv : ParsAt w v L) (hlen : (writeB L).length ≤ 700000) (hL : L.length ≤ 100000) (hg : ∀ p ∈ L, goodP p = true) :
  Calls Try.prog 89 #[v] w fun e w' => Ext w w' ∧ ∃ a n c, e = .returned (.tuple #[.slice a n c, .nilIface]) ∧ n = (writeB L).length ∧ OB w' w.heap.size (.slice a n c) (writeB L) :=
 (write_any hv hlen hL).mono fun e w' h => by
  obtain ⟨h1, ⟨a, n, c, h2, h3, h4, _⟩ | ⟨_, p, hp, h5⟩⟩ := h
  ·
   exact ⟨h1, a, n, c, h2, h3, h4⟩
  ·
   rw [hg p hp] at h5; cases h5
theorem params_some {w : World} {v : Value} {B : List Nat} {L : List Par} (hv : BytesAt w v B) (hB : B.length ≤ 100000) (hL : readAll B = some L) :
  Calls Try.prog 95 #[v] w fun e w' => Ext w w' ∧ ∃ lv, e = .returned (.tuple #[lv, .nilIface]) ∧ OwnL 138 w' w.heap.size lv L :=
 (params_any hv hB).mono fun e w' h => by
  obtain ⟨h1, ⟨h2, _⟩ | ⟨L', lv, h2, h3, h4⟩⟩ := h
  ·
   rw [hL] at h2; cases h2
  ·
   rw [hL] at h2; cases h2; exact ⟨h1, lv, h3, h4⟩
theorem params_none {w : World} {v : Value} {B : List Nat} (hv : BytesAt w v B) (hB : B.length ≤ 100000) (hL : readAll B = none) :
  Calls Try.prog 95 #[v] w fun e w' => Ext w w' ∧ e = .returned (.tuple #[.slice none 0 0, errF]) :=
 (params_any hv hB).mono fun e w' h => by
  obtain ⟨h1, ⟨_, h2⟩ | ⟨L', lv, h2, _⟩⟩ := h
  ·
   exact ⟨h1, h2⟩
  ·
   rw [hL] at h2; cases h2
theorem strT : Try.prog.underlying 9 = some .string := Try.underlying9
theorem equal_any {w : World} {v u : Value} {l m : List Nat} (hv : BytesAt w v l) (hu : BytesAt w u m) :
  Calls Try.prog 43 #[v, u] w fun e w' => e = .returned (.bool (decide (l = m))) ∧ Ext w w' := by
 have h1 := run_string_bytes byteT strT w _ _ hv
 have h2 := run_string_bytes byteT strT w _ _ hu
 have h3 := strOf_beq l m hv.1 hu.1
 obtain ⟨_, _, rfl, _⟩ := hv.form
 obtain ⟨_, _, rfl, _⟩ := hu.form
 clear hv hu
 go_enter Try.func43, Try.ntmps43
 go_wp2
 go_ret
 exact ⟨rfl, Ext.refl _⟩
abbrev sp_0 (c d : Ck) : Bool := (((c.ptsn : Int) == (d.ptsn : Int)) && ((c.pstr : Int) == (d.pstr : Int)))
abbrev sp_1 (c d : Ck) : Bool := ((sp_0 c d) && ((c.pseq : Int) == (d.pseq : Int)))
abbrev sp_2 (c d : Ck) : Bool := ((sp_1 c d) && ((c.pb) == (d.pb)))
abbrev sp_3 (c d : Ck) : Bool := ((sp_2 c d) && ((c.pe) == (d.pe)))
abbrev sp_4 (c d : Ck) : Bool := ((sp_3 c d) && ((c.pu) == (d.pu)))
abbrev sp_5 (c d : Ck) : Bool := ((sp_4 c d) && (decide (c.text = d.text)))
def samePB (c d : Ck) : Bool := ((((((((c.ptsn : Int) == (d.ptsn : Int)) && ((c.pstr : Int) == (d.pstr : Int))) && ((c.pseq : Int) == (d.pseq : Int))) && ((c.pb) == (d.pb))) && ((c.pe) == (d.pe))) && ((c.pu) == (d.pu))) && (decide (c.text = d.text)))
theorem samePiece_any {w : World} {c d : Ck} {s u : Sv} (ha : BytesAt w (.slice s.tA s.tN s.tC) c.text) (hb : BytesAt w (.slice u.tA u.tN u.tC) d.text) :
  Calls Try.prog 56 #[.agg (PV c s), .agg (PV d u)] w fun e w' => e = .returned (.bool (samePB c d)) ∧ Ext w w' := by
 unfold samePB
 go_enter Try.func56, Try.ntmps56
 go_wp2_with (first
  | (have q := he1; clear q; refine wl_box (C := PV d u) rfl rfl rfl ?_; intro w2 hb2 he2 hx; clear hx; have hb1' := hb1.ext he2)
  | (refine wl_box (C := PV c s) rfl rfl rfl ?_; intro w1 hb1 he1 hx; clear hx)
  | (refine stop_at 48 rfl ?_))
 refine ⟨?_⟩
 refine wpList_line 0 (fun t => bif Nat.ble 5 t && Nat.ble t 51 then some (t - 5) else bif Nat.beq t 4 then some 47 else none) 52 Ext
  [Is (.pointer (some ⟨w.heap.size, 0, none⟩)),
   Is (.int .u32 (c.ptsn : Int)),
   Is (.pointer (some ⟨w1.heap.size, 0, none⟩)),
   Is (.int .u32 (d.ptsn : Int)),
   Is (.bool ((c.ptsn : Int) == (d.ptsn : Int))),
   Is (.bool ((c.ptsn : Int) == (d.ptsn : Int))),
   Under ((c.ptsn : Int) == (d.ptsn : Int)) (.pointer (some ⟨w.heap.size, 1, none⟩)),
   Under ((c.ptsn : Int) == (d.ptsn : Int)) (.int .u16 (c.pstr : Int)),
   Under ((c.ptsn : Int) == (d.ptsn : Int)) (.pointer (some ⟨w1.heap.size, 1, none⟩)),
   Under ((c.ptsn : Int) == (d.ptsn : Int)) (.int .u16 (d.pstr : Int)),
   Under ((c.ptsn : Int) == (d.ptsn : Int)) (.bool ((c.pstr : Int) == (d.pstr : Int))),
   Is (.bool (sp_0 c d)),
   Is (.bool (sp_0 c d)),
   Under (sp_0 c d) (.pointer (some ⟨w.heap.size, 2, none⟩)),
   Under (sp_0 c d) (.int .u16 (c.pseq : Int)),
   Under (sp_0 c d) (.pointer (some ⟨w1.heap.size, 2, none⟩)),
   Under (sp_0 c d) (.int .u16 (d.pseq : Int)),
   Under (sp_0 c d) (.bool ((c.pseq : Int) == (d.pseq : Int))),
   Is (.bool (sp_1 c d)),
   Is (.bool (sp_1 c d)),
   Under (sp_1 c d) (.pointer (some ⟨w.heap.size, 3, none⟩)),
   Under (sp_1 c d) (.bool c.pb),
   Under (sp_1 c d) (.pointer (some ⟨w1.heap.size, 3, none⟩)),
   Under (sp_1 c d) (.bool d.pb),
   Under (sp_1 c d) (.bool ((c.pb) == (d.pb))),
   Is (.bool (sp_2 c d)),
   Is (.bool (sp_2 c d)),
   Under (sp_2 c d) (.pointer (some ⟨w.heap.size, 4, none⟩)),
   Under (sp_2 c d) (.bool c.pe),
   Under (sp_2 c d) (.pointer (some ⟨w1.heap.size, 4, none⟩)),
   Under (sp_2 c d) (.bool d.pe),
   Under (sp_2 c d) (.bool ((c.pe) == (d.pe))),
   Is (.bool (sp_3 c d)),
   Is (.bool (sp_3 c d)),
   Under (sp_3 c d) (.pointer (some ⟨w.heap.size, 5, none⟩)),
   Under (sp_3 c d) (.bool c.pu),
   Under (sp_3 c d) (.pointer (some ⟨w1.heap.size, 5, none⟩)),
   Under (sp_3 c d) (.bool d.pu),
   Under (sp_3 c d) (.bool ((c.pu) == (d.pu))),
   Is (.bool (sp_4 c d)),
   Is (.bool (sp_4 c d)),
   Under (sp_4 c d) (.pointer (some ⟨w.heap.size, 6, none⟩)),
   Under (sp_4 c d) (.slice s.tA s.tN s.tC),
   Under (sp_4 c d) (.pointer (some ⟨w1.heap.size, 6, none⟩)),
   Under (sp_4 c d) (.slice u.tA u.tN u.tC),
   Under (sp_4 c d) (.bool (decide (c.text = d.text))),
   Is (.bool (sp_5 c d)),
   Is (.bool (sp_5 c d))]
  rfl (by kernel_rfl) rfl Ext.refl (fun _ _ _ => Ext.trans) (Ks (Ks (Ks (Ks (Ks (Ks (Ku (Ku (Ku (Ku (Ku (Ks (Ks (Ku (Ku (Ku (Ku (Ku (Ks (Ks (Ku (Ku (Ku (Ku (Ku (Ks (Ks (Ku (Ku (Ku (Ku (Ku (Ks (Ks (Ku (Ku (Ku (Ku (Ku (Ks (Ks (Ku (Ku (Ku (Ku (Ku (Ks (Ks (KeepAll.nil))))))))))))))))))))))))))))))))))))))))))))))))) ?_ ?_ ?_
 ·
  intro i o hi ho
  exact absurd hi (by omega)
 ·
  refine goodFrom 0 ?_
  refine Gc (ln1 (gd0 rfl) rfl (ouI rfl) iA (fun r wx hR h1 => by simp [execOp, h1, go_sem])) ?_
  refine Gc (ln1 (gd0 rfl) rfl (ouI rfl) iA (fun r wx hR h1 => exg one22 rfl h1 (pv0 (hb1'.ext hR)))) ?_
  refine Gc (ln1 (gd0 rfl) rfl (ouI rfl) iA (fun r wx hR h1 => by simp [execOp, h1, go_sem])) ?_
  refine Gc (ln1 (gd0 rfl) rfl (ouI rfl) iA (fun r wx hR h1 => exg one22 rfl h1 (pv0 (hb2.ext hR)))) ?_
  refine Gc (ln2 (gd0 rfl) rfl (ouI rfl) iA iA (fun r wx hR h1 h2 => by simp [execOp, h1, h2, go_sem])) ?_
  refine Gc (lmv rfl (.inl rfl) rfl rfl iB) ?_
  refine Gc (ln1 (gT rfl iB) rfl (ouU rfl) iA (fun r wx hR h1 => by simp [execOp, h1, go_sem])) ?_
  refine Gc (ln1 (gT rfl iB) rfl (ouU rfl) iC (fun r wx hR h1 => exg one23 rfl h1 (pv1 (hb1'.ext hR)))) ?_
  refine Gc (ln1 (gT rfl iB) rfl (ouU rfl) iA (fun r wx hR h1 => by simp [execOp, h1, go_sem])) ?_
  refine Gc (ln1 (gT rfl iB) rfl (ouU rfl) iC (fun r wx hR h1 => exg one23 rfl h1 (pv1 (hb2.ext hR)))) ?_
  refine Gc (ln2 (gT rfl iB) rfl (ouU rfl) iC iC (fun r wx hR h1 h2 => by simp [execOp, h1, h2, go_sem])) ?_
  refine Gc (lnA (gd0 rfl) rfl (ouI rfl) iA iD) ?_
  refine Gc (lmv rfl (.inl rfl) rfl rfl iB) ?_
  refine Gc (ln1 (gT rfl iB) rfl (ouU rfl) iA (fun r wx hR h1 => by simp [execOp, h1, go_sem])) ?_
  refine Gc (ln1 (gT rfl iB) rfl (ouU rfl) iC (fun r wx hR h1 => exg one23 rfl h1 (pv2 (hb1'.ext hR)))) ?_
  refine Gc (ln1 (gT rfl iB) rfl (ouU rfl) iA (fun r wx hR h1 => by simp [execOp, h1, go_sem])) ?_
  refine Gc (ln1 (gT rfl iB) rfl (ouU rfl) iC (fun r wx hR h1 => exg one23 rfl h1 (pv2 (hb2.ext hR)))) ?_
  refine Gc (ln2 (gT rfl iB) rfl (ouU rfl) iC iC (fun r wx hR h1 h2 => by simp [execOp, h1, h2, go_sem])) ?_
  refine Gc (lnA (gd0 rfl) rfl (ouI rfl) iA iD) ?_
  refine Gc (lmv rfl (.inl rfl) rfl rfl iB) ?_
  refine Gc (ln1 (gT rfl iB) rfl (ouU rfl) iA (fun r wx hR h1 => by simp [execOp, h1, go_sem])) ?_
  refine Gc (ln1 (gT rfl iB) rfl (ouU rfl) iC (fun r wx hR h1 => exg one4 rfl h1 (pv3 (hb1'.ext hR)))) ?_
  refine Gc (ln1 (gT rfl iB) rfl (ouU rfl) iA (fun r wx hR h1 => by simp [execOp, h1, go_sem])) ?_
  refine Gc (ln1 (gT rfl iB) rfl (ouU rfl) iC (fun r wx hR h1 => exg one4 rfl h1 (pv3 (hb2.ext hR)))) ?_
  refine Gc (ln2 (gT rfl iB) rfl (ouU rfl) iC iC (fun r wx hR h1 h2 => by simp [execOp, h1, h2, go_sem])) ?_
  refine Gc (lnA (gd0 rfl) rfl (ouI rfl) iA iD) ?_
  refine Gc (lmv rfl (.inl rfl) rfl rfl iB) ?_
  refine Gc (ln1 (gT rfl iB) rfl (ouU rfl) iA (fun r wx hR h1 => by simp [execOp, h1, go_sem])) ?_
  refine Gc (ln1 (gT rfl iB) rfl (ouU rfl) iC (fun r wx hR h1 => exg one4 rfl h1 (pv4 (hb1'.ext hR)))) ?_
  refine Gc (ln1 (gT rfl iB) rfl (ouU rfl) iA (fun r wx hR h1 => by simp [execOp, h1, go_sem])) ?_
  refine Gc (ln1 (gT rfl iB) rfl (ouU rfl) iC (fun r wx hR h1 => exg one4 rfl h1 (pv4 (hb2.ext hR)))) ?_
  refine Gc (ln2 (gT rfl iB) rfl (ouU rfl) iC iC (fun r wx hR h1 h2 => by simp [execOp, h1, h2, go_sem])) ?_
  refine Gc (lnA (gd0 rfl) rfl (ouI rfl) iA iD) ?_
  refine Gc (lmv rfl (.inl rfl) rfl rfl iB) ?_
  refine Gc (ln1 (gT rfl iB) rfl (ouU rfl) iA (fun r wx hR h1 => by simp [execOp, h1, go_sem])) ?_
  refine Gc (ln1 (gT rfl iB) rfl (ouU rfl) iC (fun r wx hR h1 => exg one4 rfl h1 (pv5 (hb1'.ext hR)))) ?_
  refine Gc (ln1 (gT rfl iB) rfl (ouU rfl) iA (fun r wx hR h1 => by simp [execOp, h1, go_sem])) ?_
  refine Gc (ln1 (gT rfl iB) rfl (ouU rfl) iC (fun r wx hR h1 => exg one4 rfl h1 (pv5 (hb2.ext hR)))) ?_
  refine Gc (ln2 (gT rfl iB) rfl (ouU rfl) iC iC (fun r wx hR h1 h2 => by simp [execOp, h1, h2, go_sem])) ?_
  refine Gc (lnA (gd0 rfl) rfl (ouI rfl) iA iD) ?_
  refine Gc (lmv rfl (.inl rfl) rfl rfl iB) ?_
  refine Gc (ln1 (gT rfl iB) rfl (ouU rfl) iA (fun r wx hR h1 => by simp [execOp, h1, go_sem])) ?_
  refine Gc (ln1 (gT rfl iB) rfl (ouU rfl) iC (fun r wx hR h1 => exg oneS rfl h1 (pv6 (hb1'.ext hR)))) ?_
  refine Gc (ln1 (gT rfl iB) rfl (ouU rfl) iA (fun r wx hR h1 => by simp [execOp, h1, go_sem])) ?_
  refine Gc (ln1 (gT rfl iB) rfl (ouU rfl) iC (fun r wx hR h1 => exg oneS rfl h1 (pv6 (hb2.ext hR)))) ?_
  refine Gc ?_ ?_
  ·
   rintro r wx hR ⟨h1, h2, h3, _⟩
   replace h1 : r (.func 43) = .func (.func 43) #[] #[] := h1
   replace h2 : Under (sp_4 c d) (.slice s.tA s.tN s.tC) wx (r (.tmp 47)) := h2
   replace h3 : Under (sp_4 c d) (.slice u.tA u.tN u.tC) wx (r (.tmp 49)) := h3
   intro gb hgb
   refine guard_u (C := (sp_4 c d)) (b := (sp_4 c d)) (want := true) hgb (want_t _) (fun hc => ?_) (fun hc => un_ hc)
   replace h2 := h2.get hc
   replace h3 := h3.get hc
   refine give_func #[.slice s.tA s.tN s.tC, .slice u.tA u.tN u.tC] rfl h1 Try.call43 (by simp [h2, h3]) ?_
   refine (equal_any ((ha.ext (he1.trans he2)).ext hR) ((hb.ext (he1.trans he2)).ext hR)).mono ?_
   rintro e wz ⟨rfl, hez⟩
   exact ⟨_, rfl, hez, uy hc⟩
  refine Gc (lnA (gd0 rfl) rfl (ouI rfl) iA iD) ?_
  refine Gc (lmv rfl (.inr rfl) rfl rfl iB) ?_
  exact GoodAll.nil
 ·
  intro vs wE aE hR hold haE
  have hv : vs 47 = .bool ((((((((c.ptsn : Int) == (d.ptsn : Int)) && ((c.pstr : Int) == (d.pstr : Int))) && ((c.pseq : Int) == (d.pseq : Int))) && ((c.pb) == (d.pb))) && ((c.pe) == (d.pe))) && ((c.pu) == (d.pu))) && (decide (c.text = d.text))) := hold.at 47
  refine ‹∀ (a : Act) (w : World), Code.wp Try.prog Code.ret _ a w → _› _ _ ?_
  refine wp_ret ?_
  have hs : aE.tmps[4]? = some (.bool ((((((((c.ptsn : Int) == (d.ptsn : Int)) && ((c.pstr : Int) == (d.pstr : Int))) && ((c.pseq : Int) == (d.pseq : Int))) && ((c.pb) == (d.pb))) && ((c.pe) == (d.pe))) && ((c.pu) == (d.pu))) && (decide (c.text = d.text)))) := by rw [haE, ← hv]; kernel_rfl
  have hdf : aE.defers = [] := by rw [haE]; exact putAll_defers _ _ _ _
  clear haE
  refine bodyPost_ret (v := .bool ((((((((c.ptsn : Int) == (d.ptsn : Int)) && ((c.pstr : Int) == (d.pstr : Int))) && ((c.pseq : Int) == (d.pseq : Int))) && ((c.pb) == (d.pb))) && ((c.pe) == (d.pe))) && ((c.pu) == (d.pu))) && (decide (c.text = d.text)))) ?_ hdf ⟨rfl, (he1.trans he2).trans hR⟩
  simp [results, Try.results56, go_sem, hs]
theorem list_same {α : Type} (d : α) {l m : List α} (hl : l.length = m.length) (h : ∀ j, j < l.length → l.getD j d = m.getD j d) : l = m := by
 apply List.ext_getElem hl
 intro j h1 h2
 have := h j h1
 simpa [List.getD_eq_getElem?_getD, h1, h2] using this
theorem eqA_any {w : World} {a : Option Addr} {n cp : Nat} {a' : Option Addr} {n' cp' : Nat} {l m : List Int} (h : NumsAt .i64 w (.slice a n cp) l) (h' : NumsAt .i64 w (.slice a' n' cp') m) :
  Calls Try.prog 57 #[.slice a n cp, .slice a' n' cp'] w fun e w' => e = .returned (.bool (decide (l = m))) ∧ Ext w w' := by
 have H : Hid (NumsAt .i64 w (.slice a n cp) l ∧ NumsAt .i64 w (.slice a' n' cp') m ∧ n = l.length ∧ n' = m.length) := ⟨h, h', (nums_len h).1, (nums_len h').1⟩
 have hmx := (nums_len h).2
 have hmx' := (nums_len h').2
 unfold maxLen at hmx hmx'
 clear h h'
 by_cases hn : n = n'
 case neg =>
  have hd : ((n : Int) != (n' : Int)) = true := by simp; omega
  have HF : Hid (decide (l = m) = false) := decide_eq_false (fun e => hn (by rw [H.out.2.2.1, H.out.2.2.2, e]))
  go_enter Try.func57, Try.ntmps57
  go_wp2
  go_ret
  exact ⟨by rw [HF.out]; rfl, Ext.refl _⟩
 subst hn
 go_enter Try.func57, Try.ntmps57
 go_wp2
 go_loopg [13] n (fun gm t wr => ∃ k : Nat, k ≤ n ∧ gm = n - k ∧ t = .int .i64 (k : Int) ∧ Hid (Ext w wr ∧ ∀ j, j < k → l.getD j 0 = m.getD j 0))
 case atStart => exact ⟨0, Nat.zero_le _, rfl, rfl, Ext.refl _, fun j hj => by omega⟩
 case round =>
  obtain ⟨k, hk, rfl, rfl, HR⟩ := hrel
  by_cases hlt : k < n
  ·
   have hd : decide ((k : Int) < (n : Int)) = true := decide_eq_true (by omega)
   obtain ⟨b, off, rfl, hc⟩ := H.out.1.cellAt k (by rw [← H.out.2.2.1]; exact hlt)
   obtain ⟨b', off', rfl, hc'⟩ := H.out.2.1.cellAt k (by rw [← H.out.2.2.2]; exact hlt)
   replace hc := HR.out.1.cell hc
   replace hc' := HR.out.1.cell hc'
   obtain ⟨x, hx⟩ : ∃ x, x = l.getD k 0 := ⟨_, rfl⟩
   obtain ⟨y, hy⟩ : ∃ y, y = m.getD k 0 := ⟨_, rfl⟩
   rw [← hx] at hc
   rw [← hy] at hc'
   have HX : Hid (x = l.getD k 0 ∧ y = m.getD k 0) := ⟨hx, hy⟩
   clear hx hy
   by_cases hxy : x = y
   ·
    subst hxy
    have HX2 : Hid (l.getD k 0 = m.getD k 0) := HX.out.1.symm.trans HX.out.2
    clear HX
    go_wp2_with fail
    go_quiet (fail)
    go_wp2
    go_roundg (n - (k + 1))
    case measure => omega
    case rel =>
     refine ⟨k + 1, by omega, rfl, by simp, HR.out.1.trans (Ext.drewN _ _), fun j hj => ?_⟩
     by_cases hjk : j = k
     ·
      subst hjk; exact HX2.out
     ·
      exact HR.out.2 j (by omega)
   ·
    have hd2 : (x != y) = true := by simpa using hxy
    have hd3 : (x == y) = false := by simpa using hxy
    have hd4 : decide (x = y) = false := by simpa using hxy
    have HF : Hid (decide (l = m) = false) := decide_eq_false (fun e => hxy (by rw [HX.out.1, HX.out.2, e]))
    clear HX
    go_wp2_with fail
    go_quiet (fail)
    go_wp2
    go_ret
    exact ⟨by rw [HF.out]; rfl, HR.out.1.trans (Ext.drewN _ _)⟩
  ·
   have hd : decide ((k : Int) < (n : Int)) = false := decide_eq_false (by omega)
   have HF : Hid (decide (l = m) = true) := decide_eq_true (list_same 0 (by rw [← H.out.2.2.1, ← H.out.2.2.2]) (fun j hj => HR.out.2 j (by have := H.out.2.2.1; omega)))
   go_wp2
   go_ret
   exact ⟨by rw [HF.out]; rfl, HR.out.1⟩
theorem eqD_any {w : World} {a : Option Addr} {n cp : Nat} {a' : Option Addr} {n' cp' : Nat} {l m : List Int} (h : NumsAt .u32 w (.slice a n cp) l) (h' : NumsAt .u32 w (.slice a' n' cp') m) :
  Calls Try.prog 59 #[.slice a n cp, .slice a' n' cp'] w fun e w' => e = .returned (.bool (decide (l = m))) ∧ Ext w w' := by
 have H : Hid (NumsAt .u32 w (.slice a n cp) l ∧ NumsAt .u32 w (.slice a' n' cp') m ∧ n = l.length ∧ n' = m.length) := ⟨h, h', (nums_len h).1, (nums_len h').1⟩
 have hmx := (nums_len h).2
 have hmx' := (nums_len h').2
 unfold maxLen at hmx hmx'
 clear h h'
 by_cases hn : n = n'
 case neg =>
  have hd : ((n : Int) != (n' : Int)) = true := by simp; omega
  have HF : Hid (decide (l = m) = false) := decide_eq_false (fun e => hn (by rw [H.out.2.2.1, H.out.2.2.2, e]))
  go_enter Try.func59, Try.ntmps59
  go_wp2
  go_ret
  exact ⟨by rw [HF.out]; rfl, Ext.refl _⟩
 subst hn
 go_enter Try.func59, Try.ntmps59
 go_wp2
 go_loopg [13] n (fun gm t wr => ∃ k : Nat, k ≤ n ∧ gm = n - k ∧ t = .int .i64 (k : Int) ∧ Hid (Ext w wr ∧ ∀ j, j < k → l.getD j 0 = m.getD j 0))
 case atStart => exact ⟨0, Nat.zero_le _, rfl, rfl, Ext.refl _, fun j hj => by omega⟩
 case round =>
  obtain ⟨k, hk, rfl, rfl, HR⟩ := hrel
  by_cases hlt : k < n
  ·
   have hd : decide ((k : Int) < (n : Int)) = true := decide_eq_true (by omega)
   obtain ⟨b, off, rfl, hc⟩ := H.out.1.cellAt k (by rw [← H.out.2.2.1]; exact hlt)
   obtain ⟨b', off', rfl, hc'⟩ := H.out.2.1.cellAt k (by rw [← H.out.2.2.2]; exact hlt)
   replace hc := HR.out.1.cell hc
   replace hc' := HR.out.1.cell hc'
   obtain ⟨x, hx⟩ : ∃ x, x = l.getD k 0 := ⟨_, rfl⟩
   obtain ⟨y, hy⟩ : ∃ y, y = m.getD k 0 := ⟨_, rfl⟩
   rw [← hx] at hc
   rw [← hy] at hc'
   have HX : Hid (x = l.getD k 0 ∧ y = m.getD k 0) := ⟨hx, hy⟩
   clear hx hy
   by_cases hxy : x = y
   ·
    subst hxy
    have HX2 : Hid (l.getD k 0 = m.getD k 0) := HX.out.1.symm.trans HX.out.2
    clear HX
    go_wp2_with fail
    go_quiet (fail)
    go_wp2
    go_roundg (n - (k + 1))
    case measure => omega
    case rel =>
     refine ⟨k + 1, by omega, rfl, by simp, HR.out.1.trans (Ext.drewN _ _), fun j hj => ?_⟩
     by_cases hjk : j = k
     ·
      subst hjk; exact HX2.out
     ·
      exact HR.out.2 j (by omega)
   ·
    have hd2 : (x != y) = true := by simpa using hxy
    have hd3 : (x == y) = false := by simpa using hxy
    have hd4 : decide (x = y) = false := by simpa using hxy
    have HF : Hid (decide (l = m) = false) := decide_eq_false (fun e => hxy (by rw [HX.out.1, HX.out.2, e]))
    clear HX
    go_wp2_with fail
    go_quiet (fail)
    go_wp2
    go_ret
    exact ⟨by rw [HF.out]; rfl, HR.out.1.trans (Ext.drewN _ _)⟩
  ·
   have hd : decide ((k : Int) < (n : Int)) = false := decide_eq_false (by omega)
   have HF : Hid (decide (l = m) = true) := decide_eq_true (list_same 0 (by rw [← H.out.2.2.1, ← H.out.2.2.2]) (fun j hj => HR.out.2 j (by have := H.out.2.2.1; omega)))
   go_wp2
   go_ret
   exact ⟨by rw [HF.out]; rfl, HR.out.1⟩
structure PairEq (t : TypeId) : Prop where
 u : Try.prog.underlying t = some (.struct (Try.prog.fieldsOf t))
 gd : Try.prog.eqGuardType Try.prog.depth t = false
 hd : Try.prog.stoodInHeld t = false
 fo : (Try.prog.fieldsOf t).toList.map (fun f => f.offset) = [0, 1]
 fa : (Try.prog.fieldsOf t).toList.map (fun f => decide (f.name = "_")) = [false, false]
 fy : (Try.prog.fieldsOf t).toList.map (fun f => f.type == 3 || f.type == 65) = [true, true]
theorem two_of {α : Type} : ∀ {L : List α}, L.length = 2 → ∃ f g, L = [f, g]
 | [f, g], _ => ⟨f, g, rfl⟩
 | [], h => by cases h
 | [_], h => by cases h
 | _ :: _ :: _ :: _, h => by simp at h
theorem equal_pair {t : TypeId} (hT : PairEq t) (w : World) (a b c d : Int) :
  (Op.equal t (.agg #[.int .i64 a, .int .i64 b]) (.agg #[.int .i64 c, .int .i64 d])).run Try.prog w = .ok (a == c && b == d) w := by
 show (Op.equalIn (9999 + 1) t _ _).run Try.prog w = _
 rw [run_equalIn_struct w 9999 t _ _ hT.u hT.hd]
 have h1 := hT.fo
 have h2 := hT.fa
 have h3 := hT.fy
 clear hT
 generalize (Try.prog.fieldsOf t).toList = L at *
 have hl : L.length = 2 := by simpa using congrArg List.length h1
 obtain ⟨f, g, rfl⟩ := two_of hl
 clear hl
 simp only [List.map_cons, List.map_nil, List.cons.injEq, and_true] at h1 h2 h3
 obtain ⟨f1, g1⟩ := h1
 have f2 : f.name ≠ "_" := of_decide_eq_false h2.1
 have g2 : g.name ≠ "_" := of_decide_eq_false h2.2
 have f3 := h3.1
 have g3 := h3.2
 rw [Bool.or_eq_true, beq_iff_eq, beq_iff_eq] at f3 g3
 have u3 := Try.underlying3
 have u65 := Try.underlying65
 have s3 : (Try.prog.info? 3).map (·.size) = some 1 := by kernel_rfl
 have s65 : (Try.prog.info? 65).map (·.size) = some 1 := by kernel_rfl
 have hf : Try.prog.underlying f.type = some (.int .i64) := by rcases f3 with h | h <;> rw [h] <;> assumption
 have hg : Try.prog.underlying g.type = some (.int .i64) := by rcases g3 with h | h <;> rw [h] <;> assumption
 have sf : (Try.prog.info? f.type).map (·.size) = some 1 := by rcases f3 with h | h <;> rw [h] <;> assumption
 have sg : (Try.prog.info? g.type).map (·.size) = some 1 := by rcases g3 with h | h <;> rw [h] <;> assumption
 cases hqf : Try.prog.info? f.type with
 | none => simp [hqf] at sf
 | some i =>
  cases hqg : Try.prog.info? g.type with
  | none => simp [hqg] at sg
  | some j =>
   have hi : i.size = 1 := by simpa [hqf] using sf
   have hj : j.size = 1 := by simpa [hqg] using sg
   have hqf' : (isAgg f.type).run Try.prog w = .ok false w := by unfold isAgg; rw [Sem.run_bind, run_underlying hf w]; rfl
   have hqg' : (isAgg g.type).run Try.prog w = .ok false w := by unfold isAgg; rw [Sem.run_bind, run_underlying hg w]; rfl
   simp [Op.eqFields, f1, f2, g1, g2, part, sizeOf, typeInfo, hqf, hqg, hi, hj, hqf', hqg', go_sem, run_equalIn_int w 9998 f.type .i64 .i64 a c hf, run_equalIn_int w 9998 g.type .i64 .i64 b d hg]
   by_cases e1 : a = c
   ·
    by_cases e2 : b = d
    ·
     simp [e1, e2]
    ·
     simp [e1, e2, beq_false_of_ne e2]
   ·
    simp [e1, beq_false_of_ne e1]
theorem exec_neqP {t : TypeId} (hT : PairEq t) {r : Operand → Value} {o : Oper} {x y : Operand} {ty : TypeId} {w : World} (ho : o.op = .binOp .neq t x y ty) {a b c d : Int} (hx : r x = .agg #[.int .i64 a, .int .i64 b]) (hy : r y = .agg #[.int .i64 c, .int .i64 d]) :
  (execOp r o).run Try.prog w = .ok (.value (.bool (!(a == c && b == d)))) w := by
 simp [execOp, ho, hx, hy, binOp, eqGuard, hT.gd, go_sem, equal_pair hT]
theorem pqG : PairEq 67 := ⟨by kernel_rfl, by kernel_rfl, by kernel_rfl, by kernel_rfl, by kernel_rfl, by kernel_rfl⟩
theorem pqO : PairEq 69 := ⟨by kernel_rfl, by kernel_rfl, by kernel_rfl, by kernel_rfl, by kernel_rfl, by kernel_rfl⟩
theorem pqG2 : PairEq 70 := ⟨by kernel_rfl, by kernel_rfl, by kernel_rfl, by kernel_rfl, by kernel_rfl, by kernel_rfl⟩
theorem pqO2 : PairEq 71 := ⟨by kernel_rfl, by kernel_rfl, by kernel_rfl, by kernel_rfl, by kernel_rfl, by kernel_rfl⟩
theorem two_cells {w : World} {b off : Nat} {u v : Value} (h0 : w.cell? ⟨b, off, none⟩ = some u) (h1 : w.cell? ⟨b, off + 1, none⟩ = some v) : ∀ (j : Nat) x, ([u, v] : List Value)[j]? = some x → w.cell? ⟨b, off + j, none⟩ = some x := by
 intro j x hx
 match j with
 | 0 => simp at hx; subst hx; exact h0
 | 1 => simp at hx; subst hx; exact h1
 | j + 2 => simp at hx
theorem eqG_any {w : World} {a : Option Addr} {n cp : Nat} {a' : Option Addr} {n' cp' : Nat} {l m : List (Int × Int)} (h : PairsAt w (.slice a n cp) l) (h' : PairsAt w (.slice a' n' cp') m) :
  Calls Try.prog 58 #[.slice a n cp, .slice a' n' cp'] w fun e w' => e = .returned (.bool (decide (l = m))) ∧ Ext w w' := by
 have H : Hid (PairsAt w (.slice a n cp) l ∧ PairsAt w (.slice a' n' cp') m ∧ n = l.length ∧ n' = m.length) := ⟨h, h', h.len.1, h'.len.1⟩
 have hmx := h.len.2.1
 have hmx' := h'.len.2.1
 unfold maxLen at hmx hmx'
 clear h h'
 by_cases hn : n = n'
 case neg =>
  have hd : ((n : Int) != (n' : Int)) = true := by simp; omega
  have HF : Hid (decide (l = m) = false) := decide_eq_false (fun e => hn (by rw [H.out.2.2.1, H.out.2.2.2, e]))
  go_enter Try.func58, Try.ntmps58
  go_wp2
  go_ret
  exact ⟨by rw [HF.out]; rfl, Ext.refl _⟩
 subst hn
 go_enter Try.func58, Try.ntmps58
 go_wp2
 go_loopg [13] n (fun gm t wr => ∃ k : Nat, k ≤ n ∧ gm = n - k ∧ t = .int .i64 (k : Int) ∧ Hid (Ext w wr ∧ ∀ j, j < k → l.getD j (0, 0) = m.getD j (0, 0)))
 case atStart => exact ⟨0, Nat.zero_le _, rfl, rfl, Ext.refl _, fun j hj => by omega⟩
 case round =>
  obtain ⟨k, hk, rfl, rfl, HR⟩ := hrel
  by_cases hlt : k < n
  ·
   have hd : decide ((k : Int) < (n : Int)) = true := decide_eq_true (by omega)
   obtain ⟨b, off, rfl, hc0, hc1⟩ := H.out.1.cellAt k (by rw [← H.out.2.2.1]; exact hlt)
   obtain ⟨b', off', rfl, hc0', hc1'⟩ := H.out.2.1.cellAt k (by rw [← H.out.2.2.2]; exact hlt)
   replace hc0 := HR.out.1.cell hc0
   replace hc0' := HR.out.1.cell hc0'
   replace hc1 := HR.out.1.cell hc1
   replace hc1' := HR.out.1.cell hc1'
   obtain ⟨p, hp⟩ : ∃ p, p = l.getD k (0, 0) := ⟨_, rfl⟩
   obtain ⟨q, hq⟩ : ∃ q, q = m.getD k (0, 0) := ⟨_, rfl⟩
   rw [← hp] at hc0 hc1
   rw [← hq] at hc0' hc1'
   obtain ⟨x, x2⟩ := p
   obtain ⟨y, y2⟩ := q
   have HX : Hid ((x, x2) = l.getD k (0, 0) ∧ (y, y2) = m.getD k (0, 0)) := ⟨hp, hq⟩
   clear hp hq
   dsimp only at hc0 hc1 hc0' hc1'
   have hkn : (k : Int) < (n : Int) := by omega
   replace hc0 := (Ext.drew wr).cell hc0
   replace hc1 := (Ext.drew wr).cell hc1
   replace hc0' := (Ext.drew wr).cell hc0'
   replace hc1' := (Ext.drew wr).cell hc1'
   have HB : Hid ((!(x == y && x2 == y2)) = !(decide ((x, x2) = (y, y2)))) := show _ = _ by
    congr 1
    rw [Bool.eq_iff_iff]; simp
   go_wp2_with fail
   refine wp_region_facts (fun t => bif Nat.ble 16 t && Nat.ble t 24 then some (t - 16) else none) 26 Ext
    [Is (.slice (some ⟨b, off, none⟩) n cp),
     Is (.int .i64 (k : Int)),
     Is (.pointer (some ⟨b, off + k * 2, none⟩)),
     Is (.agg #[.int .i64 x, .int .i64 x2]),
     Is (.slice (some ⟨b', off', none⟩) n cp'),
     Is (.int .i64 (k : Int)),
     Is (.pointer (some ⟨b', off' + k * 2, none⟩)),
     Is (.agg #[.int .i64 y, .int .i64 y2]),
     Is (.bool (!(x == y && x2 == y2)))]
    rfl (by kernel_rfl) (by kernel_rfl) rfl Ext.refl (fun _ _ _ => Ext.trans) (Ks (Ks (Ks (Ks (Ks (Ks (Ks (Ks (Ks (KeepAll.nil)))))))))) ?_ ?_
   ·
    refine Gc (lmv rfl (.inl rfl) rfl rfl iB) ?_
    refine Gc (lmv rfl (.inl rfl) rfl rfl iB) ?_
    refine Gc (ln2 (gd0 rfl) rfl (ouI rfl) iA iA (fun r wx hR h1 h2 => by simp [execOp, h1, h2, go_sem, hkn])) ?_
    refine Gc ?_ ?_
    ·
     rintro r wx hR ⟨h1, _⟩
     replace h1 : r (.tmp 18) = .pointer (some ⟨b, off + k * 2, none⟩) := h1
     exact gvo (exec_loadC rowGp rfl h1 [.int .i64 x, .int .i64 x2] (two_cells (hR.cell hc0) (hR.cell hc1)) rfl) ⟨Ext.refl _, rfl⟩
    refine Gc (lmv rfl (.inl rfl) rfl rfl iB) ?_
    refine Gc (lmv rfl (.inl rfl) rfl rfl iB) ?_
    refine Gc (ln2 (gd0 rfl) rfl (ouI rfl) iA iA (fun r wx hR h1 h2 => by simp [execOp, h1, h2, go_sem, hkn])) ?_
    refine Gc ?_ ?_
    ·
     rintro r wx hR ⟨h1, _⟩
     replace h1 : r (.tmp 22) = .pointer (some ⟨b', off' + k * 2, none⟩) := h1
     exact gvo (exec_loadC rowGp rfl h1 [.int .i64 y, .int .i64 y2] (two_cells (hR.cell hc0') (hR.cell hc1')) rfl) ⟨Ext.refl _, rfl⟩
    refine Gc (ln2 (gd0 rfl) rfl (ouI rfl) iA iA (fun r wx hR h1 h2 => exec_neqP pqG rfl h1 h2)) ?_
    exact GoodAll.nil
   ·
    intro vs w7 a7 hR hold ha7
    have hv0 : vs 0 = (.slice (some ⟨b, off, none⟩) n cp) := hold.at 0
    have hv1 : vs 1 = (.int .i64 (k : Int)) := hold.at 1
    have hv2 : vs 2 = (.pointer (some ⟨b, off + k * 2, none⟩)) := hold.at 2
    have hv3 : vs 3 = (.agg #[.int .i64 x, .int .i64 x2]) := hold.at 3
    have hv4 : vs 4 = (.slice (some ⟨b', off', none⟩) n cp') := hold.at 4
    have hv5 : vs 5 = (.int .i64 (k : Int)) := hold.at 5
    have hv6 : vs 6 = (.pointer (some ⟨b', off' + k * 2, none⟩)) := hold.at 6
    have hv7 : vs 7 = (.agg #[.int .i64 y, .int .i64 y2]) := hold.at 7
    have hv8 : vs 8 = (.bool (!(x == y && x2 == y2))) := hold.at 8
    simp only [putAll, Act.put, hv0, hv1, hv2, hv3, hv4, hv5, hv6, hv7, hv8, List.setIfInBounds_toArray, List.set_cons_succ, List.set_cons_zero] at ha7
    subst ha7
    clear hold hv0 hv1 hv2 hv3 hv4 hv5 hv6 hv7 hv8
    rw [HB.out]
    by_cases hxy : (x, x2) = (y, y2)
    ·
     have HX2 : Hid (l.getD k (0, 0) = m.getD k (0, 0)) := HX.out.1.symm.trans (hxy.trans HX.out.2)
     rw [decide_eq_true hxy]
     clear HX HB hxy hc0 hc1 hc0' hc1'
     go_wp2
     go_roundg (n - (k + 1))
     case measure => omega
     case rel =>
      refine ⟨k + 1, by omega, rfl, by simp, HR.out.1.trans ((Ext.drew _).trans hR), fun j hj => ?_⟩
      by_cases hjk : j = k
      ·
       subst hjk; exact HX2.out
      ·
       exact HR.out.2 j (by omega)
    ·
     have HF : Hid (decide (l = m) = false) := decide_eq_false (fun e => hxy (by rw [HX.out.1, HX.out.2, e]))
     rw [decide_eq_false hxy]
     clear HX HB hxy hc0 hc1 hc0' hc1'
     go_wp2
     go_ret
     exact ⟨by rw [HF.out]; rfl, HR.out.1.trans ((Ext.drew _).trans hR)⟩
  ·
   have hd : decide ((k : Int) < (n : Int)) = false := decide_eq_false (by omega)
   have HF : Hid (decide (l = m) = true) := decide_eq_true (list_same (0, 0) (by rw [← H.out.2.2.1, ← H.out.2.2.2]) (fun j hj => HR.out.2 j (by have := H.out.2.2.1; omega)))
   go_wp2
   go_ret
   exact ⟨by rw [HF.out]; rfl, HR.out.1⟩
theorem eqO_any {w : World} {a : Option Addr} {n cp : Nat} {a' : Option Addr} {n' cp' : Nat} {l m : List (Int × Int)} (h : PairsAt w (.slice a n cp) l) (h' : PairsAt w (.slice a' n' cp') m) :
  Calls Try.prog 60 #[.slice a n cp, .slice a' n' cp'] w fun e w' => e = .returned (.bool (decide (l = m))) ∧ Ext w w' := by
 have H : Hid (PairsAt w (.slice a n cp) l ∧ PairsAt w (.slice a' n' cp') m ∧ n = l.length ∧ n' = m.length) := ⟨h, h', h.len.1, h'.len.1⟩
 have hmx := h.len.2.1
 have hmx' := h'.len.2.1
 unfold maxLen at hmx hmx'
 clear h h'
 by_cases hn : n = n'
 case neg =>
  have hd : ((n : Int) != (n' : Int)) = true := by simp; omega
  have HF : Hid (decide (l = m) = false) := decide_eq_false (fun e => hn (by rw [H.out.2.2.1, H.out.2.2.2, e]))
  go_enter Try.func60, Try.ntmps60
  go_wp2
  go_ret
  exact ⟨by rw [HF.out]; rfl, Ext.refl _⟩
 subst hn
 go_enter Try.func60, Try.ntmps60
 go_wp2
 go_loopg [13] n (fun gm t wr => ∃ k : Nat, k ≤ n ∧ gm = n - k ∧ t = .int .i64 (k : Int) ∧ Hid (Ext w wr ∧ ∀ j, j < k → l.getD j (0, 0) = m.getD j (0, 0)))
 case atStart => exact ⟨0, Nat.zero_le _, rfl, rfl, Ext.refl _, fun j hj => by omega⟩
 case round =>
  obtain ⟨k, hk, rfl, rfl, HR⟩ := hrel
  by_cases hlt : k < n
  ·
   have hd : decide ((k : Int) < (n : Int)) = true := decide_eq_true (by omega)
   obtain ⟨b, off, rfl, hc0, hc1⟩ := H.out.1.cellAt k (by rw [← H.out.2.2.1]; exact hlt)
   obtain ⟨b', off', rfl, hc0', hc1'⟩ := H.out.2.1.cellAt k (by rw [← H.out.2.2.2]; exact hlt)
   replace hc0 := HR.out.1.cell hc0
   replace hc0' := HR.out.1.cell hc0'
   replace hc1 := HR.out.1.cell hc1
   replace hc1' := HR.out.1.cell hc1'
   obtain ⟨p, hp⟩ : ∃ p, p = l.getD k (0, 0) := ⟨_, rfl⟩
   obtain ⟨q, hq⟩ : ∃ q, q = m.getD k (0, 0) := ⟨_, rfl⟩
   rw [← hp] at hc0 hc1
   rw [← hq] at hc0' hc1'
   obtain ⟨x, x2⟩ := p
   obtain ⟨y, y2⟩ := q
   have HX : Hid ((x, x2) = l.getD k (0, 0) ∧ (y, y2) = m.getD k (0, 0)) := ⟨hp, hq⟩
   clear hp hq
   dsimp only at hc0 hc1 hc0' hc1'
   have hkn : (k : Int) < (n : Int) := by omega
   replace hc0 := (Ext.drew wr).cell hc0
   replace hc1 := (Ext.drew wr).cell hc1
   replace hc0' := (Ext.drew wr).cell hc0'
   replace hc1' := (Ext.drew wr).cell hc1'
   have HB : Hid ((!(x == y && x2 == y2)) = !(decide ((x, x2) = (y, y2)))) := show _ = _ by
    congr 1
    rw [Bool.eq_iff_iff]; simp
   go_wp2_with fail
   refine wp_region_facts (fun t => bif Nat.ble 16 t && Nat.ble t 24 then some (t - 16) else none) 26 Ext
    [Is (.slice (some ⟨b, off, none⟩) n cp),
     Is (.int .i64 (k : Int)),
     Is (.pointer (some ⟨b, off + k * 2, none⟩)),
     Is (.agg #[.int .i64 x, .int .i64 x2]),
     Is (.slice (some ⟨b', off', none⟩) n cp'),
     Is (.int .i64 (k : Int)),
     Is (.pointer (some ⟨b', off' + k * 2, none⟩)),
     Is (.agg #[.int .i64 y, .int .i64 y2]),
     Is (.bool (!(x == y && x2 == y2)))]
    rfl (by kernel_rfl) (by kernel_rfl) rfl Ext.refl (fun _ _ _ => Ext.trans) (Ks (Ks (Ks (Ks (Ks (Ks (Ks (Ks (Ks (KeepAll.nil)))))))))) ?_ ?_
   ·
    refine Gc (lmv rfl (.inl rfl) rfl rfl iB) ?_
    refine Gc (lmv rfl (.inl rfl) rfl rfl iB) ?_
    refine Gc (ln2 (gd0 rfl) rfl (ouI rfl) iA iA (fun r wx hR h1 h2 => by simp [execOp, h1, h2, go_sem, hkn])) ?_
    refine Gc ?_ ?_
    ·
     rintro r wx hR ⟨h1, _⟩
     replace h1 : r (.tmp 18) = .pointer (some ⟨b, off + k * 2, none⟩) := h1
     exact gvo (exec_loadC rowOp rfl h1 [.int .i64 x, .int .i64 x2] (two_cells (hR.cell hc0) (hR.cell hc1)) rfl) ⟨Ext.refl _, rfl⟩
    refine Gc (lmv rfl (.inl rfl) rfl rfl iB) ?_
    refine Gc (lmv rfl (.inl rfl) rfl rfl iB) ?_
    refine Gc (ln2 (gd0 rfl) rfl (ouI rfl) iA iA (fun r wx hR h1 h2 => by simp [execOp, h1, h2, go_sem, hkn])) ?_
    refine Gc ?_ ?_
    ·
     rintro r wx hR ⟨h1, _⟩
     replace h1 : r (.tmp 22) = .pointer (some ⟨b', off' + k * 2, none⟩) := h1
     exact gvo (exec_loadC rowOp rfl h1 [.int .i64 y, .int .i64 y2] (two_cells (hR.cell hc0') (hR.cell hc1')) rfl) ⟨Ext.refl _, rfl⟩
    refine Gc (ln2 (gd0 rfl) rfl (ouI rfl) iA iA (fun r wx hR h1 h2 => exec_neqP pqO rfl h1 h2)) ?_
    exact GoodAll.nil
   ·
    intro vs w7 a7 hR hold ha7
    have hv0 : vs 0 = (.slice (some ⟨b, off, none⟩) n cp) := hold.at 0
    have hv1 : vs 1 = (.int .i64 (k : Int)) := hold.at 1
    have hv2 : vs 2 = (.pointer (some ⟨b, off + k * 2, none⟩)) := hold.at 2
    have hv3 : vs 3 = (.agg #[.int .i64 x, .int .i64 x2]) := hold.at 3
    have hv4 : vs 4 = (.slice (some ⟨b', off', none⟩) n cp') := hold.at 4
    have hv5 : vs 5 = (.int .i64 (k : Int)) := hold.at 5
    have hv6 : vs 6 = (.pointer (some ⟨b', off' + k * 2, none⟩)) := hold.at 6
    have hv7 : vs 7 = (.agg #[.int .i64 y, .int .i64 y2]) := hold.at 7
    have hv8 : vs 8 = (.bool (!(x == y && x2 == y2))) := hold.at 8
    simp only [putAll, Act.put, hv0, hv1, hv2, hv3, hv4, hv5, hv6, hv7, hv8, List.setIfInBounds_toArray, List.set_cons_succ, List.set_cons_zero] at ha7
    subst ha7
    clear hold hv0 hv1 hv2 hv3 hv4 hv5 hv6 hv7 hv8
    rw [HB.out]
    by_cases hxy : (x, x2) = (y, y2)
    ·
     have HX2 : Hid (l.getD k (0, 0) = m.getD k (0, 0)) := HX.out.1.symm.trans (hxy.trans HX.out.2)
     rw [decide_eq_true hxy]
     clear HX HB hxy hc0 hc1 hc0' hc1'
     go_wp2
     go_roundg (n - (k + 1))
     case measure => omega
     case rel =>
      refine ⟨k + 1, by omega, rfl, by simp, HR.out.1.trans ((Ext.drew _).trans hR), fun j hj => ?_⟩
      by_cases hjk : j = k
      ·
       subst hjk; exact HX2.out
      ·
       exact HR.out.2 j (by omega)
    ·
     have HF : Hid (decide (l = m) = false) := decide_eq_false (fun e => hxy (by rw [HX.out.1, HX.out.2, e]))
     rw [decide_eq_false hxy]
     clear HX HB hxy hc0 hc1 hc0' hc1'
     go_wp2
     go_ret
     exact ⟨by rw [HF.out]; rfl, HR.out.1.trans ((Ext.drew _).trans hR)⟩
  ·
   have hd : decide ((k : Int) < (n : Int)) = false := decide_eq_false (by omega)
   have HF : Hid (decide (l = m) = true) := decide_eq_true (list_same (0, 0) (by rw [← H.out.2.2.1, ← H.out.2.2.2]) (fun j hj => HR.out.2 j (by have := H.out.2.2.1; omega)))
   go_wp2
   go_ret
   exact ⟨by rw [HF.out]; rfl, HR.out.1⟩
end Tlv
end Go.Proofs.Ytigocaconkbalaa
