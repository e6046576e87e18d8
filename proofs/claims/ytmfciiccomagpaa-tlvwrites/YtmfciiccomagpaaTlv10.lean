/- Lists of parameters in memory, and one put behind them. No condition of its own. -/
import Derived.Test.YtmfciiccomagpaaTlv9
namespace Go.Proofs.Ytmfciiccomagpaa
namespace Tlv
open Go Go.RowKit
set_option linter.unusedVariables false
set_option linter.unusedSimpArgs false
set_option maxRecDepth 100000


/-- The cells of parameters: the kind, the value's slice. -/
def pc (M : List (Par × Value)) : List Value := M.flatMap fun m => [.int .i64 m.1.1, m.2]
theorem pc_len (M : List (Par × Value)) : (pc M).length = M.length * 2 := by
  induction M with
  | nil => rfl
  | cons m M ih => unfold pc at *; rw [List.flatMap_cons, List.length_append, ih, List.length_cons]; simp; omega
theorem pc_app (M N : List (Par × Value)) : pc (M ++ N) = pc M ++ pc N := by simp [pc]
theorem pc_get {M : List (Par × Value)} : ∀ {i : Nat} {m : Par × Value}, M[i]? = some m → (pc M)[i * 2]? = some (.int .i64 m.1.1) ∧ (pc M)[i * 2 + 1]? = some m.2 := by
  induction M with
  | nil => intro i m h; simp at h
  | cons x M ih =>
    intro i m h
    have e : pc (x :: M) = .int .i64 x.1.1 :: x.2 :: pc M := rfl
    cases i with
    | zero => simp at h; subst h; exact ⟨rfl, rfl⟩
    | succ i =>
      have := ih (i := i) (m := m) (by simpa using h)
      rw [e, show (i + 1) * 2 = i * 2 + 1 + 1 by omega]
      simpa using this
/-- A slice that reads as these parameters. -/
def ParsAt (w : World) (v : Value) (L : List Par) : Prop :=
  L.length ≤ maxLen ∧ ∃ a cap, v = .slice a L.length cap ∧ ∀ i p, L[i]? = some p → ∃ b off u, a = some ⟨b, off, none⟩ ∧ w.cell? ⟨b, off + i * 2, none⟩ = some (.int .i64 p.1) ∧ w.cell? ⟨b, off + i * 2 + 1, none⟩ = some u ∧ BytesAt w u p.2
theorem ParsAt.ext {w w' : World} {v : Value} {L : List Par} (h : ParsAt w v L) (he : Ext w w') : ParsAt w' v L := by
  obtain ⟨h1, a, cap, rfl, hc⟩ := h
  refine ⟨h1, a, cap, rfl, fun i p hp => ?_⟩
  obtain ⟨b, off, u, e, h2, h3, h4⟩ := hc i p hp
  exact ⟨b, off, u, e, he.cell h2, he.cell h3, h4.ext he⟩
/-- Parameters in a block of the own, their values in blocks of the own. -/
structure OwnL (e : TypeId) (w : World) (base : Nat) (v : Value) (L : List Par) : Prop where
  it : ∃ M : List (Par × Value), L = M.map (·.1) ∧ w.ownsRow base e 2 v M.length (pc M) ∧ ∀ m ∈ M, OB w base m.2 m.1.2
theorem OwnL.nil (e : TypeId) (w : World) (base : Nat) : OwnL e w base (.slice none 0 0) [] := ⟨[], rfl, World.ownsRow_nil _ _ _ _, fun m hm => by cases hm⟩
theorem OwnL.lt {e : TypeId} {w : World} {base : Nat} {v : Value} {L : List Par} (h : OwnL e w base v L) {g : Nat} (hg : v.ownBlock = some g) : base ≤ g ∧ ∃ C, Blk w g C e := by
  obtain ⟨M, _, hr, _⟩ := h
  rcases hr.2 with ⟨rfl, _⟩ | ⟨g', cap, cur, rfl, hb, hgb, _⟩
  · cases hg
  · cases hg; exact ⟨hb, cur, hgb⟩
theorem ownsRow_but {S : Nat → Prop} {w w' : World} {base e size n : Nat} {v : Value} {xs : List Value} (h : w.ownsRow base e size v n xs) (hk : KeepBut S w w') (hn : ∀ g, v.ownBlock = some g → ¬ S g) : w'.ownsRow base e size v n xs := by
  refine ⟨h.1, ?_⟩
  rcases h.2 with h0 | ⟨g, cap, cur, rfl, hb, hg, h4⟩
  · exact .inl h0
  · exact .inr ⟨g, cap, cur, rfl, hb, (hk.block g (Array.getElem?_eq_some_iff.1 hg).1 (hn g rfl)).trans hg, h4⟩
theorem OwnL.but {S : Nat → Prop} {e : TypeId} {w w' : World} {base : Nat} {v : Value} {L : List Par} (h : OwnL e w base v L) (hk : KeepBut S w w') (hn : ∀ k C, Blk w k C e ∨ Blk w k C 5 → base ≤ k → ¬ S k) : OwnL e w' base v L := by
  obtain ⟨M, hM, hr, ho⟩ := id h.it
  refine ⟨M, hM, ownsRow_but hr hk (fun g hg => ?_), fun m hm => (ho m hm).but hk (fun k hk' => ?_)⟩
  · obtain ⟨h1, C, h2⟩ := h.lt hg
    exact hn g C (.inl h2) h1
  · have hb := (ho m hm).lt hk'
    rcases (ho m hm).own.1.2 with ⟨e1, _⟩ | ⟨g', cap, cur, e1, _, hg, _⟩
    · rw [e1] at hk'; cases hk'
    · rw [e1] at hk'; cases hk'
      exact hn _ cur (.inr hg) hb.1
theorem OwnL.ext {e : TypeId} {w w' : World} {base : Nat} {v : Value} {L : List Par} (h : OwnL e w base v L) (he : Ext w w') : OwnL e w' base v L := h.but (KeepBut.ext (S := fun _ => False) he) (fun _ _ _ _ h => h)
theorem OwnL.base {e : TypeId} {w : World} {base base' : Nat} {v : Value} {L : List Par} (h : OwnL e w base v L) (hb : base' ≤ base) : OwnL e w base' v L := by
  obtain ⟨M, hM, hr, ho⟩ := h
  refine ⟨M, hM, ⟨hr.1, ?_⟩, fun m hm => (ho m hm).base hb⟩
  rcases hr.2 with h0 | ⟨g, cap, cur, rfl, h1, h2⟩
  · exact .inl h0
  · exact .inr ⟨g, cap, cur, rfl, Nat.le_trans hb h1, h2⟩
theorem OwnL.form {e : TypeId} {w : World} {base : Nat} {v : Value} {L : List Par} (h : OwnL e w base v L) : ∃ a cap, v = .slice a L.length cap := by
  obtain ⟨M, rfl, hr, _⟩ := h
  rw [List.length_map]
  rcases hr.2 with ⟨rfl, h0⟩ | ⟨g, cap, cur, rfl, _⟩
  · exact ⟨none, 0, by rw [h0]⟩
  · exact ⟨_, _, rfl⟩
theorem OwnL.pars {e : TypeId} {w : World} {base : Nat} {v : Value} {L : List Par} (h : OwnL e w base v L) : ParsAt w v L := by
  obtain ⟨M, rfl, hr, ho⟩ := h
  rcases hr.2 with ⟨rfl, h0⟩ | ⟨g, cap, cur, rfl, hb, hg, hnc, hcm, hcs, htk⟩
  · have : M = [] := List.eq_nil_of_length_eq_zero h0
    subst this
    exact ⟨by simp, none, 0, rfl, fun i p hp => by simp at hp⟩
  · refine ⟨by rw [List.length_map]; omega, some ⟨g, 0, none⟩, cap, by rw [List.length_map], fun i p hp => ?_⟩
    rw [List.getElem?_map] at hp
    obtain ⟨m, hm, rfl⟩ := Option.map_eq_some_iff.1 hp
    obtain ⟨h1, h2⟩ := pc_get hm
    have hi : i < M.length := (List.getElem?_eq_some_iff.1 hm).1
    have hbk : Blk w g cur e := hg
    rw [← htk, List.getElem?_take] at h1 h2
    rw [if_pos (by omega)] at h1 h2
    refine ⟨g, 0, m.2, rfl, ?_, ?_, (ho m (List.mem_of_getElem? hm)).bytes⟩
    · rw [Nat.zero_add, hbk.cell]; simpa using h1
    · rw [Nat.zero_add, hbk.cell]; simpa using h2
/-- What is known of a slice of parameters and its elements. -/
structure ParT (t e : TypeId) : Prop where
  ut : Try.prog.underlying t = some (.slice e)
  info : (Try.prog.info? e).map (fun i => (i.zero, i.size, i.bytes)) = some (some (.agg #[.int .i64 0, .slice none 0 0]), 2, 32)
  ne : e ≠ 5
theorem parT : ParT 65 75 := ⟨Try.underlying65, by kernel_rfl, by decide⟩
/-- One parameter put behind. -/
theorem run_pushP {t e : TypeId} (hT : ParT t e) (w : World) (base ty b : Nat) (v u : Value) (L : List Par) (k : Int) (val : List Nat) (hv : OwnL e w base v L) (h0 : w.cell? ⟨b, 0, none⟩ = some (.int .i64 k)) (h1 : w.cell? ⟨b, 1, none⟩ = some u) (hu : OB w base u val) (hlen : L.length ≤ 100000) (hbase : base ≤ w.heap.size) :
    ∃ a c w', (Builtin.append_ #[t, t] ty #[v, .slice (some ⟨b, 0, none⟩) 1 1]).run Try.prog w = .ok (.slice a (L.length + 1) c) w' ∧ OwnL e w' base (.slice a (L.length + 1) c) (L ++ [(k, val)]) ∧ KeepBut (fun q => v.ownBlock = some q) w w' ∧ ∀ g, (Value.slice a (L.length + 1) c).ownBlock = some g → v.ownBlock = some g ∨ g = w.heap.size := by
  obtain ⟨M, rfl, hr, ho⟩ := id hv.it
  obtain ⟨i, hi, hinf⟩ := Option.map_eq_some_iff.1 hT.info
  simp only [Prod.mk.injEq] at hinf
  obtain ⟨ua, uc, hue⟩ := hu.form
  rw [List.length_map] at hlen
  obtain ⟨v', w', hrun, g1, g2, _, g4⟩ := run_append_own_at (P := Try.prog) w base t ty e i _ 2 32 hT.ut hi hinf.1 hinf.2.1 hinf.2.2 rfl (by omega) v M.length (pc M) hr ⟨b, 0, none⟩ 1 1 [.int .i64 k, u] rfl
    (fun j x hx => by
      rw [add_plain, Nat.zero_add]
      match j with
      | 0 => simp at hx; subst hx; exact h0
      | 1 => simp at hx; subst hx; exact h1
      | j + 2 => simp at hx)
    (fun x hx => by
      simp at hx
      rcases hx with rfl | rfl
      · rfl
      · rw [hue]; rfl) (by unfold maxLen; omega) (by omega) hbase
  have hk : KeepBut (fun q => v.ownBlock = some q) w w' := KeepBut.grown g2 (fun r e => e)
  have hOB : ∀ x l, OB w base x l → OB w' base x l := fun x l hx => hx.but hk (fun q hq hvq => by
    obtain ⟨_, C, hC⟩ := hv.lt hvq
    exact hx.ne hC hT.ne q hq rfl)
  have hL : OwnL e w' base v' (M.map (·.1) ++ [(k, val)]) := ⟨M ++ [((k, val), u)], by simp, by
    rw [List.length_append, pc_app]; exact g1, fun m hm => by
    rcases List.mem_append.1 hm with hm | hm
    · exact hOB _ _ (ho m hm)
    · simp at hm; subst hm; exact hOB _ _ hu⟩
  obtain ⟨a, c, rfl⟩ := hL.form
  rw [List.length_append, List.length_singleton] at hL hrun g4
  refine ⟨a, c, w', hrun, hL, hk, fun g hg => ?_⟩
  rcases g4 with g4 | g4
  · exact .inl (by rw [← g4]; exact hg)
  · exact .inr (by have := g4.symm.trans hg; simpa using this.symm)
theorem exec_loadC {r : Operand → Value} {o : Oper} {t : TypeId} {n : Nat} (hT : RowT Try.prog t n) {x : Operand} {b off : Nat} {w : World} (ho : o.op = .load t x) (hx : r x = .pointer (some ⟨b, off, none⟩)) (L : List Value) (hL : ∀ j v, L[j]? = some v → w.cell? ⟨b, off + j, none⟩ = some v) (hn : L.length = n) :
    (execOp r o).run Try.prog w = .ok (.value (.agg L.toArray)) w := by
  obtain ⟨d, hu, hd⟩ := hT.d
  have := run_loadVar_mid (P := Try.prog) w b off t L d hL hu hd (by rw [hn]; exact hT.s)
  simp only [execOp, ho, hx, Instr.loadAt, Instr.sureAddr, Sem.run_bind, Sem.run_pure, Result.andThen_ok, this]
/-- A parameter loaded. -/
theorem wl_loadP {w : World} {ops : Array Oper} {rest : List Oper} {o : Oper} {a : Act} {Q : Exit → Act → World → Prop} (hgd : o.guard = none) {t : TypeId} (hT : RowT Try.prog t 2) {x : Operand} {b off : Nat} {v0 v1 : Value} (ho : o.op = .load t x) (hx : a.eval x = .pointer (some ⟨b, off, none⟩)) (h0 : w.cell? ⟨b, off, none⟩ = some v0) (h1 : w.cell? ⟨b, off + 1, none⟩ = some v1)
    (h : wpList Try.prog ops Q rest (a.put o.dst (.agg #[v0, v1])) w) : wpList Try.prog ops Q (o :: rest) a w :=
  wpList_of_run hgd (exec_loadC hT ho hx [v0, v1] (fun j v hv => by
    match j with
    | 0 => simp at hv; subst hv; exact h0
    | 1 => simp at hv; subst hv; exact h1
    | j + 2 => simp at hv) rfl) h
end Tlv
end Go.Proofs.Ytmfciiccomagpaa
