/- The document's own reckoning of a list's runs. No condition of its own. -/
import Derived.Test.YtmfkedkkkmnmmaaRuns
namespace Go.Proofs.Ytmfkedkkkmnmmaa
open Go.RowKit Go.Shelf
set_option linter.unusedVariables false
set_option linter.unusedSimpArgs false

def Ser.bumpLast : List (Int × Nat) → List (Int × Nat)
  | [] => []
  | [(f, n)] => [(f, n + 1)]
  | p :: q :: t => p :: Ser.bumpLast (q :: t)
theorem Ser.runs_ne (m : Int) : ∀ (x : Int) (r : List Int), ∃ n t, Ser.runs m (x :: r) = (x, n) :: t
  | x, r => ⟨_, _, Ser.runs_cons m x r⟩
theorem Ser.bump_last (x : Int) (p : Int × Nat) (t : List (Int × Nat)) : Ser.bump x (Ser.bumpLast (p :: t)) = Ser.bumpLast (Ser.bump x (p :: t)) := by
  obtain ⟨f, n⟩ := p
  cases t <;> simp [Ser.bumpLast, Ser.bump]
theorem Ser.runs_snoc (m : Int) : ∀ (x : Int) (r : List Int) (y : Int), Ser.runs m ((x :: r) ++ [y]) = if y = Ser.step m ((x :: r).getD r.length 0) 1 then Ser.bumpLast (Ser.runs m (x :: r)) else Ser.runs m (x :: r) ++ [(y, 1)]
  | x, [], y => by
    show Ser.runs m [x, y] = _
    simp only [List.length_nil, List.getD_cons_zero, Ser.runs]
    by_cases h : y = Ser.step m x 1
    · rw [if_pos h, if_pos h]; rfl
    · rw [if_neg h, if_neg h]; rfl
  | x, z :: r, y => by
    have ih := Ser.runs_snoc m z r y
    have e1 : ∀ q : List Int, Ser.runs m (x :: z :: q) = if z = Ser.step m x 1 then Ser.bump x (Ser.runs m (z :: q)) else (x, 1) :: Ser.runs m (z :: q) := fun _ => rfl
    have e2 : (x :: z :: r) ++ [y] = x :: z :: (r ++ [y]) := rfl
    have e3 : (x :: z :: r).getD (z :: r).length 0 = (z :: r).getD r.length 0 := by simp
    have e4 : z :: (r ++ [y]) = (z :: r) ++ [y] := rfl
    rw [e2, e1, e1, e3, e4, ih]
    obtain ⟨n, t, ht⟩ := Ser.runs_ne m z r
    by_cases hy : y = Ser.step m ((z :: r).getD r.length 0) 1
    · rw [if_pos hy, if_pos hy]
      by_cases hz : z = Ser.step m x 1
      · rw [if_pos hz, if_pos hz, ht, Ser.bump_last]
      · rw [if_neg hz, if_neg hz, ht]; rfl
    · rw [if_neg hy, if_neg hy]
      by_cases hz : z = Ser.step m x 1
      · rw [if_pos hz, if_pos hz, ht]; rfl
      · rw [if_neg hz, if_neg hz]; rfl
def Ser.firsts (r : List (Int × Nat)) : List Int := r.map (·.1)
def Ser.manies (r : List (Int × Nat)) : List Int := r.map fun p => (p.2 : Int)
theorem Ser.bumpLast_firsts : ∀ r : List (Int × Nat), Ser.firsts (Ser.bumpLast r) = Ser.firsts r
  | [] => rfl
  | [(f, n)] => rfl
  | p :: q :: t => by
    have := Ser.bumpLast_firsts (q :: t)
    simp only [Ser.firsts, Ser.bumpLast, List.map_cons] at this ⊢
    rw [this]
theorem Ser.bumpLast_manies : ∀ r : List (Int × Nat), r ≠ [] → Ser.manies (Ser.bumpLast r) = (Ser.manies r).set (r.length - 1) ((Ser.manies r).getD (r.length - 1) 0 + 1)
  | [], h => absurd rfl h
  | [(f, n)], _ => by simp [Ser.manies, Ser.bumpLast]
  | p :: q :: t, _ => by
    have := Ser.bumpLast_manies (q :: t) (by simp)
    simp only [Ser.manies, Ser.bumpLast, List.map_cons, List.length_cons, Nat.add_sub_cancel] at this ⊢
    rw [this]
    simp
/-- How a list's runs grow by its next number. -/
theorem Ser.runs_take (m : Int) (l : List Int) (i : Nat) (hi : i < l.length) :
    Ser.runs m (l.take (i + 1)) = if 0 < i ∧ l.getD i 0 = Ser.step m (l.getD (i - 1) 0) 1 then Ser.bumpLast (Ser.runs m (l.take i)) else Ser.runs m (l.take i) ++ [(l.getD i 0, 1)] := by
  rw [take_next l 0 i hi]
  cases i with
  | zero => simp [Ser.runs]
  | succ i =>
    cases l with
    | nil => simp at hi
    | cons x r =>
      have hr : i < r.length := by simpa using hi
      have := Ser.runs_snoc m x (r.take i) ((x :: r).getD (i + 1) 0)
      rw [List.take_succ_cons, this]
      have hlen : (r.take i).length = i := by simp; omega
      rw [hlen]
      have e : (x :: r.take i).getD i 0 = (x :: r).getD (i + 1 - 1) 0 := by
        rw [Nat.add_sub_cancel]
        cases i with
        | zero => rfl
        | succ i => simp [List.getD_eq_getElem?_getD]
      rw [e]
      by_cases h : (x :: r).getD (i + 1) 0 = Ser.step m ((x :: r).getD (i + 1 - 1) 0) 1
      · rw [if_pos h, if_pos ⟨by omega, h⟩]
      · rw [if_neg h, if_neg (fun h' => h h'.2)]
theorem Ser.runs_count (m : Int) (l : List Int) : ∀ x ∈ Ser.manies (Ser.runs m l), 0 ≤ x ∧ x ≤ l.length := by
  have key : ∀ l : List Int, ∀ p ∈ Ser.runs m l, p.2 ≤ l.length := by
    intro l
    induction l with
    | nil => simp [Ser.runs]
    | cons x r ih =>
      cases r with
      | nil => simp [Ser.runs]
      | cons y r =>
        intro p hp
        unfold Ser.runs at hp
        split at hp
        · obtain ⟨n, t, ht⟩ := Ser.runs_ne m y r
          rw [ht] at hp ih
          simp only [Ser.bump, List.mem_cons] at hp
          rcases hp with rfl | hp
          · have := ih (y, n) (by simp); simp at this ⊢; omega
          · have := ih p (by simp [hp]); simp at this ⊢; omega
        · rcases List.mem_cons.1 hp with rfl | hp
          · simp
          · have := ih p hp; simp at this ⊢; omega
  intro x hx
  obtain ⟨p, hp, rfl⟩ := List.mem_map.1 hx
  have := key l p hp
  omega

theorem numTi : NumT Try.prog 40 3 .i64 8 := ⟨Try.underlying40, Try.underlying3, by kernel_rfl⟩

set_option maxHeartbeats 2000000 in
theorem refruns (v : Value) (l : List Int) (w : World) (hv : NumsAt .i64 w v l) (h1 : ∀ x ∈ l, Of 4294967296 x) (hlen : l.length ≤ 1000) :
    Calls Try.prog 25 #[v, .int .i64 4294967296] w fun e w' => ∃ vf vm, e = .returned (.tuple #[vf, vm]) ∧ OwnN .i64 w' w.heap.size 3 vf (Ser.firsts (Ser.runs 4294967296 l)) ∧ OwnN .i64 w' w.heap.size 3 vm (Ser.manies (Ser.runs 4294967296 l)) ∧ Ext w w' := by
  have HV : Hid (NumsAt .i64 w v l) := hv
  obtain ⟨a, cap, rfl, ⟨hlc, hcm⟩, hcell⟩ := hv.form
  have HC : Hid (∀ j, j < l.length → ∃ b off, a = some ⟨b, off, none⟩ ∧ w.cell? ⟨b, off + j, none⟩ = some (.int .i64 (l.getD j 0))) := hcell
  have HO : Hid (∀ j, j < l.length → Of 4294967296 (l.getD j 0)) := fun j hj => h1 _ (getD_mem l 0 j hj)
  clear hv hcell h1 hcm
  go_enter Try.func25, Try.ntmps25
  go_wp2
  go_loopg [6, 7, 8] l.length (fun g f m s wr => Ext w wr ∧ ∃ (i : Nat) (af am : Option Addr) (cf cm : Nat), i ≤ l.length ∧ g = l.length - i ∧ s = .int .i64 (i : Int) ∧
    f = .slice af (Ser.runs 4294967296 (l.take i)).length cf ∧ m = .slice am (Ser.runs 4294967296 (l.take i)).length cm ∧
    Hid (OwnN .i64 wr w.heap.size 3 (.slice af (Ser.runs 4294967296 (l.take i)).length cf) (Ser.firsts (Ser.runs 4294967296 (l.take i))) ∧ OwnN .i64 wr w.heap.size 3 (.slice am (Ser.runs 4294967296 (l.take i)).length cm) (Ser.manies (Ser.runs 4294967296 (l.take i))) ∧ Apart (.slice af (Ser.runs 4294967296 (l.take i)).length cf) (.slice am (Ser.runs 4294967296 (l.take i)).length cm)))
  case atStart => exact ⟨Ext.refl _, 0, none, none, 0, 0, by omega, rfl, rfl, rfl, rfl, OwnN.nil _ _ _ _, OwnN.nil _ _ _ _, fun g hg => by simp [Value.ownBlock] at hg⟩
  case round =>
    obtain ⟨hE, i, af, am, cf, cm, hi, rfl, rfl, rfl, rfl, HOW⟩ := hrel
    by_cases hlt : i < l.length
    · have hd : decide ((i : Int) < (l.length : Int)) = true := decide_eq_true (by omega)
      have hRS := Ser.runs_take 4294967296 l i hlt
      have hRl := Ser.runs_length 4294967296 (l.take i)
      have hRc := Ser.runs_count 4294967296 (l.take i)
      rw [List.length_take, Nat.min_eq_left hi] at hRl
      have hRne : 0 < i → Ser.runs 4294967296 (l.take i) ≠ [] := fun h e => by
        cases hl : l.take i with
        | nil => have := congrArg List.length hl; rw [List.length_take, Nat.min_eq_left hi, List.length_nil] at this; omega
        | cons z r => rw [hl, Ser.runs_cons] at e; cases e
      obtain ⟨b, off, rfl, e1⟩ := HC.out i hlt
      have d1 := hE.cell e1
      have o1 := HO.out i hlt
      clear e1
      have HRS : Hid _ := hRS
      clear hRS
      obtain ⟨x, hx⟩ : ∃ x, l.getD i 0 = x := ⟨_, rfl⟩
      rw [hx] at d1 o1 HRS
      generalize hR : Ser.runs 4294967296 (l.take i) = R at *
      have hf1 : (Ser.firsts R).length = R.length := by simp [Ser.firsts]
      have hm1 : (Ser.manies R).length = R.length := by simp [Ser.manies]
      have EA : ∀ (o : Obj) (q : Nat), Ext wr ((wr.alloc o).drewN q) := fun o q => (Ext.alloc wr o).trans (below_drewN (Below.refl _ _) _)
      by_cases h0 : 0 < i
      · obtain ⟨b', off', eb, e2⟩ := HC.out (i - 1) (by omega)
        simp only [Option.some.injEq, Addr.mk.injEq, and_true] at eb
        obtain ⟨rfl, rfl⟩ := eb
        have d2 := hE.cell e2
        have o2 := HO.out (i - 1) (by omega)
        obtain ⟨y, hy⟩ : ∃ y, l.getD (i - 1) 0 = y := ⟨_, rfl⟩
        rw [hy] at d2 o2 HRS
        clear e2
        have h0' : (0 : Int) < (i : Int) := by omega
        have hlt' : (i : Int) < (l.length : Int) := by omega
        obtain ⟨st, hst⟩ : ∃ st, Ser.step 4294967296 y 1 = st := ⟨_, rfl⟩
        rw [hst] at HRS
        by_cases hq : x = st
        · rw [if_pos ⟨h0, hq⟩] at HRS
          subst hq
          have hRn := hRne h0
          have hRp : 0 < R.length := List.length_pos_iff.2 hRn
          obtain ⟨g, rfl⟩ : ∃ g, am = some ⟨g, 0, none⟩ := by
            obtain ⟨a', c', e, h1, h2⟩ := HOW.out.2.1.slice
            simp only [Value.slice.injEq] at e
            obtain ⟨rfl, _, rfl⟩ := e
            cases am with
            | none => have := (h1 rfl).1; rw [this] at hm1; simp at hm1; omega
            | some z => obtain ⟨g, rfl, _⟩ := h2 z rfl; exact ⟨g, rfl⟩
          have hmm : (Ser.manies R).getD (R.length - 1) 0 ∈ Ser.manies R := getD_mem _ 0 _ (by rw [hm1]; omega)
          have hcm0 := HOW.out.2.1
          rw [← hm1] at hcm0
          have hcm : wr.cell? ⟨g, R.length - 1, none⟩ = some (.int .i64 ((Ser.manies R).getD (R.length - 1) 0)) := by
            have hj : R.length - 1 < (Ser.manies R).length := by omega
            rw [hcm0.1.cellAt (R.length - 1) (by omega), List.getElem?_map, List.getElem?_eq_getElem hj]
            simp [List.getD_eq_getElem?_getD, hj]
          have hfm : wr.frozen? ⟨g, R.length - 1, none⟩ = false := hcm0.1.frozenAt (R.length - 1)
          have hcb := hRc _ hmm
          rw [List.length_take, Nat.min_eq_left hi] at hcb
          have HST : Hid (∀ q, OwnN .i64 ((wr.drewN q).setCell ⟨g, R.length - 1, none⟩ (.int .i64 ((Ser.manies R).getD (R.length - 1) 0 + 1))) w.heap.size 3 (.slice (some ⟨g, 0, none⟩) R.length cm) ((Ser.manies R).set (R.length - 1) ((Ser.manies R).getD (R.length - 1) 0 + 1)) ∧ (wr.drewN q).grownBy ((wr.drewN q).setCell ⟨g, R.length - 1, none⟩ (.int .i64 ((Ser.manies R).getD (R.length - 1) 0 + 1))) (some g)) :=
            fun q => (HOW.out.2.1.ext (below_drewN (Below.refl _ _) q)).stored (R.length - 1) ((Ser.manies R).getD (R.length - 1) 0 + 1)
          have HBM := Ser.bumpLast_manies R hRn
          have HBF := Ser.bumpLast_firsts R
          have hbl : (Ser.bumpLast R).length = R.length := by
            have := congrArg List.length HBF
            simpa [Ser.firsts] using this
          rw [← HBM] at HST
          clear hmm hcm0 HBM
          generalize (Ser.manies R).getD (R.length - 1) 0 = q at *
          have hi1 : ((R.length : Int) - 1).toNat = R.length - 1 := by omega
          go_wp2_with fail
          go_quiet (first | (go_at_call 14; refine Calls.quiet_of_same (hst ▸ rstep _ _ _ _ (.inr rfl) o2 (by decide))))
          go_wp2
          go_roundg (l.length - (i + 1))
          case measure => omega
          case rel =>
            have hED : Ext wr (wr.drewN nq) := below_drewN (Below.refl _ _) nq
            obtain ⟨s1, s2⟩ := HST.out nq
            have f1 := (HOW.out.1.ext hED).keptA (u := .slice (some ⟨g, 0, none⟩) R.length cm) s2 HOW.out.2.2.symm
            have hB := (HOW.out.2.1.ext hED).below (hE.trans hED) s2 (Nat.le_trans hE.size hED.size)
            refine ⟨hB, i + 1, af, some ⟨g, 0, none⟩, cf, cm, by omega, rfl, by simp, ?_, ?_, ?_⟩
            · rw [HRS.out, hbl]
            · rw [HRS.out, hbl]
            · rw [HRS.out, hbl, HBF]
              exact ⟨f1, s1, HOW.out.2.2⟩
        · have hqb : (x == st) = false := by simp [hq]
          rw [if_neg (fun h => hq h.2)] at HRS
          clear hq
          go_wp2_with fail
          go_quiet (first | (go_at_call 14; refine Calls.quiet_of_same (hst ▸ rstep _ _ _ _ (.inr rfl) o2 (by decide))))
          go_wp2_with (first
            | (at_builtin; refine wpList_append_nums numTi rfl _ _ rfl w.heap.size (Ser.firsts R) [x] (HOW.out.1.ext (EA _ _)) ((NumsAt.one wr x _ _ rfl).ext (below_drewN (Below.refl _ _) _)) (by rw [hf1]; simp; omega) (by rw [hf1]; simp; omega) (Nat.le_trans hE.size (EA _ _).size) ?_; intro af2 cf2 w2 hof hgf hbf; have hm2 := (HOW.out.2.1.ext (EA _ _)).keptA (u := .slice af R.length cf) hgf HOW.out.2.2; have hB2 := (HOW.out.1.ext (EA _ _)).below (hE.trans (EA _ _)) hgf (Nat.le_trans hE.size (EA _ _).size); have hA2 := HOW.out.2.2.grown (fun g hg => ((HOW.out.2.1.ext (EA _ _)).lt hg).2) hbf; clear hgf hbf)
            | (at_builtin; refine wpList_append_nums numTi rfl _ _ rfl w.heap.size (Ser.manies R) [1] (hm2.ext (Ext.alloc _ _)) (NumsAt.one w2 1 _ _ rfl) (by rw [hm1]; simp; omega) (by rw [hm1]; simp; omega) (Nat.le_trans hB2.size (Ext.alloc _ _).size) ?_; intro am2 cm2 w3 hom hgm hbm; have hf3 := (hof.ext (Ext.alloc _ _)).keptA (u := .slice am R.length cm) hgm hA2.symm; have hB3 := (hm2.ext (Ext.alloc _ _)).below (hB2.trans ((Ext.alloc w2 _).below.mono hB2.size)) hgm (Nat.le_trans hB2.size (Ext.alloc _ _).size); have hA3 := (hA2.symm.grown (fun g hg => ((hof.ext (Ext.alloc _ _)).lt hg).2) hbm).symm; clear hgm hbm))
          simp only [List.length_append, hf1, hm1, List.length_singleton] at hf3 hom hA3 ⊢
          go_roundg (l.length - (i + 1))
          case measure => omega
          case rel =>
            have hl2 : (R ++ [(x, 1)]).length = R.length + 1 := by simp
            refine ⟨hB3, i + 1, af2, am2, cf2, cm2, by omega, rfl, by simp, ?_, ?_, ?_⟩
            · rw [HRS.out, hl2]
            · rw [HRS.out, hl2]
            · rw [HRS.out, hl2]
              exact ⟨by simpa [Ser.firsts] using hf3, by simpa [Ser.manies] using hom, hA3⟩
      · have hd0 : decide ((0 : Int) < (i : Int)) = false := decide_eq_false (by omega)
        rw [if_neg (fun h => h0 h.1)] at HRS
        go_wp2_with fail
        go_quiet (fail)
        go_wp2_with (first
          | (at_builtin; refine wpList_append_nums numTi rfl _ _ rfl w.heap.size (Ser.firsts R) [x] (HOW.out.1.ext (EA _ _)) ((NumsAt.one wr x _ _ rfl).ext (below_drewN (Below.refl _ _) _)) (by rw [hf1]; simp; omega) (by rw [hf1]; simp; omega) (Nat.le_trans hE.size (EA _ _).size) ?_; intro af2 cf2 w2 hof hgf hbf; have hm2 := (HOW.out.2.1.ext (EA _ _)).keptA (u := .slice af R.length cf) hgf HOW.out.2.2; have hB2 := (HOW.out.1.ext (EA _ _)).below (hE.trans (EA _ _)) hgf (Nat.le_trans hE.size (EA _ _).size); have hA2 := HOW.out.2.2.grown (fun g hg => ((HOW.out.2.1.ext (EA _ _)).lt hg).2) hbf; clear hgf hbf)
          | (at_builtin; refine wpList_append_nums numTi rfl _ _ rfl w.heap.size (Ser.manies R) [1] (hm2.ext (Ext.alloc _ _)) (NumsAt.one w2 1 _ _ rfl) (by rw [hm1]; simp; omega) (by rw [hm1]; simp; omega) (Nat.le_trans hB2.size (Ext.alloc _ _).size) ?_; intro am2 cm2 w3 hom hgm hbm; have hf3 := (hof.ext (Ext.alloc _ _)).keptA (u := .slice am R.length cm) hgm hA2.symm; have hB3 := (hm2.ext (Ext.alloc _ _)).below (hB2.trans ((Ext.alloc w2 _).below.mono hB2.size)) hgm (Nat.le_trans hB2.size (Ext.alloc _ _).size); have hA3 := (hA2.symm.grown (fun g hg => ((hof.ext (Ext.alloc _ _)).lt hg).2) hbm).symm; clear hgm hbm))
        simp only [List.length_append, hf1, hm1, List.length_singleton] at hf3 hom hA3 ⊢
        go_roundg (l.length - (i + 1))
        case measure => omega
        case rel =>
          have hl2 : (R ++ [(x, 1)]).length = R.length + 1 := by simp
          refine ⟨hB3, i + 1, af2, am2, cf2, cm2, by omega, rfl, by simp, ?_, ?_, ?_⟩
          · rw [HRS.out, hl2]
          · rw [HRS.out, hl2]
          · rw [HRS.out, hl2]
            exact ⟨by simpa [Ser.firsts] using hf3, by simpa [Ser.manies] using hom, hA3⟩
    · have hd : decide ((i : Int) < (l.length : Int)) = false := decide_eq_false (by omega)
      have hil : l.take i = l := List.take_of_length_le (by omega)
      rw [hil] at HOW ⊢
      go_wp2
      refine bodyPost_ret (v := .tuple #[.slice af (Ser.runs 4294967296 l).length cf, .slice am (Ser.runs 4294967296 l).length cm]) ?_ rfl ⟨_, _, rfl, HOW.out.1, HOW.out.2.1, hE⟩
      simp [results, Try.results25, go_sem]
end Go.Proofs.Ytmfkedkkkmnmmaa
