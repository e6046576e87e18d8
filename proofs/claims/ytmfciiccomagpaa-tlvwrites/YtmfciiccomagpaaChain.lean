/- A law on regions that draw their order and write: the writers stand in one chain; every other operation yields the same in each of the worlds that it can meet. No condition of its own. -/
import Derived.Test.YtmfciiccomagpaaStage
namespace Go.Proofs.Ytmfciiccomagpaa
open Go
set_option linter.unusedVariables false

/-- Operation i comes ahead of o, by at most two steps. -/
def comesB (ops : List Oper) (o : Oper) (i : Nat) : Bool := afterB o i || (List.range ops.length).any fun j => match ops[j]? with | none => false | some oj => afterB o j && afterB oj i
theorem comes_spec {ops : List Oper} {o : Oper} {i : Nat} (h : comesB ops o i = true) : afterB o i = true ∨ ∃ (j : Nat) (oj : Oper), ops[j]? = some oj ∧ afterB o j = true ∧ afterB oj i = true := by
  unfold comesB at h
  rw [Bool.or_eq_true] at h
  rcases h with h | h
  · exact .inl h
  · obtain ⟨j, _, h2⟩ := List.any_eq_true.1 h
    cases hoj : ops[j]? with
    | none => rw [hoj] at h2; cases h2
    | some oj =>
      rw [hoj] at h2
      simp only [Bool.and_eq_true] at h2
      exact .inr ⟨j, oj, hoj, h2.1, h2.2⟩
section
variable {P : Program} {mk : Tmp → Option Nat} {ops : List Oper} {a0 : Act} {V : Nat → Value → Prop} {Q : Exit → Act → World → Prop} {n : Nat}
theorem chain_any (hsh : shapeB mk ops n = true) (hn : a0.tmps.size = n) (wr : List Nat) (Ws : Nat → World)
    (hinj : ∀ i j, i < wr.length → j < wr.length → wr.getD i 0 = wr.getD j 0 → i = j)
    (hch : ∀ j o, j + 1 < wr.length → ops[wr.getD (j + 1) 0]? = some o → afterB o (wr.getD j 0) = true)
    (hG : ∀ i o, ops[i]? = some o → (∀ j, j < wr.length → wr.getD j 0 ≠ i) → ∀ k, k ≤ wr.length → (∀ (j : Nat) oj, j < k → ops[wr.getD j 0]? = some oj → comesB ops oj i = false) → GoodS P mk a0 V i o (Ws k) (Ws k))
    (hWr : ∀ k o, k < wr.length → ops[wr.getD k 0]? = some o → GoodS P mk a0 V (wr.getD k 0) o (Ws k) (Ws (k + 1)))
    (hQ : ∀ a w, (∀ listed, SInv ops a0 V wr Ws (Array.replicate ops.length listed) a w → listed = true → Q .normal a w)) :
    ∀ (fuel : Nat) (listed : Array Bool) (a : Act) (w : World), listed.size = ops.length → listed.countP (· == false) ≤ fuel → (∀ (j : Nat) oj, ops[j]? = some oj → listed.getD j false = true → ∀ e ∈ oj.after, Region.binds .any e = true → listed.getD e.on false = true) → SInv ops a0 V wr Ws listed a w → wpAny P .any ops.toArray Q fuel listed a w := by
  have ready_nil : ∀ (listed : Array Bool), listed.size = ops.length → Region.ready .any ops.toArray listed = [] → listed = Array.replicate ops.length true := by
    intro listed hs hr
    have key : ∀ i, i < ops.length → listed.getD i false = true := by
      intro i
      induction i using Nat.strongRecOn with
      | _ i ih =>
        intro hi
        cases hb : listed.getD i false with
        | true => rfl
        | false =>
          exfalso
          have ho : ops[i]? = some ops[i] := by simp [hi]
          have : i ∈ Region.ready .any ops.toArray listed := by
            rw [mem_ready]
            refine ⟨by simpa [hs, hi] using hb, ops[i], by simp [hi], fun e he hbi => ?_⟩
            have hsp := shape_spec hsh ho
            simp only [shapeOneB, Bool.and_eq_true] at hsp
            have h5 := Array.all_eq_true_iff_forall_mem.1 hsp.2 e he
            simp [hbi] at h5
            exact ih e.on h5 (by omega)
          rw [hr] at this
          cases this
    apply Array.ext
    · simp [hs]
    · intro i h1 h2
      have := key i (by omega)
      simpa [h1] using this
  have fin : ∀ (listed : Array Bool) (a : Act) (w : World), listed.size = ops.length → SInv ops a0 V wr Ws listed a w → Region.ready .any ops.toArray listed = [] → Q .normal a w := by
    intro listed a w hs hI hr
    have := ready_nil listed hs hr
    subst this
    exact hQ a w true hI rfl
  intro fuel
  induction fuel with
  | zero =>
    intro listed a w hs hc hcl hI
    have hr : Region.ready .any ops.toArray listed = [] := by
      cases hr : Region.ready .any ops.toArray listed with
      | nil => rfl
      | cons j js =>
        exfalso
        have hj : j ∈ Region.ready .any ops.toArray listed := by rw [hr]; simp
        have h0 := (mem_ready.1 hj).1
        have hlt : j < listed.size := by
          rcases Nat.lt_or_ge j listed.size with h | h
          · exact h
          · simp [Array.getElem?_eq_none h] at h0
        have h1 : listed.countP (· == false) = 0 := by omega
        rw [Array.countP_eq_zero] at h1
        have h2 : listed[j] = false := by simpa [hlt] using h0
        have := h1 listed[j] (Array.getElem_mem hlt)
        simp [h2] at this
    exact ⟨hr, fin listed a w hs hI hr⟩
  | succ fuel ih =>
    intro listed a w hs hc hcl hI
    refine ⟨fin listed a w hs hI, fun i hi => ?_⟩
    obtain ⟨hl, o, ho', hall⟩ := mem_ready.1 hi
    have ho : ops[i]? = some o := by simpa using ho'
    obtain ⟨hB, k, hk, rfl, hst⟩ := hI
    have hfacts := factsOf_mk (hB.facts hsh ho hall)
    -- the world behind it, and what is owed
    obtain ⟨k', hk', hg, hst'⟩ : ∃ k', k' ≤ wr.length ∧ GoodS P mk a0 V i o (Ws k) (Ws k') ∧ ∀ j, j < wr.length → (listed.setIfInBounds i true).getD (wr.getD j 0) false = decide (j < k') := by
      by_cases hw : ∃ j, j < wr.length ∧ wr.getD j 0 = i
      · obtain ⟨j, hj, hji⟩ := hw
        have hnl : listed.getD (wr.getD j 0) false = false := by rw [hji]; exact getD_false hl
        have hjk : ¬ j < k := by
          intro h
          rw [hst j hj, decide_eq_true h] at hnl
          cases hnl
        have hkj : j = k := by
          rcases Nat.lt_or_ge k j with h | h
          · exfalso
            obtain ⟨j', rfl⟩ : ∃ j', j = j' + 1 := ⟨j - 1, by omega⟩
            have ha := hch j' o hj (by rw [hji]; exact ho)
            obtain ⟨e, he, hb, hon⟩ := after_spec ha
            have h2 := hall e he hb
            rw [hon, hst j' (by omega)] at h2
            have : j' < k := of_decide_eq_true h2
            omega
          · omega
        subst hkj
        refine ⟨j + 1, by omega, by rw [← hji]; exact hWr j o hj (by rw [hji]; exact ho), fun j2 hj2 => ?_⟩
        by_cases e : j2 = j
        · subst e
          rw [hji, getD_set_self hl]
          exact (decide_eq_true (by omega)).symm
        · rw [getD_set_ne false (fun h => e (hinj j2 j hj2 hj (by rw [← h, hji]))), hst j2 hj2]
          congr 1
          simp only [eq_iff_iff]; omega
      · have hne : ∀ j, j < wr.length → wr.getD j 0 ≠ i := fun j hj e => hw ⟨j, hj, e⟩
        refine ⟨k, hk, hG i o ho hne k hk (fun j oj hj hoj => ?_), fun j hj => by rw [getD_set_ne false (hne j hj).symm, hst j hj]⟩
        cases hcm : comesB ops oj i with
        | false => rfl
        | true =>
          exfalso
          have hlj : listed.getD (wr.getD j 0) false = true := by rw [hst j (by omega), decide_eq_true hj]
          have hli := getD_false hl
          rcases comes_spec hcm with h1 | ⟨j2, o2, ho2, h1, h2⟩
          · obtain ⟨e, he, hb, rfl⟩ := after_spec h1
            have := hcl _ oj hoj hlj e he hb
            rw [hli] at this; cases this
          · obtain ⟨e, he, hb, rfl⟩ := after_spec h1
            have h3 := hcl _ oj hoj hlj e he hb
            obtain ⟨e2, he2, hb2, rfl⟩ := after_spec h2
            have := hcl _ o2 ho2 h3 e2 he2 hb2
            rw [hli] at this; cases this
    have hg := hg a.eval hfacts
    unfold wpOp
    simp only [ho']
    have next : ∀ v w', w' = Ws k' ∧ V i v → wpAny P .any ops.toArray Q fuel (listed.setIfInBounds i true) (a.put o.dst v) w' := fun v w' ⟨h1, h2⟩ => by
      subst h1
      exact ih _ _ _ (by simp [hs]) (count_set hl hc) (fun j oj hoj hlj e he hb => by
          have keep : ∀ x, listed.getD x false = true → (listed.setIfInBounds i true).getD x false = true := fun x hx => by
            by_cases e' : i = x
            · subst e'; exact absurd (getD_false hl) (by rw [hx]; simp)
            · rw [getD_set_ne false e']; exact hx
          by_cases e' : i = j
          · subst e'
            rw [ho] at hoj; cases hoj
            exact keep _ (hall e he hb)
          · rw [getD_set_ne false e'] at hlj
            exact keep _ (hcl j oj hoj hlj e he hb)) ⟨hB.put hsh hn (fun _ _ _ _ _ h => h) (fun _ _ _ _ _ => trivial) ho hl trivial h2, k', hk', rfl, hst'⟩
    cases hgd : o.guard with
    | none =>
      simp only [hgd] at hg
      simp only [Region.wanted, hgd, if_true]
      exact .inl (give_wp hg next)
    | some gw =>
      obtain ⟨g, want⟩ := gw
      simp only [hgd] at hg
      have hsp := shape_spec hsh ho
      simp only [shapeOneB, hgd, Bool.and_eq_true] at hsp
      obtain ⟨e, he, hb, rfl⟩ := after_spec hsp.1.1.2.1
      obtain ⟨d, hd⟩ := Option.isSome_iff_exists.1 hsp.1.1.2.2
      obtain ⟨og, hog, hdg⟩ := Option.bind_eq_some_iff.1 hd
      obtain ⟨v, h3, h4⟩ := hB.done e.on og hog (hall e he hb)
      have hv := h3 d hdg
      have hy : yielded ops.toArray a.tmps e.on = asBool v := by
        unfold yielded
        simp only [List.getElem?_toArray, hog, Option.bind_some, hdg, hv]
        cases v <;> rfl
      have := hg v h4
      simp only [Region.wanted, hgd, hy]
      split
      · rename_i hw
        rw [if_pos hw] at this
        exact .inl (give_wp this next)
      · rename_i hw
        rw [if_neg hw] at this
        exact next _ _ ⟨this.1.symm, this.2⟩
end

/-- Up to which world an operation must be looked at: all, or those ahead of a writer that comes behind it. -/
def boundB (ops : List Oper) (wr ub : List Nat) : Bool := (List.range ops.length).all fun i => decide (wr.length ≤ ub.getD i 0) || match ops[wr.getD (ub.getD i 0) 0]? with | none => false | some oj => comesB ops oj i
def GoodCAll (P : Program) (mk : Tmp → Option Nat) (a0 : Act) (V : Nat → Value → Prop) (wr ub : List Nat) (Ws : Nat → World) : Nat → List Oper → Prop
  | _, [] => True
  | i, o :: l => (if wr.contains i then GoodS P mk a0 V i o (Ws (wr.idxOf i)) (Ws (wr.idxOf i + 1)) else ∀ k, k ≤ ub.getD i 0 → GoodS P mk a0 V i o (Ws k) (Ws k)) ∧ GoodCAll P mk a0 V wr ub Ws (i + 1) l
theorem GoodCAll.at {P : Program} {mk : Tmp → Option Nat} {a0 : Act} {V : Nat → Value → Prop} {wr ub : List Nat} {Ws : Nat → World} : ∀ {ops : List Oper} {s : Nat}, GoodCAll P mk a0 V wr ub Ws s ops → ∀ i o, ops[i]? = some o → (if wr.contains (s + i) then GoodS P mk a0 V (s + i) o (Ws (wr.idxOf (s + i))) (Ws (wr.idxOf (s + i) + 1)) else ∀ k, k ≤ ub.getD (s + i) 0 → GoodS P mk a0 V (s + i) o (Ws k) (Ws k))
  | [], _, _, i, o, ho => by simp at ho
  | _ :: _, s, h, 0, o, ho => by simp at ho; subst ho; exact h.1
  | _ :: l, s, h, i + 1, o, ho => by
    have := GoodCAll.at (ops := l) h.2 i o (by simpa using ho)
    rwa [show s + 1 + i = s + (i + 1) by omega] at this
theorem GoodCAll.nil {P : Program} {mk : Tmp → Option Nat} {a0 : Act} {V : Nat → Value → Prop} {wr ub : List Nat} {Ws : Nat → World} {i : Nat} : GoodCAll P mk a0 V wr ub Ws i [] := trivial
theorem GoodCAll.reads {P : Program} {mk : Tmp → Option Nat} {a0 : Act} {V : Nat → Value → Prop} {wr ub : List Nat} {Ws : Nat → World} {i : Nat} {o : Oper} {l : List Oper} (u : Nat) (hc : wr.contains i = false) (hu : ub.getD i 0 = u) (h : ∀ k, k ≤ u → GoodS P mk a0 V i o (Ws k) (Ws k)) (hl : GoodCAll P mk a0 V wr ub Ws (i + 1) l) : GoodCAll P mk a0 V wr ub Ws i (o :: l) :=
  ⟨by rw [if_neg (by rw [hc]; simp), hu]; exact h, hl⟩
theorem GoodCAll.writes {P : Program} {mk : Tmp → Option Nat} {a0 : Act} {V : Nat → Value → Prop} {wr ub : List Nat} {Ws : Nat → World} {i : Nat} {o : Oper} {l : List Oper} (k : Nat) (hc : wr.contains i = true) (hk : wr.idxOf i = k) (h : GoodS P mk a0 V i o (Ws k) (Ws (k + 1))) (hl : GoodCAll P mk a0 V wr ub Ws (i + 1) l) : GoodCAll P mk a0 V wr ub Ws i (o :: l) :=
  ⟨by rw [if_pos hc, hk]; exact h, hl⟩

/-- THE LAW. -/
theorem wp_region_chain {P : Program} {ops : List Oper} {a0 : Act} {Q : Exit → Act → World → Prop} {id : Nat} {w : World} (mk : Tmp → Option Nat) (n : Nat) (wr ub : List Nat) (Ws : Nat → World) (Vs : List (Value → Prop))
    (hlen : Vs.length = ops.length) (hm : P.follows .mixedOrders = true) (hsh : shapeB mk ops n = true) (hn : a0.tmps.size = n) (hch : chainB ops wr = true) (ho : onceB wr = true) (hub : boundB ops wr ub = true) (hW0 : Ws 0 = w.drew)
    (hG : GoodCAll P mk a0 (fun i => Vs.getD i fun _ => True) wr ub Ws 0 ops)
    (hQ : ∀ (vs : Nat → Value) (a' : Act), (∀ i, i < Vs.length → (Vs.getD i fun _ => True) (vs i)) → a' = putAll vs ops 0 a0 → Q .normal a' (Ws wr.length)) :
    (Code.region id ops.toArray true).wp P Q a0 w := by
  refine wp_region_any hm ?_
  have hidx : ∀ i, i < wr.length → wr.idxOf (wr.getD i 0) = i := fun i hi => by
    have := List.all_eq_true.1 ho i (List.mem_range.2 hi)
    simpa using this
  have hmem : ∀ i, i < wr.length → wr.contains (wr.getD i 0) = true := fun i hi => by
    rw [List.contains_iff_mem]; simp [List.getD_eq_getElem?_getD, hi]
  have h := chain_any (P := P) (ops := ops) (a0 := a0) (V := fun i => Vs.getD i fun _ => True) (Q := Q) (n := n) hsh hn wr Ws
    (fun i j hi hj e => by rw [← hidx i hi, e, hidx j hj])
    (fun j o hj hoj => by
      have := List.all_eq_true.1 hch (j + 1) (List.mem_range.2 hj)
      rw [hoj] at this
      simpa using this)
    (fun i o hio hne k hk hcm => by
      have := hG.at i o hio
      rw [Nat.zero_add, if_neg (by
        rw [List.contains_iff_mem]
        intro hm'
        obtain ⟨j, hj, e⟩ := List.getElem_of_mem hm'
        exact hne j hj (by simp [List.getD_eq_getElem?_getD, hj, e]))] at this
      refine this k ?_
      have hil : i < ops.length := by
        rcases Nat.lt_or_ge i ops.length with h' | h'
        · exact h'
        · simp [List.getElem?_eq_none h'] at hio
      have hb := List.all_eq_true.1 hub i (List.mem_range.2 hil)
      rcases Bool.or_eq_true _ _ ▸ hb with hb | hb
      · have := of_decide_eq_true hb; omega
      · cases hoj : ops[wr.getD (ub.getD i 0) 0]? with
        | none => rw [hoj] at hb; cases hb
        | some oj =>
          rw [hoj] at hb
          rcases Nat.lt_or_ge (ub.getD i 0) k with h | h
          · have := hcm _ oj h hoj
            have hb2 : comesB ops oj i = true := hb
            rw [this] at hb2; cases hb2
          · exact h)
    (fun k o hk hko => by
      have := hG.at _ o hko
      rw [Nat.zero_add, if_pos (hmem k hk), hidx k hk] at this
      exact this)
    (fun a w' l hI hl => by
      subst hl
      obtain ⟨hB, k, hk, rfl, hst⟩ := hI
      obtain ⟨vs, rfl, hv⟩ := hB.whole hsh hn
      have hkl : k = wr.length := by
        rcases Nat.lt_or_ge k wr.length with h | h
        · exfalso
          have := hst k h
          rw [decide_eq_false (by omega)] at this
          have hlt : wr.getD k 0 < ops.length := by
            have h2 := List.all_eq_true.1 hch k (List.mem_range.2 h)
            rcases Nat.lt_or_ge (wr.getD k 0) ops.length with h' | h'
            · exact h'
            · rw [List.getElem?_eq_none h'] at h2; cases h2
          generalize wr.getD k 0 = q at *
          simp [hlt] at this
        · omega
      subst hkl
      exact hQ vs _ (fun i hi => hv i (by omega)) rfl)
    ops.length (Array.replicate ops.length false) a0 w.drew (by simp) (by
      have := Array.countP_le_size (p := (· == false)) (xs := Array.replicate ops.length false)
      simpa using this) (fun j oj hoj hlj => by
        exfalso
        by_cases h : j < ops.length <;> simp [h] at hlj) ⟨⟨trivial, rfl, rfl, fun _ _ => rfl, fun i o hi hl => by
        exfalso
        by_cases h : i < ops.length <;> simp [h] at hl⟩, 0, Nat.zero_le _, hW0.symm, fun j hj => by
          rw [decide_eq_false (by omega)]
          generalize wr.getD j 0 = q
          by_cases h : q < ops.length <;> simp [h]⟩
  simpa using h
end Go.Proofs.Ytmfciiccomagpaa
