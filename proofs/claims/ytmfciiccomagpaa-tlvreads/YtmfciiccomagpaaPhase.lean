/- A law on regions that draw their order and whose writers stand in one chain: facts that are kept, and what holds of the world behind each writer. No condition of its own. -/
import Derived.Test.YtmfciiccomagpaaChain
namespace Go.Proofs.Ytmfciiccomagpaa
open Go
set_option linter.unusedVariables false

/-- What is owed for operation number i, from a world of S to one of S'. -/
def GoodH (P : Program) (mk : Tmp → Option Nat) (a0 : Act) (R : World → World → Prop) (V : Nat → World → Value → Prop) (w0 : World) (i : Nat) (o : Oper) (S S' : World → Prop) : Prop :=
  ∀ (r : Operand → Value) (w : World), R w0 w → S w → factsOf mk a0 V r w o.op.operands.toList →
    match o.guard with
    | none => give P (fun v x => R w x ∧ S' x ∧ V i x v) ((execOp r o).run P w)
    | some (g, want) => ∀ b, V g w b → if asBool b == some want then give P (fun v x => R w x ∧ S' x ∧ V i x v) ((execOp r o).run P w) else (S' w ∧ V i w undef)
def HInv (ops : List Oper) (a0 : Act) (R : World → World → Prop) (V : Nat → World → Value → Prop) (w0 : World) (wr : List Nat) (S : Nat → World → Prop) (listed : Array Bool) (a : Act) (w : World) : Prop :=
  Inv ops a0 R V w0 listed a w ∧ ∃ k, k ≤ wr.length ∧ S k w ∧ ∀ j, j < wr.length → listed.getD (wr.getD j 0) false = decide (j < k)
section
variable {P : Program} {mk : Tmp → Option Nat} {ops : List Oper} {a0 : Act} {R : World → World → Prop} {V : Nat → World → Value → Prop} {w0 : World} {Q : Exit → Act → World → Prop} {n : Nat}
theorem phase_any (hsh : shapeB mk ops n = true) (hn : a0.tmps.size = n) (hV : ∀ i w w' v, R w w' → V i w v → V i w' v) (hT : ∀ a b c, R a b → R b c → R a c) (hRf : ∀ w, R w w) (wr : List Nat) (S : Nat → World → Prop)
    (hinj : ∀ i j, i < wr.length → j < wr.length → wr.getD i 0 = wr.getD j 0 → i = j)
    (hch : ∀ j o, j + 1 < wr.length → ops[wr.getD (j + 1) 0]? = some o → afterB o (wr.getD j 0) = true)
    (hG : ∀ i o, ops[i]? = some o → (∀ j, j < wr.length → wr.getD j 0 ≠ i) → ∀ k, k ≤ wr.length → (∀ (j : Nat) oj, j < k → ops[wr.getD j 0]? = some oj → comesB ops oj i = false) → GoodH P mk a0 R V w0 i o (S k) (S k))
    (hWr : ∀ k o, k < wr.length → ops[wr.getD k 0]? = some o → GoodH P mk a0 R V w0 (wr.getD k 0) o (S k) (S (k + 1)))
    (hQ : ∀ a w, (∀ listed, HInv ops a0 R V w0 wr S (Array.replicate ops.length listed) a w → listed = true → Q .normal a w)) :
    ∀ (fuel : Nat) (listed : Array Bool) (a : Act) (w : World), listed.size = ops.length → listed.countP (· == false) ≤ fuel → (∀ (j : Nat) oj, ops[j]? = some oj → listed.getD j false = true → ∀ e ∈ oj.after, Region.binds .any e = true → listed.getD e.on false = true) → HInv ops a0 R V w0 wr S listed a w → wpAny P .any ops.toArray Q fuel listed a w := by
  have ready_nil : ∀ (listed : Array Bool), listed.size = ops.length → Region.ready .any ops.toArray listed = [] → listed = Array.replicate ops.length true := by
    intro listed hs hr
    have key : ∀ i, i < ops.length → listed.getD i false = true := by
      intro i
      induction i using Nat.strongRecOn with
      | _ i ih =>
        intro hi
        cases hb : listed.getD i false with
        | true => rfl
        | false =>
          exfalso
          have ho : ops[i]? = some ops[i] := by simp [hi]
          have : i ∈ Region.ready .any ops.toArray listed := by
            rw [mem_ready]
            refine ⟨by simpa [hs, hi] using hb, ops[i], by simp [hi], fun e he hbi => ?_⟩
            have hsp := shape_spec hsh ho
            simp only [shapeOneB, Bool.and_eq_true] at hsp
            have h5 := Array.all_eq_true_iff_forall_mem.1 hsp.2 e he
            simp [hbi] at h5
            exact ih e.on h5 (by omega)
          rw [hr] at this
          cases this
    apply Array.ext
    · simp [hs]
    · intro i h1 h2
      have := key i (by omega)
      simpa [h1] using this
  have fin : ∀ (listed : Array Bool) (a : Act) (w : World), listed.size = ops.length → HInv ops a0 R V w0 wr S listed a w → Region.ready .any ops.toArray listed = [] → Q .normal a w := by
    intro listed a w hs hI hr
    have := ready_nil listed hs hr
    subst this
    exact hQ a w true hI rfl
  intro fuel
  induction fuel with
  | zero =>
    intro listed a w hs hc hcl hI
    have hr : Region.ready .any ops.toArray listed = [] := by
      cases hr : Region.ready .any ops.toArray listed with
      | nil => rfl
      | cons j js =>
        exfalso
        have hj : j ∈ Region.ready .any ops.toArray listed := by rw [hr]; simp
        have h0 := (mem_ready.1 hj).1
        have hlt : j < listed.size := by
          rcases Nat.lt_or_ge j listed.size with h | h
          · exact h
          · simp [Array.getElem?_eq_none h] at h0
        have h1 : listed.countP (· == false) = 0 := by omega
        rw [Array.countP_eq_zero] at h1
        have h2 : listed[j] = false := by simpa [hlt] using h0
        have := h1 listed[j] (Array.getElem_mem hlt)
        simp [h2] at this
    exact ⟨hr, fin listed a w hs hI hr⟩
  | succ fuel ih =>
    intro listed a w hs hc hcl hI
    refine ⟨fin listed a w hs hI, fun i hi => ?_⟩
    obtain ⟨hl, o, ho', hall⟩ := mem_ready.1 hi
    have ho : ops[i]? = some o := by simpa using ho'
    obtain ⟨hB, k, hk, hS, hst⟩ := hI
    have hfacts := factsOf_mk (hB.facts hsh ho hall)
    -- the world behind it, and what is owed
    obtain ⟨k', hk', hg, hst'⟩ : ∃ k', k' ≤ wr.length ∧ GoodH P mk a0 R V w0 i o (S k) (S k') ∧ ∀ j, j < wr.length → (listed.setIfInBounds i true).getD (wr.getD j 0) false = decide (j < k') := by
      by_cases hw : ∃ j, j < wr.length ∧ wr.getD j 0 = i
      · obtain ⟨j, hj, hji⟩ := hw
        have hnl : listed.getD (wr.getD j 0) false = false := by rw [hji]; exact getD_false hl
        have hjk : ¬ j < k := by
          intro h
          rw [hst j hj, decide_eq_true h] at hnl
          cases hnl
        have hkj : j = k := by
          rcases Nat.lt_or_ge k j with h | h
          · exfalso
            obtain ⟨j', rfl⟩ : ∃ j', j = j' + 1 := ⟨j - 1, by omega⟩
            have ha := hch j' o hj (by rw [hji]; exact ho)
            obtain ⟨e, he, hb, hon⟩ := after_spec ha
            have h2 := hall e he hb
            rw [hon, hst j' (by omega)] at h2
            have : j' < k := of_decide_eq_true h2
            omega
          · omega
        subst hkj
        refine ⟨j + 1, by omega, by rw [← hji]; exact hWr j o hj (by rw [hji]; exact ho), fun j2 hj2 => ?_⟩
        by_cases e : j2 = j
        · subst e
          rw [hji, getD_set_self hl]
          exact (decide_eq_true (by omega)).symm
        · rw [getD_set_ne false (fun h => e (hinj j2 j hj2 hj (by rw [← h, hji]))), hst j2 hj2]
          congr 1
          simp only [eq_iff_iff]; omega
      · have hne : ∀ j, j < wr.length → wr.getD j 0 ≠ i := fun j hj e => hw ⟨j, hj, e⟩
        refine ⟨k, hk, hG i o ho hne k hk (fun j oj hj hoj => ?_), fun j hj => by rw [getD_set_ne false (hne j hj).symm, hst j hj]⟩
        cases hcm : comesB ops oj i with
        | false => rfl
        | true =>
          exfalso
          have hlj : listed.getD (wr.getD j 0) false = true := by rw [hst j (by omega), decide_eq_true hj]
          have hli := getD_false hl
          rcases comes_spec hcm with h1 | ⟨j2, o2, ho2, h1, h2⟩
          · obtain ⟨e, he, hb, rfl⟩ := after_spec h1
            have := hcl _ oj hoj hlj e he hb
            rw [hli] at this; cases this
          · obtain ⟨e, he, hb, rfl⟩ := after_spec h1
            have h3 := hcl _ oj hoj hlj e he hb
            obtain ⟨e2, he2, hb2, rfl⟩ := after_spec h2
            have := hcl _ o2 ho2 h3 e2 he2 hb2
            rw [hli] at this; cases this
    have hg := hg a.eval w hB.rel hS hfacts
    unfold wpOp
    simp only [ho']
    have next : ∀ v w', R w w' ∧ S k' w' ∧ V i w' v → wpAny P .any ops.toArray Q fuel (listed.setIfInBounds i true) (a.put o.dst v) w' := fun v w' ⟨h1, hS', h2⟩ => by
      exact ih _ _ _ (by simp [hs]) (count_set hl hc) (fun j oj hoj hlj e he hb => by
          have keep : ∀ x, listed.getD x false = true → (listed.setIfInBounds i true).getD x false = true := fun x hx => by
            by_cases e' : i = x
            · subst e'; exact absurd (getD_false hl) (by rw [hx]; simp)
            · rw [getD_set_ne false e']; exact hx
          by_cases e' : i = j
          · subst e'
            rw [ho] at hoj; cases hoj
            exact keep _ (hall e he hb)
          · rw [getD_set_ne false e'] at hlj
            exact keep _ (hcl j oj hoj hlj e he hb)) ⟨hB.put hsh hn hV hT ho hl h1 h2, k', hk', hS', hst'⟩
    cases hgd : o.guard with
    | none =>
      simp only [hgd] at hg
      simp only [Region.wanted, hgd, if_true]
      exact .inl (give_wp hg next)
    | some gw =>
      obtain ⟨g, want⟩ := gw
      simp only [hgd] at hg
      have hsp := shape_spec hsh ho
      simp only [shapeOneB, hgd, Bool.and_eq_true] at hsp
      obtain ⟨e, he, hb, rfl⟩ := after_spec hsp.1.1.2.1
      obtain ⟨d, hd⟩ := Option.isSome_iff_exists.1 hsp.1.1.2.2
      obtain ⟨og, hog, hdg⟩ := Option.bind_eq_some_iff.1 hd
      obtain ⟨v, h3, h4⟩ := hB.done e.on og hog (hall e he hb)
      have hv := h3 d hdg
      have hy : yielded ops.toArray a.tmps e.on = asBool v := by
        unfold yielded
        simp only [List.getElem?_toArray, hog, Option.bind_some, hdg, hv]
        cases v <;> rfl
      have := hg v h4
      simp only [Region.wanted, hgd, hy]
      split
      · rename_i hw
        rw [if_pos hw] at this
        exact .inl (give_wp this next)
      · rename_i hw
        rw [if_neg hw] at this
        exact next _ _ ⟨hRf _, this.1, this.2⟩
end
def GoodHAll (P : Program) (mk : Tmp → Option Nat) (a0 : Act) (R : World → World → Prop) (V : Nat → World → Value → Prop) (w0 : World) (wr ub : List Nat) (S : Nat → World → Prop) : Nat → List Oper → Prop
  | _, [] => True
  | i, o :: l => (if wr.contains i then GoodH P mk a0 R V w0 i o (S (wr.idxOf i)) (S (wr.idxOf i + 1)) else ∀ k, k ≤ ub.getD i 0 → GoodH P mk a0 R V w0 i o (S k) (S k)) ∧ GoodHAll P mk a0 R V w0 wr ub S (i + 1) l
theorem GoodHAll.at {P : Program} {mk : Tmp → Option Nat} {a0 : Act} {R : World → World → Prop} {V : Nat → World → Value → Prop} {w0 : World} {wr ub : List Nat} {S : Nat → World → Prop} : ∀ {ops : List Oper} {s : Nat}, GoodHAll P mk a0 R V w0 wr ub S s ops → ∀ i o, ops[i]? = some o → (if wr.contains (s + i) then GoodH P mk a0 R V w0 (s + i) o (S (wr.idxOf (s + i))) (S (wr.idxOf (s + i) + 1)) else ∀ k, k ≤ ub.getD (s + i) 0 → GoodH P mk a0 R V w0 (s + i) o (S k) (S k))
  | [], _, _, i, o, ho => by simp at ho
  | _ :: _, s, h, 0, o, ho => by simp at ho; subst ho; exact h.1
  | _ :: l, s, h, i + 1, o, ho => by
    have := GoodHAll.at (ops := l) h.2 i o (by simpa using ho)
    rwa [show s + 1 + i = s + (i + 1) by omega] at this
theorem GoodHAll.nil {P : Program} {mk : Tmp → Option Nat} {a0 : Act} {R : World → World → Prop} {V : Nat → World → Value → Prop} {w0 : World} {wr ub : List Nat} {S : Nat → World → Prop} {i : Nat} : GoodHAll P mk a0 R V w0 wr ub S i [] := trivial
theorem GoodHAll.reads {P : Program} {mk : Tmp → Option Nat} {a0 : Act} {R : World → World → Prop} {V : Nat → World → Value → Prop} {w0 : World} {wr ub : List Nat} {S : Nat → World → Prop} {i : Nat} {o : Oper} {l : List Oper} (u : Nat) (hc : wr.contains i = false) (hu : ub.getD i 0 = u) (h : ∀ k, k ≤ u → GoodH P mk a0 R V w0 i o (S k) (S k)) (hl : GoodHAll P mk a0 R V w0 wr ub S (i + 1) l) : GoodHAll P mk a0 R V w0 wr ub S i (o :: l) :=
  ⟨by rw [if_neg (by rw [hc]; simp), hu]; exact h, hl⟩
theorem GoodHAll.writes {P : Program} {mk : Tmp → Option Nat} {a0 : Act} {R : World → World → Prop} {V : Nat → World → Value → Prop} {w0 : World} {wr ub : List Nat} {S : Nat → World → Prop} {i : Nat} {o : Oper} {l : List Oper} (k : Nat) (hc : wr.contains i = true) (hk : wr.idxOf i = k) (h : GoodH P mk a0 R V w0 i o (S k) (S (k + 1))) (hl : GoodHAll P mk a0 R V w0 wr ub S (i + 1) l) : GoodHAll P mk a0 R V w0 wr ub S i (o :: l) :=
  ⟨by rw [if_pos hc, hk]; exact h, hl⟩

/-- THE LAW. -/
theorem wp_region_phased {P : Program} {ops : List Oper} {a0 : Act} {Q : Exit → Act → World → Prop} {id : Nat} {w : World} (mk : Tmp → Option Nat) (n : Nat) (wr ub : List Nat) (R : World → World → Prop) (S : Nat → World → Prop) (Vs : List Fact)
    (hlen : Vs.length = ops.length) (hm : P.follows .mixedOrders = true) (hsh : shapeB mk ops n = true) (hn : a0.tmps.size = n) (hch : chainB ops wr = true) (ho : onceB wr = true) (hub : boundB ops wr ub = true)
    (hRf : ∀ w, R w w) (hT : ∀ a b c, R a b → R b c → R a c) (hS0 : S 0 w.drew) (hK : KeepAll R Vs)
    (hG : GoodHAll P mk a0 R (at_ Vs) w.drew wr ub S 0 ops)
    (hQ : ∀ (vs : Nat → Value) (w' : World) (a' : Act), R w.drew w' → S wr.length w' → HoldAll w' vs 0 Vs → a' = putAll vs ops 0 a0 → Q .normal a' w') :
    (Code.region id ops.toArray true).wp P Q a0 w := by
  refine wp_region_any hm ?_
  have hidx : ∀ i, i < wr.length → wr.idxOf (wr.getD i 0) = i := fun i hi => by
    have := List.all_eq_true.1 ho i (List.mem_range.2 hi)
    simpa using this
  have hmem : ∀ i, i < wr.length → wr.contains (wr.getD i 0) = true := fun i hi => by
    rw [List.contains_iff_mem]; simp [List.getD_eq_getElem?_getD, hi]
  have h := phase_any (P := P) (ops := ops) (a0 := a0) (R := R) (V := at_ Vs) (w0 := w.drew) (Q := Q) (n := n) hsh hn hK.at hT hRf wr S
    (fun i j hi hj e => by rw [← hidx i hi, e, hidx j hj])
    (fun j o hj hoj => by
      have := List.all_eq_true.1 hch (j + 1) (List.mem_range.2 hj)
      rw [hoj] at this
      simpa using this)
    (fun i o hio hne k hk hcm => by
      have := hG.at i o hio
      rw [Nat.zero_add, if_neg (by
        rw [List.contains_iff_mem]
        intro hm'
        obtain ⟨j, hj, e⟩ := List.getElem_of_mem hm'
        exact hne j hj (by simp [List.getD_eq_getElem?_getD, hj, e]))] at this
      refine this k ?_
      have hil : i < ops.length := by
        rcases Nat.lt_or_ge i ops.length with h' | h'
        · exact h'
        · simp [List.getElem?_eq_none h'] at hio
      have hb := List.all_eq_true.1 hub i (List.mem_range.2 hil)
      rcases Bool.or_eq_true _ _ ▸ hb with hb | hb
      · have := of_decide_eq_true hb; omega
      · cases hoj : ops[wr.getD (ub.getD i 0) 0]? with
        | none => rw [hoj] at hb; cases hb
        | some oj =>
          rw [hoj] at hb
          rcases Nat.lt_or_ge (ub.getD i 0) k with h | h
          · have := hcm _ oj h hoj
            have hb2 : comesB ops oj i = true := hb
            rw [this] at hb2; cases hb2
          · exact h)
    (fun k o hk hko => by
      have := hG.at _ o hko
      rw [Nat.zero_add, if_pos (hmem k hk), hidx k hk] at this
      exact this)
    (fun a w' l hI hl => by
      subst hl
      obtain ⟨hB, k, hk, hS, hst⟩ := hI
      obtain ⟨vs, rfl, hv⟩ := hB.whole hsh hn
      have hkl : k = wr.length := by
        rcases Nat.lt_or_ge k wr.length with h | h
        · exfalso
          have := hst k h
          rw [decide_eq_false (by omega)] at this
          have hlt : wr.getD k 0 < ops.length := by
            have h2 := List.all_eq_true.1 hch k (List.mem_range.2 h)
            rcases Nat.lt_or_ge (wr.getD k 0) ops.length with h' | h'
            · exact h'
            · rw [List.getElem?_eq_none h'] at h2; cases h2
          generalize wr.getD k 0 = q at *
          simp [hlt] at this
        · omega
      subst hkl
      exact hQ vs _ _ hB.rel hS (HoldAll.mk fun i hi => by rw [Nat.zero_add]; exact hv i (by omega)) rfl)
    ops.length (Array.replicate ops.length false) a0 w.drew (by simp) (by
      have := Array.countP_le_size (p := (· == false)) (xs := Array.replicate ops.length false)
      simpa using this) (fun j oj hoj hlj => by
        exfalso
        by_cases h : j < ops.length <;> simp [h] at hlj) ⟨⟨hRf _, rfl, rfl, fun _ _ => rfl, fun i o hi hl => by
        exfalso
        by_cases h : i < ops.length <;> simp [h] at hl⟩, 0, Nat.zero_le _, hS0, fun j hj => by
          rw [decide_eq_false (by omega)]
          generalize wr.getD j 0 = q
          by_cases h : q < ops.length <;> simp [h]⟩
  simpa using h
end Go.Proofs.Ytmfciiccomagpaa
