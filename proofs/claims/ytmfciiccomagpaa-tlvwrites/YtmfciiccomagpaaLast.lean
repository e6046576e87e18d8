/- A law on regions that draw their order and whose last operation comes behind all others: the others by facts that are kept, the last one by what it leaves. No condition of its own. -/
import Derived.Test.YtmfciiccomagpaaRely
import Derived.Test.YtmfciiccomagpaaRelyIn
namespace Go.Proofs.Ytmfciiccomagpaa
open Go
set_option linter.unusedVariables false

section
variable {P : Program} {mk : Tmp → Option Nat} {ops : List Oper} {a0 : Act} {R : World → World → Prop} {V : Nat → World → Value → Prop} {w0 : World} {Q : Exit → Act → World → Prop} {n : Nat}

theorem getD_false2 {l : Array Bool} {i : Nat} (h : l.getD i true = false) : l.getD i false = false := by
  have hlt : i < l.size := by
    rcases Nat.lt_or_ge i l.size with h' | h'
    · exact h'
    · simp [Array.getElem?_eq_none h'] at h
  simpa [hlt] using h
theorem last_any (hsh : shapeB mk ops n = true) (hn : a0.tmps.size = n) (hV : ∀ i w w' v, R w w' → V i w v → V i w' v) (hT : ∀ a b c, R a b → R b c → R a c) (hRf : ∀ w, R w w) (last : Nat) (ol : Oper) (hol : ops[last]? = some ol) (hlen : ops.length = last + 1) (hla : ∀ i, i < last → afterB ol i = true ∨ ∃ (j : Nat) (oj : Oper), ops[j]? = some oj ∧ afterB ol j = true ∧ afterB oj i = true) (hgl : ol.guard = none) (hdl : ol.dst = none) (E : World → World → Prop)
    (hG : ∀ i o, i < last → ops[i]? = some o → Good P mk a0 R V w0 i o)
    (hL : ∀ (r : Operand → Value) (w : World), R w0 w → factsOf mk a0 V r w ol.op.operands.toList → give P (fun _ w' => E w w') ((execOp r ol).run P w))
    (hQ : ∀ a w w' (listed : Array Bool), (∀ i, i < last → listed.getD i false = true) → Inv ops a0 R V w0 listed a w → E w w' → Q .normal a w') :
    ∀ (fuel : Nat) (listed : Array Bool) (a : Act) (w : World), listed.size = ops.length → listed.countP (· == false) ≤ fuel → listed.getD last true = false → (∀ (j : Nat) oj, ops[j]? = some oj → listed.getD j false = true → ∀ e ∈ oj.after, Region.binds .any e = true → listed.getD e.on false = true) → Inv ops a0 R V w0 listed a w → wpAny P .any ops.toArray Q fuel listed a w := by
  have lt_of : ∀ {listed : Array Bool} {i : Nat}, listed.getD i true = false → i < listed.size := fun {listed i} h => by
    rcases Nat.lt_or_ge i listed.size with h' | h'
    · exact h'
    · simp [Array.getElem?_eq_none h'] at h
  -- something is ready as long as the last one is not carried out
  have some_ready : ∀ (listed : Array Bool), listed.size = ops.length → listed.getD last true = false → Region.ready .any ops.toArray listed ≠ [] := by
    intro listed hs hl hr
    have key : ∀ i, i < ops.length → listed.getD i false = true := by
      intro i
      induction i using Nat.strongRecOn with
      | _ i ih =>
        intro hi
        cases hb : listed.getD i false with
        | true => rfl
        | false =>
          exfalso
          have ho : ops[i]? = some ops[i] := by simp [hi]
          have : i ∈ Region.ready .any ops.toArray listed := by
            rw [mem_ready]
            refine ⟨by simpa [hs, hi] using hb, ops[i], by simp [hi], fun e he hbi => ?_⟩
            have hsp := shape_spec hsh ho
            simp only [shapeOneB, Bool.and_eq_true] at hsp
            have h5 := Array.all_eq_true_iff_forall_mem.1 hsp.2 e he
            simp [hbi] at h5
            exact ih e.on h5 (by omega)
          rw [hr] at this
          cases this
    have h1 := key last (by omega)
    have h2 := lt_of hl
    simp [h2] at h1 hl
    rw [h1] at hl; cases hl
  intro fuel
  induction fuel with
  | zero =>
    intro listed a w hs hc hl hcl hI
    exfalso
    have hlt := lt_of hl
    have h1 : listed.countP (· == false) = 0 := by omega
    rw [Array.countP_eq_zero] at h1
    have h2 : listed[last] = false := by simpa [hlt] using hl
    have := h1 listed[last] (Array.getElem_mem hlt)
    simp [h2] at this
  | succ fuel ih =>
    intro listed a w hs hc hl hcl hI
    refine ⟨fun hr => absurd hr (some_ready listed hs hl), fun i hi => ?_⟩
    obtain ⟨hli, o, ho', hall⟩ := mem_ready.1 hi
    have ho : ops[i]? = some o := by simpa using ho'
    have hfacts := factsOf_mk (hI.facts hsh ho hall)
    unfold wpOp
    simp only [ho']
    by_cases hil : i = last
    · subst hil
      rw [hol] at ho; cases ho
      have hg := hL a.eval w hI.rel hfacts
      have hothers : ∀ j, j < i → listed.getD j false = true := fun j hj => by
        rcases hla j hj with h1 | ⟨j2, oj, hoj, h1, h2⟩
        · obtain ⟨e, he, hb, rfl⟩ := after_spec h1
          exact hall e he hb
        · obtain ⟨e, he, hb, rfl⟩ := after_spec h1
          obtain ⟨e2, he2, hb2, rfl⟩ := after_spec h2
          exact hcl e.on oj hoj (hall e he hb) e2 he2 hb2
      simp only [Region.wanted, hgl, if_true]
      refine .inl (give_wp hg fun v w' hE => ?_)
      rw [hdl]
      have hq : Q .normal a w' := hQ a w w' listed hothers hI hE
      have hnil : Region.ready .any ops.toArray (listed.setIfInBounds i true) = [] := by
        cases hr : Region.ready .any ops.toArray (listed.setIfInBounds i true) with
        | nil => rfl
        | cons j js =>
          exfalso
          have hj : j ∈ Region.ready .any ops.toArray (listed.setIfInBounds i true) := by rw [hr]; simp
          have h0 := (mem_ready.1 hj).1
          have hlt := lt_of h0
          simp [hs] at hlt
          by_cases e : j = i
          · subst e; simp [hs, hlt] at h0
          · have := hothers j (by omega)
            rw [getD_set_ne true (Ne.symm e)] at h0
            simp [hs, hlt] at this h0
            rw [this] at h0; cases h0
      cases fuel with
      | zero => exact ⟨hnil, hq⟩
      | succ f => exact ⟨fun _ => hq, fun j hj => by rw [hnil] at hj; cases hj⟩
    · have hil' : i < last := by
        have h1 : i < ops.length := by
          rcases Nat.lt_or_ge i ops.length with h' | h'
          · exact h'
          · simp [List.getElem?_eq_none h'] at ho
        omega
      have hg := hG i o hil' ho a.eval w hI.rel hfacts
      have next : ∀ v w', R w w' ∧ V i w' v → wpAny P .any ops.toArray Q fuel (listed.setIfInBounds i true) (a.put o.dst v) w' := fun v w' ⟨h1, h2⟩ =>
        ih _ _ _ (by simp [hs]) (count_set hli hc) (by rw [getD_set_ne true hil]; exact hl) (fun j oj hoj hlj e he hb => by
          have keep : ∀ x, listed.getD x false = true → (listed.setIfInBounds i true).getD x false = true := fun x hx => by
            by_cases e' : i = x
            · subst e'; exact absurd (getD_false2 hli) (by rw [hx]; simp)
            · rw [getD_set_ne false e']; exact hx
          by_cases e' : i = j
          · subst e'
            rw [ho] at hoj; cases hoj
            exact keep _ (hall e he hb)
          · rw [getD_set_ne false e'] at hlj
            exact keep _ (hcl j oj hoj hlj e he hb)) (hI.put hsh hn hV hT ho hli h1 h2)
      cases hgd : o.guard with
      | none =>
        simp only [hgd] at hg
        simp only [Region.wanted, hgd, if_true]
        exact .inl (give_wp hg next)
      | some gw =>
        obtain ⟨g, want⟩ := gw
        simp only [hgd] at hg
        have hsp := shape_spec hsh ho
        simp only [shapeOneB, hgd, Bool.and_eq_true] at hsp
        obtain ⟨e, he, hb, rfl⟩ := after_spec hsp.1.1.2.1
        obtain ⟨d, hd⟩ := Option.isSome_iff_exists.1 hsp.1.1.2.2
        obtain ⟨og, hog, hdg⟩ := Option.bind_eq_some_iff.1 hd
        obtain ⟨v, h3, h4⟩ := hI.done e.on og hog (hall e he hb)
        have hv := h3 d hdg
        have hy : yielded ops.toArray a.tmps e.on = asBool v := by
          unfold yielded
          simp only [List.getElem?_toArray, hog, Option.bind_some, hdg, hv]
          cases v <;> rfl
        have := hg v h4
        simp only [Region.wanted, hgd, hy]
        split
        · rename_i hw
          rw [if_pos hw] at this
          exact .inl (give_wp this next)
        · rename_i hw
          rw [if_neg hw] at this
          exact next _ _ ⟨hRf w, this⟩

theorem Inv.wholeL (hsh : shapeB mk ops n = true) (hn : a0.tmps.size = n) (last : Nat) (ol : Oper) (hol : ops[last]? = some ol) (hlen : ops.length = last + 1) (hdl : ol.dst = none) {listed : Array Bool} {a : Act} {w : World} (hlist : ∀ i, i < last → listed.getD i false = true) (hI : Inv ops a0 R V w0 listed a w) :
    ∃ vs : Nat → Value, a = putAll vs ops 0 a0 ∧ ∀ i, i < last → V i w (vs i) := by
  have hI' : Inv ops a0 (fun _ _ => True) (fun i w v => i < last → V i w v) w0 (Array.replicate ops.length true) a w := by
    refine ⟨trivial, hI.defers, hI.size, fun t ht => ?_, fun i o hi _ => ?_⟩
    · refine hI.rest t fun i o hi hd => ?_
      have := ht i o hi hd
      have hlt : i < ops.length := by
        rcases Nat.lt_or_ge i ops.length with h' | h'
        · exact h'
        · simp [List.getElem?_eq_none h'] at hi
      simp [hlt] at this
    · by_cases e : i < last
      · obtain ⟨v, h1, h2⟩ := hI.done i o hi (hlist i e)
        exact ⟨v, h1, fun _ => h2⟩
      · have hlt : i < ops.length := by
          rcases Nat.lt_or_ge i ops.length with h' | h'
          · exact h'
          · simp [List.getElem?_eq_none h'] at hi
        obtain rfl : i = last := by omega
        rw [hol] at hi; cases hi
        exact ⟨undef, (fun d hd => by rw [hdl] at hd; cases hd), fun h => absurd h e⟩
  obtain ⟨vs, h1, h2⟩ := hI'.whole hsh hn
  exact ⟨vs, h1, fun i hi => h2 i (by omega) hi⟩
end

/-- The last operation comes behind all others, a closed fact. -/
def lastB (ops : List Oper) : Bool := match ops[ops.length - 1]? with | none => false | some o => decide (0 < ops.length) && o.guard.isNone && o.dst.isNone && (List.range (ops.length - 1)).all fun i => afterB o i || (List.range (ops.length - 1)).any fun j => match ops[j]? with | none => false | some oj => afterB o j && afterB oj i

/-- THE LAW. 'init': the operations but the last. -/
theorem wp_region_last {P : Program} {init : List Oper} {ol : Oper} {a0 : Act} {Q : Exit → Act → World → Prop} {id : Nat} {w : World} (mk : Tmp → Option Nat) (n : Nat) (R : World → World → Prop) (Vs : List Fact) (hlen : Vs.length = init.length)
    (hm : P.follows .mixedOrders = true) (hsh : shapeB mk (init ++ [ol]) n = true) (hn : a0.tmps.size = n) (hlast : lastB (init ++ [ol]) = true)
    (hRf : ∀ w, R w w) (hT : ∀ a b c, R a b → R b c → R a c) (hK : KeepAll R Vs) (hG : GoodAll P mk a0 R (at_ Vs) w.drew 0 init) (E : World → World → Prop)
    (hL : ∀ (r : Operand → Value) (w' : World), R w.drew w' → factsOf mk a0 (at_ Vs) r w' ol.op.operands.toList → give P (fun _ w'' => E w' w'') ((execOp r ol).run P w'))
    (hQ : ∀ (vs : Nat → Value) (w' w'' : World) (a' : Act), R w.drew w' → E w' w'' → HoldAll w' vs 0 Vs → a' = putAll vs (init ++ [ol]) 0 a0 → Q .normal a' w'') :
    (Code.region id (init ++ [ol]).toArray true).wp P Q a0 w := by
  refine wp_region_any hm ?_
  have hol : (init ++ [ol])[init.length]? = some ol := by simp
  have hll : (init ++ [ol]).length = init.length + 1 := by simp
  unfold lastB at hlast
  rw [show (init ++ [ol]).length - 1 = init.length by simp, hol] at hlast
  simp only [Bool.and_eq_true, List.all_eq_true, List.mem_range, Option.isNone_iff_eq_none, decide_eq_true_eq] at hlast
  have hla : ∀ i, i < init.length → afterB ol i = true ∨ ∃ (j : Nat) (oj : Oper), (init ++ [ol])[j]? = some oj ∧ afterB ol j = true ∧ afterB oj i = true := fun i hi => by
    have := hlast.2 i hi
    rw [Bool.or_eq_true] at this
    rcases this with h | h
    · exact .inl h
    · obtain ⟨j, hj, h2⟩ := List.any_eq_true.1 h
      cases hoj : (init ++ [ol])[j]? with
      | none => rw [hoj] at h2; cases h2
      | some oj =>
        rw [hoj] at h2
        simp only [Bool.and_eq_true] at h2
        exact .inr ⟨j, oj, hoj, h2.1, h2.2⟩
  have h := last_any (P := P) (ops := init ++ [ol]) (a0 := a0) (R := R) (V := at_ Vs) (w0 := w.drew) (Q := Q) (n := n) hsh hn hK.at hT hRf init.length ol hol hll hla hlast.1.1.2 hlast.1.2 E
    (fun i o hi ho => by
      rw [List.getElem?_append_left hi] at ho
      have := hG.at i o ho; rwa [Nat.zero_add] at this)
    hL
    (fun a w' w'' listed hlist hI hE => by
      obtain ⟨vs, rfl, h⟩ := hI.wholeL hsh hn init.length ol hol hll hlast.1.2 hlist
      exact hQ vs w' w'' _ hI.rel hE (HoldAll.mk fun i hi => by rw [Nat.zero_add]; exact h i (by omega)) rfl)
    (init ++ [ol]).length (Array.replicate (init ++ [ol]).length false) a0 w.drew (by simp) (by
      have := Array.countP_le_size (p := (· == false)) (xs := Array.replicate (init ++ [ol]).length false)
      simpa using this) (by simp) (fun j oj hoj hl => by
        exfalso
        by_cases h : j < (init ++ [ol]).length
        · rw [Array.getD_eq_getD_getElem?, Array.getElem?_replicate, if_pos h] at hl; cases hl
        · rw [Array.getD_eq_getD_getElem?, Array.getElem?_replicate, if_neg h] at hl; cases hl) ⟨hRf _, rfl, rfl, fun _ _ => rfl, fun i o hi hl => by
        exfalso
        by_cases h : i < (init ++ [ol]).length
        · rw [Array.getD_eq_getD_getElem?, Array.getElem?_replicate, if_pos h] at hl; cases hl
        · rw [Array.getD_eq_getD_getElem?, Array.getElem?_replicate, if_neg h] at hl; cases hl⟩
  simpa using h
/-- The same, the region's operations as they stand. -/
theorem wp_region_lastD {P : Program} {ops : List Oper} {a0 : Act} {Q : Exit → Act → World → Prop} {id : Nat} {w : World} (mk : Tmp → Option Nat) (n : Nat) (R : World → World → Prop) (Vs : List Fact) (hne : ops ≠ []) (hlen : Vs.length = ops.dropLast.length)
    (hm : P.follows .mixedOrders = true) (hsh : shapeB mk ops n = true) (hn : a0.tmps.size = n) (hlast : lastB ops = true)
    (hRf : ∀ w, R w w) (hT : ∀ a b c, R a b → R b c → R a c) (hK : KeepAll R Vs) (E : World → World → Prop) (hG : GoodAll P mk a0 R (at_ Vs) w.drew 0 ops.dropLast)
    (hL : ∀ (r : Operand → Value) (w' : World), R w.drew w' → factsOf mk a0 (at_ Vs) r w' (ops.getLast hne).op.operands.toList → give P (fun _ w'' => E w' w'') ((execOp r (ops.getLast hne)).run P w'))
    (hQ : ∀ (vs : Nat → Value) (w' w'' : World) (a' : Act), R w.drew w' → E w' w'' → HoldAll w' vs 0 Vs → a' = putAll vs ops 0 a0 → Q .normal a' w'') :
    (Code.region id ops.toArray true).wp P Q a0 w := by
  have e : ops.dropLast ++ [ops.getLast hne] = ops := List.dropLast_concat_getLast hne
  have := wp_region_last (P := P) (init := ops.dropLast) (ol := ops.getLast hne) (a0 := a0) (Q := Q) (id := id) (w := w) mk n R Vs hlen hm (by rw [e]; exact hsh) hn (by rw [e]; exact hlast) hRf hT hK hG E hL (by rw [e]; exact hQ)
  rwa [e] at this
end Go.Proofs.Ytmfciiccomagpaa
