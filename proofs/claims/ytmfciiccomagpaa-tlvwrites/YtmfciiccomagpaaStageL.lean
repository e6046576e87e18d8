/- A law on regions that draw their order and write, and whose last operation lays a slot that the others read: the others by the staged law, the last one behind them. No condition of its own. -/
import Derived.Test.YtmfciiccomagpaaStage
import Derived.Test.YtmfciiccomagpaaLast
namespace Go.Proofs.Ytmfciiccomagpaa
open Go
set_option linter.unusedVariables false

section
variable {P : Program} {mk : Tmp → Option Nat} {init : List Oper} {ol : Oper} {a0 : Act} {V : Nat → Value → Prop} {Q : Exit → Act → World → Prop} {n : Nat}

theorem stagedL_any (hsh : shapeB mk init n = true) (hn : a0.tmps.size = n) (wr : List Nat) (Ws : Nat → World)
    (hinj : ∀ i j, i < wr.length → j < wr.length → wr.getD i 0 = wr.getD j 0 → i = j)
    (hch : ∀ j o, j + 1 < wr.length → init[wr.getD (j + 1) 0]? = some o → afterB o (wr.getD j 0) = true)
    (hgu : ∀ (i : Nat) o, init[i]? = some o → o.guard = none) (x : Operand) (hol : ol.op = .assign x) (hgl : ol.guard = none)
    (hla : ∀ i, i < init.length → afterB ol i = true ∨ ∃ (j : Nat) (oj : Oper), (init ++ [ol])[j]? = some oj ∧ afterB ol j = true ∧ afterB oj i = true)
    (hlb : ∀ e ∈ ol.after, Region.binds .any e = true → e.on < init.length)
    (hG : ∀ i o, init[i]? = some o → (∀ j, j < wr.length → wr.getD j 0 ≠ i) → ∀ k, k ≤ wr.length → GoodS P mk a0 V i o (Ws k) (Ws k))
    (hWr : ∀ k o, k < wr.length → init[wr.getD k 0]? = some o → GoodS P mk a0 V (wr.getD k 0) o (Ws k) (Ws (k + 1)))
    (hQ : ∀ a w (listed : Array Bool), (∀ i, i < init.length → listed.getD i false = true) → SInv init a0 V wr Ws listed a w → Q .normal (a.put ol.dst (a.eval x)) w) :
    ∀ (fuel : Nat) (listed : Array Bool) (a : Act) (w : World), listed.size = init.length + 1 → listed.countP (· == false) ≤ fuel → listed.getD init.length true = false →
      (∀ (j : Nat) oj, (init ++ [ol])[j]? = some oj → listed.getD j false = true → ∀ e ∈ oj.after, Region.binds .any e = true → listed.getD e.on false = true) → SInv init a0 V wr Ws listed a w → wpAny P .any (init ++ [ol]).toArray Q fuel listed a w := by
  have lt_of : ∀ {listed : Array Bool} {i : Nat}, listed.getD i true = false → i < listed.size := fun {listed i} h => by
    rcases Nat.lt_or_ge i listed.size with h' | h'
    · exact h'
    · simp [Array.getElem?_eq_none h'] at h
  have some_ready : ∀ (listed : Array Bool), listed.size = init.length + 1 → listed.getD init.length true = false → Region.ready .any (init ++ [ol]).toArray listed ≠ [] := by
    intro listed hs hl hr
    have key : ∀ i, i < init.length → listed.getD i false = true := by
      intro i
      induction i using Nat.strongRecOn with
      | _ i ih =>
        intro hi
        cases hb : listed.getD i false with
        | true => rfl
        | false =>
          exfalso
          have ho : init[i]? = some init[i] := by simp [hi]
          have : i ∈ Region.ready .any (init ++ [ol]).toArray listed := by
            rw [mem_ready]
            refine ⟨by simpa [hs, show i < init.length + 1 by omega] using hb, init[i], by simp [List.getElem?_append_left hi, hi], fun e he hbi => ?_⟩
            have hsp := shape_spec hsh ho
            simp only [shapeOneB, Bool.and_eq_true] at hsp
            have h5 := Array.all_eq_true_iff_forall_mem.1 hsp.2 e he
            simp [hbi] at h5
            exact ih e.on h5 (by omega)
          rw [hr] at this
          cases this
    have : init.length ∈ Region.ready .any (init ++ [ol]).toArray listed := by
      rw [mem_ready]
      exact ⟨hl, ol, by simp, fun e he hb => key _ (hlb e he hb)⟩
    rw [hr] at this
    cases this
  intro fuel
  induction fuel with
  | zero =>
    intro listed a w hs hc hl hcl hI
    exfalso
    have hlt := lt_of hl
    have h1 : listed.countP (· == false) = 0 := by omega
    rw [Array.countP_eq_zero] at h1
    have h2 : listed[init.length] = false := by simpa [hlt] using hl
    have := h1 listed[init.length] (Array.getElem_mem hlt)
    simp [h2] at this
  | succ fuel ih =>
    intro listed a w hs hc hl hcl hI
    refine ⟨fun hr => absurd hr (some_ready listed hs hl), fun i hi => ?_⟩
    obtain ⟨hli, o, ho', hall⟩ := mem_ready.1 hi
    have hoA : (init ++ [ol])[i]? = some o := by simpa using ho'
    unfold wpOp
    simp only [ho']
    by_cases hil : i = init.length
    · subst hil
      have : o = ol := by simpa using hoA.symm
      subst this
      have hothers : ∀ j, j < init.length → listed.getD j false = true := fun j hj => by
        rcases hla j hj with h1 | ⟨j2, oj, hoj, h1, h2⟩
        · obtain ⟨e, he, hb, rfl⟩ := after_spec h1
          exact hall e he hb
        · obtain ⟨e, he, hb, rfl⟩ := after_spec h1
          obtain ⟨e2, he2, hb2, rfl⟩ := after_spec h2
          exact hcl e.on oj hoj (hall e he hb) e2 he2 hb2
      simp only [Region.wanted, hgl, if_true]
      refine .inl (give_wp (K := fun v w' => v = a.eval x ∧ w' = w) (give_move (.inr hol) ⟨rfl, rfl⟩) fun v w' ⟨hv, hw⟩ => ?_)
      subst hv hw
      have hq : Q .normal (a.put o.dst (a.eval x)) w' := hQ a w' listed hothers hI
      have hnil : Region.ready .any (init ++ [o]).toArray (listed.setIfInBounds init.length true) = [] := by
        cases hr : Region.ready .any (init ++ [o]).toArray (listed.setIfInBounds init.length true) with
        | nil => rfl
        | cons j js =>
          exfalso
          have hj : j ∈ Region.ready .any (init ++ [o]).toArray (listed.setIfInBounds init.length true) := by rw [hr]; simp
          have h0 := (mem_ready.1 hj).1
          have hlt := lt_of h0
          simp [hs] at hlt
          by_cases e : j = init.length
          · subst e; simp [hs] at h0
          · have := hothers j (by omega)
            rw [getD_set_ne true (Ne.symm e)] at h0
            simp [hs, hlt] at this h0
            rw [this] at h0; cases h0
      cases fuel with
      | zero => exact ⟨hnil, hq⟩
      | succ f => exact ⟨fun _ => hq, fun j hj => by rw [hnil] at hj; cases hj⟩
    · have hil' : i < init.length := by
        rcases Nat.lt_or_ge i (init.length + 1) with h | h
        · omega
        · rw [List.getElem?_eq_none (by simp; omega)] at hoA; cases hoA
      have ho : init[i]? = some o := by rwa [List.getElem?_append_left hil'] at hoA
      obtain ⟨hB, k, hk, rfl, hst⟩ := hI
      have hfacts := factsOf_mk (hB.facts hsh ho hall)
      obtain ⟨k', hk', hg, hst'⟩ : ∃ k', k' ≤ wr.length ∧ GoodS P mk a0 V i o (Ws k) (Ws k') ∧ ∀ j, j < wr.length → (listed.setIfInBounds i true).getD (wr.getD j 0) false = decide (j < k') := by
        by_cases hw : ∃ j, j < wr.length ∧ wr.getD j 0 = i
        · obtain ⟨j, hj, hji⟩ := hw
          have hnl : listed.getD (wr.getD j 0) false = false := by rw [hji]; exact getD_false hli
          have hjk : ¬ j < k := by
            intro h
            rw [hst j hj, decide_eq_true h] at hnl
            cases hnl
          have hkj : j = k := by
            rcases Nat.lt_or_ge k j with h | h
            · exfalso
              obtain ⟨j', rfl⟩ : ∃ j', j = j' + 1 := ⟨j - 1, by omega⟩
              have ha := hch j' o hj (by rw [hji]; exact ho)
              obtain ⟨e, he, hb, hon⟩ := after_spec ha
              have h2 := hall e he hb
              rw [hon, hst j' (by omega)] at h2
              have : j' < k := of_decide_eq_true h2
              omega
            · omega
          subst hkj
          refine ⟨j + 1, by omega, by rw [← hji]; exact hWr j o hj (by rw [hji]; exact ho), fun j2 hj2 => ?_⟩
          by_cases e : j2 = j
          · subst e
            rw [hji, getD_set_self hli]
            exact (decide_eq_true (by omega)).symm
          · rw [getD_set_ne false (fun h => e (hinj j2 j hj2 hj (by rw [← h, hji]))), hst j2 hj2]
            congr 1
            simp only [eq_iff_iff]; omega
        · have hne : ∀ j, j < wr.length → wr.getD j 0 ≠ i := fun j hj e => hw ⟨j, hj, e⟩
          exact ⟨k, hk, hG i o ho hne k hk, fun j hj => by rw [getD_set_ne false (hne j hj).symm, hst j hj]⟩
      have hg := hg a.eval hfacts
      have hgd := hgu i o ho
      have next : ∀ v w', w' = Ws k' ∧ V i v → wpAny P .any (init ++ [ol]).toArray Q fuel (listed.setIfInBounds i true) (a.put o.dst v) w' := fun v w' ⟨h1, h2⟩ => by
        subst h1
        refine ih _ _ _ (by simp [hs]) (count_set hli hc) (by rw [getD_set_ne true hil]; exact hl) ?_ ⟨hB.put hsh hn (fun _ _ _ _ _ h => h) (fun _ _ _ _ _ => trivial) ho hli trivial h2, k', hk', rfl, hst'⟩
        intro j oj hoj hlj e he hb
        have keep : ∀ x, listed.getD x false = true → (listed.setIfInBounds i true).getD x false = true := fun x hx => by
          by_cases e' : i = x
          · subst e'; exact absurd (getD_false2 hli) (by rw [hx]; simp)
          · rw [getD_set_ne false e']; exact hx
        by_cases e' : i = j
        · subst e'
          rw [hoA] at hoj; cases hoj
          exact keep _ (hall e he hb)
        · rw [getD_set_ne false e'] at hlj
          exact keep _ (hcl j oj hoj hlj e he hb)
      simp only [hgd] at hg
      simp only [Region.wanted, hgd, if_true]
      exact .inl (give_wp hg next)
end

/-- What is asked of a region's shape, a closed fact. -/
def stageLB (ops : List Oper) : Bool := match ops[ops.length - 1]? with
  | none => false
  | some o => decide (0 < ops.length) && o.guard.isNone && (ops.dropLast.all fun p => p.guard.isNone) && (o.after.all fun e => !(Region.binds .any e) || decide (e.on < ops.length - 1)) &&
    (List.range (ops.length - 1)).all fun i => afterB o i || (List.range (ops.length - 1)).any fun j => match ops[j]? with | none => false | some oj => afterB o j && afterB oj i

/-- THE LAW. -/
theorem wp_region_stagedL {P : Program} {ops : List Oper} {a0 : Act} {Q : Exit → Act → World → Prop} {id : Nat} {w : World} (mk : Tmp → Option Nat) (n : Nat) (wr : List Nat) (Ws : Nat → World) (Vs : List (Value → Prop)) (hne : ops ≠ []) (t : Tmp) (jx d : Nat) (hx : (ops.getLast hne).op = .assign (.tmp t)) (hd : (ops.getLast hne).dst = some d) (hj : (ops.dropLast[jx]?).map (·.dst) = some (some t))
    (hlen : Vs.length = ops.dropLast.length) (hm : P.follows .mixedOrders = true) (hsh : shapeB mk ops.dropLast n = true) (hn : a0.tmps.size = n) (hch : chainB ops.dropLast wr = true) (ho : onceB wr = true) (hL : stageLB ops = true) (hW0 : Ws 0 = w.drew)
    (hG : GoodSAll P mk a0 (fun i => Vs.getD i fun _ => True) wr Ws 0 ops.dropLast)
    (hQ : ∀ (vs : Nat → Value) (aP : Act), (∀ i, i < Vs.length → (Vs.getD i fun _ => True) (vs i)) → aP = putAll vs ops.dropLast 0 a0 → Q .normal (aP.put (some d) (vs jx)) (Ws wr.length)) :
    (Code.region id ops.toArray true).wp P Q a0 w := by
  have e : ops.dropLast ++ [ops.getLast hne] = ops := List.dropLast_concat_getLast hne
  generalize ops.getLast hne = ol at *
  generalize ops.dropLast = init at *
  subst e
  refine wp_region_any hm ?_
  have hidx : ∀ i, i < wr.length → wr.idxOf (wr.getD i 0) = i := fun i hi => by
    have := List.all_eq_true.1 ho i (List.mem_range.2 hi)
    simpa using this
  have hmem : ∀ i, i < wr.length → wr.contains (wr.getD i 0) = true := fun i hi => by
    rw [List.contains_iff_mem]; simp [List.getD_eq_getElem?_getD, hi]
  unfold stageLB at hL
  rw [show (init ++ [ol]).length - 1 = init.length by simp, show (init ++ [ol])[init.length]? = some ol by simp] at hL
  simp only [Bool.and_eq_true, List.all_eq_true, List.mem_range, Option.isNone_iff_eq_none, decide_eq_true_eq, List.dropLast_concat] at hL
  obtain ⟨⟨⟨⟨_, h2⟩, h3⟩, h4⟩, h5⟩ := hL
  have h := stagedL_any (P := P) (init := init) (ol := ol) (a0 := a0) (V := fun i => Vs.getD i fun _ => True) (Q := Q) (n := n) hsh hn wr Ws
    (fun i j hi hj e => by rw [← hidx i hi, e, hidx j hj])
    (fun j o hj hoj => by
      have := List.all_eq_true.1 hch (j + 1) (List.mem_range.2 hj)
      simp only [hoj] at this
      simpa using this)
    (fun i o hi => h3 o (List.mem_of_getElem? hi)) (.tmp t) hx h2
    (fun i hi => by
      have := h5 i hi
      rw [Bool.or_eq_true] at this
      rcases this with h | h
      · exact .inl h
      · obtain ⟨j, hj, h2⟩ := List.any_eq_true.1 h
        cases hoj : (init ++ [ol])[j]? with
        | none => rw [hoj] at h2; cases h2
        | some oj =>
          rw [hoj] at h2
          simp only [Bool.and_eq_true] at h2
          exact .inr ⟨j, oj, hoj, h2.1, h2.2⟩)
    (fun e he hb => by
      have := Array.all_eq_true_iff_forall_mem.1 h4 e he
      simpa [hb] using this)
    (fun i o hi hnw k hk => by
      have := hG.at i o hi
      rw [Nat.zero_add, if_neg (by
        intro hc
        have hi2 : i ∈ wr := by simpa using hc
        obtain ⟨j, hj, e⟩ := List.getElem_of_mem hi2
        exact hnw j hj (by simp [List.getD_eq_getElem?_getD, hj, e]))] at this
      exact this k hk)
    (fun k o hk hko => by
      have := hG.at _ o hko
      rw [Nat.zero_add, if_pos (hmem k hk), hidx k hk] at this
      exact this)
    (fun a w' listed hlist hI => by
      obtain ⟨hB, k, hk, rfl, hst⟩ := hI
      have hkw : k = wr.length := by
        rcases Nat.lt_or_ge k wr.length with h | h
        · exfalso
          have h1 := hst k h
          have hin : wr.getD k 0 < init.length := by
            have := List.all_eq_true.1 hch k (List.mem_range.2 h)
            rcases Nat.lt_or_ge (wr.getD k 0) init.length with h' | h'
            · exact h'
            · rw [List.getElem?_eq_none h'] at this; cases this
          rw [hlist _ hin] at h1
          simp at h1
        · omega
      subst hkw
      have hB' : Inv init a0 (fun _ _ => True) (fun j _ v => (Vs.getD j fun _ => True) v) (Ws 0) (Array.replicate init.length true) a (Ws wr.length) := by
        refine ⟨trivial, hB.defers, hB.size, fun t ht => ?_, fun i o hi _ => ?_⟩
        · refine hB.rest t fun i o hi hd => ?_
          have := ht i o hi hd
          have hlt : i < init.length := by
            rcases Nat.lt_or_ge i init.length with h' | h'
            · exact h'
            · simp [List.getElem?_eq_none h'] at hi
          simp [hlt] at this
        · have hlt : i < init.length := by
            rcases Nat.lt_or_ge i init.length with h' | h'
            · exact h'
            · simp [List.getElem?_eq_none h'] at hi
          exact hB.done i o hi (hlist i hlt)
      obtain ⟨vs, rfl, hv⟩ := hB'.whole hsh hn
      obtain ⟨oj, hoj, hdj⟩ := Option.map_eq_some_iff.1 hj
      have hs := shape_spec hsh hoj
      simp only [shapeOneB, hdj, Bool.and_eq_true, decide_eq_true_eq] at hs
      have he : (putAll vs init 0 a0).eval (.tmp t) = vs jx := by
        have := putAll_at vs t init 0 a0 jx oj hoj hdj (by rw [hn]; exact hs.1.2.2) (fun k' o' hk' hd' => shape_dst hsh hk' hoj hd' hdj)
        rw [Nat.zero_add] at this
        simp [Act.eval, this]
      rw [hd, he]
      exact hQ vs _ (fun i hi => hv i (by omega)) rfl)
    (init ++ [ol]).length (Array.replicate (init ++ [ol]).length false) a0 w.drew (by simp) (by
      have := Array.countP_le_size (p := (· == false)) (xs := Array.replicate (init ++ [ol]).length false)
      simpa using this) (by simp) (fun j oj hoj hl => by
        exfalso
        by_cases h : j < (init ++ [ol]).length
        · rw [Array.getD_eq_getD_getElem?, Array.getElem?_replicate, if_pos h] at hl; cases hl
        · rw [Array.getD_eq_getD_getElem?, Array.getElem?_replicate, if_neg h] at hl; cases hl)
    ⟨⟨trivial, rfl, rfl, fun _ _ => rfl, fun i o hi hl => by
        exfalso
        by_cases h : i < (init ++ [ol]).length
        · rw [Array.getD_eq_getD_getElem?, Array.getElem?_replicate, if_pos h] at hl; cases hl
        · rw [Array.getD_eq_getD_getElem?, Array.getElem?_replicate, if_neg h] at hl; cases hl⟩, 0, Nat.zero_le _, hW0.symm, fun j hj => by
        have hin : wr.getD j 0 < (init ++ [ol]).length := by
          have := List.all_eq_true.1 hch j (List.mem_range.2 hj)
          rcases Nat.lt_or_ge (wr.getD j 0) init.length with h' | h'
          · rw [List.length_append]; exact Nat.lt_of_lt_of_le h' (Nat.le_add_right _ _)
          · rw [List.getElem?_eq_none h'] at this; cases this
        rw [Array.getD_eq_getD_getElem?, Array.getElem?_replicate, if_pos hin]
        simp⟩
  simpa using h
end Go.Proofs.Ytmfciiccomagpaa
