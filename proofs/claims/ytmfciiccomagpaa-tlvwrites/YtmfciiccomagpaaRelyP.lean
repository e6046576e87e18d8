/- A law on regions that draw their order, in a round of a loop over an iterator: each operation has what it needs, what it leaves, and the one block that it may turn; what it needs and leaves is kept by every other one. No condition of its own. -/
import Derived.Test.YtmfciiccomagpaaRelyIn
namespace Go.Proofs.Ytmfciiccomagpaa
open Go

abbrev FactP := World → Value → (Operand → Value) → Prop

def factOfP (mk : Tmp → Option Nat) (a0 : Act) (V : Nat → FactP) (r : Operand → Value) (w : World) : Operand → Prop
  | .tmp t => match mk t with
    | some j => V j w (r (.tmp t)) r
    | none => r (.tmp t) = a0.eval (.tmp t)
  | .const c => r (.const c) = c
  | .global g => r (.global g) = .pointer (some ⟨g, 0, none⟩)
  | .func f => r (.func f) = .func (.func f) #[] #[]
def factsOfP (mk : Tmp → Option Nat) (a0 : Act) (V : Nat → FactP) (r : Operand → Value) (w : World) : List Operand → Prop
  | [] => True
  | x :: l => factOfP mk a0 V r w x ∧ factsOfP mk a0 V r w l
theorem factsOfP_mk {mk : Tmp → Option Nat} {a0 : Act} {V : Nat → FactP} {r : Operand → Value} {w : World} : ∀ {l : List Operand}, (∀ x ∈ l, factOfP mk a0 V r w x) → factsOfP mk a0 V r w l
  | [], _ => trivial
  | x :: _, h => ⟨h x (by simp), factsOfP_mk fun y hy => h y (by simp [hy])⟩

/-- What is owed for operation number i. i0, j0: the two operations of which A speaks. -/
def GoodP (P : Program) (mk : Tmp → Option Nat) (a0 : Act) (row : Nat → Option Nat) (U : Nat → World → Prop) (V : Nat → FactP) (i0 j0 : Nat) (A : Value → Value → Prop) (i : Nat) (o : Oper) : Prop :=
  o.guard = none ∧ ∀ (r : Operand → Value) (w : World), U i w → factsOfP mk a0 V r w o.op.operands.toList →
    give P (fun v w' => w.grownBy w' (row i) ∧ V i w' v r ∧ (i = i0 → ∀ v2 r2, V j0 w v2 r2 → A v v2) ∧ (i = j0 → ∀ v1 r1, V i0 w v1 r1 → A v1 v)) ((execOp r o).run P w)

structure InvP (ops : List Oper) (a0 : Act) (Rall : World → World → Prop) (U : Nat → World → Prop) (V : Nat → FactP) (i0 j0 : Nat) (d1 d2 : Tmp) (A : Value → Value → Prop) (w0 : World) (listed : Array Bool) (a : Act) (w : World) : Prop where
  rel : Rall w0 w
  defers : a.defers = a0.defers
  size : a.tmps.size = a0.tmps.size
  rest : ∀ t, (∀ (i : Nat) o, ops[i]? = some o → o.dst = some t → listed.getD i true = false) → a.tmps[t]? = a0.tmps[t]?
  pre : ∀ i, listed.getD i true = false → U i w
  done : ∀ (i : Nat) o, ops[i]? = some o → listed.getD i false = true → ∃ v, (∀ d, o.dst = some d → a.tmps[d]? = some v) ∧ V i w v a.eval
  deps : ∀ (i : Nat) o, ops[i]? = some o → listed.getD i false = true → ∀ e ∈ o.after, Region.binds .any e = true → listed.getD e.on false = true
  pair : listed.getD i0 false = true → listed.getD j0 false = true → ∀ v1 v2, a.tmps[d1]? = some v1 → a.tmps[d2]? = some v2 → A v1 v2

section
variable {P : Program} {mk : Tmp → Option Nat} {ops : List Oper} {a0 : Act} {Rall : World → World → Prop} {row : Nat → Option Nat} {U : Nat → World → Prop} {V : Nat → FactP} {i0 j0 : Nat} {d1 d2 : Tmp} {A : Value → Value → Prop} {w0 : World} {Q : Exit → Act → World → Prop} {n : Nat}

theorem eval_tmp (a : Act) (t : Tmp) (v : Value) (h : a.tmps[t]? = some v) : a.eval (.tmp t) = v := by
  simp [Act.eval, h]

/-- An operand of a listed operation is not filled by one that is not. -/
theorem operand_apart (hsh : shapeB mk ops n = true) {listed : Array Bool} {i j : Nat} {oi oj : Oper} (hi : ops[i]? = some oi) (hj : ops[j]? = some oj) (hli : listed.getD i true = false)
    (hdeps : ∀ e ∈ oj.after, Region.binds .any e = true → listed.getD e.on false = true) : ∀ x ∈ oj.op.operands.toList, ∀ d, oi.dst = some d → x ≠ .tmp d := by
  intro x hx d hd e
  subst e
  have hsi := shape_spec hsh hi
  have hsj := shape_spec hsh hj
  simp only [shapeOneB, hd, Bool.and_eq_true, beq_iff_eq] at hsi
  have hmk := hsi.1.2.1
  simp only [shapeOneB, Bool.and_eq_true, List.all_eq_true] at hsj
  have h2 := hsj.1.1.1.2 _ hx
  simp only [Bool.and_eq_true, beq_iff_eq] at h2
  rw [hmk] at h2
  obtain ⟨e, he, hb, hon⟩ := after_spec h2.2
  have := hdeps e he hb
  rw [hon] at this
  have hlt : i < listed.size := by
    rcases Nat.lt_or_ge i listed.size with h | h
    · exact h
    · simp [Array.getElem?_eq_none h] at hli
  simp [hlt] at hli this
  rw [hli] at this
  cases this

theorem InvP.facts (hsh : shapeB mk ops n = true) {listed : Array Bool} {a : Act} {w : World} (hI : InvP ops a0 Rall U V i0 j0 d1 d2 A w0 listed a w) {i : Nat} {o : Oper} (ho : ops[i]? = some o)
    (hall : ∀ e ∈ o.after, Region.binds .any e = true → listed.getD e.on false = true) : ∀ x ∈ o.op.operands.toList, factOfP mk a0 V a.eval w x := by
  intro x hx
  have hs := shape_spec hsh ho
  simp only [shapeOneB, Bool.and_eq_true, List.all_eq_true] at hs
  have h2 := hs.1.1.1.2 x hx
  cases x with
  | tmp t =>
    simp only [factOfP]
    simp only [Bool.and_eq_true, beq_iff_eq] at h2
    rw [← h2.1]
    cases hm : maker ops t with
    | none =>
      simp only [Act.eval]
      have := hI.rest t fun j o' hj hd' => absurd hd' (maker_none hm hj)
      simp [this]
    | some j =>
      simp only [hm] at h2
      obtain ⟨e, he, hb, rfl⟩ := after_spec h2.2
      obtain ⟨o', hj, hd'⟩ := maker_some hm
      obtain ⟨v, h3, h4⟩ := hI.done _ o' hj (hall e he hb)
      have := h3 t hd'
      simp only []
      rw [eval_tmp a t v this]
      exact h4
  | const c => rfl
  | global g => rfl
  | func f => rfl

theorem InvP.put (hsh : shapeB mk ops n = true) (hn : a0.tmps.size = n) (hF : ∀ (j : Nat) oj w v ρ ρ', ops[j]? = some oj → (∀ x ∈ oj.op.operands.toList, ρ x = ρ' x) → V j w v ρ → V j w v ρ')
    (hT : ∀ a b c, Rall a b → Rall b c → Rall a c) (hRa : ∀ i w w', w.grownBy w' (row i) → Rall w w')
    (hU : ∀ i j oj w w', ops[j]? = some oj → afterB oj i = false → i ≠ j → w.grownBy w' (row j) → U i w → U i w') (hV : ∀ i j w w' v ρ, i ≠ j → w.grownBy w' (row j) → V i w v ρ → V i w' v ρ)
    (hd1 : (ops[i0]?).bind (·.dst) = some d1) (hd2 : (ops[j0]?).bind (·.dst) = some d2) (hij : i0 ≠ j0)
    {listed : Array Bool} {a : Act} {w w' : World} (hI : InvP ops a0 Rall U V i0 j0 d1 d2 A w0 listed a w) {i : Nat} {o : Oper} (ho : ops[i]? = some o) (hl : listed.getD i true = false)
    (hall : ∀ e ∈ o.after, Region.binds .any e = true → listed.getD e.on false = true) {v : Value} (hR : w.grownBy w' (row i)) (hv : V i w' v a.eval)
    (hA1 : i = i0 → ∀ v2 r2, V j0 w v2 r2 → A v v2) (hA2 : i = j0 → ∀ v1 r1, V i0 w v1 r1 → A v1 v) :
    InvP ops a0 Rall U V i0 j0 d1 d2 A w0 (listed.setIfInBounds i true) (a.put o.dst v) w' := by
  have hlt : i < listed.size := by
    rcases Nat.lt_or_ge i listed.size with h | h
    · exact h
    · simp [Array.getElem?_eq_none h] at hl
  have hs := shape_spec hsh ho
  have hslot : ∀ (j : Nat) oj, ops[j]? = some oj → j ≠ i → ∀ d, oj.dst = some d → (a.put o.dst v).tmps[d]? = a.tmps[d]? := by
    intro j oj hj hji d hd
    cases hd' : o.dst with
    | none => simp [Act.put]
    | some d' =>
      have hne : d' ≠ d := by
        rintro rfl
        exact hji (shape_dst hsh hj ho hd hd')
      simp [Act.put, Array.getElem?_setIfInBounds_ne hne]
  have hown : ∀ d, o.dst = some d → (a.put o.dst v).tmps[d]? = some v := by
    intro d hd
    have hdn : d < n := by
      simp only [shapeOneB, hd, Bool.and_eq_true, decide_eq_true_eq] at hs
      exact hs.1.2.2
    have : d < a.tmps.size := by rw [hI.size, hn]; exact hdn
    simp [Act.put, hd, this]
  have heval : ∀ (j : Nat) oj, ops[j]? = some oj → (∀ e ∈ oj.after, Region.binds .any e = true → listed.getD e.on false = true) → ∀ x ∈ oj.op.operands.toList, a.eval x = (a.put o.dst v).eval x := fun j oj hj hdep x hx =>
    (Act.eval_put (fun d hd => operand_apart hsh ho hj hl hdep x hx d hd)).symm
  refine ⟨hT _ _ _ hI.rel (hRa _ _ _ hR), ?_, ?_, ?_, ?_, ?_, ?_, ?_⟩
  · cases hd : o.dst <;> simp [Act.put, hI.defers]
  · cases hd : o.dst <;> simp [Act.put, hI.size]
  · intro t ht
    have h1 : a.tmps[t]? = a0.tmps[t]? := hI.rest t fun j o' hj hd' => by
      have := ht j o' hj hd'
      by_cases hij : i = j
      · subst hij; simp [hlt] at this
      · rw [getD_set_ne true hij] at this; exact this
    cases hd : o.dst with
    | none => simpa [Act.put] using h1
    | some d =>
      have hne : d ≠ t := by
        rintro rfl
        have := ht i o ho hd
        simp [hlt] at this
      simpa [Act.put, Array.getElem?_setIfInBounds_ne hne] using h1
  · intro j hj
    have hji : j ≠ i := by rintro rfl; simp [hlt] at hj
    rw [getD_set_ne true (Ne.symm hji)] at hj
    have haf : afterB o j = false := by
      cases h : afterB o j with
      | false => rfl
      | true =>
        exfalso
        obtain ⟨e, he, hb, hon⟩ := after_spec h
        have h2 := hall e he hb
        rw [hon] at h2
        have hlt2 : j < listed.size := by
          rcases Nat.lt_or_ge j listed.size with h | h
          · exact h
          · simp [Array.getElem?_eq_none h] at hj
        simp [hlt2] at hj h2
        rw [hj] at h2
        cases h2
    exact hU j i o _ _ ho haf hji hR (hI.pre j hj)
  · intro j oj hj hlj
    by_cases hji : j = i
    · subst hji
      rw [ho] at hj; cases hj
      exact ⟨v, hown, hF j o _ _ _ _ ho (heval j o ho hall) hv⟩
    · have hlj' : listed.getD j false = true := by
        rw [getD_set_ne false (Ne.symm hji)] at hlj; exact hlj
      obtain ⟨v', h1, h2⟩ := hI.done j oj hj hlj'
      refine ⟨v', fun d hd => (hslot j oj hj hji d hd).trans (h1 d hd), ?_⟩
      exact hF j oj _ _ _ _ hj (heval j oj hj (hI.deps j oj hj hlj')) (hV j i _ _ _ _ hji hR h2)
  · intro j oj hj hlj e he hb
    by_cases hji : j = i
    · subst hji
      rw [ho] at hj; cases hj
      exact getD_set_true (hall e he hb)
    · have hlj' : listed.getD j false = true := by
        rw [getD_set_ne false (Ne.symm hji)] at hlj; exact hlj
      exact getD_set_true (hI.deps j oj hj hlj' e he hb)
  · intro h1 h2 v1 v2 e1 e2
    obtain ⟨oi0, hoi, hdi⟩ := Option.bind_eq_some_iff.1 hd1
    obtain ⟨oj0, hoj, hdj⟩ := Option.bind_eq_some_iff.1 hd2
    by_cases c1 : i = i0
    · subst c1
      rw [ho] at hoi; cases hoi
      rw [hown d1 hdi] at e1; cases e1
      have hlj : listed.getD j0 false = true := by rw [getD_set_ne false hij] at h2; exact h2
      obtain ⟨v', k1, k2⟩ := hI.done j0 oj0 hoj hlj
      rw [hslot j0 oj0 hoj (Ne.symm hij) d2 hdj, k1 d2 hdj] at e2; cases e2
      exact hA1 rfl _ _ k2
    · by_cases c2 : i = j0
      · subst c2
        rw [ho] at hoj; cases hoj
        rw [hown d2 hdj] at e2; cases e2
        have hli : listed.getD i0 false = true := by rw [getD_set_ne false c1] at h1; exact h1
        obtain ⟨v', k1, k2⟩ := hI.done i0 oi0 hoi hli
        rw [hslot i0 oi0 hoi (Ne.symm c1) d1 hdi, k1 d1 hdi] at e1; cases e1
        exact hA2 rfl _ _ k2
      · rw [getD_set_ne false c1] at h1
        rw [getD_set_ne false c2] at h2
        rw [hslot i0 oi0 hoi (Ne.symm c1) d1 hdi] at e1
        rw [hslot j0 oj0 hoj (Ne.symm c2) d2 hdj] at e2
        exact hI.pair h1 h2 v1 v2 e1 e2

theorem relyP_any (y q : Nat) (hnd : noDeferB ops = true) (hsh : shapeB mk ops n = true) (hn : a0.tmps.size = n) (hF : ∀ (j : Nat) oj w v ρ ρ', ops[j]? = some oj → (∀ x ∈ oj.op.operands.toList, ρ x = ρ' x) → V j w v ρ → V j w v ρ')
    (hT : ∀ a b c, Rall a b → Rall b c → Rall a c) (hRa : ∀ i w w', w.grownBy w' (row i) → Rall w w')
    (hU : ∀ i j oj w w', ops[j]? = some oj → afterB oj i = false → i ≠ j → w.grownBy w' (row j) → U i w → U i w') (hV : ∀ i j w w' v ρ, i ≠ j → w.grownBy w' (row j) → V i w v ρ → V i w' v ρ)
    (hd1 : (ops[i0]?).bind (·.dst) = some d1) (hd2 : (ops[j0]?).bind (·.dst) = some d2) (hij : i0 ≠ j0)
    (hG : ∀ i o, ops[i]? = some o → GoodP P mk a0 row U V i0 j0 A i o)
    (hQ : ∀ a w, (∀ listed, InvP ops a0 Rall U V i0 j0 d1 d2 A w0 (Array.replicate ops.length listed) a w → listed = true → Q .normal a w)) :
    ∀ (fuel : Nat) (listed : Array Bool) (a : Act) (w : World), listed.size = ops.length → listed.countP (· == false) ≤ fuel → InvP ops a0 Rall U V i0 j0 d1 d2 A w0 listed a w → wpAnyIn (Fence.wide.inRound y) q P .any ops.toArray Q fuel listed a w := by
  have ready_nil : ∀ (listed : Array Bool), listed.size = ops.length → Region.ready .any ops.toArray listed = [] → listed = Array.replicate ops.length true := by
    intro listed hs hr
    have key : ∀ i, i < ops.length → listed.getD i false = true := by
      intro i
      induction i using Nat.strongRecOn with
      | _ i ih =>
        intro hi
        cases hb : listed.getD i false with
        | true => rfl
        | false =>
          exfalso
          have ho : ops[i]? = some ops[i] := by simp [hi]
          have : i ∈ Region.ready .any ops.toArray listed := by
            rw [mem_ready]
            refine ⟨by simpa [hs, hi] using hb, ops[i], by simp [hi], fun e he hbi => ?_⟩
            have hsp := shape_spec hsh ho
            simp only [shapeOneB, Bool.and_eq_true] at hsp
            have h5 := Array.all_eq_true_iff_forall_mem.1 hsp.2 e he
            simp [hbi] at h5
            exact ih e.on h5 (by omega)
          rw [hr] at this
          cases this
    apply Array.ext
    · simp [hs]
    · intro i h1 h2
      have := key i (by omega)
      simpa [h1] using this
  have fin : ∀ (listed : Array Bool) (a : Act) (w : World), listed.size = ops.length → InvP ops a0 Rall U V i0 j0 d1 d2 A w0 listed a w → Region.ready .any ops.toArray listed = [] → Q .normal a w := by
    intro listed a w hs hI hr
    have := ready_nil listed hs hr
    subst this
    exact hQ a w true hI rfl
  intro fuel
  induction fuel with
  | zero =>
    intro listed a w hs hc hI
    have hr : Region.ready .any ops.toArray listed = [] := by
      cases hr : Region.ready .any ops.toArray listed with
      | nil => rfl
      | cons j js =>
        exfalso
        have hj : j ∈ Region.ready .any ops.toArray listed := by rw [hr]; simp
        have h0 := (mem_ready.1 hj).1
        have hlt : j < listed.size := by
          rcases Nat.lt_or_ge j listed.size with h | h
          · exact h
          · simp [Array.getElem?_eq_none h] at h0
        have h1 : listed.countP (· == false) = 0 := by omega
        rw [Array.countP_eq_zero] at h1
        have h2 : listed[j] = false := by simpa [hlt] using h0
        have := h1 listed[j] (Array.getElem_mem hlt)
        simp [h2] at this
    exact ⟨hr, fin listed a w hs hI hr⟩
  | succ fuel ih =>
    intro listed a w hs hc hI
    refine ⟨fin listed a w hs hI, fun i hi => ?_⟩
    obtain ⟨hl, o, ho', hall⟩ := mem_ready.1 hi
    have ho : ops[i]? = some o := by simpa using ho'
    obtain ⟨hgd, hg⟩ := hG i o ho
    have hg := hg a.eval w (hI.pre i hl) (factsOfP_mk (hI.facts hsh ho hall))
    unfold wpOpIn
    simp only [ho']
    simp only [Region.wanted, hgd, if_true]
    exact give_wpIn y hg (noDefer_spec hnd ho) fun v w' ⟨h1, h2, h3, h4⟩ =>
      ih _ _ _ (by simp [hs]) (count_set hl hc) (hI.put hsh hn hF hT hRa hU hV hd1 hd2 hij ho hl hall h1 h2 h3 h4)

def GoodPAll (P : Program) (mk : Tmp → Option Nat) (a0 : Act) (row : Nat → Option Nat) (U : Nat → World → Prop) (V : Nat → FactP) (i0 j0 : Nat) (A : Value → Value → Prop) : Nat → List Oper → Prop
  | _, [] => True
  | i, o :: l => GoodP P mk a0 row U V i0 j0 A i o ∧ GoodPAll P mk a0 row U V i0 j0 A (i + 1) l
theorem GoodPAll.at {P : Program} {mk : Tmp → Option Nat} {a0 : Act} {row : Nat → Option Nat} {U : Nat → World → Prop} {V : Nat → FactP} {i0 j0 : Nat} {A : Value → Value → Prop} : ∀ {ops : List Oper} {k : Nat}, GoodPAll P mk a0 row U V i0 j0 A k ops → ∀ i o, ops[i]? = some o → GoodP P mk a0 row U V i0 j0 A (k + i) o
  | [], _, _, i, o, ho => by simp at ho
  | _ :: _, k, h, 0, o, ho => by simp at ho; subst ho; exact h.1
  | _ :: l, k, h, i + 1, o, ho => by
    have := GoodPAll.at (ops := l) h.2 i o (by simpa using ho)
    rwa [show k + 1 + i = k + (i + 1) by omega] at this
/-- THE LAW. -/
theorem wpIn_region_pair (y q : Nat) {id : Nat} {w : World} (mk : Tmp → Option Nat) (n : Nat) (row : Nat → Option Nat) (Rall : World → World → Prop) (U : Nat → World → Prop) (V : Nat → FactP) (i0 j0 : Nat) (d1 d2 : Tmp) (A : Value → Value → Prop)
    (hm : P.follows .mixedOrders = true) (hsh : shapeB mk ops n = true) (hnd : noDeferB ops = true) (hn : a0.tmps.size = n)
    (hF : ∀ (j : Nat) oj w v ρ ρ', ops[j]? = some oj → (∀ x ∈ oj.op.operands.toList, ρ x = ρ' x) → V j w v ρ → V j w v ρ')
    (hRf : ∀ w, Rall w w) (hT : ∀ a b c, Rall a b → Rall b c → Rall a c) (hRa : ∀ i w w', w.grownBy w' (row i) → Rall w w')
    (hU0 : ∀ i, U i w.drew) (hU : ∀ i j oj w w', ops[j]? = some oj → afterB oj i = false → i ≠ j → w.grownBy w' (row j) → U i w → U i w') (hV : ∀ i j w w' v ρ, i ≠ j → w.grownBy w' (row j) → V i w v ρ → V i w' v ρ)
    (hd1 : (ops[i0]?).bind (·.dst) = some d1) (hd2 : (ops[j0]?).bind (·.dst) = some d2) (hij : i0 ≠ j0)
    (hG : GoodPAll P mk a0 row U V i0 j0 A 0 ops)
    (hQ : ∀ (vs : Nat → Value) (w' : World) (a' : Act), Rall w.drew w' → (∀ i, i < ops.length → V i w' (vs i) a'.eval) → (∀ v1 v2, a'.tmps[d1]? = some v1 → a'.tmps[d2]? = some v2 → A v1 v2) → a' = putAll vs ops 0 a0 → Q .normal a' w') :
    (Code.region id ops.toArray true).wpIn (Fence.wide.inRound y) q P Q a0 w := by
  refine wpIn_region_any hm ?_
  have hi0 : i0 < ops.length := by
    rcases Nat.lt_or_ge i0 ops.length with h | h
    · exact h
    · simp [List.getElem?_eq_none h] at hd1
  have hj0 : j0 < ops.length := by
    rcases Nat.lt_or_ge j0 ops.length with h | h
    · exact h
    · simp [List.getElem?_eq_none h] at hd2
  have h := relyP_any (P := P) (ops := ops) (a0 := a0) (Rall := Rall) (U := U) (V := V) (A := A) (w0 := w.drew) (Q := Q) (n := n) (mk := mk) y q hnd hsh hn hF hT hRa hU hV hd1 hd2 hij (fun i o ho => by have := hG.at i o ho; rwa [Nat.zero_add] at this)
    (fun a w' l hI hl => by
      subst hl
      have hI2 : Inv ops a0 (fun _ _ => True) (fun i x v => V i x v a.eval) w.drew (Array.replicate ops.length true) a w' := ⟨trivial, hI.defers, hI.size, hI.rest, hI.done⟩
      obtain ⟨vs, ha, h⟩ := hI2.whole hsh hn
      exact hQ vs w' a hI.rel h (hI.pair (by simp [hi0]) (by simp [hj0])) ha)
    ops.length (Array.replicate ops.length false) a0 w.drew (by simp) (by
      have := Array.countP_le_size (p := (· == false)) (xs := Array.replicate ops.length false)
      simpa using this) ⟨hRf _, rfl, rfl, fun _ _ => rfl, fun i _ => hU0 i, fun i o hi hl => by
        exfalso
        by_cases h : i < ops.length <;> simp [h] at hl, fun i o hi hl => by
        exfalso
        by_cases h : i < ops.length <;> simp [h] at hl, fun h1 => by
        exfalso
        simp [hi0] at h1⟩
  simpa using h
end
end Go.Proofs.Ytmfciiccomagpaa
