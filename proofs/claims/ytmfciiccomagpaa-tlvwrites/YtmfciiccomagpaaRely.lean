/- A law on regions that draw their order: one fact per operation, kept by whatever comes later, serves every order. No condition of its own. -/
import Derived.Orders
import Derived.Laws.World
import Derived.Tactics
namespace Go.Proofs.Ytmfciiccomagpaa
open Go

/-- Which operation fills slot t. -/
def maker (ops : List Oper) (t : Tmp) : Option Nat := ops.findIdx? fun o => o.dst == some t

/-- What is known of an operand: a slot that the region fills: its maker's fact; any other: what it held. -/
def factOf (mk : Tmp → Option Nat) (a0 : Act) (V : Nat → World → Value → Prop) (r : Operand → Value) (w : World) : Operand → Prop
  | .tmp t => match mk t with
    | some j => V j w (r (.tmp t))
    | none => r (.tmp t) = a0.eval (.tmp t)
  | .const c => r (.const c) = c
  | .global g => r (.global g) = .pointer (some ⟨g, 0, none⟩)
  | .func f => r (.func f) = .func (.func f) #[] #[]

def factsOf (mk : Tmp → Option Nat) (a0 : Act) (V : Nat → World → Value → Prop) (r : Operand → Value) (w : World) : List Operand → Prop
  | [] => True
  | x :: l => factOf mk a0 V r w x ∧ factsOf mk a0 V r w l
theorem factsOf_mk {mk : Tmp → Option Nat} {a0 : Act} {V : Nat → World → Value → Prop} {r : Operand → Value} {w : World} : ∀ {l : List Operand}, (∀ x ∈ l, factOf mk a0 V r w x) → factsOf mk a0 V r w l
  | [], _ => trivial
  | x :: _, h => ⟨h x (by simp), factsOf_mk fun y hy => h y (by simp [hy])⟩

/-- One operation carried out: it yields a value. -/
def give (P : Program) (K : Value → World → Prop) : Result Next → Prop
  | .ok (.value v) w' => K v w'
  | .ok .skip w' => K undef w'
  | .ok (.enter f args) w' => Calls P f args w' fun e w'' => ∃ v, e = .returned v ∧ K v w''
  | _ => False

def asBool : Value → Option Bool
  | .bool b => some b
  | _ => none

/-- What is owed for operation number i. -/
def Good (P : Program) (mk : Tmp → Option Nat) (a0 : Act) (R : World → World → Prop) (V : Nat → World → Value → Prop) (w0 : World) (i : Nat) (o : Oper) : Prop :=
  ∀ (r : Operand → Value) (w : World), R w0 w → factsOf mk a0 V r w o.op.operands.toList →
    match o.guard with
    | none => give P (fun v w' => R w w' ∧ V i w' v) ((execOp r o).run P w)
    | some (g, want) => ∀ b, V g w b → if asBool b == some want then give P (fun v w' => R w w' ∧ V i w' v) ((execOp r o).run P w) else V i w undef

def afterB (o : Oper) (j : Nat) : Bool := o.after.any fun e => Region.binds .any e && e.on == j

def shapeOneB (mk : Tmp → Option Nat) (ops : List Oper) (n : Nat) (i : Nat) (o : Oper) : Bool :=
  (match o.op with | .select .. => false | _ => true) &&
  (o.op.operands.toList.all fun x => match x with
    | .tmp t => maker ops t == mk t && (match maker ops t with | some j => afterB o j | none => true)
    | _ => true) &&
  (match o.guard with
    | none => true
    | some (g, _) => afterB o g && ((ops[g]?).bind (·.dst)).isSome) &&
  (match o.dst with
    | none => true
    | some d => maker ops d == some i && decide (d < n)) &&
  o.after.all fun e => !(Region.binds .any e) || decide (e.on < i)

/-- The region's shape, a closed fact. -/
def shapeB (mk : Tmp → Option Nat) (ops : List Oper) (n : Nat) : Bool := (List.range ops.length).all fun i => match ops[i]? with
  | none => true
  | some o => shapeOneB mk ops n i o

def putAll (vs : Nat → Value) : List Oper → Nat → Act → Act
  | [], _, a => a
  | o :: l, i, a => putAll vs l (i + 1) (a.put o.dst (vs i))

structure Inv (ops : List Oper) (a0 : Act) (R : World → World → Prop) (V : Nat → World → Value → Prop) (w0 : World) (listed : Array Bool) (a : Act) (w : World) : Prop where
  rel : R w0 w
  defers : a.defers = a0.defers
  size : a.tmps.size = a0.tmps.size
  rest : ∀ t, (∀ (i : Nat) o, ops[i]? = some o → o.dst = some t → listed.getD i true = false) → a.tmps[t]? = a0.tmps[t]?
  done : ∀ (i : Nat) o, ops[i]? = some o → listed.getD i false = true → ∃ v, (∀ d, o.dst = some d → a.tmps[d]? = some v) ∧ V i w v

theorem maker_some {ops : List Oper} {t : Tmp} {j : Nat} (h : maker ops t = some j) : ∃ o, ops[j]? = some o ∧ o.dst = some t := by
  unfold maker at h
  rw [List.findIdx?_eq_some_iff_getElem] at h
  obtain ⟨hj, h1, _⟩ := h
  exact ⟨ops[j], by simp [hj], by simpa using h1⟩

theorem maker_none {ops : List Oper} {t : Tmp} (h : maker ops t = none) {i : Nat} {o : Oper} (ho : ops[i]? = some o) : o.dst ≠ some t := by
  unfold maker at h
  rw [List.findIdx?_eq_none_iff] at h
  have := h o (List.mem_of_getElem? ho)
  simpa using this

theorem shape_spec {mk : Tmp → Option Nat} {ops : List Oper} {n : Nat} (h : shapeB mk ops n = true) {i : Nat} {o : Oper} (ho : ops[i]? = some o) : shapeOneB mk ops n i o = true := by
  unfold shapeB at h
  rw [List.all_eq_true] at h
  have hi : i < ops.length := by
    rcases Nat.lt_or_ge i ops.length with h' | h'
    · exact h'
    · simp [List.getElem?_eq_none h'] at ho
  have := h i (List.mem_range.2 hi)
  simpa [ho] using this

section
variable {P : Program} {mk : Tmp → Option Nat} {ops : List Oper} {a0 : Act} {R : World → World → Prop} {V : Nat → World → Value → Prop} {w0 : World} {Q : Exit → Act → World → Prop} {n : Nat}

theorem shape_dst (h : shapeB mk ops n = true) {i j : Nat} {o o' : Oper} {d : Tmp} (hi : ops[i]? = some o) (hj : ops[j]? = some o') (h1 : o.dst = some d) (h2 : o'.dst = some d) : i = j := by
  have a1 := shape_spec h hi
  have a2 := shape_spec h hj
  simp only [shapeOneB, h1, h2, Bool.and_eq_true, beq_iff_eq] at a1 a2
  have e := a1.1.2.1.symm.trans a2.1.2.1
  exact Option.some.inj e

theorem after_spec {o : Oper} {j : Nat} (h : afterB o j = true) : ∃ e ∈ o.after, Region.binds .any e = true ∧ e.on = j := by
  unfold afterB at h
  obtain ⟨e, he, hb⟩ := Array.any_eq_true'.1 h
  simp only [Bool.and_eq_true, beq_iff_eq] at hb
  exact ⟨e, he, hb.1, hb.2⟩

theorem Inv.put (hsh : shapeB mk ops n = true) (hn : a0.tmps.size = n) (hV : ∀ i w w' v, R w w' → V i w v → V i w' v) (hT : ∀ a b c, R a b → R b c → R a c)
    {listed : Array Bool} {a : Act} {w w' : World} (hI : Inv ops a0 R V w0 listed a w) {i : Nat} {o : Oper} (ho : ops[i]? = some o) (hl : listed.getD i true = false) {v : Value} (hR : R w w') (hv : V i w' v) :
    Inv ops a0 R V w0 (listed.setIfInBounds i true) (a.put o.dst v) w' := by
  have hlt : i < listed.size := by
    rcases Nat.lt_or_ge i listed.size with h | h
    · exact h
    · simp [Array.getElem?_eq_none h] at hl
  have hs := shape_spec hsh ho
  refine ⟨hT _ _ _ hI.rel hR, ?_, ?_, ?_, ?_⟩
  · cases hd : o.dst <;> simp [Act.put, hI.defers]
  · cases hd : o.dst <;> simp [Act.put, hI.size]
  · intro t ht
    have h1 : a.tmps[t]? = a0.tmps[t]? := hI.rest t fun j o' hj hd' => by
      have := ht j o' hj hd'
      by_cases hij : i = j
      · subst hij; simp [hlt] at this
      · rw [getD_set_ne true hij] at this; exact this
    cases hd : o.dst with
    | none => simpa [Act.put] using h1
    | some d =>
      have hne : d ≠ t := by
        rintro rfl
        have := ht i o ho hd
        simp [hlt] at this
      simpa [Act.put, Array.getElem?_setIfInBounds_ne hne] using h1
  · intro j o' hj hlj
    by_cases hij : i = j
    · subst hij
      rw [ho] at hj; cases hj
      refine ⟨v, fun d hd => ?_, hv⟩
      have hdn : d < n := by
        simp only [shapeOneB, hd, Bool.and_eq_true, decide_eq_true_eq] at hs
        exact hs.1.2.2
      have : d < a.tmps.size := by rw [hI.size, hn]; exact hdn
      simp [Act.put, hd, this]
    · have hlj' : listed.getD j false = true := by
        rw [getD_set_ne false hij] at hlj; exact hlj
      obtain ⟨v', h1, h2⟩ := hI.done j o' hj hlj'
      refine ⟨v', fun d hd => ?_, hV _ _ _ _ hR h2⟩
      have h3 := h1 d hd
      cases hd' : o.dst with
      | none => simpa [Act.put] using h3
      | some d' =>
        have hne : d' ≠ d := by
          rintro rfl
          exact hij (shape_dst hsh ho hj hd' hd)
        simpa [Act.put, Array.getElem?_setIfInBounds_ne hne] using h3

theorem Inv.facts (hsh : shapeB mk ops n = true) {listed : Array Bool} {a : Act} {w : World} (hI : Inv ops a0 R V w0 listed a w) {i : Nat} {o : Oper} (ho : ops[i]? = some o)
    (hall : ∀ e ∈ o.after, Region.binds .any e = true → listed.getD e.on false = true) : ∀ x ∈ o.op.operands.toList, factOf mk a0 V a.eval w x := by
  intro x hx
  have hs := shape_spec hsh ho
  simp only [shapeOneB, Bool.and_eq_true, List.all_eq_true] at hs
  have h2 := hs.1.1.1.2 x hx
  cases x with
  | tmp t =>
    simp only [factOf]
    simp only [Bool.and_eq_true, beq_iff_eq] at h2
    rw [← h2.1]
    cases hm : maker ops t with
    | none =>
      simp only [Act.eval]
      have := hI.rest t fun j o' hj hd' => absurd hd' (maker_none hm hj)
      simp [this]
    | some j =>
      simp only [hm] at h2
      obtain ⟨e, he, hb, rfl⟩ := after_spec h2.2
      obtain ⟨o', hj, hd'⟩ := maker_some hm
      obtain ⟨v, h3, h4⟩ := hI.done _ o' hj (hall e he hb)
      have := h3 t hd'
      simp only [Act.eval]
      simpa [this] using h4
  | const c => rfl
  | global g => rfl
  | func f => rfl

theorem count_set {l : Array Bool} {i : Nat} {fuel : Nat} (hl : l.getD i true = false) (hc : l.countP (· == false) ≤ fuel + 1) : (l.setIfInBounds i true).countP (· == false) ≤ fuel := by
  have hlt : i < l.size := by
    rcases Nat.lt_or_ge i l.size with h | h
    · exact h
    · simp [Array.getElem?_eq_none h] at hl
  have hf : l[i] = false := by simpa [hlt] using hl
  simp only [Array.setIfInBounds, hlt, ↓reduceDIte]
  rw [Array.countP_set]
  rw [hf]
  show _ - 1 + 0 ≤ fuel
  omega

theorem give_wp {o : Oper} {a : Act} {w : World} {K : Value → World → Prop} {next : Act → World → Prop} (h : give P K ((execOp a.eval o).run P w)) (hk : ∀ v w', K v w' → next (a.put o.dst v) w') : o.wp P a w next Q := by
  unfold Oper.wp
  generalize (execOp a.eval o).run P w = r at *
  cases r with
  | ok x w' =>
    cases x <;> simp only [give] at h <;> simp only [Oper.upon]
    case value v => exact hk _ _ h
    case skip => exact hk _ _ h
    case enter f args =>
      refine Calls.mono h fun e w'' ⟨v, he, hv⟩ => ?_
      subst he
      exact hk _ _ hv
  | halt x w' => simp [give] at h

theorem rely_any (hsh : shapeB mk ops n = true) (hn : a0.tmps.size = n) (hV : ∀ i w w' v, R w w' → V i w v → V i w' v) (hT : ∀ a b c, R a b → R b c → R a c) (hRf : ∀ w, R w w)
    (hG : ∀ i o, ops[i]? = some o → Good P mk a0 R V w0 i o)
    (hQ : ∀ a w, (∀ listed, Inv ops a0 R V w0 (Array.replicate ops.length listed) a w → listed = true → Q .normal a w)) :
    ∀ (fuel : Nat) (listed : Array Bool) (a : Act) (w : World), listed.size = ops.length → listed.countP (· == false) ≤ fuel → Inv ops a0 R V w0 listed a w → wpAny P .any ops.toArray Q fuel listed a w := by
  have ready_nil : ∀ (listed : Array Bool), listed.size = ops.length → Region.ready .any ops.toArray listed = [] → listed = Array.replicate ops.length true := by
    intro listed hs hr
    have key : ∀ i, i < ops.length → listed.getD i false = true := by
      intro i
      induction i using Nat.strongRecOn with
      | _ i ih =>
        intro hi
        cases hb : listed.getD i false with
        | true => rfl
        | false =>
          exfalso
          have ho : ops[i]? = some ops[i] := by simp [hi]
          have : i ∈ Region.ready .any ops.toArray listed := by
            rw [mem_ready]
            refine ⟨by simpa [hs, hi] using hb, ops[i], by simp [hi], fun e he hbi => ?_⟩
            have hsp := shape_spec hsh ho
            simp only [shapeOneB, Bool.and_eq_true] at hsp
            have h5 := Array.all_eq_true_iff_forall_mem.1 hsp.2 e he
            simp [hbi] at h5
            exact ih e.on h5 (by omega)
          rw [hr] at this
          cases this
    apply Array.ext
    · simp [hs]
    · intro i h1 h2
      have := key i (by omega)
      simpa [h1] using this
  have fin : ∀ (listed : Array Bool) (a : Act) (w : World), listed.size = ops.length → Inv ops a0 R V w0 listed a w → Region.ready .any ops.toArray listed = [] → Q .normal a w := by
    intro listed a w hs hI hr
    have := ready_nil listed hs hr
    subst this
    exact hQ a w true hI rfl
  intro fuel
  induction fuel with
  | zero =>
    intro listed a w hs hc hI
    have hr : Region.ready .any ops.toArray listed = [] := by
      cases hr : Region.ready .any ops.toArray listed with
      | nil => rfl
      | cons j js =>
        exfalso
        have hj : j ∈ Region.ready .any ops.toArray listed := by rw [hr]; simp
        have h0 := (mem_ready.1 hj).1
        have hlt : j < listed.size := by
          rcases Nat.lt_or_ge j listed.size with h | h
          · exact h
          · simp [Array.getElem?_eq_none h] at h0
        have h1 : listed.countP (· == false) = 0 := by omega
        rw [Array.countP_eq_zero] at h1
        have h2 : listed[j] = false := by simpa [hlt] using h0
        have := h1 listed[j] (Array.getElem_mem hlt)
        simp [h2] at this
    exact ⟨hr, fin listed a w hs hI hr⟩
  | succ fuel ih =>
    intro listed a w hs hc hI
    refine ⟨fin listed a w hs hI, fun i hi => ?_⟩
    obtain ⟨hl, o, ho', hall⟩ := mem_ready.1 hi
    have ho : ops[i]? = some o := by simpa using ho'
    have hg := hG i o ho a.eval w hI.rel (factsOf_mk (hI.facts hsh ho hall))
    unfold wpOp
    simp only [ho']
    have next : ∀ v w', R w w' ∧ V i w' v → wpAny P .any ops.toArray Q fuel (listed.setIfInBounds i true) (a.put o.dst v) w' := fun v w' ⟨h1, h2⟩ =>
      ih _ _ _ (by simp [hs]) (count_set hl hc) (hI.put hsh hn hV hT ho hl h1 h2)
    cases hgd : o.guard with
    | none =>
      simp only [hgd] at hg
      simp only [Region.wanted, hgd, if_true]
      exact .inl (give_wp hg next)
    | some gw =>
      obtain ⟨g, want⟩ := gw
      simp only [hgd] at hg
      have hsp := shape_spec hsh ho
      simp only [shapeOneB, hgd, Bool.and_eq_true] at hsp
      obtain ⟨e, he, hb, rfl⟩ := after_spec hsp.1.1.2.1
      obtain ⟨d, hd⟩ := Option.isSome_iff_exists.1 hsp.1.1.2.2
      obtain ⟨og, hog, hdg⟩ := Option.bind_eq_some_iff.1 hd
      obtain ⟨v, h3, h4⟩ := hI.done e.on og hog (hall e he hb)
      have hv := h3 d hdg
      have hy : yielded ops.toArray a.tmps e.on = asBool v := by
        unfold yielded
        simp only [List.getElem?_toArray, hog, Option.bind_some, hdg, hv]
        cases v <;> rfl
      have := hg v h4
      simp only [Region.wanted, hgd, hy]
      split
      · rename_i hw
        rw [if_pos hw] at this
        exact .inl (give_wp this next)
      · rename_i hw
        rw [if_neg hw] at this
        exact next _ _ ⟨hRf w, this⟩

theorem putAll_defers (vs : Nat → Value) : ∀ (l : List Oper) (i : Nat) (a : Act), (putAll vs l i a).defers = a.defers
  | [], _, _ => rfl
  | o :: l, i, a => by
    rw [putAll, putAll_defers vs l]
    cases o.dst <;> rfl
theorem putAll_size (vs : Nat → Value) : ∀ (l : List Oper) (i : Nat) (a : Act), (putAll vs l i a).tmps.size = a.tmps.size
  | [], _, _ => rfl
  | o :: l, i, a => by
    rw [putAll, putAll_size vs l]
    cases o.dst <;> simp [Act.put]
theorem putAll_other (vs : Nat → Value) (t : Tmp) : ∀ (l : List Oper) (i : Nat) (a : Act), (∀ o ∈ l, o.dst ≠ some t) → (putAll vs l i a).tmps[t]? = a.tmps[t]?
  | [], _, _, _ => rfl
  | o :: l, i, a, h => by
    rw [putAll, putAll_other vs t l _ _ (fun o' ho' => h o' (List.mem_cons_of_mem _ ho'))]
    have := h o (by simp)
    cases hd : o.dst with
    | none => rfl
    | some d =>
      have hne : d ≠ t := by rintro rfl; exact this hd
      simp [Act.put, Array.getElem?_setIfInBounds_ne hne]
theorem putAll_at (vs : Nat → Value) (t : Tmp) : ∀ (l : List Oper) (i : Nat) (a : Act) (k : Nat) (o : Oper), l[k]? = some o → o.dst = some t → t < a.tmps.size →
    (∀ k' o', l[k']? = some o' → o'.dst = some t → k' = k) → (putAll vs l i a).tmps[t]? = some (vs (i + k))
  | [], _, _, _, _, h, _, _, _ => by simp at h
  | o1 :: l, i, a, 0, o, h, hd, ht, huniq => by
    simp at h
    subst h
    rw [putAll, putAll_other vs t l _ _ (fun o' ho' hd' => by
      obtain ⟨k, hk⟩ := List.getElem?_of_mem ho'
      have := huniq (k + 1) o' (by simpa using hk) hd'
      omega)]
    simp [Act.put, hd, ht]
  | o1 :: l, i, a, k + 1, o, h, hd, ht, huniq => by
    rw [putAll, putAll_at vs t l (i + 1) _ k o (by simpa using h) hd (by cases o1.dst <;> simpa [Act.put] using ht) (fun k' o' hk' hd' => by
      have := huniq (k' + 1) o' (by simpa using hk') hd'
      omega)]
    rw [show i + 1 + k = i + (k + 1) by omega]

theorem Inv.whole (hsh : shapeB mk ops n = true) (hn : a0.tmps.size = n) {a : Act} {w : World} (hI : Inv ops a0 R V w0 (Array.replicate ops.length true) a w) :
    ∃ vs : Nat → Value, a = putAll vs ops 0 a0 ∧ ∀ i, i < ops.length → V i w (vs i) := by
  have hex : ∀ i : Nat, ∃ v, ∀ o, ops[i]? = some o → (∀ d, o.dst = some d → a.tmps[d]? = some v) ∧ V i w v := by
    intro i
    cases ho : ops[i]? with
    | none => exact ⟨undef, fun o h => by cases h⟩
    | some o =>
      have hi : i < ops.length := by
        rcases Nat.lt_or_ge i ops.length with h' | h'
        · exact h'
        · simp [List.getElem?_eq_none h'] at ho
      obtain ⟨v, h1, h2⟩ := hI.done i o ho (by simp [hi])
      exact ⟨v, fun o' h => by cases h; exact ⟨h1, h2⟩⟩
  refine ⟨fun i => Classical.choose (hex i), ?_, fun i hi => ((Classical.choose_spec (hex i)) ops[i] (by simp [hi])).2⟩
  have hd : a.defers = (putAll (fun i => Classical.choose (hex i)) ops 0 a0).defers := by rw [putAll_defers, hI.defers]
  have ht : a.tmps = (putAll (fun i => Classical.choose (hex i)) ops 0 a0).tmps := by
    apply Array.ext_getElem?
    intro t
    by_cases hm : ∃ (k : Nat) (o : Oper), ops[k]? = some o ∧ o.dst = some t
    · obtain ⟨k, o, hk, hdt⟩ := hm
      have hs := shape_spec hsh hk
      simp only [shapeOneB, hdt, Bool.and_eq_true, decide_eq_true_eq] at hs
      rw [putAll_at _ t ops 0 a0 k o hk hdt (by rw [hn]; exact hs.1.2.2) (fun k' o' hk' hd' => shape_dst hsh hk' hk hd' hdt)]
      rw [Nat.zero_add]
      exact ((Classical.choose_spec (hex k)) o hk).1 t hdt
    · rw [putAll_other _ t ops 0 a0 (fun o ho hdt => by
        obtain ⟨k, hk⟩ := List.getElem?_of_mem ho
        exact hm ⟨k, o, hk, hdt⟩)]
      exact hI.rest t fun i o hi hdt => absurd ⟨i, o, hi, hdt⟩ hm
  cases a
  cases h : putAll (fun i => Classical.choose (hex i)) ops 0 a0
  rw [h] at hd ht
  simp at hd ht
  rw [hd, ht]

/-- THE LAW: a region that draws its order, one fact 'V i' an operation, each kept under 'R'. -/
theorem wp_region_rely {id : Nat} {w : World} (V : Nat → World → Value → Prop) (R : World → World → Prop) (hm : P.follows .mixedOrders = true) (hsh : shapeB mk ops n = true) (hn : a0.tmps.size = n)
    (hRf : ∀ w, R w w) (hT : ∀ a b c, R a b → R b c → R a c) (hV : ∀ i w w' v, R w w' → V i w v → V i w' v)
    (hG : ∀ i o, ops[i]? = some o → Good P mk a0 R V w.drew i o)
    (hQ : ∀ (vs : Nat → Value) (w' : World), R w.drew w' → (∀ i, i < ops.length → V i w' (vs i)) → Q .normal (putAll vs ops 0 a0) w') :
    (Code.region id ops.toArray true).wp P Q a0 w := by
  refine wp_region_any hm ?_
  have h := rely_any (P := P) (ops := ops) (a0 := a0) (R := R) (V := V) (w0 := w.drew) (Q := Q) (n := n) hsh hn hV hT hRf hG
    (fun a w' l hI hl => by
      subst hl
      obtain ⟨vs, rfl, h⟩ := hI.whole hsh hn
      exact hQ vs w' hI.rel h)
    ops.length (Array.replicate ops.length false) a0 w.drew (by simp) (by
      have := Array.countP_le_size (p := (· == false)) (xs := Array.replicate ops.length false)
      simpa using this) ⟨hRf _, rfl, rfl, fun _ _ => rfl, fun i o hi hl => by
        exfalso
        by_cases h : i < ops.length <;> simp [h] at hl⟩
  simpa using h
end

/-! ### The same, the facts as a list -/
abbrev Fact := World → Value → Prop
def at_ (Vs : List Fact) (i : Nat) : Fact := Vs.getD i fun _ _ => True
def KeepAll (R : World → World → Prop) : List Fact → Prop
  | [] => True
  | f :: l => (∀ w w' v, R w w' → f w v → f w' v) ∧ KeepAll R l
def GoodAll (P : Program) (mk : Tmp → Option Nat) (a0 : Act) (R : World → World → Prop) (V : Nat → Fact) (w0 : World) : Nat → List Oper → Prop
  | _, [] => True
  | i, o :: l => Good P mk a0 R V w0 i o ∧ GoodAll P mk a0 R V w0 (i + 1) l
def HoldAll (w : World) (vs : Nat → Value) : Nat → List Fact → Prop
  | _, [] => True
  | i, f :: l => f w (vs i) ∧ HoldAll w vs (i + 1) l

theorem KeepAll.at {R : World → World → Prop} : ∀ {Vs : List Fact}, KeepAll R Vs → ∀ i w w' v, R w w' → at_ Vs i w v → at_ Vs i w' v
  | [], _, _, _, _, _, _, _ => trivial
  | _ :: _, h, 0, w, w', v, hr, hv => h.1 w w' v hr hv
  | _ :: l, h, i + 1, w, w', v, hr, hv => KeepAll.at (Vs := l) h.2 i w w' v hr hv
theorem GoodAll.at {P : Program} {mk : Tmp → Option Nat} {a0 : Act} {R : World → World → Prop} {V : Nat → Fact} {w0 : World} : ∀ {ops : List Oper} {k : Nat}, GoodAll P mk a0 R V w0 k ops → ∀ i o, ops[i]? = some o → Good P mk a0 R V w0 (k + i) o
  | [], _, _, i, o, ho => by simp at ho
  | _ :: _, k, h, 0, o, ho => by
    simp at ho; subst ho; exact h.1
  | _ :: l, k, h, i + 1, o, ho => by
    have := GoodAll.at (ops := l) h.2 i o (by simpa using ho)
    rwa [show k + 1 + i = k + (i + 1) by omega] at this
theorem HoldAll.mk {w : World} {vs : Nat → Value} : ∀ {Vs : List Fact} {k : Nat}, (∀ i, i < Vs.length → at_ Vs i w (vs (k + i))) → HoldAll w vs k Vs
  | [], _, _ => trivial
  | f :: l, k, h => ⟨h 0 (by simp), HoldAll.mk fun i hi => by
      have := h (i + 1) (by simpa using hi)
      rwa [show k + (i + 1) = k + 1 + i by omega] at this⟩

theorem HoldAll.get {w : World} {vs : Nat → Value} : ∀ {Vs : List Fact} {k : Nat}, HoldAll w vs k Vs → ∀ i, at_ Vs i w (vs (k + i))
  | [], _, _, _ => trivial
  | f :: l, k, h, 0 => h.1
  | f :: l, k, h, i + 1 => by
    have := HoldAll.get (Vs := l) h.2 i
    rwa [show k + 1 + i = k + (i + 1) by omega] at this
theorem HoldAll.at {w : World} {vs : Nat → Value} {Vs : List Fact} (h : HoldAll w vs 0 Vs) (i : Nat) : at_ Vs i w (vs i) := by
  have := h.get i
  rwa [Nat.zero_add] at this
/-- THE LAW, the facts as a list. -/
theorem wp_region_facts {P : Program} {ops : List Oper} {a0 : Act} {Q : Exit → Act → World → Prop} {id : Nat} {w : World} (mk : Tmp → Option Nat) (n : Nat) (R : World → World → Prop) (Vs : List Fact) (hlen : Vs.length = ops.length)
    (hm : P.follows .mixedOrders = true) (hsh : shapeB mk ops n = true) (hn : a0.tmps.size = n)
    (hRf : ∀ w, R w w) (hT : ∀ a b c, R a b → R b c → R a c) (hK : KeepAll R Vs) (hG : GoodAll P mk a0 R (at_ Vs) w.drew 0 ops)
    (hQ : ∀ (vs : Nat → Value) (w' : World) (a' : Act), R w.drew w' → HoldAll w' vs 0 Vs → a' = putAll vs ops 0 a0 → Q .normal a' w') :
    (Code.region id ops.toArray true).wp P Q a0 w :=
  wp_region_rely (at_ Vs) R hm hsh hn hRf hT hK.at (fun i o ho => by have := hG.at i o ho; rwa [Nat.zero_add] at this)
    fun vs w' hr h => hQ vs w' _ hr (HoldAll.mk fun i hi => by rw [Nat.zero_add]; exact h i (by omega)) rfl

/-! ### One operation -/
section
variable {P : Program} {K : Value → World → Prop} {r : Operand → Value} {w : World} {o : Oper}
theorem give_of {v : Value} {w' : World} (h : (execOp r o).run P w = .ok (.value v) w') (hk : K v w') : give P K ((execOp r o).run P w) := by rw [h]; exact hk
theorem give_call {f : FuncId} {args : Array Value} {w' : World} (h : (execOp r o).run P w = .ok (.enter f args) w') (hk : Calls P f args w' fun e w'' => ∃ v, e = .returned v ∧ K v w'') : give P K ((execOp r o).run P w) := by rw [h]; exact hk

theorem give_move {x : Operand} (ho : o.op = .move x ∨ o.op = .assign x) (hk : K (r x) w) : give P K ((execOp r o).run P w) :=
  give_of (by rcases ho with ho | ho <;> simp [execOp, ho, Sem.run_pure]) hk
theorem give_pick {c x y : Operand} (ho : o.op = .pick c x y) (hc : r c = .bool true) (hk : K (r x) w) : give P K ((execOp r o).run P w) :=
  give_of (by simp [execOp, ho, hc, Go.asBool]) hk
theorem give_pickF {c x y : Operand} (ho : o.op = .pick c x y) (hc : r c = .bool false) (hk : K (r y) w) : give P K ((execOp r o).run P w) :=
  give_of (by simp [execOp, ho, hc, Go.asBool]) hk
theorem give_func (as : Array Value) {f : FuncId} {fo : Operand} {args : Array Operand} {ts : Array TypeId} (ho : o.op = .call { callee := .value fo, args := args, argTypes := ts }) (hf : r fo = .func (.func f) #[] #[]) (hc : ∀ (as : Array Value) (w : World), (callFunc f as).run P w = .ok (.enter f as) w)
    (ha : args.map r = as) (hk : Calls P f as w fun e w'' => ∃ v, e = .returned v ∧ K v w'') : give P K ((execOp r o).run P w) :=
  give_call (by subst ha; simp [execOp, ho, hf, resolve, invoke, Deferred.ofValue, hc]) hk
end
theorem guard_in {p q : Prop} {b : Value} {want : Bool} (h : b = .bool want) (hp : p) : if asBool b == some want then p else q := by
  subst h; simp [asBool]; exact hp
theorem guard_out {p q : Prop} {b : Value} {want : Bool} (h : b = .bool (!want)) (hq : q) : if asBool b == some want then p else q := by
  subst h; cases want <;> simp [asBool] <;> exact hq
def Is (c : Value) : Fact := fun _ v => v = c
theorem GoodAll.nil {P : Program} {mk : Tmp → Option Nat} {a0 : Act} {R : World → World → Prop} {V : Nat → Fact} {w0 : World} {i : Nat} : GoodAll P mk a0 R V w0 i [] := trivial
theorem GoodAll.cons {P : Program} {mk : Tmp → Option Nat} {a0 : Act} {R : World → World → Prop} {V : Nat → Fact} {w0 : World} {i : Nat} {o : Oper} {l : List Oper} (h : Good P mk a0 R V w0 i o) (hl : GoodAll P mk a0 R V w0 (i + 1) l) : GoodAll P mk a0 R V w0 i (o :: l) := ⟨h, hl⟩
theorem KeepAll.nil {R : World → World → Prop} : KeepAll R [] := trivial
theorem KeepAll.is {R : World → World → Prop} {c : Value} {l : List Fact} (h : KeepAll R l) : KeepAll R (Is c :: l) := ⟨fun _ _ _ _ h => h, h⟩
theorem KeepAll.cons {R : World → World → Prop} {f : Fact} {l : List Fact} (hf : ∀ w w' v, R w w' → f w v → f w' v) (h : KeepAll R l) : KeepAll R (f :: l) := ⟨hf, h⟩
end Go.Proofs.Ytmfciiccomagpaa
