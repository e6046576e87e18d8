/- Texts of the seat, one behind the other. No condition of its own. -/
import Derived.Orders
import Derived.Laws.World
import Derived.Tactics
import Derived.OrdersIn
import Derived.OwnWalkIn
import Derived.RangeFuncCalls
import Derived.WalkKit
import Derived.ProofKit
import Derived.Below
import Derived.Laws.BytesArg
import Derived.Laws.OwnMore
import Derived.Maps.AppendAt
import Derived.Deep.AppendLies
import Derived.Laws.IdiomStrings
import Derived.Laws.Strings
import Derived.OpenShut
import Derived.Laws.MakeOwn
import Derived.Laws.CopyOwn
import Derived.Laws.CopyRow
import Derived.MakeChecks
import Derived.ChangeOld
import Derived.Laws.BitsAllLaws
import Derived.RangeFuncNested
import Derived.RangeFuncBox
import Derived.RangeFuncBound
import Derived.RangeFuncLeaves
import Derived.Shelf.Abstract
import Derived.Shelf.RegionOpen
import Derived.TacticsInMore
import Derived.LoopNIn
import Derived.LoopIn
import Derived.ArgAppend
import Derived.Deep.MidRow
import Derived.Laws.Tables
import Derived.TacticsIn
import Derived.BigQuiet
import Derived.Deep.LoopGhost
import Derived.Deep.QuietTactic
import Derived.Laws.ResultCell
import Derived.Test.YtkfohggdaooieaaProg
set_option linter.unusedVariables false
set_option linter.unusedSimpArgs false
/- A law on regions that draw their order: one fact per operation, kept by whatever comes later, serves every order. No condition of its own. -/
namespace Go.Proofs.Ytkfohggdaooieaa
open Go
/-- Which operation fills slot t. -/
def maker (ops : List Oper) (t : Tmp) : Option Nat := ops.findIdx? fun o => o.dst == some t
/-- What is known of an operand: a slot that the region fills: its maker's fact; any other: what it held. -/
def factOf (mk : Tmp → Option Nat) (a0 : Act) (V : Nat → World → Value → Prop) (r : Operand → Value) (w : World) : Operand → Prop
 | .tmp t => match mk t with
  | some j => V j w (r (.tmp t))
  | none => r (.tmp t) = a0.eval (.tmp t)
 | .const c => r (.const c) = c
 | .global g => r (.global g) = .pointer (some ⟨g, 0, none⟩)
 | .func f => r (.func f) = .func (.func f) #[] #[]
def factsOf (mk : Tmp → Option Nat) (a0 : Act) (V : Nat → World → Value → Prop) (r : Operand → Value) (w : World) : List Operand → Prop
 | [] => True
 | x :: l => factOf mk a0 V r w x ∧ factsOf mk a0 V r w l
theorem factsOf_mk {mk : Tmp → Option Nat} {a0 : Act} {V : Nat → World → Value → Prop} {r : Operand → Value} {w : World} : ∀ {l : List Operand}, (∀ x ∈ l, factOf mk a0 V r w x) → factsOf mk a0 V r w l
 | [], _ => trivial
 | x :: _, h => ⟨h x (by simp), factsOf_mk fun y hy => h y (by simp [hy])⟩
/-- One operation carried out: it yields a value. -/
def give (P : Program) (K : Value → World → Prop) : Result Next → Prop
 | .ok (.value v) w' => K v w'
 | .ok .skip w' => K undef w'
 | .ok (.enter f args) w' => Calls P f args w' fun e w'' => ∃ v, e = .returned v ∧ K v w''
 | _ => False
def asBool : Value → Option Bool
 | .bool b => some b
 | _ => none
/-- What is owed for operation number i. -/
def Good (P : Program) (mk : Tmp → Option Nat) (a0 : Act) (R : World → World → Prop) (V : Nat → World → Value → Prop) (w0 : World) (i : Nat) (o : Oper) : Prop :=
 ∀ (r : Operand → Value) (w : World), R w0 w → factsOf mk a0 V r w o.op.operands.toList →
  match o.guard with
  | none => give P (fun v w' => R w w' ∧ V i w' v) ((execOp r o).run P w)
  | some (g, want) => ∀ b, V g w b → if asBool b == some want then give P (fun v w' => R w w' ∧ V i w' v) ((execOp r o).run P w) else V i w undef
def afterB (o : Oper) (j : Nat) : Bool := o.after.any fun e => Region.binds .any e && e.on == j
def shapeOneB (mk : Tmp → Option Nat) (ops : List Oper) (n : Nat) (i : Nat) (o : Oper) : Bool :=
 (match o.op with | .select .. => false | _ => true) &&
 (o.op.operands.toList.all fun x => match x with
  | .tmp t => maker ops t == mk t && (match maker ops t with | some j => afterB o j | none => true)
  | _ => true) &&
 (match o.guard with
  | none => true
  | some (g, _) => afterB o g && ((ops[g]?).bind (·.dst)).isSome) &&
 (match o.dst with
  | none => true
  | some d => maker ops d == some i && decide (d < n)) &&
 o.after.all fun e => !(Region.binds .any e) || decide (e.on < i)
/-- The region's shape, a closed fact. -/
def shapeB (mk : Tmp → Option Nat) (ops : List Oper) (n : Nat) : Bool := (List.range ops.length).all fun i => match ops[i]? with
 | none => true
 | some o => shapeOneB mk ops n i o
def putAll (vs : Nat → Value) : List Oper → Nat → Act → Act
 | [], _, a => a
 | o :: l, i, a => putAll vs l (i + 1) (a.put o.dst (vs i))
structure Inv (ops : List Oper) (a0 : Act) (R : World → World → Prop) (V : Nat → World → Value → Prop) (w0 : World) (listed : Array Bool) (a : Act) (w : World) : Prop where
 rel : R w0 w
 defers : a.defers = a0.defers
 size : a.tmps.size = a0.tmps.size
 rest : ∀ t, (∀ (i : Nat) o, ops[i]? = some o → o.dst = some t → listed.getD i true = false) → a.tmps[t]? = a0.tmps[t]?
 done : ∀ (i : Nat) o, ops[i]? = some o → listed.getD i false = true → ∃ v, (∀ d, o.dst = some d → a.tmps[d]? = some v) ∧ V i w v
theorem maker_some {ops : List Oper} {t : Tmp} {j : Nat} (h : maker ops t = some j) : ∃ o, ops[j]? = some o ∧ o.dst = some t := by
 unfold maker at h
 rw [List.findIdx?_eq_some_iff_getElem] at h
 obtain ⟨hj, h1, _⟩ := h
 exact ⟨ops[j], by simp [hj], by simpa using h1⟩
theorem maker_none {ops : List Oper} {t : Tmp} (h : maker ops t = none) {i : Nat} {o : Oper} (ho : ops[i]? = some o) : o.dst ≠ some t := by
 unfold maker at h
 rw [List.findIdx?_eq_none_iff] at h
 have := h o (List.mem_of_getElem? ho)
 simpa using this
theorem shape_spec {mk : Tmp → Option Nat} {ops : List Oper} {n : Nat} (h : shapeB mk ops n = true) {i : Nat} {o : Oper} (ho : ops[i]? = some o) : shapeOneB mk ops n i o = true := by
 unfold shapeB at h
 rw [List.all_eq_true] at h
 have hi : i < ops.length := by
  rcases Nat.lt_or_ge i ops.length with h' | h'
  ·
   exact h'
  ·
   simp [List.getElem?_eq_none h'] at ho
 have := h i (List.mem_range.2 hi)
 simpa [ho] using this
section
variable {P : Program} {mk : Tmp → Option Nat} {ops : List Oper} {a0 : Act} {R : World → World → Prop} {V : Nat → World → Value → Prop} {w0 : World} {Q : Exit → Act → World → Prop} {n : Nat}
theorem shape_dst (h : shapeB mk ops n = true) {i j : Nat} {o o' : Oper} {d : Tmp} (hi : ops[i]? = some o) (hj : ops[j]? = some o') (h1 : o.dst = some d) (h2 : o'.dst = some d) : i = j := by
 have a1 := shape_spec h hi
 have a2 := shape_spec h hj
 simp only [shapeOneB, h1, h2, Bool.and_eq_true, beq_iff_eq] at a1 a2
 have e := a1.1.2.1.symm.trans a2.1.2.1
 exact Option.some.inj e
theorem after_spec {o : Oper} {j : Nat} (h : afterB o j = true) : ∃ e ∈ o.after, Region.binds .any e = true ∧ e.on = j := by
 unfold afterB at h
 obtain ⟨e, he, hb⟩ := Array.any_eq_true'.1 h
 simp only [Bool.and_eq_true, beq_iff_eq] at hb
 exact ⟨e, he, hb.1, hb.2⟩
theorem Inv.put (hsh : shapeB mk ops n = true) (hn : a0.tmps.size = n) (hV : ∀ i w w' v, R w w' → V i w v → V i w' v) (hT : ∀ a b c, R a b → R b c → R a c)
  {listed : Array Bool} {a : Act} {w w' : World} (hI : Inv ops a0 R V w0 listed a w) {i : Nat} {o : Oper} (ho : ops[i]? = some o) (hl : listed.getD i true = false) {v : Value} (hR : R w w') (hv : V i w' v) :
  Inv ops a0 R V w0 (listed.setIfInBounds i true) (a.put o.dst v) w' := by
 have hlt : i < listed.size := by
  rcases Nat.lt_or_ge i listed.size with h | h
  ·
   exact h
  ·
   simp [Array.getElem?_eq_none h] at hl
 have hs := shape_spec hsh ho
 refine ⟨hT _ _ _ hI.rel hR, ?_, ?_, ?_, ?_⟩
 ·
  cases hd : o.dst <;> simp [Act.put, hI.defers]
 ·
  cases hd : o.dst <;> simp [Act.put, hI.size]
 ·
  intro t ht
  have h1 : a.tmps[t]? = a0.tmps[t]? := hI.rest t fun j o' hj hd' => by
   have := ht j o' hj hd'
   by_cases hij : i = j
   ·
    subst hij; simp [hlt] at this
   ·
    rw [getD_set_ne true hij] at this; exact this
  cases hd : o.dst with
  | none => simpa [Act.put] using h1
  | some d =>
   have hne : d ≠ t := by
    rintro rfl
    have := ht i o ho hd
    simp [hlt] at this
   simpa [Act.put, Array.getElem?_setIfInBounds_ne hne] using h1
 ·
  intro j o' hj hlj
  by_cases hij : i = j
  ·
   subst hij
   rw [ho] at hj; cases hj
   refine ⟨v, fun d hd => ?_, hv⟩
   have hdn : d < n := by
    simp only [shapeOneB, hd, Bool.and_eq_true, decide_eq_true_eq] at hs
    exact hs.1.2.2
   have : d < a.tmps.size := by rw [hI.size, hn]; exact hdn
   simp [Act.put, hd, this]
  ·
   have hlj' : listed.getD j false = true := by
    rw [getD_set_ne false hij] at hlj; exact hlj
   obtain ⟨v', h1, h2⟩ := hI.done j o' hj hlj'
   refine ⟨v', fun d hd => ?_, hV _ _ _ _ hR h2⟩
   have h3 := h1 d hd
   cases hd' : o.dst with
   | none => simpa [Act.put] using h3
   | some d' =>
    have hne : d' ≠ d := by
     rintro rfl
     exact hij (shape_dst hsh ho hj hd' hd)
    simpa [Act.put, Array.getElem?_setIfInBounds_ne hne] using h3
theorem Inv.facts (hsh : shapeB mk ops n = true) {listed : Array Bool} {a : Act} {w : World} (hI : Inv ops a0 R V w0 listed a w) {i : Nat} {o : Oper} (ho : ops[i]? = some o)
  (hall : ∀ e ∈ o.after, Region.binds .any e = true → listed.getD e.on false = true) : ∀ x ∈ o.op.operands.toList, factOf mk a0 V a.eval w x := by
 intro x hx
 have hs := shape_spec hsh ho
 simp only [shapeOneB, Bool.and_eq_true, List.all_eq_true] at hs
 have h2 := hs.1.1.1.2 x hx
 cases x with
 | tmp t =>
  simp only [factOf]
  simp only [Bool.and_eq_true, beq_iff_eq] at h2
  rw [← h2.1]
  cases hm : maker ops t with
  | none =>
   simp only [Act.eval]
   have := hI.rest t fun j o' hj hd' => absurd hd' (maker_none hm hj)
   simp [this]
  | some j =>
   simp only [hm] at h2
   obtain ⟨e, he, hb, rfl⟩ := after_spec h2.2
   obtain ⟨o', hj, hd'⟩ := maker_some hm
   obtain ⟨v, h3, h4⟩ := hI.done _ o' hj (hall e he hb)
   have := h3 t hd'
   simp only [Act.eval]
   simpa [this] using h4
 | const c => rfl
 | global g => rfl
 | func f => rfl
theorem count_set {l : Array Bool} {i : Nat} {fuel : Nat} (hl : l.getD i true = false) (hc : l.countP (· == false) ≤ fuel + 1) : (l.setIfInBounds i true).countP (· == false) ≤ fuel := by
 have hlt : i < l.size := by
  rcases Nat.lt_or_ge i l.size with h | h
  ·
   exact h
  ·
   simp [Array.getElem?_eq_none h] at hl
 have hf : l[i] = false := by simpa [hlt] using hl
 simp only [Array.setIfInBounds, hlt, ↓reduceDIte]
 rw [Array.countP_set]
 rw [hf]
 show _ - 1 + 0 ≤ fuel
 omega
theorem give_wp {o : Oper} {a : Act} {w : World} {K : Value → World → Prop} {next : Act → World → Prop} (h : give P K ((execOp a.eval o).run P w)) (hk : ∀ v w', K v w' → next (a.put o.dst v) w') : o.wp P a w next Q := by
 unfold Oper.wp
 generalize (execOp a.eval o).run P w = r at *
 cases r with
 | ok x w' =>
  cases x <;> simp only [give] at h <;> simp only [Oper.upon]
  case value v => exact hk _ _ h
  case skip => exact hk _ _ h
  case enter f args =>
   refine Calls.mono h fun e w'' ⟨v, he, hv⟩ => ?_
   subst he
   exact hk _ _ hv
 | halt x w' => simp [give] at h
theorem rely_any (hsh : shapeB mk ops n = true) (hn : a0.tmps.size = n) (hV : ∀ i w w' v, R w w' → V i w v → V i w' v) (hT : ∀ a b c, R a b → R b c → R a c) (hRf : ∀ w, R w w)
  (hG : ∀ i o, ops[i]? = some o → Good P mk a0 R V w0 i o)
  (hQ : ∀ a w, (∀ listed, Inv ops a0 R V w0 (Array.replicate ops.length listed) a w → listed = true → Q .normal a w)) :
  ∀ (fuel : Nat) (listed : Array Bool) (a : Act) (w : World), listed.size = ops.length → listed.countP (· == false) ≤ fuel → Inv ops a0 R V w0 listed a w → wpAny P .any ops.toArray Q fuel listed a w := by
 have ready_nil : ∀ (listed : Array Bool), listed.size = ops.length → Region.ready .any ops.toArray listed = [] → listed = Array.replicate ops.length true := by
  intro listed hs hr
  have key : ∀ i, i < ops.length → listed.getD i false = true := by
   intro i
   induction i using Nat.strongRecOn with
   | _ i ih =>
    intro hi
    cases hb : listed.getD i false with
    | true => rfl
    | false =>
     exfalso
     have ho : ops[i]? = some ops[i] := by simp [hi]
     have : i ∈ Region.ready .any ops.toArray listed := by
      rw [mem_ready]
      refine ⟨by simpa [hs, hi] using hb, ops[i], by simp [hi], fun e he hbi => ?_⟩
      have hsp := shape_spec hsh ho
      simp only [shapeOneB, Bool.and_eq_true] at hsp
      have h5 := Array.all_eq_true_iff_forall_mem.1 hsp.2 e he
      simp [hbi] at h5
      exact ih e.on h5 (by omega)
     rw [hr] at this
     cases this
  apply Array.ext
  ·
   simp [hs]
  ·
   intro i h1 h2
   have := key i (by omega)
   simpa [h1] using this
 have fin : ∀ (listed : Array Bool) (a : Act) (w : World), listed.size = ops.length → Inv ops a0 R V w0 listed a w → Region.ready .any ops.toArray listed = [] → Q .normal a w := by
  intro listed a w hs hI hr
  have := ready_nil listed hs hr
  subst this
  exact hQ a w true hI rfl
 intro fuel
 induction fuel with
 | zero =>
  intro listed a w hs hc hI
  have hr : Region.ready .any ops.toArray listed = [] := by
   cases hr : Region.ready .any ops.toArray listed with
   | nil => rfl
   | cons j js =>
    exfalso
    have hj : j ∈ Region.ready .any ops.toArray listed := by rw [hr]; simp
    have h0 := (mem_ready.1 hj).1
    have hlt : j < listed.size := by
     rcases Nat.lt_or_ge j listed.size with h | h
     ·
      exact h
     ·
      simp [Array.getElem?_eq_none h] at h0
    have h1 : listed.countP (· == false) = 0 := by omega
    rw [Array.countP_eq_zero] at h1
    have h2 : listed[j] = false := by simpa [hlt] using h0
    have := h1 listed[j] (Array.getElem_mem hlt)
    simp [h2] at this
  exact ⟨hr, fin listed a w hs hI hr⟩
 | succ fuel ih =>
  intro listed a w hs hc hI
  refine ⟨fin listed a w hs hI, fun i hi => ?_⟩
  obtain ⟨hl, o, ho', hall⟩ := mem_ready.1 hi
  have ho : ops[i]? = some o := by simpa using ho'
  have hg := hG i o ho a.eval w hI.rel (factsOf_mk (hI.facts hsh ho hall))
  unfold wpOp
  simp only [ho']
  have next : ∀ v w', R w w' ∧ V i w' v → wpAny P .any ops.toArray Q fuel (listed.setIfInBounds i true) (a.put o.dst v) w' := fun v w' ⟨h1, h2⟩ =>
   ih _ _ _ (by simp [hs]) (count_set hl hc) (hI.put hsh hn hV hT ho hl h1 h2)
  cases hgd : o.guard with
  | none =>
   simp only [hgd] at hg
   simp only [Region.wanted, hgd, if_true]
   exact .inl (give_wp hg next)
  | some gw =>
   obtain ⟨g, want⟩ := gw
   simp only [hgd] at hg
   have hsp := shape_spec hsh ho
   simp only [shapeOneB, hgd, Bool.and_eq_true] at hsp
   obtain ⟨e, he, hb, rfl⟩ := after_spec hsp.1.1.2.1
   obtain ⟨d, hd⟩ := Option.isSome_iff_exists.1 hsp.1.1.2.2
   obtain ⟨og, hog, hdg⟩ := Option.bind_eq_some_iff.1 hd
   obtain ⟨v, h3, h4⟩ := hI.done e.on og hog (hall e he hb)
   have hv := h3 d hdg
   have hy : yielded ops.toArray a.tmps e.on = asBool v := by
    unfold yielded
    simp only [List.getElem?_toArray, hog, Option.bind_some, hdg, hv]
    cases v <;> rfl
   have := hg v h4
   simp only [Region.wanted, hgd, hy]
   split
   ·
    rename_i hw
    rw [if_pos hw] at this
    exact .inl (give_wp this next)
   ·
    rename_i hw
    rw [if_neg hw] at this
    exact next _ _ ⟨hRf w, this⟩
theorem putAll_defers (vs : Nat → Value) : ∀ (l : List Oper) (i : Nat) (a : Act), (putAll vs l i a).defers = a.defers
 | [], _, _ => rfl
 | o :: l, i, a => by
  rw [putAll, putAll_defers vs l]
  cases o.dst <;> rfl
theorem putAll_other (vs : Nat → Value) (t : Tmp) : ∀ (l : List Oper) (i : Nat) (a : Act), (∀ o ∈ l, o.dst ≠ some t) → (putAll vs l i a).tmps[t]? = a.tmps[t]?
 | [], _, _, _ => rfl
 | o :: l, i, a, h => by
  rw [putAll, putAll_other vs t l _ _ (fun o' ho' => h o' (List.mem_cons_of_mem _ ho'))]
  have := h o (by simp)
  cases hd : o.dst with
  | none => rfl
  | some d =>
   have hne : d ≠ t := by rintro rfl; exact this hd
   simp [Act.put, Array.getElem?_setIfInBounds_ne hne]
theorem putAll_at (vs : Nat → Value) (t : Tmp) : ∀ (l : List Oper) (i : Nat) (a : Act) (k : Nat) (o : Oper), l[k]? = some o → o.dst = some t → t < a.tmps.size →
  (∀ k' o', l[k']? = some o' → o'.dst = some t → k' = k) → (putAll vs l i a).tmps[t]? = some (vs (i + k))
 | [], _, _, _, _, h, _, _, _ => by simp at h
 | o1 :: l, i, a, 0, o, h, hd, ht, huniq => by
  simp at h
  subst h
  rw [putAll, putAll_other vs t l _ _ (fun o' ho' hd' => by
   obtain ⟨k, hk⟩ := List.getElem?_of_mem ho'
   have := huniq (k + 1) o' (by simpa using hk) hd'
   omega)]
  simp [Act.put, hd, ht]
 | o1 :: l, i, a, k + 1, o, h, hd, ht, huniq => by
  rw [putAll, putAll_at vs t l (i + 1) _ k o (by simpa using h) hd (by cases o1.dst <;> simpa [Act.put] using ht) (fun k' o' hk' hd' => by
   have := huniq (k' + 1) o' (by simpa using hk') hd'
   omega)]
  rw [show i + 1 + k = i + (k + 1) by omega]
theorem Inv.whole (hsh : shapeB mk ops n = true) (hn : a0.tmps.size = n) {a : Act} {w : World} (hI : Inv ops a0 R V w0 (Array.replicate ops.length true) a w) :
  ∃ vs : Nat → Value, a = putAll vs ops 0 a0 ∧ ∀ i, i < ops.length → V i w (vs i) := by
 have hex : ∀ i : Nat, ∃ v, ∀ o, ops[i]? = some o → (∀ d, o.dst = some d → a.tmps[d]? = some v) ∧ V i w v := by
  intro i
  cases ho : ops[i]? with
  | none => exact ⟨undef, fun o h => by cases h⟩
  | some o =>
   have hi : i < ops.length := by
    rcases Nat.lt_or_ge i ops.length with h' | h'
    ·
     exact h'
    ·
     simp [List.getElem?_eq_none h'] at ho
   obtain ⟨v, h1, h2⟩ := hI.done i o ho (by simp [hi])
   exact ⟨v, fun o' h => by cases h; exact ⟨h1, h2⟩⟩
 refine ⟨fun i => Classical.choose (hex i), ?_, fun i hi => ((Classical.choose_spec (hex i)) ops[i] (by simp [hi])).2⟩
 have hd : a.defers = (putAll (fun i => Classical.choose (hex i)) ops 0 a0).defers := by rw [putAll_defers, hI.defers]
 have ht : a.tmps = (putAll (fun i => Classical.choose (hex i)) ops 0 a0).tmps := by
  apply Array.ext_getElem?
  intro t
  by_cases hm : ∃ (k : Nat) (o : Oper), ops[k]? = some o ∧ o.dst = some t
  ·
   obtain ⟨k, o, hk, hdt⟩ := hm
   have hs := shape_spec hsh hk
   simp only [shapeOneB, hdt, Bool.and_eq_true, decide_eq_true_eq] at hs
   rw [putAll_at _ t ops 0 a0 k o hk hdt (by rw [hn]; exact hs.1.2.2) (fun k' o' hk' hd' => shape_dst hsh hk' hk hd' hdt)]
   rw [Nat.zero_add]
   exact ((Classical.choose_spec (hex k)) o hk).1 t hdt
  ·
   rw [putAll_other _ t ops 0 a0 (fun o ho hdt => by
    obtain ⟨k, hk⟩ := List.getElem?_of_mem ho
    exact hm ⟨k, o, hk, hdt⟩)]
   exact hI.rest t fun i o hi hdt => absurd ⟨i, o, hi, hdt⟩ hm
 cases a
 cases h : putAll (fun i => Classical.choose (hex i)) ops 0 a0
 rw [h] at hd ht
 simp at hd ht
 rw [hd, ht]
/-- THE LAW: a region that draws its order, one fact 'V i' an operation, each kept under 'R'. -/
theorem wp_region_rely {id : Nat} {w : World} (V : Nat → World → Value → Prop) (R : World → World → Prop) (hm : P.follows .mixedOrders = true) (hsh : shapeB mk ops n = true) (hn : a0.tmps.size = n)
  (hRf : ∀ w, R w w) (hT : ∀ a b c, R a b → R b c → R a c) (hV : ∀ i w w' v, R w w' → V i w v → V i w' v)
  (hG : ∀ i o, ops[i]? = some o → Good P mk a0 R V w.drew i o)
  (hQ : ∀ (vs : Nat → Value) (w' : World), R w.drew w' → (∀ i, i < ops.length → V i w' (vs i)) → Q .normal (putAll vs ops 0 a0) w') :
  (Code.region id ops.toArray true).wp P Q a0 w := by
 refine wp_region_any hm ?_
 have h := rely_any (P := P) (ops := ops) (a0 := a0) (R := R) (V := V) (w0 := w.drew) (Q := Q) (n := n) hsh hn hV hT hRf hG
  (fun a w' l hI hl => by
   subst hl
   obtain ⟨vs, rfl, h⟩ := hI.whole hsh hn
   exact hQ vs w' hI.rel h)
  ops.length (Array.replicate ops.length false) a0 w.drew (by simp) (by
   have := Array.countP_le_size (p := (· == false)) (xs := Array.replicate ops.length false)
   simpa using this) ⟨hRf _, rfl, rfl, fun _ _ => rfl, fun i o hi hl => by
    exfalso
    by_cases h : i < ops.length <;> simp [h] at hl⟩
 simpa using h
end
/-! ### The same, the facts as a list -/
abbrev Fact := World → Value → Prop
def at_ (Vs : List Fact) (i : Nat) : Fact := Vs.getD i fun _ _ => True
def KeepAll (R : World → World → Prop) : List Fact → Prop
 | [] => True
 | f :: l => (∀ w w' v, R w w' → f w v → f w' v) ∧ KeepAll R l
def GoodAll (P : Program) (mk : Tmp → Option Nat) (a0 : Act) (R : World → World → Prop) (V : Nat → Fact) (w0 : World) : Nat → List Oper → Prop
 | _, [] => True
 | i, o :: l => Good P mk a0 R V w0 i o ∧ GoodAll P mk a0 R V w0 (i + 1) l
def HoldAll (w : World) (vs : Nat → Value) : Nat → List Fact → Prop
 | _, [] => True
 | i, f :: l => f w (vs i) ∧ HoldAll w vs (i + 1) l
theorem KeepAll.at {R : World → World → Prop} : ∀ {Vs : List Fact}, KeepAll R Vs → ∀ i w w' v, R w w' → at_ Vs i w v → at_ Vs i w' v
 | [], _, _, _, _, _, _, _ => trivial
 | _ :: _, h, 0, w, w', v, hr, hv => h.1 w w' v hr hv
 | _ :: l, h, i + 1, w, w', v, hr, hv => KeepAll.at (Vs := l) h.2 i w w' v hr hv
theorem GoodAll.at {P : Program} {mk : Tmp → Option Nat} {a0 : Act} {R : World → World → Prop} {V : Nat → Fact} {w0 : World} : ∀ {ops : List Oper} {k : Nat}, GoodAll P mk a0 R V w0 k ops → ∀ i o, ops[i]? = some o → Good P mk a0 R V w0 (k + i) o
 | [], _, _, i, o, ho => by simp at ho
 | _ :: _, k, h, 0, o, ho => by
  simp at ho; subst ho; exact h.1
 | _ :: l, k, h, i + 1, o, ho => by
  have := GoodAll.at (ops := l) h.2 i o (by simpa using ho)
  rwa [show k + 1 + i = k + (i + 1) by omega] at this
theorem HoldAll.mk {w : World} {vs : Nat → Value} : ∀ {Vs : List Fact} {k : Nat}, (∀ i, i < Vs.length → at_ Vs i w (vs (k + i))) → HoldAll w vs k Vs
 | [], _, _ => trivial
 | f :: l, k, h => ⟨h 0 (by simp), HoldAll.mk fun i hi => by
   have := h (i + 1) (by simpa using hi)
   rwa [show k + (i + 1) = k + 1 + i by omega] at this⟩
theorem HoldAll.get {w : World} {vs : Nat → Value} : ∀ {Vs : List Fact} {k : Nat}, HoldAll w vs k Vs → ∀ i, at_ Vs i w (vs (k + i))
 | [], _, _, _ => trivial
 | f :: l, k, h, 0 => h.1
 | f :: l, k, h, i + 1 => by
  have := HoldAll.get (Vs := l) h.2 i
  rwa [show k + 1 + i = k + (i + 1) by omega] at this
theorem HoldAll.at {w : World} {vs : Nat → Value} {Vs : List Fact} (h : HoldAll w vs 0 Vs) (i : Nat) : at_ Vs i w (vs i) := by
 have := h.get i
 rwa [Nat.zero_add] at this
/-- THE LAW, the facts as a list. -/
theorem wp_region_facts {P : Program} {ops : List Oper} {a0 : Act} {Q : Exit → Act → World → Prop} {id : Nat} {w : World} (mk : Tmp → Option Nat) (n : Nat) (R : World → World → Prop) (Vs : List Fact) (hlen : Vs.length = ops.length)
  (hm : P.follows .mixedOrders = true) (hsh : shapeB mk ops n = true) (hn : a0.tmps.size = n)
  (hRf : ∀ w, R w w) (hT : ∀ a b c, R a b → R b c → R a c) (hK : KeepAll R Vs) (hG : GoodAll P mk a0 R (at_ Vs) w.drew 0 ops)
  (hQ : ∀ (vs : Nat → Value) (w' : World) (a' : Act), R w.drew w' → HoldAll w' vs 0 Vs → a' = putAll vs ops 0 a0 → Q .normal a' w') :
  (Code.region id ops.toArray true).wp P Q a0 w :=
 wp_region_rely (at_ Vs) R hm hsh hn hRf hT hK.at (fun i o ho => by have := hG.at i o ho; rwa [Nat.zero_add] at this)
  fun vs w' hr h => hQ vs w' _ hr (HoldAll.mk fun i hi => by rw [Nat.zero_add]; exact h i (by omega)) rfl
/-! ### One operation -/
section
variable {P : Program} {K : Value → World → Prop} {r : Operand → Value} {w : World} {o : Oper}
theorem gvo {v : Value} {w' : World} (h : (execOp r o).run P w = .ok (.value v) w') (hk : K v w') : give P K ((execOp r o).run P w) := by rw [h]; exact hk
theorem give_call {f : FuncId} {args : Array Value} {w' : World} (h : (execOp r o).run P w = .ok (.enter f args) w') (hk : Calls P f args w' fun e w'' => ∃ v, e = .returned v ∧ K v w'') : give P K ((execOp r o).run P w) := by rw [h]; exact hk
theorem give_pick {c x y : Operand} (ho : o.op = .pick c x y) (hc : r c = .bool true) (hk : K (r x) w) : give P K ((execOp r o).run P w) :=
 gvo (by simp [execOp, ho, hc, Go.asBool]) hk
theorem give_func (az : Array Value) {f : FuncId} {fo : Operand} {args : Array Operand} {ts : Array TypeId} (ho : o.op = .call { callee := .value fo, args := args, argTypes := ts }) (hf : r fo = .func (.func f) #[] #[]) (hc : ∀ (az : Array Value) (w : World), (callFunc f az).run P w = .ok (.enter f az) w)
  (ha : args.map r = az) (hk : Calls P f az w fun e w'' => ∃ v, e = .returned v ∧ K v w'') : give P K ((execOp r o).run P w) :=
 give_call (by subst ha; simp [execOp, ho, hf, resolve, invoke, Deferred.ofValue, hc]) hk
end
theorem guard_in {p q : Prop} {b : Value} {want : Bool} (h : b = .bool want) (hp : p) : if asBool b == some want then p else q := by
 subst h; simp [asBool]; exact hp
def Is (c : Value) : Fact := fun _ v => v = c
theorem GoodAll.nil {P : Program} {mk : Tmp → Option Nat} {a0 : Act} {R : World → World → Prop} {V : Nat → Fact} {w0 : World} {i : Nat} : GoodAll P mk a0 R V w0 i [] := trivial
theorem Gc {P : Program} {mk : Tmp → Option Nat} {a0 : Act} {R : World → World → Prop} {V : Nat → Fact} {w0 : World} {i : Nat} {o : Oper} {l : List Oper} (h : Good P mk a0 R V w0 i o) (hl : GoodAll P mk a0 R V w0 (i + 1) l) : GoodAll P mk a0 R V w0 i (o :: l) := ⟨h, hl⟩
theorem KeepAll.nil {R : World → World → Prop} : KeepAll R [] := trivial
theorem Ks {R : World → World → Prop} {c : Value} {l : List Fact} (h : KeepAll R l) : KeepAll R (Is c :: l) := ⟨fun _ _ _ _ h => h, h⟩
theorem KeepAll.cons {R : World → World → Prop} {f : Fact} {l : List Fact} (hf : ∀ w w' v, R w w' → f w v → f w' v) (h : KeepAll R l) : KeepAll R (f :: l) := ⟨hf, h⟩
end Go.Proofs.Ytkfohggdaooieaa
/- A law on regions that keep their order, whatever their guards: one fact per operation, kept by whatever comes later; the walk need not part at a guard. No condition of its own. -/
namespace Go.Proofs.Ytkfohggdaooieaa
open Go
section
variable {P : Program} {mk : Tmp → Option Nat} {ops : List Oper} {a0 : Act} {R : World → World → Prop} {V : Nat → World → Value → Prop} {w0 : World} {Q : Exit → Act → World → Prop} {n : Nat}
end
/-! ### One operation under a guard that is not decided -/
section
variable {P : Program} {K : Value → World → Prop} {r : Operand → Value} {w : World} {o : Oper}
end
/-- A fact under a guard. -/
def Under (C : Bool) (v : Value) : Fact := fun _ x => x = if C = true then v else undef
theorem Ku {R : World → World → Prop} {C : Bool} {c : Value} {l : List Fact} (h : KeepAll R l) : KeepAll R (Under C c :: l) := ⟨fun _ _ _ _ h => h, h⟩
theorem Under.get {C : Bool} {v x : Value} {w : World} (h : Under C v w x) (hc : C = true) : x = v := h.trans (if_pos hc)
/-- The walk stands still here. -/
structure Stop (p : Prop) : Prop where
 go : p
theorem stop_at {P : Program} {ops : Array Oper} {Q : Exit → Act → World → Prop} {l : List Oper} {a : Act} {w : World} (n : Nat) (h : l.length = n) (s : Stop (wpList P ops Q l a w)) : wpList P ops Q l a w := s.go
end Go.Proofs.Ytkfohggdaooieaa
/- A law on regions that draw their order: one invariant over what was met, the slots and the world. No condition of its own. -/
namespace Go.Proofs.Ytkfohggdaooieaa
open Go
def met1 (L : Nat → Bool) (i : Nat) : Nat → Bool := fun j => j == i || L j
/-- What is owed for an operation without guard. -/
def OwedJ (P : Program) (J : (Nat → Bool) → Act → World → Prop) (i : Nat) (o : Oper) : Prop :=
 o.guard = none ∧ ∀ (L : Nat → Bool) (a : Act) (w : World), J L a w → L i = false → (∀ e ∈ o.after.toList, Region.binds .any e = true → L e.on = true) → give P (fun v w' => J (met1 L i) (a.put o.dst v) w') ((execOp a.eval o).run P w)
def OwedAll (P : Program) (J : (Nat → Bool) → Act → World → Prop) : Nat → List Oper → Prop
 | _, [] => True
 | i, o :: l => OwedJ P J i o ∧ OwedAll P J (i + 1) l
theorem OwedAll.at {P : Program} {J : (Nat → Bool) → Act → World → Prop} : ∀ {ops : List Oper} {k : Nat}, OwedAll P J k ops → ∀ i o, ops[i]? = some o → OwedJ P J (k + i) o
 | [], _, _, i, o, h => by simp at h
 | o1 :: l, k, hA, 0, o, h => by simp at h; subst h; exact hA.1
 | o1 :: l, k, hA, i + 1, o, h => by
  have := OwedAll.at hA.2 i o (by simpa using h)
  rwa [show k + 1 + i = k + (i + 1) by omega] at this
theorem OwedAll.nil {P : Program} {J : (Nat → Bool) → Act → World → Prop} {i : Nat} : OwedAll P J i [] := trivial
theorem OwedAll.cons {P : Program} {J : (Nat → Bool) → Act → World → Prop} {i : Nat} {o : Oper} {l : List Oper} (hg : o.guard = none) (h : ∀ (L : Nat → Bool) (a : Act) (w : World), J L a w → L i = false → (∀ e ∈ o.after.toList, Region.binds .any e = true → L e.on = true) → give P (fun v w' => J (met1 L i) (a.put o.dst v) w') ((execOp a.eval o).run P w)) (hl : OwedAll P J (i + 1) l) : OwedAll P J i (o :: l) := ⟨⟨hg, h⟩, hl⟩
/-- A slot behind another one's filling. -/
theorem put_other {a : Act} {t d : Tmp} (v : Value) (h : d ≠ t) : (a.put (some d) v).tmps[t]? = a.tmps[t]? := by
 simp [Act.put, Array.getElem?_setIfInBounds_ne h]
theorem put_same {a : Act} {d : Tmp} (v : Value) (h : d < a.tmps.size) : (a.put (some d) v).tmps[d]? = some v := by
 simp [Act.put, h]
theorem put_size {a : Act} (d : Option Tmp) (v : Value) : (a.put d v).tmps.size = a.tmps.size := by cases d <;> simp [Act.put]
theorem put_defers {a : Act} (d : Option Tmp) (v : Value) : (a.put d v).defers = a.defers := by cases d <;> simp [Act.put]
end Go.Proofs.Ytkfohggdaooieaa
/- A law on regions that draw their order: one invariant over what was met, the values yielded and the world. No condition of its own. -/
namespace Go.Proofs.Ytkfohggdaooieaa
open Go
def updV (vs : Nat → Value) (i : Nat) (v : Value) : Nat → Value := fun j => bif j == i then v else vs j
theorem updV_same (vs : Nat → Value) (i : Nat) (v : Value) : updV vs i v i = v := by simp [updV]
theorem updV_other {vs : Nat → Value} {i j : Nat} {v : Value} (h : j ≠ i) : updV vs i v j = vs j := by
 have : (j == i) = false := by simpa using h
 simp [updV, this]
theorem met1_same (L : Nat → Bool) (i : Nat) : met1 L i i = true := by simp [met1]
theorem met1_other {L : Nat → Bool} {i j : Nat} (h : j ≠ i) : met1 L i j = L j := by simp [met1, h]
/-- The slots hold what was yielded. -/
structure SlotsAt (ops : List Oper) (a0 : Act) (L : Nat → Bool) (vs : Nat → Value) (a : Act) : Prop where
 defers : a.defers = a0.defers
 size : a.tmps.size = a0.tmps.size
 rest : ∀ t, (∀ (i : Nat) o, ops[i]? = some o → o.dst = some t → L i = false) → a.tmps[t]? = a0.tmps[t]?
 done : ∀ (i : Nat) o, ops[i]? = some o → L i = true → ∀ d, o.dst = some d → a.tmps[d]? = some (vs i)
/-- What is owed for an operation. -/
def OwedV (P : Program) (mk : Tmp → Option Nat) (a0 : Act) (W : (Nat → Bool) → (Nat → Value) → World → Prop) (i : Nat) (o : Oper) : Prop :=
 o.guard = none ∧ ∀ (L : Nat → Bool) (vs : Nat → Value) (w : World) (r : Operand → Value), W L vs w → L i = false → (∀ j, afterB o j = true → L j = true) → factsOf mk a0 (fun j _ v => v = vs j) r w o.op.operands.toList → give P (fun v w' => W (met1 L i) (updV vs i v) w') ((execOp r o).run P w)
def OwedVs (P : Program) (mk : Tmp → Option Nat) (a0 : Act) (W : (Nat → Bool) → (Nat → Value) → World → Prop) : Nat → List Oper → Prop
 | _, [] => True
 | i, o :: l => OwedV P mk a0 W i o ∧ OwedVs P mk a0 W (i + 1) l
section
variable {P : Program} {mk : Tmp → Option Nat} {ops : List Oper} {a0 : Act} {W : (Nat → Bool) → (Nat → Value) → World → Prop} {Q : Exit → Act → World → Prop} {n : Nat}
theorem OwedVs.nil {i : Nat} : OwedVs P mk a0 W i [] := trivial
theorem Ow {i : Nat} {o : Oper} {l : List Oper} (h : OwedV P mk a0 W i o) (hl : OwedVs P mk a0 W (i + 1) l) : OwedVs P mk a0 W i (o :: l) := ⟨h, hl⟩
theorem SlotsAt.put (hsh : shapeB mk ops n = true) (hn : a0.tmps.size = n) {L : Nat → Bool} {vs : Nat → Value} {a : Act} (hI : SlotsAt ops a0 L vs a) {i : Nat} {o : Oper} (ho : ops[i]? = some o) (hl : L i = false) (v : Value) :
  SlotsAt ops a0 (met1 L i) (updV vs i v) (a.put o.dst v) := by
 have hs := shape_spec hsh ho
 refine ⟨by rw [put_defers]; exact hI.defers, by rw [put_size]; exact hI.size, fun t ht => ?_, fun j o' hj hlj d hd => ?_⟩
 ·
  have h1 : a.tmps[t]? = a0.tmps[t]? := hI.rest t fun j o' hj hd' => by
   have := ht j o' hj hd'
   by_cases hij : j = i
   ·
    subst hij; rw [met1_same] at this; cases this
   ·
    rwa [met1_other hij] at this
  cases hd : o.dst with
  | none => exact h1
  | some d =>
   have hne : d ≠ t := by
    rintro rfl
    have := ht i o ho hd
    rw [met1_same] at this; cases this
   rw [put_other v hne]; exact h1
 ·
  by_cases hij : j = i
  ·
   subst hij
   rw [ho] at hj; cases hj
   have hdn : d < n := by
    simp only [shapeOneB, hd, Bool.and_eq_true, decide_eq_true_eq] at hs
    exact hs.1.2.2
   rw [hd, put_same v (by rw [hI.size, hn]; exact hdn), updV_same]
  ·
   rw [met1_other hij] at hlj
   have h3 := hI.done j o' hj hlj d hd
   rw [updV_other hij]
   cases hd' : o.dst with
   | none => exact h3
   | some d' =>
    have hne : d' ≠ d := by
     rintro rfl
     exact hij (shape_dst hsh ho hj hd' hd).symm
    rw [put_other v hne]; exact h3
theorem SlotsAt.facts (hsh : shapeB mk ops n = true) {L : Nat → Bool} {vs : Nat → Value} {a : Act} (w : World) (hI : SlotsAt ops a0 L vs a) {i : Nat} {o : Oper} (ho : ops[i]? = some o)
  (hall : ∀ j, afterB o j = true → L j = true) : ∀ x ∈ o.op.operands.toList, factOf mk a0 (fun j _ v => v = vs j) a.eval w x := by
 intro x hx
 have hs := shape_spec hsh ho
 simp only [shapeOneB, Bool.and_eq_true, List.all_eq_true] at hs
 have h2 := hs.1.1.1.2 x hx
 cases x with
 | tmp t =>
  simp only [factOf]
  simp only [Bool.and_eq_true, beq_iff_eq] at h2
  rw [← h2.1]
  cases hm : maker ops t with
  | none =>
   simp only [Act.eval]
   have := hI.rest t fun j o' hj hd' => absurd hd' (maker_none hm hj)
   simp [this]
  | some j =>
   simp only [hm] at h2
   obtain ⟨o', hj, hd'⟩ := maker_some hm
   have := hI.done j o' hj (hall j h2.2) t hd'
   simp [Act.eval, this]
 | const c => rfl
 | global g => rfl
 | func f => rfl
theorem SlotsAt.whole (hsh : shapeB mk ops n = true) (hn : a0.tmps.size = n) {vs : Nat → Value} {a : Act} (hI : SlotsAt ops a0 (fun _ => true) vs a) : a = putAll vs ops 0 a0 := by
 have hd : a.defers = (putAll vs ops 0 a0).defers := by rw [putAll_defers, hI.defers]
 have ht : a.tmps = (putAll vs ops 0 a0).tmps := by
  apply Array.ext_getElem?
  intro t
  by_cases hm : ∃ (k : Nat) (o : Oper), ops[k]? = some o ∧ o.dst = some t
  ·
   obtain ⟨k, o, hk, hdt⟩ := hm
   have hs := shape_spec hsh hk
   simp only [shapeOneB, hdt, Bool.and_eq_true, decide_eq_true_eq] at hs
   rw [putAll_at _ t ops 0 a0 k o hk hdt (by rw [hn]; exact hs.1.2.2) (fun k' o' hk' hd' => shape_dst hsh hk' hk hd' hdt)]
   rw [Nat.zero_add]
   exact hI.done k o hk rfl t hdt
  ·
   rw [putAll_other _ t ops 0 a0 (fun o ho hdt => by
    obtain ⟨k, hk⟩ := List.getElem?_of_mem ho
    exact hm ⟨k, o, hk, hdt⟩)]
   exact hI.rest t fun i o hi hdt => absurd ⟨i, o, hi, hdt⟩ hm
 cases a
 cases h : putAll vs ops 0 a0
 rw [h] at hd ht
 simp at hd ht
 rw [hd, ht]
end
end Go.Proofs.Ytkfohggdaooieaa
/- A law on regions that draw their order and write: the writers stand in one chain, every other operation yields the same in each of the worlds between them. No condition of its own. -/
namespace Go.Proofs.Ytkfohggdaooieaa
open Go
/-- What is owed for operation number i, from world w to world w'. -/
def GoodS (P : Program) (mk : Tmp → Option Nat) (a0 : Act) (V : Nat → Value → Prop) (i : Nat) (o : Oper) (w w' : World) : Prop :=
 ∀ (r : Operand → Value), factsOf mk a0 (fun j _ v => V j v) r w o.op.operands.toList →
  match o.guard with
  | none => give P (fun v x => x = w' ∧ V i v) ((execOp r o).run P w)
  | some (g, want) => ∀ b, V g b → if asBool b == some want then give P (fun v x => x = w' ∧ V i v) ((execOp r o).run P w) else (w' = w ∧ V i undef)
section
variable {P : Program} {mk : Tmp → Option Nat} {ops : List Oper} {a0 : Act} {V : Nat → Value → Prop} {Q : Exit → Act → World → Prop} {n : Nat}
end
def GoodSAll (P : Program) (mk : Tmp → Option Nat) (a0 : Act) (V : Nat → Value → Prop) (wr : List Nat) (Ws : Nat → World) : Nat → List Oper → Prop
 | _, [] => True
 | i, o :: l => (if wr.contains i then GoodS P mk a0 V i o (Ws (wr.idxOf i)) (Ws (wr.idxOf i + 1)) else ∀ k, k ≤ wr.length → GoodS P mk a0 V i o (Ws k) (Ws k)) ∧ GoodSAll P mk a0 V wr Ws (i + 1) l
theorem GoodSAll.at {P : Program} {mk : Tmp → Option Nat} {a0 : Act} {V : Nat → Value → Prop} {wr : List Nat} {Ws : Nat → World} : ∀ {ops : List Oper} {s : Nat}, GoodSAll P mk a0 V wr Ws s ops → ∀ i o, ops[i]? = some o → (if wr.contains (s + i) then GoodS P mk a0 V (s + i) o (Ws (wr.idxOf (s + i))) (Ws (wr.idxOf (s + i) + 1)) else ∀ k, k ≤ wr.length → GoodS P mk a0 V (s + i) o (Ws k) (Ws k))
 | [], _, _, i, o, ho => by simp at ho
 | _ :: _, s, h, 0, o, ho => by simp at ho; subst ho; exact h.1
 | _ :: l, s, h, i + 1, o, ho => by
  have := GoodSAll.at (ops := l) h.2 i o (by simpa using ho)
  rwa [show s + 1 + i = s + (i + 1) by omega] at this
theorem GoodSAll.nil {P : Program} {mk : Tmp → Option Nat} {a0 : Act} {V : Nat → Value → Prop} {wr : List Nat} {Ws : Nat → World} {i : Nat} : GoodSAll P mk a0 V wr Ws i [] := trivial
theorem GoodSAll.reads {P : Program} {mk : Tmp → Option Nat} {a0 : Act} {V : Nat → Value → Prop} {wr : List Nat} {Ws : Nat → World} {i : Nat} {o : Oper} {l : List Oper} (hc : wr.contains i = false) (h : ∀ k, k ≤ wr.length → GoodS P mk a0 V i o (Ws k) (Ws k)) (hl : GoodSAll P mk a0 V wr Ws (i + 1) l) : GoodSAll P mk a0 V wr Ws i (o :: l) :=
 ⟨by rw [if_neg (by rw [hc]; simp)]; exact h, hl⟩
end Go.Proofs.Ytkfohggdaooieaa
/- The law on regions that draw their order, in a round of a loop over an iterator. No condition of its own. -/
namespace Go.Proofs.Ytkfohggdaooieaa
open Go
section
variable {P : Program} {mk : Tmp → Option Nat} {ops : List Oper} {a0 : Act} {R : World → World → Prop} {V : Nat → World → Value → Prop} {w0 : World} {Q : Exit → Act → World → Prop} {n : Nat}
end
end Go.Proofs.Ytkfohggdaooieaa
/- A law on regions that draw their order and whose last operation comes behind all others: the others by facts that are kept, the last one by what it leaves. No condition of its own. -/
namespace Go.Proofs.Ytkfohggdaooieaa
open Go
section
variable {P : Program} {mk : Tmp → Option Nat} {ops : List Oper} {a0 : Act} {R : World → World → Prop} {V : Nat → World → Value → Prop} {w0 : World} {Q : Exit → Act → World → Prop} {n : Nat}
end
end Go.Proofs.Ytkfohggdaooieaa
/- A law on regions that draw their order and write, and whose last operation lays a slot that the others read: the others by the staged law, the last one behind them. No condition of its own. -/
namespace Go.Proofs.Ytkfohggdaooieaa
open Go
section
variable {P : Program} {mk : Tmp → Option Nat} {init : List Oper} {ol : Oper} {a0 : Act} {V : Nat → Value → Prop} {Q : Exit → Act → World → Prop} {n : Nat}
end
end Go.Proofs.Ytkfohggdaooieaa
/- A law on regions that draw their order and whose last operation lays a slot that the others read: one invariant over what was met, the values yielded and the world. No condition of its own. -/
namespace Go.Proofs.Ytkfohggdaooieaa
open Go
section
variable {P : Program} {mk : Tmp → Option Nat} {a0 : Act} {W : (Nat → Bool) → (Nat → Value) → World → Prop} {n : Nat}
end
end Go.Proofs.Ytkfohggdaooieaa
/- A law on regions that draw their order, by facts on each operation but the last two: one that may write, behind all others, and one that lays its value in a slot that the others read. No condition of its own. -/
namespace Go.Proofs.Ytkfohggdaooieaa
open Go
section
variable {P : Program} {mk : Tmp → Option Nat} {a0 : Act} {R : World → World → Prop} {V : Nat → World → Value → Prop} {w0 : World} {E : World → Value → World → Prop}
end
end Go.Proofs.Ytkfohggdaooieaa
/- A law on regions that draw their order, in a round of a loop over an iterator: each operation has what it needs, what it leaves, and the one block that it may turn; what it needs and leaves is kept by every other one. No condition of its own. -/
namespace Go.Proofs.Ytkfohggdaooieaa
open Go
abbrev FactP := World → Value → (Operand → Value) → Prop
def factOfP (mk : Tmp → Option Nat) (a0 : Act) (V : Nat → FactP) (r : Operand → Value) (w : World) : Operand → Prop
 | .tmp t => match mk t with
  | some j => V j w (r (.tmp t)) r
  | none => r (.tmp t) = a0.eval (.tmp t)
 | .const c => r (.const c) = c
 | .global g => r (.global g) = .pointer (some ⟨g, 0, none⟩)
 | .func f => r (.func f) = .func (.func f) #[] #[]
def factsOfP (mk : Tmp → Option Nat) (a0 : Act) (V : Nat → FactP) (r : Operand → Value) (w : World) : List Operand → Prop
 | [] => True
 | x :: l => factOfP mk a0 V r w x ∧ factsOfP mk a0 V r w l
/-- What is owed for operation number i. i0, j0: the two operations of which A speaks. -/
def GoodP (P : Program) (mk : Tmp → Option Nat) (a0 : Act) (row : Nat → Option Nat) (U : Nat → World → Prop) (V : Nat → FactP) (i0 j0 : Nat) (A : Value → Value → Prop) (i : Nat) (o : Oper) : Prop :=
 o.guard = none ∧ ∀ (r : Operand → Value) (w : World), U i w → factsOfP mk a0 V r w o.op.operands.toList →
  give P (fun v w' => w.grownBy w' (row i) ∧ V i w' v r ∧ (i = i0 → ∀ v2 r2, V j0 w v2 r2 → A v v2) ∧ (i = j0 → ∀ v1 r1, V i0 w v1 r1 → A v1 v)) ((execOp r o).run P w)
structure InvP (ops : List Oper) (a0 : Act) (Rall : World → World → Prop) (U : Nat → World → Prop) (V : Nat → FactP) (i0 j0 : Nat) (d1 d2 : Tmp) (A : Value → Value → Prop) (w0 : World) (listed : Array Bool) (a : Act) (w : World) : Prop where
 rel : Rall w0 w
 defers : a.defers = a0.defers
 size : a.tmps.size = a0.tmps.size
 rest : ∀ t, (∀ (i : Nat) o, ops[i]? = some o → o.dst = some t → listed.getD i true = false) → a.tmps[t]? = a0.tmps[t]?
 pre : ∀ i, listed.getD i true = false → U i w
 done : ∀ (i : Nat) o, ops[i]? = some o → listed.getD i false = true → ∃ v, (∀ d, o.dst = some d → a.tmps[d]? = some v) ∧ V i w v a.eval
 deps : ∀ (i : Nat) o, ops[i]? = some o → listed.getD i false = true → ∀ e ∈ o.after, Region.binds .any e = true → listed.getD e.on false = true
 pair : listed.getD i0 false = true → listed.getD j0 false = true → ∀ v1 v2, a.tmps[d1]? = some v1 → a.tmps[d2]? = some v2 → A v1 v2
section
variable {P : Program} {mk : Tmp → Option Nat} {ops : List Oper} {a0 : Act} {Rall : World → World → Prop} {row : Nat → Option Nat} {U : Nat → World → Prop} {V : Nat → FactP} {i0 j0 : Nat} {d1 d2 : Tmp} {A : Value → Value → Prop} {w0 : World} {Q : Exit → Act → World → Prop} {n : Nat}
theorem eval_tmp (a : Act) (t : Tmp) (v : Value) (h : a.tmps[t]? = some v) : a.eval (.tmp t) = v := by
 simp [Act.eval, h]
/-- An operand of a listed operation is not filled by one that is not. -/
theorem operand_apart (hsh : shapeB mk ops n = true) {listed : Array Bool} {i j : Nat} {oi oj : Oper} (hi : ops[i]? = some oi) (hj : ops[j]? = some oj) (hli : listed.getD i true = false)
  (hdeps : ∀ e ∈ oj.after, Region.binds .any e = true → listed.getD e.on false = true) : ∀ x ∈ oj.op.operands.toList, ∀ d, oi.dst = some d → x ≠ .tmp d := by
 intro x hx d hd e
 subst e
 have hsi := shape_spec hsh hi
 have hsj := shape_spec hsh hj
 simp only [shapeOneB, hd, Bool.and_eq_true, beq_iff_eq] at hsi
 have hmk := hsi.1.2.1
 simp only [shapeOneB, Bool.and_eq_true, List.all_eq_true] at hsj
 have h2 := hsj.1.1.1.2 _ hx
 simp only [Bool.and_eq_true, beq_iff_eq] at h2
 rw [hmk] at h2
 obtain ⟨e, he, hb, hon⟩ := after_spec h2.2
 have := hdeps e he hb
 rw [hon] at this
 have hlt : i < listed.size := by
  rcases Nat.lt_or_ge i listed.size with h | h
  ·
   exact h
  ·
   simp [Array.getElem?_eq_none h] at hli
 simp [hlt] at hli this
 rw [hli] at this
 cases this
theorem InvP.facts (hsh : shapeB mk ops n = true) {listed : Array Bool} {a : Act} {w : World} (hI : InvP ops a0 Rall U V i0 j0 d1 d2 A w0 listed a w) {i : Nat} {o : Oper} (ho : ops[i]? = some o)
  (hall : ∀ e ∈ o.after, Region.binds .any e = true → listed.getD e.on false = true) : ∀ x ∈ o.op.operands.toList, factOfP mk a0 V a.eval w x := by
 intro x hx
 have hs := shape_spec hsh ho
 simp only [shapeOneB, Bool.and_eq_true, List.all_eq_true] at hs
 have h2 := hs.1.1.1.2 x hx
 cases x with
 | tmp t =>
  simp only [factOfP]
  simp only [Bool.and_eq_true, beq_iff_eq] at h2
  rw [← h2.1]
  cases hm : maker ops t with
  | none =>
   simp only [Act.eval]
   have := hI.rest t fun j o' hj hd' => absurd hd' (maker_none hm hj)
   simp [this]
  | some j =>
   simp only [hm] at h2
   obtain ⟨e, he, hb, rfl⟩ := after_spec h2.2
   obtain ⟨o', hj, hd'⟩ := maker_some hm
   obtain ⟨v, h3, h4⟩ := hI.done _ o' hj (hall e he hb)
   have := h3 t hd'
   simp only []
   rw [eval_tmp a t v this]
   exact h4
 | const c => rfl
 | global g => rfl
 | func f => rfl
theorem InvP.put (hsh : shapeB mk ops n = true) (hn : a0.tmps.size = n) (hF : ∀ (j : Nat) oj w v ρ ρ', ops[j]? = some oj → (∀ x ∈ oj.op.operands.toList, ρ x = ρ' x) → V j w v ρ → V j w v ρ')
  (hT : ∀ a b c, Rall a b → Rall b c → Rall a c) (hRa : ∀ i w w', w.grownBy w' (row i) → Rall w w')
  (hU : ∀ i j oj w w', ops[j]? = some oj → afterB oj i = false → i ≠ j → w.grownBy w' (row j) → U i w → U i w') (hV : ∀ i j w w' v ρ, i ≠ j → w.grownBy w' (row j) → V i w v ρ → V i w' v ρ)
  (hd1 : (ops[i0]?).bind (·.dst) = some d1) (hd2 : (ops[j0]?).bind (·.dst) = some d2) (hij : i0 ≠ j0)
  {listed : Array Bool} {a : Act} {w w' : World} (hI : InvP ops a0 Rall U V i0 j0 d1 d2 A w0 listed a w) {i : Nat} {o : Oper} (ho : ops[i]? = some o) (hl : listed.getD i true = false)
  (hall : ∀ e ∈ o.after, Region.binds .any e = true → listed.getD e.on false = true) {v : Value} (hR : w.grownBy w' (row i)) (hv : V i w' v a.eval)
  (hA1 : i = i0 → ∀ v2 r2, V j0 w v2 r2 → A v v2) (hA2 : i = j0 → ∀ v1 r1, V i0 w v1 r1 → A v1 v) :
  InvP ops a0 Rall U V i0 j0 d1 d2 A w0 (listed.setIfInBounds i true) (a.put o.dst v) w' := by
 have hlt : i < listed.size := by
  rcases Nat.lt_or_ge i listed.size with h | h
  ·
   exact h
  ·
   simp [Array.getElem?_eq_none h] at hl
 have hs := shape_spec hsh ho
 have hslot : ∀ (j : Nat) oj, ops[j]? = some oj → j ≠ i → ∀ d, oj.dst = some d → (a.put o.dst v).tmps[d]? = a.tmps[d]? := by
  intro j oj hj hji d hd
  cases hd' : o.dst with
  | none => simp [Act.put]
  | some d' =>
   have hne : d' ≠ d := by
    rintro rfl
    exact hji (shape_dst hsh hj ho hd hd')
   simp [Act.put, Array.getElem?_setIfInBounds_ne hne]
 have hown : ∀ d, o.dst = some d → (a.put o.dst v).tmps[d]? = some v := by
  intro d hd
  have hdn : d < n := by
   simp only [shapeOneB, hd, Bool.and_eq_true, decide_eq_true_eq] at hs
   exact hs.1.2.2
  have : d < a.tmps.size := by rw [hI.size, hn]; exact hdn
  simp [Act.put, hd, this]
 have heval : ∀ (j : Nat) oj, ops[j]? = some oj → (∀ e ∈ oj.after, Region.binds .any e = true → listed.getD e.on false = true) → ∀ x ∈ oj.op.operands.toList, a.eval x = (a.put o.dst v).eval x := fun j oj hj hdep x hx =>
  (Act.eval_put (fun d hd => operand_apart hsh ho hj hl hdep x hx d hd)).symm
 refine ⟨hT _ _ _ hI.rel (hRa _ _ _ hR), ?_, ?_, ?_, ?_, ?_, ?_, ?_⟩
 ·
  cases hd : o.dst <;> simp [Act.put, hI.defers]
 ·
  cases hd : o.dst <;> simp [Act.put, hI.size]
 ·
  intro t ht
  have h1 : a.tmps[t]? = a0.tmps[t]? := hI.rest t fun j o' hj hd' => by
   have := ht j o' hj hd'
   by_cases hij : i = j
   ·
    subst hij; simp [hlt] at this
   ·
    rw [getD_set_ne true hij] at this; exact this
  cases hd : o.dst with
  | none => simpa [Act.put] using h1
  | some d =>
   have hne : d ≠ t := by
    rintro rfl
    have := ht i o ho hd
    simp [hlt] at this
   simpa [Act.put, Array.getElem?_setIfInBounds_ne hne] using h1
 ·
  intro j hj
  have hji : j ≠ i := by rintro rfl; simp [hlt] at hj
  rw [getD_set_ne true (Ne.symm hji)] at hj
  have haf : afterB o j = false := by
   cases h : afterB o j with
   | false => rfl
   | true =>
    exfalso
    obtain ⟨e, he, hb, hon⟩ := after_spec h
    have h2 := hall e he hb
    rw [hon] at h2
    have hlt2 : j < listed.size := by
     rcases Nat.lt_or_ge j listed.size with h | h
     ·
      exact h
     ·
      simp [Array.getElem?_eq_none h] at hj
    simp [hlt2] at hj h2
    rw [hj] at h2
    cases h2
  exact hU j i o _ _ ho haf hji hR (hI.pre j hj)
 ·
  intro j oj hj hlj
  by_cases hji : j = i
  ·
   subst hji
   rw [ho] at hj; cases hj
   exact ⟨v, hown, hF j o _ _ _ _ ho (heval j o ho hall) hv⟩
  ·
   have hlj' : listed.getD j false = true := by
    rw [getD_set_ne false (Ne.symm hji)] at hlj; exact hlj
   obtain ⟨v', h1, h2⟩ := hI.done j oj hj hlj'
   refine ⟨v', fun d hd => (hslot j oj hj hji d hd).trans (h1 d hd), ?_⟩
   exact hF j oj _ _ _ _ hj (heval j oj hj (hI.deps j oj hj hlj')) (hV j i _ _ _ _ hji hR h2)
 ·
  intro j oj hj hlj e he hb
  by_cases hji : j = i
  ·
   subst hji
   rw [ho] at hj; cases hj
   exact getD_set_true (hall e he hb)
  ·
   have hlj' : listed.getD j false = true := by
    rw [getD_set_ne false (Ne.symm hji)] at hlj; exact hlj
   exact getD_set_true (hI.deps j oj hj hlj' e he hb)
 ·
  intro h1 h2 v1 v2 e1 e2
  obtain ⟨oi0, hoi, hdi⟩ := Option.bind_eq_some_iff.1 hd1
  obtain ⟨oj0, hoj, hdj⟩ := Option.bind_eq_some_iff.1 hd2
  by_cases c1 : i = i0
  ·
   subst c1
   rw [ho] at hoi; cases hoi
   rw [hown d1 hdi] at e1; cases e1
   have hlj : listed.getD j0 false = true := by rw [getD_set_ne false hij] at h2; exact h2
   obtain ⟨v', k1, k2⟩ := hI.done j0 oj0 hoj hlj
   rw [hslot j0 oj0 hoj (Ne.symm hij) d2 hdj, k1 d2 hdj] at e2; cases e2
   exact hA1 rfl _ _ k2
  ·
   by_cases c2 : i = j0
   ·
    subst c2
    rw [ho] at hoj; cases hoj
    rw [hown d2 hdj] at e2; cases e2
    have hli : listed.getD i0 false = true := by rw [getD_set_ne false c1] at h1; exact h1
    obtain ⟨v', k1, k2⟩ := hI.done i0 oi0 hoi hli
    rw [hslot i0 oi0 hoi (Ne.symm c1) d1 hdi, k1 d1 hdi] at e1; cases e1
    exact hA2 rfl _ _ k2
   ·
    rw [getD_set_ne false c1] at h1
    rw [getD_set_ne false c2] at h2
    rw [hslot i0 oi0 hoi (Ne.symm c1) d1 hdi] at e1
    rw [hslot j0 oj0 hoj (Ne.symm c2) d2 hdj] at e2
    exact hI.pair h1 h2 v1 v2 e1 e2
def GoodPAll (P : Program) (mk : Tmp → Option Nat) (a0 : Act) (row : Nat → Option Nat) (U : Nat → World → Prop) (V : Nat → FactP) (i0 j0 : Nat) (A : Value → Value → Prop) : Nat → List Oper → Prop
 | _, [] => True
 | i, o :: l => GoodP P mk a0 row U V i0 j0 A i o ∧ GoodPAll P mk a0 row U V i0 j0 A (i + 1) l
theorem GoodPAll.at {P : Program} {mk : Tmp → Option Nat} {a0 : Act} {row : Nat → Option Nat} {U : Nat → World → Prop} {V : Nat → FactP} {i0 j0 : Nat} {A : Value → Value → Prop} : ∀ {ops : List Oper} {k : Nat}, GoodPAll P mk a0 row U V i0 j0 A k ops → ∀ i o, ops[i]? = some o → GoodP P mk a0 row U V i0 j0 A (k + i) o
 | [], _, _, i, o, ho => by simp at ho
 | _ :: _, k, h, 0, o, ho => by simp at ho; subst ho; exact h.1
 | _ :: l, k, h, i + 1, o, ho => by
  have := GoodPAll.at (ops := l) h.2 i o (by simpa using ho)
  rwa [show k + 1 + i = k + (i + 1) by omega] at this
end
end Go.Proofs.Ytkfohggdaooieaa
/- Slices of bytes in memory: what reads as a list of bytes, what of it is kept while memory only grows, what append and the conversion to a string make of it. No condition of its own. -/
namespace Go.Proofs.Ytkfohggdaooieaa
open Go.RowKit
/-- Memory has only grown: every block that stood stands as it was. -/
def Ext (w w' : World) : Prop := Below w.heap.size w w'
theorem Ext.refl (w : World) : Ext w w := Below.refl _ _
theorem Ext.trans {a b c : World} (h : Ext a b) (k : Ext b c) : Ext a c := Below.trans h (Below.mono k h.size)
theorem Ext.alloc (w : World) (o : Obj) : Ext w (w.alloc o) := (Below.refl _ _).alloc (Nat.le_refl _) o
theorem Ext.drew (w : World) : Ext w w.drew := (Below.refl _ _).drew
theorem Ext.below {w w' : World} (h : Ext w w') : Below w.heap.size w w' := h
theorem Ext.size {w w' : World} (h : Ext w w') : w.heap.size ≤ w'.heap.size := Below.size h
theorem Ext.on {w w1 w2 : World} {B : Nat} (h : Ext w w1) (h2 : Below B w1 w2) (hB : w.heap.size ≤ B) : Ext w w2 := Below.trans h (h2.mono hB)
/-- One world, or the world at the end: for a region with one writer. -/
def Fin1 (wF x y : World) : Prop := y = x ∨ y = wF
theorem Fin1.refl {wF : World} (x : World) : Fin1 wF x x := .inl rfl
theorem Fin1.trans {wF a b c : World} (h : Fin1 wF a b) (k : Fin1 wF b c) : Fin1 wF a c := by
 rcases k with rfl | rfl
 ·
  exact h
 ·
  exact .inr rfl
theorem cell_lt {w : World} {a : Addr} {v : Value} (h : w.cell? a = some v) : a.block < w.heap.size := by
 rcases Nat.lt_or_ge a.block w.heap.size with h' | h'
 ·
  exact h'
 ·
  simp [World.cell?, Array.getElem?_eq_none h'] at h
theorem Ext.cell {w w' : World} (h : Ext w w') {a : Addr} {v : Value} (hc : w.cell? a = some v) : w'.cell? a = some v := by
 rw [Below.cell h (cell_lt hc)]; exact hc
theorem Below.cellAt {B : Nat} {w w' : World} (h : Below B w w') {a : Addr} {v : Value} (hc : w.cell? a = some v) (hB : a.block < B) : w'.cell? a = some v := by
 rw [Below.cell h hB]; exact hc
theorem cellNew (w : World) (C : Array Value) (t : TypeId) (fr : Nat × Nat) (n j : Nat) (hn : n = w.heap.size) : (w.alloc (.cells C t fr)).cell? ⟨n, j, none⟩ = C[j]? := by
 subst hn; exact World.cell?_alloc_mark w C t fr j
theorem add_plain (b off j : Nat) : (⟨b, off, none⟩ : Addr).add j = ⟨b, off + j, none⟩ := by unfold Addr.add; split <;> simp_all
/-- A slice that reads as these bytes. -/
def BytesAt (w : World) (v : Value) (l : List Nat) : Prop :=
 (∀ x ∈ l, x < 256) ∧ l.length ≤ maxLen ∧ ((l = [] ∧ v = .slice none 0 0) ∨
  ∃ ad cap, v = .slice (some ad) l.length cap ∧ l.length ≤ cap ∧ cap ≤ maxLen ∧ ∀ j, j < l.length → w.cell? (ad.add j) = some (.int .u8 (l.getD j 0 : Nat)))
theorem BytesAt.ext {w w' : World} {v : Value} {l : List Nat} (h : BytesAt w v l) (he : Ext w w') : BytesAt w' v l := by
 obtain ⟨h1, h2, h3⟩ := h
 refine ⟨h1, h2, h3.imp id ?_⟩
 rintro ⟨ad, cap, rfl, h4, h5, hc⟩
 exact ⟨ad, cap, rfl, h4, h5, fun j hj => he.cell (hc j hj)⟩
/-- In a walk: the slice's shape, and each cell by its block and place. -/
theorem BytesAt.form {w : World} {v : Value} {l : List Nat} (h : BytesAt w v l) :
  ∃ a cap, v = .slice a l.length cap ∧ (l.length ≤ cap ∧ cap ≤ maxLen) ∧ ∀ j, j < l.length → ∃ b off, a = some ⟨b, off, none⟩ ∧ w.cell? ⟨b, off + j, none⟩ = some (.int .u8 (l.getD j 0 : Nat)) := by
 obtain ⟨_, _, ⟨rfl, rfl⟩ | ⟨ad, cap, rfl, h4, h5, hc⟩⟩ := h
 ·
  exact ⟨none, 0, rfl, ⟨by simp, by simp⟩, fun j hj => by simp at hj⟩
 ·
  refine ⟨some ad, cap, rfl, ⟨h4, h5⟩, fun j hj => ?_⟩
  obtain ⟨b, off, spot⟩ := ad
  have h0 := hc 0 (by omega)
  have hs : spot = none := by simpa [Addr.add] using World.cell?_spot h0
  subst hs
  refine ⟨b, off, rfl, ?_⟩
  have := hc j hj
  rwa [add_plain] at this
/-- A slice of slices that reads as these lists of bytes. -/
def PartsAt (w : World) (v : Value) (ls : List (List Nat)) : Prop :=
 ls.length ≤ 1000 ∧ ∃ b off cap, v = .slice (some ⟨b, off, none⟩) ls.length cap ∧ ∀ i, i < ls.length → ∃ u, w.cell? ⟨b, off + i, none⟩ = some u ∧ BytesAt w u (ls.getD i [])
theorem PartsAt.ext {w w' : World} {v : Value} {ls : List (List Nat)} (h : PartsAt w v ls) (he : Ext w w') : PartsAt w' v ls := by
 obtain ⟨h1, b, off, cap, rfl, hc⟩ := h
 refine ⟨h1, b, off, cap, rfl, fun i hi => ?_⟩
 obtain ⟨u, hu, hb⟩ := hc i hi
 exact ⟨u, he.cell hu, hb.ext he⟩
def cellsB (l : List Nat) : List Value := l.map fun x => .int .u8 (x : Nat)
/-- A slice of bytes in a block of the call's own, from block 'base' on. -/
def OwnB (w : World) (base : Nat) (e : TypeId) (v : Value) (l : List Nat) : Prop :=
 (∀ x ∈ l, x < 256) ∧ (∃ g cap, v = .slice (some ⟨g, 0, none⟩) l.length cap ∧ base ≤ g ∧ g < w.heap.size ∧ l.length ≤ cap ∧ cap ≤ maxLen) ∧ w.ownsRow base e 1 v l.length (cellsB l)
theorem OwnB.bytes {w : World} {base : Nat} {e : TypeId} {v : Value} {l : List Nat} (h : OwnB w base e v l) : BytesAt w v l := by
 obtain ⟨h1, ⟨g, cap, rfl, _, _, hle, hm⟩, hown⟩ := h
 refine ⟨h1, by omega, .inr ⟨⟨g, 0, none⟩, cap, rfl, hle, hm, fun j hj => ?_⟩⟩
 have := hown.cellAt j (by omega)
 rw [add_plain, Nat.zero_add, this]
 simp [cellsB, List.getD_eq_getElem?_getD, hj]
theorem OwnB.below {w w' : World} {base B : Nat} {e : TypeId} {v : Value} {l : List Nat} (h : OwnB w base e v l) (hw : Below B w w') (hB : w.heap.size ≤ B) : OwnB w' base e v l := by
 obtain ⟨h1, ⟨g, cap, rfl, hg, hlt, hle, hm⟩, h2, h3⟩ := h
 refine ⟨h1, ⟨g, cap, rfl, hg, Nat.lt_of_lt_of_le hlt hw.size, hle, hm⟩, h2, ?_⟩
 rcases h3 with ⟨h3, _⟩ | ⟨g', cap', cur, h3, h4, h5, h6⟩
 ·
  simp at h3
 ·
  refine .inr ⟨g', cap', cur, h3, h4, ?_, h6⟩
  simp at h3
  obtain ⟨rfl, rfl⟩ := h3
  rw [hw.block g (by omega)]; exact h5
theorem OwnB.ext {w w' : World} {base : Nat} {e : TypeId} {v : Value} {l : List Nat} (h : OwnB w base e v l) (he : Ext w w') : OwnB w' base e v l := h.below he (Nat.le_refl _)
theorem OwnB.cellAt {w : World} {base g n c : Nat} {e : TypeId} {l : List Nat} (h : OwnB w base e (.slice (some ⟨g, 0, none⟩) n c) l) (j : Nat) (hj : j < l.length) : w.cell? ⟨g, j, none⟩ = some (.int .u8 (l.getD j 0 : Nat)) := by
 have hn : n = l.length := by
  obtain ⟨_, ⟨g', c', e1, _⟩, _⟩ := h
  simp only [Value.slice.injEq] at e1
  exact e1.2.1
 subst hn
 have := h.2.2.cellAt j (by omega)
 rw [this]
 simp [cellsB, List.getD_eq_getElem?_getD, hj]
theorem OwnB.grown {w w' : World} {base : Nat} {e : TypeId} {v : Value} {l : List Nat} {row : Option Nat} (h : OwnB w base e v l) (hg : w.grownBy w' row) (hne : v.ownBlock ≠ row) : OwnB w' base e v l := by
 obtain ⟨h1, ⟨g, c, rfl, h2, h3, h4, h5⟩, h6⟩ := h
 exact ⟨h1, ⟨g, c, rfl, h2, Nat.lt_of_lt_of_le h3 hg.size, h4, h5⟩, h6.kept hg (.inr hne)⟩
/-- One byte stored. -/
theorem OwnB.stored {w : World} {base g n c : Nat} {e : TypeId} {l : List Nat} (h : OwnB w base e (.slice (some ⟨g, 0, none⟩) n c) l) (j x : Nat) (hx : x < 256) : OwnB (w.setCell ⟨g, j, none⟩ (.int .u8 (x : Nat))) base e (.slice (some ⟨g, 0, none⟩) n c) (l.set j x) ∧ w.grownBy (w.setCell ⟨g, j, none⟩ (.int .u8 (x : Nat))) (some g) := by
 have hn : n = l.length := by
  obtain ⟨_, ⟨g', c', e1, _⟩, _⟩ := h
  simp only [Value.slice.injEq] at e1
  exact e1.2.1
 subst hn
 have hs := h.2.2.stored j (.int .u8 (x : Nat))
 refine ⟨⟨fun y hy => ?_, ?_, ?_⟩, hs.2⟩
 ·
  rcases List.mem_or_eq_of_mem_set hy with h' | h'
  ·
   exact h.1 y h'
  ·
   omega
 ·
  obtain ⟨_, ⟨g', c', e1, h2, h3, h4, h5⟩, _⟩ := h
  simp only [Value.slice.injEq, Option.some.injEq, Addr.mk.injEq, and_true, true_and] at e1
  obtain ⟨rfl, rfl⟩ := e1
  exact ⟨g, c, by simp, h2, by simpa using h3, by simpa using h4, h5⟩
 ·
  rw [List.length_set]
  have e2 : cellsB (l.set j x) = (cellsB l).set j (.int .u8 (x : Nat)) := by simp [cellsB, List.map_set]
  rw [e2]
  exact hs.1
theorem OwnB.cap {w : World} {base g n c : Nat} {e : TypeId} {l : List Nat} (h : OwnB w base e (.slice (some ⟨g, 0, none⟩) n c) l) : n = l.length ∧ l.length ≤ c ∧ c ≤ maxLen ∧ base ≤ g ∧ g < w.heap.size := by
 obtain ⟨_, ⟨g', c', e1, h1, h2, h3, h4⟩, _⟩ := h
 simp only [Value.slice.injEq, Option.some.injEq, Addr.mk.injEq, and_true] at e1
 obtain ⟨rfl, e2, rfl⟩ := e1
 exact ⟨e2, h3, h4, h1, h2⟩
theorem BytesAt.none (w : World) : BytesAt w (.slice none 0 0) [] := ⟨by simp, by simp, .inl ⟨rfl, rfl⟩⟩
end Go.Proofs.Ytkfohggdaooieaa
/- Small words: numbers in their bounds, answers that are equal. No condition of its own. -/
namespace Go.Proofs.Ytkfohggdaooieaa
open Go.RowKit
end Go.Proofs.Ytkfohggdaooieaa
/- Slices of numbers in memory: what reads as a list of numbers, what append makes of it; what a loop over an iterator keeps. No condition of its own. -/
namespace Go.Proofs.Ytkfohggdaooieaa
open Go.RowKit Go.Shelf
/-- A slice that reads as these numbers. -/
def NumsAt (k : IntKind) (w : World) (v : Value) (l : List Int) : Prop :=
 l.length ≤ maxLen ∧ ((l = [] ∧ v = .slice none 0 0) ∨
  ∃ ad cap, v = .slice (some ad) l.length cap ∧ l.length ≤ cap ∧ cap ≤ maxLen ∧ ∀ j, j < l.length → w.cell? (ad.add j) = some (.int k (l.getD j 0)))
def blockOf : Value → Option Nat
 | .slice (some ad) _ _ => some ad.block
 | _ => none
theorem add_block (a : Addr) (j : Nat) : (a.add j).block = a.block := by unfold Addr.add; split <;> rfl
/-- It reads so wherever its block lies as it lay. -/
theorem NumsAt.via {k : IntKind} {w w' : World} {v : Value} {l : List Int} (h : NumsAt k w v l) (hb : ∀ b, blockOf v = some b → b < w.heap.size → w'.heap[b]? = w.heap[b]?) : NumsAt k w' v l := by
 obtain ⟨h2, h3⟩ := h
 refine ⟨h2, h3.imp id ?_⟩
 rintro ⟨ad, cap, rfl, h4, h5, hc⟩
 refine ⟨ad, cap, rfl, h4, h5, fun j hj => ?_⟩
 have h0 := hc j hj
 have hlt := cell_lt h0
 rw [add_block] at hlt
 refine (World.cell?_of_block ?_).trans h0
 rw [add_block]
 exact hb _ rfl hlt
theorem NumsAt.ext {k : IntKind} {w w' : World} {v : Value} {l : List Int} (h : NumsAt k w v l) (he : Ext w w') : NumsAt k w' v l := h.via fun b _ hb => he.block b hb
theorem NumsAt.form {k : IntKind} {w : World} {v : Value} {l : List Int} (h : NumsAt k w v l) :
  ∃ a cap, v = .slice a l.length cap ∧ (l.length ≤ cap ∧ cap ≤ maxLen) ∧ ∀ j, j < l.length → ∃ b off, a = some ⟨b, off, none⟩ ∧ w.cell? ⟨b, off + j, none⟩ = some (.int k (l.getD j 0)) := by
 obtain ⟨_, ⟨rfl, rfl⟩ | ⟨ad, cap, rfl, h4, h5, hc⟩⟩ := h
 ·
  exact ⟨.none, 0, rfl, ⟨by simp, by simp⟩, fun j hj => by simp at hj⟩
 ·
  refine ⟨some ad, cap, rfl, ⟨h4, h5⟩, fun j hj => ?_⟩
  obtain ⟨b, off, spot⟩ := ad
  have h0 := hc 0 (by omega)
  have hs : spot = .none := by simpa [Addr.add] using World.cell?_spot h0
  subst hs
  refine ⟨b, off, rfl, ?_⟩
  have := hc j hj
  rwa [add_plain] at this
/-- A slice of numbers in a block of the call's own (or none). -/
def OwnN (k : IntKind) (w : World) (base : Nat) (e : TypeId) (v : Value) (l : List Int) : Prop := w.ownsRow base e 1 v l.length (l.map (Value.int k)) ∧ l.length ≤ maxLen
theorem OwnN.nil (k : IntKind) (w : World) (base : Nat) (e : TypeId) : OwnN k w base e (.slice none 0 0) [] := ⟨World.ownsRow_nil _ _ _ _, by simp⟩
theorem OwnN.slice {k : IntKind} {w : World} {base : Nat} {e : TypeId} {v : Value} {l : List Int} (h : OwnN k w base e v l) : ∃ a cap, v = .slice a l.length cap ∧ (a = .none → l = [] ∧ cap = 0) ∧ (∀ x, a = some x → ∃ g, x = ⟨g, 0, .none⟩ ∧ base ≤ g ∧ g < w.heap.size) := by
 rcases h.1.2 with ⟨rfl, h0⟩ | ⟨g, cap, cur, rfl, hb, hg, _⟩
 ·
  have : l = [] := List.eq_nil_of_length_eq_zero h0
  subst this
  exact ⟨.none, 0, rfl, fun _ => ⟨rfl, rfl⟩, fun x hx => by cases hx⟩
 ·
  exact ⟨_, _, rfl, (fun h => by cases h), (fun x hx => by cases hx; exact ⟨g, rfl, hb, (Array.getElem?_eq_some_iff.1 hg).1⟩)⟩
theorem OwnN.kept {k : IntKind} {w w' : World} {base : Nat} {e : TypeId} {v : Value} {l : List Int} {row : Option Nat} (h : OwnN k w base e v l) (hg : w.grownBy w' row) (hne : v.ownBlock = .none ∨ v.ownBlock ≠ row) : OwnN k w' base e v l := ⟨h.1.kept hg hne, h.2⟩
theorem OwnN.ext {k : IntKind} {w w' : World} {base : Nat} {e : TypeId} {v : Value} {l : List Int} (h : OwnN k w base e v l) (he : Ext w w') : OwnN k w' base e v l :=
 h.kept (row := .none) ⟨he.os, he.tape, he.output, he.size, fun j hj _ => he.block j hj⟩ (by
  rcases h.1.2 with ⟨rfl, _⟩ | ⟨g, cap, cur, rfl, _⟩
  ·
   exact .inl rfl
  ·
   exact .inr (by simp [Value.ownBlock]))
/-- Two slices of the call's own, in two blocks. -/
def Apart (u v : Value) : Prop := ∀ g, u.ownBlock = some g → v.ownBlock ≠ some g
theorem Apart.symm {u v : Value} (h : Apart u v) : Apart v u := fun g hg hu => h g hu hg
theorem OwnN.lt {k : IntKind} {w : World} {base : Nat} {e : TypeId} {v : Value} {l : List Int} (h : OwnN k w base e v l) {g : Nat} (hg : v.ownBlock = some g) : base ≤ g ∧ g < w.heap.size := by
 rcases h.1.2 with ⟨rfl, _⟩ | ⟨g', cap, cur, rfl, hb, hgb, _⟩
 ·
  simp [Value.ownBlock] at hg
 ·
  simp [Value.ownBlock] at hg
  subst hg
  exact ⟨hb, (Array.getElem?_eq_some_iff.1 hgb).1⟩
theorem Apart.grown {u u' v : Value} {N : Nat} (h : Apart u v) (hv : ∀ g, v.ownBlock = some g → g < N) (h4 : u'.ownBlock = u.ownBlock ∨ u'.ownBlock = some N) : Apart u' v := fun g hg hvg => by
 rcases h4 with h4 | h4
 ·
  rw [h4] at hg; exact h g hg hvg
 ·
  rw [h4] at hg; cases hg; have := hv _ hvg; omega
theorem NumsAt.one {k : IntKind} (w : World) (x : Int) (t b : Nat) (hb : b = w.heap.size) : NumsAt k (w.alloc (.cells #[.int k x] t)) (.slice (some ⟨b, 0, none⟩) 1 1) [x] := by
 refine ⟨by simp [maxLen], .inr ⟨⟨b, 0, none⟩, 1, rfl, by simp, by simp [maxLen], fun j hj => ?_⟩⟩
 obtain rfl : j = 0 := by simp at hj; exact hj
 rw [add_plain, cellNew _ _ _ _ _ _ hb]
 rfl
theorem OwnN.stored {k : IntKind} {w : World} {base g n c : Nat} {e : TypeId} {l : List Int} (h : OwnN k w base e (.slice (some ⟨g, 0, none⟩) n c) l) (j : Nat) (x : Int) : OwnN k (w.setCell ⟨g, j, none⟩ (.int k x)) base e (.slice (some ⟨g, 0, none⟩) n c) (l.set j x) ∧ w.grownBy (w.setCell ⟨g, j, none⟩ (.int k x)) (some g) := by
 have hn : n = l.length := by
  obtain ⟨a, c', e1, _⟩ := h.slice
  simp only [Value.slice.injEq] at e1
  exact e1.2.1
 subst hn
 have hs := h.1.stored j (.int k x)
 refine ⟨⟨?_, by simpa using h.2⟩, hs.2⟩
 rw [List.length_set, List.map_set]
 exact hs.1
theorem OwnN.below {k : IntKind} {w w0 w' : World} {base : Nat} {e : TypeId} {v : Value} {l : List Int} (h : OwnN k w base e v l) (hb : Below base w0 w) (hg : w.grownBy w' v.ownBlock) (hs : base ≤ w.heap.size) : Below base w0 w' :=
 hb.grown hg hs (fun j ej => (h.lt ej).1)
end Go.Proofs.Ytkfohggdaooieaa
/- One number put behind a slice of the call's own: in place, or in a new block. No condition of its own. -/
namespace Go.Proofs.Ytkfohggdaooieaa
open Go.RowKit
end Go.Proofs.Ytkfohggdaooieaa
/- What a loop keeps but for some blocks; slices of the call's own in their boxes. No condition of its own. -/
namespace Go.Proofs.Ytkfohggdaooieaa
open Go Go.RowKit
/-- All that lay but the blocks of S lies as it lay. -/
structure KeepBut (S : Nat → Prop) (w w' : World) : Prop where
 os : w'.os = w.os
 tape : w'.tape = w.tape
 output : w'.output = w.output
 size : w.heap.size ≤ w'.heap.size
 block : ∀ k, k < w.heap.size → ¬ S k → w'.heap[k]? = w.heap[k]?
theorem KeepBut.refl (S : Nat → Prop) (w : World) : KeepBut S w w := ⟨rfl, rfl, rfl, Nat.le_refl _, fun _ _ _ => rfl⟩
theorem KeepBut.trans {S : Nat → Prop} {a b c : World} (h : KeepBut S a b) (k : KeepBut S b c) : KeepBut S a c :=
 ⟨k.os.trans h.os, k.tape.trans h.tape, k.output.trans h.output, Nat.le_trans h.size k.size, fun i hi hn => (k.block i (Nat.lt_of_lt_of_le hi h.size) hn).trans (h.block i hi hn)⟩
theorem KeepBut.grown {S : Nat → Prop} {w w' : World} {row : Option Nat} (h : w.grownBy w' row) (hr : ∀ r, row = some r → S r) : KeepBut S w w' :=
 ⟨h.os, h.tape, h.output, h.size, fun k hk hn => h.block k hk (fun e => hn (hr k e.symm))⟩
theorem OwnN.base {k : IntKind} {w : World} {base base' : Nat} {e : TypeId} {v : Value} {l : List Int} (h : OwnN k w base e v l) (hb : base' ≤ base) : OwnN k w base' e v l := by
 refine ⟨⟨h.1.1, ?_⟩, h.2⟩
 rcases h.1.2 with h0 | ⟨g, cap, cur, h1, h2, h3⟩
 ·
  exact .inl h0
 ·
  exact .inr ⟨g, cap, cur, h1, by omega, h3⟩
theorem OwnN.via {k : IntKind} {w w' : World} {base : Nat} {e : TypeId} {v : Value} {l : List Int} (h : OwnN k w base e v l) (hb : ∀ g, v.ownBlock = some g → w'.heap[g]? = w.heap[g]?) : OwnN k w' base e v l := by
 refine ⟨⟨h.1.1, ?_⟩, h.2⟩
 rcases h.1.2 with h0 | ⟨g, cap, cur, h1, h2, h3, h4⟩
 ·
  exact .inl h0
 ·
  refine .inr ⟨g, cap, cur, h1, h2, ?_, h4⟩
  rw [hb g (by rw [h1]; rfl)]; exact h3
/-- What an iterator's round must keep: the blocks from lo up to hi. -/
def KpR (lo hi : Nat) (W W' : World) : Prop := ∀ k, lo ≤ k → k < hi → W'.heap[k]? = W.heap[k]?
theorem KpR.t {lo hi : Nat} {A B C : World} (h : KpR lo hi A B) (k : KpR lo hi B C) : KpR lo hi A C := fun i h1 h2 => (k i h1 h2).trans (h i h1 h2)
theorem KpR.b {lo hi : Nat} {w : World} (hn : hi ≤ w.heap.size) (W : World) (l : Nat) (o o' : Obj) (hl : w.heap.size ≤ l) (_ : W.heap[l]? = some o) (_ : o.isCells = false) (_ : o.isWalk = false) : KpR lo hi W (W.putObj l o') :=
 fun i _ h2 => World.putObj_heap_other (by omega)
theorem KpR.box {lo hi B : Nat} {W W' : World} {t : TypeId} {v : Value} (h : KpR lo hi W W') (h1 : lo ≤ B) (h2 : B < hi) (hb : Boxed W B t v) : Boxed W' B t v := (h B h1 h2).trans hb
theorem KpR.refl (lo hi : Nat) (W : World) : KpR lo hi W W := fun _ _ _ => rfl
theorem KpR.grown {lo hi : Nat} {W W' : World} {row : Option Nat} (hg : W.grownBy W' row) (hs : hi ≤ W.heap.size) (hr : ∀ r, row = some r → r < lo ∨ hi ≤ r) : KpR lo hi W W' := fun i h1 h2 => hg.block i (by omega) (fun e => by have := hr i e.symm; omega)
end Go.Proofs.Ytkfohggdaooieaa
/- Blocks as they lie: cells of a block, stores, boxes that are kept; slices of numbers cut; a block that is put. No condition of its own. -/
namespace Go.Proofs.Ytkfohggdaooieaa
open Go.RowKit
theorem cell_of_block {w : World} {b t : Nat} {C : Array Value} {fr : Nat × Nat} (h : w.heap[b]? = some (.cells C t fr)) (j : Nat) : w.cell? ⟨b, j, none⟩ = C[j]? := by
 simp [World.cell?, h]
theorem frozen_of_block {w : World} {b t : Nat} {C : Array Value} (h : w.heap[b]? = some (.cells C t (0, 0))) (j : Nat) : w.frozen? ⟨b, j, none⟩ = false := by
 simp [World.frozen?, h]
theorem block_set {w : World} {b t : Nat} {C : Array Value} {fr : Nat × Nat} (h : w.heap[b]? = some (.cells C t fr)) (j : Nat) (x : Value) : (w.setCell ⟨b, j, none⟩ x).heap[b]? = some (.cells (C.setIfInBounds j x) t fr) := by
 simp [World.setCell, Array.getElem?_modify, h]
theorem block_other {w : World} {b g : Nat} (hne : g ≠ b) (j : Nat) (x : Value) : (w.setCell ⟨b, j, none⟩ x).heap[g]? = w.heap[g]? := by
 simp [World.setCell, Array.getElem?_modify, Ne.symm hne]
/-- An operation whose run is known, in a plain region. -/
theorem wpList_of_run {P : Program} {w w' : World} {ops : Array Oper} {rest : List Oper} {o : Oper} {a : Act} {Q : Exit → Act → World → Prop} {v : Value} (hgd : o.guard = none) (hrun : (execOp a.eval o).run P w = .ok (.value v) w') (h : wpList P ops Q rest (a.put o.dst v) w') : wpList P ops Q (o :: rest) a w := by
 refine wpList_plain hgd fun K hK => ?_
 unfold Oper.wp
 rw [hrun]
 exact hK _ _ h
theorem NumsAt.cellAt {k : IntKind} {w : World} {a : Option Addr} {n c : Nat} {l : List Int} (h : NumsAt k w (.slice a n c) l) (j : Nat) (hj : j < l.length) : ∃ b off, a = some ⟨b, off, none⟩ ∧ w.cell? ⟨b, off + j, none⟩ = some (.int k (l.getD j 0)) := by
 obtain ⟨a', c', e, _, hc⟩ := h.form
 cases e
 exact hc j hj
/-- Where a slice lies: where another lay, or in new memory. -/
def Came (w w' : World) (u u' : Value) : Prop := ∀ g, blockOf u' = some g → blockOf u = some g ∨ (w.heap.size ≤ g ∧ g < w'.heap.size)
theorem Came.same (w w' : World) (u : Value) : Came w w' u u := fun g hg => .inl hg
section
variable {w w1 : World} {o1 o2 : Obj}
end
/-- The heap stays, but that one block may be put. -/
structure Puts (B : Nat) (o : Obj) (W W' : World) : Prop where
 os : W'.os = W.os
 tape : W'.tape = W.tape
 output : W'.output = W.output
 size : W'.heap.size = W.heap.size
 block : ∀ k, k ≠ B → W'.heap[k]? = W.heap[k]?
 it : W'.heap[B]? = W.heap[B]? ∨ W'.heap[B]? = some o
theorem Puts.refl {B : Nat} {o : Obj} (W : World) : Puts B o W W := ⟨rfl, rfl, rfl, rfl, fun _ _ => rfl, .inl rfl⟩
theorem Puts.trans {B : Nat} {o : Obj} {a b c : World} (h : Puts B o a b) (k : Puts B o b c) : Puts B o a c :=
 ⟨k.os.trans h.os, k.tape.trans h.tape, k.output.trans h.output, k.size.trans h.size, fun i hi => (k.block i hi).trans (h.block i hi), by
  rcases k.it with k1 | k1
  ·
   rcases h.it with h1 | h1
   ·
    exact .inl (k1.trans h1)
   ·
    exact .inr (k1.trans h1)
  ·
   exact .inr k1⟩
theorem Puts.cell {B : Nat} {o : Obj} {W W' : World} (h : Puts B o W W') {k j : Nat} (hk : k ≠ B) : W'.cell? ⟨k, j, none⟩ = W.cell? ⟨k, j, none⟩ := World.cell?_of_block (h.block k hk)
/-- Three cells stored make the block whole. -/
theorem Puts.store {B t : Nat} {x0 x1 x2 y0 y1 y2 : Value} {W : World} (h : W.heap[B]? = some (.cells #[x0, x1, x2] t (0, 0))) :
  Puts B (.cells #[y0, y1, y2] t (0, 0)) W (((W.setCell ⟨B, 0, none⟩ y0).setCell ⟨B, 1, none⟩ y1).setCell ⟨B, 2, none⟩ y2) ∧ (((W.setCell ⟨B, 0, none⟩ y0).setCell ⟨B, 1, none⟩ y1).setCell ⟨B, 2, none⟩ y2).heap[B]? = some (.cells #[y0, y1, y2] t (0, 0)) := by
 have h3 : (((W.setCell ⟨B, 0, none⟩ y0).setCell ⟨B, 1, none⟩ y1).setCell ⟨B, 2, none⟩ y2).heap[B]? = some (.cells #[y0, y1, y2] t (0, 0)) := by
  rw [block_set (block_set (block_set h 0 y0) 1 y1) 2 y2]
  rfl
 exact ⟨⟨rfl, rfl, rfl, by simp, fun k hk => by rw [block_other hk, block_other hk, block_other hk], .inr h3⟩, h3⟩
section
variable {w w2 w3 : World}
theorem block_ext {k : Nat} {o : Obj} (he : Ext w2 w3) (h : w2.heap[k]? = some o) : w3.heap[k]? = some o := (he.block k (Array.getElem?_eq_some_iff.1 h).1).trans h
end
end Go.Proofs.Ytkfohggdaooieaa
/- Loops over an iterator that may be left by a break: both ways out come together; what of memory such a loop keeps. No condition of its own. -/
namespace Go.Proofs.Ytkfohggdaooieaa
open Go Go.RowKit Go.Shelf
theorem Boxed.drew {W : World} {B : Nat} {t : TypeId} {v : Value} (h : Boxed W B t v) : Boxed W.drew B t v := h
variable {F : Fence} {n : Nat} {P : Program}
end Go.Proofs.Ytkfohggdaooieaa
/- A range over an iterator that itself ranges over another one: what is asked of the iterator, and what the caller gets. No condition of its own. -/
namespace Go.Proofs.Ytkfohggdaooieaa
open Go Go.RowKit Go.Shelf
section
variable {P : Program}
/-- All that lies from block B on lies as it lay. -/
structure KeepAbove (B : Nat) (W W' : World) : Prop where
 size : W.heap.size ≤ W'.heap.size
 same : ∀ k, B ≤ k → k < W.heap.size → W'.heap[k]? = W.heap[k]?
theorem KeepAbove.trans {B : Nat} {a b c : World} (h : KeepAbove B a b) (k : KeepAbove B b c) : KeepAbove B a c :=
 ⟨Nat.le_trans h.size k.size, fun i hB hi => (k.same i hB (Nat.lt_of_lt_of_le hi h.size)).trans (h.same i hB hi)⟩
theorem KeepAbove.refl (B : Nat) (W : World) : KeepAbove B W W := ⟨Nat.le_refl _, fun _ _ _ => rfl⟩
theorem KeepAbove.mono {B B' : Nat} {W W' : World} (h : KeepAbove B W W') (hB : B ≤ B') : KeepAbove B' W W' := ⟨h.size, fun k hk hlt => h.same k (by omega) hlt⟩
theorem KeepAbove.put (W : World) {B l : Nat} (o : Obj) (h : l < B) : KeepAbove B W (W.putObj l o) := ⟨by simp, fun k hB _ => World.putObj_heap_other (by omega)⟩
theorem KeepAbove.from {B : Nat} {W W' : World} (h : KeepAbove B W W') : KeepsFrom B W W' := ⟨h.size, fun k o hB hk _ => (h.same k hB (Array.getElem?_eq_some_iff.1 hk).1).trans hk⟩
/-- The books of a loop at block B: the block of deferred calls, and the record behind it. -/
structure Books (B : Nat) (r : Loop) (W : World) : Prop where
 d : W.heap[B]? = some (.deferred (some []))
 l : W.heap[B + 1]? = some (.loop r)
theorem Books.kept {B : Nat} {r : Loop} {W W' : World} {row : Option Nat} (h : Books B r W) (hg : W.grownBy W' row) (hr : ∀ k, row = some k → B + 2 ≤ k) : Books B r W' :=
 ⟨(hg.block B (Array.getElem?_eq_some_iff.1 h.d).1 (fun e => by have := hr B e.symm; omega)).trans h.d, (hg.block (B + 1) (Array.getElem?_eq_some_iff.1 h.l).1 (fun e => by have := hr _ e.symm; omega)).trans h.l⟩
theorem Books.put {B : Nat} {r r' : Loop} {W : World} (h : Books B r W) : Books B r' (W.putObj (B + 1) (.loop r')) :=
 ⟨(World.putObj_heap_other (by omega)).trans h.d, World.putObj_heap_same (Array.getElem?_eq_some_iff.1 h.l).1⟩
theorem Books.others {B : Nat} {r : Loop} {W W' : World} (h : Books B r W) (hk : KeepAbove B W W') : Books B r W' := ⟨(hk.same _ (by omega) (Array.getElem?_eq_some_iff.1 h.d).1).trans h.d, (hk.same _ (by omega) (Array.getElem?_eq_some_iff.1 h.l).1).trans h.l⟩
end
/-- What an iterator leans on: these blocks lie as they lay. -/
def KpS (S : Nat → Prop) (W W' : World) : Prop := ∀ k, S k → W'.heap[k]? = W.heap[k]?
theorem KpS.t {S : Nat → Prop} {A B C : World} (h : KpS S A B) (k : KpS S B C) : KpS S A C := fun i hi => (k i hi).trans (h i hi)
theorem KpS.refl (S : Nat → Prop) (W : World) : KpS S W W := fun _ _ => rfl
end Go.Proofs.Ytkfohggdaooieaa
/- Arrays and structs by value: whole rows of cells, loaded, stored, boxed and made, whatever they hold. No condition of its own. -/
namespace Go.Proofs.Ytkfohggdaooieaa
open Go Go.RowKit
/-- A block of cells that may be written. -/
def Blk (w : World) (g : Nat) (C : Array Value) (t : TypeId) : Prop := w.heap[g]? = some (.cells C t (0, 0))
theorem Blk.lt {w : World} {g t : Nat} {C : Array Value} (h : Blk w g C t) : g < w.heap.size := (Array.getElem?_eq_some_iff.1 h).1
theorem Blk.ext {w w' : World} {g t : Nat} {C : Array Value} (h : Blk w g C t) (he : Ext w w') : Blk w' g C t := block_ext he h
theorem Blk.but {S : Nat → Prop} {w w' : World} {g t : Nat} {C : Array Value} (h : Blk w g C t) (hk : KeepBut S w w') (hn : ¬ S g) : Blk w' g C t := (hk.block g h.lt hn).trans h
theorem Blk.of {w w' : World} {g t : Nat} {C : Array Value} (h : Blk w g C t) (e : w'.heap[g]? = w.heap[g]?) : Blk w' g C t := e.trans h
theorem Blk.cell {w : World} {g t : Nat} {C : Array Value} (h : Blk w g C t) (j : Nat) : w.cell? ⟨g, j, none⟩ = C[j]? := cell_of_block h j
theorem Blk.frozen {w : World} {g t : Nat} {C : Array Value} (h : Blk w g C t) (j : Nat) : w.frozen? ⟨g, j, none⟩ = false := frozen_of_block h j
theorem Blk.new (w : World) (C : Array Value) (t : TypeId) : Blk (w.alloc (.cells C t)) w.heap.size C t := Array.getElem?_push_size
theorem Blk.set {w : World} {g t : Nat} {C : Array Value} (h : Blk w g C t) (j : Nat) (x : Value) : Blk (w.setCell ⟨g, j, none⟩ x) g (C.setIfInBounds j x) t := block_set h j x
theorem Blk.other {w : World} {g b t : Nat} {C : Array Value} (h : Blk w g C t) (hn : g ≠ b) (j : Nat) (x : Value) : Blk (w.setCell ⟨b, j, none⟩ x) g C t := (block_other hn j x).trans h
theorem Ext.set {w0 w : World} (h : Ext w0 w) {b : Nat} (hb : w0.heap.size ≤ b) (j : Nat) (x : Value) : Ext w0 (w.setCell ⟨b, j, none⟩ x) :=
 ⟨h.os, h.tape, h.output, by have := h.size; simp; omega, fun k hk => (block_other (by omega) j x).trans (h.block k hk)⟩
/-- What is known of a type of many cells. -/
structure RowT (P : Program) (t : TypeId) (n : Nat) : Prop where
 d : ∃ d, P.underlying t = some d ∧ d.isRow = true
 s : (P.info? t).map (·.size) = some n
theorem exec_box {P : Program} {r : Operand → Value} {o : Oper} {t : TypeId} {x : Operand} {C : Array Value} (w : World) (ho : o.op = .box t x) (hx : r x = .agg C) :
  (execOp r o).run P w = .ok (.value (.pointer (some ⟨w.heap.size, 0, none⟩))) (w.alloc (.cells C t)) := by
 simp [execOp, ho, hx, Instr.box, newVar, newRow, Value.cells, go_sem]
theorem exec_alloc {P : Program} {r : Operand → Value} {o : Oper} {t : TypeId} {C : Array Value} (w : World) (ho : o.op = .alloc t) (hz : (P.info? t).bind (·.zero) = some (.agg C)) :
  (execOp r o).run P w = .ok (.value (.pointer (some ⟨w.heap.size, 0, none⟩))) (w.alloc (.cells C t)) := by
 cases hq : P.info? t with
 | none => simp [hq] at hz
 | some i =>
  have hz' : i.zero = some (.agg C) := by simpa [hq] using hz
  simp [execOp, ho, Instr.alloc, zeroValue, typeInfo, hq, hz', newVar, newRow, Value.cells, go_sem]
theorem exec_load {P : Program} {r : Operand → Value} {o : Oper} {t : TypeId} {n : Nat} (hT : RowT P t n) {x : Operand} {g off T : Nat} {C : Array Value} {w : World} (ho : o.op = .load t x) (hx : r x = .pointer (some ⟨g, off, none⟩)) (hB : Blk w g C T) (L : List Value) (hL : ∀ j v, L[j]? = some v → C[off + j]? = some v) (hn : L.length = n) :
  (execOp r o).run P w = .ok (.value (.agg L.toArray)) w := by
 obtain ⟨d, hu, hd⟩ := hT.d
 have := run_loadVar_mid (P := P) w g off t L d (fun j v hv => by rw [hB.cell]; exact hL j v hv) hu hd (by rw [hn]; exact hT.s)
 simp only [execOp, ho, hx, Instr.loadAt, Instr.sureAddr, Sem.run_bind, Sem.run_pure, Result.andThen_ok, this]
theorem exec_loadW {P : Program} {r : Operand → Value} {o : Oper} {t : TypeId} {n : Nat} (hT : RowT P t n) {x : Operand} {g T : Nat} {C : Array Value} {w : World} (ho : o.op = .load t x) (hx : r x = .pointer (some ⟨g, 0, none⟩)) (hB : Blk w g C T) (hn : C.size = n) :
  (execOp r o).run P w = .ok (.value (.agg C)) w := by
 have := exec_load hT ho hx hB C.toList (fun j v hv => by rw [Nat.zero_add]; simpa using hv) (by simpa using hn)
 simpa using this
/-- A row of cells with others in their place from 'off' on. -/
def putIn (C : Array Value) (off : Nat) (D : List Value) : Array Value := (C.toList.take off ++ D ++ C.toList.drop (off + D.length)).toArray
theorem exec_store {P : Program} {r : Operand → Value} {o : Oper} {t : TypeId} {n : Nat} (hT : RowT P t n) {x y : Operand} {g off T : Nat} {C D : Array Value} {w : World} (ho : o.op = .store t x y) (hx : r x = .pointer (some ⟨g, off, none⟩)) (hy : r y = .agg D) (hB : Blk w g C T) (hn : D.size = n) (hf : off + n ≤ C.size) (h1 : ∀ v ∈ D.toList, v.oneCell' = true) :
  (execOp r o).run P w = .ok .skip (w.setRow g (putIn C off D.toList)) := by
 have := run_storeCells_at P g off T D.toList 0 C w hB (by simp; omega) h1
 cases hq : P.info? t with
 | none => have := hT.s; simp [hq] at this
 | some i =>
  have hs : D.size = i.size := by have := hT.s; simp [hq] at this; omega
  simp only [Nat.add_zero] at this
  simp [execOp, ho, hx, hy, Instr.storeAt, Instr.sureAddr, storeVar, sizeOf, typeInfo, hq, Value.cells, hs, this, putIn]
theorem putIn_all (C D : Array Value) (h : C.size = D.size) : putIn C 0 D.toList = D := by
 unfold putIn
 rw [List.take_zero, List.nil_append, List.drop_eq_nil_of_le (by simp; omega)]
 simp
theorem Blk.row {w : World} {g T : Nat} {C : Array Value} (h : Blk w g C T) (D : Array Value) : Blk (w.setRow g D) g D T := setRow_heap w g C D T (0, 0) h
theorem KeepBut.row (w : World) (g : Nat) (D : Array Value) : KeepBut (· = g) w (w.setRow g D) := ⟨rfl, rfl, rfl, by simp, fun k _ hk => setRow_other w g k D hk⟩
theorem KeepBut.ext {S : Nat → Prop} {w w' : World} (h : Ext w w') : KeepBut S w w' := ⟨h.os, h.tape, h.output, h.size, fun k hk _ => h.block k hk⟩
theorem Ext.of_but {S : Nat → Prop} {w0 w w' : World} (h : Ext w0 w) (hk : KeepBut S w w') (hS : ∀ k, S k → w0.heap.size ≤ k) : Ext w0 w' :=
 ⟨hk.os.trans h.os, hk.tape.trans h.tape, hk.output.trans h.output, Nat.le_trans h.size hk.size, fun k hk' => (hk.block k (Nat.lt_of_lt_of_le hk' h.size) (fun hs => by have := hS k hs; omega)).trans (h.block k hk')⟩
section
variable {P : Program} {w : World} {ops : Array Oper} {rest : List Oper} {o : Oper} {a : Act} {Q : Exit → Act → World → Prop}
/-- A value of many cells into a new block. -/
theorem wl_box (hgd : o.guard = none) {t : TypeId} {x : Operand} {C : Array Value} (ho : o.op = .box t x) (hx : a.eval x = .agg C)
  (h : ∀ w', Blk w' w.heap.size C t → Ext w w' → w'.heap.size = w.heap.size + 1 → wpList P ops Q rest (a.put o.dst (.pointer (some ⟨w.heap.size, 0, none⟩))) w') : wpList P ops Q (o :: rest) a w :=
 wpList_of_run hgd (exec_box w ho hx) (h _ (Blk.new _ _ _) (Ext.alloc _ _) (by simp))
theorem wl_alloc (hgd : o.guard = none) {t : TypeId} {C : Array Value} (ho : o.op = .alloc t) (hz : (P.info? t).bind (·.zero) = some (.agg C))
  (h : ∀ w', Blk w' w.heap.size C t → Ext w w' → w'.heap.size = w.heap.size + 1 → wpList P ops Q rest (a.put o.dst (.pointer (some ⟨w.heap.size, 0, none⟩))) w') : wpList P ops Q (o :: rest) a w :=
 wpList_of_run hgd (exec_alloc w ho hz) (h _ (Blk.new _ _ _) (Ext.alloc _ _) (by simp))
theorem wl_load (hgd : o.guard = none) {t : TypeId} {n : Nat} (hT : RowT P t n) {x : Operand} {g T : Nat} {C : Array Value} (ho : o.op = .load t x) (hx : a.eval x = .pointer (some ⟨g, 0, none⟩)) (hB : Blk w g C T) (hn : C.size = n)
  (h : wpList P ops Q rest (a.put o.dst (.agg C)) w) : wpList P ops Q (o :: rest) a w :=
 wpList_of_run hgd (exec_loadW hT ho hx hB hn) h
theorem wpList_of_skip {w' : World} (hgd : o.guard = none) (hrun : (execOp a.eval o).run P w = .ok .skip w') (h : wpList P ops Q rest (a.put o.dst undef) w') : wpList P ops Q (o :: rest) a w := by
 refine wpList_plain hgd fun K hK => ?_
 unfold Oper.wp
 rw [hrun]
 exact hK _ _ h
/-- A whole block is stored. -/
theorem wl_store (hgd : o.guard = none) {t : TypeId} {n : Nat} (hT : RowT P t n) {x y : Operand} {g T : Nat} {C D : Array Value} (ho : o.op = .store t x y) (hx : a.eval x = .pointer (some ⟨g, 0, none⟩)) (hy : a.eval y = .agg D) (hB : Blk w g C T) (hn : D.size = n) (hf : C.size = n) (h1 : ∀ v ∈ D.toList, v.oneCell' = true)
  (h : ∀ w', Blk w' g D T → KeepBut (· = g) w w' → w'.heap.size = w.heap.size → wpList P ops Q rest (a.put o.dst undef) w') : wpList P ops Q (o :: rest) a w := by
 refine wpList_of_skip hgd (exec_store hT ho hx hy hB hn (by omega) h1) ?_
 rw [putIn_all C D (by omega)]
 exact h _ (hB.row D) (KeepBut.row _ _ _) (by simp)
end
section
variable {F : Fence} {n : Nat} {P : Program} {ops : Array Oper} {Q : Exit → Act → World → Prop} {a : Act} {w : World} {rest : List Oper} {o : Oper}
end
/-- A type of one cell. -/
structure OneT (P : Program) (t : TypeId) : Prop where
 d : ∃ d, P.underlying t = some d ∧ d.isRow = false
 s : (P.info? t).map (·.size) = some 1
theorem exec_set {P : Program} {r : Operand → Value} {o : Oper} {t : TypeId} (hT : OneT P t) {x y : Operand} {g j T : Nat} {C : Array Value} {v : Value} {w : World} (ho : o.op = .store t x y) (hx : r x = .pointer (some ⟨g, j, none⟩)) (hy : r y = v) (hv : v.cells = #[v]) (h1 : v.oneCell' = true) (hB : Blk w g C T) (hj : j < C.size) :
  (execOp r o).run P w = .ok .skip (w.setCell ⟨g, j, none⟩ v) := by
 have hc : w.cell? ⟨g, j, none⟩ = some C[j] := by rw [hB.cell]; simp [hj]
 have hs := run_store P w ⟨g, j, none⟩ v .plain h1
 rw [hc] at hs
 simp [hB.frozen] at hs
 have ha : (⟨g, j, none⟩ : Addr).add 0 = ⟨g, j, none⟩ := by rw [add_plain]; rfl
 cases hq : P.info? t with
 | none => have := hT.s; simp [hq] at this
 | some i =>
  have hs' : i.size = 1 := by have := hT.s; simp [hq] at this; omega
  simp [execOp, ho, hx, hy, Instr.storeAt, Instr.sureAddr, storeVar, sizeOf, typeInfo, hq, hv, hs', storeCells, ha, hs]
theorem exg {P : Program} {r : Operand → Value} {o : Oper} {t : TypeId} (hT : OneT P t) {x : Operand} {g j : Nat} {v : Value} {w : World} (ho : o.op = .load t x) (hx : r x = .pointer (some ⟨g, j, none⟩)) (hc : w.cell? ⟨g, j, none⟩ = some v) :
  (execOp r o).run P w = .ok (.value v) w := by
 obtain ⟨d, hd, hr⟩ := hT.d
 have hagg : (isAgg t).run P w = .ok false w := by
  unfold isAgg
  rw [Sem.run_bind, run_underlying hd w]
  cases d <;> simp_all
 simp [execOp, ho, hx, Instr.loadAt, Instr.sureAddr, loadVar, hagg, hc]
section
variable {P : Program} {w : World} {ops : Array Oper} {rest : List Oper} {o : Oper} {a : Act} {Q : Exit → Act → World → Prop}
theorem wl_set (hgd : o.guard = none) {t : TypeId} (hT : OneT P t) {x y : Operand} {g j T : Nat} {C : Array Value} {v : Value} (ho : o.op = .store t x y) (hx : a.eval x = .pointer (some ⟨g, j, none⟩)) (hy : a.eval y = v) (hv : v.cells = #[v]) (h1 : v.oneCell' = true) (hB : Blk w g C T) (hj : j < C.size)
  (h : ∀ w', Blk w' g (C.setIfInBounds j v) T → KeepBut (· = g) w w' → w'.heap.size = w.heap.size → wpList P ops Q rest (a.put o.dst undef) w') : wpList P ops Q (o :: rest) a w :=
 wpList_of_skip hgd (exec_set hT ho hx hy hv h1 hB hj) (h _ (hB.set j v) ⟨rfl, rfl, rfl, by simp, fun k _ hk => block_other hk j v⟩ (by simp))
end
theorem KeepBut.below {S : Nat → Prop} {w w' : World} {B : Nat} (h : KeepBut S w w') (hs : ∀ k, S k → B ≤ k) (hB : B ≤ w.heap.size) : Below B w w' :=
 ⟨h.os, h.tape, h.output, h.size, fun k hk => h.block k (by omega) (fun e => by have := hs k e; omega)⟩
section
variable {F : Fence} {n : Nat} {P : Program} {ops : Array Oper} {Q : Exit → Act → World → Prop} {a : Act} {w : World} {rest : List Oper} {o : Oper}
end
end Go.Proofs.Ytkfohggdaooieaa
/- One operation of a region, in one line: its guard, its operands' facts, what it yields. No condition of its own. -/
namespace Go.Proofs.Ytkfohggdaooieaa
open Go
section
variable {P : Program} {mk : Tmp → Option Nat} {a0 : Act} {V : Nat → Fact} {w0 : World} {i : Nat} {o : Oper}
theorem exec_mv {r : Operand → Value} {w : World} {x : Operand} {v : Value} (ho : o.op = .move x ∨ o.op = .assign x) (h : r x = v) : (execOp r o).run P w = .ok (.value v) w := by
 rcases ho with e | e <;> simp [execOp, e, h, go_sem]
theorem lr1 {R : World → World → Prop} {x : Operand} {v1 v : Value} (hRf : ∀ w, R w w) (hg : o.guard = none) (ho : o.op.operands.toList = [x]) (hV : V i = Is v) (hx : ∀ r w, factOf mk a0 V r w x → r x = v1) (he : ∀ (r : Operand → Value) (w : World), R w0 w → r x = v1 → (execOp r o).run P w = .ok (.value v) w) : Good P mk a0 R V w0 i o := by
 intro r w hR hf
 rw [hg]
 rw [ho] at hf
 exact gvo (he r w hR (hx r w hf.1)) ⟨hRf _, by rw [hV]; rfl⟩
theorem lr2 {R : World → World → Prop} {x y : Operand} {v1 v2 v : Value} (hRf : ∀ w, R w w) (hg : o.guard = none) (ho : o.op.operands.toList = [x, y]) (hV : V i = Is v) (hx : ∀ r w, factOf mk a0 V r w x → r x = v1) (hy : ∀ r w, factOf mk a0 V r w y → r y = v2) (he : ∀ (r : Operand → Value) (w : World), R w0 w → r x = v1 → r y = v2 → (execOp r o).run P w = .ok (.value v) w) : Good P mk a0 R V w0 i o := by
 intro r w hR hf
 rw [hg]
 rw [ho] at hf
 exact gvo (he r w hR (hx r w hf.1) (hy r w hf.2.1)) ⟨hRf _, by rw [hV]; rfl⟩
end
section
variable {V : Nat → Fact} {o : Oper}
end
end Go.Proofs.Ytkfohggdaooieaa
/- A law on regions that draw their order and write: the writers stand in one chain; every other operation yields the same in each of the worlds that it can meet. No condition of its own. -/
namespace Go.Proofs.Ytkfohggdaooieaa
open Go
section
variable {P : Program} {mk : Tmp → Option Nat} {ops : List Oper} {a0 : Act} {V : Nat → Value → Prop} {Q : Exit → Act → World → Prop} {n : Nat}
end
def GoodCAll (P : Program) (mk : Tmp → Option Nat) (a0 : Act) (V : Nat → Value → Prop) (wr ub : List Nat) (Ws : Nat → World) : Nat → List Oper → Prop
 | _, [] => True
 | i, o :: l => (if wr.contains i then GoodS P mk a0 V i o (Ws (wr.idxOf i)) (Ws (wr.idxOf i + 1)) else ∀ k, k ≤ ub.getD i 0 → GoodS P mk a0 V i o (Ws k) (Ws k)) ∧ GoodCAll P mk a0 V wr ub Ws (i + 1) l
theorem GoodCAll.at {P : Program} {mk : Tmp → Option Nat} {a0 : Act} {V : Nat → Value → Prop} {wr ub : List Nat} {Ws : Nat → World} : ∀ {ops : List Oper} {s : Nat}, GoodCAll P mk a0 V wr ub Ws s ops → ∀ i o, ops[i]? = some o → (if wr.contains (s + i) then GoodS P mk a0 V (s + i) o (Ws (wr.idxOf (s + i))) (Ws (wr.idxOf (s + i) + 1)) else ∀ k, k ≤ ub.getD (s + i) 0 → GoodS P mk a0 V (s + i) o (Ws k) (Ws k))
 | [], _, _, i, o, ho => by simp at ho
 | _ :: _, s, h, 0, o, ho => by simp at ho; subst ho; exact h.1
 | _ :: l, s, h, i + 1, o, ho => by
  have := GoodCAll.at (ops := l) h.2 i o (by simpa using ho)
  rwa [show s + 1 + i = s + (i + 1) by omega] at this
theorem GoodCAll.nil {P : Program} {mk : Tmp → Option Nat} {a0 : Act} {V : Nat → Value → Prop} {wr ub : List Nat} {Ws : Nat → World} {i : Nat} : GoodCAll P mk a0 V wr ub Ws i [] := trivial
theorem GoodCAll.reads {P : Program} {mk : Tmp → Option Nat} {a0 : Act} {V : Nat → Value → Prop} {wr ub : List Nat} {Ws : Nat → World} {i : Nat} {o : Oper} {l : List Oper} (u : Nat) (hc : wr.contains i = false) (hu : ub.getD i 0 = u) (h : ∀ k, k ≤ u → GoodS P mk a0 V i o (Ws k) (Ws k)) (hl : GoodCAll P mk a0 V wr ub Ws (i + 1) l) : GoodCAll P mk a0 V wr ub Ws i (o :: l) :=
 ⟨by rw [if_neg (by rw [hc]; simp), hu]; exact h, hl⟩
end Go.Proofs.Ytkfohggdaooieaa
/- A law on regions that draw their order and whose writers stand in one chain: facts that are kept, and what holds of the world behind each writer. No condition of its own. -/
namespace Go.Proofs.Ytkfohggdaooieaa
open Go
/-- What is owed for operation number i, from a world of S to one of S'. -/
def GoodH (P : Program) (mk : Tmp → Option Nat) (a0 : Act) (R : World → World → Prop) (V : Nat → World → Value → Prop) (w0 : World) (i : Nat) (o : Oper) (S S' : World → Prop) : Prop :=
 ∀ (r : Operand → Value) (w : World), R w0 w → S w → factsOf mk a0 V r w o.op.operands.toList →
  match o.guard with
  | none => give P (fun v x => R w x ∧ S' x ∧ V i x v) ((execOp r o).run P w)
  | some (g, want) => ∀ b, V g w b → if asBool b == some want then give P (fun v x => R w x ∧ S' x ∧ V i x v) ((execOp r o).run P w) else (S' w ∧ V i w undef)
section
variable {P : Program} {mk : Tmp → Option Nat} {ops : List Oper} {a0 : Act} {R : World → World → Prop} {V : Nat → World → Value → Prop} {w0 : World} {Q : Exit → Act → World → Prop} {n : Nat}
end
def GoodHAll (P : Program) (mk : Tmp → Option Nat) (a0 : Act) (R : World → World → Prop) (V : Nat → World → Value → Prop) (w0 : World) (wr ub : List Nat) (S : Nat → World → Prop) : Nat → List Oper → Prop
 | _, [] => True
 | i, o :: l => (if wr.contains i then GoodH P mk a0 R V w0 i o (S (wr.idxOf i)) (S (wr.idxOf i + 1)) else ∀ k, k ≤ ub.getD i 0 → GoodH P mk a0 R V w0 i o (S k) (S k)) ∧ GoodHAll P mk a0 R V w0 wr ub S (i + 1) l
theorem GoodHAll.at {P : Program} {mk : Tmp → Option Nat} {a0 : Act} {R : World → World → Prop} {V : Nat → World → Value → Prop} {w0 : World} {wr ub : List Nat} {S : Nat → World → Prop} : ∀ {ops : List Oper} {s : Nat}, GoodHAll P mk a0 R V w0 wr ub S s ops → ∀ i o, ops[i]? = some o → (if wr.contains (s + i) then GoodH P mk a0 R V w0 (s + i) o (S (wr.idxOf (s + i))) (S (wr.idxOf (s + i) + 1)) else ∀ k, k ≤ ub.getD (s + i) 0 → GoodH P mk a0 R V w0 (s + i) o (S k) (S k))
 | [], _, _, i, o, ho => by simp at ho
 | _ :: _, s, h, 0, o, ho => by simp at ho; subst ho; exact h.1
 | _ :: l, s, h, i + 1, o, ho => by
  have := GoodHAll.at (ops := l) h.2 i o (by simpa using ho)
  rwa [show s + 1 + i = s + (i + 1) by omega] at this
theorem GoodHAll.nil {P : Program} {mk : Tmp → Option Nat} {a0 : Act} {R : World → World → Prop} {V : Nat → World → Value → Prop} {w0 : World} {wr ub : List Nat} {S : Nat → World → Prop} {i : Nat} : GoodHAll P mk a0 R V w0 wr ub S i [] := trivial
theorem GoodHAll.reads {P : Program} {mk : Tmp → Option Nat} {a0 : Act} {R : World → World → Prop} {V : Nat → World → Value → Prop} {w0 : World} {wr ub : List Nat} {S : Nat → World → Prop} {i : Nat} {o : Oper} {l : List Oper} (u : Nat) (hc : wr.contains i = false) (hu : ub.getD i 0 = u) (h : ∀ k, k ≤ u → GoodH P mk a0 R V w0 i o (S k) (S k)) (hl : GoodHAll P mk a0 R V w0 wr ub S (i + 1) l) : GoodHAll P mk a0 R V w0 wr ub S i (o :: l) :=
 ⟨by rw [if_neg (by rw [hc]; simp), hu]; exact h, hl⟩
end Go.Proofs.Ytkfohggdaooieaa
/- Windows as cells; which are good. No condition of its own. -/
namespace Go.Proofs.Ytkfohggdaooieaa
namespace Cw
open Go Go.RowKit
set_option maxRecDepth 100000
theorem one3 : OneT Try.prog 3 := ⟨⟨_, Try.underlying3, rfl⟩, by kernel_rfl⟩
/-- What a window holds. -/
structure E where
 sz : Int
 th : Int
 ct : Int
def EV (e : E) : Array Value := #[.int .i64 e.sz, .int .i64 e.th, .int .i64 e.ct]
theorem ev0 {w : World} {g T : Nat} {e : E} (h : Blk w g (EV e) T) : w.cell? ⟨g, 0, none⟩ = some (.int .i64 e.sz) := h.cell 0
theorem ev1 {w : World} {g T : Nat} {e : E} (h : Blk w g (EV e) T) : w.cell? ⟨g, 1, none⟩ = some (.int .i64 e.th) := h.cell 1
theorem ev2 {w : World} {g T : Nat} {e : E} (h : Blk w g (EV e) T) : w.cell? ⟨g, 2, none⟩ = some (.int .i64 e.ct) := h.cell 2
theorem EV.size (e : E) : (EV e).size = 3 := rfl
theorem EV.one (e : E) : ∀ v ∈ (EV e).toList, v.oneCell' = true := by
 intro v hv
 simp [EV] at hv
 rcases hv with rfl | rfl | rfl <;> rfl
theorem rowE : RowT Try.prog 25 3 := ⟨⟨_, Try.underlying25, rfl⟩, by kernel_rfl⟩
theorem rowR : RowT Try.prog 23 3 := ⟨⟨_, Try.underlying23, rfl⟩, by kernel_rfl⟩
def e0 : E := ⟨0, 0, 0⟩
def eF : E := ⟨512, 2000, 0⟩
theorem zeroE : (Try.prog.info? 25).bind (·.zero) = some (.agg (EV e0)) := by kernel_rfl
theorem builtF : Try.prog.built 25 [(0, .int .i64 512), (1, .int .i64 2000)] = some (EV eF) := by kernel_rfl
theorem built2 (a b : Int) : Try.prog.built 25 [(0, .int .i64 a), (1, .int .i64 b)] = some (EV ⟨a, b, 0⟩) := by kernel_rfl
def szB (n : Int) : Bool := decide (128 ≤ n) && decide (n ≤ 8192)
/-- Which are good. -/
def goodB (e : E) : Bool := szB e.sz && szB e.th && decide (0 ≤ e.ct) && decide (e.ct ≤ 2147483648)
theorem goodB_iff (e : E) : goodB e = true ↔ (128 ≤ e.sz ∧ e.sz ≤ 8192 ∧ 128 ≤ e.th ∧ e.th ≤ 8192 ∧ 0 ≤ e.ct ∧ e.ct ≤ 2147483648) := by
 simp [goodB, szB, and_assoc]
theorem sized_any (n : Int) (w : World) : Calls Try.prog 20 #[.int .i64 n] w fun x w' => x = .returned (.bool (szB n)) ∧ w' = w := by
 by_cases h1 : 128 ≤ n
 ·
  have d1 : decide (n ≥ 128) = true := decide_eq_true h1
  by_cases h2 : n ≤ 8192
  ·
   have d2 : decide (n ≤ 8192) = true := decide_eq_true h2
   have HS : Hid (szB n = true) := show _ = _ by simp [szB, h1, h2]
   rw [HS.out]
   go_enter Try.func20, Try.ntmps20
   go_wp2
   go_ret
   exact ⟨rfl, rfl⟩
  ·
   have d2 : decide (n ≤ 8192) = false := decide_eq_false h2
   have HS : Hid (szB n = false) := show _ = _ by simp [szB, h2]
   rw [HS.out]
   go_enter Try.func20, Try.ntmps20
   go_wp2
   go_ret
   exact ⟨rfl, rfl⟩
 ·
  have d1 : decide (n ≥ 128) = false := decide_eq_false h1
  have HS : Hid (szB n = false) := show _ = _ by simp [szB, h1]
  rw [HS.out]
  go_enter Try.func20, Try.ntmps20
  go_wp2
  go_ret
  exact ⟨rfl, rfl⟩
set_option maxHeartbeats 4000000 in
theorem good_any (e : E) (w : World) : Calls Try.prog 12 #[.agg (EV e)] w fun x w' => x = .returned (.bool (goodB e)) ∧ Ext w w' := by
 cases s1 : szB e.sz with
 | false =>
  rw [show goodB e = false from by simp [goodB, s1]]
  go_enter Try.func12, Try.ntmps12
  go_wp2_with (first
   | (refine wl_box (C := EV e) rfl rfl rfl ?_; intro w1 hb1 he1 hx; clear hx; have x0 := ev0 hb1; have x1 := ev1 hb1; have x2 := ev2 hb1)
   | (go_at_call 20; refine (sized_any _ _).mono ?_; rintro x w2 ⟨rfl, hw⟩; subst w2; rw [s1]; clear s1)
   | (go_at_call 20; refine (sized_any _ _).mono ?_; rintro x w2 ⟨rfl, hw⟩; subst w2; rw [s2]; clear s2))
  go_ret
  exact ⟨rfl, he1⟩
 | true =>
 cases s2 : szB e.th with
 | false =>
  rw [show goodB e = false from by simp [goodB, s1, s2]]
  go_enter Try.func12, Try.ntmps12
  go_wp2_with (first
   | (refine wl_box (C := EV e) rfl rfl rfl ?_; intro w1 hb1 he1 hx; clear hx; have x0 := ev0 hb1; have x1 := ev1 hb1; have x2 := ev2 hb1)
   | (go_at_call 20; refine (sized_any _ _).mono ?_; rintro x w2 ⟨rfl, hw⟩; subst w2; rw [s1]; clear s1)
   | (go_at_call 20; refine (sized_any _ _).mono ?_; rintro x w2 ⟨rfl, hw⟩; subst w2; rw [s2]; clear s2))
  go_ret
  exact ⟨rfl, he1⟩
 | true =>
 by_cases h3 : 0 ≤ e.ct
 ·
  have d3 : decide (e.ct ≥ 0) = true := decide_eq_true h3
  by_cases h4 : e.ct ≤ 2147483648
  ·
   have d4 : decide (e.ct ≤ 2147483648) = true := decide_eq_true h4
   rw [show goodB e = true from by simp [goodB, s1, s2, h3, h4]]
   go_enter Try.func12, Try.ntmps12
   go_wp2_with (first
    | (refine wl_box (C := EV e) rfl rfl rfl ?_; intro w1 hb1 he1 hx; clear hx; have x0 := ev0 hb1; have x1 := ev1 hb1; have x2 := ev2 hb1)
    | (go_at_call 20; refine (sized_any _ _).mono ?_; rintro x w2 ⟨rfl, hw⟩; subst w2; rw [s1]; clear s1)
    | (go_at_call 20; refine (sized_any _ _).mono ?_; rintro x w2 ⟨rfl, hw⟩; subst w2; rw [s2]; clear s2))
   go_ret
   exact ⟨rfl, he1⟩
  ·
   have d4 : decide (e.ct ≤ 2147483648) = false := decide_eq_false h4
   rw [show goodB e = false from by simp [goodB, s1, s2, h3, h4]]
   go_enter Try.func12, Try.ntmps12
   go_wp2_with (first
    | (refine wl_box (C := EV e) rfl rfl rfl ?_; intro w1 hb1 he1 hx; clear hx; have x0 := ev0 hb1; have x1 := ev1 hb1; have x2 := ev2 hb1)
    | (go_at_call 20; refine (sized_any _ _).mono ?_; rintro x w2 ⟨rfl, hw⟩; subst w2; rw [s1]; clear s1)
    | (go_at_call 20; refine (sized_any _ _).mono ?_; rintro x w2 ⟨rfl, hw⟩; subst w2; rw [s2]; clear s2))
   go_ret
   exact ⟨rfl, he1⟩
 ·
  have d3 : decide (e.ct ≥ 0) = false := decide_eq_false h3
  rw [show goodB e = false from by simp [goodB, s1, s2, h3]]
  go_enter Try.func12, Try.ntmps12
  go_wp2_with (first
   | (refine wl_box (C := EV e) rfl rfl rfl ?_; intro w1 hb1 he1 hx; clear hx; have x0 := ev0 hb1; have x1 := ev1 hb1; have x2 := ev2 hb1)
   | (go_at_call 20; refine (sized_any _ _).mono ?_; rintro x w2 ⟨rfl, hw⟩; subst w2; rw [s1]; clear s1)
   | (go_at_call 20; refine (sized_any _ _).mono ?_; rintro x w2 ⟨rfl, hw⟩; subst w2; rw [s2]; clear s2))
  go_ret
  exact ⟨rfl, he1⟩
end Cw
end Go.Proofs.Ytkfohggdaooieaa
/- Windows in their blocks; the first one, and the one in place of one that is not good. No condition of its own. -/
namespace Go.Proofs.Ytkfohggdaooieaa
namespace Cw
open Go Go.RowKit
set_option maxRecDepth 100000
theorem wl_minI {w : World} {ops : Array Oper} {rest : List Oper} {o : Oper} {a : Act} {Q : Exit → Act → World → Prop} (hgd : o.guard = none) {x y : Operand} {m n k : Int} (ho : o.op = .call { callee := .builtin .min, args := #[x, y], argTypes := #[3, 3] }) (hx : a.eval x = .int .i64 m) (hy : a.eval y = .int .i64 n) (hk : k = if n < m then n else m)
  (h : wpList Try.prog ops Q rest (a.put o.dst (.int .i64 k)) w) : wpList Try.prog ops Q (o :: rest) a w := by
 have hr : (Builtin.min_ #[3, 3] o.type #[.int .i64 m, .int .i64 n]).run Try.prog w = .ok (.int .i64 k) w := by
  subst hk
  by_cases hl : n < m
  ·
   simp [Builtin.min_, Builtin.min2, go_sem, hl]
  ·
   simp [Builtin.min_, Builtin.min2, go_sem, hl]
 refine wpList_of_run hgd (v := .int .i64 k) (w' := w) ?_ h
 simp only [execOp, ho, resolve, invoke, builtin, Sem.run_bind, Sem.run_pure, Result.andThen_ok, List.map_toArray, List.map_cons, List.map_nil, hx, hy, hr]
theorem wl_maxI {w : World} {ops : Array Oper} {rest : List Oper} {o : Oper} {a : Act} {Q : Exit → Act → World → Prop} (hgd : o.guard = none) {x y : Operand} {m n k : Int} (ho : o.op = .call { callee := .builtin .max, args := #[x, y], argTypes := #[3, 3] }) (hx : a.eval x = .int .i64 m) (hy : a.eval y = .int .i64 n) (hk : k = if m < n then n else m)
  (h : wpList Try.prog ops Q rest (a.put o.dst (.int .i64 k)) w) : wpList Try.prog ops Q (o :: rest) a w := by
 have hr : (Builtin.max_ #[3, 3] o.type #[.int .i64 m, .int .i64 n]).run Try.prog w = .ok (.int .i64 k) w := by
  subst hk
  by_cases hl : m < n
  ·
   simp [Builtin.max_, Builtin.max2, go_sem, hl]
  ·
   simp [Builtin.max_, Builtin.max2, go_sem, hl]
 refine wpList_of_run hgd (v := .int .i64 k) (w' := w) ?_ h
 simp only [execOp, ho, resolve, invoke, builtin, Sem.run_bind, Sem.run_pure, Result.andThen_ok, List.map_toArray, List.map_cons, List.map_nil, hx, hy, hr]
theorem wl_build {w : World} {ops : Array Oper} {rest : List Oper} {o : Oper} {a : Act} {Q : Exit → Act → World → Prop} (hgd : o.guard = none) {t : TypeId} {parts : Array (Nat × Operand)} {vals : List (Nat × Value)} {cells : Array Value} (ho : o.op = .build t parts)
  (hv : (parts.map fun (i, x) => (i, a.eval x)).toList = vals) (hc : Try.prog.built t vals = some cells) (h : wpList Try.prog ops Q rest (a.put o.dst (.agg cells)) w) : wpList Try.prog ops Q (o :: rest) a w := by
 refine wpList_of_run hgd (v := .agg cells) ?_ h
 have := run_build (P := Try.prog) w t (parts.map fun (i, x) => (i, a.eval x)) cells (by rw [hv]; exact hc)
 simp [execOp, ho, this]
/-- Two windows in blocks of the own. -/
structure Two (w0 w : World) (g h T : Nat) (x y : E) : Prop where
 a : Blk w g (EV x) T
 b : Blk w h (EV y) T
 ext : Ext w0 w
 g0 : w0.heap.size ≤ g
 lt : g < h
theorem Two.grow {w0 w w' : World} {g h T : Nat} {x y : E} (H : Two w0 w g h T x y) (he : Ext w w') : Two w0 w' g h T x y := ⟨H.a.ext he, H.b.ext he, H.ext.trans he, H.g0, H.lt⟩
theorem Two.setA {w0 w w' : World} {g h T : Nat} {x y z : E} (H : Two w0 w g h T x y) (hz : Blk w' g (EV z) T) (hk : KeepBut (· = g) w w') : Two w0 w' g h T z y := ⟨hz, H.b.but hk (by have := H.lt; omega), H.ext.of_but hk (fun q e => by subst e; exact H.g0), H.g0, H.lt⟩
theorem Two.setB {w0 w w' : World} {g h T : Nat} {x y z : E} (H : Two w0 w g h T x y) (hz : Blk w' h (EV z) T) (hk : KeepBut (· = h) w w') : Two w0 w' g h T x z := ⟨H.a.but hk (by have := H.lt; omega), hz, H.ext.of_but hk (fun q e => by subst e; have := H.g0; have := H.lt; omega), H.g0, H.lt⟩
section
variable {w : World} {ops : Array Oper} {rest : List Oper} {o : Oper} {a : Act} {Q : Exit → Act → World → Prop} {g T : Nat} {e : E}
theorem wl_get0 (hB : Blk w g (EV e) T) (hgd : o.guard = none) {x : Operand} (ho : o.op = .load 3 x) (hx : a.eval x = .pointer (some ⟨g, 0, none⟩)) (h : wpList Try.prog ops Q rest (a.put o.dst (.int .i64 e.sz)) w) : wpList Try.prog ops Q (o :: rest) a w := wpList_of_run hgd (exg one3 ho hx (ev0 hB)) h
theorem wl_get1 (hB : Blk w g (EV e) T) (hgd : o.guard = none) {x : Operand} (ho : o.op = .load 3 x) (hx : a.eval x = .pointer (some ⟨g, 1, none⟩)) (h : wpList Try.prog ops Q rest (a.put o.dst (.int .i64 e.th)) w) : wpList Try.prog ops Q (o :: rest) a w := wpList_of_run hgd (exg one3 ho hx (ev1 hB)) h
theorem wl_get2 (hB : Blk w g (EV e) T) (hgd : o.guard = none) {x : Operand} (ho : o.op = .load 3 x) (hx : a.eval x = .pointer (some ⟨g, 2, none⟩)) (h : wpList Try.prog ops Q rest (a.put o.dst (.int .i64 e.ct)) w) : wpList Try.prog ops Q (o :: rest) a w := wpList_of_run hgd (exg one3 ho hx (ev2 hB)) h
theorem wl_set0 (hB : Blk w g (EV e) T) (hgd : o.guard = none) {x y : Operand} {v : Int} (ho : o.op = .store 3 x y) (hx : a.eval x = .pointer (some ⟨g, 0, none⟩)) (hy : a.eval y = .int .i64 v) (h : ∀ w', Blk w' g (EV { e with sz := v }) T → KeepBut (· = g) w w' → wpList Try.prog ops Q rest (a.put o.dst undef) w') : wpList Try.prog ops Q (o :: rest) a w :=
 wl_set hgd one3 ho hx hy rfl rfl hB (by rw [EV.size]; decide) (fun w' h1 h2 _ => h w' h1 h2)
theorem wl_set2 (hB : Blk w g (EV e) T) (hgd : o.guard = none) {x y : Operand} {v : Int} (ho : o.op = .store 3 x y) (hx : a.eval x = .pointer (some ⟨g, 2, none⟩)) (hy : a.eval y = .int .i64 v) (h : ∀ w', Blk w' g (EV { e with ct := v }) T → KeepBut (· = g) w w' → wpList Try.prog ops Q rest (a.put o.dst undef) w') : wpList Try.prog ops Q (o :: rest) a w :=
 wl_set hgd one3 ho hx hy rfl rfl hB (by rw [EV.size]; decide) (fun w' h1 h2 _ => h w' h1 h2)
end
section
variable {w : World} {ops : Array Oper} {rest : List Oper} {o : Oper} {a : Act} {Q : Exit → Act → World → Prop}
/-- A new block whose number is a name of its own. -/
theorem wl_boxG (hgd : o.guard = none) {t : TypeId} {x : Operand} {C : Array Value} (ho : o.op = .box t x) (hx : a.eval x = .agg C)
  (h : ∀ w' g, g = w.heap.size → Blk w' g C t → Ext w w' → wpList Try.prog ops Q rest (a.put o.dst (.pointer (some ⟨g, 0, none⟩))) w') : wpList Try.prog ops Q (o :: rest) a w :=
 wl_box hgd ho hx fun w' hb he _ => h w' _ rfl hb he
theorem wl_allocG (hgd : o.guard = none) {t : TypeId} {C : Array Value} (ho : o.op = .alloc t) (hz : (Try.prog.info? t).bind (·.zero) = some (.agg C))
  (h : ∀ w' g, g = w.heap.size → Blk w' g C t → Ext w w' → wpList Try.prog ops Q rest (a.put o.dst (.pointer (some ⟨g, 0, none⟩))) w') : wpList Try.prog ops Q (o :: rest) a w :=
 wl_alloc hgd ho hz fun w' hb he _ => h w' _ rfl hb he
end
set_option maxHeartbeats 2000000 in
theorem first_any (w : World) : Calls Try.prog 15 #[] w fun e w' => e = .returned (.agg (EV eF)) ∧ Ext w w' := by
 go_enter Try.func15, Try.ntmps15
 go_wp2_with (first
  | (refine wl_alloc rfl rfl zeroE ?_; intro w1 hb1 he1 hx; clear hx)
  | (refine wl_build rfl rfl rfl builtF ?_)
  | (refine wl_store (D := EV eF) rfl rowE rfl rfl rfl hb1 rfl rfl (EV.one _) ?_; intro w2 hb2 hk2 hx2; clear hx2))
 refine bodyPost_ret (results_cell_row (fn := Try.f15) (p := 0) rfl _ w2 _ _ _ (0, 0) _ rfl hb2 Try.underlying25 rfl (by kernel_rfl)) rfl ?_
 exact ⟨rfl, he1.of_but hk2 (fun q e => by subst e; exact Nat.le_refl _)⟩
/-- A good window itself, and the first one for any other. -/
def okE (e : E) : E := if goodB e = true then e else eF
theorem okE_yes {e : E} (h : goodB e = true) : okE e = e := if_pos h
theorem okE_no {e : E} (h : goodB e = false) : okE e = eF := if_neg (by rw [h]; decide)
theorem okE_good (e : E) : goodB (okE e) = true := by
 cases h : goodB e with
 | true => rw [okE_yes h]; exact h
 | false => rw [okE_no h]; rfl
theorem okE_ok (e : E) : okE (okE e) = okE e := okE_yes (okE_good e)
set_option maxHeartbeats 4000000 in
theorem orFirst_any (e : E) (w : World) : Calls Try.prog 16 #[.agg (EV e)] w fun x w' => x = .returned (.agg (EV (okE e))) ∧ Ext w w' := by
 cases hg : goodB e with
 | true =>
  rw [okE_yes hg]
  go_enter Try.func16, Try.ntmps16
  go_wp2_with (first
   | (refine wl_boxG (C := EV e) rfl rfl rfl ?_; intro w1 g1 hg1 hb1 he1; have HG1 : Hid (g1 = w.heap.size) := hg1; clear hg1)
   | (have q := hb1; clear q; refine wl_allocG rfl rfl zeroE ?_; intro w2 g2 hg2 hb2 he2; have HT : Hid (Two w w2 g1 g2 _ e e0) := ⟨hb1.ext he2, hb2, he1.trans he2, Nat.le_of_eq HG1.out.symm, (by rw [hg2]; exact hb1.lt)⟩; clear hb1 hb2 he1 he2 hg2 HG1)
   | (have q := HT; clear q; refine wl_load rfl rowE rfl rfl HT.out.a rfl ?_)
   | (go_at_call 12; refine (good_any _ _).mono ?_; rintro e w3 ⟨rfl, he3⟩; rw [hg]; replace HT : Hid (Two _ _ _ _ _ _ _) := HT.out.grow he3; clear he3)
   | (have q := HT; clear q; refine wl_store rfl rowE rfl rfl rfl HT.out.b rfl rfl (EV.one _) ?_; intro w4 hb4 hk4 hx4; clear hx4; replace HT : Hid (Two _ _ _ _ _ _ _) := HT.out.setB hb4 hk4; clear hb4 hk4))
  refine bodyPost_ret (results_cell_row (fn := Try.f16) (p := 2) rfl _ _ _ _ _ (0, 0) _ rfl HT.out.b Try.underlying25 rfl (by kernel_rfl)) rfl ?_
  exact ⟨rfl, HT.out.ext⟩
 | false =>
  rw [okE_no hg]
  go_enter Try.func16, Try.ntmps16
  go_wp2_with (first
   | (refine wl_boxG (C := EV e) rfl rfl rfl ?_; intro w1 g1 hg1 hb1 he1; have HG1 : Hid (g1 = w.heap.size) := hg1; clear hg1)
   | (have q := hb1; clear q; refine wl_allocG rfl rfl zeroE ?_; intro w2 g2 hg2 hb2 he2; have HT : Hid (Two w w2 g1 g2 _ e e0) := ⟨hb1.ext he2, hb2, he1.trans he2, Nat.le_of_eq HG1.out.symm, (by rw [hg2]; exact hb1.lt)⟩; clear hb1 hb2 he1 he2 hg2 HG1)
   | (have q := HT; clear q; refine wl_load rfl rowE rfl rfl HT.out.a rfl ?_)
   | (go_at_call 12; refine (good_any _ _).mono ?_; rintro e w3 ⟨rfl, he3⟩; rw [hg]; replace HT : Hid (Two _ _ _ _ _ _ _) := HT.out.grow he3; clear he3)
   | (go_at_call 15; refine (first_any _).mono ?_; rintro e w3 ⟨rfl, he3⟩; replace HT : Hid (Two _ _ _ _ _ _ _) := HT.out.grow he3; clear he3)
   | (have q := HT; clear q; refine wl_store rfl rowE rfl rfl rfl HT.out.b rfl rfl (EV.one _) ?_; intro w4 hb4 hk4 hx4; clear hx4; replace HT : Hid (Two _ _ _ _ _ _ _) := HT.out.setB hb4 hk4; clear hb4 hk4))
  refine bodyPost_ret (results_cell_row (fn := Try.f16) (p := 2) rfl _ _ _ _ _ (0, 0) _ rfl HT.out.b Try.underlying25 rfl (by kernel_rfl)) rfl ?_
  exact ⟨rfl, HT.out.ext⟩
/-- A number of bytes. -/
def bdI (n : Int) : Int := if n < 0 then 0 else if 1048576 < n then 1048576 else n
theorem bounded_any (n : Int) (w : World) : Calls Try.prog 21 #[.int .i64 n] w fun x w' => x = .returned (.int .i64 (bdI n)) ∧ w' = w := by
 obtain ⟨m, hm⟩ : ∃ m : Int, m = if n < 0 then 0 else n := ⟨_, rfl⟩
 have HM : Hid (m = if n < 0 then 0 else n) := hm
 have HR : Hid (bdI n = if 1048576 < m then 1048576 else m) := show _ = _ by rw [hm]; unfold bdI; split <;> split <;> (try split) <;> omega
 generalize bdI n = r at HR ⊢
 clear hm
 go_enter Try.func21, Try.ntmps21
 go_wp2_with (first
  | (refine stop_at 3 rfl ?_))
 refine ⟨?_⟩
 refine wl_maxI (k := m) rfl rfl (by first | rfl | go_simp) (by first | rfl | go_simp) (by exact HM.out) ?_
 refine wl_minI (k := r) rfl rfl (by first | rfl | go_simp) (by first | rfl | go_simp) (by exact HR.out) ?_
 go_wp2
 go_ret
 exact ⟨rfl, rfl⟩
end Cw
end Go.Proofs.Ytkfohggdaooieaa
/- Lost, Late, Empty. No condition of its own. -/
namespace Go.Proofs.Ytkfohggdaooieaa
namespace Cw
open Go Go.RowKit
set_option maxRecDepth 100000
def emptyE (e : E) : E := ⟨(okE e).sz, (okE e).th, 0⟩
set_option maxHeartbeats 4000000 in
theorem empty_any (e : E) (w : World) : Calls Try.prog 11 #[.agg (EV e)] w fun x w' => x = .returned (.agg (EV (emptyE e))) ∧ Ext w w' := by
 go_enter Try.func11, Try.ntmps11
 go_wp2_with (first
  | (refine wl_boxG (C := EV e) rfl rfl rfl ?_; intro w1 g1 hg1 hb1 he1; have HG1 : Hid (g1 = w.heap.size) := hg1; clear hg1)
  | (have q := hb1; clear q; refine wl_allocG rfl rfl zeroE ?_; intro w2 g2 hg2 hb2 he2; have HT : Hid (Two w w2 g1 g2 _ e e0) := ⟨hb1.ext he2, hb2, he1.trans he2, Nat.le_of_eq HG1.out.symm, (by rw [hg2]; exact hb1.lt)⟩; clear hb1 hb2 he1 he2 hg2 HG1)
  | (have q := HT; clear q; refine wl_load rfl rowE rfl rfl HT.out.a rfl ?_)
  | (go_at_call 16; refine (orFirst_any _ _).mono ?_; rintro x w3 ⟨rfl, he3⟩; replace HT : Hid (Two _ _ _ _ _ _ _) := HT.out.grow he3; clear he3)
  | (have q := HT; clear q; refine wl_store (D := EV (emptyE e)) rfl rowE rfl rfl rfl HT.out.b rfl rfl (EV.one _) ?_; intro w4 hb4 hk4 hx4; clear hx4; replace HT : Hid (Two _ _ _ _ _ _ _) := HT.out.setB hb4 hk4; clear hb4 hk4)
  | (have q := HT; clear q; refine wl_store (D := EV (okE e)) rfl rowE rfl rfl rfl HT.out.a rfl rfl (EV.one _) ?_; intro w4 hb4 hk4 hx4; clear hx4; replace HT : Hid (Two _ _ _ _ _ _ _) := HT.out.setA hb4 hk4; clear hb4 hk4)
  | (have q := HT; clear q; refine wl_set2 HT.out.a rfl rfl rfl rfl ?_; intro w4 hb4 hk4; replace HT : Hid (Two _ _ _ _ _ _ _) := HT.out.setA hb4 hk4; clear hb4 hk4))
 refine bodyPost_ret (results_cell_row (fn := Try.f11) (p := 2) rfl _ _ _ _ _ (0, 0) _ rfl HT.out.b Try.underlying25 rfl (by kernel_rfl)) rfl ?_
 exact ⟨rfl, HT.out.ext⟩
end Cw
end Go.Proofs.Ytkfohggdaooieaa
/- Slow and Idle. No condition of its own. -/
namespace Go.Proofs.Ytkfohggdaooieaa
namespace Cw
open Go Go.RowKit
set_option maxRecDepth 100000
set_option maxHeartbeats 4000000 in
theorem slow_any (e : E) (w : World) : Calls Try.prog 13 #[.agg (EV e)] w fun x w' => x = .returned (.bool (decide ((okE e).sz ≤ (okE e).th))) ∧ Ext w w' := by
 go_enter Try.func13, Try.ntmps13
 go_wp2_with (first
  | (refine wl_box (C := EV e) rfl rfl rfl ?_; intro w1 hb1 he1 hx; clear hx)
  | (have q := hb1; clear q; refine wl_load rfl rowE rfl rfl hb1 rfl ?_)
  | (go_at_call 16; refine (orFirst_any _ _).mono ?_; rintro x w3 ⟨rfl, he3⟩; have hb3 := hb1.ext he3; clear hb1)
  | (have q := hb3; clear q; refine wl_store (D := EV (okE e)) rfl rowE rfl rfl rfl hb3 rfl rfl (EV.one _) ?_; intro w4 hb4 hk4 hx4; clear hx4; have x0 := ev0 hb4; have x1 := ev1 hb4; have x2 := ev2 hb4; have HX : Hid (Ext w w4) := (he1.trans he3).of_but hk4 (fun q e => by subst e; exact Nat.le_refl _); clear hb3 he3 he1 hk4))
 go_ret
 exact ⟨rfl, HX.out⟩
end Cw
end Go.Proofs.Ytkfohggdaooieaa
