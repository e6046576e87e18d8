/- Texts of the seat, one behind the other. No condition of its own. -/
import Derived.Orders
import Derived.Laws.World
import Derived.Tactics
import Derived.WalkKit
import Derived.ProofKit
import Derived.Below
import Derived.Laws.BytesArg
import Derived.Laws.OwnMore
import Derived.Maps.AppendAt
import Derived.Deep.AppendLies
import Derived.Laws.IdiomStrings
import Derived.Laws.Strings
import Derived.OpenShut
import Derived.Laws.MakeOwn
import Derived.Laws.CopyOwn
import Derived.Laws.CopyRow
import Derived.MakeChecks
import Derived.ChangeOld
import Derived.Laws.BitsAllLaws
import Derived.OrdersIn
import Derived.OwnWalkIn
import Derived.RangeFuncCalls
import Derived.RangeFuncNested
import Derived.RangeFuncBox
import Derived.RangeFuncBound
import Derived.RangeFuncLeaves
import Derived.Shelf.Abstract
import Derived.Shelf.RegionOpen
import Derived.TacticsInMore
import Derived.LoopNIn
import Derived.LoopIn
import Derived.ArgAppend
set_option linter.unusedVariables false
set_option linter.unusedSimpArgs false
set_option maxHeartbeats 32000000
set_option maxRecDepth 100000
namespace Go.Proofs.Ytigocaconkbalaa
open Go
def maker (ops : List Oper) (t : Tmp) : Option Nat := ops.findIdx? fun o => o.dst == some t
def factOf (mk : Tmp → Option Nat) (a0 : Act) (V : Nat → World → Value → Prop) (r : Operand → Value) (w : World) : Operand → Prop
 | .tmp t => match mk t with
  | some j => V j w (r (.tmp t))
  | none => r (.tmp t) = a0.eval (.tmp t)
 | .const c => r (.const c) = c
 | .global g => r (.global g) = .pointer (some ⟨g, 0, none⟩)
 | .func f => r (.func f) = .func (.func f) #[] #[]
def factsOf (mk : Tmp → Option Nat) (a0 : Act) (V : Nat → World → Value → Prop) (r : Operand → Value) (w : World) : List Operand → Prop
 | [] => True
 | x :: l => factOf mk a0 V r w x ∧ factsOf mk a0 V r w l
theorem factsOf_mk {mk : Tmp → Option Nat} {a0 : Act} {V : Nat → World → Value → Prop} {r : Operand → Value} {w : World} : ∀ {l : List Operand}, (∀ x ∈ l, factOf mk a0 V r w x) → factsOf mk a0 V r w l
 | [], _ => trivial
 | x :: _, h => ⟨h x (by simp), factsOf_mk fun y hy => h y (by simp [hy])⟩
def give (P : Program) (K : Value → World → Prop) : Result Next → Prop
 | .ok (.value v) w' => K v w'
 | .ok .skip w' => K undef w'
 | .ok (.enter f args) w' => Calls P f args w' fun e w'' => ∃ v, e = .returned v ∧ K v w''
 | _ => False
def asBool : Value → Option Bool
 | .bool b => some b
 | _ => none
def Good (P : Program) (mk : Tmp → Option Nat) (a0 : Act) (R : World → World → Prop) (V : Nat → World → Value → Prop) (w0 : World) (i : Nat) (o : Oper) : Prop :=
 ∀ (r : Operand → Value) (w : World), R w0 w → factsOf mk a0 V r w o.op.operands.toList →
  match o.guard with
  | none => give P (fun v w' => R w w' ∧ V i w' v) ((execOp r o).run P w)
  | some (g, want) => ∀ b, V g w b → if asBool b == some want then give P (fun v w' => R w w' ∧ V i w' v) ((execOp r o).run P w) else V i w undef
def afterB (o : Oper) (j : Nat) : Bool := o.after.any fun e => Region.binds .any e && e.on == j
def shapeOneB (mk : Tmp → Option Nat) (ops : List Oper) (n : Nat) (i : Nat) (o : Oper) : Bool :=
 (match o.op with | .select .. => false | _ => true) &&
 (o.op.operands.toList.all fun x => match x with
  | .tmp t => maker ops t == mk t && (match maker ops t with | some j => afterB o j | none => true)
  | _ => true) &&
 (match o.guard with
  | none => true
  | some (g, _) => afterB o g && ((ops[g]?).bind (·.dst)).isSome) &&
 (match o.dst with
  | none => true
  | some d => maker ops d == some i && decide (d < n)) &&
 o.after.all fun e => !(Region.binds .any e) || decide (e.on < i)
def shapeB (mk : Tmp → Option Nat) (ops : List Oper) (n : Nat) : Bool := (List.range ops.length).all fun i => match ops[i]? with
 | none => true
 | some o => shapeOneB mk ops n i o
def putAll (vs : Nat → Value) : List Oper → Nat → Act → Act
 | [], _, a => a
 | o :: l, i, a => putAll vs l (i + 1) (a.put o.dst (vs i))
structure Inv (ops : List Oper) (a0 : Act) (R : World → World → Prop) (V : Nat → World → Value → Prop) (w0 : World) (listed : Array Bool) (a : Act) (w : World) : Prop where
 rel : R w0 w
 defers : a.defers = a0.defers
 size : a.tmps.size = a0.tmps.size
 rest : ∀ t, (∀ (i : Nat) o, ops[i]? = some o → o.dst = some t → listed.getD i true = false) → a.tmps[t]? = a0.tmps[t]?
 done : ∀ (i : Nat) o, ops[i]? = some o → listed.getD i false = true → ∃ v, (∀ d, o.dst = some d → a.tmps[d]? = some v) ∧ V i w v
theorem maker_some {ops : List Oper} {t : Tmp} {j : Nat} (h : maker ops t = some j) : ∃ o, ops[j]? = some o ∧ o.dst = some t := by
 unfold maker at h
 rw [List.findIdx?_eq_some_iff_getElem] at h
 obtain ⟨hj, h1, _⟩ := h
 exact ⟨ops[j], by simp [hj], by simpa using h1⟩
theorem maker_none {ops : List Oper} {t : Tmp} (h : maker ops t = none) {i : Nat} {o : Oper} (ho : ops[i]? = some o) : o.dst ≠ some t := by
 unfold maker at h
 rw [List.findIdx?_eq_none_iff] at h
 have := h o (List.mem_of_getElem? ho)
 simpa using this
theorem shape_spec {mk : Tmp → Option Nat} {ops : List Oper} {n : Nat} (h : shapeB mk ops n = true) {i : Nat} {o : Oper} (ho : ops[i]? = some o) : shapeOneB mk ops n i o = true := by
 unfold shapeB at h
 rw [List.all_eq_true] at h
 have hi : i < ops.length := by
  rcases Nat.lt_or_ge i ops.length with h' | h'
  ·
   exact h'
  ·
   simp [List.getElem?_eq_none h'] at ho
 have := h i (List.mem_range.2 hi)
 simpa [ho] using this
section
variable {P : Program} {mk : Tmp → Option Nat} {ops : List Oper} {a0 : Act} {R : World → World → Prop} {V : Nat → World → Value → Prop} {w0 : World} {Q : Exit → Act → World → Prop} {n : Nat}
theorem shape_dst (h : shapeB mk ops n = true) {i j : Nat} {o o' : Oper} {d : Tmp} (hi : ops[i]? = some o) (hj : ops[j]? = some o') (h1 : o.dst = some d) (h2 : o'.dst = some d) : i = j := by
 have a1 := shape_spec h hi
 have a2 := shape_spec h hj
 simp only [shapeOneB, h1, h2, Bool.and_eq_true, beq_iff_eq] at a1 a2
 have e := a1.1.2.1.symm.trans a2.1.2.1
 exact Option.some.inj e
theorem after_spec {o : Oper} {j : Nat} (h : afterB o j = true) : ∃ e ∈ o.after, Region.binds .any e = true ∧ e.on = j := by
 unfold afterB at h
 obtain ⟨e, he, hb⟩ := Array.any_eq_true'.1 h
 simp only [Bool.and_eq_true, beq_iff_eq] at hb
 exact ⟨e, he, hb.1, hb.2⟩
theorem Inv.put (hsh : shapeB mk ops n = true) (hn : a0.tmps.size = n) (hV : ∀ i w w' v, R w w' → V i w v → V i w' v) (hT : ∀ a b c, R a b → R b c → R a c)
  {listed : Array Bool} {a : Act} {w w' : World} (hI : Inv ops a0 R V w0 listed a w) {i : Nat} {o : Oper} (ho : ops[i]? = some o) (hl : listed.getD i true = false) {v : Value} (hR : R w w') (hv : V i w' v) :
  Inv ops a0 R V w0 (listed.setIfInBounds i true) (a.put o.dst v) w' := by
 have hlt : i < listed.size := by
  rcases Nat.lt_or_ge i listed.size with h | h
  ·
   exact h
  ·
   simp [Array.getElem?_eq_none h] at hl
 have hs := shape_spec hsh ho
 refine ⟨hT _ _ _ hI.rel hR, ?_, ?_, ?_, ?_⟩
 ·
  cases hd : o.dst <;> simp [Act.put, hI.defers]
 ·
  cases hd : o.dst <;> simp [Act.put, hI.size]
 ·
  intro t ht
  have h1 : a.tmps[t]? = a0.tmps[t]? := hI.rest t fun j o' hj hd' => by
   have := ht j o' hj hd'
   by_cases hij : i = j
   ·
    subst hij; simp [hlt] at this
   ·
    rw [getD_set_ne true hij] at this; exact this
  cases hd : o.dst with
  | none => simpa [Act.put] using h1
  | some d =>
   have hne : d ≠ t := by
    rintro rfl
    have := ht i o ho hd
    simp [hlt] at this
   simpa [Act.put, Array.getElem?_setIfInBounds_ne hne] using h1
 ·
  intro j o' hj hlj
  by_cases hij : i = j
  ·
   subst hij
   rw [ho] at hj; cases hj
   refine ⟨v, fun d hd => ?_, hv⟩
   have hdn : d < n := by
    simp only [shapeOneB, hd, Bool.and_eq_true, decide_eq_true_eq] at hs
    exact hs.1.2.2
   have : d < a.tmps.size := by rw [hI.size, hn]; exact hdn
   simp [Act.put, hd, this]
  ·
   have hlj' : listed.getD j false = true := by
    rw [getD_set_ne false hij] at hlj; exact hlj
   obtain ⟨v', h1, h2⟩ := hI.done j o' hj hlj'
   refine ⟨v', fun d hd => ?_, hV _ _ _ _ hR h2⟩
   have h3 := h1 d hd
   cases hd' : o.dst with
   | none => simpa [Act.put] using h3
   | some d' =>
    have hne : d' ≠ d := by
     rintro rfl
     exact hij (shape_dst hsh ho hj hd' hd)
    simpa [Act.put, Array.getElem?_setIfInBounds_ne hne] using h3
theorem Inv.facts (hsh : shapeB mk ops n = true) {listed : Array Bool} {a : Act} {w : World} (hI : Inv ops a0 R V w0 listed a w) {i : Nat} {o : Oper} (ho : ops[i]? = some o)
  (hall : ∀ e ∈ o.after, Region.binds .any e = true → listed.getD e.on false = true) : ∀ x ∈ o.op.operands.toList, factOf mk a0 V a.eval w x := by
 intro x hx
 have hs := shape_spec hsh ho
 simp only [shapeOneB, Bool.and_eq_true, List.all_eq_true] at hs
 have h2 := hs.1.1.1.2 x hx
 cases x with
 | tmp t =>
  simp only [factOf]
  simp only [Bool.and_eq_true, beq_iff_eq] at h2
  rw [← h2.1]
  cases hm : maker ops t with
  | none =>
   simp only [Act.eval]
   have := hI.rest t fun j o' hj hd' => absurd hd' (maker_none hm hj)
   simp [this]
  | some j =>
   simp only [hm] at h2
   obtain ⟨e, he, hb, rfl⟩ := after_spec h2.2
   obtain ⟨o', hj, hd'⟩ := maker_some hm
   obtain ⟨v, h3, h4⟩ := hI.done _ o' hj (hall e he hb)
   have := h3 t hd'
   simp only [Act.eval]
   simpa [this] using h4
 | const c => rfl
 | global g => rfl
 | func f => rfl
theorem count_set {l : Array Bool} {i : Nat} {fuel : Nat} (hl : l.getD i true = false) (hc : l.countP (· == false) ≤ fuel + 1) : (l.setIfInBounds i true).countP (· == false) ≤ fuel := by
 have hlt : i < l.size := by
  rcases Nat.lt_or_ge i l.size with h | h
  ·
   exact h
  ·
   simp [Array.getElem?_eq_none h] at hl
 have hf : l[i] = false := by simpa [hlt] using hl
 simp only [Array.setIfInBounds, hlt, ↓reduceDIte]
 rw [Array.countP_set]
 rw [hf]
 show _ - 1 + 0 ≤ fuel
 omega
theorem give_wp {o : Oper} {a : Act} {w : World} {K : Value → World → Prop} {next : Act → World → Prop} (h : give P K ((execOp a.eval o).run P w)) (hk : ∀ v w', K v w' → next (a.put o.dst v) w') : o.wp P a w next Q := by
 unfold Oper.wp
 generalize (execOp a.eval o).run P w = r at *
 cases r with
 | ok x w' =>
  cases x <;> simp only [give] at h <;> simp only [Oper.upon]
  case value v => exact hk _ _ h
  case skip => exact hk _ _ h
  case enter f args =>
   refine Calls.mono h fun e w'' ⟨v, he, hv⟩ => ?_
   subst he
   exact hk _ _ hv
 | halt x w' => simp [give] at h
theorem rely_any (hsh : shapeB mk ops n = true) (hn : a0.tmps.size = n) (hV : ∀ i w w' v, R w w' → V i w v → V i w' v) (hT : ∀ a b c, R a b → R b c → R a c) (hRf : ∀ w, R w w)
  (hG : ∀ i o, ops[i]? = some o → Good P mk a0 R V w0 i o)
  (hQ : ∀ a w, (∀ listed, Inv ops a0 R V w0 (Array.replicate ops.length listed) a w → listed = true → Q .normal a w)) :
  ∀ (fuel : Nat) (listed : Array Bool) (a : Act) (w : World), listed.size = ops.length → listed.countP (· == false) ≤ fuel → Inv ops a0 R V w0 listed a w → wpAny P .any ops.toArray Q fuel listed a w := by
 have ready_nil : ∀ (listed : Array Bool), listed.size = ops.length → Region.ready .any ops.toArray listed = [] → listed = Array.replicate ops.length true := by
  intro listed hs hr
  have key : ∀ i, i < ops.length → listed.getD i false = true := by
   intro i
   induction i using Nat.strongRecOn with
   | _ i ih =>
    intro hi
    cases hb : listed.getD i false with
    | true => rfl
    | false =>
     exfalso
     have ho : ops[i]? = some ops[i] := by simp [hi]
     have : i ∈ Region.ready .any ops.toArray listed := by
      rw [mem_ready]
      refine ⟨by simpa [hs, hi] using hb, ops[i], by simp [hi], fun e he hbi => ?_⟩
      have hsp := shape_spec hsh ho
      simp only [shapeOneB, Bool.and_eq_true] at hsp
      have h5 := Array.all_eq_true_iff_forall_mem.1 hsp.2 e he
      simp [hbi] at h5
      exact ih e.on h5 (by omega)
     rw [hr] at this
     cases this
  apply Array.ext
  ·
   simp [hs]
  ·
   intro i h1 h2
   have := key i (by omega)
   simpa [h1] using this
 have fin : ∀ (listed : Array Bool) (a : Act) (w : World), listed.size = ops.length → Inv ops a0 R V w0 listed a w → Region.ready .any ops.toArray listed = [] → Q .normal a w := by
  intro listed a w hs hI hr
  have := ready_nil listed hs hr
  subst this
  exact hQ a w true hI rfl
 intro fuel
 induction fuel with
 | zero =>
  intro listed a w hs hc hI
  have hr : Region.ready .any ops.toArray listed = [] := by
   cases hr : Region.ready .any ops.toArray listed with
   | nil => rfl
   | cons j js =>
    exfalso
    have hj : j ∈ Region.ready .any ops.toArray listed := by rw [hr]; simp
    have h0 := (mem_ready.1 hj).1
    have hlt : j < listed.size := by
     rcases Nat.lt_or_ge j listed.size with h | h
     ·
      exact h
     ·
      simp [Array.getElem?_eq_none h] at h0
    have h1 : listed.countP (· == false) = 0 := by omega
    rw [Array.countP_eq_zero] at h1
    have h2 : listed[j] = false := by simpa [hlt] using h0
    have := h1 listed[j] (Array.getElem_mem hlt)
    simp [h2] at this
  exact ⟨hr, fin listed a w hs hI hr⟩
 | succ fuel ih =>
  intro listed a w hs hc hI
  refine ⟨fin listed a w hs hI, fun i hi => ?_⟩
  obtain ⟨hl, o, ho', hall⟩ := mem_ready.1 hi
  have ho : ops[i]? = some o := by simpa using ho'
  have hg := hG i o ho a.eval w hI.rel (factsOf_mk (hI.facts hsh ho hall))
  unfold wpOp
  simp only [ho']
  have next : ∀ v w', R w w' ∧ V i w' v → wpAny P .any ops.toArray Q fuel (listed.setIfInBounds i true) (a.put o.dst v) w' := fun v w' ⟨h1, h2⟩ =>
   ih _ _ _ (by simp [hs]) (count_set hl hc) (hI.put hsh hn hV hT ho hl h1 h2)
  cases hgd : o.guard with
  | none =>
   simp only [hgd] at hg
   simp only [Region.wanted, hgd, if_true]
   exact .inl (give_wp hg next)
  | some gw =>
   obtain ⟨g, want⟩ := gw
   simp only [hgd] at hg
   have hsp := shape_spec hsh ho
   simp only [shapeOneB, hgd, Bool.and_eq_true] at hsp
   obtain ⟨e, he, hb, rfl⟩ := after_spec hsp.1.1.2.1
   obtain ⟨d, hd⟩ := Option.isSome_iff_exists.1 hsp.1.1.2.2
   obtain ⟨og, hog, hdg⟩ := Option.bind_eq_some_iff.1 hd
   obtain ⟨v, h3, h4⟩ := hI.done e.on og hog (hall e he hb)
   have hv := h3 d hdg
   have hy : yielded ops.toArray a.tmps e.on = asBool v := by
    unfold yielded
    simp only [List.getElem?_toArray, hog, Option.bind_some, hdg, hv]
    cases v <;> rfl
   have := hg v h4
   simp only [Region.wanted, hgd, hy]
   split
   ·
    rename_i hw
    rw [if_pos hw] at this
    exact .inl (give_wp this next)
   ·
    rename_i hw
    rw [if_neg hw] at this
    exact next _ _ ⟨hRf w, this⟩
theorem putAll_defers (vs : Nat → Value) : ∀ (l : List Oper) (i : Nat) (a : Act), (putAll vs l i a).defers = a.defers
 | [], _, _ => rfl
 | o :: l, i, a => by
  rw [putAll, putAll_defers vs l]
  cases o.dst <;> rfl
theorem putAll_other (vs : Nat → Value) (t : Tmp) : ∀ (l : List Oper) (i : Nat) (a : Act), (∀ o ∈ l, o.dst ≠ some t) → (putAll vs l i a).tmps[t]? = a.tmps[t]?
 | [], _, _, _ => rfl
 | o :: l, i, a, h => by
  rw [putAll, putAll_other vs t l _ _ (fun o' ho' => h o' (List.mem_cons_of_mem _ ho'))]
  have := h o (by simp)
  cases hd : o.dst with
  | none => rfl
  | some d =>
   have hne : d ≠ t := by rintro rfl; exact this hd
   simp [Act.put, Array.getElem?_setIfInBounds_ne hne]
theorem putAll_at (vs : Nat → Value) (t : Tmp) : ∀ (l : List Oper) (i : Nat) (a : Act) (k : Nat) (o : Oper), l[k]? = some o → o.dst = some t → t < a.tmps.size →
  (∀ k' o', l[k']? = some o' → o'.dst = some t → k' = k) → (putAll vs l i a).tmps[t]? = some (vs (i + k))
 | [], _, _, _, _, h, _, _, _ => by simp at h
 | o1 :: l, i, a, 0, o, h, hd, ht, huniq => by
  simp at h
  subst h
  rw [putAll, putAll_other vs t l _ _ (fun o' ho' hd' => by
   obtain ⟨k, hk⟩ := List.getElem?_of_mem ho'
   have := huniq (k + 1) o' (by simpa using hk) hd'
   omega)]
  simp [Act.put, hd, ht]
 | o1 :: l, i, a, k + 1, o, h, hd, ht, huniq => by
  rw [putAll, putAll_at vs t l (i + 1) _ k o (by simpa using h) hd (by cases o1.dst <;> simpa [Act.put] using ht) (fun k' o' hk' hd' => by
   have := huniq (k' + 1) o' (by simpa using hk') hd'
   omega)]
  rw [show i + 1 + k = i + (k + 1) by omega]
theorem Inv.whole (hsh : shapeB mk ops n = true) (hn : a0.tmps.size = n) {a : Act} {w : World} (hI : Inv ops a0 R V w0 (Array.replicate ops.length true) a w) :
  ∃ vs : Nat → Value, a = putAll vs ops 0 a0 ∧ ∀ i, i < ops.length → V i w (vs i) := by
 have hex : ∀ i : Nat, ∃ v, ∀ o, ops[i]? = some o → (∀ d, o.dst = some d → a.tmps[d]? = some v) ∧ V i w v := by
  intro i
  cases ho : ops[i]? with
  | none => exact ⟨undef, fun o h => by cases h⟩
  | some o =>
   have hi : i < ops.length := by
    rcases Nat.lt_or_ge i ops.length with h' | h'
    ·
     exact h'
    ·
     simp [List.getElem?_eq_none h'] at ho
   obtain ⟨v, h1, h2⟩ := hI.done i o ho (by simp [hi])
   exact ⟨v, fun o' h => by cases h; exact ⟨h1, h2⟩⟩
 refine ⟨fun i => Classical.choose (hex i), ?_, fun i hi => ((Classical.choose_spec (hex i)) ops[i] (by simp [hi])).2⟩
 have hd : a.defers = (putAll (fun i => Classical.choose (hex i)) ops 0 a0).defers := by rw [putAll_defers, hI.defers]
 have ht : a.tmps = (putAll (fun i => Classical.choose (hex i)) ops 0 a0).tmps := by
  apply Array.ext_getElem?
  intro t
  by_cases hm : ∃ (k : Nat) (o : Oper), ops[k]? = some o ∧ o.dst = some t
  ·
   obtain ⟨k, o, hk, hdt⟩ := hm
   have hs := shape_spec hsh hk
   simp only [shapeOneB, hdt, Bool.and_eq_true, decide_eq_true_eq] at hs
   rw [putAll_at _ t ops 0 a0 k o hk hdt (by rw [hn]; exact hs.1.2.2) (fun k' o' hk' hd' => shape_dst hsh hk' hk hd' hdt)]
   rw [Nat.zero_add]
   exact ((Classical.choose_spec (hex k)) o hk).1 t hdt
  ·
   rw [putAll_other _ t ops 0 a0 (fun o ho hdt => by
    obtain ⟨k, hk⟩ := List.getElem?_of_mem ho
    exact hm ⟨k, o, hk, hdt⟩)]
   exact hI.rest t fun i o hi hdt => absurd ⟨i, o, hi, hdt⟩ hm
 cases a
 cases h : putAll (fun i => Classical.choose (hex i)) ops 0 a0
 rw [h] at hd ht
 simp at hd ht
 rw [hd, ht]
theorem wp_region_rely {id : Nat} {w : World} (V : Nat → World → Value → Prop) (R : World → World → Prop) (hm : P.follows .mixedOrders = true) (hsh : shapeB mk ops n = true) (hn : a0.tmps.size = n)
  (hRf : ∀ w, R w w) (hT : ∀ a b c, R a b → R b c → R a c) (hV : ∀ i w w' v, R w w' → V i w v → V i w' v)
  (hG : ∀ i o, ops[i]? = some o → Good P mk a0 R V w.drew i o)
  (hQ : ∀ (vs : Nat → Value) (w' : World), R w.drew w' → (∀ i, i < ops.length → V i w' (vs i)) → Q .normal (putAll vs ops 0 a0) w') :
  (Code.region id ops.toArray true).wp P Q a0 w := by
 refine wp_region_any hm ?_
 have h := rely_any (P := P) (ops := ops) (a0 := a0) (R := R) (V := V) (w0 := w.drew) (Q := Q) (n := n) hsh hn hV hT hRf hG
  (fun a w' l hI hl => by
   subst hl
   obtain ⟨vs, rfl, h⟩ := hI.whole hsh hn
   exact hQ vs w' hI.rel h)
  ops.length (Array.replicate ops.length false) a0 w.drew (by simp) (by
   have := Array.countP_le_size (p := (· == false)) (xs := Array.replicate ops.length false)
   simpa using this) ⟨hRf _, rfl, rfl, fun _ _ => rfl, fun i o hi hl => by
    exfalso
    by_cases h : i < ops.length <;> simp [h] at hl⟩
 simpa using h
end
abbrev Fact := World → Value → Prop
def at_ (Vs : List Fact) (i : Nat) : Fact := Vs.getD i fun _ _ => True
def KeepAll (R : World → World → Prop) : List Fact → Prop
 | [] => True
 | f :: l => (∀ w w' v, R w w' → f w v → f w' v) ∧ KeepAll R l
def GoodAll (P : Program) (mk : Tmp → Option Nat) (a0 : Act) (R : World → World → Prop) (V : Nat → Fact) (w0 : World) : Nat → List Oper → Prop
 | _, [] => True
 | i, o :: l => Good P mk a0 R V w0 i o ∧ GoodAll P mk a0 R V w0 (i + 1) l
def HoldAll (w : World) (vs : Nat → Value) : Nat → List Fact → Prop
 | _, [] => True
 | i, f :: l => f w (vs i) ∧ HoldAll w vs (i + 1) l
theorem KeepAll.at {R : World → World → Prop} : ∀ {Vs : List Fact}, KeepAll R Vs → ∀ i w w' v, R w w' → at_ Vs i w v → at_ Vs i w' v
 | [], _, _, _, _, _, _, _ => trivial
 | _ :: _, h, 0, w, w', v, hr, hv => h.1 w w' v hr hv
 | _ :: l, h, i + 1, w, w', v, hr, hv => KeepAll.at (Vs := l) h.2 i w w' v hr hv
theorem GoodAll.at {P : Program} {mk : Tmp → Option Nat} {a0 : Act} {R : World → World → Prop} {V : Nat → Fact} {w0 : World} : ∀ {ops : List Oper} {k : Nat}, GoodAll P mk a0 R V w0 k ops → ∀ i o, ops[i]? = some o → Good P mk a0 R V w0 (k + i) o
 | [], _, _, i, o, ho => by simp at ho
 | _ :: _, k, h, 0, o, ho => by
  simp at ho; subst ho; exact h.1
 | _ :: l, k, h, i + 1, o, ho => by
  have := GoodAll.at (ops := l) h.2 i o (by simpa using ho)
  rwa [show k + 1 + i = k + (i + 1) by omega] at this
theorem HoldAll.mk {w : World} {vs : Nat → Value} : ∀ {Vs : List Fact} {k : Nat}, (∀ i, i < Vs.length → at_ Vs i w (vs (k + i))) → HoldAll w vs k Vs
 | [], _, _ => trivial
 | f :: l, k, h => ⟨h 0 (by simp), HoldAll.mk fun i hi => by
   have := h (i + 1) (by simpa using hi)
   rwa [show k + (i + 1) = k + 1 + i by omega] at this⟩
theorem HoldAll.get {w : World} {vs : Nat → Value} : ∀ {Vs : List Fact} {k : Nat}, HoldAll w vs k Vs → ∀ i, at_ Vs i w (vs (k + i))
 | [], _, _, _ => trivial
 | f :: l, k, h, 0 => h.1
 | f :: l, k, h, i + 1 => by
  have := HoldAll.get (Vs := l) h.2 i
  rwa [show k + 1 + i = k + (i + 1) by omega] at this
theorem HoldAll.at {w : World} {vs : Nat → Value} {Vs : List Fact} (h : HoldAll w vs 0 Vs) (i : Nat) : at_ Vs i w (vs i) := by
 have := h.get i
 rwa [Nat.zero_add] at this
theorem wp_region_facts {P : Program} {ops : List Oper} {a0 : Act} {Q : Exit → Act → World → Prop} {id : Nat} {w : World} (mk : Tmp → Option Nat) (n : Nat) (R : World → World → Prop) (Vs : List Fact) (hlen : Vs.length = ops.length)
  (hm : P.follows .mixedOrders = true) (hsh : shapeB mk ops n = true) (hn : a0.tmps.size = n)
  (hRf : ∀ w, R w w) (hT : ∀ a b c, R a b → R b c → R a c) (hK : KeepAll R Vs) (hG : GoodAll P mk a0 R (at_ Vs) w.drew 0 ops)
  (hQ : ∀ (vs : Nat → Value) (w' : World) (a' : Act), R w.drew w' → HoldAll w' vs 0 Vs → a' = putAll vs ops 0 a0 → Q .normal a' w') :
  (Code.region id ops.toArray true).wp P Q a0 w :=
 wp_region_rely (at_ Vs) R hm hsh hn hRf hT hK.at (fun i o ho => by have := hG.at i o ho; rwa [Nat.zero_add] at this)
  fun vs w' hr h => hQ vs w' _ hr (HoldAll.mk fun i hi => by rw [Nat.zero_add]; exact h i (by omega)) rfl
section
variable {P : Program} {K : Value → World → Prop} {r : Operand → Value} {w : World} {o : Oper}
theorem gvo {v : Value} {w' : World} (h : (execOp r o).run P w = .ok (.value v) w') (hk : K v w') : give P K ((execOp r o).run P w) := by rw [h]; exact hk
theorem give_call {f : FuncId} {args : Array Value} {w' : World} (h : (execOp r o).run P w = .ok (.enter f args) w') (hk : Calls P f args w' fun e w'' => ∃ v, e = .returned v ∧ K v w'') : give P K ((execOp r o).run P w) := by rw [h]; exact hk
theorem give_move {x : Operand} (ho : o.op = .move x ∨ o.op = .assign x) (hk : K (r x) w) : give P K ((execOp r o).run P w) :=
 gvo (by rcases ho with ho | ho <;> simp [execOp, ho, Sem.run_pure]) hk
theorem give_pick {c x y : Operand} (ho : o.op = .pick c x y) (hc : r c = .bool true) (hk : K (r x) w) : give P K ((execOp r o).run P w) :=
 gvo (by simp [execOp, ho, hc, Go.asBool]) hk
theorem give_pickF {c x y : Operand} (ho : o.op = .pick c x y) (hc : r c = .bool false) (hk : K (r y) w) : give P K ((execOp r o).run P w) :=
 gvo (by simp [execOp, ho, hc, Go.asBool]) hk
theorem give_func (az : Array Value) {f : FuncId} {fo : Operand} {args : Array Operand} {ts : Array TypeId} (ho : o.op = .call { callee := .value fo, args := args, argTypes := ts }) (hf : r fo = .func (.func f) #[] #[]) (hc : ∀ (az : Array Value) (w : World), (callFunc f az).run P w = .ok (.enter f az) w)
  (ha : args.map r = az) (hk : Calls P f az w fun e w'' => ∃ v, e = .returned v ∧ K v w'') : give P K ((execOp r o).run P w) :=
 give_call (by subst ha; simp [execOp, ho, hf, resolve, invoke, Deferred.ofValue, hc]) hk
end
theorem guard_in {p q : Prop} {b : Value} {want : Bool} (h : b = .bool want) (hp : p) : if asBool b == some want then p else q := by
 subst h; simp [asBool]; exact hp
theorem guard_out {p q : Prop} {b : Value} {want : Bool} (h : b = .bool (!want)) (hq : q) : if asBool b == some want then p else q := by
 subst h; cases want <;> simp [asBool] <;> exact hq
def Is (c : Value) : Fact := fun _ v => v = c
theorem GoodAll.nil {P : Program} {mk : Tmp → Option Nat} {a0 : Act} {R : World → World → Prop} {V : Nat → Fact} {w0 : World} {i : Nat} : GoodAll P mk a0 R V w0 i [] := trivial
theorem Gc {P : Program} {mk : Tmp → Option Nat} {a0 : Act} {R : World → World → Prop} {V : Nat → Fact} {w0 : World} {i : Nat} {o : Oper} {l : List Oper} (h : Good P mk a0 R V w0 i o) (hl : GoodAll P mk a0 R V w0 (i + 1) l) : GoodAll P mk a0 R V w0 i (o :: l) := ⟨h, hl⟩
theorem KeepAll.nil {R : World → World → Prop} : KeepAll R [] := trivial
theorem Ks {R : World → World → Prop} {c : Value} {l : List Fact} (h : KeepAll R l) : KeepAll R (Is c :: l) := ⟨fun _ _ _ _ h => h, h⟩
theorem KeepAll.cons {R : World → World → Prop} {f : Fact} {l : List Fact} (hf : ∀ w w' v, R w w' → f w v → f w' v) (h : KeepAll R l) : KeepAll R (f :: l) := ⟨hf, h⟩
end Go.Proofs.Ytigocaconkbalaa
namespace Go.Proofs.Ytigocaconkbalaa
open Go
def upto (n k : Nat) : Array Bool := (List.ofFn (n := n) fun i => decide (i.val < k)).toArray
theorem upto_getD (n k i : Nat) (d : Bool) : (upto n k).getD i d = if i < n then decide (i < k) else d := by
 unfold upto
 by_cases h : i < n <;> simp [Array.getD, h]
theorem upto_all (n : Nat) : upto n n = Array.replicate n true := by
 apply Array.ext
 ·
  simp [upto]
 ·
  intro i h1 h2
  simp [upto] at h1 ⊢
  try exact h1
theorem upto_set (n k : Nat) (h : k < n) : (upto n k).setIfInBounds k true = upto n (k + 1) := by
 apply Array.ext
 ·
  simp [upto]
 ·
  intro i h1 h2
  rw [Array.getElem_setIfInBounds (by simpa using h1)]
  simp only [upto, List.getElem_toArray, List.getElem_ofFn]
  by_cases hk : k = i
  ·
   subst hk; simp
  ·
   simp only [hk, if_false]
   by_cases h3 : i < k
   ·
    simp [h3]; omega
   ·
    simp [h3]; omega
section
variable {P : Program} {mk : Tmp → Option Nat} {ops : List Oper} {a0 : Act} {R : World → World → Prop} {V : Nat → World → Value → Prop} {w0 : World} {Q : Exit → Act → World → Prop} {n : Nat}
theorem line_from (k0 : Nat) (hsh : shapeB mk ops n = true) (hn : a0.tmps.size = n) (hV : ∀ i w w' v, R w w' → V i w v → V i w' v) (hT : ∀ a b c, R a b → R b c → R a c) (hRf : ∀ w, R w w)
  (hG : ∀ i o, k0 ≤ i → ops[i]? = some o → Good P mk a0 R V w0 i o)
  (hQ : ∀ a w, Inv ops a0 R V w0 (Array.replicate ops.length true) a w → Q .normal a w) :
  ∀ (l : List Oper) (k : Nat) (a : Act) (w : World), k0 ≤ k → ops.drop k = l → Inv ops a0 R V w0 (upto ops.length k) a w → wpList P ops.toArray Q l a w := by
 intro l
 induction l with
 | nil =>
  intro k a w hk0 hl hI
  have hk : ops.length ≤ k := by simpa using hl
  refine hQ a w ?_
  rw [← upto_all]
  have : upto ops.length k = upto ops.length ops.length := by
   apply Array.ext
   ·
    simp [upto]
   ·
    intro i h1 h2
    simp [upto] at h1 ⊢
    omega
  rw [← this]; exact hI
 | cons o rest ih =>
  intro k a w hk0 hl hI
  have hk : k < ops.length := by
   rcases Nat.lt_or_ge k ops.length with h | h
   ·
    exact h
   ·
    rw [List.drop_eq_nil_of_le h] at hl; cases hl
  have ho : ops[k]? = some o := by
   have := congrArg (fun l => l[0]?) hl
   simpa [List.getElem?_drop] using this
  have hrest : ops.drop (k + 1) = rest := by
   rw [← List.drop_drop, hl]; rfl
  have hgl : (upto ops.length k).getD k true = false := by rw [upto_getD]; simp [hk]
  have hsp := shape_spec hsh ho
  simp only [shapeOneB, Bool.and_eq_true] at hsp
  have hall : ∀ e ∈ o.after, Region.binds .any e = true → (upto ops.length k).getD e.on false = true := by
   intro e he hb
   have h5 := Array.all_eq_true_iff_forall_mem.1 hsp.2 e he
   simp [hb] at h5
   rw [upto_getD]; simp [h5]; omega
  have hg := hG k o hk0 ho a.eval w hI.rel (factsOf_mk (hI.facts hsh ho hall))
  have next : ∀ v w', R w w' ∧ V k w' v → wpList P ops.toArray Q rest (a.put o.dst v) w' := fun v w' ⟨h1, h2⟩ =>
   ih (k + 1) _ _ (by omega) hrest (by rw [← upto_set _ _ hk]; exact hI.put hsh hn hV hT ho hgl h1 h2)
  unfold wpList
  cases hgd : o.guard with
  | none =>
   simp only [hgd] at hg
   simp only [Region.wanted, hgd, if_true]
   exact .inl (give_wp hg next)
  | some gw =>
   obtain ⟨g, want⟩ := gw
   simp only [hgd] at hg
   simp only [hgd, Bool.and_eq_true] at hsp
   obtain ⟨e, he, hb, rfl⟩ := after_spec hsp.1.1.2.1
   obtain ⟨d, hd⟩ := Option.isSome_iff_exists.1 hsp.1.1.2.2
   obtain ⟨og, hog, hdg⟩ := Option.bind_eq_some_iff.1 hd
   obtain ⟨v, h3, h4⟩ := hI.done e.on og hog (hall e he hb)
   have hv := h3 d hdg
   have hy : yielded ops.toArray a.tmps e.on = asBool v := by
    unfold yielded
    simp only [List.getElem?_toArray, hog, Option.bind_some, hdg, hv]
    cases v <;> rfl
   have := hg v h4
   simp only [Region.wanted, hgd, hy]
   split
   ·
    rename_i hw
    rw [if_pos hw] at this
    exact .inl (give_wp this next)
   ·
    rename_i hw
    rw [if_neg hw] at this
    exact next _ _ ⟨hRf w, this⟩
end
theorem wp_line {P : Program} {ops : List Oper} {a0 : Act} {Q : Exit → Act → World → Prop} {id : Nat} {w : World} (mk : Tmp → Option Nat) (n : Nat) (R : World → World → Prop) (Vs : List Fact) (hlen : Vs.length = ops.length)
  (hsh : shapeB mk ops n = true) (hn : a0.tmps.size = n)
  (hRf : ∀ w, R w w) (hT : ∀ a b c, R a b → R b c → R a c) (hK : KeepAll R Vs) (hG : GoodAll P mk a0 R (at_ Vs) w 0 ops)
  (hQ : ∀ (vs : Nat → Value) (w' : World) (a' : Act), R w w' → HoldAll w' vs 0 Vs → a' = putAll vs ops 0 a0 → Q .normal a' w') :
  (Code.region id ops.toArray false).wp P Q a0 w := by
 refine wp_region_lit ?_
 refine line_from (P := P) (mk := mk) (R := R) (V := at_ Vs) (w0 := w) (n := n) 0 hsh hn hK.at hT hRf (fun i o _ ho => by have := hG.at i o ho; rwa [Nat.zero_add] at this) ?_ ops 0 a0 w (Nat.le_refl _) (by simp) ?_
 ·
  intro a w' hI
  obtain ⟨vs, rfl, h⟩ := hI.whole hsh hn
  exact hQ vs w' _ hI.rel (HoldAll.mk fun i hi => by rw [Nat.zero_add]; exact h i (by omega)) rfl
 ·
  exact ⟨hRf _, rfl, rfl, fun _ _ => rfl, fun i o hi hl => by
   exfalso
   rw [upto_getD] at hl
   by_cases h : i < ops.length <;> simp [h] at hl⟩
theorem wpList_line {P : Program} {ops : List Oper} {a0 : Act} {Q : Exit → Act → World → Prop} {w : World} (k : Nat) (mk : Tmp → Option Nat) (n : Nat) (R : World → World → Prop) (Vs : List Fact) (hlen : Vs.length = ops.length)
  (hsh : shapeB mk ops n = true) (hn : a0.tmps.size = n)
  (hRf : ∀ w, R w w) (hT : ∀ a b c, R a b → R b c → R a c) (hK : KeepAll R Vs)
  (hd : ∀ i o, i < k → ops[i]? = some o → ∃ v, (∀ d, o.dst = some d → a0.tmps[d]? = some v) ∧ at_ Vs i w v)
  (hG : ∀ i o, k ≤ i → ops[i]? = some o → Good P mk a0 R (at_ Vs) w i o)
  (hQ : ∀ (vs : Nat → Value) (w' : World) (a' : Act), R w w' → HoldAll w' vs 0 Vs → a' = putAll vs ops 0 a0 → Q .normal a' w') :
  wpList P ops.toArray Q (ops.drop k) a0 w := by
 have hG' : ∀ (l : List Oper) (k' : Nat) (a : Act) (w' : World), k ≤ k' → ops.drop k' = l → Inv ops a0 R (at_ Vs) w (upto ops.length k') a w' → wpList P ops.toArray Q l a w' := by
  intro l k' a w' hk hl hI
  refine line_from (P := P) (mk := mk) (R := R) (V := at_ Vs) (w0 := w) (n := n) k hsh hn hK.at hT hRf hG ?_ l k' a w' hk hl hI
  intro a w' hI
  obtain ⟨vs, rfl, h⟩ := hI.whole hsh hn
  exact hQ vs w' _ hI.rel (HoldAll.mk fun i hi => by rw [Nat.zero_add]; exact h i (by omega)) rfl
 refine hG' _ k a0 w (Nat.le_refl _) rfl ⟨hRf _, rfl, rfl, fun _ _ => rfl, fun i o hi hl => ?_⟩
 rw [upto_getD] at hl
 have hik : i < k := by
  by_cases h : i < ops.length <;> simp [h] at hl
  exact hl
 exact hd i o hik hi
section
variable {P : Program} {K : Value → World → Prop} {r : Operand → Value} {w : World} {o : Oper}
end
def Under (C : Bool) (v : Value) : Fact := fun _ x => x = if C = true then v else undef
theorem Ku {R : World → World → Prop} {C : Bool} {c : Value} {l : List Fact} (h : KeepAll R l) : KeepAll R (Under C c :: l) := ⟨fun _ _ _ _ h => h, h⟩
theorem Under.no {C : Bool} {v : Value} {w : World} (h : C = false) : Under C v w undef := (if_neg (by rw [h]; decide)).symm
theorem uy {C : Bool} {v : Value} (h : C = true) : v = if C = true then v else undef := (if_pos h).symm
theorem un_ {C : Bool} {v : Value} (h : C = false) : undef = if C = true then v else undef := (if_neg (by rw [h]; decide)).symm
theorem Under.get {C : Bool} {v x : Value} {w : World} (h : Under C v w x) (hc : C = true) : x = v := h.trans (if_pos hc)
theorem guard_u {p q : Prop} {gb : Value} {b want C : Bool} (h : gb = .bool b) (hC : C = (b == want)) (h1 : C = true → p) (h2 : C = false → q) : if asBool gb == some want then p else q := by
 subst h
 cases hb : (b == want) with
 | true => rw [if_pos (by simpa [asBool] using hb)]; exact h1 (hC.trans hb)
 | false => rw [if_neg (by simpa [asBool] using hb)]; exact h2 (hC.trans hb)
theorem guard_n {p q : Prop} {gb : Value} {w : World} {C0 b want C : Bool} (h : Under C0 (.bool b) w gb) (hC : C = (C0 && (b == want))) (h1 : C = true → p) (h2 : C = false → q) : if asBool gb == some want then p else q := by
 cases hc : C0 with
 | true => exact guard_u (h.get hc) (hC.trans (by rw [hc, Bool.true_and])) h1 h2
 | false =>
  have : gb = undef := h.trans (if_neg (by rw [hc]; decide))
  subst this
  rw [if_neg (by simp [asBool, undef])]
  exact h2 (hC.trans (by rw [hc]; rfl))
theorem want_t (b : Bool) : b = (b == true) := by cases b <;> rfl
theorem want_f (b : Bool) : (!b) = (b == false) := by cases b <;> rfl
theorem goodFrom {P : Program} {mk : Tmp → Option Nat} {a0 : Act} {R : World → World → Prop} {V : Nat → Fact} {w0 : World} {ops : List Oper} (k : Nat) (h : GoodAll P mk a0 R V w0 k (ops.drop k)) : ∀ i o, k ≤ i → ops[i]? = some o → Good P mk a0 R V w0 i o := by
 intro i o hk ho
 have := h.at (i - k) o (by rw [List.getElem?_drop, show k + (i - k) = i by omega]; exact ho)
 rwa [show k + (i - k) = i by omega] at this
structure Stop (p : Prop) : Prop where
 go : p
theorem stop_at {P : Program} {ops : Array Oper} {Q : Exit → Act → World → Prop} {l : List Oper} {a : Act} {w : World} (n : Nat) (h : l.length = n) (s : Stop (wpList P ops Q l a w)) : wpList P ops Q l a w := s.go
end Go.Proofs.Ytigocaconkbalaa
namespace Go.Proofs.Ytigocaconkbalaa
open Go
def metF (l : Array Bool) : Nat → Bool := fun i => l.getD i true
def met1 (L : Nat → Bool) (i : Nat) : Nat → Bool := fun j => j == i || L j
theorem metF_set (l : Array Bool) (i : Nat) (h : i < l.size) : metF (l.setIfInBounds i true) = met1 (metF l) i := by
 funext j
 unfold metF met1
 by_cases hj : i = j
 ·
  subst hj; simp [h]
 ·
  have h2 : (j == i) = false := beq_false_of_ne (fun e => hj e.symm)
  rw [h2, Bool.false_or, getD_set_ne true hj]
def OwedJ (P : Program) (J : (Nat → Bool) → Act → World → Prop) (i : Nat) (o : Oper) : Prop :=
 o.guard = none ∧ ∀ (L : Nat → Bool) (a : Act) (w : World), J L a w → L i = false → (∀ e ∈ o.after.toList, Region.binds .any e = true → L e.on = true) → give P (fun v w' => J (met1 L i) (a.put o.dst v) w') ((execOp a.eval o).run P w)
def OwedAll (P : Program) (J : (Nat → Bool) → Act → World → Prop) : Nat → List Oper → Prop
 | _, [] => True
 | i, o :: l => OwedJ P J i o ∧ OwedAll P J (i + 1) l
theorem OwedAll.at {P : Program} {J : (Nat → Bool) → Act → World → Prop} : ∀ {ops : List Oper} {k : Nat}, OwedAll P J k ops → ∀ i o, ops[i]? = some o → OwedJ P J (k + i) o
 | [], _, _, i, o, h => by simp at h
 | o1 :: l, k, hA, 0, o, h => by simp at h; subst h; exact hA.1
 | o1 :: l, k, hA, i + 1, o, h => by
  have := OwedAll.at hA.2 i o (by simpa using h)
  rwa [show k + 1 + i = k + (i + 1) by omega] at this
theorem OwedAll.nil {P : Program} {J : (Nat → Bool) → Act → World → Prop} {i : Nat} : OwedAll P J i [] := trivial
theorem OwedAll.cons {P : Program} {J : (Nat → Bool) → Act → World → Prop} {i : Nat} {o : Oper} {l : List Oper} (hg : o.guard = none) (h : ∀ (L : Nat → Bool) (a : Act) (w : World), J L a w → L i = false → (∀ e ∈ o.after.toList, Region.binds .any e = true → L e.on = true) → give P (fun v w' => J (met1 L i) (a.put o.dst v) w') ((execOp a.eval o).run P w)) (hl : OwedAll P J (i + 1) l) : OwedAll P J i (o :: l) := ⟨⟨hg, h⟩, hl⟩
def backB (ops : List Oper) : Bool := (List.range ops.length).all fun i => match ops[i]? with
 | none => true
 | some o => o.after.toList.all fun e => !(Region.binds .any e) || decide (e.on < i)
theorem inv_any {P : Program} {ops : List Oper} {Q : Exit → Act → World → Prop} (J : (Nat → Bool) → Act → World → Prop) (hb : backB ops = true) (hG : OwedAll P J 0 ops)
  (hQ : ∀ a w, J (fun _ => true) a w → Q .normal a w) :
  ∀ (fuel : Nat) (listed : Array Bool) (a : Act) (w : World), listed.size = ops.length → listed.countP (· == false) ≤ fuel → J (metF listed) a w → wpAny P .any ops.toArray Q fuel listed a w := by
 have back : ∀ i o, ops[i]? = some o → ∀ e ∈ o.after.toList, Region.binds .any e = true → e.on < i := by
  intro i o ho e he hbi
  have hi : i < ops.length := (List.getElem?_eq_some_iff.1 ho).1
  have h1 := List.all_eq_true.1 hb i (List.mem_range.2 hi)
  rw [ho] at h1
  have h2 := List.all_eq_true.1 h1 e he
  simpa [hbi] using h2
 have fin : ∀ (listed : Array Bool) (a : Act) (w : World), listed.size = ops.length → J (metF listed) a w → Region.ready .any ops.toArray listed = [] → Q .normal a w := by
  intro listed a w hs hI hr
  have key : ∀ i, listed.getD i true = true := by
   intro i
   induction i using Nat.strongRecOn with
   | _ i ih =>
    cases hbi : listed.getD i true with
    | true => rfl
    | false =>
     exfalso
     have hi : i < ops.length := by
      rcases Nat.lt_or_ge i ops.length with h | h
      ·
       exact h
      ·
       rw [← hs] at h; simp [Array.getElem?_eq_none h] at hbi
     have ho : ops[i]? = some ops[i] := by simp [hi]
     have : i ∈ Region.ready .any ops.toArray listed := by
      rw [mem_ready]
      refine ⟨hbi, ops[i], by simp [hi], fun e he hbd => ?_⟩
      have h5 := back i ops[i] ho e (by simpa using he) hbd
      have := ih e.on h5
      have hlt : e.on < listed.size := by omega
      simpa [hlt] using this
     rw [hr] at this
     cases this
  have : metF listed = fun _ => true := funext key
  rw [this] at hI
  exact hQ a w hI
 intro fuel
 induction fuel with
 | zero =>
  intro listed a w hs hc hI
  have hr : Region.ready .any ops.toArray listed = [] := by
   cases hr : Region.ready .any ops.toArray listed with
   | nil => rfl
   | cons j js =>
    exfalso
    have hj : j ∈ Region.ready .any ops.toArray listed := by rw [hr]; simp
    have h0 := (mem_ready.1 hj).1
    have hlt : j < listed.size := by
     rcases Nat.lt_or_ge j listed.size with h | h
     ·
      exact h
     ·
      simp [Array.getElem?_eq_none h] at h0
    have h1 : listed.countP (· == false) = 0 := by omega
    rw [Array.countP_eq_zero] at h1
    have h2 : listed[j] = false := by simpa [hlt] using h0
    have := h1 listed[j] (Array.getElem_mem hlt)
    simp [h2] at this
  exact ⟨hr, fin listed a w hs hI hr⟩
 | succ fuel ih =>
  intro listed a w hs hc hI
  refine ⟨fin listed a w hs hI, fun i hi => ?_⟩
  obtain ⟨hl, o, ho', hall⟩ := mem_ready.1 hi
  have ho : ops[i]? = some o := by simpa using ho'
  have hlt : i < listed.size := by
   rcases Nat.lt_or_ge i listed.size with h | h
   ·
    exact h
   ·
    simp [Array.getElem?_eq_none h] at hl
  have hg := hG.at i o ho
  rw [Nat.zero_add] at hg
  obtain ⟨hgd, hg⟩ := hg
  have hg' := hg (metF listed) a w hI hl (fun e he hbd => by
   have := hall e (by simpa using he) hbd
   have hlt2 : e.on < listed.size := by
    rcases Nat.lt_or_ge e.on listed.size with h | h
    ·
     exact h
    ·
     simp [Array.getElem?_eq_none h] at this
   unfold metF
   simpa [hlt2] using this)
  unfold wpOp
  simp only [ho']
  simp only [Region.wanted, hgd, if_true]
  refine .inl (give_wp hg' (fun v w' hJ => ?_))
  exact ih _ _ _ (by simp [hs]) (count_set hl hc) (by rw [metF_set _ _ hlt]; exact hJ)
theorem wp_region_J {P : Program} {ops : List Oper} {a0 : Act} {Q : Exit → Act → World → Prop} {id : Nat} {w : World} (J : (Nat → Bool) → Act → World → Prop)
  (hm : P.follows .mixedOrders = true) (hb : backB ops = true) (h0 : J (fun i => decide (ops.length ≤ i)) a0 w.drew) (hG : OwedAll P J 0 ops)
  (hQ : ∀ a w, J (fun _ => true) a w → Q .normal a w) : (Code.region id ops.toArray true).wp P Q a0 w := by
 refine wp_region_any hm ?_
 have e : metF (Array.replicate ops.length false) = fun i => decide (ops.length ≤ i) := by
  funext i
  unfold metF
  by_cases h : i < ops.length
  ·
   simp [h] <;> omega
  ·
   simp [h] <;> omega
 have h := inv_any (P := P) (ops := ops) (Q := Q) J hb hG hQ ops.length (Array.replicate ops.length false) a0 w.drew (by simp) (by
   have := Array.countP_le_size (p := (· == false)) (xs := Array.replicate ops.length false)
   simpa using this) (by rw [e]; exact h0)
 simpa using h
theorem put_other {a : Act} {t d : Tmp} (v : Value) (h : d ≠ t) : (a.put (some d) v).tmps[t]? = a.tmps[t]? := by
 simp [Act.put, Array.getElem?_setIfInBounds_ne h]
theorem put_same {a : Act} {d : Tmp} (v : Value) (h : d < a.tmps.size) : (a.put (some d) v).tmps[d]? = some v := by
 simp [Act.put, h]
theorem put_size {a : Act} (d : Option Tmp) (v : Value) : (a.put d v).tmps.size = a.tmps.size := by cases d <;> simp [Act.put]
theorem put_defers {a : Act} (d : Option Tmp) (v : Value) : (a.put d v).defers = a.defers := by cases d <;> simp [Act.put]
end Go.Proofs.Ytigocaconkbalaa
namespace Go.Proofs.Ytigocaconkbalaa
open Go
def updV (vs : Nat → Value) (i : Nat) (v : Value) : Nat → Value := fun j => bif j == i then v else vs j
theorem updV_same (vs : Nat → Value) (i : Nat) (v : Value) : updV vs i v i = v := by simp [updV]
theorem updV_other {vs : Nat → Value} {i j : Nat} {v : Value} (h : j ≠ i) : updV vs i v j = vs j := by
 have : (j == i) = false := by simpa using h
 simp [updV, this]
theorem met1_same (L : Nat → Bool) (i : Nat) : met1 L i i = true := by simp [met1]
theorem met1_other {L : Nat → Bool} {i j : Nat} (h : j ≠ i) : met1 L i j = L j := by simp [met1, h]
structure SlotsAt (ops : List Oper) (a0 : Act) (L : Nat → Bool) (vs : Nat → Value) (a : Act) : Prop where
 defers : a.defers = a0.defers
 size : a.tmps.size = a0.tmps.size
 rest : ∀ t, (∀ (i : Nat) o, ops[i]? = some o → o.dst = some t → L i = false) → a.tmps[t]? = a0.tmps[t]?
 done : ∀ (i : Nat) o, ops[i]? = some o → L i = true → ∀ d, o.dst = some d → a.tmps[d]? = some (vs i)
def OwedV (P : Program) (mk : Tmp → Option Nat) (a0 : Act) (W : (Nat → Bool) → (Nat → Value) → World → Prop) (i : Nat) (o : Oper) : Prop :=
 o.guard = none ∧ ∀ (L : Nat → Bool) (vs : Nat → Value) (w : World) (r : Operand → Value), W L vs w → L i = false → (∀ j, afterB o j = true → L j = true) → factsOf mk a0 (fun j _ v => v = vs j) r w o.op.operands.toList → give P (fun v w' => W (met1 L i) (updV vs i v) w') ((execOp r o).run P w)
def OwedVs (P : Program) (mk : Tmp → Option Nat) (a0 : Act) (W : (Nat → Bool) → (Nat → Value) → World → Prop) : Nat → List Oper → Prop
 | _, [] => True
 | i, o :: l => OwedV P mk a0 W i o ∧ OwedVs P mk a0 W (i + 1) l
section
variable {P : Program} {mk : Tmp → Option Nat} {ops : List Oper} {a0 : Act} {W : (Nat → Bool) → (Nat → Value) → World → Prop} {Q : Exit → Act → World → Prop} {n : Nat}
theorem OwedVs.nil {i : Nat} : OwedVs P mk a0 W i [] := trivial
theorem Ow {i : Nat} {o : Oper} {l : List Oper} (h : OwedV P mk a0 W i o) (hl : OwedVs P mk a0 W (i + 1) l) : OwedVs P mk a0 W i (o :: l) := ⟨h, hl⟩
theorem SlotsAt.put (hsh : shapeB mk ops n = true) (hn : a0.tmps.size = n) {L : Nat → Bool} {vs : Nat → Value} {a : Act} (hI : SlotsAt ops a0 L vs a) {i : Nat} {o : Oper} (ho : ops[i]? = some o) (hl : L i = false) (v : Value) :
  SlotsAt ops a0 (met1 L i) (updV vs i v) (a.put o.dst v) := by
 have hs := shape_spec hsh ho
 refine ⟨by rw [put_defers]; exact hI.defers, by rw [put_size]; exact hI.size, fun t ht => ?_, fun j o' hj hlj d hd => ?_⟩
 ·
  have h1 : a.tmps[t]? = a0.tmps[t]? := hI.rest t fun j o' hj hd' => by
   have := ht j o' hj hd'
   by_cases hij : j = i
   ·
    subst hij; rw [met1_same] at this; cases this
   ·
    rwa [met1_other hij] at this
  cases hd : o.dst with
  | none => exact h1
  | some d =>
   have hne : d ≠ t := by
    rintro rfl
    have := ht i o ho hd
    rw [met1_same] at this; cases this
   rw [put_other v hne]; exact h1
 ·
  by_cases hij : j = i
  ·
   subst hij
   rw [ho] at hj; cases hj
   have hdn : d < n := by
    simp only [shapeOneB, hd, Bool.and_eq_true, decide_eq_true_eq] at hs
    exact hs.1.2.2
   rw [hd, put_same v (by rw [hI.size, hn]; exact hdn), updV_same]
  ·
   rw [met1_other hij] at hlj
   have h3 := hI.done j o' hj hlj d hd
   rw [updV_other hij]
   cases hd' : o.dst with
   | none => exact h3
   | some d' =>
    have hne : d' ≠ d := by
     rintro rfl
     exact hij (shape_dst hsh ho hj hd' hd).symm
    rw [put_other v hne]; exact h3
theorem SlotsAt.facts (hsh : shapeB mk ops n = true) {L : Nat → Bool} {vs : Nat → Value} {a : Act} (w : World) (hI : SlotsAt ops a0 L vs a) {i : Nat} {o : Oper} (ho : ops[i]? = some o)
  (hall : ∀ j, afterB o j = true → L j = true) : ∀ x ∈ o.op.operands.toList, factOf mk a0 (fun j _ v => v = vs j) a.eval w x := by
 intro x hx
 have hs := shape_spec hsh ho
 simp only [shapeOneB, Bool.and_eq_true, List.all_eq_true] at hs
 have h2 := hs.1.1.1.2 x hx
 cases x with
 | tmp t =>
  simp only [factOf]
  simp only [Bool.and_eq_true, beq_iff_eq] at h2
  rw [← h2.1]
  cases hm : maker ops t with
  | none =>
   simp only [Act.eval]
   have := hI.rest t fun j o' hj hd' => absurd hd' (maker_none hm hj)
   simp [this]
  | some j =>
   simp only [hm] at h2
   obtain ⟨o', hj, hd'⟩ := maker_some hm
   have := hI.done j o' hj (hall j h2.2) t hd'
   simp [Act.eval, this]
 | const c => rfl
 | global g => rfl
 | func f => rfl
theorem SlotsAt.whole (hsh : shapeB mk ops n = true) (hn : a0.tmps.size = n) {vs : Nat → Value} {a : Act} (hI : SlotsAt ops a0 (fun _ => true) vs a) : a = putAll vs ops 0 a0 := by
 have hd : a.defers = (putAll vs ops 0 a0).defers := by rw [putAll_defers, hI.defers]
 have ht : a.tmps = (putAll vs ops 0 a0).tmps := by
  apply Array.ext_getElem?
  intro t
  by_cases hm : ∃ (k : Nat) (o : Oper), ops[k]? = some o ∧ o.dst = some t
  ·
   obtain ⟨k, o, hk, hdt⟩ := hm
   have hs := shape_spec hsh hk
   simp only [shapeOneB, hdt, Bool.and_eq_true, decide_eq_true_eq] at hs
   rw [putAll_at _ t ops 0 a0 k o hk hdt (by rw [hn]; exact hs.1.2.2) (fun k' o' hk' hd' => shape_dst hsh hk' hk hd' hdt)]
   rw [Nat.zero_add]
   exact hI.done k o hk rfl t hdt
  ·
   rw [putAll_other _ t ops 0 a0 (fun o ho hdt => by
    obtain ⟨k, hk⟩ := List.getElem?_of_mem ho
    exact hm ⟨k, o, hk, hdt⟩)]
   exact hI.rest t fun i o hi hdt => absurd ⟨i, o, hi, hdt⟩ hm
 cases a
 cases h : putAll vs ops 0 a0
 rw [h] at hd ht
 simp at hd ht
 rw [hd, ht]
theorem shape_back (hsh : shapeB mk ops n = true) : backB ops = true := by
 unfold backB
 rw [List.all_eq_true]
 intro i hi
 have hi := List.mem_range.1 hi
 have hs := shape_spec hsh (show ops[i]? = some ops[i] by simp [hi])
 simp only [shapeOneB, Bool.and_eq_true] at hs
 have h2 := hs.2
 rw [show ops[i]? = some ops[i] by simp [hi]]
 simpa using h2
theorem OwedVs.toJ (hsh : shapeB mk ops n = true) (hn : a0.tmps.size = n) : ∀ (l : List Oper) (k : Nat), (∀ i o, l[i]? = some o → ops[k + i]? = some o) → OwedVs P mk a0 W k l → OwedAll P (fun L a w => ∃ vs, W L vs w ∧ SlotsAt ops a0 L vs a) k l
 | [], k, _, _ => trivial
 | o :: l, k, hk, h => by
  refine ⟨⟨h.1.1, ?_⟩, OwedVs.toJ hsh hn l (k + 1) (fun i o' hi => by have := hk (i + 1) o' (by simpa using hi); rwa [show k + 1 + i = k + (i + 1) by omega]) h.2⟩
  intro L a w hJ hl hall
  obtain ⟨vs, hW, hS⟩ := hJ
  have ho : ops[k]? = some o := hk 0 o rfl
  have hall' : ∀ j, afterB o j = true → L j = true := by
   intro j hj
   obtain ⟨e, he, hb, rfl⟩ := after_spec hj
   exact hall e (by simpa using he) hb
  have hg := h.1.2 L vs w a.eval hW hl hall' (factsOf_mk (hS.facts hsh w ho hall'))
  have mono : ∀ {K K' : Value → World → Prop} (r : Result Next), (∀ v w, K v w → K' v w) → give P K r → give P K' r := by
   intro K K' r hKK h
   unfold give at h ⊢
   split at h
   ·
    exact hKK _ _ h
   ·
    exact hKK _ _ h
   ·
    exact Calls.mono h fun e w'' ⟨v, he, hv⟩ => ⟨v, he, hKK _ _ hv⟩
   ·
    exact h.elim
  exact mono _ (fun v w' hv => ⟨updV vs k v, hv, hS.put hsh hn ho hl v⟩) hg
theorem wp_region_W {id : Nat} {w : World} (W : (Nat → Bool) → (Nat → Value) → World → Prop) (mk : Tmp → Option Nat) (n : Nat)
  (hm : P.follows .mixedOrders = true) (hsh : shapeB mk ops n = true) (hn : a0.tmps.size = n) (h0 : ∀ vs, W (fun i => decide (ops.length ≤ i)) vs w.drew) (hG : OwedVs P mk a0 W 0 ops)
  (hQ : ∀ vs a w', W (fun _ => true) vs w' → a = putAll vs ops 0 a0 → Q .normal a w') : (Code.region id ops.toArray true).wp P Q a0 w := by
 refine wp_region_J (fun L a w => ∃ vs, W L vs w ∧ SlotsAt ops a0 L vs a) hm (shape_back hsh) ⟨fun _ => undef, h0 _, rfl, rfl, fun _ _ => rfl, fun i o hi hl => ?_⟩ (OwedVs.toJ hsh hn ops 0 (fun i o h => by rwa [Nat.zero_add]) hG) ?_
 ·
  exfalso
  have hi : i < ops.length := by
   rcases Nat.lt_or_ge i ops.length with h | h
   ·
    exact h
   ·
    simp [List.getElem?_eq_none h] at hi
  simp at hl
  omega
 ·
  rintro a w' ⟨vs, hW, hS⟩
  exact hQ vs a w' hW (hS.whole hsh hn)
end
end Go.Proofs.Ytigocaconkbalaa
namespace Go.Proofs.Ytigocaconkbalaa
open Go.RowKit
theorem ret_int {k : IntKind} {a b : Int} (h : a = b) : Ending.returned (.int k a) = .returned (.int k b) := by rw [h]
def Ext (w w' : World) : Prop := Below w.heap.size w w'
theorem Ext.refl (w : World) : Ext w w := Below.refl _ _
theorem Ext.trans {a b c : World} (h : Ext a b) (k : Ext b c) : Ext a c := Below.trans h (Below.mono k h.size)
theorem Ext.alloc (w : World) (o : Obj) : Ext w (w.alloc o) := (Below.refl _ _).alloc (Nat.le_refl _) o
theorem Ext.drew (w : World) : Ext w w.drew := (Below.refl _ _).drew
theorem Ext.below {w w' : World} (h : Ext w w') : Below w.heap.size w w' := h
theorem Ext.size {w w' : World} (h : Ext w w') : w.heap.size ≤ w'.heap.size := Below.size h
theorem Ext.step {w w1 w2 : World} (h : Ext w w1) (o : Obj) (h2 : Below w1.heap.size (w1.alloc o) w2) : Ext w w2 :=
 h.trans (Below.trans (Ext.alloc w1 o) h2)
theorem Ext.on {w w1 w2 : World} {B : Nat} (h : Ext w w1) (h2 : Below B w1 w2) (hB : w.heap.size ≤ B) : Ext w w2 := Below.trans h (h2.mono hB)
def Fin1 (wF x y : World) : Prop := y = x ∨ y = wF
theorem Fin1.refl {wF : World} (x : World) : Fin1 wF x x := .inl rfl
theorem Fin1.trans {wF a b c : World} (h : Fin1 wF a b) (k : Fin1 wF b c) : Fin1 wF a c := by
 rcases k with rfl | rfl
 ·
  exact h
 ·
  exact .inr rfl
theorem cell_lt {w : World} {a : Addr} {v : Value} (h : w.cell? a = some v) : a.block < w.heap.size := by
 rcases Nat.lt_or_ge a.block w.heap.size with h' | h'
 ·
  exact h'
 ·
  simp [World.cell?, Array.getElem?_eq_none h'] at h
theorem Ext.cell {w w' : World} (h : Ext w w') {a : Addr} {v : Value} (hc : w.cell? a = some v) : w'.cell? a = some v := by
 rw [Below.cell h (cell_lt hc)]; exact hc
theorem Below.cellAt {B : Nat} {w w' : World} (h : Below B w w') {a : Addr} {v : Value} (hc : w.cell? a = some v) (hB : a.block < B) : w'.cell? a = some v := by
 rw [Below.cell h hB]; exact hc
theorem cellNew (w : World) (C : Array Value) (t : TypeId) (fr : Nat × Nat) (n j : Nat) (hn : n = w.heap.size) : (w.alloc (.cells C t fr)).cell? ⟨n, j, none⟩ = C[j]? := by
 subst hn; exact World.cell?_alloc_mark w C t fr j
theorem take_next {α : Type} (l : List α) (d : α) (k : Nat) (h : k < l.length) : l.take (k + 1) = l.take k ++ [l.getD k d] := by
 rw [List.take_succ_eq_append_getElem h]
 simp [List.getD_eq_getElem?_getD, h]
theorem getD_mem {α : Type} (l : List α) (d : α) (k : Nat) (h : k < l.length) : l.getD k d ∈ l := by
 simp [List.getD_eq_getElem?_getD, h]
theorem add_plain (b off j : Nat) : (⟨b, off, none⟩ : Addr).add j = ⟨b, off + j, none⟩ := by unfold Addr.add; split <;> simp_all
def BytesAt (w : World) (v : Value) (l : List Nat) : Prop :=
 (∀ x ∈ l, x < 256) ∧ l.length ≤ maxLen ∧ ((l = [] ∧ v = .slice none 0 0) ∨
  ∃ ad cap, v = .slice (some ad) l.length cap ∧ l.length ≤ cap ∧ cap ≤ maxLen ∧ ∀ j, j < l.length → w.cell? (ad.add j) = some (.int .u8 (l.getD j 0 : Nat)))
theorem BytesAt.ext {w w' : World} {v : Value} {l : List Nat} (h : BytesAt w v l) (he : Ext w w') : BytesAt w' v l := by
 obtain ⟨h1, h2, h3⟩ := h
 refine ⟨h1, h2, h3.imp id ?_⟩
 rintro ⟨ad, cap, rfl, h4, h5, hc⟩
 exact ⟨ad, cap, rfl, h4, h5, fun j hj => he.cell (hc j hj)⟩
theorem BytesAt.of_row {w : World} {x : Addr} {len cap : Nat} {zs : List Int} (hl : len ≤ cap) (hm : cap ≤ maxLen) (hz : zs.length = cap) (hc : ∀ i, i < zs.length → w.cell? (x.add i) = some (.int .u8 (zs.getD i 0))) (hw : ∀ n ∈ zs, (Lit.int .u8 n).wf = true) :
  BytesAt w (.slice (some x) len cap) ((zs.take len).map Int.toNat) := by
 have hb : ∀ n ∈ zs, 0 ≤ n ∧ n < 256 := fun n hn => by
  have := hw n hn
  simp [Lit.wf, IntKind.min, IntKind.max, IntKind.signed, IntKind.bits] at this
  omega
 have hlen : ((zs.take len).map Int.toNat).length = len := by simp; omega
 refine ⟨fun y hy => ?_, by omega, .inr ⟨x, cap, by rw [hlen], by omega, hm, fun j hj => ?_⟩⟩
 ·
  obtain ⟨n, hn, rfl⟩ := List.mem_map.1 hy
  have := hb n (List.mem_of_mem_take hn)
  omega
 ·
  rw [hlen] at hj
  have hjz : j < zs.length := by omega
  rw [hc j hjz]
  have := hb _ (List.getElem_mem hjz)
  simp [List.getD_eq_getElem?_getD, hj, hjz]
  omega
theorem BytesAt.form {w : World} {v : Value} {l : List Nat} (h : BytesAt w v l) :
  ∃ a cap, v = .slice a l.length cap ∧ (l.length ≤ cap ∧ cap ≤ maxLen) ∧ ∀ j, j < l.length → ∃ b off, a = some ⟨b, off, none⟩ ∧ w.cell? ⟨b, off + j, none⟩ = some (.int .u8 (l.getD j 0 : Nat)) := by
 obtain ⟨_, _, ⟨rfl, rfl⟩ | ⟨ad, cap, rfl, h4, h5, hc⟩⟩ := h
 ·
  exact ⟨none, 0, rfl, ⟨by simp, by simp⟩, fun j hj => by simp at hj⟩
 ·
  refine ⟨some ad, cap, rfl, ⟨h4, h5⟩, fun j hj => ?_⟩
  obtain ⟨b, off, spot⟩ := ad
  have h0 := hc 0 (by omega)
  have hs : spot = none := by simpa [Addr.add] using World.cell?_spot h0
  subst hs
  refine ⟨b, off, rfl, ?_⟩
  have := hc j hj
  rwa [add_plain] at this
def PartsAt (w : World) (v : Value) (ls : List (List Nat)) : Prop :=
 ls.length ≤ 1000 ∧ ∃ b off cap, v = .slice (some ⟨b, off, none⟩) ls.length cap ∧ ∀ i, i < ls.length → ∃ u, w.cell? ⟨b, off + i, none⟩ = some u ∧ BytesAt w u (ls.getD i [])
theorem PartsAt.ext {w w' : World} {v : Value} {ls : List (List Nat)} (h : PartsAt w v ls) (he : Ext w w') : PartsAt w' v ls := by
 obtain ⟨h1, b, off, cap, rfl, hc⟩ := h
 refine ⟨h1, b, off, cap, rfl, fun i hi => ?_⟩
 obtain ⟨u, hu, hb⟩ := hc i hi
 exact ⟨u, he.cell hu, hb.ext he⟩
theorem PartsAt.made (w : World) (us : List Value) (ls : List (List Nat)) (t n c : Nat) (hn : n = w.heap.size) (hl : us.length = ls.length) (h1 : ls.length ≤ 1000) (hb : ∀ i, i < ls.length → BytesAt w (us.getD i undef) (ls.getD i [])) :
  PartsAt (w.alloc (.cells us.toArray t)) (.slice (some ⟨n, 0, none⟩) ls.length c) ls := by
 refine ⟨h1, n, 0, c, rfl, fun i hi => ⟨us.getD i undef, ?_, (hb i hi).ext (Ext.alloc _ _)⟩⟩
 rw [cellNew _ _ _ _ _ _ hn]
 simp [List.getD_eq_getElem?_getD, show i < us.length by omega]
structure ByteT (P : Program) (t e : TypeId) : Prop where
 ut : P.underlying t = some (.slice e)
 ue : P.underlying e = some (.int .u8)
 info : (P.info? e).map (fun i => (i.zero.isSome, i.size, i.bytes)) = some (true, 1, 1)
 zero : (P.info? e).bind (·.zero) = some (.int .u8 0)
theorem ByteT.ex {P : Program} {t e : TypeId} (h : ByteT P t e) : ∃ i, P.info? e = some i ∧ i.zero = some (.int .u8 0) ∧ i.size = 1 ∧ i.bytes = 1 := by
 obtain ⟨i, hi, h2⟩ := Option.map_eq_some_iff.1 h.info
 simp only [Prod.mk.injEq] at h2
 have hz := h.zero
 rw [hi] at hz
 exact ⟨i, hi, by simpa using hz, h2.2.1, h2.2.2⟩
def cellsB (l : List Nat) : List Value := l.map fun x => .int .u8 (x : Nat)
def OwnB (w : World) (base : Nat) (e : TypeId) (v : Value) (l : List Nat) : Prop :=
 (∀ x ∈ l, x < 256) ∧ (∃ g cap, v = .slice (some ⟨g, 0, none⟩) l.length cap ∧ base ≤ g ∧ g < w.heap.size ∧ l.length ≤ cap ∧ cap ≤ maxLen) ∧ w.ownsRow base e 1 v l.length (cellsB l)
theorem OwnB.bytes {w : World} {base : Nat} {e : TypeId} {v : Value} {l : List Nat} (h : OwnB w base e v l) : BytesAt w v l := by
 obtain ⟨h1, ⟨g, cap, rfl, _, _, hle, hm⟩, hown⟩ := h
 refine ⟨h1, by omega, .inr ⟨⟨g, 0, none⟩, cap, rfl, hle, hm, fun j hj => ?_⟩⟩
 have := hown.cellAt j (by omega)
 rw [add_plain, Nat.zero_add, this]
 simp [cellsB, List.getD_eq_getElem?_getD, hj]
theorem OwnB.made {w : World} {base n c : Nat} {e : TypeId} (cs : Array Value) (l : List Nat) (hn : n = w.heap.size) (hb : base ≤ w.heap.size) (hl : c = l.length) (hm : l.length ≤ maxLen) (h1 : ∀ x ∈ l, x < 256) (hc : cs = (cellsB l).toArray) :
  OwnB (w.alloc (.cells cs e)) base e (.slice (some ⟨n, 0, none⟩) c c) l := by
 subst hn hl hc
 refine ⟨h1, ⟨_, _, rfl, hb, by simp, Nat.le_refl _, hm⟩, ?_⟩
 have := World.ownsRow_lit (base := base) (e := e) (size := 1) w (cellsB l).toArray l.length hb hm (by simp [cellsB])
 simpa using this
theorem OwnB.below {w w' : World} {base B : Nat} {e : TypeId} {v : Value} {l : List Nat} (h : OwnB w base e v l) (hw : Below B w w') (hB : w.heap.size ≤ B) : OwnB w' base e v l := by
 obtain ⟨h1, ⟨g, cap, rfl, hg, hlt, hle, hm⟩, h2, h3⟩ := h
 refine ⟨h1, ⟨g, cap, rfl, hg, Nat.lt_of_lt_of_le hlt hw.size, hle, hm⟩, h2, ?_⟩
 rcases h3 with ⟨h3, _⟩ | ⟨g', cap', cur, h3, h4, h5, h6⟩
 ·
  simp at h3
 ·
  refine .inr ⟨g', cap', cur, h3, h4, ?_, h6⟩
  simp at h3
  obtain ⟨rfl, rfl⟩ := h3
  rw [hw.block g (by omega)]; exact h5
theorem OwnB.ext {w w' : World} {base : Nat} {e : TypeId} {v : Value} {l : List Nat} (h : OwnB w base e v l) (he : Ext w w') : OwnB w' base e v l := h.below he (Nat.le_refl _)
theorem OwnB.cellAt {w : World} {base g n c : Nat} {e : TypeId} {l : List Nat} (h : OwnB w base e (.slice (some ⟨g, 0, none⟩) n c) l) (j : Nat) (hj : j < l.length) : w.cell? ⟨g, j, none⟩ = some (.int .u8 (l.getD j 0 : Nat)) := by
 have hn : n = l.length := by
  obtain ⟨_, ⟨g', c', e1, _⟩, _⟩ := h
  simp only [Value.slice.injEq] at e1
  exact e1.2.1
 subst hn
 have := h.2.2.cellAt j (by omega)
 rw [this]
 simp [cellsB, List.getD_eq_getElem?_getD, hj]
theorem OwnB.grown {w w' : World} {base : Nat} {e : TypeId} {v : Value} {l : List Nat} {row : Option Nat} (h : OwnB w base e v l) (hg : w.grownBy w' row) (hne : v.ownBlock ≠ row) : OwnB w' base e v l := by
 obtain ⟨h1, ⟨g, c, rfl, h2, h3, h4, h5⟩, h6⟩ := h
 exact ⟨h1, ⟨g, c, rfl, h2, Nat.lt_of_lt_of_le h3 hg.size, h4, h5⟩, h6.kept hg (.inr hne)⟩
theorem OwnB.stored {w : World} {base g n c : Nat} {e : TypeId} {l : List Nat} (h : OwnB w base e (.slice (some ⟨g, 0, none⟩) n c) l) (j x : Nat) (hx : x < 256) : OwnB (w.setCell ⟨g, j, none⟩ (.int .u8 (x : Nat))) base e (.slice (some ⟨g, 0, none⟩) n c) (l.set j x) ∧ w.grownBy (w.setCell ⟨g, j, none⟩ (.int .u8 (x : Nat))) (some g) := by
 have hn : n = l.length := by
  obtain ⟨_, ⟨g', c', e1, _⟩, _⟩ := h
  simp only [Value.slice.injEq] at e1
  exact e1.2.1
 subst hn
 have hs := h.2.2.stored j (.int .u8 (x : Nat))
 refine ⟨⟨fun y hy => ?_, ?_, ?_⟩, hs.2⟩
 ·
  rcases List.mem_or_eq_of_mem_set hy with h' | h'
  ·
   exact h.1 y h'
  ·
   omega
 ·
  obtain ⟨_, ⟨g', c', e1, h2, h3, h4, h5⟩, _⟩ := h
  simp only [Value.slice.injEq, Option.some.injEq, Addr.mk.injEq, and_true, true_and] at e1
  obtain ⟨rfl, rfl⟩ := e1
  exact ⟨g, c, by simp, h2, by simpa using h3, by simpa using h4, h5⟩
 ·
  rw [List.length_set]
  have e2 : cellsB (l.set j x) = (cellsB l).set j (.int .u8 (x : Nat)) := by simp [cellsB, List.map_set]
  rw [e2]
  exact hs.1
theorem OwnB.cap {w : World} {base g n c : Nat} {e : TypeId} {l : List Nat} (h : OwnB w base e (.slice (some ⟨g, 0, none⟩) n c) l) : n = l.length ∧ l.length ≤ c ∧ c ≤ maxLen ∧ base ≤ g ∧ g < w.heap.size := by
 obtain ⟨_, ⟨g', c', e1, h1, h2, h3, h4⟩, _⟩ := h
 simp only [Value.slice.injEq, Option.some.injEq, Addr.mk.injEq, and_true] at e1
 obtain ⟨rfl, e2, rfl⟩ := e1
 exact ⟨e2, h3, h4, h1, h2⟩
theorem BytesAt.sliced {w : World} {a : Option Addr} {n c : Nat} {l : List Nat} (h : BytesAt w (.slice a n c) l) (lo hi : Nat) (h1 : lo ≤ hi) (h2 : hi ≤ l.length) : BytesAt w (Go.sliced a lo hi c 1) ((l.take hi).drop lo) := by
 obtain ⟨hb, hm, h3 | ⟨ad, cap, e1, hle, hcm, hc⟩⟩ := h
 ·
  obtain ⟨rfl, e1⟩ := h3
  simp only [Value.slice.injEq] at e1
  obtain ⟨rfl, rfl, rfl⟩ := e1
  simp at h2
  obtain rfl : hi = 0 := h2
  obtain rfl : lo = 0 := by omega
  exact ⟨by simp, by simp, .inl ⟨rfl, rfl⟩⟩
 ·
  simp only [Value.slice.injEq] at e1
  obtain ⟨rfl, rfl, rfl⟩ := e1
  refine ⟨fun x hx => hb x (List.mem_of_mem_take (List.mem_of_mem_drop hx)), by simp; omega, .inr ⟨if c = lo then ad else ad.add lo, c - lo, ?_, by simp; omega, by omega, fun j hj => ?_⟩⟩
  ·
   simp only [Go.sliced, List.length_drop, List.length_take, Nat.mul_one, Option.map_some]
   rw [show min hi l.length = hi by omega]
   split <;> rfl
  ·
   simp only [List.length_drop, List.length_take] at hj
   rw [if_neg (by omega)]
   have h0 := hc (lo + j) (by omega)
   have e2 : (ad.add lo).add j = ad.add (lo + j) := by
    unfold Addr.add
    by_cases hl : lo = 0 <;> by_cases hj0 : j = 0 <;> simp [hl, hj0, Nat.add_assoc]
   rw [e2, h0]
   simp [List.getD_eq_getElem?_getD, List.getElem?_drop, show lo + j < hi by omega]
theorem BytesAt.none (w : World) : BytesAt w (.slice none 0 0) [] := ⟨by simp, by simp, .inl ⟨rfl, rfl⟩⟩
def strOf (l : List Nat) : ByteArray := strOfNums (l.map Int.ofNat)
theorem run_string_bytes {P : Program} {t e d : TypeId} (hT : ByteT P t e) (hd : P.underlying d = some .string) (w : World) (v : Value) (l : List Nat) (h : BytesAt w v l) : (convert t d v).run P w = .ok (.string (strOf l)) w := by
 obtain ⟨h1, h2, ⟨rfl, rfl⟩ | ⟨ad, cap, rfl, _, _, hc⟩⟩ := h
 ·
  exact run_convert_bytes_nil w t e hT.ut hT.ue 0 0 d hd
 ·
  by_cases hl : l.length = 0
  ·
   have : l = [] := List.eq_nil_of_length_eq_zero hl
   subst this
   rw [run_convert_bytes_string w t d e _ _ _ hT.ut hT.ue hd]
   simp [Conv.bytesToString, loadCells, loadCellsFrom]
   rfl
  ·
   obtain ⟨b, off, spot⟩ := ad
   have h0 := hc 0 (by omega)
   have hs : spot = none := by simpa [Addr.add] using World.cell?_spot h0
   subst hs
   refine run_convert_bytes_arg w t e hT.ut hT.ue b off l.length cap (l.map Int.ofNat) (by simp) (fun j hj => ?_) d hd
   have := hc j hj
   rw [add_plain] at this
   rw [this]
   simp [List.getD_eq_getElem?_getD, hj]
theorem exec_slice_l {P : Program} {t e : TypeId} (hT : ByteT P t e) {r : Operand → Value} {o : Oper} {x lo : Operand} (ho : o.op = .slice t x (some lo) none none) (w : World) (a : Option Addr) (n c k : Nat) (q : IntKind) (h1 : r x = .slice a n c) (h2 : r lo = .int q (k : Int)) (hk : k ≤ n) :
  (execOp r o).run P w = .ok (.value (sliced a k n c 1)) w := by
 obtain ⟨i, hi, _, hs, _⟩ := hT.ex
 have hk' : (k : Int) ≤ n := by omega
 simp [execOp, ho, h1, h2, Instr.sliceAt, Instr.slice, run_underlying hT.ut, Instr.sliceBounds, run_sliceBound, sizeOf, typeInfo, hi, hs, hk', sliced]
theorem exec_slice_h {P : Program} {t e : TypeId} (hT : ByteT P t e) {r : Operand → Value} {o : Oper} {x h : Operand} (ho : o.op = .slice t x none (some h) none) (w : World) (a : Option Addr) (n c k : Nat) (q : IntKind) (h1 : r x = .slice a n c) (h2 : r h = .int q (k : Int)) (hk : k ≤ c) :
  (execOp r o).run P w = .ok (.value (sliced a 0 k c 1)) w := by
 obtain ⟨i, hi, _, _, _⟩ := hT.ex
 have hk' : (k : Int) ≤ c := by omega
 simp [execOp, ho, h1, h2, Instr.sliceAt, Instr.slice, run_underlying hT.ut, Instr.sliceBounds, run_sliceBound, sizeOf, typeInfo, hi, hk', sliced]
theorem exec_slice_lh {P : Program} {t e : TypeId} (hT : ByteT P t e) {r : Operand → Value} {o : Oper} {x lo h : Operand} (ho : o.op = .slice t x (some lo) (some h) none) (w : World) (a : Option Addr) (n c k m : Nat) (q q' : IntKind) (h1 : r x = .slice a n c) (h2 : r lo = .int q (k : Int)) (h3 : r h = .int q' (m : Int)) (hk : k ≤ m) (hm : m ≤ c) :
  (execOp r o).run P w = .ok (.value (sliced a k m c 1)) w := by
 obtain ⟨i, hi, _, hs, _⟩ := hT.ex
 have hk' : (k : Int) ≤ m := by omega
 have hm' : (m : Int) ≤ c := by omega
 simp [execOp, ho, h1, h2, h3, Instr.sliceAt, Instr.slice, run_underlying hT.ut, Instr.sliceBounds, run_sliceBound, sizeOf, typeInfo, hi, hs, hk', hm', sliced]
theorem exec_string {P : Program} {t e d : TypeId} (hT : ByteT P t e) (hd : P.underlying d = some .string) {r : Operand → Value} {o : Oper} {x : Operand} (ho : o.op = .convert t d x) (w : World) (l : List Nat) (h : BytesAt w (r x) l) : (execOp r o).run P w = .ok (.value (.string (strOf l))) w := by
 simp [execOp, ho, run_string_bytes hT hd w _ l h]
theorem strOf_beq (l m : List Nat) (hl : ∀ x ∈ l, x < 256) (hm : ∀ x ∈ m, x < 256) : ((strOf l).toList == (strOf m).toList) = decide (l = m) := by
 rw [ByteArray.toList_eq, ByteArray.toList_eq, Bool.eq_iff_iff]
 simp only [beq_iff_eq, decide_eq_true_eq]
 constructor
 ·
  intro h1
  simp only [strOf, strOfNums_data, List.map_map] at h1
  have h2 := congrArg (List.map UInt8.toNat) h1
  simp only [List.map_map] at h2
  have key : ∀ l : List Nat, (∀ x ∈ l, x < 256) → l.map (UInt8.toNat ∘ ((fun n : Int => UInt8.ofNat n.toNat) ∘ Int.ofNat)) = l := by
   intro l hl
   conv => rhs; rw [← List.map_id l]
   apply List.map_congr_left
   intro x hx
   have := hl x hx
   simp
   omega
  rw [key l hl, key m hm] at h2
  exact h2
 ·
  rintro rfl; rfl
end Go.Proofs.Ytigocaconkbalaa
namespace Go.Proofs.Ytigocaconkbalaa
open Go.RowKit
abbrev W64 (n : Int) : Prop := -9223372036854775808 ≤ n ∧ n < 9223372036854775808
abbrev Of (m a : Int) : Prop := 0 ≤ a ∧ a < m
end Go.Proofs.Ytigocaconkbalaa
namespace Go.Proofs.Ytigocaconkbalaa
namespace Tlv
abbrev AllB (l : List Nat) : Prop := ∀ x ∈ l, x < 256
theorem AllB.app {a b : List Nat} (h : AllB a) (k : AllB b) : AllB (a ++ b) := fun x hx => (List.mem_append.1 hx).elim (h x) (k x)
theorem AllB.drop {a : List Nat} (h : AllB a) (n : Nat) : AllB (a.drop n) := fun x hx => h x (List.mem_of_mem_drop hx)
theorem AllB.take {a : List Nat} (h : AllB a) (n : Nat) : AllB (a.take n) := fun x hx => h x (List.mem_of_mem_take hx)
theorem AllB.getD {a : List Nat} (h : AllB a) (n : Nat) : a.getD n 0 < 256 := by
 rcases Nat.lt_or_ge n a.length with hn | hn
 ·
  exact h _ (getD_mem a 0 n hn)
 ·
  rw [List.getD_eq_getElem?_getD, List.getElem?_eq_none hn]; decide
theorem zeros_all (n : Nat) : AllB (List.replicate n 0) := fun x hx => by rw [List.mem_replicate] at hx; omega
def ci (l : List Nat) : List Int := l.map (fun x : Nat => (x : Int))
theorem ci_len (l : List Nat) : (ci l).length = l.length := by simp [ci]
theorem ci_app (l m : List Nat) : ci (l ++ m) = ci l ++ ci m := by simp [ci]
theorem ci_get (l : List Nat) (j : Nat) : (ci l).getD j 0 = ((l.getD j 0 : Nat) : Int) := by
 rw [List.getD_eq_getElem?_getD, List.getD_eq_getElem?_getD, ci, List.getElem?_map]
 cases l[j]? <;> rfl
def isSz (n : Int) : Bool := n == 1 || n == 2 || n == 4 || n == 8
theorem isSz_iff (n : Int) : isSz n = true ↔ n = 1 ∨ n = 2 ∨ n = 4 ∨ n = 8 := by simp [isSz, or_assoc]
def be (n : Nat) : Nat → List Nat
 | 0 => []
 | k + 1 => (n / 256 ^ k % 256) :: be n k
theorem be_len (n : Nat) : ∀ k, (be n k).length = k
 | 0 => rfl
 | k + 1 => by rw [be, List.length_cons, be_len n k]
def numB (n : Nat) (size : Int) : List Nat := if isSz size = true then be n size.toNat else []
theorem numB_len (n : Nat) (s : Int) : (numB n s).length ≤ 8 := by
 unfold numB; split
 ·
  rename_i h
  rw [be_len]
  rcases (isSz_iff s).1 h with rfl | rfl | rfl | rfl <;> decide
 ·
  simp
theorem numB_nil (n : Nat) (s : Int) : (numB n s).length = 0 ↔ isSz s = false := by
 unfold numB; split
 ·
  rename_i h
  rw [be_len, h]
  rcases (isSz_iff s).1 h with rfl | rfl | rfl | rfl <;> decide
 ·
  rename_i h
  simpa using h
def val (l : List Nat) : Nat := l.foldl (fun a b => 256 * a + b) 0
theorem val_snoc (l : List Nat) (b : Nat) : val (l ++ [b]) = 256 * val l + b := by simp [val]
theorem val_lt {l : List Nat} (h : AllB l) (k : Nat) (hk : l.length ≤ k) : val l < 256 ^ k := by
 have key : ∀ (l : List Nat) (a : Nat), AllB l → l.foldl (fun a b => 256 * a + b) a < (a + 1) * 256 ^ l.length := by
  intro l
  induction l with
  | nil => intro a _; simp
  | cons x l ih =>
   intro a h
   have h1 := ih (256 * a + x) (fun y hy => h y (List.mem_cons_of_mem _ hy))
   have h2 := h x (List.mem_cons_self)
   rw [List.foldl_cons, List.length_cons, Nat.pow_succ]
   refine Nat.lt_of_lt_of_le h1 ?_
   have h3 : 256 * a + x + 1 ≤ (a + 1) * 256 := by omega
   calc (256 * a + x + 1) * 256 ^ l.length ≤ ((a + 1) * 256) * 256 ^ l.length := Nat.mul_le_mul_right _ h3
    _ = (a + 1) * (256 ^ l.length * 256) := by rw [Nat.mul_assoc, Nat.mul_comm 256]
 have := key l 0 h
 unfold val
 refine Nat.lt_of_lt_of_le this ?_
 rw [Nat.zero_add, Nat.one_mul]
 exact Nat.pow_le_pow_right (by decide) hk
def pads (n : Nat) : Nat := (4 - n % 4) % 4
theorem pads_lt (n : Nat) : pads n < 4 := Nat.mod_lt _ (by decide)
theorem pads_add (n : Nat) : (n + pads n) % 4 = 0 := by unfold pads; omega
theorem pads_off {a b : Nat} (h : a % 4 = 0) : pads (a + b) = pads b := by unfold pads; omega
def padB (l : List Nat) : List Nat := l ++ List.replicate (pads l.length) 0
theorem padB_len (l : List Nat) : (padB l).length = l.length + pads l.length := by unfold padB; simp
theorem padB_app {l m : List Nat} (h : l.length % 4 = 0) : padB (l ++ m) = l ++ padB m := by
 unfold padB; rw [List.length_append, pads_off h, List.append_assoc]
def takeS (B : List Nat) (s : Option Nat) (n : Int) : Option Nat × List Nat :=
 match s with
 | none => (none, [])
 | some a => if 0 ≤ n ∧ n ≤ (B.length : Int) - a then (some (a + n.toNat), (B.drop a).take n.toNat) else (none, [])
def numS (B : List Nat) (s : Option Nat) (size : Int) : Option Nat × Nat :=
 if isSz size = true then ((takeS B s size).1, val (takeS B s size).2) else (none, 0)
def allZ (l : List Nat) : Bool := l.all (· == 0)
def padS (B : List Nat) (s : Option Nat) : Option Nat :=
 match s with
 | none => none
 | some a => if allZ (takeS B (some a) (pads a)).2 = true then (takeS B (some a) (pads a)).1 else none
def leftS (B : List Nat) (s : Option Nat) : Nat :=
 match s with
 | none => 0
 | some a => B.length - a
def endS (B : List Nat) (s : Option Nat) : Bool := s.isSome && leftS B s == 0
def InB (B : List Nat) (s : Option Nat) : Prop := ∀ a, s = some a → a ≤ B.length
theorem takeS_all {B : List Nat} (h : AllB B) (s : Option Nat) (n : Int) : AllB (takeS B s n).2 := by
 unfold takeS
 cases s with
 | none => intro x hx; cases hx
 | some a =>
  simp only
  split
  ·
   exact (h.drop a).take _
  ·
   intro x hx; cases hx
theorem takeS_len (B : List Nat) (s : Option Nat) (n : Int) : (takeS B s n).2.length ≤ B.length := by
 unfold takeS
 cases s with
 | none => simp
 | some a =>
  simp only
  split
  ·
   rw [List.length_take, List.length_drop]; omega
  ·
   simp
theorem takeS_yes {B : List Nat} {a : Nat} {n : Int} (h1 : 0 ≤ n) (h2 : n ≤ (B.length : Int) - a) : takeS B (some a) n = (some (a + n.toNat), (B.drop a).take n.toNat) := if_pos ⟨h1, h2⟩
theorem takeS_no {B : List Nat} {a : Nat} {n : Int} (h : ¬ (0 ≤ n ∧ n ≤ (B.length : Int) - a)) : takeS B (some a) n = (none, []) := if_neg h
theorem padS_some (B : List Nat) (a : Nat) : padS B (some a) = if allZ (takeS B (some a) (pads a)).2 = true then (takeS B (some a) (pads a)).1 else none := rfl
theorem allZ_snoc (l : List Nat) (x : Nat) : allZ (l ++ [x]) = (allZ l && x == 0) := by simp [allZ]
theorem allZ_eq {l : List Nat} (h : allZ l = true) : l = List.replicate l.length 0 := by
 rw [List.eq_replicate_iff]
 refine ⟨rfl, fun x hx => ?_⟩
 have := List.all_eq_true.1 h x hx
 simpa using this
theorem allZ_rep (n : Nat) : allZ (List.replicate n 0) = true := by
 rw [allZ, List.all_eq_true]
 intro x hx
 rw [List.mem_replicate] at hx
 simp [hx.2]
theorem drop_next {B : List Nat} {a : Nat} (ha : a < B.length) : B.drop a = B.getD a 0 :: B.drop (a + 1) := by
 rw [List.drop_eq_getElem_cons ha]; simp [List.getD_eq_getElem?_getD, ha]
abbrev Par := Int × List Nat
def goodP (p : Par) : Bool := decide (0 ≤ p.1) && (decide (p.1 ≤ 65535) && decide (p.2.length ≤ 4000))
theorem goodP_iff (p : Par) : goodP p = true ↔ 0 ≤ p.1 ∧ p.1 ≤ 65535 ∧ p.2.length ≤ 4000 := by simp [goodP]
def parB (p : Par) : List Nat := be p.1.toNat 2 ++ be (p.2.length + 4) 2 ++ padB p.2
theorem parB_len (p : Par) : (parB p).length = 4 + (p.2.length + pads p.2.length) := by
 unfold parB; rw [List.length_append, List.length_append, be_len, be_len, padB_len]
theorem parB_mod (p : Par) : (parB p).length % 4 = 0 := by rw [parB_len]; have := pads_add p.2.length; omega
def writeB (L : List Par) : List Nat := (L.map parB).flatten
theorem writeB_snoc (L : List Par) (p : Par) : writeB (L ++ [p]) = writeB L ++ parB p := by simp [writeB]
theorem writeB_cons (p : Par) (L : List Par) : writeB (p :: L) = parB p ++ writeB L := by simp [writeB]
theorem writeB_mod : ∀ L : List Par, (writeB L).length % 4 = 0
 | [] => rfl
 | p :: L => by rw [writeB_cons, List.length_append]; have := parB_mod p; have := writeB_mod L; omega
def lenP (b : List Nat) : Nat := b.getD 2 0 * 256 + b.getD 3 0
def allP (b : List Nat) : Nat := (lenP b + 3) / 4 * 4
def okP (b : List Nat) : Bool := decide (4 ≤ b.length) && (decide (4 ≤ lenP b) && (decide (lenP b ≤ 4004) && (decide (allP b ≤ b.length) && allZ ((b.take (allP b)).drop (lenP b)))))
theorem okP_iff (b : List Nat) : okP b = true ↔ 4 ≤ b.length ∧ 4 ≤ lenP b ∧ lenP b ≤ 4004 ∧ allP b ≤ b.length ∧ allZ ((b.take (allP b)).drop (lenP b)) = true := by simp [okP]
def headP (b : List Nat) : Par := (((b.getD 0 0 * 256 + b.getD 1 0 : Nat) : Int), (b.take (lenP b)).drop 4)
theorem allP_pos {b : List Nat} (h : okP b = true) : 4 ≤ allP b := by
 have := (okP_iff b).1 h; unfold allP; omega
theorem allP_mod (b : List Nat) : allP b % 4 = 0 := by unfold allP; omega
def readAll (b : List Nat) : Option (List Par) :=
 if b = [] then some [] else
 if h : okP b = true then (readAll (b.drop (allP b))).map (headP b :: ·) else none
 termination_by b.length
 decreasing_by
  have h1 := allP_pos h
  have h2 := ((okP_iff b).1 h).1
  simp only [List.length_drop]
  omega
theorem readAll_nil : readAll [] = some [] := by rw [readAll]; simp
theorem readAll_bad {b : List Nat} (h0 : b ≠ []) (h : okP b = false) : readAll b = none := by rw [readAll]; simp [h0, h]
theorem readAll_ok {b : List Nat} (h0 : b ≠ []) (h : okP b = true) : readAll b = (readAll (b.drop (allP b))).map (headP b :: ·) := by rw [readAll]; simp [h0, h]
end Tlv
end Go.Proofs.Ytigocaconkbalaa
namespace Go.Proofs.Ytigocaconkbalaa
namespace Tlv
theorem be2 (n : Nat) : be n 2 = [n / 256 % 256, n % 256] := by simp [be]
theorem be2_of {x y : Nat} (hx : x < 256) (hy : y < 256) : be (x * 256 + y) 2 = [x, y] := by
 rw [be2, show (x * 256 + y) / 256 % 256 = x by omega, show (x * 256 + y) % 256 = y by omega]
theorem allP_eq {b : List Nat} (h : 4 ≤ lenP b) : allP b = lenP b + pads (lenP b) := by unfold allP pads; omega
theorem pads4 {n : Nat} (h : 4 ≤ n) : pads n = pads (n - 4) := by unfold pads; omega
theorem parB_form (p : Par) (r : List Nat) : parB p ++ r = (p.1.toNat / 256 % 256) :: (p.1.toNat % 256) :: ((p.2.length + 4) / 256 % 256) :: ((p.2.length + 4) % 256) :: (p.2 ++ (List.replicate (pads p.2.length) 0 ++ r)) := by
 unfold parB padB; rw [be2, be2]; simp
theorem read_par {p : Par} (hg : goodP p = true) (r : List Nat) : okP (parB p ++ r) = true ∧ headP (parB p ++ r) = p ∧ allP (parB p ++ r) = (parB p).length := by
 obtain ⟨h1, h2, h3⟩ := (goodP_iff p).1 hg
 have hl : lenP (parB p ++ r) = p.2.length + 4 := by
  rw [parB_form]; unfold lenP
  simp only [List.getD_cons_succ, List.getD_cons_zero]; omega
 have ha : allP (parB p ++ r) = (parB p).length := by
  rw [allP_eq (by rw [hl]; omega), hl, parB_len, show pads (p.2.length + 4) = pads p.2.length by unfold pads; omega]; omega
 refine ⟨?_, ?_, ha⟩
 ·
  rw [okP_iff, ha, hl]
  have hpl := parB_len p
  refine ⟨by rw [List.length_append]; omega, by omega, by omega, by rw [List.length_append]; omega, ?_⟩
  rw [List.take_append_of_le_length (Nat.le_refl _), List.take_length]
  have := parB_form p []
  rw [List.append_nil, List.append_nil] at this
  rw [this, show p.2.length + 4 = p.2.length + 1 + 1 + 1 + 1 by omega]
  simp only [List.drop_succ_cons]
  rw [List.drop_append_of_le_length (Nat.le_refl _), List.drop_length, List.nil_append]
  exact allZ_rep _
 ·
  unfold headP
  rw [hl, parB_form]
  have e1 : ((p.1.toNat / 256 % 256 * 256 + p.1.toNat % 256 : Nat) : Int) = p.1 := by omega
  simp only [List.getD_cons_succ, List.getD_cons_zero]
  rw [e1, show p.2.length + 4 = p.2.length + 1 + 1 + 1 + 1 by omega]
  simp only [List.take_succ_cons, List.drop_succ_cons, List.drop_zero]
  rw [List.take_append_of_le_length (Nat.le_refl _), List.take_length]
theorem readAll_write : ∀ L : List Par, (∀ p ∈ L, goodP p = true) → readAll (writeB L) = some L
 | [], _ => readAll_nil
 | p :: L, h => by
  obtain ⟨h1, h2, h3⟩ := read_par (h p List.mem_cons_self) (writeB L)
  rw [writeB_cons, readAll_ok (by rw [parB_form]; simp) h1, h2, h3, List.drop_append_of_le_length (Nat.le_refl _), List.drop_length, List.nil_append, readAll_write L (fun q hq => h q (List.mem_cons_of_mem _ hq))]
  rfl
theorem take4 {b : List Nat} (h : 4 ≤ b.length) : b.take 4 = [b.getD 0 0, b.getD 1 0, b.getD 2 0, b.getD 3 0] := by
 match b, h with
 | x0 :: x1 :: x2 :: x3 :: r, _ => simp
theorem par_of {b : List Nat} (hb : AllB b) (h : okP b = true) : goodP (headP b) = true ∧ AllB (headP b).2 ∧ b = parB (headP b) ++ b.drop (allP b) := by
 obtain ⟨h1, h2, h3, h4, h5⟩ := (okP_iff b).1 h
 have g0 := hb.getD 0
 have g1 := hb.getD 1
 have g2 := hb.getD 2
 have g3 := hb.getD 3
 have hle : lenP b ≤ allP b := by rw [allP_eq h2]; omega
 have hvl : (headP b).2.length = lenP b - 4 := by
  unfold headP; simp only [List.length_drop, List.length_take]; omega
 refine ⟨?_, (hb.take _).drop _, ?_⟩
 ·
  rw [goodP_iff, hvl]
  unfold headP; simp only; omega
 ·
  have hk : (headP b).1.toNat = b.getD 0 0 * 256 + b.getD 1 0 := by unfold headP; simp only; exact Int.toNat_natCast _
  have e1 : parB (headP b) = b.take (allP b) := by
   have q1 : b.take (allP b) = b.take (lenP b) ++ (b.take (allP b)).drop (lenP b) := by
    conv => lhs; rw [← List.take_append_drop (lenP b) (b.take (allP b)), List.take_take, Nat.min_eq_left hle]
   have q2 : b.take (lenP b) = b.take 4 ++ (b.take (lenP b)).drop 4 := by
    conv => lhs; rw [← List.take_append_drop 4 (b.take (lenP b)), List.take_take, Nat.min_eq_left h2]
   have q3 : (b.take (allP b)).drop (lenP b) = List.replicate (pads (headP b).2.length) 0 := by
    rw [allZ_eq h5, List.length_drop, List.length_take, Nat.min_eq_left h4, hvl, ← pads4 h2, allP_eq h2, Nat.add_sub_cancel_left]
   rw [q1, q3, q2, take4 h1]
   unfold parB padB
   rw [hk, hvl, show lenP b - 4 + 4 = b.getD 2 0 * 256 + b.getD 3 0 by unfold lenP at h2 ⊢; omega, be2_of g0 g1, be2_of g2 g3, ← hvl]
   simp [headP]
  rw [e1, List.take_append_drop]
theorem readAll_some : ∀ (n : Nat) (b : List Nat) (L : List Par), b.length ≤ n → AllB b → readAll b = some L → (∀ p ∈ L, goodP p = true ∧ AllB p.2) ∧ writeB L = b := by
 intro n
 induction n with
 | zero =>
  intro b L hn _ h
  obtain rfl : b = [] := List.eq_nil_of_length_eq_zero (by omega)
  rw [readAll_nil] at h
  cases h
  exact ⟨(fun p hp => by cases hp), rfl⟩
 | succ n ih =>
  intro b L hn hb h
  by_cases h0 : b = []
  ·
   subst h0
   rw [readAll_nil] at h
   cases h
   exact ⟨(fun p hp => by cases hp), rfl⟩
  ·
   cases hk : okP b with
   | false => rw [readAll_bad h0 hk] at h; cases h
   | true =>
    rw [readAll_ok h0 hk] at h
    obtain ⟨L', hL, rfl⟩ := Option.map_eq_some_iff.1 h
    obtain ⟨g1, g2, g3⟩ := par_of hb hk
    have hp := allP_pos hk
    have hl := ((okP_iff b).1 hk).1
    obtain ⟨i1, i2⟩ := ih (b.drop (allP b)) L' (by rw [List.length_drop]; omega) (hb.drop _) hL
    refine ⟨fun p hp => ?_, ?_⟩
    ·
     rcases List.mem_cons.1 hp with rfl | hp
     ·
      exact ⟨g1, g2⟩
     ·
      exact i1 p hp
    ·
     rw [writeB_cons, i2]; exact g3.symm
theorem readAll_len : ∀ (n : Nat) (b : List Nat) (L : List Par), b.length ≤ n → readAll b = some L → 4 * L.length ≤ b.length := by
 intro n
 induction n with
 | zero =>
  intro b L hn h
  obtain rfl : b = [] := List.eq_nil_of_length_eq_zero (by omega)
  rw [readAll_nil] at h
  cases h
  simp
 | succ n ih =>
  intro b L hn h
  by_cases h0 : b = []
  ·
   subst h0
   rw [readAll_nil] at h
   cases h
   simp
  ·
   cases hk : okP b with
   | false => rw [readAll_bad h0 hk] at h; cases h
   | true =>
    rw [readAll_ok h0 hk] at h
    obtain ⟨L', hL, rfl⟩ := Option.map_eq_some_iff.1 h
    have hp := allP_pos hk
    have hl := ((okP_iff b).1 hk)
    have := ih (b.drop (allP b)) L' (by rw [List.length_drop]; omega) hL
    rw [List.length_drop] at this
    rw [List.length_cons]
    omega
theorem numS_none (B : List Nat) (n : Int) : numS B none n = (none, 0) := by unfold numS takeS; split <;> rfl
theorem numS2_yes {B : List Nat} {a : Nat} (h : a + 2 ≤ B.length) : numS B (some a) 2 = (some (a + 2), 256 * B.getD a 0 + B.getD (a + 1) 0) := by
 unfold numS
 rw [if_pos (by decide), takeS_yes (by decide) (by omega), drop_next (by omega : a < B.length), drop_next (by omega : a + 1 < B.length)]
 show (some (a + 2), val [B.getD a 0, B.getD (a + 1) 0]) = _
 simp [val]
theorem numS2_no {B : List Nat} {a : Nat} (h : B.length < a + 2) : numS B (some a) 2 = (none, 0) := by
 unfold numS
 rw [if_pos (by decide), takeS_no (by omega)]
 rfl
def paramS (B : List Nat) (s : Option Nat) : Option Nat × Par :=
 (padS B (takeS B (if (4000 : Int) < ((numS B (numS B s 2).1 2).2 : Int) - 4 then none else (numS B (numS B s 2).1 2).1) (((numS B (numS B s 2).1 2).2 : Int) - 4)).1,
  (((numS B s 2).2 : Int), (takeS B (if (4000 : Int) < ((numS B (numS B s 2).1 2).2 : Int) - 4 then none else (numS B (numS B s 2).1 2).1) (((numS B (numS B s 2).1 2).2 : Int) - 4)).2))
theorem getD_drop (B : List Nat) (a j : Nat) : (B.drop a).getD j 0 = B.getD (a + j) 0 := by
 rw [List.getD_eq_getElem?_getD, List.getD_eq_getElem?_getD, List.getElem?_drop]
theorem lenP_drop (B : List Nat) (a : Nat) : lenP (B.drop a) = 256 * B.getD (a + 2) 0 + B.getD (a + 3) 0 := by
 unfold lenP; rw [getD_drop, getD_drop]; omega
theorem paramS_bad {B : List Nat} {a : Nat} (ha : a % 4 = 0) (hk : okP (B.drop a) = false) : (paramS B (some a)).1 = none := by
 unfold paramS
 simp only
 by_cases h2 : a + 2 ≤ B.length
 ·
  rw [numS2_yes h2]
  by_cases h4 : a + 2 + 2 ≤ B.length
  ·
   rw [numS2_yes h4]
   simp only
   rw [show a + 2 + 1 = a + 3 by omega, ← lenP_drop]
   by_cases hb : (4000 : Int) < (lenP (B.drop a) : Int) - 4
   ·
    rw [if_pos hb]; rfl
   ·
    rw [if_neg hb]
    by_cases ht : 0 ≤ (lenP (B.drop a) : Int) - 4 ∧ (lenP (B.drop a) : Int) - 4 ≤ (B.length : Int) - ((a + 2 + 2 : Nat) : Int)
    ·
     rw [takeS_yes ht.1 ht.2]
     simp only
     rw [show a + 2 + 2 + ((lenP (B.drop a) : Int) - 4).toNat = a + lenP (B.drop a) by omega, padS_some, pads_off ha]
     by_cases hp : ((pads (lenP (B.drop a)) : Nat) : Int) ≤ (B.length : Int) - ((a + lenP (B.drop a) : Nat) : Int)
     ·
      rw [takeS_yes (by omega) hp]
      simp only
      rw [if_neg]
      intro hz
      have hap := allP_eq (b := B.drop a) (by omega)
      have : okP (B.drop a) = true := by
       rw [okP_iff]
       refine ⟨by rw [List.length_drop]; omega, by omega, by omega, by rw [List.length_drop]; omega, ?_⟩
       rw [List.drop_take, List.drop_drop, hap, Nat.add_sub_cancel_left]
       rw [Int.toNat_natCast] at hz
       exact hz
      rw [hk] at this; cases this
     ·
      rw [takeS_no (by omega)]; simp
    ·
     rw [takeS_no ht]; rfl
  ·
   rw [numS2_no (by omega)]; rfl
 ·
  rw [numS2_no (by omega), numS_none]; rfl
theorem paramS_ok {B : List Nat} {a : Nat} (ha : a % 4 = 0) (hk : okP (B.drop a) = true) : paramS B (some a) = (some (a + allP (B.drop a)), headP (B.drop a)) := by
 obtain ⟨h1, h2, h3, h4, h5⟩ := (okP_iff _).1 hk
 rw [List.length_drop] at h1 h4
 have hap := allP_eq h2
 unfold paramS
 rw [numS2_yes (by omega), numS2_yes (by omega)]
 simp only
 rw [show a + 2 + 1 = a + 3 by omega, ← lenP_drop, if_neg (by omega), takeS_yes (by omega) (by omega)]
 simp only
 rw [show a + 2 + 2 + ((lenP (B.drop a) : Int) - 4).toNat = a + lenP (B.drop a) by omega, padS_some, pads_off ha, takeS_yes (by omega) (by omega)]
 rw [List.drop_take, List.drop_drop, hap, Nat.add_sub_cancel_left] at h5
 rw [Int.toNat_natCast, if_pos h5, hap]
 refine Prod.ext (by simp only; congr 1; omega) (Prod.ext ?_ ?_)
 ·
  unfold headP; simp only; rw [getD_drop, getD_drop]; simp only [Nat.add_zero]; omega
 ·
  unfold headP; simp only; rw [List.drop_take, List.drop_drop, show ((lenP (B.drop a) : Int) - 4).toNat = lenP (B.drop a) - 4 by omega]
end Tlv
end Go.Proofs.Ytigocaconkbalaa
namespace Go.Proofs.Ytigocaconkbalaa
open Go
section
variable {P : Program} {mk : Tmp → Option Nat} {ops : List Oper} {a0 : Act} {R : World → World → Prop} {V : Nat → World → Value → Prop} {w0 : World} {Q : Exit → Act → World → Prop} {n : Nat}
end
end Go.Proofs.Ytigocaconkbalaa
namespace Go.Proofs.Ytigocaconkbalaa
open Go
abbrev FactP := World → Value → (Operand → Value) → Prop
def factOfP (mk : Tmp → Option Nat) (a0 : Act) (V : Nat → FactP) (r : Operand → Value) (w : World) : Operand → Prop
 | .tmp t => match mk t with
  | some j => V j w (r (.tmp t)) r
  | none => r (.tmp t) = a0.eval (.tmp t)
 | .const c => r (.const c) = c
 | .global g => r (.global g) = .pointer (some ⟨g, 0, none⟩)
 | .func f => r (.func f) = .func (.func f) #[] #[]
def factsOfP (mk : Tmp → Option Nat) (a0 : Act) (V : Nat → FactP) (r : Operand → Value) (w : World) : List Operand → Prop
 | [] => True
 | x :: l => factOfP mk a0 V r w x ∧ factsOfP mk a0 V r w l
def GoodP (P : Program) (mk : Tmp → Option Nat) (a0 : Act) (row : Nat → Option Nat) (U : Nat → World → Prop) (V : Nat → FactP) (i0 j0 : Nat) (A : Value → Value → Prop) (i : Nat) (o : Oper) : Prop :=
 o.guard = none ∧ ∀ (r : Operand → Value) (w : World), U i w → factsOfP mk a0 V r w o.op.operands.toList →
  give P (fun v w' => w.grownBy w' (row i) ∧ V i w' v r ∧ (i = i0 → ∀ v2 r2, V j0 w v2 r2 → A v v2) ∧ (i = j0 → ∀ v1 r1, V i0 w v1 r1 → A v1 v)) ((execOp r o).run P w)
structure InvP (ops : List Oper) (a0 : Act) (Rall : World → World → Prop) (U : Nat → World → Prop) (V : Nat → FactP) (i0 j0 : Nat) (d1 d2 : Tmp) (A : Value → Value → Prop) (w0 : World) (listed : Array Bool) (a : Act) (w : World) : Prop where
 rel : Rall w0 w
 defers : a.defers = a0.defers
 size : a.tmps.size = a0.tmps.size
 rest : ∀ t, (∀ (i : Nat) o, ops[i]? = some o → o.dst = some t → listed.getD i true = false) → a.tmps[t]? = a0.tmps[t]?
 pre : ∀ i, listed.getD i true = false → U i w
 done : ∀ (i : Nat) o, ops[i]? = some o → listed.getD i false = true → ∃ v, (∀ d, o.dst = some d → a.tmps[d]? = some v) ∧ V i w v a.eval
 deps : ∀ (i : Nat) o, ops[i]? = some o → listed.getD i false = true → ∀ e ∈ o.after, Region.binds .any e = true → listed.getD e.on false = true
 pair : listed.getD i0 false = true → listed.getD j0 false = true → ∀ v1 v2, a.tmps[d1]? = some v1 → a.tmps[d2]? = some v2 → A v1 v2
section
variable {P : Program} {mk : Tmp → Option Nat} {ops : List Oper} {a0 : Act} {Rall : World → World → Prop} {row : Nat → Option Nat} {U : Nat → World → Prop} {V : Nat → FactP} {i0 j0 : Nat} {d1 d2 : Tmp} {A : Value → Value → Prop} {w0 : World} {Q : Exit → Act → World → Prop} {n : Nat}
theorem eval_tmp (a : Act) (t : Tmp) (v : Value) (h : a.tmps[t]? = some v) : a.eval (.tmp t) = v := by
 simp [Act.eval, h]
theorem operand_apart (hsh : shapeB mk ops n = true) {listed : Array Bool} {i j : Nat} {oi oj : Oper} (hi : ops[i]? = some oi) (hj : ops[j]? = some oj) (hli : listed.getD i true = false)
  (hdeps : ∀ e ∈ oj.after, Region.binds .any e = true → listed.getD e.on false = true) : ∀ x ∈ oj.op.operands.toList, ∀ d, oi.dst = some d → x ≠ .tmp d := by
 intro x hx d hd e
 subst e
 have hsi := shape_spec hsh hi
 have hsj := shape_spec hsh hj
 simp only [shapeOneB, hd, Bool.and_eq_true, beq_iff_eq] at hsi
 have hmk := hsi.1.2.1
 simp only [shapeOneB, Bool.and_eq_true, List.all_eq_true] at hsj
 have h2 := hsj.1.1.1.2 _ hx
 simp only [Bool.and_eq_true, beq_iff_eq] at h2
 rw [hmk] at h2
 obtain ⟨e, he, hb, hon⟩ := after_spec h2.2
 have := hdeps e he hb
 rw [hon] at this
 have hlt : i < listed.size := by
  rcases Nat.lt_or_ge i listed.size with h | h
  ·
   exact h
  ·
   simp [Array.getElem?_eq_none h] at hli
 simp [hlt] at hli this
 rw [hli] at this
 cases this
theorem InvP.facts (hsh : shapeB mk ops n = true) {listed : Array Bool} {a : Act} {w : World} (hI : InvP ops a0 Rall U V i0 j0 d1 d2 A w0 listed a w) {i : Nat} {o : Oper} (ho : ops[i]? = some o)
  (hall : ∀ e ∈ o.after, Region.binds .any e = true → listed.getD e.on false = true) : ∀ x ∈ o.op.operands.toList, factOfP mk a0 V a.eval w x := by
 intro x hx
 have hs := shape_spec hsh ho
 simp only [shapeOneB, Bool.and_eq_true, List.all_eq_true] at hs
 have h2 := hs.1.1.1.2 x hx
 cases x with
 | tmp t =>
  simp only [factOfP]
  simp only [Bool.and_eq_true, beq_iff_eq] at h2
  rw [← h2.1]
  cases hm : maker ops t with
  | none =>
   simp only [Act.eval]
   have := hI.rest t fun j o' hj hd' => absurd hd' (maker_none hm hj)
   simp [this]
  | some j =>
   simp only [hm] at h2
   obtain ⟨e, he, hb, rfl⟩ := after_spec h2.2
   obtain ⟨o', hj, hd'⟩ := maker_some hm
   obtain ⟨v, h3, h4⟩ := hI.done _ o' hj (hall e he hb)
   have := h3 t hd'
   simp only []
   rw [eval_tmp a t v this]
   exact h4
 | const c => rfl
 | global g => rfl
 | func f => rfl
theorem InvP.put (hsh : shapeB mk ops n = true) (hn : a0.tmps.size = n) (hF : ∀ (j : Nat) oj w v ρ ρ', ops[j]? = some oj → (∀ x ∈ oj.op.operands.toList, ρ x = ρ' x) → V j w v ρ → V j w v ρ')
  (hT : ∀ a b c, Rall a b → Rall b c → Rall a c) (hRa : ∀ i w w', w.grownBy w' (row i) → Rall w w')
  (hU : ∀ i j oj w w', ops[j]? = some oj → afterB oj i = false → i ≠ j → w.grownBy w' (row j) → U i w → U i w') (hV : ∀ i j w w' v ρ, i ≠ j → w.grownBy w' (row j) → V i w v ρ → V i w' v ρ)
  (hd1 : (ops[i0]?).bind (·.dst) = some d1) (hd2 : (ops[j0]?).bind (·.dst) = some d2) (hij : i0 ≠ j0)
  {listed : Array Bool} {a : Act} {w w' : World} (hI : InvP ops a0 Rall U V i0 j0 d1 d2 A w0 listed a w) {i : Nat} {o : Oper} (ho : ops[i]? = some o) (hl : listed.getD i true = false)
  (hall : ∀ e ∈ o.after, Region.binds .any e = true → listed.getD e.on false = true) {v : Value} (hR : w.grownBy w' (row i)) (hv : V i w' v a.eval)
  (hA1 : i = i0 → ∀ v2 r2, V j0 w v2 r2 → A v v2) (hA2 : i = j0 → ∀ v1 r1, V i0 w v1 r1 → A v1 v) :
  InvP ops a0 Rall U V i0 j0 d1 d2 A w0 (listed.setIfInBounds i true) (a.put o.dst v) w' := by
 have hlt : i < listed.size := by
  rcases Nat.lt_or_ge i listed.size with h | h
  ·
   exact h
  ·
   simp [Array.getElem?_eq_none h] at hl
 have hs := shape_spec hsh ho
 have hslot : ∀ (j : Nat) oj, ops[j]? = some oj → j ≠ i → ∀ d, oj.dst = some d → (a.put o.dst v).tmps[d]? = a.tmps[d]? := by
  intro j oj hj hji d hd
  cases hd' : o.dst with
  | none => simp [Act.put]
  | some d' =>
   have hne : d' ≠ d := by
    rintro rfl
    exact hji (shape_dst hsh hj ho hd hd')
   simp [Act.put, Array.getElem?_setIfInBounds_ne hne]
 have hown : ∀ d, o.dst = some d → (a.put o.dst v).tmps[d]? = some v := by
  intro d hd
  have hdn : d < n := by
   simp only [shapeOneB, hd, Bool.and_eq_true, decide_eq_true_eq] at hs
   exact hs.1.2.2
  have : d < a.tmps.size := by rw [hI.size, hn]; exact hdn
  simp [Act.put, hd, this]
 have heval : ∀ (j : Nat) oj, ops[j]? = some oj → (∀ e ∈ oj.after, Region.binds .any e = true → listed.getD e.on false = true) → ∀ x ∈ oj.op.operands.toList, a.eval x = (a.put o.dst v).eval x := fun j oj hj hdep x hx =>
  (Act.eval_put (fun d hd => operand_apart hsh ho hj hl hdep x hx d hd)).symm
 refine ⟨hT _ _ _ hI.rel (hRa _ _ _ hR), ?_, ?_, ?_, ?_, ?_, ?_, ?_⟩
 ·
  cases hd : o.dst <;> simp [Act.put, hI.defers]
 ·
  cases hd : o.dst <;> simp [Act.put, hI.size]
 ·
  intro t ht
  have h1 : a.tmps[t]? = a0.tmps[t]? := hI.rest t fun j o' hj hd' => by
   have := ht j o' hj hd'
   by_cases hij : i = j
   ·
    subst hij; simp [hlt] at this
   ·
    rw [getD_set_ne true hij] at this; exact this
  cases hd : o.dst with
  | none => simpa [Act.put] using h1
  | some d =>
   have hne : d ≠ t := by
    rintro rfl
    have := ht i o ho hd
    simp [hlt] at this
   simpa [Act.put, Array.getElem?_setIfInBounds_ne hne] using h1
 ·
  intro j hj
  have hji : j ≠ i := by rintro rfl; simp [hlt] at hj
  rw [getD_set_ne true (Ne.symm hji)] at hj
  have haf : afterB o j = false := by
   cases h : afterB o j with
   | false => rfl
   | true =>
    exfalso
    obtain ⟨e, he, hb, hon⟩ := after_spec h
    have h2 := hall e he hb
    rw [hon] at h2
    have hlt2 : j < listed.size := by
     rcases Nat.lt_or_ge j listed.size with h | h
     ·
      exact h
     ·
      simp [Array.getElem?_eq_none h] at hj
    simp [hlt2] at hj h2
    rw [hj] at h2
    cases h2
  exact hU j i o _ _ ho haf hji hR (hI.pre j hj)
 ·
  intro j oj hj hlj
  by_cases hji : j = i
  ·
   subst hji
   rw [ho] at hj; cases hj
   exact ⟨v, hown, hF j o _ _ _ _ ho (heval j o ho hall) hv⟩
  ·
   have hlj' : listed.getD j false = true := by
    rw [getD_set_ne false (Ne.symm hji)] at hlj; exact hlj
   obtain ⟨v', h1, h2⟩ := hI.done j oj hj hlj'
   refine ⟨v', fun d hd => (hslot j oj hj hji d hd).trans (h1 d hd), ?_⟩
   exact hF j oj _ _ _ _ hj (heval j oj hj (hI.deps j oj hj hlj')) (hV j i _ _ _ _ hji hR h2)
 ·
  intro j oj hj hlj e he hb
  by_cases hji : j = i
  ·
   subst hji
   rw [ho] at hj; cases hj
   exact getD_set_true (hall e he hb)
  ·
   have hlj' : listed.getD j false = true := by
    rw [getD_set_ne false (Ne.symm hji)] at hlj; exact hlj
   exact getD_set_true (hI.deps j oj hj hlj' e he hb)
 ·
  intro h1 h2 v1 v2 e1 e2
  obtain ⟨oi0, hoi, hdi⟩ := Option.bind_eq_some_iff.1 hd1
  obtain ⟨oj0, hoj, hdj⟩ := Option.bind_eq_some_iff.1 hd2
  by_cases c1 : i = i0
  ·
   subst c1
   rw [ho] at hoi; cases hoi
   rw [hown d1 hdi] at e1; cases e1
   have hlj : listed.getD j0 false = true := by rw [getD_set_ne false hij] at h2; exact h2
   obtain ⟨v', k1, k2⟩ := hI.done j0 oj0 hoj hlj
   rw [hslot j0 oj0 hoj (Ne.symm hij) d2 hdj, k1 d2 hdj] at e2; cases e2
   exact hA1 rfl _ _ k2
  ·
   by_cases c2 : i = j0
   ·
    subst c2
    rw [ho] at hoj; cases hoj
    rw [hown d2 hdj] at e2; cases e2
    have hli : listed.getD i0 false = true := by rw [getD_set_ne false c1] at h1; exact h1
    obtain ⟨v', k1, k2⟩ := hI.done i0 oi0 hoi hli
    rw [hslot i0 oi0 hoi (Ne.symm c1) d1 hdi, k1 d1 hdi] at e1; cases e1
    exact hA2 rfl _ _ k2
   ·
    rw [getD_set_ne false c1] at h1
    rw [getD_set_ne false c2] at h2
    rw [hslot i0 oi0 hoi (Ne.symm c1) d1 hdi] at e1
    rw [hslot j0 oj0 hoj (Ne.symm c2) d2 hdj] at e2
    exact hI.pair h1 h2 v1 v2 e1 e2
def GoodPAll (P : Program) (mk : Tmp → Option Nat) (a0 : Act) (row : Nat → Option Nat) (U : Nat → World → Prop) (V : Nat → FactP) (i0 j0 : Nat) (A : Value → Value → Prop) : Nat → List Oper → Prop
 | _, [] => True
 | i, o :: l => GoodP P mk a0 row U V i0 j0 A i o ∧ GoodPAll P mk a0 row U V i0 j0 A (i + 1) l
theorem GoodPAll.at {P : Program} {mk : Tmp → Option Nat} {a0 : Act} {row : Nat → Option Nat} {U : Nat → World → Prop} {V : Nat → FactP} {i0 j0 : Nat} {A : Value → Value → Prop} : ∀ {ops : List Oper} {k : Nat}, GoodPAll P mk a0 row U V i0 j0 A k ops → ∀ i o, ops[i]? = some o → GoodP P mk a0 row U V i0 j0 A (k + i) o
 | [], _, _, i, o, ho => by simp at ho
 | _ :: _, k, h, 0, o, ho => by simp at ho; subst ho; exact h.1
 | _ :: l, k, h, i + 1, o, ho => by
  have := GoodPAll.at (ops := l) h.2 i o (by simpa using ho)
  rwa [show k + 1 + i = k + (i + 1) by omega] at this
end
end Go.Proofs.Ytigocaconkbalaa
namespace Go.Proofs.Ytigocaconkbalaa
open Go.RowKit Go.Shelf
def NumsAt (k : IntKind) (w : World) (v : Value) (l : List Int) : Prop :=
 l.length ≤ maxLen ∧ ((l = [] ∧ v = .slice none 0 0) ∨
  ∃ ad cap, v = .slice (some ad) l.length cap ∧ l.length ≤ cap ∧ cap ≤ maxLen ∧ ∀ j, j < l.length → w.cell? (ad.add j) = some (.int k (l.getD j 0)))
def blockOf : Value → Option Nat
 | .slice (some ad) _ _ => some ad.block
 | _ => none
theorem add_block (a : Addr) (j : Nat) : (a.add j).block = a.block := by unfold Addr.add; split <;> rfl
theorem NumsAt.via {k : IntKind} {w w' : World} {v : Value} {l : List Int} (h : NumsAt k w v l) (hb : ∀ b, blockOf v = some b → b < w.heap.size → w'.heap[b]? = w.heap[b]?) : NumsAt k w' v l := by
 obtain ⟨h2, h3⟩ := h
 refine ⟨h2, h3.imp id ?_⟩
 rintro ⟨ad, cap, rfl, h4, h5, hc⟩
 refine ⟨ad, cap, rfl, h4, h5, fun j hj => ?_⟩
 have h0 := hc j hj
 have hlt := cell_lt h0
 rw [add_block] at hlt
 refine (World.cell?_of_block ?_).trans h0
 rw [add_block]
 exact hb _ rfl hlt
theorem NumsAt.ext {k : IntKind} {w w' : World} {v : Value} {l : List Int} (h : NumsAt k w v l) (he : Ext w w') : NumsAt k w' v l := h.via fun b _ hb => he.block b hb
theorem NumsAt.nothing (k : IntKind) (w : World) : NumsAt k w (.slice none 0 0) [] := ⟨by simp, .inl ⟨rfl, rfl⟩⟩
theorem NumsAt.form {k : IntKind} {w : World} {v : Value} {l : List Int} (h : NumsAt k w v l) :
  ∃ a cap, v = .slice a l.length cap ∧ (l.length ≤ cap ∧ cap ≤ maxLen) ∧ ∀ j, j < l.length → ∃ b off, a = some ⟨b, off, none⟩ ∧ w.cell? ⟨b, off + j, none⟩ = some (.int k (l.getD j 0)) := by
 obtain ⟨_, ⟨rfl, rfl⟩ | ⟨ad, cap, rfl, h4, h5, hc⟩⟩ := h
 ·
  exact ⟨.none, 0, rfl, ⟨by simp, by simp⟩, fun j hj => by simp at hj⟩
 ·
  refine ⟨some ad, cap, rfl, ⟨h4, h5⟩, fun j hj => ?_⟩
  obtain ⟨b, off, spot⟩ := ad
  have h0 := hc 0 (by omega)
  have hs : spot = .none := by simpa [Addr.add] using World.cell?_spot h0
  subst hs
  refine ⟨b, off, rfl, ?_⟩
  have := hc j hj
  rwa [add_plain] at this
theorem NumsAt.of_row {k : IntKind} {w : World} {x : Addr} {len cap : Nat} {zs : List Int} (hl : len ≤ cap) (hm : cap ≤ maxLen) (hz : zs.length = cap) (hc : ∀ i, i < zs.length → w.cell? (x.add i) = some (.int k (zs.getD i 0))) :
  NumsAt k w (.slice (some x) len cap) (zs.take len) := by
 have hlen : (zs.take len).length = len := by simp; omega
 refine ⟨by omega, .inr ⟨x, cap, by rw [hlen], by omega, hm, fun j hj => ?_⟩⟩
 rw [hlen] at hj
 rw [hc j (by omega)]
 simp [List.getD_eq_getElem?_getD, hj]
theorem NumsAt.sliced {k : IntKind} {w : World} {a : Option Addr} {n c : Nat} {l : List Int} (h : NumsAt k w (.slice a n c) l) (lo hi : Nat) (h1 : lo ≤ hi) (h2 : hi ≤ l.length) : NumsAt k w (Go.sliced a lo hi c 1) ((l.take hi).drop lo) := by
 obtain ⟨hm, h3 | ⟨ad, cap, e1, hle, hcm, hc⟩⟩ := h
 ·
  obtain ⟨rfl, e1⟩ := h3
  simp only [Value.slice.injEq] at e1
  obtain ⟨rfl, rfl, rfl⟩ := e1
  simp at h2
  obtain rfl : hi = 0 := h2
  obtain rfl : lo = 0 := by omega
  exact ⟨by simp, .inl ⟨rfl, rfl⟩⟩
 ·
  simp only [Value.slice.injEq] at e1
  obtain ⟨rfl, rfl, rfl⟩ := e1
  refine ⟨by simp; omega, .inr ⟨if c = lo then ad else ad.add lo, c - lo, ?_, by simp; omega, by omega, fun j hj => ?_⟩⟩
  ·
   simp only [Go.sliced, List.length_drop, List.length_take, Nat.mul_one, Option.map_some]
   rw [show min hi l.length = hi by omega]
   split <;> rfl
  ·
   simp only [List.length_drop, List.length_take] at hj
   rw [if_neg (by omega)]
   have h0 := hc (lo + j) (by omega)
   have e2 : (ad.add lo).add j = ad.add (lo + j) := by
    unfold Addr.add
    by_cases hl : lo = 0 <;> by_cases hj0 : j = 0 <;> simp [hl, hj0, Nat.add_assoc]
   rw [e2, h0]
   simp [List.getD_eq_getElem?_getD, List.getElem?_drop, show lo + j < hi by omega]
structure NumT (P : Program) (t e : TypeId) (k : IntKind) (by8 : Nat) : Prop where
 ut : P.underlying t = some (.slice e)
 ue : P.underlying e = some (.int k)
 info : (P.info? e).map (fun i => (i.zero, i.size, i.bytes)) = some (some (.int k 0), 1, by8)
theorem NumT.ex {P : Program} {t e : TypeId} {k : IntKind} {by8 : Nat} (h : NumT P t e k by8) : ∃ i, P.info? e = some i ∧ i.zero = some (.int k 0) ∧ i.size = 1 ∧ i.bytes = by8 := by
 obtain ⟨i, hi, h2⟩ := Option.map_eq_some_iff.1 h.info
 simp only [Prod.mk.injEq] at h2
 exact ⟨i, hi, h2.1, h2.2.1, h2.2.2⟩
def OwnN (k : IntKind) (w : World) (base : Nat) (e : TypeId) (v : Value) (l : List Int) : Prop := w.ownsRow base e 1 v l.length (l.map (Value.int k)) ∧ l.length ≤ maxLen
theorem OwnN.nil (k : IntKind) (w : World) (base : Nat) (e : TypeId) : OwnN k w base e (.slice none 0 0) [] := ⟨World.ownsRow_nil _ _ _ _, by simp⟩
theorem OwnN.slice {k : IntKind} {w : World} {base : Nat} {e : TypeId} {v : Value} {l : List Int} (h : OwnN k w base e v l) : ∃ a cap, v = .slice a l.length cap ∧ (a = .none → l = [] ∧ cap = 0) ∧ (∀ x, a = some x → ∃ g, x = ⟨g, 0, .none⟩ ∧ base ≤ g ∧ g < w.heap.size) := by
 rcases h.1.2 with ⟨rfl, h0⟩ | ⟨g, cap, cur, rfl, hb, hg, _⟩
 ·
  have : l = [] := List.eq_nil_of_length_eq_zero h0
  subst this
  exact ⟨.none, 0, rfl, fun _ => ⟨rfl, rfl⟩, fun x hx => by cases hx⟩
 ·
  exact ⟨_, _, rfl, (fun h => by cases h), (fun x hx => by cases hx; exact ⟨g, rfl, hb, (Array.getElem?_eq_some_iff.1 hg).1⟩)⟩
theorem OwnN.nums {k : IntKind} {w : World} {base : Nat} {e : TypeId} {v : Value} {l : List Int} (h : OwnN k w base e v l) : NumsAt k w v l := by
 refine ⟨h.2, ?_⟩
 rcases h.1.2 with ⟨rfl, h0⟩ | ⟨g, cap, cur, rfl, hb, hg, hnc, hcm, _⟩
 ·
  exact .inl ⟨List.eq_nil_of_length_eq_zero h0, rfl⟩
 ·
  refine .inr ⟨⟨g, 0, .none⟩, cap, rfl, hnc, hcm, fun j hj => ?_⟩
  have := h.1.cellAt j (by omega)
  rw [add_plain, Nat.zero_add, this]
  simp [List.getD_eq_getElem?_getD, hj]
theorem OwnN.kept {k : IntKind} {w w' : World} {base : Nat} {e : TypeId} {v : Value} {l : List Int} {row : Option Nat} (h : OwnN k w base e v l) (hg : w.grownBy w' row) (hne : v.ownBlock = .none ∨ v.ownBlock ≠ row) : OwnN k w' base e v l := ⟨h.1.kept hg hne, h.2⟩
theorem OwnN.ext {k : IntKind} {w w' : World} {base : Nat} {e : TypeId} {v : Value} {l : List Int} (h : OwnN k w base e v l) (he : Ext w w') : OwnN k w' base e v l :=
 h.kept (row := .none) ⟨he.os, he.tape, he.output, he.size, fun j hj _ => he.block j hj⟩ (by
  rcases h.1.2 with ⟨rfl, _⟩ | ⟨g, cap, cur, rfl, _⟩
  ·
   exact .inl rfl
  ·
   exact .inr (by simp [Value.ownBlock]))
theorem run_append_nums {P : Program} {t e : TypeId} {k : IntKind} {by8 : Nat} (hT : NumT P t e k by8) (w : World) (base ty : Nat) (v x : Value) (l m : List Int) (hv : OwnN k w base e v l) (hx : NumsAt k w x m)
  (hlen : (l.length + m.length) * by8 ≤ 140737488355328) (hlen2 : l.length + m.length ≤ 140737488355328) (hbase : base ≤ w.heap.size) :
  ∃ v' w', (Builtin.append_ #[t, t] ty #[v, x]).run P w = .ok v' w' ∧ OwnN k w' base e v' (l ++ m) ∧ w.grownBy w' v.ownBlock ∧ (v'.ownBlock = v.ownBlock ∨ v'.ownBlock = some w.heap.size) := by
 obtain ⟨i, hi, hz, hs, hby⟩ := hT.ex
 obtain ⟨hm2, hx⟩ := hx
 rcases hx with ⟨rfl, rfl⟩ | ⟨ad, c, rfl, _, _, hc⟩
 ·
  refine ⟨_, w, run_append_owned_none w base t ty e i 1 hT.ut hi _ _ _ hv.1, ?_, World.grownBy.refl _ _, .inl rfl⟩
  rw [List.append_nil]; exact hv
 ·
  obtain ⟨v', w', hr, h2, h3, h4, h5⟩ := run_append_own_at (P := P) w base t ty e i (.int k 0) 1 by8 hT.ut hi hz hs hby rfl (by omega) v l.length (l.map (Value.int k)) hv.1 ad m.length c (m.map (Value.int k)) (by simp)
   (fun j u hu => by
    rw [List.getElem?_map] at hu
    obtain ⟨y, hy, rfl⟩ := Option.map_eq_some_iff.1 hu
    have hj : j < m.length := (List.getElem?_eq_some_iff.1 hy).1
    rw [hc j hj]
    simp [List.getD_eq_getElem?_getD, hy])
   (fun u hu => by
    obtain ⟨y, _, rfl⟩ := List.mem_map.1 hu
    rfl) (by unfold maxLen; omega) hlen hbase
  refine ⟨v', w', hr, ⟨by simpa using h2, by simp [maxLen]; omega⟩, h3, h5⟩
def Apart (u v : Value) : Prop := ∀ g, u.ownBlock = some g → v.ownBlock ≠ some g
theorem Apart.symm {u v : Value} (h : Apart u v) : Apart v u := fun g hg hu => h g hu hg
theorem OwnN.lt {k : IntKind} {w : World} {base : Nat} {e : TypeId} {v : Value} {l : List Int} (h : OwnN k w base e v l) {g : Nat} (hg : v.ownBlock = some g) : base ≤ g ∧ g < w.heap.size := by
 rcases h.1.2 with ⟨rfl, _⟩ | ⟨g', cap, cur, rfl, hb, hgb, _⟩
 ·
  simp [Value.ownBlock] at hg
 ·
  simp [Value.ownBlock] at hg
  subst hg
  exact ⟨hb, (Array.getElem?_eq_some_iff.1 hgb).1⟩
theorem Apart.grown {u u' v : Value} {N : Nat} (h : Apart u v) (hv : ∀ g, v.ownBlock = some g → g < N) (h4 : u'.ownBlock = u.ownBlock ∨ u'.ownBlock = some N) : Apart u' v := fun g hg hvg => by
 rcases h4 with h4 | h4
 ·
  rw [h4] at hg; exact h g hg hvg
 ·
  rw [h4] at hg; cases hg; have := hv _ hvg; omega
theorem NumsAt.one {k : IntKind} (w : World) (x : Int) (t b : Nat) (hb : b = w.heap.size) : NumsAt k (w.alloc (.cells #[.int k x] t)) (.slice (some ⟨b, 0, none⟩) 1 1) [x] := by
 refine ⟨by simp [maxLen], .inr ⟨⟨b, 0, none⟩, 1, rfl, by simp, by simp [maxLen], fun j hj => ?_⟩⟩
 obtain rfl : j = 0 := by simp at hj; exact hj
 rw [add_plain, cellNew _ _ _ _ _ _ hb]
 rfl
theorem OwnN.stored {k : IntKind} {w : World} {base g n c : Nat} {e : TypeId} {l : List Int} (h : OwnN k w base e (.slice (some ⟨g, 0, none⟩) n c) l) (j : Nat) (x : Int) : OwnN k (w.setCell ⟨g, j, none⟩ (.int k x)) base e (.slice (some ⟨g, 0, none⟩) n c) (l.set j x) ∧ w.grownBy (w.setCell ⟨g, j, none⟩ (.int k x)) (some g) := by
 have hn : n = l.length := by
  obtain ⟨a, c', e1, _⟩ := h.slice
  simp only [Value.slice.injEq] at e1
  exact e1.2.1
 subst hn
 have hs := h.1.stored j (.int k x)
 refine ⟨⟨?_, by simpa using h.2⟩, hs.2⟩
 rw [List.length_set, List.map_set]
 exact hs.1
theorem OwnN.below {k : IntKind} {w w0 w' : World} {base : Nat} {e : TypeId} {v : Value} {l : List Int} (h : OwnN k w base e v l) (hb : Below base w0 w) (hg : w.grownBy w' v.ownBlock) (hs : base ≤ w.heap.size) : Below base w0 w' :=
 hb.grown hg hs (fun j ej => (h.lt ej).1)
end Go.Proofs.Ytigocaconkbalaa
namespace Go.Proofs.Ytigocaconkbalaa
open Go.RowKit
theorem OwnN.lit0 (k : IntKind) (w : World) (base : Nat) (e : TypeId) (b : Nat) (hb : b = w.heap.size) (hbase : base ≤ w.heap.size) : OwnN k (w.alloc (.cells #[] e)) base e (.slice (some ⟨b, 0, none⟩) 0 0) [] := by
 subst hb
 have := World.ownsRow_lit (base := base) (e := e) (size := 1) w #[] 0 hbase (by simp) (by simp)
 exact ⟨by simpa using this, by simp⟩
end Go.Proofs.Ytigocaconkbalaa
namespace Go.Proofs.Ytigocaconkbalaa
open Go
def GoodS (P : Program) (mk : Tmp → Option Nat) (a0 : Act) (V : Nat → Value → Prop) (i : Nat) (o : Oper) (w w' : World) : Prop :=
 ∀ (r : Operand → Value), factsOf mk a0 (fun j _ v => V j v) r w o.op.operands.toList →
  match o.guard with
  | none => give P (fun v x => x = w' ∧ V i v) ((execOp r o).run P w)
  | some (g, want) => ∀ b, V g b → if asBool b == some want then give P (fun v x => x = w' ∧ V i v) ((execOp r o).run P w) else (w' = w ∧ V i undef)
section
variable {P : Program} {mk : Tmp → Option Nat} {ops : List Oper} {a0 : Act} {V : Nat → Value → Prop} {Q : Exit → Act → World → Prop} {n : Nat}
def SInv (ops : List Oper) (a0 : Act) (V : Nat → Value → Prop) (wr : List Nat) (Ws : Nat → World) (listed : Array Bool) (a : Act) (w : World) : Prop :=
 Inv ops a0 (fun _ _ => True) (fun j _ v => V j v) (Ws 0) listed a w ∧ ∃ k, k ≤ wr.length ∧ w = Ws k ∧ ∀ j, j < wr.length → listed.getD (wr.getD j 0) false = decide (j < k)
theorem getD_set_self {l : Array Bool} {i : Nat} (h : l.getD i true = false) : (l.setIfInBounds i true).getD i false = true := by
 have hlt : i < l.size := by
  rcases Nat.lt_or_ge i l.size with h' | h'
  ·
   exact h'
  ·
   simp [Array.getElem?_eq_none h'] at h
 simp [hlt]
theorem getD_false {l : Array Bool} {i : Nat} (h : l.getD i true = false) : l.getD i false = false := by
 have hlt : i < l.size := by
  rcases Nat.lt_or_ge i l.size with h' | h'
  ·
   exact h'
  ·
   simp [Array.getElem?_eq_none h'] at h
 simpa [hlt] using h
end
def GoodSAll (P : Program) (mk : Tmp → Option Nat) (a0 : Act) (V : Nat → Value → Prop) (wr : List Nat) (Ws : Nat → World) : Nat → List Oper → Prop
 | _, [] => True
 | i, o :: l => (if wr.contains i then GoodS P mk a0 V i o (Ws (wr.idxOf i)) (Ws (wr.idxOf i + 1)) else ∀ k, k ≤ wr.length → GoodS P mk a0 V i o (Ws k) (Ws k)) ∧ GoodSAll P mk a0 V wr Ws (i + 1) l
theorem GoodSAll.at {P : Program} {mk : Tmp → Option Nat} {a0 : Act} {V : Nat → Value → Prop} {wr : List Nat} {Ws : Nat → World} : ∀ {ops : List Oper} {s : Nat}, GoodSAll P mk a0 V wr Ws s ops → ∀ i o, ops[i]? = some o → (if wr.contains (s + i) then GoodS P mk a0 V (s + i) o (Ws (wr.idxOf (s + i))) (Ws (wr.idxOf (s + i) + 1)) else ∀ k, k ≤ wr.length → GoodS P mk a0 V (s + i) o (Ws k) (Ws k))
 | [], _, _, i, o, ho => by simp at ho
 | _ :: _, s, h, 0, o, ho => by simp at ho; subst ho; exact h.1
 | _ :: l, s, h, i + 1, o, ho => by
  have := GoodSAll.at (ops := l) h.2 i o (by simpa using ho)
  rwa [show s + 1 + i = s + (i + 1) by omega] at this
theorem GoodSAll.nil {P : Program} {mk : Tmp → Option Nat} {a0 : Act} {V : Nat → Value → Prop} {wr : List Nat} {Ws : Nat → World} {i : Nat} : GoodSAll P mk a0 V wr Ws i [] := trivial
theorem GoodSAll.reads {P : Program} {mk : Tmp → Option Nat} {a0 : Act} {V : Nat → Value → Prop} {wr : List Nat} {Ws : Nat → World} {i : Nat} {o : Oper} {l : List Oper} (hc : wr.contains i = false) (h : ∀ k, k ≤ wr.length → GoodS P mk a0 V i o (Ws k) (Ws k)) (hl : GoodSAll P mk a0 V wr Ws (i + 1) l) : GoodSAll P mk a0 V wr Ws i (o :: l) :=
 ⟨by rw [if_neg (by rw [hc]; simp)]; exact h, hl⟩
theorem GoodSAll.writes {P : Program} {mk : Tmp → Option Nat} {a0 : Act} {V : Nat → Value → Prop} {wr : List Nat} {Ws : Nat → World} {i : Nat} {o : Oper} {l : List Oper} (k : Nat) (hc : wr.contains i = true) (hk : wr.idxOf i = k) (h : GoodS P mk a0 V i o (Ws k) (Ws (k + 1))) (hl : GoodSAll P mk a0 V wr Ws (i + 1) l) : GoodSAll P mk a0 V wr Ws i (o :: l) :=
 ⟨by rw [if_pos hc, hk]; exact h, hl⟩
theorem give_skip {P : Program} {K : Value → World → Prop} {r : Operand → Value} {w : World} {o : Oper} {w' : World} (h : (execOp r o).run P w = .ok .skip w') (hk : K undef w') : give P K ((execOp r o).run P w) := by rw [h]; exact hk
def chainB (ops : List Oper) (wr : List Nat) : Bool := (List.range wr.length).all fun j => match ops[wr.getD j 0]? with | none => false | some o => j == 0 || afterB o (wr.getD (j - 1) 0)
def onceB (wr : List Nat) : Bool := (List.range wr.length).all fun i => wr.idxOf (wr.getD i 0) == i
end Go.Proofs.Ytigocaconkbalaa
