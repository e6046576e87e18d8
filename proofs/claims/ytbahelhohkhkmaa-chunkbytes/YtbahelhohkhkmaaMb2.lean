/- Texts of the seat, one behind the other. No condition of its own. -/
import Derived.Test.YtbahelhohkhkmaaMb1
import Derived.BigQuiet
import Derived.Deep.LoopGhost
import Derived.Deep.Strs
import Derived.Lib.SlBytesConst
import Derived.Test.YtbahelhohkhkmaaProg
import Derived.Deep.OwnRows
set_option linter.unusedVariables false
set_option linter.unusedSimpArgs false
/- A law on regions that draw their order and write: the writers stand in one chain; every other operation yields the same in each of the worlds that it can meet. No condition of its own. -/
namespace Go.Proofs.Ytbahelhohkhkmaa
open Go
/-- Operation i comes ahead of o, by at most two steps. -/
def comesB (ops : List Oper) (o : Oper) (i : Nat) : Bool := afterB o i || (List.range ops.length).any fun j => match ops[j]? with | none => false | some oj => afterB o j && afterB oj i
theorem comes_spec {ops : List Oper} {o : Oper} {i : Nat} (h : comesB ops o i = true) : afterB o i = true ∨ ∃ (j : Nat) (oj : Oper), ops[j]? = some oj ∧ afterB o j = true ∧ afterB oj i = true := by
 unfold comesB at h
 rw [Bool.or_eq_true] at h
 rcases h with h | h
 ·
  exact .inl h
 ·
  obtain ⟨j, _, h2⟩ := List.any_eq_true.1 h
  cases hoj : ops[j]? with
  | none => rw [hoj] at h2; cases h2
  | some oj =>
   rw [hoj] at h2
   simp only [Bool.and_eq_true] at h2
   exact .inr ⟨j, oj, hoj, h2.1, h2.2⟩
section
variable {P : Program} {mk : Tmp → Option Nat} {ops : List Oper} {a0 : Act} {V : Nat → Value → Prop} {Q : Exit → Act → World → Prop} {n : Nat}
theorem chain_any (hsh : shapeB mk ops n = true) (hn : a0.tmps.size = n) (wr : List Nat) (Ws : Nat → World)
  (hinj : ∀ i j, i < wr.length → j < wr.length → wr.getD i 0 = wr.getD j 0 → i = j)
  (hch : ∀ j o, j + 1 < wr.length → ops[wr.getD (j + 1) 0]? = some o → afterB o (wr.getD j 0) = true)
  (hG : ∀ i o, ops[i]? = some o → (∀ j, j < wr.length → wr.getD j 0 ≠ i) → ∀ k, k ≤ wr.length → (∀ (j : Nat) oj, j < k → ops[wr.getD j 0]? = some oj → comesB ops oj i = false) → GoodS P mk a0 V i o (Ws k) (Ws k))
  (hWr : ∀ k o, k < wr.length → ops[wr.getD k 0]? = some o → GoodS P mk a0 V (wr.getD k 0) o (Ws k) (Ws (k + 1)))
  (hQ : ∀ a w, (∀ listed, SInv ops a0 V wr Ws (Array.replicate ops.length listed) a w → listed = true → Q .normal a w)) :
  ∀ (fuel : Nat) (listed : Array Bool) (a : Act) (w : World), listed.size = ops.length → listed.countP (· == false) ≤ fuel → (∀ (j : Nat) oj, ops[j]? = some oj → listed.getD j false = true → ∀ e ∈ oj.after, Region.binds .any e = true → listed.getD e.on false = true) → SInv ops a0 V wr Ws listed a w → wpAny P .any ops.toArray Q fuel listed a w := by
 have ready_nil : ∀ (listed : Array Bool), listed.size = ops.length → Region.ready .any ops.toArray listed = [] → listed = Array.replicate ops.length true := by
  intro listed hs hr
  have key : ∀ i, i < ops.length → listed.getD i false = true := by
   intro i
   induction i using Nat.strongRecOn with
   | _ i ih =>
    intro hi
    cases hb : listed.getD i false with
    | true => rfl
    | false =>
     exfalso
     have ho : ops[i]? = some ops[i] := by simp [hi]
     have : i ∈ Region.ready .any ops.toArray listed := by
      rw [mem_ready]
      refine ⟨by simpa [hs, hi] using hb, ops[i], by simp [hi], fun e he hbi => ?_⟩
      have hsp := shape_spec hsh ho
      simp only [shapeOneB, Bool.and_eq_true] at hsp
      have h5 := Array.all_eq_true_iff_forall_mem.1 hsp.2 e he
      simp [hbi] at h5
      exact ih e.on h5 (by omega)
     rw [hr] at this
     cases this
  apply Array.ext
  ·
   simp [hs]
  ·
   intro i h1 h2
   have := key i (by omega)
   simpa [h1] using this
 have fin : ∀ (listed : Array Bool) (a : Act) (w : World), listed.size = ops.length → SInv ops a0 V wr Ws listed a w → Region.ready .any ops.toArray listed = [] → Q .normal a w := by
  intro listed a w hs hI hr
  have := ready_nil listed hs hr
  subst this
  exact hQ a w true hI rfl
 intro fuel
 induction fuel with
 | zero =>
  intro listed a w hs hc hcl hI
  have hr : Region.ready .any ops.toArray listed = [] := by
   cases hr : Region.ready .any ops.toArray listed with
   | nil => rfl
   | cons j js =>
    exfalso
    have hj : j ∈ Region.ready .any ops.toArray listed := by rw [hr]; simp
    have h0 := (mem_ready.1 hj).1
    have hlt : j < listed.size := by
     rcases Nat.lt_or_ge j listed.size with h | h
     ·
      exact h
     ·
      simp [Array.getElem?_eq_none h] at h0
    have h1 : listed.countP (· == false) = 0 := by omega
    rw [Array.countP_eq_zero] at h1
    have h2 : listed[j] = false := by simpa [hlt] using h0
    have := h1 listed[j] (Array.getElem_mem hlt)
    simp [h2] at this
  exact ⟨hr, fin listed a w hs hI hr⟩
 | succ fuel ih =>
  intro listed a w hs hc hcl hI
  refine ⟨fin listed a w hs hI, fun i hi => ?_⟩
  obtain ⟨hl, o, ho', hall⟩ := mem_ready.1 hi
  have ho : ops[i]? = some o := by simpa using ho'
  obtain ⟨hB, k, hk, rfl, hst⟩ := hI
  have hfacts := factsOf_mk (hB.facts hsh ho hall)
  -- the world behind it, and what is owed
  obtain ⟨k', hk', hg, hst'⟩ : ∃ k', k' ≤ wr.length ∧ GoodS P mk a0 V i o (Ws k) (Ws k') ∧ ∀ j, j < wr.length → (listed.setIfInBounds i true).getD (wr.getD j 0) false = decide (j < k') := by
   by_cases hw : ∃ j, j < wr.length ∧ wr.getD j 0 = i
   ·
    obtain ⟨j, hj, hji⟩ := hw
    have hnl : listed.getD (wr.getD j 0) false = false := by rw [hji]; exact getD_false hl
    have hjk : ¬ j < k := by
     intro h
     rw [hst j hj, decide_eq_true h] at hnl
     cases hnl
    have hkj : j = k := by
     rcases Nat.lt_or_ge k j with h | h
     ·
      exfalso
      obtain ⟨j', rfl⟩ : ∃ j', j = j' + 1 := ⟨j - 1, by omega⟩
      have ha := hch j' o hj (by rw [hji]; exact ho)
      obtain ⟨e, he, hb, hon⟩ := after_spec ha
      have h2 := hall e he hb
      rw [hon, hst j' (by omega)] at h2
      have : j' < k := of_decide_eq_true h2
      omega
     ·
      omega
    subst hkj
    refine ⟨j + 1, by omega, by rw [← hji]; exact hWr j o hj (by rw [hji]; exact ho), fun j2 hj2 => ?_⟩
    by_cases e : j2 = j
    ·
     subst e
     rw [hji, getD_set_self hl]
     exact (decide_eq_true (by omega)).symm
    ·
     rw [getD_set_ne false (fun h => e (hinj j2 j hj2 hj (by rw [← h, hji]))), hst j2 hj2]
     congr 1
     simp only [eq_iff_iff]; omega
   ·
    have hne : ∀ j, j < wr.length → wr.getD j 0 ≠ i := fun j hj e => hw ⟨j, hj, e⟩
    refine ⟨k, hk, hG i o ho hne k hk (fun j oj hj hoj => ?_), fun j hj => by rw [getD_set_ne false (hne j hj).symm, hst j hj]⟩
    cases hcm : comesB ops oj i with
    | false => rfl
    | true =>
     exfalso
     have hlj : listed.getD (wr.getD j 0) false = true := by rw [hst j (by omega), decide_eq_true hj]
     have hli := getD_false hl
     rcases comes_spec hcm with h1 | ⟨j2, o2, ho2, h1, h2⟩
     ·
      obtain ⟨e, he, hb, rfl⟩ := after_spec h1
      have := hcl _ oj hoj hlj e he hb
      rw [hli] at this; cases this
     ·
      obtain ⟨e, he, hb, rfl⟩ := after_spec h1
      have h3 := hcl _ oj hoj hlj e he hb
      obtain ⟨e2, he2, hb2, rfl⟩ := after_spec h2
      have := hcl _ o2 ho2 h3 e2 he2 hb2
      rw [hli] at this; cases this
  have hg := hg a.eval hfacts
  unfold wpOp
  simp only [ho']
  have next : ∀ v w', w' = Ws k' ∧ V i v → wpAny P .any ops.toArray Q fuel (listed.setIfInBounds i true) (a.put o.dst v) w' := fun v w' ⟨h1, h2⟩ => by
   subst h1
   exact ih _ _ _ (by simp [hs]) (count_set hl hc) (fun j oj hoj hlj e he hb => by
     have keep : ∀ x, listed.getD x false = true → (listed.setIfInBounds i true).getD x false = true := fun x hx => by
      by_cases e' : i = x
      ·
       subst e'; exact absurd (getD_false hl) (by rw [hx]; simp)
      ·
       rw [getD_set_ne false e']; exact hx
     by_cases e' : i = j
     ·
      subst e'
      rw [ho] at hoj; cases hoj
      exact keep _ (hall e he hb)
     ·
      rw [getD_set_ne false e'] at hlj
      exact keep _ (hcl j oj hoj hlj e he hb)) ⟨hB.put hsh hn (fun _ _ _ _ _ h => h) (fun _ _ _ _ _ => trivial) ho hl trivial h2, k', hk', rfl, hst'⟩
  cases hgd : o.guard with
  | none =>
   simp only [hgd] at hg
   simp only [Region.wanted, hgd, if_true]
   exact .inl (give_wp hg next)
  | some gw =>
   obtain ⟨g, want⟩ := gw
   simp only [hgd] at hg
   have hsp := shape_spec hsh ho
   simp only [shapeOneB, hgd, Bool.and_eq_true] at hsp
   obtain ⟨e, he, hb, rfl⟩ := after_spec hsp.1.1.2.1
   obtain ⟨d, hd⟩ := Option.isSome_iff_exists.1 hsp.1.1.2.2
   obtain ⟨og, hog, hdg⟩ := Option.bind_eq_some_iff.1 hd
   obtain ⟨v, h3, h4⟩ := hB.done e.on og hog (hall e he hb)
   have hv := h3 d hdg
   have hy : yielded ops.toArray a.tmps e.on = asBool v := by
    unfold yielded
    simp only [List.getElem?_toArray, hog, Option.bind_some, hdg, hv]
    cases v <;> rfl
   have := hg v h4
   simp only [Region.wanted, hgd, hy]
   split
   ·
    rename_i hw
    rw [if_pos hw] at this
    exact .inl (give_wp this next)
   ·
    rename_i hw
    rw [if_neg hw] at this
    exact next _ _ ⟨this.1.symm, this.2⟩
end
/-- Up to which world an operation must be looked at: all, or those ahead of a writer that comes behind it. -/
def boundB (ops : List Oper) (wr ub : List Nat) : Bool := (List.range ops.length).all fun i => decide (wr.length ≤ ub.getD i 0) || match ops[wr.getD (ub.getD i 0) 0]? with | none => false | some oj => comesB ops oj i
def GoodCAll (P : Program) (mk : Tmp → Option Nat) (a0 : Act) (V : Nat → Value → Prop) (wr ub : List Nat) (Ws : Nat → World) : Nat → List Oper → Prop
 | _, [] => True
 | i, o :: l => (if wr.contains i then GoodS P mk a0 V i o (Ws (wr.idxOf i)) (Ws (wr.idxOf i + 1)) else ∀ k, k ≤ ub.getD i 0 → GoodS P mk a0 V i o (Ws k) (Ws k)) ∧ GoodCAll P mk a0 V wr ub Ws (i + 1) l
theorem GoodCAll.at {P : Program} {mk : Tmp → Option Nat} {a0 : Act} {V : Nat → Value → Prop} {wr ub : List Nat} {Ws : Nat → World} : ∀ {ops : List Oper} {s : Nat}, GoodCAll P mk a0 V wr ub Ws s ops → ∀ i o, ops[i]? = some o → (if wr.contains (s + i) then GoodS P mk a0 V (s + i) o (Ws (wr.idxOf (s + i))) (Ws (wr.idxOf (s + i) + 1)) else ∀ k, k ≤ ub.getD (s + i) 0 → GoodS P mk a0 V (s + i) o (Ws k) (Ws k))
 | [], _, _, i, o, ho => by simp at ho
 | _ :: _, s, h, 0, o, ho => by simp at ho; subst ho; exact h.1
 | _ :: l, s, h, i + 1, o, ho => by
  have := GoodCAll.at (ops := l) h.2 i o (by simpa using ho)
  rwa [show s + 1 + i = s + (i + 1) by omega] at this
theorem GoodCAll.nil {P : Program} {mk : Tmp → Option Nat} {a0 : Act} {V : Nat → Value → Prop} {wr ub : List Nat} {Ws : Nat → World} {i : Nat} : GoodCAll P mk a0 V wr ub Ws i [] := trivial
theorem GoodCAll.reads {P : Program} {mk : Tmp → Option Nat} {a0 : Act} {V : Nat → Value → Prop} {wr ub : List Nat} {Ws : Nat → World} {i : Nat} {o : Oper} {l : List Oper} (u : Nat) (hc : wr.contains i = false) (hu : ub.getD i 0 = u) (h : ∀ k, k ≤ u → GoodS P mk a0 V i o (Ws k) (Ws k)) (hl : GoodCAll P mk a0 V wr ub Ws (i + 1) l) : GoodCAll P mk a0 V wr ub Ws i (o :: l) :=
 ⟨by rw [if_neg (by rw [hc]; simp), hu]; exact h, hl⟩
theorem GoodCAll.writes {P : Program} {mk : Tmp → Option Nat} {a0 : Act} {V : Nat → Value → Prop} {wr ub : List Nat} {Ws : Nat → World} {i : Nat} {o : Oper} {l : List Oper} (k : Nat) (hc : wr.contains i = true) (hk : wr.idxOf i = k) (h : GoodS P mk a0 V i o (Ws k) (Ws (k + 1))) (hl : GoodCAll P mk a0 V wr ub Ws (i + 1) l) : GoodCAll P mk a0 V wr ub Ws i (o :: l) :=
 ⟨by rw [if_pos hc, hk]; exact h, hl⟩
/-- THE LAW. -/
theorem wp_region_chain {P : Program} {ops : List Oper} {a0 : Act} {Q : Exit → Act → World → Prop} {id : Nat} {w : World} (mk : Tmp → Option Nat) (n : Nat) (wr ub : List Nat) (Ws : Nat → World) (Vs : List (Value → Prop))
  (hlen : Vs.length = ops.length) (hm : P.follows .mixedOrders = true) (hsh : shapeB mk ops n = true) (hn : a0.tmps.size = n) (hch : chainB ops wr = true) (ho : onceB wr = true) (hub : boundB ops wr ub = true) (hW0 : Ws 0 = w.drew)
  (hG : GoodCAll P mk a0 (fun i => Vs.getD i fun _ => True) wr ub Ws 0 ops)
  (hQ : ∀ (vs : Nat → Value) (a' : Act), (∀ i, i < Vs.length → (Vs.getD i fun _ => True) (vs i)) → a' = putAll vs ops 0 a0 → Q .normal a' (Ws wr.length)) :
  (Code.region id ops.toArray true).wp P Q a0 w := by
 refine wp_region_any hm ?_
 have hidx : ∀ i, i < wr.length → wr.idxOf (wr.getD i 0) = i := fun i hi => by
  have := List.all_eq_true.1 ho i (List.mem_range.2 hi)
  simpa using this
 have hmem : ∀ i, i < wr.length → wr.contains (wr.getD i 0) = true := fun i hi => by
  rw [List.contains_iff_mem]; simp [List.getD_eq_getElem?_getD, hi]
 have h := chain_any (P := P) (ops := ops) (a0 := a0) (V := fun i => Vs.getD i fun _ => True) (Q := Q) (n := n) hsh hn wr Ws
  (fun i j hi hj e => by rw [← hidx i hi, e, hidx j hj])
  (fun j o hj hoj => by
   have := List.all_eq_true.1 hch (j + 1) (List.mem_range.2 hj)
   rw [hoj] at this
   simpa using this)
  (fun i o hio hne k hk hcm => by
   have := hG.at i o hio
   rw [Nat.zero_add, if_neg (by
    rw [List.contains_iff_mem]
    intro hm'
    obtain ⟨j, hj, e⟩ := List.getElem_of_mem hm'
    exact hne j hj (by simp [List.getD_eq_getElem?_getD, hj, e]))] at this
   refine this k ?_
   have hil : i < ops.length := by
    rcases Nat.lt_or_ge i ops.length with h' | h'
    ·
     exact h'
    ·
     simp [List.getElem?_eq_none h'] at hio
   have hb := List.all_eq_true.1 hub i (List.mem_range.2 hil)
   rcases Bool.or_eq_true _ _ ▸ hb with hb | hb
   ·
    have := of_decide_eq_true hb; omega
   ·
    cases hoj : ops[wr.getD (ub.getD i 0) 0]? with
    | none => rw [hoj] at hb; cases hb
    | some oj =>
     rw [hoj] at hb
     rcases Nat.lt_or_ge (ub.getD i 0) k with h | h
     ·
      have := hcm _ oj h hoj
      have hb2 : comesB ops oj i = true := hb
      rw [this] at hb2; cases hb2
     ·
      exact h)
  (fun k o hk hko => by
   have := hG.at _ o hko
   rw [Nat.zero_add, if_pos (hmem k hk), hidx k hk] at this
   exact this)
  (fun a w' l hI hl => by
   subst hl
   obtain ⟨hB, k, hk, rfl, hst⟩ := hI
   obtain ⟨vs, rfl, hv⟩ := hB.whole hsh hn
   have hkl : k = wr.length := by
    rcases Nat.lt_or_ge k wr.length with h | h
    ·
     exfalso
     have := hst k h
     rw [decide_eq_false (by omega)] at this
     have hlt : wr.getD k 0 < ops.length := by
      have h2 := List.all_eq_true.1 hch k (List.mem_range.2 h)
      rcases Nat.lt_or_ge (wr.getD k 0) ops.length with h' | h'
      ·
       exact h'
      ·
       rw [List.getElem?_eq_none h'] at h2; cases h2
     generalize wr.getD k 0 = q at *
     simp [hlt] at this
    ·
     omega
   subst hkl
   exact hQ vs _ (fun i hi => hv i (by omega)) rfl)
  ops.length (Array.replicate ops.length false) a0 w.drew (by simp) (by
   have := Array.countP_le_size (p := (· == false)) (xs := Array.replicate ops.length false)
   simpa using this) (fun j oj hoj hlj => by
    exfalso
    by_cases h : j < ops.length <;> simp [h] at hlj) ⟨⟨trivial, rfl, rfl, fun _ _ => rfl, fun i o hi hl => by
    exfalso
    by_cases h : i < ops.length <;> simp [h] at hl⟩, 0, Nat.zero_le _, hW0.symm, fun j hj => by
     rw [decide_eq_false (by omega)]
     generalize wr.getD j 0 = q
     by_cases h : q < ops.length <;> simp [h]⟩
 simpa using h
end Go.Proofs.Ytbahelhohkhkmaa
/- Bytes of the own: append onto them, copies; sizes, kinds, how many noughts. No condition of its own. -/
namespace Go.Proofs.Ytbahelhohkhkmaa
namespace Tlv
open Go Go.RowKit
set_option maxRecDepth 100000
theorem byteT : ByteT Try.prog 24 5 := ⟨Try.underlying24, Try.underlying5, by kernel_rfl, by kernel_rfl⟩
theorem numT8 : NumT Try.prog 24 5 .u8 1 := ⟨Try.underlying24, Try.underlying5, by kernel_rfl⟩
theorem one5 : OneT Try.prog 5 := ⟨⟨_, Try.underlying5, rfl⟩, by kernel_rfl⟩
theorem one3 : OneT Try.prog 3 := ⟨⟨_, Try.underlying3, rfl⟩, by kernel_rfl⟩
theorem one4 : OneT Try.prog 4 := ⟨⟨_, Try.underlying4, rfl⟩, by kernel_rfl⟩
theorem oneS : OneT Try.prog 24 := ⟨⟨_, Try.underlying24, rfl⟩, by kernel_rfl⟩
theorem nums_of_bytes {w : World} {v : Value} {l : List Nat} (h : BytesAt w v l) : NumsAt .u8 w v (ci l) := by
 obtain ⟨h1, h2, ⟨rfl, rfl⟩ | ⟨ad, cap, rfl, h4, h5, hc⟩⟩ := h
 ·
  exact NumsAt.nothing _ _
 ·
  refine ⟨by rw [ci_len]; exact h2, .inr ⟨ad, cap, by rw [ci_len], by rw [ci_len]; exact h4, h5, fun j hj => ?_⟩⟩
  rw [ci_len] at hj
  rw [hc j hj, ci_get]
theorem bytes_of_nums {w : World} {v : Value} {l : List Nat} (h : NumsAt .u8 w v (ci l)) (hl : AllB l) : BytesAt w v l := by
 obtain ⟨h2, h3⟩ := h
 rw [ci_len] at h2
 refine ⟨hl, h2, ?_⟩
 rcases h3 with ⟨h0, rfl⟩ | ⟨ad, cap, rfl, h4, h5, hc⟩
 ·
  have : l.length = 0 := by rw [← ci_len l, h0]; rfl
  exact .inl ⟨List.eq_nil_of_length_eq_zero this, rfl⟩
 ·
  rw [ci_len] at h4
  refine .inr ⟨ad, cap, by rw [ci_len], h4, h5, fun j hj => ?_⟩
  rw [hc j (by rw [ci_len]; exact hj), ci_get]
/-- Bytes in a block of the own, from block 'base' on, or none. -/
structure OB (w : World) (base : Nat) (v : Value) (l : List Nat) : Prop where
 own : OwnN .u8 w base 5 v (ci l)
 all : AllB l
theorem OB.bytes {w : World} {base : Nat} {v : Value} {l : List Nat} (h : OB w base v l) : BytesAt w v l := bytes_of_nums h.own.nums h.all
theorem OB.nil (w : World) (base : Nat) : OB w base (.slice none 0 0) [] := ⟨OwnN.nil _ _ _ _, fun x hx => by cases hx⟩
theorem OB.ext {w w' : World} {base : Nat} {v : Value} {l : List Nat} (h : OB w base v l) (he : Ext w w') : OB w' base v l := ⟨h.own.ext he, h.all⟩
theorem OB.but {S : Nat → Prop} {w w' : World} {base : Nat} {v : Value} {l : List Nat} (h : OB w base v l) (hk : KeepBut S w w') (hn : ∀ g, v.ownBlock = some g → ¬ S g) : OB w' base v l := ⟨h.own.mono_via hk hn, h.all⟩
theorem OB.base {w : World} {base base' : Nat} {v : Value} {l : List Nat} (h : OB w base v l) (hb : base' ≤ base) : OB w base' v l := ⟨h.own.base hb, h.all⟩
theorem OB.lt {w : World} {base : Nat} {v : Value} {l : List Nat} (h : OB w base v l) {g : Nat} (hg : v.ownBlock = some g) : base ≤ g ∧ g < w.heap.size := h.own.lt hg
theorem OB.form {w : World} {base : Nat} {v : Value} {l : List Nat} (h : OB w base v l) : ∃ a cap, v = .slice a l.length cap := by
 obtain ⟨a, cap, e, _⟩ := h.own.slice
 rw [ci_len] at e
 exact ⟨a, cap, e⟩
theorem OB.lit0 (w : World) (base b : Nat) (hb : b = w.heap.size) (hbase : base ≤ w.heap.size) : OB (w.alloc (.cells #[] 5)) base (.slice (some ⟨b, 0, none⟩) 0 0) [] := ⟨OwnN.lit0 .u8 w base 5 b hb hbase, fun x hx => by cases hx⟩
/-- A block of another kind is no block of bytes of the own. -/
theorem OB.ne {w : World} {base g t : Nat} {C : Array Value} {v : Value} {l : List Nat} (h : OB w base v l) (hb : Blk w g C t) (ht : t ≠ 5) : ∀ k, v.ownBlock = some k → k ≠ g := by
 rintro k hk rfl
 rcases h.own.1.2 with ⟨rfl, _⟩ | ⟨g', cap, cur, rfl, _, hg, _⟩
 ·
  cases hk
 ·
  cases hk
  unfold Blk at hb
  rw [hb] at hg
  simp only [Option.some.injEq, Obj.cells.injEq, and_true] at hg
  exact ht hg.2
/-- append onto bytes of the own, of whatever reads as bytes. -/
theorem run_appB (w : World) (base ty : Nat) (v x : Value) (l m : List Nat) (hv : OB w base v l) (hx : BytesAt w x m) (hlen : l.length + m.length ≤ 1000000) (hbase : base ≤ w.heap.size) :
  ∃ ad cap w', (Builtin.append_ #[24, 24] ty #[v, x]).run Try.prog w = .ok (.slice ad (l ++ m).length cap) w' ∧ OB w' base (.slice ad (l ++ m).length cap) (l ++ m) ∧ KeepBut (fun k => v.ownBlock = some k) w w' ∧ ∀ g, (Value.slice ad (l ++ m).length cap).ownBlock = some g → v.ownBlock = some g ∨ g = w.heap.size := by
 obtain ⟨v', w', hr, h1, h2, h3⟩ := run_append_nums numT8 w base ty v x (ci l) (ci m) hv.own (nums_of_bytes hx) (by rw [ci_len, ci_len]; omega) (by rw [ci_len, ci_len]; omega) hbase
 rw [← ci_app] at h1
 have hb : OB w' base v' (l ++ m) := ⟨h1, hv.all.app hx.1⟩
 obtain ⟨ad, cap, rfl⟩ := hb.form
 refine ⟨ad, cap, w', hr, hb, KeepBut.grown h2 (fun r e => e), fun g hg => ?_⟩
 rcases h3 with h3 | h3
 ·
  exact .inl (by rw [← h3]; exact hg)
 ·
  rw [h3] at hg; cases hg; exact .inr rfl
theorem exec_appB {r : Operand → Value} {o : Oper} {s x : Operand} (ho : o.op = .call { callee := .builtin .append, args := #[s, x], argTypes := #[24, 24] }) {w : World} {base : Nat} {v u : Value} {l m : List Nat} (hs : r s = v) (hxx : r x = u) (hv : OB w base v l) (hx : BytesAt w u m) (hlen : l.length + m.length ≤ 1000000) (hbase : base ≤ w.heap.size) :
  ∃ ad cap w', (execOp r o).run Try.prog w = .ok (.value (.slice ad (l ++ m).length cap)) w' ∧ OB w' base (.slice ad (l ++ m).length cap) (l ++ m) ∧ KeepBut (fun k => v.ownBlock = some k) w w' ∧ ∀ g, (Value.slice ad (l ++ m).length cap).ownBlock = some g → v.ownBlock = some g ∨ g = w.heap.size := by
 obtain ⟨ad, cap, w', hr, h1, h2, h3⟩ := run_appB w base o.type v u l m hv hx hlen hbase
 refine ⟨ad, cap, w', ?_, h1, h2, h3⟩
 simp only [execOp, ho, resolve, invoke, builtin, Sem.run_bind, Sem.run_pure, Result.andThen_ok, List.map_toArray, List.map_cons, List.map_nil, hs, hxx, hr]
theorem wl_app {w : World} {ops : Array Oper} {rest : List Oper} {o : Oper} {a : Act} {Q : Exit → Act → World → Prop} (hgd : o.guard = none) {s x : Operand} (ho : o.op = .call { callee := .builtin .append, args := #[s, x], argTypes := #[24, 24] })
  {base : Nat} {v u : Value} {l m : List Nat} (hs : a.eval s = v) (hxx : a.eval x = u) (hv : OB w base v l) (hx : BytesAt w u m) (hlen : l.length + m.length ≤ 1000000) (hbase : base ≤ w.heap.size)
  (h : ∀ ad n cap w', Hid (n = (l ++ m).length) → OB w' base (.slice ad n cap) (l ++ m) → KeepBut (fun k => v.ownBlock = some k) w w' → (∀ g, (Value.slice ad n cap).ownBlock = some g → v.ownBlock = some g ∨ g = w.heap.size) → wpList Try.prog ops Q rest (a.put o.dst (.slice ad n cap)) w') : wpList Try.prog ops Q (o :: rest) a w := by
 obtain ⟨ad, cap, w', hr, h1, h2, h3⟩ := exec_appB (r := a.eval) ho hs hxx hv hx hlen hbase
 exact wpList_of_run hgd hr (h ad _ cap w' rfl h1 h2 h3)
theorem keep_new {S : Nat → Prop} {w w1 w2 : World} {g : Nat} (h : KeepBut S w w1) (k : KeepBut (· = g) w1 w2) (hg : w.heap.size ≤ g) : KeepBut S w w2 :=
 ⟨k.os.trans h.os, k.tape.trans h.tape, k.output.trans h.output, Nat.le_trans h.size k.size, fun j hj hn => (k.block j (Nat.lt_of_lt_of_le hj h.size) (fun e => by subst e; omega)).trans (h.block j hj hn)⟩
theorem keep_none {w w' : World} (h : KeepBut (fun k => (Value.slice none 0 0).ownBlock = some k) w w') : Ext w w' := ⟨h.os, h.tape, h.output, h.size, fun k hk => h.block k hk (fun e => by cases e)⟩
set_option maxHeartbeats 1000000 in
theorem copied_any {w : World} {v : Value} {l : List Nat} (hv : BytesAt w v l) (hl : l.length ≤ 1000000) :
  Calls Try.prog 68 #[v] w fun e w' => ∃ a n c, e = .returned (.slice a n c) ∧ n = l.length ∧ OB w' w.heap.size (.slice a n c) l ∧ Ext w w' := by
 have HV : Hid (BytesAt w v l ∧ l.length ≤ 1000000) := ⟨hv, hl⟩
 clear hv hl
 go_enter Try.func68, Try.ntmps68
 go_wp2_with (first
  | (at_builtin; refine wl_app rfl rfl rfl rfl (OB.nil _ w.heap.size) HV.out.1 (by have := HV.out.2; simp; omega) (Nat.le_refl _) ?_; intro ad n cap w1 hn1 ho1 hk1 hg1; rw [List.nil_append] at ho1))
 go_ret
 exact ⟨_, _, _, rfl, by rw [hn1.out, List.nil_append], ho1, keep_none hk1⟩
set_option maxHeartbeats 1000000 in
theorem isSize_any (n : Int) (w : World) : Calls Try.prog 66 #[.int .i64 n] w fun e w' => e = .returned (.bool (isSz n)) ∧ w' = w := by
 go_enter Try.func66, Try.ntmps66
 by_cases h1 : n = 1
 ·
  subst h1
  go_wp2
  go_ret
  exact ⟨rfl, rfl⟩
 ·
  by_cases h2 : n = 2
  ·
   subst h2
   go_wp2
   go_ret
   exact ⟨rfl, rfl⟩
  ·
   by_cases h4 : n = 4
   ·
    subst h4
    go_wp2
    go_ret
    exact ⟨rfl, rfl⟩
   ·
    have d1 : (n == 1) = false := by simpa using h1
    have d2 : (n == 2) = false := by simpa using h2
    have d4 : (n == 4) = false := by simpa using h4
    have e1 : decide (n = 1) = false := decide_eq_false h1
    have e2 : decide (n = 2) = false := decide_eq_false h2
    have e4 : decide (n = 4) = false := decide_eq_false h4
    go_wp2
    go_ret
    exact ⟨by unfold isSz; rw [d1, d2, d4]; simp, rfl⟩
def isKd (n : Int) : Bool := decide (0 ≤ n) && decide (n ≤ 65535)
set_option maxHeartbeats 1000000 in
theorem isKind_any (n : Int) (w : World) : Calls Try.prog 97 #[.int .i64 n] w fun e w' => e = .returned (.bool (isKd n)) ∧ w' = w := by
 go_enter Try.func97, Try.ntmps97
 by_cases h1 : 0 ≤ n
 ·
  have d1 : decide (n ≥ 0) = true := decide_eq_true h1
  go_wp2
  go_ret
  exact ⟨by unfold isKd; simp [h1], rfl⟩
 ·
  have d1 : decide (n ≥ 0) = false := decide_eq_false h1
  go_wp2
  go_ret
  exact ⟨by unfold isKd; rw [decide_eq_false (by omega : ¬ 0 ≤ n)]; rfl, rfl⟩
set_option maxHeartbeats 1000000 in
theorem padding_any (n : Nat) (hn : n ≤ 1000000) (w : World) : Calls Try.prog 67 #[.int .i64 (n : Int)] w fun e w' => e = .returned (.int .i64 (pads n : Int)) ∧ w' = w := by
 go_enter Try.func67, Try.ntmps67
 go_wp2
 go_ret
 exact ⟨ret_int (by unfold pads; omega), rfl⟩
set_option maxRecDepth 100000
abbrev ptr (g : Nat) : Value := .pointer (some ⟨g, 0, none⟩)
/-- An Out in memory: its block, its bytes' slice, its bytes. -/
structure OutAt (w : World) (base g : Nat) (v : Value) (l : List Nat) : Prop where
 blk : Blk w g #[v] 74
 own : OB w base v l
/-- What a call on an Out changes: its block, the block of its bytes; where these lie then. -/
structure Moved (w w' : World) (g : Nat) (v v' : Value) : Prop where
 keep : KeepBut (fun k => k = g ∨ v.ownBlock = some k) w w'
 came : ∀ k, v'.ownBlock = some k → v.ownBlock = some k ∨ w.heap.size ≤ k
theorem Moved.refl (w : World) (g : Nat) (v : Value) : Moved w w g v v := ⟨KeepBut.refl _ _, fun k h => .inl h⟩
theorem Moved.trans {a b c : World} {g : Nat} {u v x : Value} (h : Moved a b g u v) (k : Moved b c g v x) : Moved a c g u x := by
 refine ⟨⟨k.keep.os.trans h.keep.os, k.keep.tape.trans h.keep.tape, k.keep.output.trans h.keep.output, Nat.le_trans h.keep.size k.keep.size, fun i hi hn => ?_⟩, fun i hi => ?_⟩
 ·
  refine (k.keep.block i (Nat.lt_of_lt_of_le hi h.keep.size) ?_).trans (h.keep.block i hi hn)
  rintro (rfl | e)
  ·
   exact hn (.inl rfl)
  ·
   rcases h.came i e with e | e
   ·
    exact hn (.inr e)
   ·
    omega
 ·
  rcases k.came i hi with e | e
  ·
   exact h.came i e
  ·
   exact .inr (Nat.le_trans h.keep.size e)
theorem Moved.ext {a b : World} (h : Ext a b) (g : Nat) (v : Value) : Moved a b g v v := ⟨KeepBut.ext h, fun k e => .inl e⟩
theorem OutAt.ne {w : World} {base g : Nat} {v : Value} {l : List Nat} (h : OutAt w base g v l) : ∀ k, v.ownBlock = some k → k ≠ g := h.own.ne h.blk (by decide)
theorem OutAt.ext {w w' : World} {base g : Nat} {v : Value} {l : List Nat} (h : OutAt w base g v l) (he : Ext w w') : OutAt w' base g v l := ⟨h.blk.ext he, h.own.ext he⟩
theorem OutAt.but {S : Nat → Prop} {w w' : World} {base g : Nat} {v : Value} {l : List Nat} (h : OutAt w base g v l) (hk : KeepBut S w w') (hg : ¬ S g) (hn : ∀ k, v.ownBlock = some k → ¬ S k) : OutAt w' base g v l := ⟨h.blk.but hk hg, h.own.but hk hn⟩
theorem OutAt.len {w : World} {base g : Nat} {v : Value} {l : List Nat} (h : OutAt w base g v l) : ∃ a c, v = .slice a l.length c := h.own.form
/-- Bytes appended to an Out's bytes and stored there. -/
theorem OutAt.put {w w' w'' : World} {base g : Nat} {v v' : Value} {l m : List Nat} (h : OutAt w base g v l) (ho : OB w' base v' m) (hk : KeepBut (fun k => v.ownBlock = some k) w w') (hg : ∀ k, v'.ownBlock = some k → v.ownBlock = some k ∨ k = w.heap.size) (hb : Blk w'' g #[v'] 74) (hs : KeepBut (· = g) w' w'') : OutAt w'' base g v' m ∧ Moved w w'' g v v' := by
 have hgl := h.blk.lt
 refine ⟨⟨hb, ho.but hs (fun k e => ?_)⟩, ⟨⟨hs.os.trans hk.os, hs.tape.trans hk.tape, hs.output.trans hk.output, Nat.le_trans hk.size hs.size, fun i hi hn => ?_⟩, fun k e => (hg k e).imp id (fun e => Nat.le_of_eq e.symm)⟩⟩
 ·
  rcases hg k e with e1 | e1
  ·
   exact h.ne k e1
  ·
   subst e1; exact (Nat.ne_of_lt hgl).symm
 ·
  exact (hs.block i (Nat.lt_of_lt_of_le hi hk.size) (fun e => hn (.inl e))).trans (hk.block i hi (fun e => hn (.inr e)))
set_option maxHeartbeats 2000000 in
theorem outPut_any {w : World} {base g : Nat} {v x : Value} {l m : List Nat} (h : OutAt w base g v l) (hx : BytesAt w x m) (hl : l.length + m.length ≤ 1000000) (hbase : base ≤ w.heap.size) :
  Calls Try.prog 29 #[ptr g, x] w fun e w' => (∃ y, e = .returned y) ∧ ∃ v', OutAt w' base g v' (l ++ m) ∧ Moved w w' g v v' := by
 have H : Hid (OutAt w base g v l ∧ BytesAt w x m ∧ l.length + m.length ≤ 1000000 ∧ base ≤ w.heap.size) := ⟨h, hx, hl, hbase⟩
 have hc : w.cell? ⟨g, 0, none⟩ = some v := h.blk.cell 0
 clear h hx hl hbase
 go_enter Try.func29, Try.ntmps29
 go_wp2_with (first
  | (at_builtin; refine wl_app (v := v) (u := x) rfl rfl rfl rfl H.out.1.own H.out.2.1 H.out.2.2.1 H.out.2.2.2 ?_; intro ad n cap w1 hn1 ho1 hk1 hg1)
  | (refine wl_set (v := .slice ad n cap) rfl oneS rfl rfl rfl rfl rfl (H.out.1.blk.but hk1 (fun e => H.out.1.ne _ e rfl)) (by simp) ?_; intro w2 hb2 hk2 hx; clear hx))
 go_end0
 have hp := H.out.1.put ho1 hk1 hg1 hb2 hk2
 exact ⟨⟨_, rfl⟩, _, hp.1, hp.2⟩
theorem exec_run {r : Operand → Value} {o : Oper} {s x : Operand} (ho : o.op = .call { callee := .builtin .append, args := #[s, x], argTypes := #[24, 24] }) {w w' : World} {v u z : Value} (hs : r s = v) (hx : r x = u) (hr : (Builtin.append_ #[24, 24] o.type #[v, u]).run Try.prog w = .ok z w') : (execOp r o).run Try.prog w = .ok (.value z) w' := by
 simp only [execOp, ho, resolve, invoke, builtin, Sem.run_bind, Sem.run_pure, Result.andThen_ok, List.map_toArray, List.map_cons, List.map_nil, hs, hx, hr]
set_option maxRecDepth 100000
/-- Four worlds. -/
def ws4 (a b c d : World) : Nat → World
 | 0 => a
 | 1 => b
 | 2 => c
 | _ => d
/-- The bytes of a number that are put till k are left. -/
def dn (n S k : Nat) : List Nat := (be n S).take (S - k)
theorem be_get (n : Nat) : ∀ S i, i < S → (be n S).getD i 0 = n / 256 ^ (S - 1 - i) % 256
 | 0, i, h => by omega
 | S + 1, 0, _ => by rw [be, List.getD_cons_zero]; rfl
 | S + 1, i + 1, h => by
  rw [be, List.getD_cons_succ, be_get n S i (by omega)]
  congr 3; omega
theorem dn_start (n S : Nat) : dn n S S = [] := by simp [dn]
theorem dn_end (n S : Nat) : dn n S 0 = be n S := by unfold dn; rw [List.take_of_length_le (by rw [be_len]; omega)]
theorem dn_succ (n S j : Nat) (h : j < S) : dn n S j = dn n S (j + 1) ++ [n / 256 ^ j % 256] := by
 unfold dn
 rw [show S - j = (S - (j + 1)) + 1 by omega, take_next _ 0 _ (by rw [be_len]; omega), be_get n S _ (by omega)]
 congr 5; omega
theorem dn_len (n S k : Nat) : (dn n S k).length ≤ S := by unfold dn; rw [List.length_take, be_len]; omega
theorem pow_bytes (j : Nat) : (256 : Nat) ^ j = 2 ^ (8 * j) := by rw [Nat.pow_mul]
set_option maxHeartbeats 4000000 in
theorem outNum_loop {w : World} {base g : Nat} {v : Value} {l : List Nat} (h : OutAt w base g v l) (N S : Nat) (hS : S ≤ 8) (hsz : isSz (S : Int) = true) (hl : l.length ≤ 900000) (hbase : base ≤ w.heap.size) :
  Calls Try.prog 27 #[ptr g, .int .u64 (N : Int), .int .i64 (S : Int)] w fun e w' => (∃ y, e = .returned y) ∧ ∃ v', OutAt w' base g v' (l ++ be N S) ∧ Moved w w' g v v' := by
 have H : Hid (OutAt w base g v l ∧ l.length ≤ 900000 ∧ base ≤ w.heap.size ∧ S ≤ 8 ∧ g < w.heap.size) := ⟨h, hl, hbase, hS, h.blk.lt⟩
 have hS1 : 1 ≤ S := by rcases (isSz_iff _).1 hsz with e | e | e | e <;> omega
 have hw1 : IntKind.i64.wrap ((S : Int) - 1) = (S : Int) - 1 := by rw [IntKind.wrap_i64]; omega
 clear h hl hbase
 go_enter Try.func27, Try.ntmps27
 go_wp2_with (first
  | (go_at_call 66; refine (isSize_any _ _).mono ?_; rintro e w1 ⟨rfl, hw⟩; subst w1; rw [hsz]))
 go_loopg [6] S (fun gm s wr => ∃ (k : Nat) (v1 : Value), k ≤ S ∧ gm = k ∧ s = .int .i64 ((k : Int) - 1) ∧ Hid (OutAt wr base g v1 (l ++ dn N S k) ∧ Moved w wr g v v1))
 case atStart => exact ⟨S, v, Nat.le_refl _, rfl, by first | rfl | simp [hw1], by rw [dn_start, List.append_nil]; exact H.out.1, Moved.refl _ _ _⟩
 case round =>
  obtain ⟨k, v1, hk, hgk, rfl, HR⟩ := hrel
  subst gk
  cases k with
  | zero =>
   have hd : decide ((((0 : Nat) : Int) - 1) ≥ 0) = false := rfl
   go_wp2
   go_end0
   refine ⟨⟨_, rfl⟩, v1, ?_, HR.out.2⟩
   have := HR.out.1
   rwa [dn_end] at this
  | succ j =>
   have hj1 : ((j + 1 : Nat) : Int) - 1 = (j : Int) := by omega
   rw [hj1]
   have hd : decide ((j : Int) ≥ 0) = true := decide_eq_true (by omega)
   go_wp2_with fail
   have HJ : Hid (j < S ∧ S ≤ 8) := ⟨by omega, hS⟩
   obtain ⟨q, hq⟩ : ∃ q, q = 8 * j := ⟨_, rfl⟩
   obtain ⟨y, hy⟩ : ∃ y, y = N / 256 ^ j := ⟨_, rfl⟩
   obtain ⟨b, hb⟩ : ∃ b, b = y % 256 := ⟨_, rfl⟩
   have m8 : (8 : Int) * (j : Int) = (q : Int) := by omega
   have wq : IntKind.i64.wrap (q : Int) = (q : Int) := by rw [IntKind.wrap_i64]; omega
   have hq64 : (q : Int) ≤ 64 := by omega
   have my : (N : Int) / 2 ^ q = (y : Int) := by rw [hy, pow_bytes, ← hq]; simp
   have mb : (y : Int) % 256 = (b : Int) := by omega
   have mw : IntKind.u8.wrap (y : Int) = (b : Int) := by rw [IntKind.wrap_u8]; exact mb
   have HD : Hid (dn N S j = dn N S (j + 1) ++ [b]) := show _ = _ by rw [hb, hy]; exact dn_succ N S j HJ.out.1
   have hb8 : b < 256 := by omega
   obtain ⟨W0, hW0⟩ : ∃ W0, W0 = wr.drew := ⟨_, rfl⟩
   have HO0 : OutAt W0 base g v1 (l ++ dn N S (j + 1)) := by rw [hW0]; exact HR.out.1.ext (Ext.drew _)
   have hM0 : Moved w W0 g v v1 := by rw [hW0]; exact HR.out.2.trans (Moved.ext (Ext.drew _) _ _)
   obtain ⟨W1, hW1⟩ : ∃ W1, W0.alloc (.cells #[.int .u8 (b : Int)] 5) = W1 := ⟨_, rfl⟩
   have hE1 : Ext W0 W1 := by rw [← hW1]; exact Ext.alloc _ _
   have hN1 : BytesAt W1 (.slice (some ⟨W0.heap.size, 0, none⟩) 1 1) [b] := by
    rw [← hW1]
    exact bytes_of_nums (NumsAt.one W0 (b : Int) 5 _ rfl) (fun x hx => by simp at hx; omega)
   obtain ⟨ad, cap, W2, hrun1, ho2, hk2, hg2⟩ := run_appB W1 base 24 v1 (.slice (some ⟨W0.heap.size, 0, none⟩) 1 1) (l ++ dn N S (j + 1)) [b] (HO0.own.ext hE1) hN1 (by have := H.out; have := dn_len N S (j + 1); simp; omega) (Nat.le_trans H.out.2.2.1 (Nat.le_trans hM0.keep.size hE1.size))
   obtain ⟨nn, hnn⟩ : ∃ nn, nn = ((l ++ dn N S (j + 1)) ++ [b]).length := ⟨_, rfl⟩
   rw [← hnn] at hrun1 ho2 hg2
   have hB2 : Blk W2 g #[v1] 74 := (HO0.blk.ext hE1).but hk2 (fun e => HO0.ne _ e rfl)
   have hc0 : W0.cell? ⟨g, 0, none⟩ = some v1 := HO0.blk.cell 0
   have hc1 : W1.cell? ⟨g, 0, none⟩ = some v1 := (HO0.blk.ext hE1).cell 0
   obtain ⟨W3, hW3⟩ : ∃ W3, W2.setCell ⟨g, 0, none⟩ (.slice ad nn cap) = W3 := ⟨_, rfl⟩
   have hs0 : ws4 W0 W1 W2 W3 0 = wr.drew := hW0
   refine wp_region_chain (fun t => bif Nat.ble 20 t && Nat.ble t 33 then some (t - 20) else none) 34 [10, 11, 14] [3, 3, 3, 3, 1, 3, 3, 3, 3, 3, 3, 3, 3, 3, 3] (ws4 W0 W1 W2 W3)
    [(fun v => v = (.pointer (some ⟨g, 0, none⟩))),
     (fun v => v = (.pointer (some ⟨g, 0, none⟩))),
     (fun v => v = (.pointer (some ⟨g, 0, none⟩))),
     (fun v => v = (.pointer (some ⟨g, 0, none⟩))),
     (fun v => v = v1),
     (fun v => v = (.int .u64 (N : Int))),
     (fun v => v = (.int .i64 (j : Int))),
     (fun v => v = (.int .i64 (q : Int))),
     (fun v => v = (.int .u64 (y : Int))),
     (fun v => v = (.int .u8 (b : Int))),
     (fun v => v = (.slice (some ⟨W0.heap.size, 0, none⟩) 1 1)),
     (fun v => v = (.slice ad nn cap)),
     (fun v => v = (.pointer (some ⟨g, 0, none⟩))),
     (fun v => v = (.pointer (some ⟨g, 0, none⟩))),
     (fun v => v = undef)]
    rfl (by kernel_rfl) (by kernel_rfl) rfl (by kernel_rfl) (by kernel_rfl) (by kernel_rfl) hs0 ?_ ?_
   ·
    refine GoodCAll.reads 3 rfl rfl (fun k hk => ?_) ?_
    ·
     intro r hx
     obtain ⟨h1, _⟩ := hx
     replace h1 : r (.tmp 0) = (.pointer (some ⟨g, 0, none⟩)) := h1
     exact give_move (.inl rfl) ⟨rfl, h1⟩
    refine GoodCAll.reads 3 rfl rfl (fun k hk => ?_) ?_
    ·
     intro r hx
     obtain ⟨h1, _⟩ := hx
     replace h1 : r (.tmp 0) = (.pointer (some ⟨g, 0, none⟩)) := h1
     exact give_move (.inl rfl) ⟨rfl, h1⟩
    refine GoodCAll.reads 3 rfl rfl (fun k hk => ?_) ?_
    ·
     intro r hx
     obtain ⟨h1, _⟩ := hx
     replace h1 : r (.tmp 21) = (.pointer (some ⟨g, 0, none⟩)) := h1
     exact gvo (by simp [execOp, h1, go_sem]) ⟨rfl, rfl⟩
    refine GoodCAll.reads 3 rfl rfl (fun k hk => ?_) ?_
    ·
     intro r hx
     obtain ⟨h1, _⟩ := hx
     replace h1 : r (.tmp 22) = (.pointer (some ⟨g, 0, none⟩)) := h1
     exact gvo (by simp [execOp, h1, go_sem]) ⟨rfl, rfl⟩
    refine GoodCAll.reads 1 rfl rfl (fun k hk => ?_) ?_
    ·
     intro r hx
     obtain ⟨h1, _⟩ := hx
     replace h1 : r (.tmp 23) = (.pointer (some ⟨g, 0, none⟩)) := h1
     have hk2 : k = 0 ∨ k = 1 := by omega
     rcases hk2 with rfl | rfl
     ·
      exact gvo (exg oneS rfl h1 hc0) ⟨rfl, rfl⟩
     ·
      exact gvo (exg oneS rfl h1 hc1) ⟨rfl, rfl⟩
    refine GoodCAll.reads 3 rfl rfl (fun k hk => ?_) ?_
    ·
     intro r hx
     obtain ⟨h1, _⟩ := hx
     replace h1 : r (.tmp 1) = (.int .u64 (N : Int)) := h1
     exact give_move (.inl rfl) ⟨rfl, h1⟩
    refine GoodCAll.reads 3 rfl rfl (fun k hk => ?_) ?_
    ·
     intro r hx
     obtain ⟨h1, _⟩ := hx
     replace h1 : r (.tmp 6) = (.int .i64 (j : Int)) := h1
     exact give_move (.inl rfl) ⟨rfl, h1⟩
    refine GoodCAll.reads 3 rfl rfl (fun k hk => ?_) ?_
    ·
     intro r hx
     obtain ⟨h1, h2, _⟩ := hx
     replace h1 : r (.const (.int .i64 8)) = .int .i64 8 := h1
     replace h2 : r (.tmp 26) = (.int .i64 (j : Int)) := h2
     exact gvo (by simp [execOp, h1, h2, m8, wq, go_sem]) ⟨rfl, rfl⟩
    refine GoodCAll.reads 3 rfl rfl (fun k hk => ?_) ?_
    ·
     intro r hx
     obtain ⟨h1, h2, _⟩ := hx
     replace h1 : r (.tmp 25) = (.int .u64 (N : Int)) := h1
     replace h2 : r (.tmp 27) = (.int .i64 (q : Int)) := h2
     exact gvo (by simp [execOp, h1, h2, hq64, my, go_sem]) ⟨rfl, rfl⟩
    refine GoodCAll.reads 3 rfl rfl (fun k hk => ?_) ?_
    ·
     intro r hx
     obtain ⟨h1, _⟩ := hx
     replace h1 : r (.tmp 28) = (.int .u64 (y : Int)) := h1
     exact gvo (by simp [execOp, h1, mb, mw, go_sem]) ⟨rfl, rfl⟩
    refine GoodCAll.writes 0 rfl rfl ?_ ?_
    ·
     intro r hx
     obtain ⟨h1, _⟩ := hx
     replace h1 : r (.tmp 29) = (.int .u8 (b : Int)) := h1
     exact gvo (by simp [execOp, h1, go_sem]; exact ⟨rfl, rfl⟩) ⟨hW1, rfl⟩
    refine GoodCAll.writes 1 rfl rfl ?_ ?_
    ·
     intro r hx
     obtain ⟨h1, h2, _⟩ := hx
     replace h1 : r (.tmp 24) = v1 := h1
     replace h2 : r (.tmp 30) = (.slice (some ⟨W0.heap.size, 0, none⟩) 1 1) := h2
     exact gvo (exec_run rfl h1 h2 hrun1) ⟨rfl, rfl⟩
    refine GoodCAll.reads 3 rfl rfl (fun k hk => ?_) ?_
    ·
     intro r hx
     obtain ⟨h1, _⟩ := hx
     replace h1 : r (.tmp 20) = (.pointer (some ⟨g, 0, none⟩)) := h1
     exact gvo (by simp [execOp, h1, go_sem]) ⟨rfl, rfl⟩
    refine GoodCAll.reads 3 rfl rfl (fun k hk => ?_) ?_
    ·
     intro r hx
     obtain ⟨h1, _⟩ := hx
     replace h1 : r (.tmp 32) = (.pointer (some ⟨g, 0, none⟩)) := h1
     exact gvo (by simp [execOp, h1, go_sem]) ⟨rfl, rfl⟩
    refine GoodCAll.writes 2 rfl rfl ?_ ?_
    ·
     intro r hx
     obtain ⟨h1, h2, _⟩ := hx
     replace h1 : r (.tmp 33) = (.pointer (some ⟨g, 0, none⟩)) := h1
     replace h2 : r (.tmp 31) = (.slice ad nn cap) := h2
     exact give_skip (exec_set oneS rfl h1 h2 rfl rfl hB2 (by simp)) ⟨hW3, rfl⟩
    exact GoodCAll.nil
   ·
    intro vs a' hold ha'
    have hv0 : vs 0 = (.pointer (some ⟨g, 0, none⟩)) := hold 0 (by simp)
    have hv1 : vs 1 = (.pointer (some ⟨g, 0, none⟩)) := hold 1 (by simp)
    have hv2 : vs 2 = (.pointer (some ⟨g, 0, none⟩)) := hold 2 (by simp)
    have hv3 : vs 3 = (.pointer (some ⟨g, 0, none⟩)) := hold 3 (by simp)
    have hv4 : vs 4 = v1 := hold 4 (by simp)
    have hv5 : vs 5 = (.int .u64 (N : Int)) := hold 5 (by simp)
    have hv6 : vs 6 = (.int .i64 (j : Int)) := hold 6 (by simp)
    have hv7 : vs 7 = (.int .i64 (q : Int)) := hold 7 (by simp)
    have hv8 : vs 8 = (.int .u64 (y : Int)) := hold 8 (by simp)
    have hv9 : vs 9 = (.int .u8 (b : Int)) := hold 9 (by simp)
    have hv10 : vs 10 = (.slice (some ⟨W0.heap.size, 0, none⟩) 1 1) := hold 10 (by simp)
    have hv11 : vs 11 = (.slice ad nn cap) := hold 11 (by simp)
    have hv12 : vs 12 = (.pointer (some ⟨g, 0, none⟩)) := hold 12 (by simp)
    have hv13 : vs 13 = (.pointer (some ⟨g, 0, none⟩)) := hold 13 (by simp)
    simp only [putAll, Act.put, hv0, hv1, hv2, hv3, hv4, hv5, hv6, hv7, hv8, hv9, hv10, hv11, hv12, hv13, List.setIfInBounds_toArray, List.set_cons_succ, List.set_cons_zero] at ha'
    subst ha'
    clear hold hv0 hv1 hv2 hv3 hv4 hv5 hv6 hv7 hv8 hv9 hv10 hv11 hv12 hv13
    have hst : Blk W3 g #[.slice ad nn cap] 74 := by rw [← hW3]; exact hB2.set 0 _
    have hp := (HO0.ext hE1).put ho2 hk2 hg2 hst (by rw [← hW3]; exact ⟨rfl, rfl, rfl, by simp, fun k _ hk => block_other hk 0 _⟩)
    have HP : Hid (OutAt W3 base g (.slice ad nn cap) (l ++ dn N S j) ∧ Moved w W3 g v (.slice ad nn cap)) := ⟨by rw [HD.out, ← List.append_assoc]; exact hp.1, hM0.trans ((Moved.ext hE1 _ _).trans hp.2)⟩
    have hw2 : IntKind.i64.wrap ((j : Int) - 1) = (j : Int) - 1 := by rw [IntKind.wrap_i64]; omega
    rw [show ws4 W0 W1 W2 W3 [10, 11, 14].length = W3 from rfl]
    clear hp hst hs0 hc0 hc1 hB2 hnn hrun1 ho2 hg2 hk2 hN1 hE1 hW1 hM0 HO0 hW0 hb8 mw mb my hq64 wq m8 hb hy hq hW3
    go_wp2
    go_roundg j
    case measure => omega
    case rel => exact ⟨j, _, by omega, rfl, by first | rfl | simp [hw2], HP.out.1, HP.out.2⟩
set_option maxRecDepth 100000
set_option maxHeartbeats 1000000 in
theorem outNum_any {w : World} {base g : Nat} {v : Value} {l : List Nat} (h : OutAt w base g v l) (N : Nat) (n : Int) (hl : l.length ≤ 900000) (hbase : base ≤ w.heap.size) :
  Calls Try.prog 27 #[ptr g, .int .u64 (N : Int), .int .i64 n] w fun e w' => (∃ y, e = .returned y) ∧ ∃ v', OutAt w' base g v' (l ++ numB N n) ∧ Moved w w' g v v' := by
 cases hs : isSz n with
 | true =>
  obtain ⟨S, rfl, hS⟩ : ∃ S : Nat, n = (S : Int) ∧ S ≤ 8 := by
   rcases (isSz_iff n).1 hs with rfl | rfl | rfl | rfl
   ·
    exact ⟨1, rfl, by decide⟩
   ·
    exact ⟨2, rfl, by decide⟩
   ·
    exact ⟨4, rfl, by decide⟩
   ·
    exact ⟨8, rfl, by decide⟩
  have e : numB N (S : Int) = be N S := by unfold numB; rw [if_pos hs]; rfl
  rw [e]
  exact outNum_loop h N S hS hs hl hbase
 | false =>
  have e : numB N n = [] := by unfold numB; rw [hs]; rfl
  rw [e, List.append_nil]
  have H : Hid (OutAt w base g v l) := h
  clear h hl hbase e
  go_enter Try.func27, Try.ntmps27
  go_wp2_with (first
   | (go_at_call 66; refine (isSize_any _ _).mono ?_; rintro e w1 ⟨rfl, hw⟩; subst w1; rw [hs]))
  refine bodyPost_ret (results_none rfl _ _ _) rfl ?_
  exact ⟨⟨_, rfl⟩, v, H.out, Moved.refl _ _ _⟩
/-- make of n noughts. -/
theorem wl_make {w : World} {ops : Array Oper} {rest : List Oper} {o : Oper} {a : Act} {Q : Exit → Act → World → Prop} (hgd : o.guard = none) {x y : Operand} (ho : o.op = .makeSlice 24 x y) {n : Nat} (hx : a.eval x = .int .i64 (n : Int)) (hy : a.eval y = .int .i64 (n : Int)) (hn : n ≤ 1000)
  (h : ∀ w', BytesAt w' (.slice (some ⟨w.heap.size, 0, none⟩) n n) (List.replicate n 0) → Ext w w' → wpList Try.prog ops Q rest (a.put o.dst (.slice (some ⟨w.heap.size, 0, none⟩) n n)) w') : wpList Try.prog ops Q (o :: rest) a w := by
 have hr := run_make_row' (P := Try.prog) 24 5 (.int .u8 0) 1 Try.underlying24 (by kernel_rfl) rfl .i64 .i64 n (by omega) (by omega) w
 refine wpList_of_run hgd (by simp only [execOp, ho, hx, hy, Sem.run_bind, hr, Result.andThen_ok]; rfl) (h _ ?_ (Ext.alloc _ _))
 refine ⟨zeros_all _, by unfold maxLen; simp; omega, .inr ⟨⟨w.heap.size, 0, none⟩, n, by simp, by simp, by unfold maxLen; omega, fun j hj => ?_⟩⟩
 rw [add_plain, Nat.zero_add, cellNew _ _ _ _ _ _ rfl]
 simp at hj
 simp [madeCells, hj, Nat.mod_one, List.getD_eq_getElem?_getD]
set_option maxHeartbeats 1000000 in
theorem outPad_any {w : World} {base g : Nat} {v : Value} {l : List Nat} (h : OutAt w base g v l) (hl : l.length ≤ 900000) (hbase : base ≤ w.heap.size) :
  Calls Try.prog 30 #[ptr g] w fun e w' => (∃ y, e = .returned y) ∧ ∃ v', OutAt w' base g v' (padB l) ∧ Moved w w' g v v' := by
 obtain ⟨a, c, rfl⟩ := h.len
 have H : Hid (OutAt w base g (.slice a l.length c) l ∧ l.length ≤ 900000 ∧ base ≤ w.heap.size) := ⟨h, hl, hbase⟩
 have hc : w.cell? ⟨g, 0, none⟩ = some (.slice a l.length c) := h.blk.cell 0
 clear h hl hbase
 go_enter Try.func30, Try.ntmps30
 go_wp2_with (first
  | (go_at_call 67; refine (padding_any l.length (by have := H.out; omega) _).mono ?_; rintro e w1 ⟨rfl, hw⟩; subst w1)
  | (refine wl_make (n := pads l.length) rfl rfl rfl rfl (by have := pads_lt l.length; omega) ?_; intro w2 hb2 he2)
  | (go_at_call 29; refine (outPut_any (H.out.1.ext he2) hb2 (by have := H.out; have := pads_lt l.length; simp; omega) (Nat.le_trans H.out.2.2 he2.size)).mono ?_; rintro e w3 ⟨⟨y, rfl⟩, v3, ho3, hm3⟩))
 go_end0
 exact ⟨⟨_, rfl⟩, v3, ho3, (Moved.ext he2 _ _).trans hm3⟩
set_option maxHeartbeats 1000000 in
theorem outBytes_any {w : World} {base g : Nat} {v : Value} {l : List Nat} (h : OutAt w base g v l) (hl : l.length ≤ 1000000) :
  Calls Try.prog 31 #[ptr g] w fun e w' => ∃ a n c, e = .returned (.slice a n c) ∧ n = l.length ∧ OB w' w.heap.size (.slice a n c) l ∧ Ext w w' := by
 have H : Hid (OutAt w base g v l ∧ l.length ≤ 1000000) := ⟨h, hl⟩
 have hc : w.cell? ⟨g, 0, none⟩ = some v := h.blk.cell 0
 clear h hl
 go_enter Try.func31, Try.ntmps31
 go_wp2_with (first
  | (go_at_call 68; refine (copied_any H.out.1.own.bytes H.out.2).mono ?_; rintro e w1 ⟨a, n, c, rfl, hn, ho1, he1⟩; have HN : Hid (n = l.length) := hn; clear hn))
 go_ret
 exact ⟨_, _, _, rfl, HN.out, ho1, he1⟩
set_option maxRecDepth 100000
/-- A reader in memory: its block, its bytes' slice, its bytes, its place (or wrong). -/
structure InAt (w : World) (base g : Nat) (bv : Value) (B : List Nat) (s : Option Nat) : Prop where
 own : OB w base bv B
 blk : ∃ (a : Nat) (b : Bool), Blk w g #[bv, .int .i64 (a : Int), .bool b] 126 ∧ a ≤ B.length ∧ s = (if b = true then none else some a)
theorem InAt.ext {w w' : World} {base g : Nat} {bv : Value} {B : List Nat} {s : Option Nat} (h : InAt w base g bv B s) (he : Ext w w') : InAt w' base g bv B s := by
 obtain ⟨h1, a, b, hb, h2⟩ := h
 exact ⟨h1.ext he, a, b, hb.ext he, h2⟩
theorem InAt.lt {w : World} {base g : Nat} {bv : Value} {B : List Nat} {s : Option Nat} (h : InAt w base g bv B s) : g < w.heap.size := by
 obtain ⟨_, a, b, hb, _⟩ := h
 exact hb.lt
theorem InAt.ne {w : World} {base g : Nat} {bv : Value} {B : List Nat} {s : Option Nat} (h : InAt w base g bv B s) : ∀ k, bv.ownBlock = some k → k ≠ g := by
 obtain ⟨h1, a, b, hb, _⟩ := h
 exact h1.ne hb (by decide)
theorem InAt.inB {w : World} {base g : Nat} {bv : Value} {B : List Nat} {s : Option Nat} (h : InAt w base g bv B s) : InB B s := by
 obtain ⟨_, a, b, _, ha, rfl⟩ := h
 intro x hx
 cases b <;> simp at hx
 omega
theorem InAt.but {S : Nat → Prop} {w w' : World} {base g : Nat} {bv : Value} {B : List Nat} {s : Option Nat} (h : InAt w base g bv B s) (hk : KeepBut S w w') (hg : ¬ S g) (hn : ∀ k, bv.ownBlock = some k → ¬ S k) : InAt w' base g bv B s := by
 obtain ⟨h1, a, b, hb, h2⟩ := h
 exact ⟨h1.but hk hn, a, b, hb.but hk hg, h2⟩
/-- Its block stored anew. -/
theorem InAt.set {w w' : World} {base g : Nat} {bv : Value} {B : List Nat} {s : Option Nat} (h : InAt w base g bv B s) (hk : KeepBut (· = g) w w') {a : Nat} {b : Bool} (hb : Blk w' g #[bv, .int .i64 (a : Int), .bool b] 126) (ha : a ≤ B.length) : InAt w' base g bv B (if b = true then none else some a) :=
 ⟨h.own.but hk h.ne, a, b, hb, ha, rfl⟩
set_option maxHeartbeats 2000000 in
theorem left_any {w : World} {base g : Nat} {bv : Value} {B : List Nat} {s : Option Nat} (h : InAt w base g bv B s) (hB : B.length ≤ 1000000) :
  Calls Try.prog 49 #[ptr g] w fun e w' => e = .returned (.int .i64 (leftS B s : Nat)) ∧ Ext w w' := by
 obtain ⟨ba, bc, rfl⟩ := h.own.form
 obtain ⟨_, a, b, HB, ha, rfl⟩ := h
 have c0 := HB.cell 0
 have c1 := HB.cell 1
 have c2 := HB.cell 2
 cases b with
 | true =>
  go_enter Try.func49, Try.ntmps49
  go_wp2
  go_ret
  exact ⟨rfl, Ext.refl _⟩
 | false =>
  have hsub : IntKind.i64.wrap ((B.length : Int) - (a : Int)) = ((B.length - a : Nat) : Int) := by rw [IntKind.wrap_i64]; omega
  go_enter Try.func49, Try.ntmps49
  go_wp2_with fail
  have HB0 : Blk w.drew g #[.slice ba B.length bc, .int .i64 (a : Int), .bool false] 126 := HB
  refine wp_region_facts (fun t => bif Nat.ble 11 t && Nat.ble t 20 then some (t - 11) else bif Nat.beq t 2 then some 10 else none) 21 Ext
   [Is (.pointer (some ⟨g, 0, none⟩)),
    Is (.pointer (some ⟨g, 0, none⟩)),
    Is (.pointer (some ⟨g, 0, none⟩)),
    Is (.slice ba B.length bc),
    Is (.int .i64 (B.length : Int)),
    Is (.pointer (some ⟨g, 0, none⟩)),
    Is (.pointer (some ⟨g, 0, none⟩)),
    Is (.pointer (some ⟨g, 1, none⟩)),
    Is (.int .i64 (a : Int)),
    Is (.int .i64 ((B.length - a : Nat) : Int)),
    Is (.int .i64 ((B.length - a : Nat) : Int))]
   rfl (by kernel_rfl) (by kernel_rfl) rfl Ext.refl (fun _ _ _ => Ext.trans) ?_ ?_ ?_
  ·
   exact Ks (Ks (Ks (Ks (Ks (Ks (Ks (Ks (Ks (Ks (Ks (KeepAll.nil)))))))))))
  ·
   refine Gc ?_ ?_
   ·
    rintro r wx hR ⟨h1, _⟩
    replace h1 : r (.tmp 0) = (.pointer (some ⟨g, 0, none⟩)) := h1
    exact give_move (.inl rfl) ⟨Ext.refl _, h1⟩
   refine Gc ?_ ?_
   ·
    rintro r wx hR ⟨h1, _⟩
    replace h1 : r (.tmp 11) = (.pointer (some ⟨g, 0, none⟩)) := h1
    exact gvo (by simp [execOp, h1, go_sem]) ⟨Ext.refl _, rfl⟩
   refine Gc ?_ ?_
   ·
    rintro r wx hR ⟨h1, _⟩
    replace h1 : r (.tmp 12) = (.pointer (some ⟨g, 0, none⟩)) := h1
    exact gvo (by simp [execOp, h1, go_sem]) ⟨Ext.refl _, rfl⟩
   refine Gc ?_ ?_
   ·
    rintro r wx hR ⟨h1, _⟩
    replace h1 : r (.tmp 13) = (.pointer (some ⟨g, 0, none⟩)) := h1
    exact gvo (exg oneS rfl h1 ((HB0.ext hR).cell 0)) ⟨Ext.refl _, rfl⟩
   refine Gc ?_ ?_
   ·
    rintro r wx hR ⟨h1, _⟩
    replace h1 : r (.tmp 14) = (.slice ba B.length bc) := h1
    exact gvo (by simp [execOp, h1, go_sem]) ⟨Ext.refl _, rfl⟩
   refine Gc ?_ ?_
   ·
    rintro r wx hR ⟨h1, _⟩
    replace h1 : r (.tmp 0) = (.pointer (some ⟨g, 0, none⟩)) := h1
    exact give_move (.inl rfl) ⟨Ext.refl _, h1⟩
   refine Gc ?_ ?_
   ·
    rintro r wx hR ⟨h1, _⟩
    replace h1 : r (.tmp 16) = (.pointer (some ⟨g, 0, none⟩)) := h1
    exact gvo (by simp [execOp, h1, go_sem]) ⟨Ext.refl _, rfl⟩
   refine Gc ?_ ?_
   ·
    rintro r wx hR ⟨h1, _⟩
    replace h1 : r (.tmp 17) = (.pointer (some ⟨g, 0, none⟩)) := h1
    exact gvo (by simp [execOp, h1, go_sem]) ⟨Ext.refl _, rfl⟩
   refine Gc ?_ ?_
   ·
    rintro r wx hR ⟨h1, _⟩
    replace h1 : r (.tmp 18) = (.pointer (some ⟨g, 1, none⟩)) := h1
    exact gvo (exg one3 rfl h1 ((HB0.ext hR).cell 1)) ⟨Ext.refl _, rfl⟩
   refine Gc ?_ ?_
   ·
    rintro r wx hR ⟨h1, h2, _⟩
    replace h1 : r (.tmp 15) = (.int .i64 (B.length : Int)) := h1
    replace h2 : r (.tmp 19) = (.int .i64 (a : Int)) := h2
    exact gvo (by simp [execOp, h1, h2, hsub, go_sem]) ⟨Ext.refl _, rfl⟩
   refine Gc ?_ ?_
   ·
    rintro r wx hR ⟨h1, _⟩
    replace h1 : r (.tmp 20) = (.int .i64 ((B.length - a : Nat) : Int)) := h1
    exact give_move (.inr rfl) ⟨Ext.refl _, h1⟩
   exact GoodAll.nil
  ·
   intro vs w1 a1 hR hold ha1
   have hv0 : vs 0 = (.pointer (some ⟨g, 0, none⟩)) := hold.at 0
   have hv1 : vs 1 = (.pointer (some ⟨g, 0, none⟩)) := hold.at 1
   have hv2 : vs 2 = (.pointer (some ⟨g, 0, none⟩)) := hold.at 2
   have hv3 : vs 3 = (.slice ba B.length bc) := hold.at 3
   have hv4 : vs 4 = (.int .i64 (B.length : Int)) := hold.at 4
   have hv5 : vs 5 = (.pointer (some ⟨g, 0, none⟩)) := hold.at 5
   have hv6 : vs 6 = (.pointer (some ⟨g, 0, none⟩)) := hold.at 6
   have hv7 : vs 7 = (.pointer (some ⟨g, 1, none⟩)) := hold.at 7
   have hv8 : vs 8 = (.int .i64 (a : Int)) := hold.at 8
   have hv9 : vs 9 = (.int .i64 ((B.length - a : Nat) : Int)) := hold.at 9
   have hv10 : vs 10 = (.int .i64 ((B.length - a : Nat) : Int)) := hold.at 10
   simp only [putAll, Act.put, hv0, hv1, hv2, hv3, hv4, hv5, hv6, hv7, hv8, hv9, hv10, List.setIfInBounds_toArray, List.set_cons_succ, List.set_cons_zero] at ha1
   subst ha1
   clear hold hv0 hv1 hv2 hv3 hv4 hv5 hv6 hv7 hv8 hv9 hv10
   go_wp2
   go_ret
   exact ⟨rfl, (Ext.drew _).trans hR⟩
set_option maxHeartbeats 1000000 in
theorem fail_any {w : World} {base g : Nat} {bv : Value} {B : List Nat} {s : Option Nat} (h : InAt w base g bv B s) :
  Calls Try.prog 76 #[ptr g] w fun e w' => (∃ y, e = .returned y) ∧ InAt w' base g bv B none ∧ KeepBut (· = g) w w' := by
 obtain ⟨_, a, b, HB, ha, _⟩ := id h
 have H : Hid (InAt w base g bv B s ∧ a ≤ B.length) := ⟨h, ha⟩
 clear h ha
 go_enter Try.func76, Try.ntmps76
 go_wp2_with (first
  | (refine wl_set (v := .bool true) rfl one4 rfl rfl rfl rfl rfl HB (by simp) ?_; intro w2 hb2 hk2 hx; clear hx))
 go_end0
 exact ⟨⟨_, rfl⟩, H.out.1.set (b := true) hk2 hb2 H.out.2, hk2⟩
set_option maxRecDepth 100000
/-- What 'next' leaves. -/
def NextIs (w : World) (base g : Nat) (bv : Value) (B : List Nat) (r : Option Nat × List Nat) (e : Ending) (w' : World) : Prop :=
 ∃ a n c, e = .returned (.slice a n c) ∧ n = r.2.length ∧ BytesAt w' (.slice a n c) r.2 ∧ (∀ k, blockOf (.slice a n c) = some k → bv.ownBlock = some k) ∧ InAt w' base g bv B r.1 ∧ KeepBut (· = g) w w'
theorem next_none {w w' : World} {base g : Nat} {bv : Value} {B : List Nat} (h : InAt w' base g bv B none) (hk : KeepBut (· = g) w w') : NextIs w base g bv B (none, []) (.returned (.slice none 0 0)) w' :=
 ⟨none, 0, 0, rfl, rfl, BytesAt.none _, (fun k hk => by cases hk), h, hk⟩
set_option maxHeartbeats 4000000 in
theorem next_any {w : World} {base g : Nat} {bv : Value} {B : List Nat} {s : Option Nat} (h : InAt w base g bv B s) (hB : B.length ≤ 1000000) (n : Int) :
  Calls Try.prog 77 #[ptr g, .int .i64 n] w (NextIs w base g bv B (takeS B s n)) := by
 have H : Hid (InAt w base g bv B s ∧ B.length ≤ 1000000) := ⟨h, hB⟩
 by_cases h0 : n < 0
 ·
  have hd : decide (n < 0) = true := decide_eq_true h0
  have hT : takeS B s n = (none, []) := by
   cases s with
   | none => rfl
   | some a => exact takeS_no (by omega)
  rw [hT]
  clear h hB
  go_enter Try.func77, Try.ntmps77
  go_wp2_with (first
   | (go_at_call 76; refine (fail_any H.out.1).mono ?_; rintro e w2 ⟨⟨y, rfl⟩, hi2, hk2⟩; obtain ⟨_, a2, b2, hb2, ha2, hs2⟩ := id hi2; have c2 := hb2.cell 2; have hbt : b2 = true := (by cases b2 with | true => rfl | false => cases hs2); subst hbt; clear hs2 ha2))
  go_ret
  exact next_none hi2 hk2
 ·
  have hd : decide (n < 0) = false := decide_eq_false h0
  by_cases h1 : (leftS B s : Int) < n
  ·
   have hd1 : decide (n > (leftS B s : Int)) = true := decide_eq_true h1
   have hT : takeS B s n = (none, []) := by
    cases s with
    | none => rfl
    | some a =>
     have := h.inB a rfl
     unfold leftS at h1
     exact takeS_no (by simp only at h1; omega)
   rw [hT]
   clear h hB
   obtain ⟨L, hL⟩ : ∃ L, leftS B s = L := ⟨_, rfl⟩
   rw [hL] at hd1 h1
   go_enter Try.func77, Try.ntmps77
   go_wp2_with (first
    | (go_at_call 49; refine (left_any H.out.1 H.out.2).mono ?_; rintro e w1 ⟨rfl, he1⟩; rw [hL])
    | (go_at_call 76; refine (fail_any (H.out.1.ext he1)).mono ?_; rintro e w2 ⟨⟨y, rfl⟩, hi2, hk2⟩; obtain ⟨_, a2, b2, hb2, ha2, hs2⟩ := id hi2; have c2 := hb2.cell 2; have hbt : b2 = true := (by cases b2 with | true => rfl | false => cases hs2); subst hbt; clear hs2 ha2))
   go_ret
   exact next_none hi2 ((KeepBut.ext he1).trans hk2)
  ·
   have hd1 : decide (n > (leftS B s : Int)) = false := decide_eq_false h1
   obtain ⟨ba, bc, rfl⟩ := h.own.form
   obtain ⟨_, a, b, HB, ha, hs⟩ := id h
   cases b with
   | true =>
    have hs' : s = none := hs
    subst hs'
    clear h hB hs
    obtain ⟨L, hL⟩ : ∃ L, leftS B none = L := ⟨_, rfl⟩
    rw [hL] at hd1 h1
    go_enter Try.func77, Try.ntmps77
    go_wp2_with (first
     | (go_at_call 49; refine (left_any H.out.1 H.out.2).mono ?_; rintro e w1 ⟨rfl, he1⟩; rw [hL]; have c2 := (HB.ext he1).cell 2))
    go_ret
    exact next_none (H.out.1.ext he1) (KeepBut.ext he1)
   | false =>
    have hs' : s = some a := hs
    subst hs'
    have hn2 : n ≤ (B.length : Int) - (a : Int) := by
     unfold leftS at h1; simp only at h1; omega
    obtain ⟨m, rfl⟩ : ∃ m : Nat, n = (m : Int) := ⟨n.toNat, by omega⟩
    rw [takeS_yes (by omega) hn2, Int.toNat_natCast]
    obtain ⟨a2, ha2⟩ : ∃ a2, a2 = a + m := ⟨_, rfl⟩
    have HA : Hid (a2 = a + m ∧ a2 ≤ B.length ∧ B.length ≤ bc ∧ bc ≤ maxLen) := ⟨ha2, by omega, by
     obtain ⟨x, y, e, hx⟩ := h.own.bytes.form
     cases e
     exact hx.1⟩
    have hadd : IntKind.i64.wrap ((a : Int) + (m : Int)) = (a2 : Int) := by rw [IntKind.wrap_i64]; omega
    have hadd3 : wrap64 (a2 : Int) = (a2 : Int) := by unfold wrap64; omega
    have hadd2 : (a : Int) + (m : Int) = (a2 : Int) := by omega
    rw [← ha2]
    clear h hs ha2 hB
    obtain ⟨L, hL⟩ : ∃ L, leftS B (some a) = L := ⟨_, rfl⟩
    rw [hL] at hd1 h1
    go_enter Try.func77, Try.ntmps77
    go_wp2_with (first
     | (go_at_call 49; refine (left_any H.out.1 H.out.2).mono ?_; rintro e w1 ⟨rfl, he1⟩; rw [hL]; have c1 := (HB.ext he1).cell 1; have c2 := (HB.ext he1).cell 2)
     | (refine wl_set (v := .int .i64 (a2 : Int)) rfl one3 rfl rfl (by first | rfl | go_simp | simp [go_sem, hadd, hadd2, hadd3]) rfl rfl (HB.ext he1) (by simp) ?_; intro w2 hb2 hk2 hx; clear hx))
    have HB7 : Blk w2.drew g #[.slice ba B.length bc, .int .i64 (a2 : Int), .bool false] 126 := hb2
    have ha12 : a ≤ a2 := by have := HA.out; omega
    have ha2c : a2 ≤ bc := by have := HA.out; omega
    clear c1 c2
    refine wp_region_facts (fun t => bif Nat.ble 36 t && Nat.ble t 45 then some (t - 36) else bif Nat.beq t 4 then some 10 else none) 46 Ext
     [Is (.pointer (some ⟨g, 0, none⟩)),
      Is (.pointer (some ⟨g, 0, none⟩)),
      Is (.pointer (some ⟨g, 0, none⟩)),
      Is (.slice ba B.length bc),
      Is (.int .i64 (a : Int)),
      Is (.pointer (some ⟨g, 0, none⟩)),
      Is (.pointer (some ⟨g, 0, none⟩)),
      Is (.pointer (some ⟨g, 1, none⟩)),
      Is (.int .i64 (a2 : Int)),
      Is (sliced ba a a2 bc 1),
      Is (sliced ba a a2 bc 1)]
     rfl (by kernel_rfl) (by kernel_rfl) rfl Ext.refl (fun _ _ _ => Ext.trans) ?_ ?_ ?_
    ·
     exact Ks (Ks (Ks (Ks (Ks (Ks (Ks (Ks (Ks (Ks (Ks (KeepAll.nil)))))))))))
    ·
     refine Gc ?_ ?_
     ·
      rintro r wx hR ⟨h1, _⟩
      replace h1 : r (.tmp 0) = (.pointer (some ⟨g, 0, none⟩)) := h1
      exact give_move (.inl rfl) ⟨Ext.refl _, h1⟩
     refine Gc ?_ ?_
     ·
      rintro r wx hR ⟨h1, _⟩
      replace h1 : r (.tmp 36) = (.pointer (some ⟨g, 0, none⟩)) := h1
      exact gvo (by simp [execOp, h1, go_sem]) ⟨Ext.refl _, rfl⟩
     refine Gc ?_ ?_
     ·
      rintro r wx hR ⟨h1, _⟩
      replace h1 : r (.tmp 37) = (.pointer (some ⟨g, 0, none⟩)) := h1
      exact gvo (by simp [execOp, h1, go_sem]) ⟨Ext.refl _, rfl⟩
     refine Gc ?_ ?_
     ·
      rintro r wx hR ⟨h1, _⟩
      replace h1 : r (.tmp 38) = (.pointer (some ⟨g, 0, none⟩)) := h1
      exact gvo (exg oneS rfl h1 ((HB7.ext hR).cell 0)) ⟨Ext.refl _, rfl⟩
     refine Gc ?_ ?_
     ·
      rintro r wx hR ⟨h1, _⟩
      replace h1 : r (.tmp 5) = (.int .i64 (a : Int)) := h1
      exact give_move (.inl rfl) ⟨Ext.refl _, h1⟩
     refine Gc ?_ ?_
     ·
      rintro r wx hR ⟨h1, _⟩
      replace h1 : r (.tmp 0) = (.pointer (some ⟨g, 0, none⟩)) := h1
      exact give_move (.inl rfl) ⟨Ext.refl _, h1⟩
     refine Gc ?_ ?_
     ·
      rintro r wx hR ⟨h1, _⟩
      replace h1 : r (.tmp 41) = (.pointer (some ⟨g, 0, none⟩)) := h1
      exact gvo (by simp [execOp, h1, go_sem]) ⟨Ext.refl _, rfl⟩
     refine Gc ?_ ?_
     ·
      rintro r wx hR ⟨h1, _⟩
      replace h1 : r (.tmp 42) = (.pointer (some ⟨g, 0, none⟩)) := h1
      exact gvo (by simp [execOp, h1, go_sem]) ⟨Ext.refl _, rfl⟩
     refine Gc ?_ ?_
     ·
      rintro r wx hR ⟨h1, _⟩
      replace h1 : r (.tmp 43) = (.pointer (some ⟨g, 1, none⟩)) := h1
      exact gvo (exg one3 rfl h1 ((HB7.ext hR).cell 1)) ⟨Ext.refl _, rfl⟩
     refine Gc ?_ ?_
     ·
      rintro r wx hR ⟨h1, h2, h3, _⟩
      replace h1 : r (.tmp 39) = (.slice ba B.length bc) := h1
      replace h2 : r (.tmp 40) = (.int .i64 (a : Int)) := h2
      replace h3 : r (.tmp 44) = (.int .i64 (a2 : Int)) := h3
      exact gvo (exec_slice_lh byteT rfl _ ba B.length bc a a2 .i64 .i64 h1 h2 h3 ha12 ha2c) ⟨Ext.refl _, rfl⟩
     refine Gc ?_ ?_
     ·
      rintro r wx hR ⟨h1, _⟩
      replace h1 : r (.tmp 45) = (sliced ba a a2 bc 1) := h1
      exact give_move (.inr rfl) ⟨Ext.refl _, h1⟩
     exact GoodAll.nil
    ·
     intro vs w3 a3 hR hold ha3
     have hv0 : vs 0 = (.pointer (some ⟨g, 0, none⟩)) := hold.at 0
     have hv1 : vs 1 = (.pointer (some ⟨g, 0, none⟩)) := hold.at 1
     have hv2 : vs 2 = (.pointer (some ⟨g, 0, none⟩)) := hold.at 2
     have hv3 : vs 3 = (.slice ba B.length bc) := hold.at 3
     have hv4 : vs 4 = (.int .i64 (a : Int)) := hold.at 4
     have hv5 : vs 5 = (.pointer (some ⟨g, 0, none⟩)) := hold.at 5
     have hv6 : vs 6 = (.pointer (some ⟨g, 0, none⟩)) := hold.at 6
     have hv7 : vs 7 = (.pointer (some ⟨g, 1, none⟩)) := hold.at 7
     have hv8 : vs 8 = (.int .i64 (a2 : Int)) := hold.at 8
     have hv9 : vs 9 = (sliced ba a a2 bc 1) := hold.at 9
     have hv10 : vs 10 = (sliced ba a a2 bc 1) := hold.at 10
     simp only [putAll, Act.put, hv0, hv1, hv2, hv3, hv4, hv5, hv6, hv7, hv8, hv9, hv10, List.setIfInBounds_toArray, List.set_cons_succ, List.set_cons_zero] at ha3
     subst ha3
     clear hold hv0 hv1 hv2 hv3 hv4 hv5 hv6 hv7 hv8 hv9 hv10
     obtain ⟨sa, hsf, hsb⟩ := sliced_form ba a a2 bc
     rw [hsf]
     have HE : Hid (Ext w2 w3) := (Ext.drew _).trans hR
     have HN : Hid (NextIs w base g (.slice ba B.length bc) B (some a2, (B.drop a).take m) (.returned (.slice sa (a2 - a) (bc - a))) w3) := by
      have hi2 := (H.out.1.ext he1).set (b := false) hk2 hb2 HA.out.2.1
      refine ⟨_, _, _, rfl, ?_, ?_, fun k hk => ?_, hi2.ext HE.out, ((KeepBut.ext he1).trans hk2).trans (KeepBut.ext HE.out)⟩
      ·
       have := HA.out; rw [List.length_take, List.length_drop]; omega
      ·
       have := hi2.own.bytes.sliced a a2 ha12 HA.out.2.1
       rw [hsf, List.drop_take, show a2 - a = m by have := HA.out; omega] at this
       have := this.ext HE.out
       rwa [show a2 - a = m by have := HA.out; omega]
      ·
       rw [← blockOf_own]; exact hsb k hk _ _
     clear hsb hsf
     generalize a2 - a = x at *
     generalize bc - a = y at *
     go_wp2
     go_ret
     exact HN.out
set_option maxRecDepth 100000
theorem bytes_but {S : Nat → Prop} {w w' : World} {v : Value} {l : List Nat} (h : BytesAt w v l) (hk : KeepBut S w w') (hn : ∀ k, blockOf v = some k → ¬ S k) : BytesAt w' v l :=
 bytes_of_nums ((nums_of_bytes h).via fun b hb hlt => hk.block b hlt (hn b hb)) h.1
theorem takeS_8 {B : List Nat} {s : Option Nat} {n : Int} (h : n ≤ 8) : (takeS B s n).2.length ≤ 8 := by
 unfold takeS
 cases s with
 | none => simp
 | some a =>
  simp only
  split
  ·
   rw [List.length_take]; omega
  ·
   simp
theorem or_byte (x b : Nat) (hx : x * 256 < 18446744073709551616) (hb : b < 256) : bits .or .u64 ((x * 256 : Nat) : Int) (b : Int) = ((256 * x + b : Nat) : Int) := by
 rw [u64_or_nat _ _ hx (by omega)]
 congr 1
 have := Nat.two_pow_add_eq_or_of_lt (i := 8) (by simpa using hb) x
 rw [show (2 : Nat) ^ 8 = 256 from rfl] at this
 rw [Nat.mul_comm x 256, ← this]
theorem val_take {l : List Nat} (h : AllB l) (hl : l.length ≤ 8) {k : Nat} (hk : k < l.length) : val (l.take k) * 256 < 18446744073709551616 := by
 have := val_lt (h.take k) 7 (by rw [List.length_take]; omega)
 simp at this
 omega
set_option maxHeartbeats 2000000 in
theorem inNum_any {w : World} {base g : Nat} {bv : Value} {B : List Nat} {s : Option Nat} (h : InAt w base g bv B s) (hB : B.length ≤ 1000000) (n : Int) :
  Calls Try.prog 40 #[ptr g, .int .i64 n] w fun e w' => e = .returned (.int .u64 ((numS B s n).2 : Nat)) ∧ InAt w' base g bv B (numS B s n).1 ∧ KeepBut (· = g) w w' := by
 have H : Hid (InAt w base g bv B s ∧ B.length ≤ 1000000) := ⟨h, hB⟩
 cases hs : isSz n with
 | false =>
  have e : numS B s n = (none, 0) := by unfold numS; rw [hs]; rfl
  rw [e]
  clear h hB e
  go_enter Try.func40, Try.ntmps40
  go_wp2_with (first
   | (go_at_call 66; refine (isSize_any _ _).mono ?_; rintro e w1 ⟨rfl, hw⟩; subst w1; rw [hs])
   | (go_at_call 76; refine (fail_any H.out.1).mono ?_; rintro e w2 ⟨⟨y, rfl⟩, hi2, hk2⟩))
  go_ret
  exact ⟨rfl, hi2, hk2⟩
 | true =>
  have e : numS B s n = ((takeS B s n).1, val (takeS B s n).2) := by unfold numS; rw [hs]; rfl
  rw [e]
  have HA : Hid (AllB (takeS B s n).2 ∧ (takeS B s n).2.length ≤ 8) := ⟨takeS_all h.own.all s n, takeS_8 (by rcases (isSz_iff n).1 hs with e | e | e | e <;> omega)⟩
  have HX : Hid (Calls Try.prog 77 #[ptr g, .int .i64 n] w (NextIs w base g bv B (takeS B s n))) := next_any h hB n
  clear h hB e H
  generalize takeS B s n = r at *
  go_enter Try.func40, Try.ntmps40
  go_wp2_with (first
   | (go_at_call 66; refine (isSize_any _ _).mono ?_; rintro e w1 ⟨rfl, hw⟩; subst w1; rw [hs])
   | (go_at_call 77; refine HX.out.mono ?_; rintro e w2 ⟨sa, sn, sc, rfl, hsn, hb2, hbl2, hi2, hk2⟩; have HN : Hid (sn = r.2.length) := hsn; clear hsn hbl2))
  obtain ⟨_, _, e3, _, hcell⟩ := hb2.form
  have HL : Hid (∀ j, j < sn → ∃ b off, sa = some ⟨b, off, none⟩ ∧ w2.cell? ⟨b, off + j, none⟩ = some (.int .u8 (r.2.getD j 0 : Nat))) := fun j hj => by
   cases e3
   exact hcell j (by rw [← HN.out]; exact hj)
  have hsn8 : sn ≤ 8 := by rw [HN.out]; exact HA.out.2
  have HI : Hid (InAt w2 base g bv B r.1 ∧ KeepBut (· = g) w w2) := ⟨hi2, hk2⟩
  clear e3 hcell hb2 hi2 hk2
  go_loopg [5, 17] sn (fun gm x t wr => ∃ k : Nat, k ≤ sn ∧ gm = sn - k ∧ x = .int .u64 (val (r.2.take k) : Nat) ∧ t = .int .i64 (k : Int) ∧ wr = w2)
  case atStart => exact ⟨0, Nat.zero_le _, rfl, rfl, rfl, rfl⟩
  case round =>
   obtain ⟨k, hk, rfl, rfl, rfl, hw⟩ := hrel
   subst wr
   by_cases hlt : k < sn
   ·
    have hd : decide ((k : Int) < (sn : Int)) = true := decide_eq_true (by omega)
    obtain ⟨b, off, rfl, hc⟩ := HL.out k hlt
    have hkr : k < r.2.length := by rw [← HN.out]; exact hlt
    have HV : Hid (val (r.2.take (k + 1)) = 256 * val (r.2.take k) + r.2.getD k 0) := show _ = _ by rw [take_next r.2 0 k hkr, val_snoc]
    have hk8 : k < 8 := by omega
    have hx := val_take HA.out.1 HA.out.2 hkr
    have hb8 := HA.out.1.getD k
    generalize r.2.getD k 0 = b8 at *
    generalize val (r.2.take k) = x at *
    obtain ⟨q, hq⟩ : ∃ q, q = 256 * x + b8 := ⟨_, rfl⟩
    obtain ⟨p, hp⟩ : ∃ p, p = x * 256 := ⟨_, rfl⟩
    have ho : bits .or .u64 (p : Int) (b8 : Int) = (q : Int) := by rw [hp, hq]; exact or_byte x b8 hx hb8
    have hw1 : IntKind.u64.wrap (p : Int) = (p : Int) := by rw [IntKind.wrap_u64]; omega
    have hw2 : (p : Int) % 18446744073709551616 = (p : Int) := by omega
    have hw3 : (x : Int) * 256 = (p : Int) := by omega
    rw [← hq] at HV
    clear hp hq hx
    clear hkr
    go_wp2
    go_roundg (sn - (k + 1))
    case measure => omega
    case rel => exact ⟨k + 1, by omega, rfl, by rw [HV.out], by simp, rfl⟩
   ·
    have hd : decide ((k : Int) < (sn : Int)) = false := decide_eq_false (by omega)
    obtain rfl : k = sn := by omega
    have HT : Hid (r.2.take k = r.2) := List.take_of_length_le (by rw [HN.out]; exact Nat.le_refl _)
    go_wp2
    go_ret
    exact ⟨by rw [HT.out]; rfl, HI.out.1, HI.out.2⟩
set_option maxHeartbeats 1000000 in
theorem inTake_any {w : World} {base g : Nat} {bv : Value} {B : List Nat} {s : Option Nat} (h : InAt w base g bv B s) (hB : B.length ≤ 1000000) (n : Int) :
  Calls Try.prog 41 #[ptr g, .int .i64 n] w fun e w' => ∃ a m c, e = .returned (.slice a m c) ∧ m = (takeS B s n).2.length ∧ OB w' w.heap.size (.slice a m c) (takeS B s n).2 ∧ InAt w' base g bv B (takeS B s n).1 ∧ KeepBut (· = g) w w' := by
 have H : Hid (InAt w base g bv B s ∧ B.length ≤ 1000000) := ⟨h, hB⟩
 have HL : Hid ((takeS B s n).2.length ≤ B.length) := takeS_len B s n
 have HX : Hid (Calls Try.prog 77 #[ptr g, .int .i64 n] w (NextIs w base g bv B (takeS B s n))) := next_any h hB n
 clear h hB
 generalize takeS B s n = r at *
 go_enter Try.func41, Try.ntmps41
 go_wp2_with (first
  | (go_at_call 77; refine HX.out.mono ?_; rintro e w2 ⟨sa, sn, sc, rfl, hsn, hb2, hbl2, hi2, hk2⟩; have HN : Hid (sn = r.2.length) := hsn; clear hsn hbl2)
  | (go_at_call 68; refine (copied_any hb2 (Nat.le_trans HL.out H.out.2)).mono ?_; rintro e w3 ⟨a, m, c, rfl, hm, ho3, he3⟩; have HM : Hid (m = r.2.length) := hm; clear hm))
 go_ret
 exact ⟨_, _, _, rfl, HM.out, ho3.base hk2.size, hi2.ext he3, hk2.trans (KeepBut.ext he3)⟩
set_option maxRecDepth 100000
/-- The reader behind k of the noughts that were next. -/
def zst (r : Option Nat × List Nat) (k : Nat) : Option Nat := if allZ (r.2.take k) = true then r.1 else none
theorem zst_bad {r : Option Nat × List Nat} {k : Nat} (hk : k < r.2.length) (h : r.2.getD k 0 ≠ 0) : zst r (k + 1) = none := by
 unfold zst; rw [take_next r.2 0 k hk, allZ_snoc, beq_false_of_ne h]; simp
theorem zst_ok {r : Option Nat × List Nat} {k : Nat} (hk : k < r.2.length) (h : r.2.getD k 0 = 0) : zst r (k + 1) = zst r k := by
 unfold zst; rw [take_next r.2 0 k hk, allZ_snoc, h]; simp
theorem zst_end {r : Option Nat × List Nat} {k : Nat} (hk : r.2.length ≤ k) : zst r k = if allZ r.2 = true then r.1 else none := by
 unfold zst; rw [List.take_of_length_le hk]
theorem takeS_n {B : List Nat} {s : Option Nat} {n : Nat} : (takeS B s (n : Int)).2.length ≤ n := by
 unfold takeS
 cases s with
 | none => simp
 | some a =>
  simp only
  split
  ·
   rw [List.length_take]; omega
  ·
   simp
set_option maxHeartbeats 2000000 in
theorem inPad_any {w : World} {base g : Nat} {bv : Value} {B : List Nat} {s : Option Nat} (h : InAt w base g bv B s) (hB : B.length ≤ 1000000) :
  Calls Try.prog 48 #[ptr g] w fun e w' => (∃ y, e = .returned y) ∧ InAt w' base g bv B (padS B s) ∧ KeepBut (· = g) w w' := by
 obtain ⟨_, a, b, HB, ha, hs⟩ := id h
 have c1 := HB.cell 1
 have HP : Hid (a ≤ 1000000) := Nat.le_trans ha hB
 have HX : Hid (Calls Try.prog 77 #[ptr g, .int .i64 ((pads a : Nat) : Int)] w (NextIs w base g bv B (takeS B s (pads a : Nat)))) := next_any h hB _
 have HE : Hid ((if allZ (takeS B s (pads a : Nat)).2 = true then (takeS B s (pads a : Nat)).1 else none) = padS B s) := by
  cases b with
  | true => have hs' : s = none := hs; subst hs'; exact (rfl : (none : Option Nat) = none)
  | false => have hs' : s = some a := hs; subst hs'; exact (padS_some B a).symm
 have HL : Hid ((takeS B s (pads a : Nat)).2.length ≤ 3) := Nat.le_trans takeS_n (by have := pads_lt a; omega)
 have HNE : Hid (∀ k, bv.ownBlock = some k → k ≠ g) := h.ne
 clear h hB HB ha hs
 generalize takeS B s (pads a : Nat) = r at *
 go_enter Try.func48, Try.ntmps48
 go_wp2_with (first
  | (go_at_call 67; refine (padding_any a HP.out _).mono ?_; rintro e w1 ⟨rfl, hw⟩; subst w1)
  | (go_at_call 77; refine HX.out.mono ?_; rintro e w2 ⟨sa, sn, sc, rfl, hsn, hb2, hbl2, hi2, hk2⟩; have HN : Hid (sn = r.2.length) := hsn; clear hsn))
 have hsn3 : sn ≤ 3 := by rw [HN.out]; exact HL.out
 have HI : Hid (InAt w2 base g bv B r.1 ∧ KeepBut (· = g) w w2 ∧ BytesAt w2 (.slice sa sn sc) r.2 ∧ ∀ k, blockOf (.slice sa sn sc) = some k → k ≠ g) := ⟨hi2, hk2, hb2, fun k hk => HNE.out k (hbl2 k hk)⟩
 clear hb2 hi2 hk2 hbl2 c1
 go_loopg [14] sn (fun gm t wr => ∃ k : Nat, k ≤ sn ∧ gm = sn - k ∧ t = .int .i64 (k : Int) ∧ Hid (InAt wr base g bv B (zst r k) ∧ KeepBut (· = g) w wr ∧ BytesAt wr (.slice sa sn sc) r.2))
 case atStart => exact ⟨0, Nat.zero_le _, rfl, rfl, HI.out.1, HI.out.2.1, HI.out.2.2.1⟩
 case round =>
  obtain ⟨k, hk, rfl, rfl, HR⟩ := hrel
  by_cases hlt : k < sn
  ·
   have hd : decide ((k : Int) < (sn : Int)) = true := decide_eq_true (by omega)
   have hkr : k < r.2.length := by rw [← HN.out]; exact hlt
   obtain ⟨x, y, e3, _, hcell⟩ := HR.out.2.2.form
   obtain ⟨bb, off, rfl, hc⟩ := hcell k hkr
   have e4 : sa = some ⟨bb, off, none⟩ := by simp only [Value.slice.injEq] at e3; exact e3.1
   subst e4
   clear e3 hcell
   have hk3 : k < 3 := by omega
   by_cases hz : r.2.getD k 0 = 0
   ·
    rw [hz] at hc
    have HZ : Hid (zst r (k + 1) = zst r k) := zst_ok hkr hz
    clear hkr hz
    have hc' : wr.cell? ⟨bb, off + k, none⟩ = some (.int .u8 0) := hc
    clear hc
    go_wp2
    go_roundg (sn - (k + 1))
    case measure => omega
    case rel => exact ⟨k + 1, by omega, rfl, by simp, by rw [HZ.out]; exact HR.out.1, HR.out.2.1, HR.out.2.2⟩
   ·
    have HZ : Hid (zst r (k + 1) = none) := zst_bad hkr hz
    generalize r.2.getD k 0 = z at *
    have hd2 : decide ((z : Int) = 0) = false := decide_eq_false (by omega)
    have hd3 : ((z : Int) == 0) = false := by simpa using hz
    clear hkr
    go_wp2_with (first
     | (go_at_call 76; refine (fail_any HR.out.1).mono ?_; rintro e w4 ⟨⟨y4, rfl⟩, hi4, hk4⟩))
    go_roundg (sn - (k + 1))
    case measure => omega
    case rel => exact ⟨k + 1, by omega, rfl, by simp, by rw [HZ.out]; exact hi4, HR.out.2.1.trans hk4, bytes_but HR.out.2.2 hk4 HI.out.2.2.2⟩
  ·
   have hd : decide ((k : Int) < (sn : Int)) = false := decide_eq_false (by omega)
   have HZ : Hid (zst r k = padS B s) := (zst_end (by rw [← HN.out]; omega)).trans HE.out
   go_wp2
   go_end0
   exact ⟨⟨_, rfl⟩, by rw [← HZ.out]; exact HR.out.1, HR.out.2.1⟩
set_option maxRecDepth 100000
/-- The error that is answered. -/
abbrev errF : Value := .iface 49 (.int .i64 2)
def endV (b : Bool) : Value := if b = true then .nilIface else errF
set_option maxHeartbeats 1000000 in
theorem end_any {w : World} {base g : Nat} {bv : Value} {B : List Nat} {s : Option Nat} (h : InAt w base g bv B s) (hB : B.length ≤ 1000000) :
  Calls Try.prog 50 #[ptr g] w fun e w' => e = .returned (endV (endS B s)) ∧ Ext w w' := by
 obtain ⟨_, a, b, HB, ha, hs⟩ := id h
 have HX : Hid (Calls Try.prog 49 #[ptr g] w fun e w' => e = .returned (.int .i64 (leftS B s : Nat)) ∧ Ext w w') := left_any h hB
 have c2 := HB.cell 2
 cases b with
 | true =>
  have hs' : s = none := hs
  subst hs'
  clear h hB ha hs
  go_enter Try.func50, Try.ntmps50
  go_wp2
  go_ret
  exact ⟨rfl, Ext.refl _⟩
 | false =>
  have hs' : s = some a := hs
  have he : endS B s = (leftS B s == 0) := by rw [hs']; rfl
  rw [he]
  clear h hB HB ha hs hs' he
  generalize leftS B s = L at *
  by_cases hL : L = 0
  ·
   subst hL
   go_enter Try.func50, Try.ntmps50
   go_wp2_with (first
    | (go_at_call 49; refine HX.out.mono ?_; rintro e w1 ⟨rfl, he1⟩))
   go_ret
   exact ⟨rfl, he1⟩
  ·
   have hd : decide ((L : Int) > 0) = true := decide_eq_true (by omega)
   have HL : Hid ((L == 0) = false) := beq_false_of_ne hL
   go_enter Try.func50, Try.ntmps50
   go_wp2_with (first
    | (go_at_call 49; refine HX.out.mono ?_; rintro e w1 ⟨rfl, he1⟩))
   go_ret
   exact ⟨by rw [HL.out]; rfl, he1⟩
theorem assertF (W : World) : (Instr.typeAssert errF 41 49 true).run Try.prog W = .ok (.tuple #[.int .i64 2, .bool true]) W := by kernel_rfl
theorem errNum_f (w : World) : Calls Try.prog 21 #[errF] w fun e w' => e = .returned (.int .i64 2) ∧ w' = w := by
 have ha := assertF w
 go_enter Try.func21, Try.ntmps21
 go_wp2
 go_ret
 exact ⟨rfl, rfl⟩
theorem isF (w : World) : Calls Try.prog 15 #[errF, .int .i64 2] w fun e w' => e = .returned (.bool true) ∧ w' = w := by
 go_enter Try.func15, Try.ntmps15
 go_wp2_with (first
  | (go_at_call 21; refine (errNum_f _).mono ?_; rintro e w1 ⟨rfl, hw⟩; subst w1))
 go_ret
 exact ⟨rfl, rfl⟩
set_option maxHeartbeats 1000000 in
theorem read_any {w : World} {v : Value} {B : List Nat} (hv : BytesAt w v B) (hB : B.length ≤ 1000000) :
  Calls Try.prog 39 #[v] w fun e w' => ∃ g bv, e = .returned (ptr g) ∧ w.heap.size ≤ g ∧ InAt w' w.heap.size g bv B (some 0) ∧ Ext w w' := by
 have H : Hid (BytesAt w v B ∧ B.length ≤ 1000000) := ⟨hv, hB⟩
 clear hv hB
 go_enter Try.func39, Try.ntmps39
 go_wp2_with (first
  | (go_at_call 68; refine (copied_any H.out.1 H.out.2).mono ?_; rintro e w1 ⟨a, n, c, rfl, hn, ho1, he1⟩; have HN : Hid (n = B.length) := hn; clear hn)
  | (refine wl_box (C := #[.slice a n c, .int .i64 0, .bool false]) rfl rfl rfl ?_; intro w2 hb2 he2 hx; clear hx))
 go_ret
 exact ⟨_, _, rfl, he1.size, ⟨ho1.ext he2, 0, false, hb2, Nat.zero_le _, rfl⟩, he1.trans he2⟩
set_option maxRecDepth 100000
theorem rowP : RowT Try.prog 138 2 := ⟨⟨_, Try.underlying138, rfl⟩, by kernel_rfl⟩
theorem zeroP : (Try.prog.info? 138).bind (·.zero) = some (.agg #[.int .i64 0, .slice none 0 0]) := by kernel_rfl
theorem one_par (k : Int) (u : Value) (hu : u.oneCell' = true) : ∀ v ∈ (#[Value.int .i64 k, u] : Array Value).toList, v.oneCell' = true := by
 intro v hv
 simp at hv
 rcases hv with rfl | rfl
 ·
  rfl
 ·
  exact hu
theorem numS2_lt {B : List Nat} (h : AllB B) (s : Option Nat) : (numS B s 2).2 < 65536 := by
 cases s with
 | none => rw [numS_none]; decide
 | some a =>
  by_cases ha : a + 2 ≤ B.length
  ·
   rw [numS2_yes ha]
   have := h.getD a
   have := h.getD (a + 1)
   simp only; omega
  ·
   rw [numS2_no (by omega)]; decide
set_option maxHeartbeats 2000000 in
theorem param_any {w : World} {base g : Nat} {bv : Value} {B : List Nat} {s : Option Nat} (h : InAt w base g bv B s) (hB : B.length ≤ 1000000) :
  Calls Try.prog 102 #[ptr g] w fun e w' => ∃ u, e = .returned (.agg #[.int .i64 (paramS B s).2.1, u]) ∧ OB w' w.heap.size u (paramS B s).2.2 ∧ InAt w' base g bv B (paramS B s).1 ∧ KeepBut (· = g) w w' := by
 obtain ⟨r1, hr1⟩ : ∃ r, r = numS B s 2 := ⟨_, rfl⟩
 obtain ⟨r2, hr2⟩ : ∃ r, r = numS B r1.1 2 := ⟨_, rfl⟩
 obtain ⟨s3, hs3⟩ : ∃ x, x = (if (4000 : Int) < (r2.2 : Int) - 4 then none else r2.1) := ⟨_, rfl⟩
 obtain ⟨r4, hr4⟩ : ∃ r, r = takeS B s3 ((r2.2 : Int) - 4) := ⟨_, rfl⟩
 have HE : Hid (paramS B s = (padS B r4.1, ((r1.2 : Int), r4.2))) := by
  show _ = _
  unfold paramS
  rw [hr4, hs3, hr2, hr1]
 rw [HE.out]
 have l1 : r1.2 < 65536 := by rw [hr1]; exact numS2_lt h.own.all s
 have l2 : r2.2 < 65536 := by rw [hr2]; exact numS2_lt h.own.all _
 have HH : Hid (InAt w base g bv B s ∧ B.length ≤ 1000000 ∧ g < w.heap.size) := ⟨h, hB, h.lt⟩
 have H1 : Hid (r1 = numS B s 2) := hr1
 have H2 : Hid (r2 = numS B r1.1 2) := hr2
 have H3 : Hid (s3 = (if (4000 : Int) < (r2.2 : Int) - 4 then none else r2.1)) := hs3
 have H4 : Hid (r4 = takeS B s3 ((r2.2 : Int) - 4)) := hr4
 clear h hB hr1 hr2 hs3 hr4
 have w1x : IntKind.i64.wrap (r1.2 : Int) = (r1.2 : Int) := by rw [IntKind.wrap_i64]; omega
 have w2x : IntKind.i64.wrap (r2.2 : Int) = (r2.2 : Int) := by rw [IntKind.wrap_i64]; omega
 have w3x : IntKind.i64.wrap ((r2.2 : Int) - 4) = (r2.2 : Int) - 4 := by rw [IntKind.wrap_i64]; omega
 obtain ⟨x1, hx1⟩ : ∃ x, x = r1.2 := ⟨_, rfl⟩
 obtain ⟨x2, hx2⟩ : ∃ x, x = r2.2 := ⟨_, rfl⟩
 have HX : Hid (x1 = r1.2 ∧ x2 = r2.2) := ⟨hx1, hx2⟩
 rw [← hx1] at l1 w1x
 rw [← hx2] at l2 w2x w3x H3 H4
 clear hx1 hx2
 obtain ⟨d, hd⟩ : ∃ d : Int, d = (x2 : Int) - 4 := ⟨_, rfl⟩
 have HD : Hid (d = (x2 : Int) - 4) := hd
 have hd2 : (x2 : Int) - 4 = d := hd.symm
 rw [hd2] at w3x H3 H4
 have w4x : wrap64 d = d := by unfold wrap64; omega
 clear hd
 by_cases hbig : 4000 < d
 ·
  have hdb : decide (d > 4000) = true := decide_eq_true hbig
  have HS3 : Hid (s3 = none) := show _ = _ by rw [H3.out, if_pos hbig]
  clear hbig
  go_enter Try.func102, Try.ntmps102
  go_wp2_with (first
   | (refine wl_alloc rfl rfl zeroP ?_; intro w1 hb1 he1 hx; clear hx; have HP : Hid (Blk w1 w.heap.size #[.int .i64 0, .slice none 0 0] 138 ∧ Ext w w1) := ⟨hb1, he1⟩; clear hb1 he1)
   | (go_at_call 40; have q := hk2; clear q; refine (inNum_any hi2 HH.out.2.1 2).mono ?_; rintro e w3 ⟨rfl, hi3, hk3⟩; rw [← H2.out] at hi3 ⊢; rw [← HX.out.2])
   | (go_at_call 40; refine (inNum_any (HH.out.1.ext HP.out.2) HH.out.2.1 2).mono ?_; rintro e w2 ⟨rfl, hi2, hk2⟩; rw [← H1.out] at hi2 ⊢; rw [← HX.out.1])
   | (go_at_call 76; refine (fail_any hi3).mono ?_; rintro e w4 ⟨⟨y4, rfl⟩, hi4, hk4⟩; rw [← HS3.out] at hi4)
   | (go_at_call 41; refine (inTake_any hi4 HH.out.2.1 d).mono ?_; rintro e w5 ⟨a5, m5, c5, rfl, hm5, ho5, hi5, hk5⟩; rw [← H4.out] at hi5 ho5; have HM : Hid (m5 = r4.2.length) := (show _ = _ by rw [H4.out]; exact hm5); clear hm5)
   | (go_at_call 48; refine (inPad_any hi5 HH.out.2.1).mono ?_; rintro e w6 ⟨⟨y6, rfl⟩, hi6, hk6⟩)
   | (have hb6 := (((((HP.out.1.but hk2 (show ¬ _ = _ by have := HH.out.2.2; omega)).but hk3 (show ¬ _ = _ by have := HH.out.2.2; omega)).but hk4 (show ¬ _ = _ by have := HH.out.2.2; omega)).but hk5 (show ¬ _ = _ by have := HH.out.2.2; omega)).but hk6 (show ¬ _ = _ by have := HH.out.2.2; omega)); refine wl_store (D := #[.int .i64 (x1 : Int), .slice a5 m5 c5]) rfl rowP rfl rfl rfl hb6 rfl rfl (one_par _ _ rfl) ?_; intro w7 hb7 hk7 hx; clear hx))
  refine bodyPost_ret (v := .agg #[.int .i64 (x1 : Int), .slice a5 m5 c5]) (results_cell_row (fn := Try.f102) (p := 2) (by rfl) _ _ w.heap.size 138 _ (0, 0) _ rfl hb7 Try.underlying138 rfl rfl) rfl ?_
  have hk := (((KeepBut.ext HP.out.2).trans hk2).trans hk3)
  replace hk := hk.trans hk4
  have ho6 := (ho5.base hk.size).but hk6 (fun k e => by have := (ho5.lt e).1; have := HH.out.2.2; have := hk.size; show ¬ _ = _; omega)
  exact ⟨_, by rw [HX.out.1], ho6.but hk7 (ho6.ne hb6 (by decide)), hi6.but hk7 (show ¬ _ = _ by have := HH.out.2.2; omega) (hi6.own.ne hb6 (by decide)), keep_new ((hk.trans hk5).trans hk6) hk7 (Nat.le_refl _)⟩
 ·
  have hdb : decide (d > 4000) = false := decide_eq_false hbig
  have HS3 : Hid (s3 = r2.1) := show _ = _ by rw [H3.out, if_neg hbig]
  clear hbig
  go_enter Try.func102, Try.ntmps102
  go_wp2_with (first
   | (refine wl_alloc rfl rfl zeroP ?_; intro w1 hb1 he1 hx; clear hx; have HP : Hid (Blk w1 w.heap.size #[.int .i64 0, .slice none 0 0] 138 ∧ Ext w w1) := ⟨hb1, he1⟩; clear hb1 he1)
   | (go_at_call 40; have q := hk2; clear q; refine (inNum_any hi2 HH.out.2.1 2).mono ?_; rintro e w3 ⟨rfl, hi3, hk3⟩; rw [← H2.out] at hi3 ⊢; rw [← HX.out.2]; rw [← HS3.out] at hi3)
   | (go_at_call 40; refine (inNum_any (HH.out.1.ext HP.out.2) HH.out.2.1 2).mono ?_; rintro e w2 ⟨rfl, hi2, hk2⟩; rw [← H1.out] at hi2 ⊢; rw [← HX.out.1])
   | (go_at_call 41; refine (inTake_any hi3 HH.out.2.1 d).mono ?_; rintro e w5 ⟨a5, m5, c5, rfl, hm5, ho5, hi5, hk5⟩; rw [← H4.out] at hi5 ho5; have HM : Hid (m5 = r4.2.length) := (show _ = _ by rw [H4.out]; exact hm5); clear hm5)
   | (go_at_call 48; refine (inPad_any hi5 HH.out.2.1).mono ?_; rintro e w6 ⟨⟨y6, rfl⟩, hi6, hk6⟩)
   | (have hb6 := ((((HP.out.1.but hk2 (show ¬ _ = _ by have := HH.out.2.2; omega)).but hk3 (show ¬ _ = _ by have := HH.out.2.2; omega)).but hk5 (show ¬ _ = _ by have := HH.out.2.2; omega)).but hk6 (show ¬ _ = _ by have := HH.out.2.2; omega)); refine wl_store (D := #[.int .i64 (x1 : Int), .slice a5 m5 c5]) rfl rowP rfl rfl rfl hb6 rfl rfl (one_par _ _ rfl) ?_; intro w7 hb7 hk7 hx; clear hx))
  refine bodyPost_ret (v := .agg #[.int .i64 (x1 : Int), .slice a5 m5 c5]) (results_cell_row (fn := Try.f102) (p := 2) (by rfl) _ _ w.heap.size 138 _ (0, 0) _ rfl hb7 Try.underlying138 rfl rfl) rfl ?_
  have hk := (((KeepBut.ext HP.out.2).trans hk2).trans hk3)
  have ho6 := (ho5.base hk.size).but hk6 (fun k e => by have := (ho5.lt e).1; have := HH.out.2.2; have := hk.size; show ¬ _ = _; omega)
  exact ⟨_, by rw [HX.out.1], ho6.but hk7 (ho6.ne hb6 (by decide)), hi6.but hk7 (show ¬ _ = _ by have := HH.out.2.2; omega) (hi6.own.ne hb6 (by decide)), keep_new ((hk.trans hk5).trans hk6) hk7 (Nat.le_refl _)⟩
set_option maxRecDepth 100000
theorem bytes_lt {w : World} {v : Value} {l : List Nat} (h : BytesAt w v l) (hne : l ≠ []) {k : Nat} (hk : blockOf v = some k) : k < w.heap.size := by
 obtain ⟨_, _, ⟨h0, _⟩ | ⟨ad, cap, rfl, _, _, hc⟩⟩ := h
 ·
  exact absurd h0 hne
 ·
  have hl : 0 < l.length := List.length_pos_iff.2 hne
  have := cell_lt (hc 0 hl)
  rw [add_block] at this
  cases hk
  exact this
/-- A slice that lies elsewhere than an Out and its bytes. -/
def Off (g : Nat) (v u : Value) (m : List Nat) : Prop := m ≠ [] → ∀ k, blockOf u = some k → k ≠ g ∧ v.ownBlock ≠ some k
theorem Moved.bytes {w w' : World} {g : Nat} {v v' u : Value} {m : List Nat} (hm : Moved w w' g v v') (hu : BytesAt w u m) (ho : Off g v u m) : BytesAt w' u m ∧ Off g v' u m := by
 by_cases h0 : m = []
 ·
  subst h0
  obtain ⟨h1, h2, ⟨_, rfl⟩ | ⟨ad, cap, rfl, h4, h5, _⟩⟩ := hu
  ·
   exact ⟨BytesAt.none _, fun h => absurd rfl h⟩
  ·
   exact ⟨⟨h1, h2, .inr ⟨ad, cap, rfl, h4, h5, fun j hj => by simp at hj⟩⟩, fun h => absurd rfl h⟩
 ·
  refine ⟨bytes_but hu hm.keep (fun k hk => ?_), fun _ k hk => ⟨(ho h0 k hk).1, fun e => ?_⟩⟩
  ·
   rintro (e | e)
   ·
    exact (ho h0 k hk).1 e
   ·
    exact (ho h0 k hk).2 e
  ·
   rcases hm.came k e with e1 | e1
   ·
    exact (ho h0 k hk).2 e1
   ·
    have := bytes_lt hu h0 hk; omega
theorem Moved.blk {w w' : World} {base g q t : Nat} {v v' : Value} {l : List Nat} {C : Array Value} (hm : Moved w w' g v v') (ho : OutAt w base g v l) (hb : Blk w q C t) (ht : t ≠ 5) (hq : q ≠ g) : Blk w' q C t :=
 hb.but hm.keep (fun e => e.elim hq (fun e => ho.own.ne hb ht q e rfl))
theorem wrapM (M : Nat) (h : M < 1000000) : IntKind.i64.wrap (M : Int) = (M : Int) ∧ IntKind.u64.wrap (M : Int) = (M : Int) ∧ wrap64 (M : Int) = (M : Int) ∧ (M : Int) % 18446744073709551616 = (M : Int) := by
 refine ⟨by rw [IntKind.wrap_i64]; omega, by rw [IntKind.wrap_u64]; omega, by unfold wrap64; omega, Int.emod_eq_of_lt (by omega) (by omega)⟩
theorem numB2 (N : Nat) : numB N 2 = be N 2 := rfl
set_option maxHeartbeats 2000000 in
theorem outParam_any {w : World} {base g : Nat} {v u : Value} {l m : List Nat} (h : OutAt w base g v l) (K : Nat) (hK : K < 65536) (hu : BytesAt w u m) (ho : Off g v u m) (hm : m.length ≤ 4000) (h4 : l.length % 4 = 0) (hl : l.length ≤ 800000) (hbase : base ≤ w.heap.size) :
  Calls Try.prog 98 #[ptr g, .agg #[.int .i64 (K : Int), u]] w fun e w' => (∃ y, e = .returned y) ∧ ∃ v', OutAt w' base g v' (l ++ parB ((K : Int), m)) ∧ Moved w w' g v v' := by
 obtain ⟨ua, uc, rfl, _, _⟩ := hu.form
 rename_i z1 z2
 clear z1 z2
 have HE : Hid (padB (((l ++ numB K 2) ++ numB (m.length + 4) 2) ++ m) = l ++ parB ((K : Int), m)) := show _ = _ by
  rw [padB_app (by rw [List.length_append, List.length_append, numB2, numB2, be_len, be_len]; omega), numB2, numB2]
  unfold parB
  simp
 have H : Hid (OutAt w base g v l ∧ g < w.heap.size ∧ l.length ≤ 800000 ∧ base ≤ w.heap.size ∧ m.length ≤ 4000) := ⟨h, h.blk.lt, hl, hbase, hm⟩
 have HU : Hid (BytesAt w (.slice ua m.length uc) m ∧ Off g v (.slice ua m.length uc) m) := ⟨hu, ho⟩
 have wK := (wrapM K (by omega)).2.1
 obtain ⟨M, hM⟩ : ∃ M, M = m.length + 4 := ⟨_, rfl⟩
 have HM : Hid (M = m.length + 4) := hM
 have eM : (m.length : Int) + 4 = (M : Int) := by omega
 have hM1 : M < 1000000 := by omega
 have wM1 := (wrapM M hM1).1
 have wM2 := (wrapM M hM1).2.1
 have wM3 := (wrapM M hM1).2.2.1
 have wM4 := (wrapM M hM1).2.2.2
 rw [← hM] at HE
 clear h hl hbase hu ho hM
 go_enter Try.func98, Try.ntmps98
 go_wp2_with (first
  | (refine wl_box (C := #[.int .i64 (K : Int), .slice ua m.length uc]) rfl rfl rfl ?_; intro w1 hb1 he1 hx; clear hx; have c0 := hb1.cell 0; have HB1 : Hid (OutAt w1 base g v l ∧ base ≤ w1.heap.size ∧ BytesAt w1 (.slice ua m.length uc) m) := ⟨H.out.1.ext he1, Nat.le_trans H.out.2.2.2.1 he1.size, HU.out.1.ext he1⟩; have HN1 : Hid (Blk w1 w.heap.size #[.int .i64 (K : Int), .slice ua m.length uc] 138 ∧ w.heap.size ≠ g) := ⟨hb1, by have := H.out; omega⟩; clear hb1)
  | (go_at_call 27; have q := hm2; clear q; refine (outNum_any ho2 M 2 (by have := H.out; have := numB_len K 2; rw [List.length_append]; omega) (Nat.le_trans HB1.out.2.1 hm2.keep.size)).mono ?_; rintro e w3 ⟨⟨y3, rfl⟩, v3, ho3, hm3⟩; have hb3 := hm3.blk ho2 HN2.out (by decide) HN1.out.2; have c1 := hb3.cell 1; have HN3 : Hid (Blk w3 w.heap.size #[.int .i64 (K : Int), .slice ua m.length uc] 138) := hb3; have HU3 : Hid _ := hm3.bytes HU2.out.1 HU2.out.2; clear hb3)
  | (go_at_call 27; refine (outNum_any HB1.out.1 K 2 (by have := H.out; omega) HB1.out.2.1).mono ?_; rintro e w2 ⟨⟨y2, rfl⟩, v2, ho2, hm2⟩; have hb2 := hm2.blk HB1.out.1 HN1.out.1 (by decide) HN1.out.2; have c1 := hb2.cell 1; have HN2 : Hid (Blk w2 w.heap.size #[.int .i64 (K : Int), .slice ua m.length uc] 138) := hb2; have HU2 : Hid _ := hm2.bytes HB1.out.2.2 HU.out.2; clear hb2)
  | (go_at_call 29; refine (outPut_any ho3 HU3.out.1 (by have := H.out; have := numB_len K 2; have := numB_len M 2; rw [List.length_append, List.length_append]; omega) (Nat.le_trans HB1.out.2.1 (Nat.le_trans hm2.keep.size hm3.keep.size))).mono ?_; rintro e w4 ⟨⟨y4, rfl⟩, v4, ho4, hm4⟩)
  | (go_at_call 30; refine (outPad_any ho4 (by have := H.out; have := numB_len K 2; have := numB_len M 2; rw [List.length_append, List.length_append, List.length_append]; omega) (Nat.le_trans HB1.out.2.1 (Nat.le_trans hm2.keep.size (Nat.le_trans hm3.keep.size hm4.keep.size)))).mono ?_; rintro e w5 ⟨⟨y5, rfl⟩, v5, ho5, hm5⟩))
 go_end0
 refine ⟨⟨_, rfl⟩, v5, by rw [← HE.out]; exact ho5, (((((Moved.ext he1 _ _).trans hm2).trans hm3).trans hm4).trans hm5)⟩
set_option maxRecDepth 100000
/-- The cells of parameters: the kind, the value's slice. -/
def pc (M : List (Par × Value)) : List Value := M.flatMap fun m => [.int .i64 m.1.1, m.2]
theorem pc_app (M N : List (Par × Value)) : pc (M ++ N) = pc M ++ pc N := by simp [pc]
theorem pc_get {M : List (Par × Value)} : ∀ {i : Nat} {m : Par × Value}, M[i]? = some m → (pc M)[i * 2]? = some (.int .i64 m.1.1) ∧ (pc M)[i * 2 + 1]? = some m.2 := by
 induction M with
 | nil => intro i m h; simp at h
 | cons x M ih =>
  intro i m h
  have e : pc (x :: M) = .int .i64 x.1.1 :: x.2 :: pc M := rfl
  cases i with
  | zero => simp at h; subst h; exact ⟨rfl, rfl⟩
  | succ i =>
   have := ih (i := i) (m := m) (by simpa using h)
   rw [e, show (i + 1) * 2 = i * 2 + 1 + 1 by omega]
   simpa using this
/-- A slice that reads as these parameters. -/
def ParsAt (w : World) (v : Value) (L : List Par) : Prop :=
 L.length ≤ maxLen ∧ ∃ a cap, v = .slice a L.length cap ∧ ∀ i p, L[i]? = some p → ∃ b off u, a = some ⟨b, off, none⟩ ∧ w.cell? ⟨b, off + i * 2, none⟩ = some (.int .i64 p.1) ∧ w.cell? ⟨b, off + i * 2 + 1, none⟩ = some u ∧ BytesAt w u p.2
theorem ParsAt.ext {w w' : World} {v : Value} {L : List Par} (h : ParsAt w v L) (he : Ext w w') : ParsAt w' v L := by
 obtain ⟨h1, a, cap, rfl, hc⟩ := h
 refine ⟨h1, a, cap, rfl, fun i p hp => ?_⟩
 obtain ⟨b, off, u, e, h2, h3, h4⟩ := hc i p hp
 exact ⟨b, off, u, e, he.cell h2, he.cell h3, h4.ext he⟩
/-- Parameters in a block of the own, their values in blocks of the own. -/
structure OwnL (e : TypeId) (w : World) (base : Nat) (v : Value) (L : List Par) : Prop where
 it : ∃ M : List (Par × Value), L = M.map (·.1) ∧ w.ownsRow base e 2 v M.length (pc M) ∧ ∀ m ∈ M, OB w base m.2 m.1.2
theorem OwnL.nil (e : TypeId) (w : World) (base : Nat) : OwnL e w base (.slice none 0 0) [] := ⟨[], rfl, World.ownsRow_nil _ _ _ _, fun m hm => by cases hm⟩
theorem OwnL.lt {e : TypeId} {w : World} {base : Nat} {v : Value} {L : List Par} (h : OwnL e w base v L) {g : Nat} (hg : v.ownBlock = some g) : base ≤ g ∧ ∃ C, Blk w g C e := by
 obtain ⟨M, _, hr, _⟩ := h
 rcases hr.2 with ⟨rfl, _⟩ | ⟨g', cap, cur, rfl, hb, hgb, _⟩
 ·
  cases hg
 ·
  cases hg; exact ⟨hb, cur, hgb⟩
theorem ownsRow_but {S : Nat → Prop} {w w' : World} {base e size n : Nat} {v : Value} {xs : List Value} (h : w.ownsRow base e size v n xs) (hk : KeepBut S w w') (hn : ∀ g, v.ownBlock = some g → ¬ S g) : w'.ownsRow base e size v n xs := by
 refine ⟨h.1, ?_⟩
 rcases h.2 with h0 | ⟨g, cap, cur, rfl, hb, hg, h4⟩
 ·
  exact .inl h0
 ·
  exact .inr ⟨g, cap, cur, rfl, hb, (hk.block g (Array.getElem?_eq_some_iff.1 hg).1 (hn g rfl)).trans hg, h4⟩
theorem OwnL.but {S : Nat → Prop} {e : TypeId} {w w' : World} {base : Nat} {v : Value} {L : List Par} (h : OwnL e w base v L) (hk : KeepBut S w w') (hn : ∀ k C, Blk w k C e ∨ Blk w k C 5 → base ≤ k → ¬ S k) : OwnL e w' base v L := by
 obtain ⟨M, hM, hr, ho⟩ := id h.it
 refine ⟨M, hM, ownsRow_but hr hk (fun g hg => ?_), fun m hm => (ho m hm).but hk (fun k hk' => ?_)⟩
 ·
  obtain ⟨h1, C, h2⟩ := h.lt hg
  exact hn g C (.inl h2) h1
 ·
  have hb := (ho m hm).lt hk'
  rcases (ho m hm).own.1.2 with ⟨e1, _⟩ | ⟨g', cap, cur, e1, _, hg, _⟩
  ·
   rw [e1] at hk'; cases hk'
  ·
   rw [e1] at hk'; cases hk'
   exact hn _ cur (.inr hg) hb.1
theorem OwnL.ext {e : TypeId} {w w' : World} {base : Nat} {v : Value} {L : List Par} (h : OwnL e w base v L) (he : Ext w w') : OwnL e w' base v L := h.but (KeepBut.ext (S := fun _ => False) he) (fun _ _ _ _ h => h)
theorem OwnL.base {e : TypeId} {w : World} {base base' : Nat} {v : Value} {L : List Par} (h : OwnL e w base v L) (hb : base' ≤ base) : OwnL e w base' v L := by
 obtain ⟨M, hM, hr, ho⟩ := h
 refine ⟨M, hM, ⟨hr.1, ?_⟩, fun m hm => (ho m hm).base hb⟩
 rcases hr.2 with h0 | ⟨g, cap, cur, rfl, h1, h2⟩
 ·
  exact .inl h0
 ·
  exact .inr ⟨g, cap, cur, rfl, Nat.le_trans hb h1, h2⟩
theorem OwnL.form {e : TypeId} {w : World} {base : Nat} {v : Value} {L : List Par} (h : OwnL e w base v L) : ∃ a cap, v = .slice a L.length cap := by
 obtain ⟨M, rfl, hr, _⟩ := h
 rw [List.length_map]
 rcases hr.2 with ⟨rfl, h0⟩ | ⟨g, cap, cur, rfl, _⟩
 ·
  exact ⟨none, 0, by rw [h0]⟩
 ·
  exact ⟨_, _, rfl⟩
theorem OwnL.pars {e : TypeId} {w : World} {base : Nat} {v : Value} {L : List Par} (h : OwnL e w base v L) : ParsAt w v L := by
 obtain ⟨M, rfl, hr, ho⟩ := h
 rcases hr.2 with ⟨rfl, h0⟩ | ⟨g, cap, cur, rfl, hb, hg, hnc, hcm, hcs, htk⟩
 ·
  have : M = [] := List.eq_nil_of_length_eq_zero h0
  subst this
  exact ⟨by simp, none, 0, rfl, fun i p hp => by simp at hp⟩
 ·
  refine ⟨by rw [List.length_map]; omega, some ⟨g, 0, none⟩, cap, by rw [List.length_map], fun i p hp => ?_⟩
  rw [List.getElem?_map] at hp
  obtain ⟨m, hm, rfl⟩ := Option.map_eq_some_iff.1 hp
  obtain ⟨h1, h2⟩ := pc_get hm
  have hi : i < M.length := (List.getElem?_eq_some_iff.1 hm).1
  have hbk : Blk w g cur e := hg
  rw [← htk, List.getElem?_take] at h1 h2
  rw [if_pos (by omega)] at h1 h2
  refine ⟨g, 0, m.2, rfl, ?_, ?_, (ho m (List.mem_of_getElem? hm)).bytes⟩
  ·
   rw [Nat.zero_add, hbk.cell]; simpa using h1
  ·
   rw [Nat.zero_add, hbk.cell]; simpa using h2
/-- What is known of a slice of parameters and its elements. -/
structure ParT (t e : TypeId) : Prop where
 ut : Try.prog.underlying t = some (.slice e)
 info : (Try.prog.info? e).map (fun i => (i.zero, i.size, i.bytes)) = some (some (.agg #[.int .i64 0, .slice none 0 0]), 2, 32)
 ne : e ≠ 5
theorem parT : ParT 142 138 := ⟨Try.underlying142, by kernel_rfl, by decide⟩
/-- One parameter put behind. -/
theorem run_pushP {t e : TypeId} (hT : ParT t e) (w : World) (base ty b : Nat) (v u : Value) (L : List Par) (k : Int) (val : List Nat) (hv : OwnL e w base v L) (h0 : w.cell? ⟨b, 0, none⟩ = some (.int .i64 k)) (h1 : w.cell? ⟨b, 1, none⟩ = some u) (hu : OB w base u val) (hlen : L.length ≤ 100000) (hbase : base ≤ w.heap.size) :
  ∃ a c w', (Builtin.append_ #[t, t] ty #[v, .slice (some ⟨b, 0, none⟩) 1 1]).run Try.prog w = .ok (.slice a (L.length + 1) c) w' ∧ OwnL e w' base (.slice a (L.length + 1) c) (L ++ [(k, val)]) ∧ KeepBut (fun q => v.ownBlock = some q) w w' ∧ ∀ g, (Value.slice a (L.length + 1) c).ownBlock = some g → v.ownBlock = some g ∨ g = w.heap.size := by
 obtain ⟨M, rfl, hr, ho⟩ := id hv.it
 obtain ⟨i, hi, hinf⟩ := Option.map_eq_some_iff.1 hT.info
 simp only [Prod.mk.injEq] at hinf
 obtain ⟨ua, uc, hue⟩ := hu.form
 rw [List.length_map] at hlen
 obtain ⟨v', w', hrun, g1, g2, _, g4⟩ := run_append_own_at (P := Try.prog) w base t ty e i _ 2 32 hT.ut hi hinf.1 hinf.2.1 hinf.2.2 rfl (by omega) v M.length (pc M) hr ⟨b, 0, none⟩ 1 1 [.int .i64 k, u] rfl
  (fun j x hx => by
   rw [add_plain, Nat.zero_add]
   match j with
   | 0 => simp at hx; subst hx; exact h0
   | 1 => simp at hx; subst hx; exact h1
   | j + 2 => simp at hx)
  (fun x hx => by
   simp at hx
   rcases hx with rfl | rfl
   ·
    rfl
   ·
    rw [hue]; rfl) (by unfold maxLen; omega) (by omega) hbase
 have hk : KeepBut (fun q => v.ownBlock = some q) w w' := KeepBut.grown g2 (fun r e => e)
 have hOB : ∀ x l, OB w base x l → OB w' base x l := fun x l hx => hx.but hk (fun q hq hvq => by
  obtain ⟨_, C, hC⟩ := hv.lt hvq
  exact hx.ne hC hT.ne q hq rfl)
 have hL : OwnL e w' base v' (M.map (·.1) ++ [(k, val)]) := ⟨M ++ [((k, val), u)], by simp, by
  rw [List.length_append, pc_app]; exact g1, fun m hm => by
  rcases List.mem_append.1 hm with hm | hm
  ·
   exact hOB _ _ (ho m hm)
  ·
   simp at hm; subst hm; exact hOB _ _ hu⟩
 obtain ⟨a, c, rfl⟩ := hL.form
 rw [List.length_append, List.length_singleton] at hL hrun g4
 refine ⟨a, c, w', hrun, hL, hk, fun g hg => ?_⟩
 rcases g4 with g4 | g4
 ·
  exact .inl (by rw [← g4]; exact hg)
 ·
  exact .inr (by have := g4.symm.trans hg; simpa using this.symm)
theorem exec_loadC {r : Operand → Value} {o : Oper} {t : TypeId} {n : Nat} (hT : RowT Try.prog t n) {x : Operand} {b off : Nat} {w : World} (ho : o.op = .load t x) (hx : r x = .pointer (some ⟨b, off, none⟩)) (L : List Value) (hL : ∀ j v, L[j]? = some v → w.cell? ⟨b, off + j, none⟩ = some v) (hn : L.length = n) :
  (execOp r o).run Try.prog w = .ok (.value (.agg L.toArray)) w := by
 obtain ⟨d, hu, hd⟩ := hT.d
 have := run_loadVar_mid (P := Try.prog) w b off t L d hL hu hd (by rw [hn]; exact hT.s)
 simp only [execOp, ho, hx, Instr.loadAt, Instr.sureAddr, Sem.run_bind, Sem.run_pure, Result.andThen_ok, this]
/-- A parameter loaded. -/
theorem wl_loadP {w : World} {ops : Array Oper} {rest : List Oper} {o : Oper} {a : Act} {Q : Exit → Act → World → Prop} (hgd : o.guard = none) {t : TypeId} (hT : RowT Try.prog t 2) {x : Operand} {b off : Nat} {v0 v1 : Value} (ho : o.op = .load t x) (hx : a.eval x = .pointer (some ⟨b, off, none⟩)) (h0 : w.cell? ⟨b, off, none⟩ = some v0) (h1 : w.cell? ⟨b, off + 1, none⟩ = some v1)
  (h : wpList Try.prog ops Q rest (a.put o.dst (.agg #[v0, v1])) w) : wpList Try.prog ops Q (o :: rest) a w :=
 wpList_of_run hgd (exec_loadC hT ho hx [v0, v1] (fun j v hv => by
  match j with
  | 0 => simp at hv; subst hv; exact h0
  | 1 => simp at hv; subst hv; exact h1
  | j + 2 => simp at hv) rfl) h
set_option maxRecDepth 100000
theorem zeroO : (Try.prog.info? 74).bind (·.zero) = some (.agg #[.slice none 0 0]) := by kernel_rfl
theorem Moved.extO {w0 w w' : World} {base g : Nat} {v v' : Value} {l : List Nat} (hm : Moved w w' g v v') (ho : OutAt w base g v l) (he : Ext w0 w) (hb : w0.heap.size ≤ base) (hg : w0.heap.size ≤ g) : Ext w0 w' :=
 he.of_but hm.keep (fun k e => e.elim (fun e => by omega) (fun e => Nat.le_trans hb (ho.own.lt e).1))
theorem writeB_app (A B : List Par) : writeB (A ++ B) = writeB A ++ writeB B := by simp [writeB]
theorem writeB_take (L : List Par) (i : Nat) : (writeB (L.take i)).length ≤ (writeB L).length := by
 have e : writeB L = writeB (L.take i) ++ writeB (L.drop i) := by rw [← writeB_app, List.take_append_drop]
 have e2 := congrArg List.length e
 rw [List.length_append] at e2
 omega
theorem goodP_of {k : Int} {m : List Nat} (h1 : isKd k = true) (h2 : m.length ≤ 4000) : goodP (k, m) = true := by
 unfold isKd at h1; simp at h1
 rw [goodP_iff]; exact ⟨h1.1, h1.2, h2⟩
theorem good_kd {p : Par} (h : goodP p = true) : isKd p.1 = true ∧ p.2.length ≤ 4000 := by
 have := (goodP_iff p).1 h
 exact ⟨by unfold isKd; simp; omega, this.2.2⟩
theorem take_getD {L : List Par} {i : Nat} {p : Par} (h : L[i]? = some p) : L.take (i + 1) = L.take i ++ [p] := by
 have hi := (List.getElem?_eq_some_iff.1 h)
 rw [List.take_succ_eq_append_getElem hi.1, hi.2]
/-- What Write answers. -/
def WriteIs (w : World) (L : List Par) (e : Ending) (w' : World) : Prop :=
 Ext w w' ∧ ((∃ a n c, e = .returned (.tuple #[.slice a n c, .nilIface]) ∧ n = (writeB L).length ∧ OB w' w.heap.size (.slice a n c) (writeB L) ∧ ∀ p ∈ L, goodP p = true) ∨ (e = .returned (.tuple #[.slice none 0 0, errF]) ∧ ∃ p ∈ L, goodP p = false))
set_option maxHeartbeats 4000000 in
theorem write_any {w : World} {v : Value} {L : List Par} (hv : ParsAt w v L) (hlen : (writeB L).length ≤ 700000) (hL : L.length ≤ 100000) :
  Calls Try.prog 89 #[v] w (WriteIs w L) := by
 obtain ⟨_, a, cap, rfl, hc⟩ := hv
 have HC : Hid (∀ i p, L[i]? = some p → ∃ b off u, a = some ⟨b, off, none⟩ ∧ w.cell? ⟨b, off + i * 2, none⟩ = some (.int .i64 p.1) ∧ w.cell? ⟨b, off + i * 2 + 1, none⟩ = some u ∧ BytesAt w u p.2) := hc
 have HL : Hid ((writeB L).length ≤ 700000) := hlen
 clear hc hlen
 obtain ⟨n, hn⟩ : ∃ n, n = L.length := ⟨_, rfl⟩
 have HN : Hid (n = L.length) := hn
 rw [← hn] at hL ⊢
 clear hn
 go_enter Try.func89, Try.ntmps89
 go_wp2_with (first
  | (refine wl_alloc rfl rfl zeroO ?_; intro w1 hb1 he1 hx; clear hx))
 have HO : Hid (OutAt w1 w.heap.size w.heap.size (.slice none 0 0) [] ∧ Ext w w1) := ⟨⟨hb1, OB.nil _ _⟩, he1⟩
 clear hb1 he1
 go_loopg [9] n (fun gm t wr => ∃ (i : Nat) (v1 : Value), i ≤ n ∧ gm = n - i ∧ t = .int .i64 (i : Int) ∧ Hid (OutAt wr w.heap.size w.heap.size v1 (writeB (L.take i)) ∧ Ext w wr ∧ ∀ p ∈ L.take i, goodP p = true))
 case atStart => exact ⟨0, _, Nat.zero_le _, rfl, rfl, HO.out.1, HO.out.2, fun p hp => by cases hp⟩
 case round =>
  obtain ⟨i, v1, hi, rfl, rfl, HR⟩ := hrel
  by_cases hlt : i < n
  ·
   have hd : decide ((i : Int) < (n : Int)) = true := decide_eq_true (by omega)
   obtain ⟨p, hp⟩ : ∃ p, L[i]? = some p := ⟨L[i]'(by rw [← HN.out]; exact hlt), by simp⟩
   have HP : Hid (L[i]? = some p ∧ L.take (i + 1) = L.take i ++ [p] ∧ p ∈ L) := ⟨hp, take_getD hp, List.mem_of_getElem? hp⟩
   obtain ⟨b, off, u, rfl, hc0, hc1, hbu⟩ := HC.out i p hp
   clear hp
   have c0 := HR.out.2.1.cell hc0
   have c1 := HR.out.2.1.cell hc1
   clear hc0 hc1
   obtain ⟨k, m⟩ := p
   obtain ⟨ua, uc, rfl, _, _⟩ := hbu.form
   rename_i z1 z2
   clear z1 z2
   have HU : Hid (BytesAt w (.slice ua m.length uc) m ∧ Off w.heap.size v1 (.slice ua m.length uc) m) := ⟨hbu, fun hne q hq => by
    have h1 := bytes_lt hbu hne hq
    exact ⟨by omega, fun e => by have := (HR.out.1.own.lt e).1; omega⟩⟩
   clear hbu
   have LD : ∀ {w2 : World}, Blk w2 wr.heap.size #[.int .i64 k, .slice ua m.length uc] 138 → w2.cell? ⟨wr.heap.size, 0, none⟩ = some (.int .i64 k) ∧ w2.cell? ⟨wr.heap.size, 1, none⟩ = some (.slice ua m.length uc) := fun h => ⟨h.cell 0, h.cell 1⟩
   cases hkd : isKd k with
   | false =>
    go_wp2_with (first
     | (refine wl_loadP rfl rowP rfl rfl c0 c1 ?_)
     | (refine wl_alloc rfl rfl zeroP ?_; intro w2 hb2 he2 hx; clear hx)
     | (refine wl_store (D := #[.int .i64 k, .slice ua m.length uc]) rfl rowP rfl rfl rfl hb2 rfl rfl (one_par _ _ rfl) ?_; intro w3 hb3 hk3 hx; clear hx; have c3 := (LD hb3).1; have c4 := (LD hb3).2; have HE3 : Hid (Ext wr w3) := he2.of_but hk3 (fun q e => by subst e; exact Nat.le_refl _); clear hk3 he2 hb2)
     | (go_at_call 97; refine (isKind_any _ _).mono ?_; rintro e w4 ⟨rfl, hw⟩; subst w4; rw [hkd]))
    go_ret2
    exact ⟨HR.out.2.1.trans HE3.out, .inr ⟨rfl, (k, m), HP.out.2.2, by
     cases hg : goodP (k, m) with
     | false => rfl
     | true => have := (good_kd hg).1; rw [show isKd (k, m).1 = isKd k from rfl, hkd] at this; cases this⟩⟩
   | true =>
    by_cases hm : m.length ≤ 4000
    ·
     have hdm : decide ((m.length : Int) > 4000) = false := decide_eq_false (by omega)
     have hgood := goodP_of hkd hm
     obtain ⟨K, rfl⟩ : ∃ K : Nat, k = (K : Int) := ⟨k.toNat, by have := (goodP_iff (k, m)).1 hgood; simp only at this; omega⟩
     have hK : K < 65536 := by have := (goodP_iff ((K : Int), m)).1 hgood; simp only at this; omega
     have HG : Hid (goodP ((K : Int), m) = true ∧ writeB (L.take (i + 1)) = writeB (L.take i) ++ parB ((K : Int), m)) := ⟨hgood, by rw [HP.out.2.1, writeB_snoc]⟩
     clear hgood
     go_wp2_with (first
      | (have q := HE3; clear q; refine wl_load rfl rowP rfl rfl hb3 rfl ?_)
      | (refine wl_loadP rfl rowP rfl rfl c0 c1 ?_)
      | (refine wl_alloc rfl rfl zeroP ?_; intro w2 hb2 he2 hx; clear hx)
      | (refine wl_store (D := #[.int .i64 (K : Int), .slice ua m.length uc]) rfl rowP rfl rfl rfl hb2 rfl rfl (one_par _ _ rfl) ?_; intro w3 hb3 hk3 hx; clear hx; have c3 := (LD hb3).1; have c4 := (LD hb3).2; have HE3 : Hid (Ext wr w3) := he2.of_but hk3 (fun q e => by subst e; exact Nat.le_refl _); clear hk3 he2 hb2)
      | (go_at_call 97; refine (isKind_any _ _).mono ?_; rintro e w4 ⟨rfl, hw⟩; subst w4; rw [hkd])
      | (go_at_call 98; refine (outParam_any (HR.out.1.ext HE3.out) K hK (HU.out.1.ext (HR.out.2.1.trans HE3.out)) HU.out.2 hm (writeB_mod _) (by have := writeB_take L i; have := HL.out; omega) (Nat.le_trans HR.out.2.1.size HE3.out.size)).mono ?_; rintro e w5 ⟨⟨y5, rfl⟩, v5, ho5, hm5⟩))
     go_roundg (n - (i + 1))
     case measure => omega
     case rel =>
      refine ⟨i + 1, v5, by omega, rfl, by simp, by rw [HG.out.2]; exact ho5, hm5.extO (HR.out.1.ext HE3.out) (HR.out.2.1.trans HE3.out) (Nat.le_refl _) (Nat.le_refl _), fun p hp => ?_⟩
      rw [HP.out.2.1] at hp
      rcases List.mem_append.1 hp with hp | hp
      ·
       exact HR.out.2.2 p hp
      ·
       simp at hp; subst hp; exact HG.out.1
    ·
     have hdm : decide ((m.length : Int) > 4000) = true := decide_eq_true (by omega)
     go_wp2_with (first
      | (refine wl_loadP rfl rowP rfl rfl c0 c1 ?_)
      | (refine wl_alloc rfl rfl zeroP ?_; intro w2 hb2 he2 hx; clear hx)
      | (refine wl_store (D := #[.int .i64 k, .slice ua m.length uc]) rfl rowP rfl rfl rfl hb2 rfl rfl (one_par _ _ rfl) ?_; intro w3 hb3 hk3 hx; clear hx; have c3 := (LD hb3).1; have c4 := (LD hb3).2; have HE3 : Hid (Ext wr w3) := he2.of_but hk3 (fun q e => by subst e; exact Nat.le_refl _); clear hk3 he2 hb2)
      | (go_at_call 97; refine (isKind_any _ _).mono ?_; rintro e w4 ⟨rfl, hw⟩; subst w4; rw [hkd]))
     go_ret2
     exact ⟨HR.out.2.1.trans HE3.out, .inr ⟨rfl, (k, m), HP.out.2.2, by
      cases hg : goodP (k, m) with
      | false => rfl
      | true => exact absurd (good_kd hg).2 hm⟩⟩
  ·
   have hd : decide ((i : Int) < (n : Int)) = false := decide_eq_false (by omega)
   have HT : Hid (L.take i = L) := List.take_of_length_le (by rw [← HN.out]; omega)
   rw [HT.out] at HR
   obtain ⟨oa, oc, rfl⟩ := HR.out.1.len
   obtain ⟨q, hq⟩ : ∃ q, q = (writeB L).length := ⟨_, rfl⟩
   have HQ : Hid (q = (writeB L).length) := hq
   rw [← hq] at HR
   clear hq
   have c0 := HR.out.1.blk.cell 0
   go_wp2
   go_ret2
   exact ⟨HR.out.2.1, .inl ⟨_, _, _, rfl, HQ.out, HR.out.1.own, HR.out.2.2⟩⟩
end Tlv
end Go.Proofs.Ytbahelhohkhkmaa
