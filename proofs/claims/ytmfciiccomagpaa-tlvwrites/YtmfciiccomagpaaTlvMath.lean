/- Numbers, noughts, readers and parameters, as lists of numbers. No condition. -/
import Derived.Test.YtmfciiccomagpaaWords
namespace Go.Proofs.Ytmfciiccomagpaa
namespace Tlv
set_option linter.unusedVariables false
abbrev AllB (l : List Nat) : Prop := ∀ x ∈ l, x < 256
theorem AllB.app {a b : List Nat} (h : AllB a) (k : AllB b) : AllB (a ++ b) := fun x hx => (List.mem_append.1 hx).elim (h x) (k x)
theorem AllB.drop {a : List Nat} (h : AllB a) (n : Nat) : AllB (a.drop n) := fun x hx => h x (List.mem_of_mem_drop hx)
theorem AllB.take {a : List Nat} (h : AllB a) (n : Nat) : AllB (a.take n) := fun x hx => h x (List.mem_of_mem_take hx)
theorem AllB.getD {a : List Nat} (h : AllB a) (n : Nat) : a.getD n 0 < 256 := by
  rcases Nat.lt_or_ge n a.length with hn | hn
  · exact h _ (getD_mem a 0 n hn)
  · rw [List.getD_eq_getElem?_getD, List.getElem?_eq_none hn]; decide
theorem zeros_all (n : Nat) : AllB (List.replicate n 0) := fun x hx => by rw [List.mem_replicate] at hx; omega
def ci (l : List Nat) : List Int := l.map (fun x : Nat => (x : Int))
theorem ci_len (l : List Nat) : (ci l).length = l.length := by simp [ci]
theorem ci_app (l m : List Nat) : ci (l ++ m) = ci l ++ ci m := by simp [ci]
theorem ci_get (l : List Nat) (j : Nat) : (ci l).getD j 0 = ((l.getD j 0 : Nat) : Int) := by
  rw [List.getD_eq_getElem?_getD, List.getD_eq_getElem?_getD, ci, List.getElem?_map]
  cases l[j]? <;> rfl

/-- The sizes that there are. -/
def isSz (n : Int) : Bool := n == 1 || n == 2 || n == 4 || n == 8
theorem isSz_iff (n : Int) : isSz n = true ↔ n = 1 ∨ n = 2 ∨ n = 4 ∨ n = 8 := by simp [isSz, or_assoc]
/-- The low bytes of a number, the high one first. -/
def be (n : Nat) : Nat → List Nat
  | 0 => []
  | k + 1 => (n / 256 ^ k % 256) :: be n k
theorem be_len (n : Nat) : ∀ k, (be n k).length = k
  | 0 => rfl
  | k + 1 => by rw [be, List.length_cons, be_len n k]
theorem be_all (n : Nat) : ∀ k, AllB (be n k)
  | 0 => fun x hx => by cases hx
  | k + 1 => fun x hx => by
    rw [be, List.mem_cons] at hx
    rcases hx with rfl | hx
    · exact Nat.mod_lt _ (by decide)
    · exact be_all n k x hx
def numB (n : Nat) (size : Int) : List Nat := if isSz size = true then be n size.toNat else []
theorem numB_all (n : Nat) (s : Int) : AllB (numB n s) := by
  unfold numB; split
  · exact be_all _ _
  · intro x hx; cases hx
theorem numB_len (n : Nat) (s : Int) : (numB n s).length ≤ 8 := by
  unfold numB; split
  · rename_i h
    rw [be_len]
    rcases (isSz_iff s).1 h with rfl | rfl | rfl | rfl <;> decide
  · simp
theorem numB_nil (n : Nat) (s : Int) : (numB n s).length = 0 ↔ isSz s = false := by
  unfold numB; split
  · rename_i h
    rw [be_len, h]
    rcases (isSz_iff s).1 h with rfl | rfl | rfl | rfl <;> decide
  · rename_i h
    simpa using h
/-- The number of bytes. -/
def val (l : List Nat) : Nat := l.foldl (fun a b => 256 * a + b) 0
theorem val_snoc (l : List Nat) (b : Nat) : val (l ++ [b]) = 256 * val l + b := by simp [val]
theorem val_nil : val [] = 0 := rfl
theorem val_lt {l : List Nat} (h : AllB l) (k : Nat) (hk : l.length ≤ k) : val l < 256 ^ k := by
  have key : ∀ (l : List Nat) (a : Nat), AllB l → l.foldl (fun a b => 256 * a + b) a < (a + 1) * 256 ^ l.length := by
    intro l
    induction l with
    | nil => intro a _; simp
    | cons x l ih =>
      intro a h
      have h1 := ih (256 * a + x) (fun y hy => h y (List.mem_cons_of_mem _ hy))
      have h2 := h x (List.mem_cons_self)
      rw [List.foldl_cons, List.length_cons, Nat.pow_succ]
      refine Nat.lt_of_lt_of_le h1 ?_
      have h3 : 256 * a + x + 1 ≤ (a + 1) * 256 := by omega
      calc (256 * a + x + 1) * 256 ^ l.length ≤ ((a + 1) * 256) * 256 ^ l.length := Nat.mul_le_mul_right _ h3
        _ = (a + 1) * (256 ^ l.length * 256) := by rw [Nat.mul_assoc, Nat.mul_comm 256]
  have := key l 0 h
  unfold val
  refine Nat.lt_of_lt_of_le this ?_
  rw [Nat.zero_add, Nat.one_mul]
  exact Nat.pow_le_pow_right (by decide) hk
/-- How many noughts are put behind. -/
def pads (n : Nat) : Nat := (4 - n % 4) % 4
theorem pads_lt (n : Nat) : pads n < 4 := Nat.mod_lt _ (by decide)
theorem pads_add (n : Nat) : (n + pads n) % 4 = 0 := by unfold pads; omega
theorem pads_zero {n : Nat} (h : n % 4 = 0) : pads n = 0 := by unfold pads; omega
theorem pads_pos {n : Nat} (h : n % 4 ≠ 0) : pads n = pads (n + 1) + 1 := by unfold pads; omega
theorem pads_off {a b : Nat} (h : a % 4 = 0) : pads (a + b) = pads b := by unfold pads; omega
def padB (l : List Nat) : List Nat := l ++ List.replicate (pads l.length) 0
theorem padB_all {l : List Nat} (h : AllB l) : AllB (padB l) := h.app (zeros_all _)
theorem padB_len (l : List Nat) : (padB l).length = l.length + pads l.length := by unfold padB; simp
theorem padB_app {l m : List Nat} (h : l.length % 4 = 0) : padB (l ++ m) = l ++ padB m := by
  unfold padB; rw [List.length_append, pads_off h, List.append_assoc]

/-- A reader: its place, or wrong. -/
def takeS (B : List Nat) (s : Option Nat) (n : Int) : Option Nat × List Nat :=
  match s with
  | none => (none, [])
  | some a => if 0 ≤ n ∧ n ≤ (B.length : Int) - a then (some (a + n.toNat), (B.drop a).take n.toNat) else (none, [])
def numS (B : List Nat) (s : Option Nat) (size : Int) : Option Nat × Nat :=
  if isSz size = true then ((takeS B s size).1, val (takeS B s size).2) else (none, 0)
def allZ (l : List Nat) : Bool := l.all (· == 0)
def padS (B : List Nat) (s : Option Nat) : Option Nat :=
  match s with
  | none => none
  | some a => if allZ (takeS B (some a) (pads a)).2 = true then (takeS B (some a) (pads a)).1 else none
def leftS (B : List Nat) (s : Option Nat) : Nat :=
  match s with
  | none => 0
  | some a => B.length - a
def endS (B : List Nat) (s : Option Nat) : Bool := s.isSome && leftS B s == 0
/-- The place lies in the bytes. -/
def InB (B : List Nat) (s : Option Nat) : Prop := ∀ a, s = some a → a ≤ B.length
theorem takeS_in {B : List Nat} {s : Option Nat} {n : Int} (h : InB B s) : InB B (takeS B s n).1 := by
  intro a ha
  unfold takeS at ha
  cases s with
  | none => cases ha
  | some x =>
    simp only at ha
    have := h x rfl
    split at ha
    · simp only [Option.some.injEq] at ha; omega
    · cases ha
theorem takeS_all {B : List Nat} (h : AllB B) (s : Option Nat) (n : Int) : AllB (takeS B s n).2 := by
  unfold takeS
  cases s with
  | none => intro x hx; cases hx
  | some a =>
    simp only
    split
    · exact (h.drop a).take _
    · intro x hx; cases hx
theorem takeS_len (B : List Nat) (s : Option Nat) (n : Int) : (takeS B s n).2.length ≤ B.length := by
  unfold takeS
  cases s with
  | none => simp
  | some a =>
    simp only
    split
    · rw [List.length_take, List.length_drop]; omega
    · simp
theorem numS_in {B : List Nat} {s : Option Nat} {n : Int} (h : InB B s) : InB B (numS B s n).1 := by
  unfold numS; split
  · exact takeS_in h
  · intro a ha; cases ha
theorem numS_lt {B : List Nat} (h : AllB B) (s : Option Nat) (n : Int) : (numS B s n).2 < 18446744073709551616 := by
  unfold numS; split
  · rename_i hs
    refine val_lt (takeS_all h s n) 8 ?_
    unfold takeS
    cases s with
    | none => simp
    | some a =>
      simp only
      split
      · rw [List.length_take]
        rcases (isSz_iff n).1 hs with rfl | rfl | rfl | rfl <;> simp <;> omega
      · simp
  · simp
theorem padS_in {B : List Nat} {s : Option Nat} (h : InB B s) : InB B (padS B s) := by
  intro a ha
  unfold padS at ha
  cases s with
  | none => cases ha
  | some x =>
    simp only at ha
    split at ha
    · exact takeS_in h a ha
    · cases ha
theorem takeS_yes {B : List Nat} {a : Nat} {n : Int} (h1 : 0 ≤ n) (h2 : n ≤ (B.length : Int) - a) : takeS B (some a) n = (some (a + n.toNat), (B.drop a).take n.toNat) := if_pos ⟨h1, h2⟩
theorem takeS_no {B : List Nat} {a : Nat} {n : Int} (h : ¬ (0 ≤ n ∧ n ≤ (B.length : Int) - a)) : takeS B (some a) n = (none, []) := if_neg h
theorem takeS_none (B : List Nat) (n : Int) : takeS B none n = (none, []) := rfl
theorem padS_some (B : List Nat) (a : Nat) : padS B (some a) = if allZ (takeS B (some a) (pads a)).2 = true then (takeS B (some a) (pads a)).1 else none := rfl
theorem allZ_cons (x : Nat) (l : List Nat) : allZ (x :: l) = (x == 0 && allZ l) := rfl
theorem allZ_zero (l : List Nat) : allZ (0 :: l) = allZ l := rfl
theorem allZ_snoc (l : List Nat) (x : Nat) : allZ (l ++ [x]) = (allZ l && x == 0) := by simp [allZ]
theorem allZ_eq {l : List Nat} (h : allZ l = true) : l = List.replicate l.length 0 := by
  rw [List.eq_replicate_iff]
  refine ⟨rfl, fun x hx => ?_⟩
  have := List.all_eq_true.1 h x hx
  simpa using this
theorem allZ_rep (n : Nat) : allZ (List.replicate n 0) = true := by
  rw [allZ, List.all_eq_true]
  intro x hx
  rw [List.mem_replicate] at hx
  simp [hx.2]
theorem padS_zero {B : List Nat} {a : Nat} (h : a % 4 = 0) (ha : a ≤ B.length) : padS B (some a) = some a := by
  rw [padS_some, pads_zero h, takeS_yes (by simp) (by simp; omega)]
  simp [allZ]
theorem padS_out {B : List Nat} {a : Nat} (h : a % 4 ≠ 0) (ha : B.length ≤ a) : padS B (some a) = none := by
  have := pads_pos h
  rw [padS_some, takeS_no (by omega)]
  simp
theorem drop_next {B : List Nat} {a : Nat} (ha : a < B.length) : B.drop a = B.getD a 0 :: B.drop (a + 1) := by
  rw [List.drop_eq_getElem_cons ha]; simp [List.getD_eq_getElem?_getD, ha]
theorem padS_bad {B : List Nat} {a : Nat} (h : a % 4 ≠ 0) (ha : a < B.length) (hb : B.getD a 0 ≠ 0) : padS B (some a) = none := by
  have hp := pads_pos h
  rw [padS_some]
  by_cases hc : ((pads a : Nat) : Int) ≤ (B.length : Int) - (a : Int)
  · rw [takeS_yes (by omega) hc, Int.toNat_natCast, drop_next ha, hp, List.take_succ_cons]
    exact if_neg (by rw [allZ_cons, beq_false_of_ne hb]; simp)
  · rw [takeS_no (by omega)]; simp
theorem padS_step {B : List Nat} {a : Nat} (h : a % 4 ≠ 0) (ha : a < B.length) (hb : B.getD a 0 = 0) : padS B (some a) = padS B (some (a + 1)) := by
  have hp := pads_pos h
  rw [padS_some, padS_some]
  by_cases hc : ((pads (a + 1) : Nat) : Int) ≤ (B.length : Int) - ((a + 1 : Nat) : Int)
  · rw [takeS_yes (a := a) (by omega) (by omega), takeS_yes (by omega) hc, Int.toNat_natCast, Int.toNat_natCast, drop_next ha, hb, hp, List.take_succ_cons]
    show (if allZ (0 :: (B.drop (a + 1)).take (pads (a + 1))) = true then some (a + (pads (a + 1) + 1)) else none) = if allZ ((B.drop (a + 1)).take (pads (a + 1))) = true then some (a + 1 + pads (a + 1)) else none
    rw [allZ_zero, show a + (pads (a + 1) + 1) = a + 1 + pads (a + 1) by omega]
  · rw [takeS_no (a := a) (by omega), takeS_no (by omega)]

/-- A parameter: its kind and its value. -/
abbrev Par := Int × List Nat
def goodP (p : Par) : Bool := decide (0 ≤ p.1) && (decide (p.1 ≤ 65535) && decide (p.2.length ≤ 4000))
theorem goodP_iff (p : Par) : goodP p = true ↔ 0 ≤ p.1 ∧ p.1 ≤ 65535 ∧ p.2.length ≤ 4000 := by simp [goodP]
def parB (p : Par) : List Nat := be p.1.toNat 2 ++ be (p.2.length + 4) 2 ++ padB p.2
theorem parB_len (p : Par) : (parB p).length = 4 + (p.2.length + pads p.2.length) := by
  unfold parB; rw [List.length_append, List.length_append, be_len, be_len, padB_len]
theorem parB_mod (p : Par) : (parB p).length % 4 = 0 := by rw [parB_len]; have := pads_add p.2.length; omega
theorem parB_all {p : Par} (h : AllB p.2) : AllB (parB p) := ((be_all _ _).app (be_all _ _)).app (padB_all h)
def writeB (L : List Par) : List Nat := (L.map parB).flatten
theorem writeB_snoc (L : List Par) (p : Par) : writeB (L ++ [p]) = writeB L ++ parB p := by simp [writeB]
theorem writeB_cons (p : Par) (L : List Par) : writeB (p :: L) = parB p ++ writeB L := by simp [writeB]
theorem writeB_mod : ∀ L : List Par, (writeB L).length % 4 = 0
  | [] => rfl
  | p :: L => by rw [writeB_cons, List.length_append]; have := parB_mod p; have := writeB_mod L; omega
theorem writeB_all : ∀ L : List Par, (∀ p ∈ L, AllB p.2) → AllB (writeB L)
  | [], _ => fun x hx => by cases hx
  | p :: L, h => by rw [writeB_cons]; exact (parB_all (h p List.mem_cons_self)).app (writeB_all L (fun q hq => h q (List.mem_cons_of_mem _ hq)))
theorem writeB_len : ∀ L : List Par, (∀ p ∈ L, p.2.length ≤ 5000) → (writeB L).length ≤ 6000 * L.length
  | [], _ => by simp [writeB]
  | p :: L, h => by
    rw [writeB_cons, List.length_append, parB_len, List.length_cons]
    have h1 := h p List.mem_cons_self
    have h2 := writeB_len L (fun q hq => h q (List.mem_cons_of_mem _ hq))
    have := pads_lt p.2.length
    omega
/-- How long a parameter says it is; as many with the noughts. -/
def lenP (b : List Nat) : Nat := b.getD 2 0 * 256 + b.getD 3 0
def allP (b : List Nat) : Nat := (lenP b + 3) / 4 * 4
def okP (b : List Nat) : Bool := decide (4 ≤ b.length) && (decide (4 ≤ lenP b) && (decide (lenP b ≤ 4004) && (decide (allP b ≤ b.length) && allZ ((b.take (allP b)).drop (lenP b)))))
theorem okP_iff (b : List Nat) : okP b = true ↔ 4 ≤ b.length ∧ 4 ≤ lenP b ∧ lenP b ≤ 4004 ∧ allP b ≤ b.length ∧ allZ ((b.take (allP b)).drop (lenP b)) = true := by simp [okP]
def headP (b : List Nat) : Par := (((b.getD 0 0 * 256 + b.getD 1 0 : Nat) : Int), (b.take (lenP b)).drop 4)
theorem allP_pos {b : List Nat} (h : okP b = true) : 4 ≤ allP b := by
  have := (okP_iff b).1 h; unfold allP; omega
theorem allP_mod (b : List Nat) : allP b % 4 = 0 := by unfold allP; omega
/-- The parameters of bytes. -/
def readAll (b : List Nat) : Option (List Par) :=
  if b = [] then some [] else
  if h : okP b = true then (readAll (b.drop (allP b))).map (headP b :: ·) else none
  termination_by b.length
  decreasing_by
    have h1 := allP_pos h
    have h2 := ((okP_iff b).1 h).1
    simp only [List.length_drop]
    omega
theorem readAll_nil : readAll [] = some [] := by rw [readAll]; simp
theorem readAll_bad {b : List Nat} (h0 : b ≠ []) (h : okP b = false) : readAll b = none := by rw [readAll]; simp [h0, h]
theorem readAll_ok {b : List Nat} (h0 : b ≠ []) (h : okP b = true) : readAll b = (readAll (b.drop (allP b))).map (headP b :: ·) := by rw [readAll]; simp [h0, h]
end Tlv
end Go.Proofs.Ytmfciiccomagpaa
