/- Parameters there and back; a parameter as a reader reads it. No condition. -/
import Derived.Test.YtmfciiccomagpaaTlvMath
namespace Go.Proofs.Ytmfciiccomagpaa
namespace Tlv
set_option linter.unusedVariables false
theorem be2 (n : Nat) : be n 2 = [n / 256 % 256, n % 256] := by simp [be]
theorem be2_of {x y : Nat} (hx : x < 256) (hy : y < 256) : be (x * 256 + y) 2 = [x, y] := by
  rw [be2, show (x * 256 + y) / 256 % 256 = x by omega, show (x * 256 + y) % 256 = y by omega]
theorem allP_eq {b : List Nat} (h : 4 ≤ lenP b) : allP b = lenP b + pads (lenP b) := by unfold allP pads; omega
theorem pads4 {n : Nat} (h : 4 ≤ n) : pads n = pads (n - 4) := by unfold pads; omega
theorem parB_form (p : Par) (r : List Nat) : parB p ++ r = (p.1.toNat / 256 % 256) :: (p.1.toNat % 256) :: ((p.2.length + 4) / 256 % 256) :: ((p.2.length + 4) % 256) :: (p.2 ++ (List.replicate (pads p.2.length) 0 ++ r)) := by
  unfold parB padB; rw [be2, be2]; simp
theorem read_par {p : Par} (hg : goodP p = true) (r : List Nat) : okP (parB p ++ r) = true ∧ headP (parB p ++ r) = p ∧ allP (parB p ++ r) = (parB p).length := by
  obtain ⟨h1, h2, h3⟩ := (goodP_iff p).1 hg
  have hl : lenP (parB p ++ r) = p.2.length + 4 := by
    rw [parB_form]; unfold lenP
    simp only [List.getD_cons_succ, List.getD_cons_zero]; omega
  have ha : allP (parB p ++ r) = (parB p).length := by
    rw [allP_eq (by rw [hl]; omega), hl, parB_len, show pads (p.2.length + 4) = pads p.2.length by unfold pads; omega]; omega
  refine ⟨?_, ?_, ha⟩
  · rw [okP_iff, ha, hl]
    have hpl := parB_len p
    refine ⟨by rw [List.length_append]; omega, by omega, by omega, by rw [List.length_append]; omega, ?_⟩
    rw [List.take_append_of_le_length (Nat.le_refl _), List.take_length]
    have := parB_form p []
    rw [List.append_nil, List.append_nil] at this
    rw [this, show p.2.length + 4 = p.2.length + 1 + 1 + 1 + 1 by omega]
    simp only [List.drop_succ_cons]
    rw [List.drop_append_of_le_length (Nat.le_refl _), List.drop_length, List.nil_append]
    exact allZ_rep _
  · unfold headP
    rw [hl, parB_form]
    have e1 : ((p.1.toNat / 256 % 256 * 256 + p.1.toNat % 256 : Nat) : Int) = p.1 := by omega
    simp only [List.getD_cons_succ, List.getD_cons_zero]
    rw [e1, show p.2.length + 4 = p.2.length + 1 + 1 + 1 + 1 by omega]
    simp only [List.take_succ_cons, List.drop_succ_cons, List.drop_zero]
    rw [List.take_append_of_le_length (Nat.le_refl _), List.take_length]
/-- What was written is read. -/
theorem readAll_write : ∀ L : List Par, (∀ p ∈ L, goodP p = true) → readAll (writeB L) = some L
  | [], _ => readAll_nil
  | p :: L, h => by
    obtain ⟨h1, h2, h3⟩ := read_par (h p List.mem_cons_self) (writeB L)
    rw [writeB_cons, readAll_ok (by rw [parB_form]; simp) h1, h2, h3, List.drop_append_of_le_length (Nat.le_refl _), List.drop_length, List.nil_append, readAll_write L (fun q hq => h q (List.mem_cons_of_mem _ hq))]
    rfl
theorem take4 {b : List Nat} (h : 4 ≤ b.length) : b.take 4 = [b.getD 0 0, b.getD 1 0, b.getD 2 0, b.getD 3 0] := by
  match b, h with
  | x0 :: x1 :: x2 :: x3 :: r, _ => simp
theorem par_of {b : List Nat} (hb : AllB b) (h : okP b = true) : goodP (headP b) = true ∧ AllB (headP b).2 ∧ b = parB (headP b) ++ b.drop (allP b) := by
  obtain ⟨h1, h2, h3, h4, h5⟩ := (okP_iff b).1 h
  have g0 := hb.getD 0
  have g1 := hb.getD 1
  have g2 := hb.getD 2
  have g3 := hb.getD 3
  have hle : lenP b ≤ allP b := by rw [allP_eq h2]; omega
  have hvl : (headP b).2.length = lenP b - 4 := by
    unfold headP; simp only [List.length_drop, List.length_take]; omega
  refine ⟨?_, (hb.take _).drop _, ?_⟩
  · rw [goodP_iff, hvl]
    unfold headP; simp only; omega
  · have hk : (headP b).1.toNat = b.getD 0 0 * 256 + b.getD 1 0 := by unfold headP; simp only; exact Int.toNat_natCast _
    have e1 : parB (headP b) = b.take (allP b) := by
      have q1 : b.take (allP b) = b.take (lenP b) ++ (b.take (allP b)).drop (lenP b) := by
        conv => lhs; rw [← List.take_append_drop (lenP b) (b.take (allP b)), List.take_take, Nat.min_eq_left hle]
      have q2 : b.take (lenP b) = b.take 4 ++ (b.take (lenP b)).drop 4 := by
        conv => lhs; rw [← List.take_append_drop 4 (b.take (lenP b)), List.take_take, Nat.min_eq_left h2]
      have q3 : (b.take (allP b)).drop (lenP b) = List.replicate (pads (headP b).2.length) 0 := by
        rw [allZ_eq h5, List.length_drop, List.length_take, Nat.min_eq_left h4, hvl, ← pads4 h2, allP_eq h2, Nat.add_sub_cancel_left]
      rw [q1, q3, q2, take4 h1]
      unfold parB padB
      rw [hk, hvl, show lenP b - 4 + 4 = b.getD 2 0 * 256 + b.getD 3 0 by unfold lenP at h2 ⊢; omega, be2_of g0 g1, be2_of g2 g3, ← hvl]
      simp [headP]
    rw [e1, List.take_append_drop]
/-- What is read, written again, has the same bytes. -/
theorem readAll_some : ∀ (n : Nat) (b : List Nat) (L : List Par), b.length ≤ n → AllB b → readAll b = some L → (∀ p ∈ L, goodP p = true ∧ AllB p.2) ∧ writeB L = b := by
  intro n
  induction n with
  | zero =>
    intro b L hn _ h
    obtain rfl : b = [] := List.eq_nil_of_length_eq_zero (by omega)
    rw [readAll_nil] at h
    cases h
    exact ⟨(fun p hp => by cases hp), rfl⟩
  | succ n ih =>
    intro b L hn hb h
    by_cases h0 : b = []
    · subst h0
      rw [readAll_nil] at h
      cases h
      exact ⟨(fun p hp => by cases hp), rfl⟩
    · cases hk : okP b with
      | false => rw [readAll_bad h0 hk] at h; cases h
      | true =>
        rw [readAll_ok h0 hk] at h
        obtain ⟨L', hL, rfl⟩ := Option.map_eq_some_iff.1 h
        obtain ⟨g1, g2, g3⟩ := par_of hb hk
        have hp := allP_pos hk
        have hl := ((okP_iff b).1 hk).1
        obtain ⟨i1, i2⟩ := ih (b.drop (allP b)) L' (by rw [List.length_drop]; omega) (hb.drop _) hL
        refine ⟨fun p hp => ?_, ?_⟩
        · rcases List.mem_cons.1 hp with rfl | hp
          · exact ⟨g1, g2⟩
          · exact i1 p hp
        · rw [writeB_cons, i2]; exact g3.symm
theorem readAll_len : ∀ (n : Nat) (b : List Nat) (L : List Par), b.length ≤ n → readAll b = some L → 4 * L.length ≤ b.length := by
  intro n
  induction n with
  | zero =>
    intro b L hn h
    obtain rfl : b = [] := List.eq_nil_of_length_eq_zero (by omega)
    rw [readAll_nil] at h
    cases h
    simp
  | succ n ih =>
    intro b L hn h
    by_cases h0 : b = []
    · subst h0
      rw [readAll_nil] at h
      cases h
      simp
    · cases hk : okP b with
      | false => rw [readAll_bad h0 hk] at h; cases h
      | true =>
        rw [readAll_ok h0 hk] at h
        obtain ⟨L', hL, rfl⟩ := Option.map_eq_some_iff.1 h
        have hp := allP_pos hk
        have hl := ((okP_iff b).1 hk)
        have := ih (b.drop (allP b)) L' (by rw [List.length_drop]; omega) hL
        rw [List.length_drop] at this
        rw [List.length_cons]
        omega

theorem numS_none (B : List Nat) (n : Int) : numS B none n = (none, 0) := by unfold numS takeS; split <;> rfl
theorem numS2_yes {B : List Nat} {a : Nat} (h : a + 2 ≤ B.length) : numS B (some a) 2 = (some (a + 2), 256 * B.getD a 0 + B.getD (a + 1) 0) := by
  unfold numS
  rw [if_pos (by decide), takeS_yes (by decide) (by omega), drop_next (by omega : a < B.length), drop_next (by omega : a + 1 < B.length)]
  show (some (a + 2), val [B.getD a 0, B.getD (a + 1) 0]) = _
  simp [val]
theorem numS2_no {B : List Nat} {a : Nat} (h : B.length < a + 2) : numS B (some a) 2 = (none, 0) := by
  unfold numS
  rw [if_pos (by decide), takeS_no (by omega)]
  rfl
/-- A parameter, as a reader reads it: the reader then, the parameter. -/
def paramS (B : List Nat) (s : Option Nat) : Option Nat × Par :=
  (padS B (takeS B (if (4000 : Int) < ((numS B (numS B s 2).1 2).2 : Int) - 4 then none else (numS B (numS B s 2).1 2).1) (((numS B (numS B s 2).1 2).2 : Int) - 4)).1,
   (((numS B s 2).2 : Int), (takeS B (if (4000 : Int) < ((numS B (numS B s 2).1 2).2 : Int) - 4 then none else (numS B (numS B s 2).1 2).1) (((numS B (numS B s 2).1 2).2 : Int) - 4)).2))
theorem getD_drop (B : List Nat) (a j : Nat) : (B.drop a).getD j 0 = B.getD (a + j) 0 := by
  rw [List.getD_eq_getElem?_getD, List.getD_eq_getElem?_getD, List.getElem?_drop]
theorem lenP_drop (B : List Nat) (a : Nat) : lenP (B.drop a) = 256 * B.getD (a + 2) 0 + B.getD (a + 3) 0 := by
  unfold lenP; rw [getD_drop, getD_drop]; omega
theorem paramS_all {B : List Nat} (hB : AllB B) (s : Option Nat) : AllB (paramS B s).2.2 := takeS_all hB _ _
theorem paramS_in {B : List Nat} {s : Option Nat} (h : InB B s) : InB B (paramS B s).1 := by
  refine padS_in (takeS_in ?_)
  split
  · intro a ha; cases ha
  · exact numS_in (numS_in h)
theorem paramS_bad {B : List Nat} {a : Nat} (ha : a % 4 = 0) (hk : okP (B.drop a) = false) : (paramS B (some a)).1 = none := by
  unfold paramS
  simp only
  by_cases h2 : a + 2 ≤ B.length
  · rw [numS2_yes h2]
    by_cases h4 : a + 2 + 2 ≤ B.length
    · rw [numS2_yes h4]
      simp only
      rw [show a + 2 + 1 = a + 3 by omega, ← lenP_drop]
      by_cases hb : (4000 : Int) < (lenP (B.drop a) : Int) - 4
      · rw [if_pos hb]; rfl
      · rw [if_neg hb]
        by_cases ht : 0 ≤ (lenP (B.drop a) : Int) - 4 ∧ (lenP (B.drop a) : Int) - 4 ≤ (B.length : Int) - ((a + 2 + 2 : Nat) : Int)
        · rw [takeS_yes ht.1 ht.2]
          simp only
          rw [show a + 2 + 2 + ((lenP (B.drop a) : Int) - 4).toNat = a + lenP (B.drop a) by omega, padS_some, pads_off ha]
          by_cases hp : ((pads (lenP (B.drop a)) : Nat) : Int) ≤ (B.length : Int) - ((a + lenP (B.drop a) : Nat) : Int)
          · rw [takeS_yes (by omega) hp]
            simp only
            rw [if_neg]
            intro hz
            have hap := allP_eq (b := B.drop a) (by omega)
            have : okP (B.drop a) = true := by
              rw [okP_iff]
              refine ⟨by rw [List.length_drop]; omega, by omega, by omega, by rw [List.length_drop]; omega, ?_⟩
              rw [List.drop_take, List.drop_drop, hap, Nat.add_sub_cancel_left]
              rw [Int.toNat_natCast] at hz
              exact hz
            rw [hk] at this; cases this
          · rw [takeS_no (by omega)]; simp
        · rw [takeS_no ht]; rfl
    · rw [numS2_no (by omega)]; rfl
  · rw [numS2_no (by omega), numS_none]; rfl
theorem paramS_ok {B : List Nat} {a : Nat} (ha : a % 4 = 0) (hk : okP (B.drop a) = true) : paramS B (some a) = (some (a + allP (B.drop a)), headP (B.drop a)) := by
  obtain ⟨h1, h2, h3, h4, h5⟩ := (okP_iff _).1 hk
  rw [List.length_drop] at h1 h4
  have hap := allP_eq h2
  unfold paramS
  rw [numS2_yes (by omega), numS2_yes (by omega)]
  simp only
  rw [show a + 2 + 1 = a + 3 by omega, ← lenP_drop, if_neg (by omega), takeS_yes (by omega) (by omega)]
  simp only
  rw [show a + 2 + 2 + ((lenP (B.drop a) : Int) - 4).toNat = a + lenP (B.drop a) by omega, padS_some, pads_off ha, takeS_yes (by omega) (by omega)]
  rw [List.drop_take, List.drop_drop, hap, Nat.add_sub_cancel_left] at h5
  rw [Int.toNat_natCast, if_pos h5, hap]
  refine Prod.ext (by simp only; congr 1; omega) (Prod.ext ?_ ?_)
  · unfold headP; simp only; rw [getD_drop, getD_drop]; simp only [Nat.add_zero]; omega
  · unfold headP; simp only; rw [List.drop_take, List.drop_drop, show ((lenP (B.drop a) : Int) - 4).toNat = lenP (B.drop a) - 4 by omega]
end Tlv
end Go.Proofs.Ytmfciiccomagpaa
