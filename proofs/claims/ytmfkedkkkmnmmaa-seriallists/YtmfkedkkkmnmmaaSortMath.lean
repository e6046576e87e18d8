/- Numbers sorted by how far they are behind one, each once: the document's insertion comes to what sorting and striking doubles come to. No condition of its own. -/
import Derived.Test.YtmfkedkkkmnmmaaSer
import Derived.Lib.SlicesCompact
namespace Go.Proofs.Ytmfkedkkkmnmmaa
set_option linter.unusedVariables false

/-- One step of the document's insertion. -/
def Ser.put (f : Int → Int) (x : Int) (s : List Int × Bool) (o : Int) : List Int × Bool :=
  ((if !s.2 && decide (f x ≤ f o) then s.1 ++ [x] else s.1) ++ (if o ≠ x then [o] else []), s.2 || decide (f x ≤ f o))
def Ser.ins (f : Int → Int) (x : Int) (out : List Int) : List Int :=
  let s := out.foldl (Ser.put f x) ([], false)
  if s.2 then s.1 else s.1 ++ [x]
def Ser.sort (f : Int → Int) (l : List Int) : List Int := l.foldl (fun out x => Ser.ins f x out) []
abbrev Ser.Up (f : Int → Int) (l : List Int) : Prop := l.Pairwise fun a b => f a < f b

theorem Ser.put_true (f : Int → Int) (x : Int) : ∀ (r acc : List Int), r.foldl (Ser.put f x) (acc, true) = (acc ++ r.filter (fun o => decide (o ≠ x)), true)
  | [], acc => by simp
  | o :: r, acc => by
    rw [List.foldl_cons]
    have : Ser.put f x (acc, true) o = (acc ++ (if o ≠ x then [o] else []), true) := by simp [Ser.put]
    rw [this, Ser.put_true f x r]
    by_cases h : o = x <;> simp [h]
theorem Ser.put_false (f : Int → Int) (x : Int) : ∀ (r acc : List Int), (∀ o ∈ r, f o < f x) → r.foldl (Ser.put f x) (acc, false) = (acc ++ r, false)
  | [], acc, _ => by simp
  | o :: r, acc, h => by
    rw [List.foldl_cons]
    have h1 := h o (by simp)
    have h2 : o ≠ x := by rintro rfl; omega
    have : Ser.put f x (acc, false) o = (acc ++ [o], false) := by simp [Ser.put, h2]; omega
    rw [this, Ser.put_false f x r _ (fun y hy => h y (by simp [hy]))]
    simp
theorem Ser.split (f : Int → Int) (x : Int) : ∀ out : List Int, Ser.Up f out → ∃ A B, out = A ++ B ∧ (∀ o ∈ A, f o < f x) ∧ (∀ o ∈ B, f x ≤ f o)
  | [], _ => ⟨[], [], rfl, by simp, by simp⟩
  | o :: r, h => by
    by_cases ho : f o < f x
    · obtain ⟨A, B, rfl, hA, hB⟩ := Ser.split f x r (List.pairwise_cons.1 h).2
      refine ⟨o :: A, B, rfl, fun y hy => ?_, hB⟩
      rcases List.mem_cons.1 hy with rfl | hy
      · exact ho
      · exact hA y hy
    · refine ⟨[], o :: r, rfl, by simp, fun y hy => ?_⟩
      rcases List.mem_cons.1 hy with rfl | hy
      · omega
      · have := (List.pairwise_cons.1 h).1 y hy
        omega
theorem Ser.ins_eq (f : Int → Int) (x : Int) (A B : List Int) (hA : ∀ o ∈ A, f o < f x) (hB : ∀ o ∈ B, f x ≤ f o) : Ser.ins f x (A ++ B) = A ++ x :: B.filter (fun o => decide (o ≠ x)) := by
  unfold Ser.ins
  rw [List.foldl_append, Ser.put_false f x A [] hA]
  cases B with
  | nil => simp
  | cons o r =>
    have h1 := hB o (by simp)
    rw [List.foldl_cons]
    have : Ser.put f x ([] ++ A, false) o = (A ++ [x] ++ (if o ≠ x then [o] else []), true) := by simp [Ser.put, h1]
    rw [this, Ser.put_true]
    by_cases h : o = x <;> simp [h]
theorem Ser.ins_up (f : Int → Int) (x : Int) (out : List Int) (U : Int → Prop) (hi : ∀ a b, U a → U b → f a = f b → a = b) (hx : U x) (ho : ∀ o ∈ out, U o) (h : Ser.Up f out) :
    Ser.Up f (Ser.ins f x out) ∧ ∀ y, y ∈ Ser.ins f x out ↔ y = x ∨ y ∈ out := by
  obtain ⟨A, B, rfl, hA, hB⟩ := Ser.split f x out h
  rw [Ser.ins_eq f x A B hA hB]
  obtain ⟨h1, h2, h3⟩ := List.pairwise_append.1 h
  constructor
  · refine List.pairwise_append.2 ⟨h1, List.pairwise_cons.2 ⟨fun o hm => ?_, h2.filter _⟩, fun a ha b hb => ?_⟩
    · obtain ⟨hm1, hm2⟩ := List.mem_filter.1 hm
      have hne : o ≠ x := of_decide_eq_true hm2
      have hle := hB o hm1
      have : f x ≠ f o := fun e => hne (hi o x (ho o (by simp [hm1])) hx e.symm)
      omega
    · rcases List.mem_cons.1 hb with rfl | hb
      · exact hA a ha
      · exact h3 a ha b (List.mem_filter.1 hb).1
  · intro y
    simp only [List.mem_append, List.mem_cons, List.mem_filter, decide_eq_true_eq, ne_eq]
    constructor
    · rintro (h | h | ⟨h, _⟩)
      · exact .inr (.inl h)
      · exact .inl h
      · exact .inr (.inr h)
    · rintro (h | h | h)
      · exact .inr (.inl h)
      · exact .inl h
      · by_cases e : y = x
        · exact .inr (.inl e)
        · exact .inr (.inr ⟨h, e⟩)
theorem Ser.sort_up (f : Int → Int) (U : Int → Prop) (hi : ∀ a b, U a → U b → f a = f b → a = b) : ∀ (l out : List Int), (∀ o ∈ l, U o) → (∀ o ∈ out, U o) → Ser.Up f out →
    Ser.Up f (l.foldl (fun out x => Ser.ins f x out) out) ∧ (∀ y, y ∈ l.foldl (fun out x => Ser.ins f x out) out ↔ y ∈ l ∨ y ∈ out)
  | [], out, _, _, h => ⟨h, fun y => by simp⟩
  | x :: l, out, hl, ho, h => by
    have h1 := Ser.ins_up f x out U hi (hl x (by simp)) ho h
    have h2 := Ser.sort_up f U hi l (Ser.ins f x out) (fun o hm => hl o (by simp [hm])) (fun o hm => by
      rcases (h1.2 o).1 hm with rfl | hm
      · exact hl _ (by simp)
      · exact ho o hm) h1.1
    refine ⟨h2.1, fun y => ?_⟩
    rw [List.foldl_cons, h2.2 y, h1.2 y, List.mem_cons]
    constructor
    · rintro (h | h | h)
      · exact .inl (.inr h)
      · exact .inl (.inl h)
      · exact .inr h
    · rintro ((h | h) | h)
      · exact .inr (.inl h)
      · exact .inl h
      · exact .inr (.inr h)
/-- Two lists in order with the same members are one. -/
theorem Ser.up_unique (f : Int → Int) : ∀ (a b : List Int), Ser.Up f a → Ser.Up f b → (∀ y, y ∈ a ↔ y ∈ b) → a = b
  | [], [], _, _, _ => rfl
  | [], y :: b, _, _, h => by have := (h y).2 (by simp); simp at this
  | x :: a, [], _, _, h => by have := (h x).1 (by simp); simp at this
  | x :: a, y :: b, ha, hb, h => by
    obtain ⟨a1, a2⟩ := List.pairwise_cons.1 ha
    obtain ⟨b1, b2⟩ := List.pairwise_cons.1 hb
    have hxy : x = y := by
      rcases List.mem_cons.1 ((h x).1 (by simp)) with e | e
      · exact e
      · rcases List.mem_cons.1 ((h y).2 (by simp)) with e' | e'
        · exact e'.symm
        · have := a1 y e'
          have := b1 x e
          omega
    subst hxy
    refine congrArg (x :: ·) (Ser.up_unique f a b a2 b2 fun y => ?_)
    constructor
    · intro hy
      rcases List.mem_cons.1 ((h y).1 (by simp [hy])) with e | e
      · subst e; have := a1 y hy; omega
      · exact e
    · intro hy
      rcases List.mem_cons.1 ((h y).2 (by simp [hy])) with e | e
      · subst e; have := b1 y hy; omega
      · exact e

theorem Ser.far_inj {m a : Int} (hm : m = 4294967296) {x y : Int} (hx : Of m x) (hy : Of m y) (h : Ser.far m a x = Ser.far m a y) : x = y := by
  subst hm
  unfold Ser.far at h
  omega

/-- Doubles struck out of a list in order. -/
theorem Ser.compact_up {α : Type} [Inhabited α] [DecidableEq α] (f : α → Int) (hi : ∀ a b, f a = f b → a = b) (d : Array α) (hs : ∀ i j, i ≤ j → j < d.size → f d[i]! ≤ f d[j]!) : ∀ k, k ≤ d.size →
    (Lib.compactUpTo d k).Pairwise (fun a b => f a < f b) ∧ (∀ y, y ∈ Lib.compactUpTo d k ↔ ∃ j, j < k ∧ d[j]! = y)
  | 0, _ => by simp [Lib.compactUpTo]
  | k + 1, hk => by
    obtain ⟨h1, h2⟩ := Ser.compact_up f hi d hs k (by omega)
    have hsucc : Lib.compactUpTo d (k + 1) = Lib.compactUpTo d k ++ (if Lib.keeps d k then [d[k]!] else []) := by
      unfold Lib.compactUpTo
      rw [List.range_succ, List.filter_append, List.map_append]
      congr 1
      by_cases h : Lib.keeps d k = true <;> simp [h]
    rw [hsucc]
    by_cases hkp : Lib.keeps d k = true
    · rw [if_pos hkp]
      constructor
      · refine List.pairwise_append.2 ⟨h1, by simp, fun a ha b hb => ?_⟩
        obtain ⟨j, hj, rfl⟩ := (h2 a).1 ha
        simp at hb
        subst hb
        have hk0 : k ≠ 0 := by omega
        have hne : d[k]! ≠ d[k - 1]! := by
          intro e
          rw [Lib.keeps_neg (by omega) e] at hkp
          cases hkp
        have e1 := hs j (k - 1) (by omega) (by omega)
        have e2 := hs (k - 1) k (by omega) (by omega)
        have e3 : f d[k - 1]! ≠ f d[k]! := fun e => hne (hi _ _ e.symm)
        omega
      · intro y
        rw [List.mem_append, h2 y]
        constructor
        · rintro (⟨j, hj, e⟩ | h)
          · exact ⟨j, by omega, e⟩
          · simp at h; exact ⟨k, by omega, h.symm⟩
        · rintro ⟨j, hj, e⟩
          by_cases hjk : j = k
          · subst hjk; exact .inr (by simp [e])
          · exact .inl ⟨j, by omega, e⟩
    · rw [if_neg hkp, List.append_nil]
      refine ⟨h1, fun y => ?_⟩
      rw [h2 y]
      constructor
      · rintro ⟨j, hj, e⟩; exact ⟨j, by omega, e⟩
      · rintro ⟨j, hj, e⟩
        by_cases hjk : j = k
        · subst hjk
          have hj0 : j ≠ 0 := by
            rintro rfl
            exact hkp (Lib.keeps_lt_one d 0 (by omega))
          have : d[j]! = d[j - 1]! := by
            by_cases e' : d[j]! = d[j - 1]!
            · exact e'
            · exact absurd (Lib.keeps_pos e') hkp
          exact ⟨j - 1, by omega, by rw [← this]; exact e⟩
        · exact ⟨j, by omega, e⟩
end Go.Proofs.Ytmfkedkkkmnmmaa
