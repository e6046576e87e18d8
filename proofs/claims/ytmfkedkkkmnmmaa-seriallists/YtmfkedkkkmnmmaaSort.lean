/- What Sort of package serial answers, for numbers of 32 bits. No condition of its own. -/
import Derived.Test.YtmfkedkkkmnmmaaLays
import Derived.Test.YtmfkedkkkmnmmaaRuns
import Derived.Test.YtmfkedkkkmnmmaaSortMath
namespace Go.Proofs.Ytmfkedkkkmnmmaa
open Go.RowKit Go.Shelf Go.Sort Go.Lib
set_option linter.unusedVariables false
set_option linter.unusedSimpArgs false

set_option maxHeartbeats 400000 in
theorem isnan_any (x : Int) (w : World) : Calls Try.prog 47 #[.int .i64 x] w fun e w' => e = .returned (.bool false) ∧ w' = w := by
  go_enter Try.func47, Try.ntmps47
  go_wp2
  go_ret
  exact ⟨ret_bool (by simp), rfl⟩
set_option maxHeartbeats 400000 in
theorem compare_any (x y : Int) (w : World) : Calls Try.prog 36 #[.int .i64 x, .int .i64 y] w fun e w' => e = .returned (.int .i64 (Lib.compareInt x y)) ∧ w' = w := by
  have hE : Hid (Lib.compareInt x y = if x < y then -1 else if x > y then 1 else 0) := rfl
  by_cases h1 : x < y
  · have hd : decide (x < y) = true := decide_eq_true h1
    rw [if_pos h1] at hE
    go_enter Try.func36, Try.ntmps36
    go_wp2_with (go_at_call 47; refine (isnan_any _ _).mono ?_; rintro e w' ⟨rfl, rfl⟩)
    go_ret
    exact ⟨ret_int hE.out.symm, rfl⟩
  · have hd : decide (x < y) = false := decide_eq_false h1
    rw [if_neg h1] at hE
    by_cases h2 : y < x
    · have hd2 : decide (y < x) = true := decide_eq_true h2
      rw [if_pos h2] at hE
      go_enter Try.func36, Try.ntmps36
      go_wp2_with (go_at_call 47; refine (isnan_any _ _).mono ?_; rintro e w' ⟨rfl, rfl⟩)
      go_ret
      exact ⟨ret_int hE.out.symm, rfl⟩
    · have hd2 : decide (y < x) = false := decide_eq_false h2
      rw [if_neg h2] at hE
      go_enter Try.func36, Try.ntmps36
      go_wp2_with (go_at_call 47; refine (isnan_any _ _).mono ?_; rintro e w' ⟨rfl, rfl⟩)
      go_ret
      exact ⟨ret_int hE.out.symm, rfl⟩

abbrev N32 := Num 4294967296
def key (a : Int) (x : N32) : Int := Ser.far 4294967296 a x.1
def cmp32 (a : Int) (x y : N32) : Int := Lib.compareInt (key a x) (key a y)
def enc32 (x : N32) : Value := .int .u32 x.1

set_option maxHeartbeats 400000 in
theorem closure35 (a : Int) (ha : Of 4294967296 a) (x y : N32) (b : Nat) (W : World) (hc : W.cell? ⟨b, 0, none⟩ = some (.int .u32 a)) :
    Calls Try.prog 35 #[.int .u32 x.1, .int .u32 y.1, .pointer (some ⟨b, 0, none⟩)] W fun e w' => e = .returned (.int .i64 (cmp32 a x y)) ∧ ∃ q, w' = W.drewN q := by
  obtain ⟨x, hx⟩ := x
  obtain ⟨y, hy⟩ := y
  have hE : Hid (cmp32 a ⟨x, hx⟩ ⟨y, hy⟩ = Lib.compareInt (Ser.far 4294967296 a x) (Ser.far 4294967296 a y)) := rfl
  rw [hE.out]
  clear hE
  go_enter Try.func35, Try.ntmps35
  go_wp2_with fail
  go_quiet (first
    | (go_at_call 10; refine Calls.quiet_of_same (far32 _ _ _ ha (by first | exact hx | exact hy)))
    | (go_at_call 36; refine Calls.quiet_of_same (compare_any _ _ _)))
  go_wp2
  go_ret
  exact ⟨rfl, _, rfl⟩

theorem ltKey (a : Int) (x y : N32) : ltOf (cmp32 a) x y = decide (key a x < key a y) := by
  unfold ltOf cmp32 Lib.compareInt
  by_cases h1 : key a x < key a y
  · simp [h1]
  · by_cases h2 : key a y < key a x <;> simp [h1, h2]
theorem swoKey (a : Int) : SWO (ltOf (cmp32 a)) :=
  ⟨fun x => by rw [ltKey]; simp, fun x y z h1 h2 => by rw [ltKey] at *; simp at *; omega, fun x y z h1 h2 => by rw [ltKey] at *; simp at *; omega⟩
theorem keyInj (a : Int) (x y : N32) (h : key a x = key a y) : x = y := Subtype.ext (Ser.far_inj rfl x.2 y.2 h)
theorem totKey (a : Int) (x y : N32) (h1 : ltOf (cmp32 a) x y = false) (h2 : ltOf (cmp32 a) y x = false) : x = y := by
  rw [ltKey] at h1 h2
  simp at h1 h2
  exact keyInj a x y (by omega)

/-- The list as numbers of their kind. -/
def asNums (l : List Int) (h : ∀ x ∈ l, Of 4294967296 x) : List N32 := l.pmap (fun x hx => ⟨x, hx⟩) h
theorem asNums_map (l : List Int) (h : ∀ x ∈ l, Of 4294967296 x) : (asNums l h).map (·.1) = l := by
  unfold asNums
  rw [List.map_pmap]
  simp
theorem asNums_length (l : List Int) (h : ∀ x ∈ l, Of 4294967296 x) : (asNums l h).length = l.length := by simp [asNums]

def sortedOf (a : Int) (l : List N32) : List N32 := l.mergeSort fun x y => !(ltOf (cmp32 a)) y x
theorem sortedOf_key (a : Int) (l : List N32) : (sortedOf a l).Pairwise fun x y => key a x ≤ key a y := by
  have := List.pairwise_mergeSort (le := fun x y : N32 => !(ltOf (cmp32 a)) y x) (fun x y z h1 h2 => by
    simp only [ltKey] at *; simp at *; omega) (fun x y => by simp only [ltKey]; simp; omega) l
  refine this.imp fun {x y} h => ?_
  rw [ltKey] at h
  simpa using h

/-- Sorted, doubles struck: the document's list. -/
theorem compact_sort [Inhabited N32] (a : Int) (l : List Int) (h : ∀ x ∈ l, Of 4294967296 x) (d : Array N32) (hd : d = (sortedOf a (asNums l h)).toArray) :
    (compactUpTo d d.size).map (·.1) = Ser.sort (Ser.far 4294967296 a) l := by
  have hk := sortedOf_key a (asNums l h)
  have hs : ∀ i j, i ≤ j → j < d.size → key a d[i]! ≤ key a d[j]! := by
    intro i j hij hj
    have hj' : j < (sortedOf a (asNums l h)).length := by simpa [hd] using hj
    have hi' : i < (sortedOf a (asNums l h)).length := by omega
    subst hd
    rcases Nat.lt_or_ge i j with hlt | hge
    · have := List.pairwise_iff_getElem.1 hk i j hi' hj' hlt
      simpa [getElem!_pos, hi', hj'] using this
    · obtain rfl : i = j := by omega
      exact Int.le_refl _
  obtain ⟨c1, c2⟩ := Ser.compact_up (key a) (keyInj a) d hs d.size (Nat.le_refl _)
  obtain ⟨s1, s2⟩ := Ser.sort_up (Ser.far 4294967296 a) (Of 4294967296) (fun x y hx hy e => Ser.far_inj rfl hx hy e) l [] h (by simp) (by simp)
  refine Ser.up_unique (Ser.far 4294967296 a) _ _ (List.pairwise_map.2 c1) s1 fun y => ?_
  rw [List.mem_map, show Ser.sort (Ser.far 4294967296 a) l = l.foldl (fun out x => Ser.ins (Ser.far 4294967296 a) x out) [] from rfl, s2 y]
  have hmem : ∀ z : N32, (∃ j, j < d.size ∧ d[j]! = z) ↔ z ∈ asNums l h := by
    intro z
    have e1 : z ∈ sortedOf a (asNums l h) ↔ z ∈ asNums l h := List.mem_mergeSort
    rw [← e1]
    subst hd
    constructor
    · rintro ⟨j, hj, rfl⟩
      have hj' : j < (sortedOf a (asNums l h)).length := by simpa using hj
      simp [getElem!_pos, hj']
    · intro hz
      obtain ⟨j, hj, rfl⟩ := List.getElem_of_mem hz
      exact ⟨j, by simpa using hj, by simp [getElem!_pos, hj]⟩
  constructor
  · rintro ⟨z, hz, rfl⟩
    have := (hmem z).1 ((c2 z).1 hz)
    left
    rw [← asNums_map l h]
    exact List.mem_map.2 ⟨z, this, rfl⟩
  · rintro (hy | hy)
    · rw [← asNums_map l h] at hy
      obtain ⟨z, hz, rfl⟩ := List.mem_map.1 hy
      exact ⟨z, (c2 z).2 ((hmem z).2 hz), rfl⟩
    · simp at hy

theorem eqlN (T : TypeId) : EqlAt Try.prog T enc32 (fun x y => decide (x = y)) :=
  ⟨fun x y w => by
    have := (EqlAt.int Try.prog T .u32).1 x.1 y.1 w
    rw [show enc32 x = .int .u32 x.1 from rfl, show enc32 y = .int .u32 y.1 from rfl, this]
    by_cases h : x = y
    · simp [h]
    · have h' : x.1 ≠ y.1 := fun e => h (Subtype.ext e)
      simp [h, h'], fun op a b x y w => (EqlAt.int Try.prog T .u32).2 op a b x.1 y.1 w⟩
theorem neqN (T : TypeId) : NeqAt Try.prog T enc32 (fun x y => decide (x = y)) :=
  ⟨fun x y w => by
    have := (NeqAt.int Try.prog T .u32).1 x.1 y.1 w
    rw [show enc32 x = .int .u32 x.1 from rfl, show enc32 y = .int .u32 y.1 from rfl, this]
    by_cases h : x = y
    · simp [h]
    · have h' : x.1 ≠ y.1 := fun e => h (Subtype.ext e)
      simp [h, h'], fun op a b x y w => (NeqAt.int Try.prog T .u32).2 op a b x.1 y.1 w⟩

theorem grownBy_rows [Inhabited N32] {w : World} {g n : Nat} {os : Array Obj} (d : Array N32) : w.grownBy (grow (putRow enc32 (Sort.ahead w n) g 0 d) os) (some g) := by
  refine ⟨rfl, rfl, rfl, by simp, fun k hk hne => ?_⟩
  rw [heap_grow_old _ _ (by simpa using hk)]
  have : g ≠ k := fun e => hne (by rw [e])
  simp [putRow, mapBlock, Sort.ahead, Array.getElem?_modify, this]
theorem NumsAt.form_cap {k : IntKind} {w : World} {x : Addr} {n cap : Nat} {l : List Int} (h : NumsAt k w (.slice (some x) n cap) l) : cap ≤ maxLen := by
  obtain ⟨_, ⟨_, e⟩ | ⟨ad, c, e, _, h5, _⟩⟩ := h
  · cases e
  · cases e; exact h5
theorem numT39 : NumT Try.prog 39 22 .u32 4 := numT32

set_option maxHeartbeats 400000 in
theorem compact_none (p : Option Addr) (cap : Nat) (w : World) : Calls Try.prog 37 #[.slice p 0 cap] w fun e w' => e = .returned (.slice p 0 cap) ∧ w' = w := by
  go_enter Try.func37, Try.ntmps37
  go_wp2
  go_ret
  exact ⟨rfl, rfl⟩

set_option maxHeartbeats 1000000 in
theorem sort_nil (a : Int) (v : Value) (w : World) (hv : NumsAt .u32 w v []) :
    Calls Try.prog 23 #[.int .u32 a, v] w fun e w' => ∃ u, e = .returned u ∧ NumsAt .u32 w' u [] ∧ Ext w w' ∧ (∀ g, blockOf u = some g → w.heap.size ≤ g ∧ g < w'.heap.size) := by
  have HV : Hid (NumsAt .u32 w v []) := hv
  obtain ⟨av, cap, rfl, hcap, hcell⟩ := hv.form
  clear hv hcell
  go_enter Try.func23, Try.ntmps23
  go_wp2_with (first
    | (at_builtin; refine wpList_append_nums numT39 rfl _ _ rfl (w.heap.size + 1) [] [] (OwnN.nil _ _ _ _) (HV.out.ext (Ext.alloc _ _)) (by simp) (by simp) (by simp) ?_; intro ad cap' w1 ho hg hob; simp only [List.append_nil, List.length_nil] at ho ⊢)
    | (go_at_call 34; refine (AnyF.slices_SortFunc_none (P := Try.prog) (ρ := Try.sortL_ren) { Try.sortL with } ad cap' _ w1).mono ?_; rintro e w' ⟨rfl, rfl⟩)
    | (go_at_call 37; refine (compact_none _ _ _).mono ?_; rintro e w' ⟨rfl, rfl⟩))
  go_ret
  refine ⟨_, rfl, ho.nums, (Ext.alloc _ _).trans (Ext.of_grown hg), fun g hb => ?_⟩
  cases ad with
  | none => simp [blockOf] at hb
  | some x =>
    obtain ⟨_, _, es, _, hs⟩ := ho.slice
    simp only [Value.slice.injEq] at es
    obtain ⟨rfl, _, _⟩ := es
    obtain ⟨g', rfl, h1, h2⟩ := hs x rfl
    simp [blockOf] at hb
    subst hb
    exact ⟨by omega, h2⟩

set_option maxHeartbeats 2000000 in
theorem sort_some (a : Int) (v : Value) (l : List Int) (w : World) (ha : Of 4294967296 a) (hv : NumsAt .u32 w v l) (h1 : ∀ x ∈ l, Of 4294967296 x) (hlen : l.length ≤ 1000) (hne : l ≠ []) :
    Calls Try.prog 23 #[.int .u32 a, v] w fun e w' => ∃ u, e = .returned u ∧ NumsAt .u32 w' u (Ser.sort (Ser.far 4294967296 a) l) ∧ Ext w w' ∧ (∀ g, blockOf u = some g → w.heap.size ≤ g ∧ g < w'.heap.size) := by
  haveI hin : Inhabited N32 := ⟨⟨0, by decide⟩⟩
  have HV : Hid (NumsAt .u32 w v l) := hv
  obtain ⟨av, cap, rfl, hcap, hcell⟩ := hv.form
  have hpos : 0 < l.length := List.length_pos_iff.2 hne
  clear hv hcell
  obtain ⟨d, hd⟩ : ∃ d : Array N32, d = (asNums l h1).toArray := ⟨_, rfl⟩
  obtain ⟨D, hD⟩ : ∃ D : Array N32, D = (sortedOf a (asNums l h1)).toArray := ⟨_, rfl⟩
  have hds : d.size = l.length := by rw [hd]; simp [asNums_length]
  have hDs : D.size = l.length := by rw [hD]; simp [sortedOf, asNums_length]
  have HR : Hid ((compactUpTo D D.size).map (·.1) = Ser.sort (Ser.far 4294967296 a) l) := compact_sort a l h1 D hD
  have hdm : d.toList.mergeSort (fun x y => !(ltOf (cmp32 a)) y x) = sortedOf a (asNums l h1) := by rw [hd]; rfl
  -- the row behind the append
  have key1 : Hid (∀ (w1 : World) (g cap' : Nat), OwnN .u32 w1 (w.heap.size + 1) 22 (.slice (some ⟨g, 0, none⟩) l.length cap') l → Holds enc32 w1 g 0 d) := fun w1 g cap' ho j hj => by
    have hj' : j < l.length := by omega
    have e1 : (d[j]!).1 = l[j] := by
      have hj2 : j < (asNums l h1).length := by rw [asNums_length]; exact hj'
      rw [hd, getElem!_pos _ j (by simpa using hj2)]
      simp [asNums]
    refine ⟨?_, ?_⟩
    · rw [Nat.zero_add, ho.1.cellAt j (by omega), List.getElem?_map, List.getElem?_eq_getElem hj']
      simp [enc32, e1]
    · rw [Nat.zero_add]; exact ho.1.frozenAt j
  have key2 : Hid (∀ (w1 : World) (g cap' : Nat), OwnN .u32 w1 (w.heap.size + 1) 22 (.slice (some ⟨g, 0, none⟩) l.length cap') l → w1.cell? ⟨w.heap.size, 0, none⟩ = some (.int .u32 a) → g ≠ w.heap.size → g < w1.heap.size →
      Calls Try.prog 34 #[.slice (some ⟨g, 0, none⟩) l.length cap', .func (.func 35) #[] #[.pointer (some ⟨w.heap.size, 0, none⟩)]] w1 fun e w' => e = .returned (.tuple #[]) ∧ ∃ n os, w' = sortWorld enc32 w1 g 0 n D os) := fun w1 g cap' ho hc hgn hgl => by
    have hb := cell_lt hc
    have h := Any.slices_SortFunc_total Try.sortL enc32 (fun _ => rfl) (cmp32 a) (swoKey a) 35 #[.pointer (some ⟨w.heap.size, 0, none⟩)] g 0 cap' d w1 (enters_of Try.func35 (by kernel_rfl) rfl)
      (CmpReads.lays fun m os dk hs x y => closure35 a ha x y w.heap.size _ (by
        unfold sortWorld
        rw [cell?_grow _ _ _ (by simpa using hb), cell?_putRow_other _ _ _ _ _ _ (.inl (Ne.symm hgn)), cell?_ahead]
        exact hc)) (key1.out w1 g cap' ho) hgl (by omega) (totKey a)
    rw [hdm, ← hD, hds] at h
    exact h
  have key3 : Hid (∀ (w1 w2 : World) (g cap' n : Nat) (os : Array Obj), OwnN .u32 w1 (w.heap.size + 1) 22 (.slice (some ⟨g, 0, none⟩) l.length cap') l → g < w1.heap.size → w2 = sortWorld enc32 w1 g 0 n D os → l.length ≤ cap' →
      Calls Try.prog 37 #[.slice (some ⟨g, 0, none⟩) l.length cap'] w2 fun e w' => ∃ u, e = .returned u ∧ NumsAt .u32 w' u (Ser.sort (Ser.far 4294967296 a) l) ∧ w2.grownBy w' (some g) ∧ blockOf u = some g) := fun w1 w2 g cap' n os ho hgl hw2 hlc => by
    have hH1 := key1.out w1 g cap' ho
    have hH2 : Holds enc32 w2 g 0 D := by
      rw [hw2]
      exact holds_grow enc32 _ os g 0 D (by simpa using hgl) (holds_putRow enc32 (Sort.ahead w1 n) g 0 d D hH1 (by omega))
    have h := AnyE.slices_Compact Try.compactL enc32 (fun _ => rfl) (eqlN _) (neqN _) ⟨0, by decide⟩ Try.zeroValue22 g 0 cap' D w2 hH2 (by omega) (by omega)
    have hcl : (compactUpTo D D.size).length ≤ D.size := by
      unfold compactUpTo
      rw [List.length_map]
      exact Nat.le_trans (List.length_filter_le _ _) (by simp)
    have h' : Calls Try.prog 37 #[.slice (some ⟨g, 0, none⟩) D.size cap'] w2 _ := h
    rw [hDs] at h'
    refine h'.mono ?_
    rintro e w' ⟨rfl, q, rfl⟩
    refine ⟨_, rfl, ?_, ?_, rfl⟩
    · rw [← HR.out]
      have hlen2 : ((compactUpTo D D.size).map (·.1)).length = (compactUpTo D D.size).length := by simp
      refine ⟨by rw [hlen2]; unfold maxLen; omega, .inr ⟨⟨g, 0, none⟩, cap', by rw [hlen2, ← hDs], by rw [hlen2]; omega, ho.nums.form_cap, fun j hj => ?_⟩⟩
      rw [hlen2] at hj
      rw [← hDs, add_plain]
      have hz : (compactUpTo D D.size ++ List.replicate (D.size - (compactUpTo D D.size).length) (⟨0, by decide⟩ : N32)).toArray.size = D.size := by simp; omega
      rw [cell?_putRow enc32 (Sort.ahead w2 q) g 0 D _ hH2 hz j (by omega), getElem!_pos _ j (by omega)]
      simp [enc32, List.getD_eq_getElem?_getD, List.getElem_append_left, hj]
    · generalize (compactUpTo D l.length ++ List.replicate (l.length - (compactUpTo D l.length).length) (⟨0, by decide⟩ : N32)).toArray = Z
      have := grownBy_rows (w := w2) (g := g) (n := q) (os := #[]) Z
      rwa [grow_empty] at this
  clear HR hdm hD
  go_enter Try.func23, Try.ntmps23
  go_wp2_with (first
    | (at_builtin; refine wpList_append_nums numT39 rfl _ _ rfl (w.heap.size + 1) [] l (OwnN.nil _ _ _ _) (HV.out.ext (Ext.alloc _ _)) (by simp; omega) (by simp; omega) (by simp) ?_; intro ad cap' w1 ho hg hob; simp only [List.nil_append] at ho ⊢)
    | fail)
  obtain ⟨a', c', es, hs1, hs2⟩ := ho.slice
  simp only [Value.slice.injEq] at es
  obtain ⟨rfl, _, rfl⟩ := es
  obtain ⟨g, rfl, hg1, hg2⟩ : ∃ g, ad = some ⟨g, 0, none⟩ ∧ w.heap.size + 1 ≤ g ∧ g < w1.heap.size := by
    cases ad with
    | none => have := (hs1 rfl).1; exact absurd this hne
    | some x => obtain ⟨g, rfl, h2, h3⟩ := hs2 x rfl; exact ⟨g, rfl, h2, h3⟩
  have hlc : l.length ≤ cap' := by
    obtain ⟨x, y, e, h2, _⟩ := ho.nums.form
    simp only [Value.slice.injEq] at e
    obtain ⟨_, _, rfl⟩ := e
    exact h2.1
  have hE1 : Ext w w1 := (Ext.alloc _ _).trans (Ext.of_grown hg)
  have hcb : w1.cell? ⟨w.heap.size, 0, none⟩ = some (.int .u32 a) := by
    refine (Ext.of_grown hg : Ext _ w1).cell ?_
    rw [cellNew _ _ _ _ _ _ rfl]; rfl
  have hH := hcb
  clear hs1 hs2 hob
  refine (key2.out w1 g cap' ho hcb (by omega) hg2).mono ?_
  rintro e w2 ⟨rfl, n, os, hw2⟩
  have hg3 : w1.grownBy w2 (some g) := by rw [hw2]; exact grownBy_rows D
  have HW2 : Hid (w2 = sortWorld enc32 w1 g 0 n D os) := hw2
  clear hcb hH hw2
  go_wp2_with (first
    | (go_at_call 37; refine (key3.out w1 w2 g cap' n os ho hg2 HW2.out hlc).mono ?_; rintro e w3 ⟨u, rfl, hu, hg4, hbu⟩)
    | fail)
  go_ret
  have hB : Ext w w3 := (Below.grown (Below.grown hE1 hg3 hE1.size (fun k e => by cases e; omega)) hg4 (Nat.le_trans hE1.size hg3.size) (fun k e => by cases e; omega))
  refine ⟨u, rfl, hu, hB, fun g' hg' => ?_⟩
  rw [hbu] at hg'
  cases hg'
  exact ⟨by omega, Nat.lt_of_lt_of_le hg2 (Nat.le_trans hg3.size hg4.size)⟩

theorem sort32 (a : Int) (v : Value) (l : List Int) (w : World) (ha : Of 4294967296 a) (hv : NumsAt .u32 w v l) (h1 : ∀ x ∈ l, Of 4294967296 x) (hlen : l.length ≤ 1000) :
    Calls Try.prog 23 #[.int .u32 a, v] w fun e w' => ∃ u, e = .returned u ∧ NumsAt .u32 w' u (Ser.sort (Ser.far 4294967296 a) l) ∧ Ext w w' ∧ (∀ g, blockOf u = some g → w.heap.size ≤ g ∧ g < w'.heap.size) := by
  by_cases hne : l = []
  · subst hne; exact sort_nil a v w hv
  · exact sort_some a v l w ha hv h1 hlen hne
end Go.Proofs.Ytmfkedkkkmnmmaa
