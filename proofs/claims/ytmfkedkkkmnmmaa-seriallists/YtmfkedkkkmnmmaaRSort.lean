/- The document's own reckoning of numbers sorted, each once. No condition of its own. -/
import Derived.Test.YtmfkedkkkmnmmaaRefRuns
import Derived.Test.YtmfkedkkkmnmmaaSortMath
namespace Go.Proofs.Ytmfkedkkkmnmmaa
open Go.RowKit Go.Shelf
set_option linter.unusedVariables false
set_option linter.unusedSimpArgs false

theorem Ser.put_length (f : Int → Int) (x : Int) : ∀ (r : List Int) (s : List Int × Bool), (r.foldl (Ser.put f x) s).1.length + (if (r.foldl (Ser.put f x) s).2 then 0 else 1) ≤ s.1.length + (if s.2 then 0 else 1) + r.length
  | [], s => by simp only [List.foldl_nil, List.length_nil, Nat.add_zero]; exact Nat.le_refl _
  | o :: r, (acc, dn) => by
    rw [List.foldl_cons]
    have h := Ser.put_length f x r (Ser.put f x (acc, dn) o)
    have h2 : (Ser.put f x (acc, dn) o).1.length + (if (Ser.put f x (acc, dn) o).2 then 0 else 1) ≤ acc.length + (if dn then 0 else 1) + 1 := by
      unfold Ser.put
      cases dn <;> by_cases h1 : f x ≤ f o <;> by_cases h2 : o = x <;> simp [h1, h2]
    simp only [List.length_cons]
    omega
theorem Ser.put_mem (f : Int → Int) (x : Int) : ∀ (r : List Int) (s : List Int × Bool) (y : Int), y ∈ (r.foldl (Ser.put f x) s).1 → y ∈ s.1 ∨ y = x ∨ y ∈ r
  | [], s, y, h => .inl h
  | o :: r, (acc, dn), y, h => by
    rw [List.foldl_cons] at h
    rcases Ser.put_mem f x r _ y h with h | h | h
    · unfold Ser.put at h
      simp only [] at h
      rcases List.mem_append.1 h with h | h
      · split at h
        · rcases List.mem_append.1 h with h | h
          · exact .inl h
          · simp at h; exact .inr (.inl h)
        · exact .inl h
      · split at h
        · simp at h; exact .inr (.inr (by simp [h]))
        · simp at h
    · exact .inr (.inl h)
    · exact .inr (.inr (by simp [h]))
theorem Ser.ins_length (f : Int → Int) (x : Int) (out : List Int) : (Ser.ins f x out).length ≤ out.length + 1 := by
  have := Ser.put_length f x out ([], false)
  unfold Ser.ins
  simp only [] at this ⊢
  split <;> simp_all <;> omega
theorem Ser.ins_mem (f : Int → Int) (x : Int) (out : List Int) (y : Int) (h : y ∈ Ser.ins f x out) : y = x ∨ y ∈ out := by
  unfold Ser.ins at h
  simp only [] at h
  have key := Ser.put_mem f x out ([], false) y
  split at h
  · simpa using key h
  · rcases List.mem_append.1 h with h | h
    · simpa using key h
    · simp at h; exact .inl h
def Ser.sofar (f : Int → Int) (l : List Int) (i : Nat) : List Int := Ser.sort f (l.take i)
theorem Ser.sofar_succ (f : Int → Int) (l : List Int) (i : Nat) (h : i < l.length) : Ser.sofar f l (i + 1) = Ser.ins f (l.getD i 0) (Ser.sofar f l i) := by
  unfold Ser.sofar Ser.sort
  rw [take_next l 0 i h, List.foldl_append]
  rfl
theorem Ser.sofar_ok (f : Int → Int) (l : List Int) : ∀ i, i ≤ l.length → (Ser.sofar f l i).length ≤ i ∧ ∀ y ∈ Ser.sofar f l i, y ∈ l
  | 0, _ => by simp [Ser.sofar, Ser.sort]
  | i + 1, h => by
    obtain ⟨h1, h2⟩ := Ser.sofar_ok f l i (by omega)
    rw [Ser.sofar_succ f l i (by omega)]
    refine ⟨Nat.le_trans (Ser.ins_length _ _ _) (by omega), fun y hy => ?_⟩
    rcases Ser.ins_mem _ _ _ _ hy with rfl | hy
    · exact getD_mem l 0 i (by omega)
    · exact h2 y hy
def Ser.mid (f : Int → Int) (x : Int) (O : List Int) (k : Nat) : List Int × Bool := (O.take k).foldl (Ser.put f x) ([], false)
theorem Ser.mid_succ (f : Int → Int) (x : Int) (O : List Int) (k : Nat) (h : k < O.length) : Ser.mid f x O (k + 1) = Ser.put f x (Ser.mid f x O k) (O.getD k 0) := by
  unfold Ser.mid
  rw [take_next O 0 k h, List.foldl_append]
  rfl
theorem Ser.mid_length (f : Int → Int) (x : Int) (O : List Int) (k : Nat) : (Ser.mid f x O k).1.length ≤ O.length + 1 := by
  have := Ser.put_length f x (O.take k) ([], false)
  have h2 : (O.take k).length ≤ O.length := by simp; omega
  unfold Ser.mid
  simp at this h2 ⊢
  omega
theorem Ser.mid_all (f : Int → Int) (x : Int) (O : List Int) : Ser.ins f x O = if (Ser.mid f x O O.length).2 then (Ser.mid f x O O.length).1 else (Ser.mid f x O O.length).1 ++ [x] := by
  unfold Ser.mid Ser.ins
  rw [List.take_length]

set_option maxHeartbeats 4000000 in
theorem refsort (a : Int) (v : Value) (l : List Int) (w : World) (ha : Of 4294967296 a) (hv : NumsAt .i64 w v l) (h1 : ∀ x ∈ l, Of 4294967296 x) (hlen : l.length ≤ 1000) :
    Calls Try.prog 28 #[.int .i64 a, v, .int .i64 4294967296] w fun e w' => ∃ u, e = .returned u ∧ OwnN .i64 w' w.heap.size 3 u (Ser.sort (Ser.far 4294967296 a) l) ∧ Ext w w' := by
  obtain ⟨av, cap, rfl, ⟨hlc, hcm⟩, hcell⟩ := hv.form
  have HC : Hid (∀ j, j < l.length → ∃ b off, av = some ⟨b, off, none⟩ ∧ w.cell? ⟨b, off + j, none⟩ = some (.int .i64 (l.getD j 0))) := hcell
  have HO : Hid (∀ x ∈ l, Of 4294967296 x) := h1
  clear hv hcell h1 hcm
  go_enter Try.func28, Try.ntmps28
  go_wp2
  go_loopg [7, 8] l.length (fun g u s wr => Ext w wr ∧ ∃ (i : Nat) (ao : Option Addr) (co : Nat), i ≤ l.length ∧ g = l.length - i ∧ s = .int .i64 (i : Int) ∧
    u = .slice ao (Ser.sofar (Ser.far 4294967296 a) l i).length co ∧ Hid (OwnN .i64 wr w.heap.size 3 (.slice ao (Ser.sofar (Ser.far 4294967296 a) l i).length co) (Ser.sofar (Ser.far 4294967296 a) l i)))
  case atStart => exact ⟨Ext.refl _, 0, none, 0, by omega, rfl, rfl, rfl, OwnN.nil _ _ _ _⟩
  case round =>
    obtain ⟨hE, i, ao, co, hi, rfl, rfl, rfl, HOW⟩ := hrel
    have HSO := Ser.sofar_ok (Ser.far 4294967296 a) l i hi
    by_cases hlt : i < l.length
    · have hd : decide ((i : Int) < (l.length : Int)) = true := decide_eq_true (by omega)
      have HSS : Hid _ := Ser.sofar_succ (Ser.far 4294967296 a) l i hlt
      obtain ⟨b, off, rfl, e1⟩ := HC.out i hlt
      have HD : Hid (∀ w', Ext w w' → w'.cell? ⟨b, off + i, none⟩ = some (.int .i64 (l.getD i 0))) := fun w' h => h.cell e1
      have o1 : Of 4294967296 (l.getD i 0) := HO.out _ (getD_mem l 0 i hlt)
      clear e1
      have HOO : Hid (∀ j, j < (Ser.sofar (Ser.far 4294967296 a) l i).length → Of 4294967296 ((Ser.sofar (Ser.far 4294967296 a) l i).getD j 0)) := fun j hj => HO.out _ (HSO.2 _ (getD_mem _ 0 j hj))
      have hOl := HSO.1
      clear HSO
      generalize hx : l.getD i 0 = x at *
      generalize hO : Ser.sofar (Ser.far 4294967296 a) l i = O at *
      go_wp2
      go_loopg [9, 10, 11] O.length (fun g u d s wr2 => Below w.heap.size w wr2 ∧ ∃ (k : Nat) (an : Option Addr) (cn : Nat), k ≤ O.length ∧ g = O.length - k ∧ s = .int .i64 (k : Int) ∧ d = .bool (Ser.mid (Ser.far 4294967296 a) x O k).2 ∧
        u = .slice an (Ser.mid (Ser.far 4294967296 a) x O k).1.length cn ∧ Hid (OwnN .i64 wr2 w.heap.size 3 (.slice an (Ser.mid (Ser.far 4294967296 a) x O k).1.length cn) (Ser.mid (Ser.far 4294967296 a) x O k).1 ∧ OwnN .i64 wr2 w.heap.size 3 (.slice ao O.length co) O ∧ Apart (.slice an (Ser.mid (Ser.far 4294967296 a) x O k).1.length cn) (.slice ao O.length co)))
      case atStart => exact ⟨hE, 0, none, 0, by omega, rfl, rfl, rfl, rfl, OwnN.nil _ _ _ _, HOW.out, fun g hg => by simp [Value.ownBlock] at hg⟩
      case round =>
        obtain ⟨hB, k, an, cn, hk, rfl, rfl, rfl, rfl, HN⟩ := hrel
        have hml := Ser.mid_length (Ser.far 4294967296 a) x O k
        by_cases hkl : k < O.length
        · have hdk : decide ((k : Int) < (O.length : Int)) = true := decide_eq_true (by omega)
          have HMS : Hid (Ser.mid (Ser.far 4294967296 a) x O (k + 1) = Ser.put (Ser.far 4294967296 a) x (Ser.mid (Ser.far 4294967296 a) x O k) (O.getD k 0)) := Ser.mid_succ (Ser.far 4294967296 a) x O k hkl
          have oo : Of 4294967296 (O.getD k 0) := HOO.out k hkl
          obtain ⟨go, rfl⟩ : ∃ g, ao = some ⟨g, 0, none⟩ := by
            obtain ⟨a', c', e, h1, h2⟩ := HOW.out.slice
            simp only [Value.slice.injEq] at e
            obtain ⟨rfl, _, rfl⟩ := e
            cases ao with
            | none => have := (h1 rfl).1; rw [this] at hkl; simp at hkl
            | some z => obtain ⟨g, rfl, _⟩ := h2 z rfl; exact ⟨g, rfl⟩
          have HCO : Hid (∀ W, OwnN .i64 W w.heap.size 3 (.slice (some ⟨go, 0, none⟩) O.length co) O → W.cell? ⟨go, k, none⟩ = some (.int .i64 (O.getD k 0))) := fun W h => by
            rw [h.1.cellAt k (by omega), List.getElem?_map, List.getElem?_eq_getElem hkl]
            simp [List.getD_eq_getElem?_getD, hkl]
          have EA : ∀ (W : World) (o : Obj) (q : Nat), Ext W ((W.alloc o).drewN q) := fun W o q => (Ext.alloc W o).trans (below_drewN (Below.refl _ _) _)
          have hcx := HD.out _ hB
          have hco := HCO.out _ HN.out.2.1
          have hk' : (k : Int) < (O.length : Int) := by omega
          have hi' : (i : Int) < (l.length : Int) := by omega
          generalize O.getD k 0 = o at *
          generalize Ser.mid (Ser.far 4294967296 a) x O k = S at *
          obtain ⟨nx, dn⟩ := S
          simp only [] at HN hml ⊢
          have hfx := Ser.far_lt (m := 4294967296) a x (by decide)
          have hfo := Ser.far_lt (m := 4294967296) a o (by decide)
          cases dn with
          | true =>
            by_cases hox : o = x
            · have hm2 : Ser.put (Ser.far 4294967296 a) x (nx, true) o = (nx, true) := by simp [Ser.put, hox]
              rw [hm2] at HMS
              clear hm2
              have hnb : (o != x) = false := by rw [hox]; simp
              clear hox
              go_wp2_with fail
              go_quiet (fail)
              go_wp2_with fail
              go_quiet (fail)
              go_wp2
              go_roundg (O.length - (k + 1))
              case measure => omega
              case rel =>
                refine ⟨hB.trans (below_drewN (Below.refl _ _) _), k + 1, an, cn, by omega, rfl, by simp, ?_, ?_, ?_⟩
                · rw [HMS.out]
                · rw [HMS.out]; try simp
                · rw [HMS.out]
                  exact ⟨by simpa using (HN.out.1.ext (below_drewN (Below.refl _ _) _)), HN.out.2.1.ext (below_drewN (Below.refl _ _) _), by simpa using HN.out.2.2⟩
            · have hm2 : Ser.put (Ser.far 4294967296 a) x (nx, true) o = (nx ++ [o], true) := by simp [Ser.put, hox]
              rw [hm2] at HMS
              clear hm2
              have hnb : (o != x) = true := bne_iff_ne.2 hox
              clear hox
              go_wp2_with fail
              go_quiet (fail)
              go_wp2_with fail
              go_quiet (fail)
              go_wp2_with (first | (at_builtin; refine wpList_append_nums numTi rfl _ _ rfl w.heap.size nx [o] (HN.out.1.ext (EA wr _ _)) ((NumsAt.one wr o _ _ rfl).ext (below_drewN (Below.refl _ _) _)) (by simp; omega) (by simp; omega) (Nat.le_trans hB.size (EA wr _ _).size) ?_; intro an3 cn3 w3 hon3 hgn hbn; have ho3 := (HN.out.2.1.ext (EA wr _ _)).keptA hgn HN.out.2.2; have hB3 := (HN.out.1.ext (EA wr _ _)).below (hB.trans ((EA wr _ _).below.mono hB.size)) hgn (Nat.le_trans hB.size (EA wr _ _).size); have hA3 := HN.out.2.2.grown (fun g hg => ((HN.out.2.1.ext (EA wr _ _)).lt hg).2) hbn; clear hgn hbn; simp only [List.length_append, List.length_singleton] at hon3 hA3 ⊢; have hcx3 := HD.out _ hB3; have hco3 := HCO.out _ ho3) | fail)
              go_roundg (O.length - (k + 1))
              case measure => omega
              case rel =>
                refine ⟨hB3, k + 1, an3, cn3, by omega, rfl, by simp, ?_, ?_, ?_⟩
                · rw [HMS.out]
                · rw [HMS.out]; try simp
                · rw [HMS.out]
                  exact ⟨by simpa using (hon3), ho3, by simpa using hA3⟩
          | false =>
            by_cases hle : Ser.far 4294967296 a x ≤ Ser.far 4294967296 a o
            · by_cases hox : o = x
              · have hm2 : Ser.put (Ser.far 4294967296 a) x (nx, false) o = (nx ++ [x], true) := by simp [Ser.put, hox, hle]
                rw [hm2] at HMS
                clear hm2
                have hleb : decide (Ser.far 4294967296 a x ≤ Ser.far 4294967296 a o) = true := decide_eq_true hle
                have hnb : (o != x) = false := by rw [hox]; simp
                clear hox hle
                go_wp2_with fail
                go_quiet (first | (go_at_call 9; refine Calls.quiet_of_same (rfar _ _ _ _ (.inr rfl) ha (by first | exact o1 | exact oo))))
                go_wp2_with (first | (at_builtin; refine wpList_append_nums numTi rfl _ _ rfl w.heap.size nx [x] (HN.out.1.ext (EA wr _ _)) ((NumsAt.one wr x _ _ rfl).ext (below_drewN (Below.refl _ _) _)) (by simp; omega) (by simp; omega) (Nat.le_trans hB.size (EA wr _ _).size) ?_; intro an2 cn2 w2 hon2 hgn hbn; have ho2 := (HN.out.2.1.ext (EA wr _ _)).keptA hgn HN.out.2.2; have hB2 := (HN.out.1.ext (EA wr _ _)).below (hB.trans ((EA wr _ _).below.mono hB.size)) hgn (Nat.le_trans hB.size (EA wr _ _).size); have hA2 := HN.out.2.2.grown (fun g hg => ((HN.out.2.1.ext (EA wr _ _)).lt hg).2) hbn; clear hgn hbn; simp only [List.length_append, List.length_singleton] at hon2 hA2 ⊢; have hcx2 := HD.out _ hB2; have hco2 := HCO.out _ ho2) | fail)
                go_quiet (fail)
                go_wp2
                go_roundg (O.length - (k + 1))
                case measure => omega
                case rel =>
                  refine ⟨hB2.trans (below_drewN (Below.refl _ _) _), k + 1, an2, cn2, by omega, rfl, by simp, ?_, ?_, ?_⟩
                  · rw [HMS.out]
                  · rw [HMS.out]; try simp
                  · rw [HMS.out]
                    exact ⟨by simpa using (hon2.ext (below_drewN (Below.refl _ _) _)), ho2.ext (below_drewN (Below.refl _ _) _), by simpa using hA2⟩
              · have hm2 : Ser.put (Ser.far 4294967296 a) x (nx, false) o = (nx ++ [x] ++ [o], true) := by simp [Ser.put, hox, hle]
                rw [hm2] at HMS
                clear hm2
                have hleb : decide (Ser.far 4294967296 a x ≤ Ser.far 4294967296 a o) = true := decide_eq_true hle
                have hnb : (o != x) = true := bne_iff_ne.2 hox
                clear hox hle
                go_wp2_with fail
                go_quiet (first | (go_at_call 9; refine Calls.quiet_of_same (rfar _ _ _ _ (.inr rfl) ha (by first | exact o1 | exact oo))))
                go_wp2_with (first | (at_builtin; refine wpList_append_nums numTi rfl _ _ rfl w.heap.size nx [x] (HN.out.1.ext (EA wr _ _)) ((NumsAt.one wr x _ _ rfl).ext (below_drewN (Below.refl _ _) _)) (by simp; omega) (by simp; omega) (Nat.le_trans hB.size (EA wr _ _).size) ?_; intro an2 cn2 w2 hon2 hgn hbn; have ho2 := (HN.out.2.1.ext (EA wr _ _)).keptA hgn HN.out.2.2; have hB2 := (HN.out.1.ext (EA wr _ _)).below (hB.trans ((EA wr _ _).below.mono hB.size)) hgn (Nat.le_trans hB.size (EA wr _ _).size); have hA2 := HN.out.2.2.grown (fun g hg => ((HN.out.2.1.ext (EA wr _ _)).lt hg).2) hbn; clear hgn hbn; simp only [List.length_append, List.length_singleton] at hon2 hA2 ⊢; have hcx2 := HD.out _ hB2; have hco2 := HCO.out _ ho2) | fail)
                go_quiet (fail)
                go_wp2_with (first | (at_builtin; refine wpList_append_nums numTi rfl _ _ rfl w.heap.size (nx ++ [x]) [o] (hon2.ext (EA w2 _ _)) ((NumsAt.one w2 o _ _ rfl).ext (below_drewN (Below.refl _ _) _)) (by simp; omega) (by simp; omega) (Nat.le_trans hB2.size (EA w2 _ _).size) ?_; intro an3 cn3 w3 hon3 hgn hbn; have ho3 := (ho2.ext (EA w2 _ _)).keptA hgn hA2; have hB3 := (hon2.ext (EA w2 _ _)).below (hB2.trans ((EA w2 _ _).below.mono hB2.size)) hgn (Nat.le_trans hB2.size (EA w2 _ _).size); have hA3 := hA2.grown (fun g hg => ((ho2.ext (EA w2 _ _)).lt hg).2) hbn; clear hgn hbn; simp only [List.length_append, List.length_singleton] at hon3 hA3 ⊢; have hcx3 := HD.out _ hB3; have hco3 := HCO.out _ ho3) | fail)
                go_roundg (O.length - (k + 1))
                case measure => omega
                case rel =>
                  refine ⟨hB3, k + 1, an3, cn3, by omega, rfl, by simp, ?_, ?_, ?_⟩
                  · rw [HMS.out]
                  · rw [HMS.out]; try simp
                  · rw [HMS.out]
                    exact ⟨by simpa using (hon3), ho3, by simpa using hA3⟩
            · by_cases hox : o = x
              · exact absurd (by rw [hox]; exact Int.le_refl _) hle
              · have hm2 : Ser.put (Ser.far 4294967296 a) x (nx, false) o = (nx ++ [o], false) := by simp [Ser.put, hox, hle]
                rw [hm2] at HMS
                clear hm2
                have hleb : decide (Ser.far 4294967296 a x ≤ Ser.far 4294967296 a o) = false := decide_eq_false hle
                have hnb : (o != x) = true := bne_iff_ne.2 hox
                clear hox hle
                go_wp2_with fail
                go_quiet (first | (go_at_call 9; refine Calls.quiet_of_same (rfar _ _ _ _ (.inr rfl) ha (by first | exact o1 | exact oo))))
                go_wp2_with fail
                go_quiet (fail)
                go_wp2_with (first | (at_builtin; refine wpList_append_nums numTi rfl _ _ rfl w.heap.size nx [o] (HN.out.1.ext (EA wr _ _)) ((NumsAt.one wr o _ _ rfl).ext (below_drewN (Below.refl _ _) _)) (by simp; omega) (by simp; omega) (Nat.le_trans hB.size (EA wr _ _).size) ?_; intro an3 cn3 w3 hon3 hgn hbn; have ho3 := (HN.out.2.1.ext (EA wr _ _)).keptA hgn HN.out.2.2; have hB3 := (HN.out.1.ext (EA wr _ _)).below (hB.trans ((EA wr _ _).below.mono hB.size)) hgn (Nat.le_trans hB.size (EA wr _ _).size); have hA3 := HN.out.2.2.grown (fun g hg => ((HN.out.2.1.ext (EA wr _ _)).lt hg).2) hbn; clear hgn hbn; simp only [List.length_append, List.length_singleton] at hon3 hA3 ⊢; have hcx3 := HD.out _ hB3; have hco3 := HCO.out _ ho3) | fail)
                go_roundg (O.length - (k + 1))
                case measure => omega
                case rel =>
                  refine ⟨hB3, k + 1, an3, cn3, by omega, rfl, by simp, ?_, ?_, ?_⟩
                  · rw [HMS.out]
                  · rw [HMS.out]; try simp
                  · rw [HMS.out]
                    exact ⟨by simpa using (hon3), ho3, by simpa using hA3⟩
        · have hdk : decide ((k : Int) < (O.length : Int)) = false := decide_eq_false (by omega)
          have hkk : k = O.length := by omega
          subst hkk
          have HMA : Hid (Ser.ins (Ser.far 4294967296 a) x O = if (Ser.mid (Ser.far 4294967296 a) x O O.length).2 then (Ser.mid (Ser.far 4294967296 a) x O O.length).1 else (Ser.mid (Ser.far 4294967296 a) x O O.length).1 ++ [x]) := Ser.mid_all (Ser.far 4294967296 a) x O
          have hcx := HD.out _ hB
          have hi' : (i : Int) < (l.length : Int) := by omega
          generalize Ser.mid (Ser.far 4294967296 a) x O O.length = S at *
          obtain ⟨nx, dn⟩ := S
          simp only [] at HN hml HMA ⊢
          cases dn with
          | true =>
            go_wp2
            go_roundg (l.length - (i + 1))
            case measure => omega
            case rel =>
              refine ⟨hB, i + 1, an, cn, by omega, rfl, by simp, ?_, ?_⟩
              · rw [HSS.out, HMA.out]; simp
              · rw [HSS.out, HMA.out]; unfold Hid; simpa using HN.out.1
          | false =>
            go_wp2_with (first | (at_builtin; refine wpList_append_nums numTi rfl _ _ rfl w.heap.size nx [x] (HN.out.1.ext (Ext.alloc wr _)) (NumsAt.one wr x _ _ rfl) (by simp; omega) (by simp; omega) (Nat.le_trans hB.size (Ext.alloc wr _).size) ?_; intro an2 cn2 w2 hon2 hgn hbn; have hB2 := (HN.out.1.ext (Ext.alloc wr _)).below (hB.trans ((Ext.alloc wr _).below.mono hB.size)) hgn (Nat.le_trans hB.size (Ext.alloc wr _).size); clear hgn hbn; simp only [List.length_append, List.length_singleton] at hon2 ⊢) | fail)
            go_roundg (l.length - (i + 1))
            case measure => omega
            case rel =>
              refine ⟨hB2, i + 1, an2, cn2, by omega, rfl, by simp, ?_, ?_⟩
              · rw [HSS.out, HMA.out]; simp
              · rw [HSS.out, HMA.out]; unfold Hid; simpa using hon2
    · have hd : decide ((i : Int) < (l.length : Int)) = false := decide_eq_false (by omega)
      have hil : Ser.sofar (Ser.far 4294967296 a) l i = Ser.sort (Ser.far 4294967296 a) l := by unfold Ser.sofar; rw [List.take_of_length_le (by omega)]
      rw [hil] at HOW ⊢
      go_wp2
      go_ret
      exact ⟨_, rfl, HOW.out, hE⟩
end Go.Proofs.Ytmfkedkkkmnmmaa
