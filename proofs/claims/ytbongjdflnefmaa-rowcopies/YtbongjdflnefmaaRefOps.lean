/- The document's own row: what its functions answer. No condition of its own. -/
import Derived.Test.YtbongjdflnefmaaFind
namespace Go.Proofs.Ytbongjdflnefmaa
open Go.RowKit
set_option linter.unusedVariables false
set_option linter.unusedSimpArgs false
set_option maxRecDepth 100000

/-- Where a slice lies: where another lay, or in new memory. -/
def Came (w w' : World) (u u' : Value) : Prop := ∀ g, blockOf u' = some g → blockOf u = some g ∨ (w.heap.size ≤ g ∧ g < w'.heap.size)
theorem Came.same (w w' : World) (u : Value) : Came w w' u u := fun g hg => .inl hg
theorem sliced_form (a : Option Addr) (lo hi c : Nat) : ∃ a2, sliced a lo hi c 1 = .slice a2 (hi - lo) (c - lo) ∧ ∀ g, blockOf (.slice a2 (hi - lo) (c - lo)) = some g → ∀ n c', blockOf (.slice a n c') = some g := by
  unfold sliced
  refine ⟨_, rfl, ?_⟩
  intro g hg n c'
  cases a with
  | none => split at hg <;> simp [blockOf] at hg
  | some x =>
    split at hg
    · exact hg
    · simp [blockOf, add_block] at hg ⊢; exact hg
theorem blockOf_own (v : Value) : blockOf v = v.ownBlock := by unfold blockOf Value.ownBlock; rfl

theorem boxes_kept {w w1 : World} {o1 o2 o3 : Obj} {r : Option Nat} (hg : (((w.alloc o1).alloc o2).alloc o3).grownBy w1 r) (hr : ∀ k, r = some k → w.heap.size + 2 ≤ k) :
    w1.heap[w.heap.size]? = some o1 ∧ w1.heap[w.heap.size + 1]? = some o2 ∧ Ext w w1 ∧ w.heap.size + 3 ≤ w1.heap.size := by
  have hsz := hg.size
  simp at hsz
  refine ⟨?_, ?_, ⟨hg.os, hg.tape, hg.output, by omega, fun k hk => ?_⟩, by omega⟩
  · rw [hg.block w.heap.size (by simp; omega) (fun e => by have := hr _ e.symm; omega), Below.heap_alloc _ _ _ (by simp; omega), Below.heap_alloc _ _ _ (by simp)]
    exact Array.getElem?_push_size
  · rw [hg.block (w.heap.size + 1) (by simp) (fun e => by have := hr _ e.symm; omega), Below.heap_alloc _ _ _ (by simp)]
    have : ((w.alloc o1).alloc o2).heap[(w.alloc o1).heap.size]? = some o2 := Array.getElem?_push_size
    rwa [show (w.alloc o1).heap.size = w.heap.size + 1 by simp] at this
  · rw [hg.block k (by simp; omega) (fun e => by have := hr _ e.symm; omega), Below.heap_alloc _ _ _ (by simp; omega), Below.heap_alloc _ _ _ (by simp; omega), Below.heap_alloc _ _ _ hk]
theorem box_on {w1 w2 : World} {o : Obj} {r : Option Nat} {k : Nat} (hg : (w1.alloc o).grownBy w2 r) (hk : k < w1.heap.size) (hr : some k ≠ r) : w2.heap[k]? = w1.heap[k]? :=
  (hg.block k (by simp; omega) hr).trans (Below.heap_alloc _ _ _ hk)

section
variable {f m n : Int} {l : List Int} {u : Value} {w : World}
set_option maxHeartbeats 1000000 in
theorem rpush_full (x : Int) (hf : Of 4294967296 f) (hm : W64 m) (hx : W64 x) (hu : NumsAt .i64 w u l) (hl : l.length ≤ 1024) (hfull : m ≤ l.length) :
    Calls Try.prog 30 #[refV f m u, .int .i64 x] w fun e w' => e = .returned (.tuple #[refV f m u, .int .u32 0, .int .i64 3]) ∧ Ext w w' := by
  have HU : Hid (NumsAt .i64 w u l) := hu
  obtain ⟨a, cap, rfl, hcap, hcell⟩ := hu.form
  have hmx : cap ≤ 9223372036854775807 := by have := hcap.2; unfold maxLen at this; omega
  clear hu hcell
  have hd : decide ((l.length : Int) ≥ m) = true := decide_eq_true hfull
  go_enter Try.func30, Try.ntmps30
  go_wp2
  refine bodyPost_ret (v := .tuple #[refV f m (.slice a l.length cap), .int .u32 0, .int .i64 3]) ?_ rfl ⟨rfl, (Ext.alloc _ _).trans (Ext.alloc _ _)⟩
  simp [results, Try.f30, go_sem]

set_option maxHeartbeats 2000000 in
theorem rpush_any (x : Int) (hf : Of 4294967296 f) (hm : W64 m) (hx : W64 x) (hu : NumsAt .i64 w u l) (hl : l.length ≤ 1024) (hroom : (l.length : Int) < m) :
    Calls Try.prog 30 #[refV f m u, .int .i64 x] w fun e w' => ∃ u', e = .returned (.tuple #[refV f m u', .int .u32 (Ser.step f l.length), .int .i64 0]) ∧ NumsAt .i64 w' u' (l ++ [x]) ∧ Came w w' u u' ∧ Ext w w' := by
  have HU : Hid (NumsAt .i64 w u l) := hu
  obtain ⟨a, cap, rfl, hcap, hcell⟩ := hu.form
  have hmx : cap ≤ 9223372036854775807 := by have := hcap.2; unfold maxLen at this; omega
  clear hu hcell
  have hd : decide ((l.length : Int) ≥ m) = false := decide_eq_false (by omega)
  go_enter Try.func30, Try.ntmps30
  go_wp2_with (first
    | (refine wpList_append_nums numT rfl (.tmp 22) (.tmp 24) rfl w.heap.size [] l ?_ ?_ ?_ ?_ ?_ ?_))
  · exact OwnN.lit0 .i64 ((w.alloc _).alloc _) w.heap.size 3 _ (by simp) (by simp; omega)
  · exact HU.out.ext (((Ext.alloc _ _).trans (Ext.alloc _ _)).trans (Ext.alloc _ _))
  · simp; omega
  · simp; omega
  · simp; omega
  · intro ad1 cap1 w1 ho hg hown
    have hr1 : ∀ k, (Value.slice ad1 l.length cap1).ownBlock = some k → w.heap.size + 2 ≤ k := by
      intro k hk
      rcases hown with h | h <;> rw [h] at hk <;> simp [Value.ownBlock] at hk <;> omega
    obtain ⟨b0, b1, hE1, hsz1⟩ := boxes_kept hg (fun k hk => by simp [Value.ownBlock] at hk; omega)
    have HO1 : Hid (OwnN .i64 w1 w.heap.size 3 (.slice ad1 l.length cap1) l) := ho
    clear hg hown ho
    go_wp2_with (first
      | (refine wpList_append_nums numT rfl (.tmp 25) (.tmp 27) rfl w.heap.size l [x] ?_ ?_ ?_ ?_ ?_ ?_))
    · exact HO1.out.ext (Ext.alloc _ _)
    · exact NumsAt.one _ _ _ _ rfl
    · simp; omega
    · simp; omega
    · simp; omega
    · intro ad2 cap2 w2 ho hg hown
      replace hg : (w1.alloc (.cells #[.int .i64 x] 3)).grownBy w2 (Value.slice ad1 l.length cap1).ownBlock := hg
      have k0 := (box_on hg (k := w.heap.size) (by omega) (fun e => by have := hr1 _ e.symm; omega)).trans b0
      have k1 := (box_on hg (k := w.heap.size + 1) (by omega) (fun e => by have := hr1 _ e.symm; omega)).trans b1
      have hE2 : Ext w w2 := Ext.on hE1 (Below.grown ((Below.refl (w.heap.size + 2) _).alloc (by omega) _) hg (by simp; omega) hr1) (by omega)
      have hsz2 : w1.heap.size ≤ w2.heap.size := Nat.le_trans (by simp) hg.size
      have hr2 : ∀ k, (Value.slice ad2 (l.length + 1) cap2).ownBlock = some k → w.heap.size + 2 ≤ k := by
        intro k hk
        rcases hown with h | h
        · rw [h] at hk; exact hr1 k hk
        · rw [h] at hk; simp at hk; omega
      have c0 : w2.cell? ⟨w.heap.size, 0, none⟩ = _ := cell_of_block k0 0
      have c1 : w2.cell? ⟨w.heap.size, 1, none⟩ = _ := cell_of_block k0 1
      have c2 : w2.cell? ⟨w.heap.size, 2, none⟩ = _ := cell_of_block k0 2
      have f2 : w2.frozen? ⟨w.heap.size, 2, none⟩ = false := frozen_of_block k0 2
      have e0 : w2.cell? ⟨w.heap.size + 1, 0, none⟩ = _ := cell_of_block k1 0
      have e1 : w2.cell? ⟨w.heap.size + 1, 1, none⟩ = _ := cell_of_block k1 1
      have e2 : w2.cell? ⟨w.heap.size + 1, 2, none⟩ = _ := cell_of_block k1 2
      have g0 : w2.frozen? ⟨w.heap.size + 1, 0, none⟩ = false := frozen_of_block k1 0
      have g1 : w2.frozen? ⟨w.heap.size + 1, 1, none⟩ = false := frozen_of_block k1 1
      have g2 : w2.frozen? ⟨w.heap.size + 1, 2, none⟩ = false := frozen_of_block k1 2
      have HO2 : Hid (OwnN .i64 w2 w.heap.size 3 (.slice ad2 (l.length + 1) cap2) (l ++ [x])) := (by simpa using ho : OwnN .i64 w2 w.heap.size 3 (.slice ad2 (l.length + 1) cap2) (l ++ [x]))
      have HR2 : Hid (∀ k, (Value.slice ad2 (l.length + 1) cap2).ownBlock = some k → w.heap.size + 2 ≤ k) := hr2
      simp only [List.getElem?_toArray, List.getElem?_cons_zero, List.getElem?_cons_succ] at c0 c1 c2 e0 e1 e2
      clear hg hown ho hr1 hr2 k0 k1 b0 b1
      go_wp2
      refine bodyPost_ret (v := .tuple #[refV f m (.slice ad2 (l.length + 1) cap2), .int .u32 (Ser.step f l.length), .int .i64 0]) ?_ rfl ⟨_, rfl, ?_, ?_, ?_⟩
      · simp [results, Try.f30, go_sem, c0, c1, c2, e0, e1, e2, Ser.step]
      · refine HO2.out.nums.via fun k hk _ => ?_
        have := HR2.out k (by rw [← blockOf_own]; exact hk)
        rw [block_other (by omega), block_other (by omega), block_other (by omega), block_other (by omega)]
      · intro g hg
        have h1 := HO2.out.lt (g := g) (by rw [← blockOf_own]; exact hg)
        exact .inr (by simpa using h1)
      · exact (((Below.setCell hE2 (by simp) _).setCell (by simp) _).setCell (by simp) _).setCell (by simp) _

set_option maxHeartbeats 1000000 in
theorem rpop_none (hf : Of 4294967296 f) (hm : W64 m) (hu : NumsAt .i64 w u []) :
    Calls Try.prog 31 #[refV f m u] w fun e w' => e = .returned (.tuple #[refV f m u, .int .i64 0, .int .i64 4]) ∧ Ext w w' := by
  obtain ⟨a, cap, rfl, hcap, hcell⟩ := hu.form
  clear hu hcell
  go_enter Try.func31, Try.ntmps31
  go_wp2
  refine bodyPost_ret (v := .tuple #[refV f m (.slice a 0 cap), .int .i64 0, .int .i64 4]) ?_ rfl ⟨rfl, (Ext.alloc _ _).trans (Ext.alloc _ _)⟩
  simp [results, Try.f31, go_sem]

set_option maxHeartbeats 2000000 in
theorem rpop_any (x : Int) (hf : Of 4294967296 f) (hm : W64 m) (hu : NumsAt .i64 w u (x :: l)) (hl : l.length < 1024) :
    Calls Try.prog 31 #[refV f m u] w fun e w' => ∃ u', e = .returned (.tuple #[refV (Ser.step f 1) m u', .int .i64 x, .int .i64 0]) ∧ NumsAt .i64 w' u' l ∧ Came w w' u u' ∧ Ext w w' := by
  have HU : Hid (NumsAt .i64 w u (x :: l)) := hu
  obtain ⟨a, cap, rfl, hcap, hcell⟩ := hu.form
  have hmx : cap ≤ 9223372036854775807 := by have := hcap.2; unfold maxLen at this; omega
  obtain ⟨b1, o1, rfl, q1⟩ := hcell 0 (by simp)
  have hnl : (x :: l).length = l.length + 1 := by simp
  obtain ⟨N, hN⟩ : ∃ N, (x :: l).length = N := ⟨_, rfl⟩
  rw [hN] at HU hcap hnl ⊢
  obtain ⟨a2, hs, hbl⟩ := sliced_form (some ⟨b1, o1, none⟩) 1 N cap
  have HS : Hid (sliced (some ⟨b1, o1, none⟩) 1 N cap 1 = .slice a2 (N - 1) (cap - 1)) := hs
  have HB : Hid (∀ g, blockOf (.slice a2 (N - 1) (cap - 1)) = some g → ∀ n c', blockOf (.slice (some ⟨b1, o1, none⟩) n c') = some g) := hbl
  have HN : Hid (N = l.length + 1) := hnl
  have hn0 : (0 : Int) < (N : Int) := by omega
  have hd0 : ((N : Int) == 0) = false := beq_eq_false_iff_ne.2 (by omega)
  have hd1 : (N : Int) ≠ 0 := by omega
  have hd2 : 0 < N := by omega
  have hd3 : ¬ N = 0 := by omega
  have hq : w.cell? ⟨b1, o1, none⟩ = some (.int .i64 x) := by simpa using q1
  have hq1 := (Ext.alloc w (.cells #[.int .u32 f, .int .i64 m, .slice (some ⟨b1, o1, none⟩) N cap] 36)).cell hq
  have hq2 := (Ext.alloc (w.alloc (.cells #[.int .u32 f, .int .i64 m, .slice (some ⟨b1, o1, none⟩) N cap] 36)) (.cells #[.int .u32 0, .int .i64 0, .slice none 0 0] 36)).cell hq1
  clear hu hcell hs hbl q1 hN hnl
  go_enter Try.func31, Try.ntmps31
  go_wp2_with (first
    | (refine wpList_of_run (v := .slice a2 (N - 1) (cap - 1)) rfl ((exec_slice_lN numT (x := .tmp 16) (lo := .const (.int .i64 1)) rfl _ (some ⟨b1, o1, none⟩) N cap 1 .i64 rfl rfl (by omega)).trans (by rw [HS.out])) ?_))
  refine bodyPost_ret (v := .tuple #[refV (Ser.step f 1) m (.slice a2 (N - 1) (cap - 1)), .int .i64 x, .int .i64 0]) ?_ rfl ⟨_, rfl, ?_, fun g hg => .inl (HB.out g hg _ _), (Ext.alloc _ _).trans (Ext.alloc _ _)⟩
  · simp [results, Try.f31, go_sem, Ser.step]
  · have h1 := HU.out.sliced 1 N (by have := HN.out; omega) (by have := HN.out; simp; omega)
    rw [HS.out, List.take_of_length_le (by have := HN.out; simp; omega)] at h1
    exact h1.ext ((Ext.alloc _ _).trans (Ext.alloc _ _))
end
end Go.Proofs.Ytbongjdflnefmaa
