/- The document's own row: Set and Cut. No condition of its own. -/
import Derived.Test.YtbongjdflnefmaaRefOps
namespace Go.Proofs.Ytbongjdflnefmaa
open Go.RowKit
set_option linter.unusedVariables false
set_option linter.unusedSimpArgs false
set_option maxRecDepth 100000

theorem blockOf_len (a : Option Addr) (n c n' c' : Nat) : blockOf (.slice a n c) = blockOf (.slice a n' c') := by cases a <;> rfl
section
variable {w w1 : World} {o1 o2 : Obj}
theorem two_ext (h : Ext ((w.alloc o1).alloc o2) w1) : Ext w w1 := ((Ext.alloc _ _).trans (Ext.alloc _ _)).trans h
theorem two_sz (h : Ext ((w.alloc o1).alloc o2) w1) : w.heap.size + 2 ≤ w1.heap.size := by have := h.size; simp at this; omega
theorem two_b0 (h : Ext ((w.alloc o1).alloc o2) w1) : w1.heap[w.heap.size]? = some o1 := by
  rw [h.block w.heap.size (by simp; omega), Below.heap_alloc _ _ _ (by simp)]
  exact Array.getElem?_push_size
theorem two_b1 (h : Ext ((w.alloc o1).alloc o2) w1) : w1.heap[w.heap.size + 1]? = some o2 := by
  rw [h.block (w.heap.size + 1) (by simp)]
  have : ((w.alloc o1).alloc o2).heap[(w.alloc o1).heap.size]? = some o2 := Array.getElem?_push_size
  rwa [show (w.alloc o1).heap.size = w.heap.size + 1 by simp] at this
end

section
variable {f m n : Int} {l : List Int} {u : Value} {w : World}
set_option maxHeartbeats 2000000 in
theorem rset_none (x : Int) (hf : Of 4294967296 f) (hm : W64 m) (hn : Of 4294967296 n) (hx : W64 x) (hu : NumsAt .i64 w u l) (hl : l.length ≤ 1024) (hout : ¬ Ser.far f n < l.length) :
    Calls Try.prog 32 #[refV f m u, .int .u32 n, .int .i64 x] w fun e w' => e = .returned (.tuple #[refV f m u, .int .i64 4]) ∧ Ext w w' := by
  have HU : Hid (NumsAt .i64 w u l) := hu
  obtain ⟨a, cap, rfl, hcap, hcell⟩ := hu.form
  have hmx : cap ≤ 9223372036854775807 := by have := hcap.2; unfold maxLen at this; omega
  clear hu hcell
  have hr : refFind f n l = -1 := by unfold refFind; rw [if_neg hout]
  have HR : Hid (refFind f n l = -1) := hr
  clear hr
  go_enter Try.func32, Try.ntmps32
  go_wp2_with (first
    | (go_at_call 43
       refine (find_any hf hm hn (HU.out.ext ((Ext.alloc _ _).trans (Ext.alloc _ _))) hl).mono ?_
       rintro e w1 ⟨rfl, he⟩
       rw [HR.out]
       have b0 := two_b0 he
       have b1 := two_b1 he
       have hsz1 := two_sz he
       have hE1 := two_ext he
       have hlt0 : w.heap.size < w1.heap.size := by omega
       have hlt1 : w.heap.size + 1 < w1.heap.size := by omega
       have c0 : w1.cell? ⟨w.heap.size, 0, none⟩ = some (.int .u32 f) := cell_of_block b0 0
       have c1 : w1.cell? ⟨w.heap.size, 1, none⟩ = some (.int .i64 m) := cell_of_block b0 1
       have c2 : w1.cell? ⟨w.heap.size, 2, none⟩ = some (.slice a l.length cap) := cell_of_block b0 2
       have f0 : w1.frozen? ⟨w.heap.size, 0, none⟩ = false := frozen_of_block b0 0
       have f2 : w1.frozen? ⟨w.heap.size, 2, none⟩ = false := frozen_of_block b0 2
       have e0 : w1.cell? ⟨w.heap.size + 1, 0, none⟩ = some (.int .u32 0) := cell_of_block b1 0
       have e1 : w1.cell? ⟨w.heap.size + 1, 1, none⟩ = some (.int .i64 0) := cell_of_block b1 1
       have e2 : w1.cell? ⟨w.heap.size + 1, 2, none⟩ = some (.slice none 0 0) := cell_of_block b1 2
       have g0 : w1.frozen? ⟨w.heap.size + 1, 0, none⟩ = false := frozen_of_block b1 0
       have g1 : w1.frozen? ⟨w.heap.size + 1, 1, none⟩ = false := frozen_of_block b1 1
       have g2 : w1.frozen? ⟨w.heap.size + 1, 2, none⟩ = false := frozen_of_block b1 2
       have HB0 : Hid _ := b0
       have HB1 : Hid _ := b1
       clear he b0 b1))
  refine bodyPost_ret (v := .tuple #[refV f m (.slice a l.length cap), .int .i64 4]) ?_ rfl ⟨rfl, ?_⟩
  · simp [results, Try.f32, go_sem, c0, c1, c2, e0, e1, e2]
  · exact ((Below.setCell hE1 (by simp) _).setCell (by simp) _).setCell (by simp) _

set_option maxHeartbeats 2000000 in
theorem rset_any (x : Int) (k : Nat) (hf : Of 4294967296 f) (hm : W64 m) (hn : Of 4294967296 n) (hx : W64 x) (hu : NumsAt .i64 w u l) (hl : l.length ≤ 1024) (hk : Ser.far f n = k) (hin : k < l.length) :
    Calls Try.prog 32 #[refV f m u, .int .u32 n, .int .i64 x] w fun e w' => ∃ u', e = .returned (.tuple #[refV f m u', .int .i64 0]) ∧ NumsAt .i64 w' u' (l.set k x) ∧ Came w w' u u' ∧ Ext w w' := by
  have HU : Hid (NumsAt .i64 w u l) := hu
  obtain ⟨a, cap, rfl, hcap, hcell⟩ := hu.form
  have hmx : cap ≤ 9223372036854775807 := by have := hcap.2; unfold maxLen at this; omega
  clear hu hcell
  have hr : refFind f n l = k := by unfold refFind; rw [hk, if_pos (by omega)]
  have HR : Hid (refFind f n l = k) := hr
  clear hr hk
  go_enter Try.func32, Try.ntmps32
  go_wp2_with (first
    | (go_at_call 43
       refine (find_any hf hm hn (HU.out.ext ((Ext.alloc _ _).trans (Ext.alloc _ _))) hl).mono ?_
       rintro e w1 ⟨rfl, he⟩
       rw [HR.out]
       have b0 := two_b0 he
       have b1 := two_b1 he
       have hsz1 := two_sz he
       have hE1 := two_ext he
       have hlt0 : w.heap.size < w1.heap.size := by omega
       have hlt1 : w.heap.size + 1 < w1.heap.size := by omega
       have c0 : w1.cell? ⟨w.heap.size, 0, none⟩ = some (.int .u32 f) := cell_of_block b0 0
       have c1 : w1.cell? ⟨w.heap.size, 1, none⟩ = some (.int .i64 m) := cell_of_block b0 1
       have c2 : w1.cell? ⟨w.heap.size, 2, none⟩ = some (.slice a l.length cap) := cell_of_block b0 2
       have f0 : w1.frozen? ⟨w.heap.size, 0, none⟩ = false := frozen_of_block b0 0
       have f2 : w1.frozen? ⟨w.heap.size, 2, none⟩ = false := frozen_of_block b0 2
       have e0 : w1.cell? ⟨w.heap.size + 1, 0, none⟩ = some (.int .u32 0) := cell_of_block b1 0
       have e1 : w1.cell? ⟨w.heap.size + 1, 1, none⟩ = some (.int .i64 0) := cell_of_block b1 1
       have e2 : w1.cell? ⟨w.heap.size + 1, 2, none⟩ = some (.slice none 0 0) := cell_of_block b1 2
       have g0 : w1.frozen? ⟨w.heap.size + 1, 0, none⟩ = false := frozen_of_block b1 0
       have g1 : w1.frozen? ⟨w.heap.size + 1, 1, none⟩ = false := frozen_of_block b1 1
       have g2 : w1.frozen? ⟨w.heap.size + 1, 2, none⟩ = false := frozen_of_block b1 2
       have HB0 : Hid _ := b0
       have HB1 : Hid _ := b1
       clear he b0 b1)
    | (refine wpList_append_nums numT rfl (.tmp 15) (.tmp 17) rfl (w.heap.size + 2) [] l ?_ ?_ ?_ ?_ ?_ ?_))
  · exact OwnN.lit0 .i64 w1 (w.heap.size + 2) 3 _ rfl hsz1
  · exact HU.out.ext (hE1.trans (Ext.alloc _ _))
  · simp; omega
  · simp; omega
  · simp; omega
  · intro ad2 cap2 w2 ho hg hown
    replace ho : OwnN .i64 w2 (w.heap.size + 2) 3 (.slice ad2 l.length cap2) l := by simpa using ho
    replace hg : (w1.alloc (.cells #[] 3)).grownBy w2 (some w1.heap.size) := hg
    obtain ⟨g5, rfl⟩ : ∃ g5, ad2 = some ⟨g5, 0, none⟩ := by
      obtain ⟨a5, c5, e5, h5, h6⟩ := ho.slice
      cases e5
      cases ad2 with
      | none => have := (h5 rfl).1; subst this; simp at hin
      | some z => obtain ⟨g, rfl, _⟩ := h6 z rfl; exact ⟨g, rfl⟩
    have hg5 := ho.lt (g := g5) rfl
    have k0 := (box_on hg (k := w.heap.size) (by omega) (by simp; omega)).trans HB0.out
    have k1 := (box_on hg (k := w.heap.size + 1) (by omega) (by simp; omega)).trans HB1.out
    have hE2 : Ext w w2 := Ext.on hE1 (Below.grown ((Below.refl (w.heap.size + 2) _).alloc (by omega) _) hg (by simp; omega) (fun k hk => by cases hk; omega)) (by omega)
    clear c0 c1 c2 f0 f2 e0 e1 e2 g0 g1 g2
    have c0 : w2.cell? ⟨w.heap.size, 0, none⟩ = some (.int .u32 f) := cell_of_block k0 0
    have c1 : w2.cell? ⟨w.heap.size, 1, none⟩ = some (.int .i64 m) := cell_of_block k0 1
    have c2 : w2.cell? ⟨w.heap.size, 2, none⟩ = some (.slice a l.length cap) := cell_of_block k0 2
    have f2 : w2.frozen? ⟨w.heap.size, 2, none⟩ = false := frozen_of_block k0 2
    have e0 : w2.cell? ⟨w.heap.size + 1, 0, none⟩ = some (.int .u32 0) := cell_of_block k1 0
    have e1 : w2.cell? ⟨w.heap.size + 1, 1, none⟩ = some (.int .i64 0) := cell_of_block k1 1
    have e2 : w2.cell? ⟨w.heap.size + 1, 2, none⟩ = some (.slice none 0 0) := cell_of_block k1 2
    have g0 : w2.frozen? ⟨w.heap.size + 1, 0, none⟩ = false := frozen_of_block k1 0
    have g1 : w2.frozen? ⟨w.heap.size + 1, 1, none⟩ = false := frozen_of_block k1 1
    have g2 : w2.frozen? ⟨w.heap.size + 1, 2, none⟩ = false := frozen_of_block k1 2
    have q1 : w2.cell? ⟨g5, k, none⟩ = some (.int .i64 (l.getD k 0)) := by
      rw [ho.1.cellAt k (by omega)]; simp [List.getD_eq_getElem?_getD, hin]
    have q2 : w2.frozen? ⟨g5, k, none⟩ = false := by
      rcases ho.1.2 with ⟨h0, _⟩ | ⟨g', cap', cur, h0, _, hgb, _⟩
      · cases h0
      · cases h0; exact frozen_of_block hgb k
    have n1 : g5 ≠ w.heap.size := by omega
    have n2 : g5 ≠ w.heap.size + 1 := by omega
    have n3 : ¬ g5 = w.heap.size := by omega
    have n4 : ¬ g5 = w.heap.size + 1 := by omega
    have n5 : ¬ w.heap.size = g5 := by omega
    have n6 : ¬ w.heap.size + 1 = g5 := by omega
    have hin' : (k : Int) < (l.length : Int) := by omega
    have HO2 : Hid (OwnN .i64 w2 (w.heap.size + 2) 3 (.slice (some ⟨g5, 0, none⟩) l.length cap2) l) := ho
    generalize l.getD k 0 = y at *
    clear hg hown ho k0 k1 HB0 HB1
    go_wp2
    refine bodyPost_ret (v := .tuple #[refV f m (.slice (some ⟨g5, 0, none⟩) l.length cap2), .int .i64 0]) ?_ rfl ⟨_, rfl, ?_, ?_, ?_⟩
    · simp [results, Try.f32, go_sem, c0, c1, c2, e0, e1, e2, n1, n2, n3, n4, n5, n6]
    · have h1 := ((HO2.out.via (w' := w2.setCell ⟨w.heap.size, 2, none⟩ (.slice (some ⟨g5, 0, none⟩) l.length cap2)) (fun g hg => block_other (by have := HO2.out.lt hg; omega) _ _)).stored k x).1.nums
      refine h1.via fun g hg _ => ?_
      simp [blockOf] at hg
      subst hg
      rw [block_other (by omega), block_other (by omega), block_other (by omega)]
    · intro g hg
      simp [blockOf] at hg
      subst hg
      exact .inr (by simpa using ⟨by omega, hg5.2⟩)
    · exact (((Below.setCell (Below.setCell hE2 (by simp) _) (by simp; omega) _).setCell (by simp) _).setCell (by simp) _).setCell (by simp) _

set_option maxHeartbeats 2000000 in
theorem rcut_out (hf : Of 4294967296 f) (hm : W64 m) (hn : Of 4294967296 n) (hu : NumsAt .i64 w u l) (hl : l.length ≤ 1024) (hout : ¬ Ser.far f n < l.length) (hne : n ≠ Ser.step f l.length) :
    Calls Try.prog 33 #[refV f m u, .int .u32 n] w fun e w' => e = .returned (.tuple #[refV f m u, .slice none 0 0, .int .i64 1]) ∧ Ext w w' := by
  have HU : Hid (NumsAt .i64 w u l) := hu
  obtain ⟨a, cap, rfl, hcap, hcell⟩ := hu.form
  have hmx : cap ≤ 9223372036854775807 := by have := hcap.2; unfold maxLen at this; omega
  clear hu hcell
  have hr : refFind f n l = -1 := by unfold refFind; rw [if_neg hout]
  have HR : Hid (refFind f n l = -1) := hr
  have hq : (n == (f + (l.length : Int)) % 4294967296) = false := beq_eq_false_iff_ne.2 hne
  clear hr
  go_enter Try.func33, Try.ntmps33
  go_wp2_with (first
    | (go_at_call 43
       refine (find_any hf hm hn (HU.out.ext ((Ext.alloc _ _).trans (Ext.alloc _ _))) hl).mono ?_
       rintro e w1 ⟨rfl, he⟩
       rw [HR.out]
       have b0 := two_b0 he
       have b1 := two_b1 he
       have hsz1 := two_sz he
       have hE1 := two_ext he
       have hlt0 : w.heap.size < w1.heap.size := by omega
       have hlt1 : w.heap.size + 1 < w1.heap.size := by omega
       have c0 : w1.cell? ⟨w.heap.size, 0, none⟩ = some (.int .u32 f) := cell_of_block b0 0
       have c1 : w1.cell? ⟨w.heap.size, 1, none⟩ = some (.int .i64 m) := cell_of_block b0 1
       have c2 : w1.cell? ⟨w.heap.size, 2, none⟩ = some (.slice a l.length cap) := cell_of_block b0 2
       have f0 : w1.frozen? ⟨w.heap.size, 0, none⟩ = false := frozen_of_block b0 0
       have f2 : w1.frozen? ⟨w.heap.size, 2, none⟩ = false := frozen_of_block b0 2
       have e0 : w1.cell? ⟨w.heap.size + 1, 0, none⟩ = some (.int .u32 0) := cell_of_block b1 0
       have e1 : w1.cell? ⟨w.heap.size + 1, 1, none⟩ = some (.int .i64 0) := cell_of_block b1 1
       have e2 : w1.cell? ⟨w.heap.size + 1, 2, none⟩ = some (.slice none 0 0) := cell_of_block b1 2
       have g0 : w1.frozen? ⟨w.heap.size + 1, 0, none⟩ = false := frozen_of_block b1 0
       have g1 : w1.frozen? ⟨w.heap.size + 1, 1, none⟩ = false := frozen_of_block b1 1
       have g2 : w1.frozen? ⟨w.heap.size + 1, 2, none⟩ = false := frozen_of_block b1 2
       have HB0 : Hid _ := b0
       have HB1 : Hid _ := b1
       clear he b0 b1))
  refine bodyPost_ret (v := .tuple #[refV f m (.slice a l.length cap), .slice none 0 0, .int .i64 1]) ?_ rfl ⟨rfl, ?_⟩
  · simp [results, Try.f33, go_sem, c0, c1, c2, e0, e1, e2]
  · exact ((Below.setCell hE1 (by simp) _).setCell (by simp) _).setCell (by simp) _

set_option maxHeartbeats 2000000 in
theorem rcut_any (k : Nat) (hf : Of 4294967296 f) (hm : W64 m) (hn : Of 4294967296 n) (hu : NumsAt .i64 w u l) (hl : l.length ≤ 1024) (hk : Ser.far f n = k) (hin : k ≤ l.length) :
    Calls Try.prog 33 #[refV f m u, .int .u32 n] w fun e w' => ∃ u' o, e = .returned (.tuple #[refV n m u', o, .int .i64 0]) ∧ NumsAt .i64 w' o (l.take k) ∧ NumsAt .i64 w' u' (l.drop k) ∧ Came w w' u o ∧ Came w w' u u' ∧ Ext w w' := by
  have HU : Hid (NumsAt .i64 w u l) := hu
  obtain ⟨a, cap, rfl, hcap, hcell⟩ := hu.form
  have hmx : cap ≤ 9223372036854775807 := by have := hcap.2; unfold maxLen at this; omega
  clear hu hcell
  obtain ⟨a2, hs, hbl⟩ := sliced_form a k l.length cap
  have HS : Hid (sliced a k l.length cap 1 = .slice a2 (l.length - k) (cap - k)) := hs
  have HB : Hid (∀ g, blockOf (.slice a2 (l.length - k) (cap - k)) = some g → ∀ n c', blockOf (.slice a n c') = some g) := hbl
  have HN1 : Hid (NumsAt .i64 w (.slice a k cap) (l.take k)) := (by
    have := HU.out.sliced 0 k (by omega) hin
    rwa [sliced_zero, List.drop_zero] at this : NumsAt .i64 w (.slice a k cap) (l.take k))
  have HN2 : Hid (NumsAt .i64 w (.slice a2 (l.length - k) (cap - k)) (l.drop k)) := (by
    have := HU.out.sliced k l.length hin (Nat.le_refl _)
    rwa [HS.out, List.take_length] at this : NumsAt .i64 w (.slice a2 (l.length - k) (cap - k)) (l.drop k))
  clear hs hbl
  by_cases hlt : k < l.length
  · have hr : refFind f n l = k := by unfold refFind; rw [hk, if_pos (by omega)]
    have HR : Hid (refFind f n l = k) := hr
    have hq : (n == (f + (l.length : Int)) % 4294967296) = false := beq_eq_false_iff_ne.2 (by
      rintro rfl
      have := far_step hf l.length (by omega)
      omega)
    clear hr hk
    go_enter Try.func33, Try.ntmps33
    go_wp2_with (first
      | (go_at_call 43
         refine (find_any hf hm hn (HU.out.ext ((Ext.alloc _ _).trans (Ext.alloc _ _))) hl).mono ?_
         rintro e w1 ⟨rfl, he⟩
         rw [HR.out]
         have b0 := two_b0 he
         have b1 := two_b1 he
         have hsz1 := two_sz he
         have hE1 := two_ext he
         have hlt0 : w.heap.size < w1.heap.size := by omega
         have hlt1 : w.heap.size + 1 < w1.heap.size := by omega
         have c0 : w1.cell? ⟨w.heap.size, 0, none⟩ = some (.int .u32 f) := cell_of_block b0 0
         have c1 : w1.cell? ⟨w.heap.size, 1, none⟩ = some (.int .i64 m) := cell_of_block b0 1
         have c2 : w1.cell? ⟨w.heap.size, 2, none⟩ = some (.slice a l.length cap) := cell_of_block b0 2
         have f0 : w1.frozen? ⟨w.heap.size, 0, none⟩ = false := frozen_of_block b0 0
         have f2 : w1.frozen? ⟨w.heap.size, 2, none⟩ = false := frozen_of_block b0 2
         have e0 : w1.cell? ⟨w.heap.size + 1, 0, none⟩ = some (.int .u32 0) := cell_of_block b1 0
         have e1 : w1.cell? ⟨w.heap.size + 1, 1, none⟩ = some (.int .i64 0) := cell_of_block b1 1
         have e2 : w1.cell? ⟨w.heap.size + 1, 2, none⟩ = some (.slice none 0 0) := cell_of_block b1 2
         have g0 : w1.frozen? ⟨w.heap.size + 1, 0, none⟩ = false := frozen_of_block b1 0
         have g1 : w1.frozen? ⟨w.heap.size + 1, 1, none⟩ = false := frozen_of_block b1 1
         have g2 : w1.frozen? ⟨w.heap.size + 1, 2, none⟩ = false := frozen_of_block b1 2
         have HB0 : Hid _ := b0
         have HB1 : Hid _ := b1
         clear he b0 b1)
      | (refine wpList_of_run (v := .slice a k cap) rfl ((exec_slice_hN numT (x := .tmp 28) (h := .tmp 29) rfl _ a l.length cap k .i64 rfl rfl (by omega)).trans (by rw [sliced_zero])) ?_)
      | (refine wpList_of_run (v := .slice a2 (l.length - k) (cap - k)) rfl ((exec_slice_lN numT (x := .tmp 32) (lo := .tmp 33) rfl _ a l.length cap k .i64 rfl rfl (by omega)).trans (by rw [HS.out])) ?_))
    refine bodyPost_ret (v := .tuple #[refV n m (.slice a2 (l.length - k) (cap - k)), .slice a k cap, .int .i64 0]) ?_ rfl ⟨_, _, rfl, ?_, ?_, fun g hg => .inl ((blockOf_len _ _ _ _ _).trans hg), fun g hg => .inl (HB.out g hg _ _), ?_⟩
    · simp [results, Try.f33, go_sem, c0, c1, c2, e0, e1, e2]
    · exact HN1.out.ext (((((Below.setCell (Below.setCell hE1 (by simp) _) (by simp) _).setCell (by simp) _).setCell (by simp) _).setCell (by simp) _))
    · exact HN2.out.ext (((((Below.setCell (Below.setCell hE1 (by simp) _) (by simp) _).setCell (by simp) _).setCell (by simp) _).setCell (by simp) _))
    · exact (((((Below.setCell (Below.setCell hE1 (by simp) _) (by simp) _).setCell (by simp) _).setCell (by simp) _).setCell (by simp) _))

  · obtain rfl : k = l.length := by omega
    have hr : refFind f n l = -1 := by unfold refFind; rw [hk, if_neg (by omega)]
    have HR : Hid (refFind f n l = -1) := hr
    have hq0 : n = (f + (l.length : Int)) % 4294967296 := by unfold Ser.far at hk; obtain ⟨_, _⟩ := hn; obtain ⟨_, _⟩ := hf; omega
    have hq : (n == (f + (l.length : Int)) % 4294967296) = true := beq_iff_eq.2 hq0
    clear hr hk hq0
    go_enter Try.func33, Try.ntmps33
    go_wp2_with (first
      | (go_at_call 43
         refine (find_any hf hm hn (HU.out.ext ((Ext.alloc _ _).trans (Ext.alloc _ _))) hl).mono ?_
         rintro e w1 ⟨rfl, he⟩
         rw [HR.out]
         have b0 := two_b0 he
         have b1 := two_b1 he
         have hsz1 := two_sz he
         have hE1 := two_ext he
         have hlt0 : w.heap.size < w1.heap.size := by omega
         have hlt1 : w.heap.size + 1 < w1.heap.size := by omega
         have c0 : w1.cell? ⟨w.heap.size, 0, none⟩ = some (.int .u32 f) := cell_of_block b0 0
         have c1 : w1.cell? ⟨w.heap.size, 1, none⟩ = some (.int .i64 m) := cell_of_block b0 1
         have c2 : w1.cell? ⟨w.heap.size, 2, none⟩ = some (.slice a l.length cap) := cell_of_block b0 2
         have f0 : w1.frozen? ⟨w.heap.size, 0, none⟩ = false := frozen_of_block b0 0
         have f2 : w1.frozen? ⟨w.heap.size, 2, none⟩ = false := frozen_of_block b0 2
         have e0 : w1.cell? ⟨w.heap.size + 1, 0, none⟩ = some (.int .u32 0) := cell_of_block b1 0
         have e1 : w1.cell? ⟨w.heap.size + 1, 1, none⟩ = some (.int .i64 0) := cell_of_block b1 1
         have e2 : w1.cell? ⟨w.heap.size + 1, 2, none⟩ = some (.slice none 0 0) := cell_of_block b1 2
         have g0 : w1.frozen? ⟨w.heap.size + 1, 0, none⟩ = false := frozen_of_block b1 0
         have g1 : w1.frozen? ⟨w.heap.size + 1, 1, none⟩ = false := frozen_of_block b1 1
         have g2 : w1.frozen? ⟨w.heap.size + 1, 2, none⟩ = false := frozen_of_block b1 2
         have HB0 : Hid _ := b0
         have HB1 : Hid _ := b1
         clear he b0 b1)
      | (refine wpList_of_run (v := .slice a l.length cap) rfl ((exec_slice_hN numT (x := .tmp 28) (h := .tmp 29) rfl _ a l.length cap l.length .i64 rfl rfl (by omega)).trans (by rw [sliced_zero])) ?_)
      | (refine wpList_of_run (v := .slice a2 (l.length - l.length) (cap - l.length)) rfl ((exec_slice_lN numT (x := .tmp 32) (lo := .tmp 33) rfl _ a l.length cap l.length .i64 rfl rfl (by omega)).trans (by rw [HS.out])) ?_))
    refine bodyPost_ret (v := .tuple #[refV n m (.slice a2 (l.length - l.length) (cap - l.length)), .slice a l.length cap, .int .i64 0]) ?_ rfl ⟨_, _, rfl, ?_, ?_, fun g hg => .inl ((blockOf_len _ _ _ _ _).trans hg), fun g hg => .inl (HB.out g hg _ _), ?_⟩
    · simp [results, Try.f33, go_sem, c0, c1, c2, e0, e1, e2]
    · exact HN1.out.ext (((((Below.setCell (Below.setCell hE1 (by simp) _) (by simp) _).setCell (by simp) _).setCell (by simp) _).setCell (by simp) _))
    · exact HN2.out.ext (((((Below.setCell (Below.setCell hE1 (by simp) _) (by simp) _).setCell (by simp) _).setCell (by simp) _).setCell (by simp) _))
    · exact (((((Below.setCell (Below.setCell hE1 (by simp) _) (by simp) _).setCell (by simp) _).setCell (by simp) _).setCell (by simp) _))
end
end Go.Proofs.Ytbongjdflnefmaa
