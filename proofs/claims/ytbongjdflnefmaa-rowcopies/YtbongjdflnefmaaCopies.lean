/- The law RowCopies walked: it answers true. No condition of its own. -/
import Derived.Test.YtbongjdflnefmaaCopiesE
namespace Go.Proofs.Ytbongjdflnefmaa
open Go Go.RowKit Go.Shelf
set_option linter.unusedVariables false
set_option linter.unusedSimpArgs false
set_option maxRecDepth 100000
attribute [local go_sem] Oper.semAt_some

theorem five {w w3 w4 w5 : World} {b c : Nat} {v3 v4 v5 u3 : Value} {f3 m : Int} {l3 : List Int} {M : Array Value} (r3 : RowAt w3 b v3 f3 m l3) (n3 : NumsAt .i64 w3 u3 l3) (ap3 : ∀ g, blockOf u3 = some g → g < w3.heap.size ∧ ¬ Foot b v3 g)
    (b3 : w3.heap[w.heap.size + 1]? = some (Obj.cells #[.bool false] 4 (0, 0))) (hc : w3.heap.size < c ∧ ∀ g, v4.ownBlock = some g → w3.heap.size < g) (bm : w4.heap[w3.heap.size]? = some (Obj.cells M 36 (0, 0))) (h34 : Ext w3 w4) (hE3 : Ext w w3) (m5 : Moves c v4 v5 w4 w5) (hb : w.heap.size ≤ b) :
    RowAt w5 b v3 f3 m l3 ∧ NumsAt .i64 w5 u3 l3 ∧ w5.heap[w.heap.size + 1]? = some (Obj.cells #[.bool false] 4 (0, 0)) ∧ w5.heap[w3.heap.size]? = some (Obj.cells M 36 (0, 0)) ∧ Ext w w5 ∧ w3.heap.size < w5.heap.size := by
  have hno : ∀ k, k ≤ w3.heap.size → ¬ Foot c v4 k := fun k hk => by
    rintro (h | h)
    · have := hc.1; omega
    · have := hc.2 k h; omega
  have hlt : w3.heap.size < w4.heap.size := (Array.getElem?_eq_some_iff.1 bm).1
  have hkeep : ∀ k, k ≤ w3.heap.size → w5.heap[k]? = w4.heap[k]? := fun k hk => m5.keep.block k (by omega) (hno k hk)
  have hb1 : w.heap.size + 1 < w3.heap.size := (Array.getElem?_eq_some_iff.1 b3).1
  have hk3 : ∀ k, k < w3.heap.size → w5.heap[k]? = w3.heap[k]? := fun k hk => (hkeep k (by omega)).trans (h34.block k hk)
  refine ⟨r3.via (hk3 b r3.lt) (fun g hg => hk3 g (r3.own.lt hg).2), n3.via (fun k _ hk => hk3 k hk), (hk3 _ hb1).trans b3, (hkeep _ (Nat.le_refl _)).trans bm, ?_, by have := m5.keep.size; omega⟩
  exact ⟨m5.keep.os.trans (h34.os.trans hE3.os), m5.keep.tape.trans (h34.tape.trans hE3.tape), m5.keep.output.trans (h34.output.trans hE3.output), by have := hE3.size; have := m5.keep.size; omega, fun k hk => (hk3 k (by have := hE3.size; omega)).trans (hE3.block k hk)⟩

set_option maxHeartbeats 8000000 in
theorem copies_in (f m : Int) (sva svb : Value) (na nb : Nat) (Ka Ja Xa Kb Jb Xb : Nat → Int) (w : World) (hf : Of 4294967296 f) (hm : W64 m) (hsa : ActsAt w sva na Ka Ja Xa) (hsb : ActsAt w svb nb Kb Jb Xb) (hm1 : 1 ≤ m ∧ m ≤ 1024) (h40 : ¬ 40 < na) (h40b : ¬ 40 < nb) :
    CallsIn Fence.wide 6 Try.prog 5 #[.agg #[.int .u32 f, .int .i64 m], sva, svb] w fun e w' => e = .returned (.bool true) ∧ Ext w w' := by
  have HSa : Hid (ActsAt w sva na Ka Ja Xa) := hsa
  have HSb : Hid (ActsAt w svb nb Kb Jb Xb) := hsb
  obtain ⟨aa, ca, rfl, hca, hcam⟩ := hsa.form
  obtain ⟨ab, cb, rfl, hcb, hcbm⟩ := hsb.form
  have hma : ca ≤ 9223372036854775807 := by unfold maxLen at hcam; omega
  have hmb : cb ≤ 9223372036854775807 := by unfold maxLen at hcbm; omega
  clear hsa hsb
  have hd0 : decide (40 < (na : Int)) = false := decide_eq_false (by omega)
  have hd1 : decide (40 < (nb : Int)) = false := decide_eq_false (by omega)
  have hro : Fence.wide.round = none := rfl
  have hF : ∀ k, Fence.wide.fn k := fun _ => trivial
  have hF8 : Fence.wide.fn 8 := trivial
  have hF9 : Fence.wide.fn 9 := trivial
  have hF11 : Fence.wide.fn 11 := trivial
  have hF13 : Fence.wide.fn 13 := trivial
  have hF14 : Fence.wide.fn 14 := trivial
  have hF16 : Fence.wide.fn 16 := trivial
  have hF20 : Fence.wide.fn 20 := trivial
  have hF21 : Fence.wide.fn 21 := trivial
  have hF22 : Fence.wide.fn 22 := trivial
  have hF23 : Fence.wide.fn 23 := trivial
  refine callsIn_of_wp_marks Try.func5 rfl (hF 5) ?_ hro
  simp only [Try.ntmps5, List.size_toArray, List.length_cons, List.length_nil, Nat.reduceAdd, Nat.reduceSub, Array.replicate_succ, Array.replicate_zero, List.push_toArray, List.append_toArray, List.nil_append, List.cons_append]
  gi_wp2_with (first
    | (gi_at_call 8
       refine (callsIn_wide.2 (alive_any _)).mono ?_
       rintro e w1 ⟨rfl, he1⟩
       have b0 := two_b0 he1
       have b1 := two_b1 he1
       have hE1 := two_ext he1
       have hsz1 := two_sz he1
       have c0 : w1.cell? ⟨w.heap.size, 0, none⟩ = some (.int .u32 f) := cell_of_block b0 0
       have c1 : w1.cell? ⟨w.heap.size, 1, none⟩ = some (.int .i64 m) := cell_of_block b0 1
       have HB1 : Hid (w1.heap[w.heap.size + 1]? = some (Obj.cells #[.bool false] 4 (0, 0))) := b1
       clear he1 b0 b1)
    | (gi_at_call 9
       refine (callsIn_wide.2 (new_any _ _ _ hf hm1)).mono ?_
       rintro e w2 ⟨rfl, r2, he2⟩
       have d0 := he2.cell c0
       have d1 := he2.cell c1
       have hE2 : Ext w w2 := hE1.trans he2
       have HR2 : Hid (RowAt _ _ _ _ _ _) := r2
       have HB2 : Hid (w2.heap[w.heap.size + 1]? = some (Obj.cells #[.bool false] 4 (0, 0))) := block_ext he2 HB1.out
       have HE12 : Hid (Ext w1 w2) := he2
       have HT : Hid True := trivial
       clear he2 r2 c0 c1 HB1)
    | (gi_at_call 11
       have HT2 := HT
       refine (callsIn_wide.2 (play_any HR2.out (NumsAt.nothing _ _) (fun g hg => by cases hg) (HSa.out.ext hE2) (fun hn g hg hft => by
         have h1 := HSa.out.lt hn g hg
         rcases hft with h2 | h2
         · omega
         · cases h2))).mono ?_
       rintro e w3 ⟨f3, l3, v3, u3, rfl, r3, m3, n3, ap3⟩
       have hE3 : Ext w w3 := Ext.on hE2 (m3.below (B := w1.heap.size) (Nat.le_refl _) (fun g hg => by cases hg) HE12.out.size) (by omega)
       have b3 : w3.heap[w.heap.size + 1]? = some (Obj.cells #[.bool false] 4 (0, 0)) := (m3.keep.block _ (Array.getElem?_eq_some_iff.1 HB2.out).1 (by
         rintro (h2 | h2)
         · omega
         · cases h2)).trans HB2.out
       obtain ⟨a3, c3, rfl, _⟩ := n3.form
       have HP3 : Hid (RowAt _ _ _ _ _ _ ∧ NumsAt _ _ _ _ ∧ (∀ g, _ → _ ∧ _) ∧ _) := ⟨r3, n3, ap3, b3⟩
       clear r3 m3 n3 ap3 b3 d0 d1 HR2 HB2 HE12 HT HT2)
    | (gi_at_call 20
       refine (callsIn_wide.2 (copy_any (HP3.out.1.ext (Ext.alloc _ _)))).mono ?_
       rintro e w4 ⟨u4, rfl, ⟨c, v4, rfl, r4, hc, hv4⟩, he4⟩
       have hs3 : (w3.alloc (Obj.cells #[.int .u32 f3, .int .i64 m, .slice a3 l3.length c3] 36 (0, 0))).heap.size = w3.heap.size + 1 := by simp
       have hE34 : Ext w3 w4 := (Ext.alloc _ _).trans he4
       have bm : w4.heap[w3.heap.size]? = some (Obj.cells #[.int .u32 f3, .int .i64 m, .slice a3 l3.length c3] 36 (0, 0)) := block_ext he4 Array.getElem?_push_size
       obtain ⟨p0, p1, p2⟩ := cells3 bm
       have HP4 : Hid (RowAt w4 c v4 f3 m l3 ∧ (w3.heap.size < c ∧ ∀ g, v4.ownBlock = some g → w3.heap.size < g) ∧ _ ∧ Ext w3 w4) := ⟨r4, ⟨by omega, fun g hg => by have := hv4 g hg; omega⟩, bm, hE34⟩
       clear he4 r4 hc hv4 hs3 hE34 bm)
    | (gi_at_call 11
       refine (callsIn_wide.2 (play_any HP4.out.1 (HP3.out.2.1.ext HP4.out.2.2.2) (fun g hg => ⟨Nat.lt_of_lt_of_le (HP3.out.2.2.1 g hg).1 HP4.out.2.2.2.size, by
         have h1 := (HP3.out.2.2.1 g hg).1
         have h2 := HP4.out.2.1
         rintro (h3 | h3)
         · omega
         · have := h2.2 g h3; omega⟩) (HSb.out.ext (hE3.trans HP4.out.2.2.2)) (fun hn g hg hft => by
         have h1 := HSb.out.lt hn g hg
         have h2 := HP4.out.2.1
         have h4 := hE3.size
         rcases hft with h3 | h3
         · omega
         · have := h2.2 g h3; omega))).mono ?_
       rintro e w5 ⟨f5, l5, v5, u5, rfl, r5, m5, n5, _⟩
       obtain ⟨a5, c5, rfl, _⟩ := n5.form
       have H5 := five HP3.out.1 HP3.out.2.1 HP3.out.2.2.1 HP3.out.2.2.2 HP4.out.2.1 HP4.out.2.2.1 HP4.out.2.2.2 hE3 m5 (by omega)
       obtain ⟨rb5, nu5, b5, bm5, hE5, hlt5⟩ := H5
       have HP5 : Hid (RowAt _ _ _ _ _ _ ∧ NumsAt _ _ _ _ ∧ RowAt _ _ _ _ _ _ ∧ NumsAt _ _ _ _ ∧ _) := ⟨rb5, nu5, r5, n5, b5⟩
       clear p0 p1 p2
       obtain ⟨p0, p1, p2⟩ := cells3 bm5
       have HE5 : Hid (Ext w w5) := hE5
       have HT : Hid True := trivial
       clear rb5 nu5 r5 n5 b5 m5 bm5 HP4 HP3 hE5)
    | (gi_at_call 21
       have HT2 := HT
       refine (callsIn_wide.2 (stands_any (HP5.out.1.ext (Ext.alloc _ _)) (HP5.out.2.1.ext (Ext.alloc _ _)))).mono ?_
       rintro e w6 ⟨rfl, he6⟩
       have bn : w6.heap[w5.heap.size]? = some (Obj.cells #[.int .u32 f5, .int .i64 m, .slice a5 l5.length c5] 36 (0, 0)) := block_ext he6 Array.getElem?_push_size
       obtain ⟨s0, s1, s2⟩ := cells3 bn
       have HE6 : Hid (Ext w5 w6) := (Ext.alloc _ _).trans he6
       clear HT HT2 he6 bn p0 p1 p2)
    | (gi_at_call 21
       refine (callsIn_wide.2 (stands_any (HP5.out.2.2.1.ext HE6.out) (HP5.out.2.2.2.1.ext HE6.out))).mono ?_
       rintro e w7 ⟨rfl, he7⟩
       have HE7 : Hid (Ext w5 w7) := HE6.out.trans he7
       clear he7 s0 s1 s2 HE6)
    | (gi_at_call 22
       refine (callsIn_wide.2 (all_call _ _)).mono ?_
       rintro e w' ⟨rfl, rfl⟩))
  obtain ⟨W8, hW8⟩ : ∃ W8, (w7.alloc (.cells #[.int .i64 0] 3)).alloc (.cells #[.pointer (some ⟨w1.heap.size, 0, none⟩)] 27) = W8 := ⟨_, rfl⟩
  have h78 : Ext w7 W8 := by rw [← hW8]; exact (Ext.alloc _ _).trans (Ext.alloc _ _)
  have hsz8 : W8.heap.size = w7.heap.size + 2 := by rw [← hW8]; simp
  have q1 : Boxed W8 w7.heap.size 3 (.int .i64 0) := by rw [← hW8]; exact two_b0 (Ext.refl _)
  have q2 : Boxed W8 (w7.heap.size + 1) 27 (rowP w1.heap.size) := by rw [← hW8]; exact two_b1 (Ext.refl _)
  have HE8 : Hid (Ext w W8) := (HE5.out.trans HE7.out).trans h78
  have HR8 : Hid (RowAt W8 w1.heap.size v3 f3 m l3) := HP5.out.1.ext (HE7.out.trans h78)
  have HB8 : Hid (W8.heap[w.heap.size + 1]? = some (Obj.cells #[.bool false] 4 (0, 0))) := block_ext (HE7.out.trans h78) HP5.out.2.2.2.2
  have hb8 : w.heap.size + 1 < w7.heap.size := Nat.lt_of_lt_of_le (Array.getElem?_eq_some_iff.1 HP5.out.2.2.2.2).1 HE7.out.size
  have HLT : Hid (∀ k, Foot w1.heap.size v3 k → k < w7.heap.size) := fun k hk => by
    have h0 := HE7.out.size
    rcases hk with h1 | h1
    · have := HP5.out.1.lt; omega
    · have := (HP5.out.1.own.lt h1).2; omega
  rw [hW8]
  clear hW8 HP5 HE5 HE7 h78
  refine wpIn_deep_merge (by omega) (gf := 39) (lb := #[.pointer (some ⟨w7.heap.size + 1, 0, none⟩)]) rfl (enters_of Try.func39 (by kernel_rfl) rfl)
    (all_deep (row_reads HR8.out (w7.heap.size + 1)) (w7.heap.size + 1) W8 (fun k hk => by
      rcases hk with (rfl | hk) | rfl
      · exact HR8.out.lt
      · exact (HR8.out.own.lt hk).2
      · omega) (.inr rfl) q2 HR8.out) (fun h k => h.t k) (fun W y o hy k hk => World.putObj_heap_other (fun e => by
      rcases hk with (h1 | h1) | h1
      · have := HR8.out.lt; omega
      · have := (HR8.out.own.lt h1).2; omega
      · omega)) (fun _ => rfl) 0
    (fun pre X => pre = [] ∧ W8.grownBy X (some w7.heap.size) ∧ Boxed X w7.heap.size 3 (.int .i64 0))
    (fun pre X => W8.grownBy X (some w7.heap.size) ∧ Boxed X w7.heap.size 3 (.int .i64 1))
    (fun s A B row hs hg hr => ⟨hs.1, grown_through hs.2.1 hg (fun r e => (hr r e).1), hs.2.2.kept hg (boxed_other (fun r e => (hr r e).2) hs.2.2)⟩)
    (fun s A B row hs hg hr => ⟨grown_through hs.1 hg (fun r e => (hr r e).1), hs.2.kept hg (boxed_other (fun r e => (hr r e).2) hs.2)⟩)
    ⟨rfl, World.grownBy.refl _ _, q1⟩
    (fun X => W8.grownBy X (some w7.heap.size) ∧ Boxed X w7.heap.size 3 (.int .i64 (min 1 (l3.length : Int)))) ?body ?m1 ?m2 ?qx ?fin
  case body =>
    rintro y pre x X ⟨rfl, hg, hb⟩ hN
    simp only [List.zip_toArray, List.zip_cons_cons, List.zip_nil_left, List.foldl_toArray, List.foldl_cons, List.foldl_nil, List.setIfInBounds_toArray, List.set_cons_succ, List.set_cons_zero]
    have cb := hb.cell
    have fb := hb.frozen
    have HB := hb.set (.int .i64 1)
    have HG := grown_same hg (grownBy_setCell' X w7.heap.size (.int .i64 1))
    have HKA : KeepAbove W8.heap.size X (X.setCell ⟨w7.heap.size, 0, none⟩ (.int .i64 1)) := ⟨by simp, fun k hk _ => block_other (by omega) _ _⟩
    gi_wp2
    exact ⟨HKA, rfl, HG, HB⟩
  case m1 =>
    rintro xs W hxs ⟨rfl, hg, hb⟩
    have : l3.length = 0 := by
      have h1 := congrArg List.length hxs
      simpa using h1.symm
    refine ⟨hg, ?_⟩
    rw [this]; exact hb
  case m2 =>
    rintro pre W ⟨hne, hpre⟩ ⟨hg, hb⟩
    have h1 : 1 ≤ l3.length := by
      have h2 := hpre.length_le
      have h3 : pre.length ≠ 0 := fun h => hne (List.eq_nil_of_length_eq_zero h)
      simp at h2; omega
    refine ⟨hg, ?_⟩
    rw [show min 1 (l3.length : Int) = 1 by omega]; exact hb
  case qx => exact fun a' W h => by simpa [Exit.inBlock] using h
  case fin =>
    rintro D X hD ⟨hg, hb⟩ hK
    have hgX : ∀ k, k ≠ w7.heap.size → k < W8.heap.size → X.heap[k]? = W8.heap[k]? := fun k hk hlt => hg.block k hlt (by simpa using hk)
    have HRX : Hid (RowAt X w1.heap.size v3 f3 m l3) := HR8.out.via (hgX _ (by have := HLT.out _ (.inl rfl); omega) HR8.out.lt) (fun g hg' => hgX g (by have := HLT.out g (.inr hg'); omega) (HR8.out.own.lt hg').2)
    have hBX : X.heap[w.heap.size + 1]? = some (Obj.cells #[.bool false] 4 (0, 0)) := (hgX _ (by omega) (by omega)).trans HB8.out
    have HEX : Hid (Ext w X) := ⟨hg.os.trans HE8.out.os, hg.tape.trans HE8.out.tape, hg.output.trans HE8.out.output, Nat.le_trans HE8.out.size hg.size, fun k hk => (hgX k (by omega) (by omega)).trans (HE8.out.block k hk)⟩
    have HBX : Hid (X.heap[w.heap.size + 1]? = some (Obj.cells #[.bool false] 4 (0, 0))) := hBX
    have HKb : Hid (Boxed X w7.heap.size 3 (.int .i64 (min 1 (l3.length : Int)))) := hb
    have HKD : Hid (X.heap[D]? = some (.deferred (some []))) := hK
    have hszX := hg.size
    clear hg hb hK hgX hBX HR8 HE8 HB8 q1 q2
    gi_wp2_with (first
      | (gi_at_call 13; refine (callsIn_wide.2 (push_nil _ _ (by omega))).mono ?_; rintro e w' ⟨rfl, rfl⟩)
      | (gi_at_call 14; refine (callsIn_wide.2 (pop_nil _)).mono ?_; rintro e w' ⟨rfl, rfl⟩)
      | (gi_at_call 16; refine (callsIn_wide.2 (cut_nil _ _ (by omega))).mono ?_; rintro e w' ⟨rfl, rfl⟩)
      | (gi_at_call 23; refine (callsIn_wide.2 (at_nil _ _ (by omega))).mono ?_; rintro e w' ⟨rfl, rfl⟩)
      | (gi_at_call 22; refine (callsIn_wide.2 (all_call _ _)).mono ?_; rintro e w' ⟨rfl, rfl⟩))
    obtain ⟨X9, hX9⟩ : ∃ X9, w'.alloc (Obj.cells #[.pointer none] 27 (0, 0)) = X9 := ⟨_, rfl⟩
    have h9 : Ext w' X9 := by rw [← hX9]; exact Ext.alloc _ _
    have hsz9 : X9.heap.size = w'.heap.size + 1 := by rw [← hX9]; simp
    have q9 : Boxed X9 w'.heap.size 27 nilRow := by rw [← hX9]; exact Boxed.new _ _ _
    rw [hX9]
    clear hX9
    refine wpIn_deep_merge (by omega) (gf := 39) (lb := #[.pointer (some ⟨w'.heap.size, 0, none⟩)]) rfl (enters_of Try.func39 (by kernel_rfl) rfl)
      (all_deep (nil_reads w'.heap.size) w'.heap.size X9 (fun k hk => by omega) rfl q9 trivial) (fun h k => h.t k) (fun W y o hy k hk => World.putObj_heap_other (by omega)) (fun _ => rfl) 2
      (fun _ Y => X9.grownBy Y none) (fun _ _ => False) (fun s A B row hs hg hr => grown_through hs hg (fun r e => (hr r e).1)) (fun s A B row hs _ _ => hs) (World.grownBy.refl _ _) (fun Y => X9.grownBy Y none) ?body2 ?m12 ?m22 ?qx2 ?fin2
    case body2 =>
      rintro y pre x W _ hN
      simp at hN
    case m12 => exact fun xs W _ h => h
    case m22 => exact fun _ _ _ h => h.elim
    case qx2 => exact fun a' W h => by simpa [Exit.inBlock] using h
    case fin2 =>
      rintro D2 Y hD2 hgY hK2
      have h9Y : Ext w' Y := h9.trans (Ext.of_grown hgY)
      have HKY : Hid (Boxed Y w7.heap.size 3 (.int .i64 (min 1 (l3.length : Int)))) := block_ext h9Y HKb.out
      have HBY : Hid (Y.heap[w.heap.size + 1]? = some (Obj.cells #[.bool false] 4 (0, 0))) := block_ext h9Y HBX.out
      have HDY : Hid (Y.heap[D]? = some (.deferred (some []))) := block_ext h9Y HKD.out
      have HRY : ∀ {wx : World}, Puts (w.heap.size + 1) (Obj.cells #[.bool true] 4 (0, 0)) Y.drew wx → RowAt wx w1.heap.size v3 f3 m l3 := fun hp => (HRX.out.ext h9Y).via (hp.block _ (by omega)) (fun g hg => hp.block g (fun e => by
        rcases HRX.out.own.1.2 with ⟨h2, _⟩ | ⟨g', cap, cur, h2, _, hgb, _⟩
        · rw [h2] at hg; cases hg
        · rw [h2] at hg
          simp [Value.ownBlock] at hg
          subst hg e
          rw [HBX.out] at hgb
          simp at hgb))
      have HEY : Hid (Ext w Y) := HEX.out.trans h9Y
      have hDD : D < w'.heap.size := (Array.getElem?_eq_some_iff.1 HKD.out).1
      clear hgY h9 q9 HRX HKb HBX HKD
      gi_wp2_with fail
      refine wpIn_wide.2 ?_
      refine wp_region_facts (fun t => bif Nat.ble 111 t && Nat.ble t 161 then some (t - 111) else none) 162 (Puts (w.heap.size + 1) (Obj.cells #[.bool true] 4 (0, 0)))
        [Is (.int .i64 (min 1 (l3.length : Int))),
         Is (rowP w1.heap.size),
         Is (.int .i64 (l3.length : Int)),
         Is (.int .i64 (min 1 (l3.length : Int))),
         Is (.bool true),
         Is (.bool true),
         Is (.iface 33 (.int .i64 3)),
         Is (.bool true),
         Is (.bool true),
         Is (.bool true),
         Is (.iface 33 (.int .i64 4)),
         Is (.bool true),
         Is (.bool true),
         Is (.bool true),
         Is (.iface 33 (.int .i64 4)),
         Is (.bool true),
         Is (.bool true),
         Is (.bool true),
         Is (nilRow),
         Is (.iface 33 (.int .i64 4)),
         Is (.bool true),
         Is (.bool true),
         Is (.bool true),
         Is (.bool false),
         Is (.bool true),
         Is (.bool true),
         Is (.bool true),
         Is (nilRow),
         Is (.int .u32 0),
         Is (.bool true),
         Is (.bool true),
         Is (.bool true),
         Is (nilRow),
         Is (.int .u32 0),
         Is (.bool true),
         Is (.bool true),
         Is (.bool true),
         Is (nilRow),
         Is (.int .i64 0),
         Is (.bool true),
         Is (.bool true),
         Is (.bool true),
         Is (nilRow),
         Is (.int .i64 0),
         Is (.bool true),
         Is (.bool true),
         Is (.bool true),
         Is (nilRow),
         Is nilRow,
         Is (.bool true),
         Is (.bool true),
         (fun wx _ => wx.heap[w.heap.size + 1]? = some (Obj.cells #[.bool true] 4 (0, 0)))]
        rfl (by kernel_rfl) (by kernel_rfl) rfl Puts.refl (fun _ _ _ => Puts.trans) ?_ ?_ ?_
      · exact KeepAll.is (KeepAll.is (KeepAll.is (KeepAll.is (KeepAll.is (KeepAll.is (KeepAll.is (KeepAll.is (KeepAll.is (KeepAll.is (KeepAll.is (KeepAll.is (KeepAll.is (KeepAll.is (KeepAll.is (KeepAll.is (KeepAll.is (KeepAll.is (KeepAll.is (KeepAll.is (KeepAll.is (KeepAll.is (KeepAll.is (KeepAll.is (KeepAll.is (KeepAll.is (KeepAll.is (KeepAll.is (KeepAll.is (KeepAll.is (KeepAll.is (KeepAll.is (KeepAll.is (KeepAll.is (KeepAll.is (KeepAll.is (KeepAll.is (KeepAll.is (KeepAll.is (KeepAll.is (KeepAll.is (KeepAll.is (KeepAll.is (KeepAll.is (KeepAll.is (KeepAll.is (KeepAll.is (KeepAll.is (KeepAll.is (KeepAll.is (KeepAll.is (KeepAll.cons (fun _ _ _ he h => by rcases he.it with e | e; exact e.trans h; exact e) (KeepAll.nil))))))))))))))))))))))))))))))))))))))))))))))))))))
      · refine GoodAll.cons ?_ ?_
        · intro r wx hR hx
          obtain ⟨h1, _⟩ := hx
          replace h1 : r (.tmp 13) = (.pointer (some ⟨w7.heap.size, 0, none⟩)) := h1
          exact give_of (by simp [execOp, h1, go_sem, (hR.cell (k := w7.heap.size) (j := 0) (by omega)).trans HKY.out.cell]) ⟨Puts.refl _, rfl⟩
        refine GoodAll.cons ?_ ?_
        · intro r wx hR hx
          obtain ⟨h1, _⟩ := hx
          replace h1 : r (.tmp 7) = (rowP w1.heap.size) := h1
          exact give_move (.inl rfl) ⟨Puts.refl _, h1⟩
        refine GoodAll.cons ?_ ?_
        · intro r wx hR hx
          obtain ⟨h1, h2, _⟩ := hx
          replace h1 : r (.func 18) = .func (.func 18) #[] #[] := h1
          replace h2 : r (.tmp 112) = (rowP w1.heap.size) := h2
          refine give_func #[rowP w1.heap.size] rfl h1 Try.call18 (by simp [h2]) ?_
          refine (len_any (HRY hR)).mono ?_
          rintro e w' ⟨rfl, rfl⟩
          exact ⟨_, rfl, Puts.refl _, rfl⟩
        refine GoodAll.cons ?_ ?_
        · intro r wx hR hx
          obtain ⟨h1, h2, _⟩ := hx
          replace h1 : r (.const (.int .i64 1)) = .int .i64 1 := h1
          replace h2 : r (.tmp 113) = (.int .i64 (l3.length : Int)) := h2
          exact give_of (by simp [execOp, h1, h2, go_sem]) ⟨Puts.refl _, rfl⟩
        refine GoodAll.cons ?_ ?_
        · intro r wx hR hx
          obtain ⟨h1, h2, _⟩ := hx
          replace h1 : r (.tmp 111) = (.int .i64 (min 1 (l3.length : Int))) := h1
          replace h2 : r (.tmp 114) = (.int .i64 (min 1 (l3.length : Int))) := h2
          exact give_of (by simp [execOp, h1, h2, go_sem]) ⟨Puts.refl _, rfl⟩
        refine GoodAll.cons ?_ ?_
        · intro r wx hR hx
          obtain ⟨h1, _⟩ := hx
          replace h1 : r (.tmp 115) = (.bool true) := h1
          exact give_move (.inl rfl) ⟨Puts.refl _, h1⟩
        refine GoodAll.cons ?_ ?_
        · intro r wx hR hx
          obtain ⟨h1, _⟩ := hx
          replace h1 : r (.tmp 16) = (.iface 33 (.int .i64 3)) := h1
          intro gb hgb
          refine guard_in (b := gb) (want := true) hgb ?_
          exact give_move (.inl rfl) ⟨Puts.refl _, h1⟩
        refine GoodAll.cons ?_ ?_
        · intro r wx hR hx
          obtain ⟨h1, h2, h3, _⟩ := hx
          replace h1 : r (.func 10) = .func (.func 10) #[] #[] := h1
          replace h2 : r (.tmp 117) = (.iface 33 (.int .i64 3)) := h2
          replace h3 : r (.const (.int .i64 3)) = .int .i64 3 := h3
          intro gb hgb
          refine guard_in (b := gb) (want := true) hgb ?_
          refine give_func #[.iface 33 (.int .i64 3), .int .i64 3] rfl h1 Try.call10 (by simp [h2, h3]) ?_
          refine (is_err 3 3 _ (by omega) (by omega) (by omega)).mono ?_
          rintro e w' ⟨rfl, rfl⟩
          exact ⟨_, rfl, Puts.refl _, rfl⟩
        refine GoodAll.cons ?_ ?_
        · intro r wx hR hx
          obtain ⟨h1, h2, h3, _⟩ := hx
          replace h1 : r (.tmp 116) = (.bool true) := h1
          replace h2 : r (.tmp 118) = (.bool true) := h2
          replace h3 : r (.const (.bool false)) = .bool false := h3
          exact give_pick rfl h1 ⟨Puts.refl _, h2⟩
        refine GoodAll.cons ?_ ?_
        · intro r wx hR hx
          obtain ⟨h1, _⟩ := hx
          replace h1 : r (.tmp 119) = (.bool true) := h1
          exact give_move (.inl rfl) ⟨Puts.refl _, h1⟩
        refine GoodAll.cons ?_ ?_
        · intro r wx hR hx
          obtain ⟨h1, _⟩ := hx
          replace h1 : r (.tmp 18) = (.iface 33 (.int .i64 4)) := h1
          intro gb hgb
          refine guard_in (b := gb) (want := true) hgb ?_
          exact give_move (.inl rfl) ⟨Puts.refl _, h1⟩
        refine GoodAll.cons ?_ ?_
        · intro r wx hR hx
          obtain ⟨h1, h2, h3, _⟩ := hx
          replace h1 : r (.func 10) = .func (.func 10) #[] #[] := h1
          replace h2 : r (.tmp 121) = (.iface 33 (.int .i64 4)) := h2
          replace h3 : r (.const (.int .i64 4)) = .int .i64 4 := h3
          intro gb hgb
          refine guard_in (b := gb) (want := true) hgb ?_
          refine give_func #[.iface 33 (.int .i64 4), .int .i64 4] rfl h1 Try.call10 (by simp [h2, h3]) ?_
          refine (is_err 4 4 _ (by omega) (by omega) (by omega)).mono ?_
          rintro e w' ⟨rfl, rfl⟩
          exact ⟨_, rfl, Puts.refl _, rfl⟩
        refine GoodAll.cons ?_ ?_
        · intro r wx hR hx
          obtain ⟨h1, h2, h3, _⟩ := hx
          replace h1 : r (.tmp 120) = (.bool true) := h1
          replace h2 : r (.tmp 122) = (.bool true) := h2
          replace h3 : r (.const (.bool false)) = .bool false := h3
          exact give_pick rfl h1 ⟨Puts.refl _, h2⟩
        refine GoodAll.cons ?_ ?_
        · intro r wx hR hx
          obtain ⟨h1, _⟩ := hx
          replace h1 : r (.tmp 123) = (.bool true) := h1
          exact give_move (.inl rfl) ⟨Puts.refl _, h1⟩
        refine GoodAll.cons ?_ ?_
        · intro r wx hR hx
          obtain ⟨h1, _⟩ := hx
          replace h1 : r (.tmp 20) = (.iface 33 (.int .i64 4)) := h1
          intro gb hgb
          refine guard_in (b := gb) (want := true) hgb ?_
          exact give_move (.inl rfl) ⟨Puts.refl _, h1⟩
        refine GoodAll.cons ?_ ?_
        · intro r wx hR hx
          obtain ⟨h1, h2, h3, _⟩ := hx
          replace h1 : r (.func 10) = .func (.func 10) #[] #[] := h1
          replace h2 : r (.tmp 125) = (.iface 33 (.int .i64 4)) := h2
          replace h3 : r (.const (.int .i64 4)) = .int .i64 4 := h3
          intro gb hgb
          refine guard_in (b := gb) (want := true) hgb ?_
          refine give_func #[.iface 33 (.int .i64 4), .int .i64 4] rfl h1 Try.call10 (by simp [h2, h3]) ?_
          refine (is_err 4 4 _ (by omega) (by omega) (by omega)).mono ?_
          rintro e w' ⟨rfl, rfl⟩
          exact ⟨_, rfl, Puts.refl _, rfl⟩
        refine GoodAll.cons ?_ ?_
        · intro r wx hR hx
          obtain ⟨h1, h2, h3, _⟩ := hx
          replace h1 : r (.tmp 124) = (.bool true) := h1
          replace h2 : r (.tmp 126) = (.bool true) := h2
          replace h3 : r (.const (.bool false)) = .bool false := h3
          exact give_pick rfl h1 ⟨Puts.refl _, h2⟩
        refine GoodAll.cons ?_ ?_
        · intro r wx hR hx
          obtain ⟨h1, _⟩ := hx
          replace h1 : r (.tmp 127) = (.bool true) := h1
          exact give_move (.inl rfl) ⟨Puts.refl _, h1⟩
        refine GoodAll.cons ?_ ?_
        · intro r wx hR hx
          obtain ⟨h1, _⟩ := hx
          replace h1 : r (.tmp 14) = (nilRow) := h1
          intro gb hgb
          refine guard_in (b := gb) (want := true) hgb ?_
          exact give_move (.inl rfl) ⟨Puts.refl _, h1⟩
        refine GoodAll.cons ?_ ?_
        · intro r wx hR hx
          obtain ⟨h1, h2, h3, h4, _⟩ := hx
          replace h1 : r (.func 24) = .func (.func 24) #[] #[] := h1
          replace h2 : r (.tmp 129) = (nilRow) := h2
          replace h3 : r (.const (.int .u32 1)) = .int .u32 1 := h3
          replace h4 : r (.const (.int .i64 1)) = .int .i64 1 := h4
          intro gb hgb
          refine guard_in (b := gb) (want := true) hgb ?_
          refine give_func #[nilRow, .int .u32 1, .int .i64 1] rfl h1 Try.call24 (by simp [h2, h3, h4]) ?_
          refine (set_nil 1 1 _ (by omega) (by omega)).mono ?_
          rintro e w' ⟨rfl, rfl⟩
          exact ⟨_, rfl, Puts.refl _, rfl⟩
        refine GoodAll.cons ?_ ?_
        · intro r wx hR hx
          obtain ⟨h1, h2, h3, _⟩ := hx
          replace h1 : r (.func 10) = .func (.func 10) #[] #[] := h1
          replace h2 : r (.tmp 130) = (.iface 33 (.int .i64 4)) := h2
          replace h3 : r (.const (.int .i64 4)) = .int .i64 4 := h3
          intro gb hgb
          refine guard_in (b := gb) (want := true) hgb ?_
          refine give_func #[.iface 33 (.int .i64 4), .int .i64 4] rfl h1 Try.call10 (by simp [h2, h3]) ?_
          refine (is_err 4 4 _ (by omega) (by omega) (by omega)).mono ?_
          rintro e w' ⟨rfl, rfl⟩
          exact ⟨_, rfl, Puts.refl _, rfl⟩
        refine GoodAll.cons ?_ ?_
        · intro r wx hR hx
          obtain ⟨h1, h2, h3, _⟩ := hx
          replace h1 : r (.tmp 128) = (.bool true) := h1
          replace h2 : r (.tmp 131) = (.bool true) := h2
          replace h3 : r (.const (.bool false)) = .bool false := h3
          exact give_pick rfl h1 ⟨Puts.refl _, h2⟩
        refine GoodAll.cons ?_ ?_
        · intro r wx hR hx
          obtain ⟨h1, _⟩ := hx
          replace h1 : r (.tmp 132) = (.bool true) := h1
          exact give_move (.inl rfl) ⟨Puts.refl _, h1⟩
        refine GoodAll.cons ?_ ?_
        · intro r wx hR hx
          obtain ⟨h1, _⟩ := hx
          replace h1 : r (.tmp 22) = (.bool false) := h1
          intro gb hgb
          refine guard_in (b := gb) (want := true) hgb ?_
          exact give_move (.inl rfl) ⟨Puts.refl _, h1⟩
        refine GoodAll.cons ?_ ?_
        · intro r wx hR hx
          obtain ⟨h1, _⟩ := hx
          replace h1 : r (.tmp 134) = (.bool false) := h1
          intro gb hgb
          refine guard_in (b := gb) (want := true) hgb ?_
          exact give_of (by simp [execOp, h1, go_sem]) ⟨Puts.refl _, rfl⟩
        refine GoodAll.cons ?_ ?_
        · intro r wx hR hx
          obtain ⟨h1, h2, h3, _⟩ := hx
          replace h1 : r (.tmp 133) = (.bool true) := h1
          replace h2 : r (.tmp 135) = (.bool true) := h2
          replace h3 : r (.const (.bool false)) = .bool false := h3
          exact give_pick rfl h1 ⟨Puts.refl _, h2⟩
        refine GoodAll.cons ?_ ?_
        · intro r wx hR hx
          obtain ⟨h1, _⟩ := hx
          replace h1 : r (.tmp 136) = (.bool true) := h1
          exact give_move (.inl rfl) ⟨Puts.refl _, h1⟩
        refine GoodAll.cons ?_ ?_
        · intro r wx hR hx
          obtain ⟨h1, _⟩ := hx
          replace h1 : r (.tmp 14) = (nilRow) := h1
          intro gb hgb
          refine guard_in (b := gb) (want := true) hgb ?_
          exact give_move (.inl rfl) ⟨Puts.refl _, h1⟩
        refine GoodAll.cons ?_ ?_
        · intro r wx hR hx
          obtain ⟨h1, h2, _⟩ := hx
          replace h1 : r (.func 15) = .func (.func 15) #[] #[] := h1
          replace h2 : r (.tmp 138) = (nilRow) := h2
          intro gb hgb
          refine guard_in (b := gb) (want := true) hgb ?_
          refine give_func #[nilRow] rfl h1 Try.call15 (by simp [h2]) ?_
          refine (from_nil _).mono ?_
          rintro e w' ⟨rfl, rfl⟩
          exact ⟨_, rfl, Puts.refl _, rfl⟩
        refine GoodAll.cons ?_ ?_
        · intro r wx hR hx
          obtain ⟨h1, h2, _⟩ := hx
          replace h1 : r (.tmp 139) = (.int .u32 0) := h1
          replace h2 : r (.const (.int .u32 0)) = .int .u32 0 := h2
          intro gb hgb
          refine guard_in (b := gb) (want := true) hgb ?_
          exact give_of (by simp [execOp, h1, h2, go_sem]) ⟨Puts.refl _, rfl⟩
        refine GoodAll.cons ?_ ?_
        · intro r wx hR hx
          obtain ⟨h1, h2, h3, _⟩ := hx
          replace h1 : r (.tmp 137) = (.bool true) := h1
          replace h2 : r (.tmp 140) = (.bool true) := h2
          replace h3 : r (.const (.bool false)) = .bool false := h3
          exact give_pick rfl h1 ⟨Puts.refl _, h2⟩
        refine GoodAll.cons ?_ ?_
        · intro r wx hR hx
          obtain ⟨h1, _⟩ := hx
          replace h1 : r (.tmp 141) = (.bool true) := h1
          exact give_move (.inl rfl) ⟨Puts.refl _, h1⟩
        refine GoodAll.cons ?_ ?_
        · intro r wx hR hx
          obtain ⟨h1, _⟩ := hx
          replace h1 : r (.tmp 14) = (nilRow) := h1
          intro gb hgb
          refine guard_in (b := gb) (want := true) hgb ?_
          exact give_move (.inl rfl) ⟨Puts.refl _, h1⟩
        refine GoodAll.cons ?_ ?_
        · intro r wx hR hx
          obtain ⟨h1, h2, _⟩ := hx
          replace h1 : r (.func 17) = .func (.func 17) #[] #[] := h1
          replace h2 : r (.tmp 143) = (nilRow) := h2
          intro gb hgb
          refine guard_in (b := gb) (want := true) hgb ?_
          refine give_func #[nilRow] rfl h1 Try.call17 (by simp [h2]) ?_
          refine (next_nil _).mono ?_
          rintro e w' ⟨rfl, rfl⟩
          exact ⟨_, rfl, Puts.refl _, rfl⟩
        refine GoodAll.cons ?_ ?_
        · intro r wx hR hx
          obtain ⟨h1, h2, _⟩ := hx
          replace h1 : r (.tmp 144) = (.int .u32 0) := h1
          replace h2 : r (.const (.int .u32 0)) = .int .u32 0 := h2
          intro gb hgb
          refine guard_in (b := gb) (want := true) hgb ?_
          exact give_of (by simp [execOp, h1, h2, go_sem]) ⟨Puts.refl _, rfl⟩
        refine GoodAll.cons ?_ ?_
        · intro r wx hR hx
          obtain ⟨h1, h2, h3, _⟩ := hx
          replace h1 : r (.tmp 142) = (.bool true) := h1
          replace h2 : r (.tmp 145) = (.bool true) := h2
          replace h3 : r (.const (.bool false)) = .bool false := h3
          exact give_pick rfl h1 ⟨Puts.refl _, h2⟩
        refine GoodAll.cons ?_ ?_
        · intro r wx hR hx
          obtain ⟨h1, _⟩ := hx
          replace h1 : r (.tmp 146) = (.bool true) := h1
          exact give_move (.inl rfl) ⟨Puts.refl _, h1⟩
        refine GoodAll.cons ?_ ?_
        · intro r wx hR hx
          obtain ⟨h1, _⟩ := hx
          replace h1 : r (.tmp 14) = (nilRow) := h1
          intro gb hgb
          refine guard_in (b := gb) (want := true) hgb ?_
          exact give_move (.inl rfl) ⟨Puts.refl _, h1⟩
        refine GoodAll.cons ?_ ?_
        · intro r wx hR hx
          obtain ⟨h1, h2, _⟩ := hx
          replace h1 : r (.func 18) = .func (.func 18) #[] #[] := h1
          replace h2 : r (.tmp 148) = (nilRow) := h2
          intro gb hgb
          refine guard_in (b := gb) (want := true) hgb ?_
          refine give_func #[nilRow] rfl h1 Try.call18 (by simp [h2]) ?_
          refine (len_nil _).mono ?_
          rintro e w' ⟨rfl, rfl⟩
          exact ⟨_, rfl, Puts.refl _, rfl⟩
        refine GoodAll.cons ?_ ?_
        · intro r wx hR hx
          obtain ⟨h1, h2, _⟩ := hx
          replace h1 : r (.tmp 149) = (.int .i64 0) := h1
          replace h2 : r (.const (.int .i64 0)) = .int .i64 0 := h2
          intro gb hgb
          refine guard_in (b := gb) (want := true) hgb ?_
          exact give_of (by simp [execOp, h1, h2, go_sem]) ⟨Puts.refl _, rfl⟩
        refine GoodAll.cons ?_ ?_
        · intro r wx hR hx
          obtain ⟨h1, h2, h3, _⟩ := hx
          replace h1 : r (.tmp 147) = (.bool true) := h1
          replace h2 : r (.tmp 150) = (.bool true) := h2
          replace h3 : r (.const (.bool false)) = .bool false := h3
          exact give_pick rfl h1 ⟨Puts.refl _, h2⟩
        refine GoodAll.cons ?_ ?_
        · intro r wx hR hx
          obtain ⟨h1, _⟩ := hx
          replace h1 : r (.tmp 151) = (.bool true) := h1
          exact give_move (.inl rfl) ⟨Puts.refl _, h1⟩
        refine GoodAll.cons ?_ ?_
        · intro r wx hR hx
          obtain ⟨h1, _⟩ := hx
          replace h1 : r (.tmp 14) = (nilRow) := h1
          intro gb hgb
          refine guard_in (b := gb) (want := true) hgb ?_
          exact give_move (.inl rfl) ⟨Puts.refl _, h1⟩
        refine GoodAll.cons ?_ ?_
        · intro r wx hR hx
          obtain ⟨h1, h2, _⟩ := hx
          replace h1 : r (.func 25) = .func (.func 25) #[] #[] := h1
          replace h2 : r (.tmp 153) = (nilRow) := h2
          intro gb hgb
          refine guard_in (b := gb) (want := true) hgb ?_
          refine give_func #[nilRow] rfl h1 Try.call25 (by simp [h2]) ?_
          refine (free_nil _).mono ?_
          rintro e w' ⟨rfl, rfl⟩
          exact ⟨_, rfl, Puts.refl _, rfl⟩
        refine GoodAll.cons ?_ ?_
        · intro r wx hR hx
          obtain ⟨h1, h2, _⟩ := hx
          replace h1 : r (.tmp 154) = (.int .i64 0) := h1
          replace h2 : r (.const (.int .i64 0)) = .int .i64 0 := h2
          intro gb hgb
          refine guard_in (b := gb) (want := true) hgb ?_
          exact give_of (by simp [execOp, h1, h2, go_sem]) ⟨Puts.refl _, rfl⟩
        refine GoodAll.cons ?_ ?_
        · intro r wx hR hx
          obtain ⟨h1, h2, h3, _⟩ := hx
          replace h1 : r (.tmp 152) = (.bool true) := h1
          replace h2 : r (.tmp 155) = (.bool true) := h2
          replace h3 : r (.const (.bool false)) = .bool false := h3
          exact give_pick rfl h1 ⟨Puts.refl _, h2⟩
        refine GoodAll.cons ?_ ?_
        · intro r wx hR hx
          obtain ⟨h1, _⟩ := hx
          replace h1 : r (.tmp 156) = (.bool true) := h1
          exact give_move (.inl rfl) ⟨Puts.refl _, h1⟩
        refine GoodAll.cons ?_ ?_
        · intro r wx hR hx
          obtain ⟨h1, _⟩ := hx
          replace h1 : r (.tmp 14) = (nilRow) := h1
          intro gb hgb
          refine guard_in (b := gb) (want := true) hgb ?_
          exact give_move (.inl rfl) ⟨Puts.refl _, h1⟩
        refine GoodAll.cons ?_ ?_
        · intro r wx hR hx
          obtain ⟨h1, h2, _⟩ := hx
          replace h1 : r (.func 20) = .func (.func 20) #[] #[] := h1
          replace h2 : r (.tmp 158) = (nilRow) := h2
          intro gb hgb
          refine guard_in (b := gb) (want := true) hgb ?_
          refine give_func #[nilRow] rfl h1 Try.call20 (by simp [h2]) ?_
          refine (copy_nil _).mono ?_
          rintro e w' ⟨rfl, rfl⟩
          exact ⟨_, rfl, Puts.refl _, rfl⟩
        refine GoodAll.cons ?_ ?_
        · intro r wx hR hx
          obtain ⟨h1, h2, _⟩ := hx
          replace h1 : r (.tmp 159) = nilRow := h1
          replace h2 : r (.const (.pointer none)) = .pointer none := h2
          intro gb hgb
          refine guard_in (b := gb) (want := true) hgb ?_
          exact give_of (by simp [execOp, h1, h2, go_sem]) ⟨Puts.refl _, rfl⟩
        refine GoodAll.cons ?_ ?_
        · intro r wx hR hx
          obtain ⟨h1, h2, h3, _⟩ := hx
          replace h1 : r (.tmp 157) = (.bool true) := h1
          replace h2 : r (.tmp 160) = (.bool true) := h2
          replace h3 : r (.const (.bool false)) = .bool false := h3
          exact give_pick rfl h1 ⟨Puts.refl _, h2⟩
        refine GoodAll.cons ?_ ?_
        · intro r wx hR hx
          obtain ⟨h1, h2, _⟩ := hx
          replace h1 : r (.tmp 6) = (.pointer (some ⟨w.heap.size + 1, 0, none⟩)) := h1
          replace h2 : r (.tmp 161) = (.bool true) := h2
          have hB : ∃ x0, wx.heap[w.heap.size + 1]? = some (Obj.cells #[x0] 4 (0, 0)) := by
            rcases hR.it with e | e
            · exact ⟨_, e.trans HBY.out⟩
            · exact ⟨_, e⟩
          obtain ⟨x0, hB⟩ := hB
          have n0 : wx.cell? ⟨w.heap.size + 1, 0, none⟩ = some x0 := cell_of_block hB 0
          have g0 : wx.frozen? ⟨w.heap.size + 1, 0, none⟩ = false := frozen_of_block hB 0
          have hst : (wx.setCell ⟨w.heap.size + 1, 0, none⟩ (.bool true)).heap[w.heap.size + 1]? = some (Obj.cells #[.bool true] 4 (0, 0)) := by rw [block_set hB]; rfl
          exact give_skip (w' := wx.setCell ⟨w.heap.size + 1, 0, none⟩ (.bool true)) (by simp [execOp, h1, h2, go_sem, n0, g0]) ⟨⟨rfl, rfl, rfl, by simp, fun k hk => block_other hk _ _, .inr hst⟩, hst⟩
        exact GoodAll.nil
      · intro vs w5' aZ hRZ hold ha
        have nb : w5'.heap[w.heap.size + 1]? = some (Obj.cells #[.bool true] 4 (0, 0)) := hold.at 51
        refine ‹∀ (a : Act) (w : World), Code.wpIn Fence.wide 6 Try.prog Code.ret _ a w → _› _ _ ?_
        refine wpIn_ret ?_
        have hs6 : aZ.tmps[6]? = some (.pointer (some ⟨w.heap.size + 1, 0, none⟩)) := by rw [ha]; kernel_rfl
        have hdf : aZ.defers = [{ target := .collected D2, args := #[] }, { target := .collected D, args := #[] }] := by rw [ha]; exact putAll_defers _ _ _ _
        clear ha hold
        have k2 : w5'.heap[D2]? = some (.deferred (some [])) := (hRZ.block D2 (by omega)).trans hK2
        have k1 : (w5'.putObj D2 (.deferred none)).heap[D]? = some (.deferred (some [])) := (World.putObj_heap_other (by omega)).trans ((hRZ.block D (by omega)).trans HDY.out)
        obtain ⟨tz, dz⟩ := aZ
        simp only [] at hs6 hdf
        subst hdf
        refine ⟨by simp, .inl ⟨_, _, rfl, run_takeDeferred k2, ?_⟩⟩
        refine ⟨by simp, .inl ⟨_, _, rfl, run_takeDeferred k1, ?_⟩⟩
        have hr2 : ((w5'.putObj D2 (.deferred none)).putObj D (.deferred none)).cell? ⟨w.heap.size + 1, 0, none⟩ = some (.bool true) :=
          cell_of_block ((World.putObj_heap_other (by omega)).trans ((World.putObj_heap_other (by omega)).trans nb)) 0
        refine ⟨.bool true, ?_, rfl, ?_⟩
        · simp [results, Try.f5, go_sem, hs6, hr2]
        · have e0 : Below w.heap.size w w5' := ⟨hRZ.os.trans HEY.out.os, hRZ.tape.trans HEY.out.tape, hRZ.output.trans HEY.out.output, by rw [hRZ.size]; exact HEY.out.size, fun k hk => (hRZ.block k (by omega)).trans (HEY.out.block k hk)⟩
          exact ((e0.trans (belowK_b (w := w) (Nat.le_refl _) _ D2 _ _ (by omega) k2 rfl rfl)).trans (belowK_b (w := w) (Nat.le_refl _) _ D _ _ (by omega) k1 rfl rfl) : Below _ _ _)
end Go.Proofs.Ytbongjdflnefmaa
