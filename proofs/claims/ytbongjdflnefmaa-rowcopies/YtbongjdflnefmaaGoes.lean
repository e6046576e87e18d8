/- What is gone through is what the document's own row holds. No condition of its own. -/
import Derived.Test.YtbongjdflnefmaaAll
namespace Go.Proofs.Ytbongjdflnefmaa
open Go Go.RowKit Go.Shelf
set_option linter.unusedVariables false
set_option linter.unusedSimpArgs false
set_option maxRecDepth 100000
attribute [local go_sem] Oper.semAt_some

theorem row_reads {w : World} {b : Nat} {v : Value} {f m : Int} {L : List Int} (h : RowAt w b v f m L) (br : Nat) : Reads (fun k => Foot b v k ∨ k = br) (rowP b) f L (fun W => RowAt W b v f m L) :=
  ⟨fun W W' hW hk => hW.via (hk b (.inl (.inl rfl))) (fun g hg => hk g (.inl (.inr hg))), fun W hW => from_any hW, fun W hW => len_any hW, fun W hW x => hW.at_in x.1 x.2 rfl, h.hf, h.small⟩
theorem nil_reads (br : Nat) : Reads (fun k => k = br) nilRow 0 [] (fun _ => True) :=
  ⟨fun _ _ _ _ => trivial, fun W _ => from_nil W, fun W _ => len_nil W, fun W _ x => absurd x.2 (by simp), by omega, by simp⟩
theorem prefix_last {c : Nat} {p : List (Fin c)} {x : Fin c} (h : p ++ [x] <+: List.finRange c) : x.1 = p.length := by
  have h1 := h.getElem (i := p.length) (by simp)
  simp at h1
  rw [h1]

set_option maxHeartbeats 4000000 in
theorem goes_any {w : World} {b : Nat} {v u : Value} {f m : Int} {l : List Int} (h : RowAt w b v f m l) (hu : NumsAt .i64 w u l) : Calls Try.prog 12 #[rowP b, refV f m u] w fun e w' => e = .returned (.bool true) ∧ Ext w w' := by
  have hs := h.small
  have hf := h.hf
  have H : Hid (RowAt w b v f m l) := h
  have HU : Hid (NumsAt .i64 w u l) := hu
  obtain ⟨a, cap, rfl, hcap, hcell⟩ := hu.form
  have hmx : cap ≤ 9223372036854775807 := by have := hcap.2; unfold maxLen at this; omega
  have hro : Fence.wide.round = none := rfl
  have hF : ∀ k, Fence.wide.fn k := fun _ => trivial
  have hF22 : Fence.wide.fn 22 := trivial
  clear hu hcell h
  refine (callsIn_wide (n := 6)).1 ?_
  refine callsIn_of_wp_marks Try.func12 rfl (hF 12) ?_ hro
  simp only [Try.ntmps12, List.size_toArray, List.length_cons, List.length_nil, Nat.reduceAdd, Nat.reduceSub, Array.replicate_succ, Array.replicate_zero, List.push_toArray, List.append_toArray, List.nil_append, List.cons_append]
  gi_wp2_with (gi_at_call 22; refine (callsIn_wide.2 (all_call _ _)).mono ?_; rintro e w' ⟨rfl, rfl⟩)
  obtain ⟨W4, hW4⟩ : ∃ W4, (((w.alloc (.cells #[.int .u32 f, .int .i64 m, .slice a l.length cap] 36)).alloc (.cells #[.bool false] 4)).alloc (.cells #[.int .i64 0] 3)).alloc (.cells #[.pointer (some ⟨b, 0, none⟩)] 27) = W4 := ⟨_, rfl⟩
  have hsz4 : W4.heap.size = w.heap.size + 4 := by rw [← hW4]; simp
  have hE4 : Ext w W4 := by rw [← hW4]; exact (((Ext.alloc _ _).trans (Ext.alloc _ _)).trans (Ext.alloc _ _)).trans (Ext.alloc _ _)
  have q0 : W4.heap[w.heap.size]? = some (.cells #[.int .u32 f, .int .i64 m, .slice a l.length cap] 36 (0, 0)) := by
    rw [← hW4]; exact two_b0 ((Ext.alloc _ _).trans (Ext.alloc _ _))
  have q1 : Boxed W4 (w.heap.size + 1) 4 (.bool false) := by rw [← hW4]; exact two_b1 ((Ext.alloc _ _).trans (Ext.alloc _ _))
  have q2 : Boxed W4 (w.heap.size + 2) 3 (.int .i64 0) := by
    have := (Boxed.new ((w.alloc (.cells #[.int .u32 f, .int .i64 m, .slice a l.length cap] 36)).alloc (.cells #[.bool false] 4)) 3 (.int .i64 0)).alloc (.cells #[.pointer (some ⟨b, 0, none⟩)] 27)
    rw [World.size_alloc, World.size_alloc] at this; rw [← hW4]; exact this
  have q3 : Boxed W4 (w.heap.size + 3) 27 (rowP b) := by
    have := Boxed.new (((w.alloc (.cells #[.int .u32 f, .int .i64 m, .slice a l.length cap] 36)).alloc (.cells #[.bool false] 4)).alloc (.cells #[.int .i64 0] 3)) 27 (rowP b)
    rw [World.size_alloc, World.size_alloc, World.size_alloc] at this; rw [← hW4]; exact this
  rw [hW4]
  clear hW4
  simp only [Nat.add_assoc, Nat.reduceAdd]
  generalize ha0 : Act.mk _ _ = a0
  refine wpIn_range_deep (by omega) (gf := 39) (lb := #[.pointer (some ⟨w.heap.size + 3, 0, none⟩)]) (by rw [← ha0]; rfl) (enters_of Try.func39 (by kernel_rfl) rfl)
    (all_deep (row_reads (H.out.ext hE4) (w.heap.size + 3)) (w.heap.size + 3) W4 (fun k hk => by
      rcases hk with (rfl | hk) | rfl
      · exact (H.out.ext hE4).lt
      · exact ((H.out.ext hE4).own.lt hk).2
      · omega) (.inr rfl) q3 (H.out.ext hE4)) (fun h k => h.t k) (fun W y o hy k hk => World.putObj_heap_other (fun e => by
      rcases hk with (h1 | h1) | h1
      · have := (H.out.ext hE4).lt; omega
      · have := ((H.out.ext hE4).own.lt h1).2; omega
      · omega)) (fun _ => rfl)
    (fun pre X => W4.grownBy X (some (w.heap.size + 2)) ∧ Boxed X (w.heap.size + 2) 3 (.int .i64 (pre.length : Int)))
    (fun c pre X => c = .ret ∧ ∃ (p : List (Fin l.length)) (x : Fin l.length), pre = p ++ [x] ∧ x.1 ≠ p.length)
    (fun s A B row hs hg hr => ⟨grown_through hs.1 hg (fun r e => (hr r e).1), hs.2.kept hg (boxed_other (fun r e => (hr r e).2) hs.2)⟩)
    (fun c s A B row hs hg hr => hs)
    ⟨World.grownBy.refl _ _, q2⟩
    (fun x => { tmps := (((a0.tmps.setIfInBounds 10 (.int .u32 ((f + (x.1 : Int)) % 4294967296))).setIfInBounds 11 (.int .i64 (thing l x.1))).setIfInBounds 6 (.int .u32 ((f + (x.1 : Int)) % 4294967296))).setIfInBounds 7 (.int .i64 (thing l x.1)), defers := [] }) ?assign ?body ?done ?stop
  case assign =>
    intro y x X K hK
    subst ha0
    rw [fold2]
    simp only [List.setIfInBounds_toArray, List.set_cons_succ, List.set_cons_zero] at hK ⊢
    gi_wp2
    exact hK
  case body =>
    rintro y pre ⟨xv, hxl⟩ X ⟨hg, hbx⟩ hN
    subst ha0
    simp only [List.setIfInBounds_toArray, List.set_cons_succ, List.set_cons_zero]
    have hgs := hg.size
    have hkb : ∀ k, k ≠ w.heap.size + 2 → k < W4.heap.size → X.heap[k]? = W4.heap[k]? := fun k hk hlt => hg.block k hlt (by simpa using hk)
    obtain ⟨c0, c1, c2⟩ := cells3 ((hkb w.heap.size (by omega) (by omega)).trans q0)
    have hq1 : Boxed X (w.heap.size + 1) 4 (.bool false) := (hkb _ (by omega) (by omega)).trans q1
    have cq1 := hq1.cell
    have fq1 := hq1.frozen
    have cb := hbx.cell
    have fb := hbx.frozen
    have HN : NumsAt .i64 X (.slice a l.length cap) l := HU.out.via fun k _ hk => (hkb k (by omega) (by omega)).trans (hE4.block k hk)
    obtain ⟨g1, o1, rfl, e1⟩ := HN.cellAt pre.length hN
    replace e1 : X.cell? ⟨g1, o1 + pre.length, none⟩ = some (.int .i64 (thing l pre.length)) := e1
    have hN' : (pre.length : Int) < (l.length : Int) := by omega
    have hge : decide ((pre.length : Int) ≥ (l.length : Int)) = false := decide_eq_false (by omega)
    have hge2 : decide (l.length ≤ pre.length) = false := decide_eq_false (by omega)
    have HG := grown_same hg (grownBy_setCell' X (w.heap.size + 2) (.int .i64 ((pre.length : Int) + 1)))
    have HB := hbx.set (.int .i64 ((pre.length : Int) + 1))
    have HKA : ∀ (j : Nat) (o : Value), j < w.heap.size + 4 → KeepAbove W4.heap.size X (X.setCell ⟨j, 0, none⟩ o) := fun j o hj => ⟨by simp, fun k hk _ => block_other (by omega) _ _⟩
    clear HN
    by_cases hx : xv = pre.length
    · subst hx
      have HKP : KpS (fun k => Foot b v k ∨ k = w.heap.size + 3) X (X.setCell ⟨w.heap.size + 2, 0, none⟩ (.int .i64 ((pre.length : Int) + 1))) := fun k hk => block_other (by
        rcases hk with (h1 | h1) | h1
        · have := H.out.lt; omega
        · have := (H.out.own.lt h1).2; omega
        · omega) _ _
      gi_wp2
      exact ⟨HKA _ _ (by omega), HKP, HG, by simpa using HB⟩
    · have hne : ((f + (xv : Int)) % 4294967296 != (f + (pre.length : Int)) % 4294967296) = true := bne_iff_ne.2 (by omega)
      have HX : Hid (xv ≠ pre.length) := hx
      clear hx
      gi_wp2
      exact ⟨HKA _ _ (by omega), rfl, pre, ⟨xv, hxl⟩, rfl, HX.out⟩
  case done =>
    rintro D ys X hD hS ⟨hg, hbx⟩ hK
    subst ha0
    have hys : ys.length = l.length := by rw [show ys = List.finRange l.length from hS]; simp
    rw [hys] at hbx
    have hkb : ∀ k, k ≠ w.heap.size + 2 → k < W4.heap.size → X.heap[k]? = W4.heap[k]? := fun k hk hlt => hg.block k hlt (by simpa using hk)
    obtain ⟨c0, c1, c2⟩ := cells3 ((hkb w.heap.size (by omega) (by omega)).trans q0)
    have hq1 : Boxed X (w.heap.size + 1) 4 (.bool false) := (hkb _ (by omega) (by omega)).trans q1
    have cq1 := hq1.cell
    have fq1 := hq1.frozen
    have cb := hbx.cell
    clear hkb
    gi_wp2
    have k1 : (X.setCell ⟨w.heap.size + 1, 0, none⟩ (.bool true)).heap[D]? = some (.deferred (some [])) := (KeepsOthers.setCell X ⟨w.heap.size + 1, 0, none⟩ (.bool true)).same D _ hK rfl
    refine ⟨by simp, .inl ⟨_, _, rfl, run_takeDeferred k1, ?_⟩⟩
    have hr1 : Boxed ((X.setCell ⟨w.heap.size + 1, 0, none⟩ (.bool true)).putObj D (.deferred none)) (w.heap.size + 1) 4 (.bool true) := (World.putObj_heap_other (by omega)).trans (hq1.set (.bool true))
    have hr2 := hr1.cell
    refine ⟨.bool true, ?_, rfl, ?_⟩
    · simp [results, Try.f12, go_sem, hr2]
    · have e0 : Below w.heap.size w X := ⟨hg.os.trans hE4.os, hg.tape.trans hE4.tape, hg.output.trans hE4.output, Nat.le_trans hE4.size hg.size, fun k hk => (hg.block k (by omega) (by simp; omega)).trans (hE4.block k hk)⟩
      exact ((e0.setCell (p := ⟨w.heap.size + 1, 0, none⟩) (by simp) (.bool true)).trans (belowK_b (w := w) (Nat.le_refl _) _ D _ _ (by omega) k1 rfl rfl) : Below _ _ _)
  case stop =>
    rintro D c pre X _ ⟨_, hpre⟩ ⟨rfl, p, x, rfl, hbad⟩ _
    exact absurd (prefix_last hpre) hbad
end Go.Proofs.Ytbongjdflnefmaa
