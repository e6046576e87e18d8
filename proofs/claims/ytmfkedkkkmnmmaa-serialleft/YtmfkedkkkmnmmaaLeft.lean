/- The law SerialLeft walked: it answers true. No condition of its own. -/
import Derived.Test.YtmfkedkkkmnmmaaRuns
import Derived.Test.YtmfkedkkkmnmmaaAlive
import Derived.RegionIn
import Derived.Test.YtmfkedkkkmnmmaaStage
import Derived.Test.YtmfkedkkkmnmmaaLoops
namespace Go.Proofs.Ytmfkedkkkmnmmaa
open Go.RowKit Go.Shelf
set_option linter.unusedVariables false
set_option linter.unusedSimpArgs false
attribute [local go_sem] Oper.semAt_some

set_option maxRecDepth 100000 in
set_option maxHeartbeats 2000000 in
theorem left_any (f : Int) (v : Value) (l : List Int) (n s : Int) (w : World) (hf : Of 65536 f) (hv : NumsAt .u16 w v l) (hl : ∀ x ∈ l, Of 65536 x) (hn : W64 n) (hs : W64 s) :
    CallsIn Fence.wide 5 Try.prog 6 #[.agg #[.int .u16 f, v, .int .i64 n, .int .i64 s]] w fun e W' => e = .returned (.bool true) ∧ Below w.heap.size w W' := by
  have HV : Hid (NumsAt .u16 w v l) := hv
  obtain ⟨a, cap, rfl, hcap, hcell⟩ := hv.form
  clear hv hcell
  have hro : Fence.wide.round = none := rfl
  have hF : ∀ k, Fence.wide.fn k := fun _ => trivial
  have hF8 : Fence.wide.fn 8 := trivial
  have hF30 : Fence.wide.fn 30 := trivial
  have hF31 : Fence.wide.fn 31 := trivial
  refine callsIn_of_wp_marks Try.func6 rfl (hF 6) ?_ hro
  simp only [Try.ntmps6, List.size_toArray, List.length_cons, List.length_nil, Nat.reduceAdd, Nat.reduceSub, Array.replicate_succ, Array.replicate_zero, List.push_toArray, List.append_toArray, List.nil_append, List.cons_append]
  gi_wp2_with (gi_at_call 8; refine (callsIn_wide.2 (alive_any _)).mono ?_; rintro e w' ⟨rfl, rfl⟩)
  have hE1 := Ext.alloc w (.cells #[.int .u16 f, .slice a l.length cap, .int .i64 n, .int .i64 s] 56)
  have c0 : (w.alloc (.cells #[.int .u16 f, .slice a l.length cap, .int .i64 n, .int .i64 s] 56)).cell? ⟨w.heap.size, 0, none⟩ = some (.int .u16 f) := cellNew w _ 56 (0, 0) w.heap.size 0 rfl
  have c1 : (w.alloc (.cells #[.int .u16 f, .slice a l.length cap, .int .i64 n, .int .i64 s] 56)).cell? ⟨w.heap.size, 1, none⟩ = some (.slice a l.length cap) := cellNew w _ 56 (0, 0) w.heap.size 1 rfl
  have c2 : (w.alloc (.cells #[.int .u16 f, .slice a l.length cap, .int .i64 n, .int .i64 s] 56)).cell? ⟨w.heap.size, 2, none⟩ = some (.int .i64 n) := cellNew w _ 56 (0, 0) w.heap.size 2 rfl
  have c3 : (w.alloc (.cells #[.int .u16 f, .slice a l.length cap, .int .i64 n, .int .i64 s] 56)).cell? ⟨w.heap.size, 3, none⟩ = some (.int .i64 s) := cellNew w _ 56 (0, 0) w.heap.size 3 rfl
  have hsz : (w.alloc (.cells #[.int .u16 f, .slice a l.length cap, .int .i64 n, .int .i64 s] 56)).heap.size = w.heap.size + 1 := by simp
  generalize w.alloc (.cells #[.int .u16 f, .slice a l.length cap, .int .i64 n, .int .i64 s] 56) = W1 at *
  obtain ⟨b, hb0⟩ : ∃ b, w.heap.size = b := ⟨_, rfl⟩
  rw [hb0] at c0 c1 c2 c3 hsz ⊢
  have hbl : b < W1.heap.size := by omega
  obtain ⟨Ws, hs0, hs1, hs2⟩ : ∃ Ws : Nat → World, Ws 0 = W1.drew ∧ Ws 1 = W1.drew.alloc (.cells #[.int .i64 0] 3) ∧ Ws 2 = W1.drew.alloc (.cells #[.int .i64 s] 3) := ⟨fun k => match k with | 0 => _ | 1 => _ | _ => _, rfl, rfl, rfl⟩
  have DD : ∀ k, k ≤ 2 → ∀ j u, W1.cell? ⟨b, j, none⟩ = some u → (Ws k).cell? ⟨b, j, none⟩ = some u := fun k hk j u hu => by
    rcases k with _ | _ | _ | k
    · rw [hs0]; exact hu
    · rw [hs1]; exact (cellOld W1.drew _ _ _ hbl).trans hu
    · rw [hs2]; exact (cellOld W1.drew _ _ _ hbl).trans hu
    · omega
  have D0 : ∀ k, k ≤ 2 → _ := fun k hk => DD k hk 0 _ c0
  have D1 : ∀ k, k ≤ 2 → _ := fun k hk => DD k hk 1 _ c1
  have D2 : ∀ k, k ≤ 2 → _ := fun k hk => DD k hk 2 _ c2
  have D3 : ∀ k, k ≤ 2 → _ := fun k hk => DD k hk 3 _ c3
  refine wpIn_wide.2 ?_
  refine wp_region_staged (fun t => bif Nat.ble 12 t && Nat.ble t 19 then some (t - 12) else bif Nat.beq t 6 then some 8 else bif Nat.ble 3 t && Nat.ble t 5 then some (t + 6) else none) 69 [8, 12] Ws
    [(fun v => v = (.pointer (some ⟨b, 0, none⟩))),
     (fun v => v = (.int .u16 f)),
     (fun v => v = (.pointer (some ⟨b, 1, none⟩))),
     (fun v => v = (.slice a l.length cap)),
     (fun v => v = (.pointer (some ⟨b, 2, none⟩))),
     (fun v => v = (.int .i64 n)),
     (fun v => v = (.pointer (some ⟨b, 3, none⟩))),
     (fun v => v = (.int .i64 s)),
     (fun v => v = (.pointer (some ⟨W1.heap.size, 0, none⟩))),
     (fun v => v = (.int .u16 f)),
     (fun v => v = (.slice a l.length cap)),
     (fun v => v = (.int .i64 n)),
     (fun _ => True)]
    rfl (by kernel_rfl) (by kernel_rfl) rfl (by kernel_rfl) (by kernel_rfl) hs0 ?_ ?_
  · refine GoodSAll.reads rfl (fun k hk => ?_) ?_
    · intro r hx
      obtain ⟨h1, _⟩ := hx
      replace h1 : r (.tmp 1) = (.pointer (some ⟨b, 0, none⟩)) := h1
      exact give_of (by simp [execOp, h1, go_sem]) ⟨rfl, rfl⟩
    refine GoodSAll.reads rfl (fun k hk => ?_) ?_
    · intro r hx
      obtain ⟨h1, _⟩ := hx
      replace h1 : r (.tmp 12) = (.pointer (some ⟨b, 0, none⟩)) := h1
      exact give_of (by simp [execOp, h1, go_sem, D0 k hk]) ⟨rfl, rfl⟩
    refine GoodSAll.reads rfl (fun k hk => ?_) ?_
    · intro r hx
      obtain ⟨h1, _⟩ := hx
      replace h1 : r (.tmp 1) = (.pointer (some ⟨b, 0, none⟩)) := h1
      exact give_of (by simp [execOp, h1, go_sem]) ⟨rfl, rfl⟩
    refine GoodSAll.reads rfl (fun k hk => ?_) ?_
    · intro r hx
      obtain ⟨h1, _⟩ := hx
      replace h1 : r (.tmp 14) = (.pointer (some ⟨b, 1, none⟩)) := h1
      exact give_of (by simp [execOp, h1, go_sem, D1 k hk]) ⟨rfl, rfl⟩
    refine GoodSAll.reads rfl (fun k hk => ?_) ?_
    · intro r hx
      obtain ⟨h1, _⟩ := hx
      replace h1 : r (.tmp 1) = (.pointer (some ⟨b, 0, none⟩)) := h1
      exact give_of (by simp [execOp, h1, go_sem]) ⟨rfl, rfl⟩
    refine GoodSAll.reads rfl (fun k hk => ?_) ?_
    · intro r hx
      obtain ⟨h1, _⟩ := hx
      replace h1 : r (.tmp 16) = (.pointer (some ⟨b, 2, none⟩)) := h1
      exact give_of (by simp [execOp, h1, go_sem, D2 k hk]) ⟨rfl, rfl⟩
    refine GoodSAll.reads rfl (fun k hk => ?_) ?_
    · intro r hx
      obtain ⟨h1, _⟩ := hx
      replace h1 : r (.tmp 1) = (.pointer (some ⟨b, 0, none⟩)) := h1
      exact give_of (by simp [execOp, h1, go_sem]) ⟨rfl, rfl⟩
    refine GoodSAll.reads rfl (fun k hk => ?_) ?_
    · intro r hx
      obtain ⟨h1, _⟩ := hx
      replace h1 : r (.tmp 18) = (.pointer (some ⟨b, 3, none⟩)) := h1
      exact give_of (by simp [execOp, h1, go_sem, D3 k hk]) ⟨rfl, rfl⟩
    refine GoodSAll.writes 0 rfl rfl ?_ ?_
    · intro r hx
      exact give_of (v := .pointer (some ⟨W1.heap.size, 0, none⟩)) (w' := Ws 1) (by rw [hs0, hs1]; simp [execOp, go_sem]) ⟨rfl, rfl⟩
    refine GoodSAll.reads rfl (fun k hk => ?_) ?_
    · intro r hx
      obtain ⟨h1, _⟩ := hx
      replace h1 : r (.tmp 13) = (.int .u16 f) := h1
      exact give_move (.inr rfl) ⟨rfl, h1⟩
    refine GoodSAll.reads rfl (fun k hk => ?_) ?_
    · intro r hx
      obtain ⟨h1, _⟩ := hx
      replace h1 : r (.tmp 15) = (.slice a l.length cap) := h1
      exact give_move (.inr rfl) ⟨rfl, h1⟩
    refine GoodSAll.reads rfl (fun k hk => ?_) ?_
    · intro r hx
      obtain ⟨h1, _⟩ := hx
      replace h1 : r (.tmp 17) = (.int .i64 n) := h1
      exact give_move (.inr rfl) ⟨rfl, h1⟩
    refine GoodSAll.writes 1 rfl rfl ?_ ?_
    · intro r hx
      obtain ⟨h1, h2, _⟩ := hx
      replace h1 : r (.tmp 6) = (.pointer (some ⟨W1.heap.size, 0, none⟩)) := h1
      replace h2 : r (.tmp 19) = (.int .i64 s) := h2
      exact give_skip (w' := Ws 2) (by rw [hs1, hs2]; simp [execOp, h1, h2, go_sem]) ⟨rfl, trivial⟩
    exact GoodSAll.nil
  · intro vs a' hold ha'
    have hv0 : vs 0 = (.pointer (some ⟨b, 0, none⟩)) := hold 0 (by simp)
    have hv1 : vs 1 = (.int .u16 f) := hold 1 (by simp)
    have hv2 : vs 2 = (.pointer (some ⟨b, 1, none⟩)) := hold 2 (by simp)
    have hv3 : vs 3 = (.slice a l.length cap) := hold 3 (by simp)
    have hv4 : vs 4 = (.pointer (some ⟨b, 2, none⟩)) := hold 4 (by simp)
    have hv5 : vs 5 = (.int .i64 n) := hold 5 (by simp)
    have hv6 : vs 6 = (.pointer (some ⟨b, 3, none⟩)) := hold 6 (by simp)
    have hv7 : vs 7 = (.int .i64 s) := hold 7 (by simp)
    have hv8 : vs 8 = (.pointer (some ⟨W1.heap.size, 0, none⟩)) := hold 8 (by simp)
    have hv9 : vs 9 = (.int .u16 f) := hold 9 (by simp)
    have hv10 : vs 10 = (.slice a l.length cap) := hold 10 (by simp)
    have hv11 : vs 11 = (.int .i64 n) := hold 11 (by simp)
    simp only [putAll, Act.put, hv0, hv1, hv2, hv3, hv4, hv5, hv6, hv7, hv8, hv9, hv10, hv11, List.setIfInBounds_toArray, List.set_cons_succ, List.set_cons_zero] at ha'
    subst ha'
    clear hold hv0 hv1 hv2 hv3 hv4 hv5 hv6 hv7 hv8 hv9 hv10 hv11
    clear DD D0 D1 D2 D3 c0 c1 c2 c3
    rw [show Ws ([8, 12] : List Nat).length = _ from hs2]
    clear hs0 hs1 hs2 Ws
    refine ‹∀ (a : Act) (w : World), Code.wpIn Fence.wide 5 Try.prog _ _ a w → _› _ _ ?_
    have hE0 : Below w.heap.size w (W1.alloc (.cells #[.int .i64 s] 3)).drew := (hE1.trans (Ext.alloc _ _)).trans (Ext.drew _)
    by_cases h60 : 60 < l.length
    · have hd1 : decide (60 < (l.length : Int)) = true := decide_eq_true (by omega)
      gi_wp2
      refine ⟨_, results_tmp rfl _ _ _, rfl, hE0⟩
    have hll : l.length ≤ 60 := by omega
    have hd1 : decide (60 < (l.length : Int)) = false := decide_eq_false (by omega)
    by_cases h200 : 200 < n
    · have hd2 : decide (200 < n) = true := decide_eq_true h200
      gi_wp2
      refine ⟨_, results_tmp rfl _ _ _, rfl, hE0⟩
    have hn2 : n ≤ 200 := by omega
    have hd2 : decide (200 < n) = false := decide_eq_false h200
    clear hE0 h60 h200
    gi_wp2_with (gi_at_call 30; refine (callsIn_wide.2 (range16 _ _ _)).mono ?_; rintro e w' ⟨rfl, rfl⟩)
    have hst1 : 1 ≤ wrap64 (1 + wrap64 ((IntKind.u64.wrap s).tmod 20)) ∧ wrap64 (1 + wrap64 ((IntKind.u64.wrap s).tmod 20)) ≤ 20 := by
      rw [IntKind.wrap_u64]
      simp only [Int.tmod_eq_emod, wrap64]
      split <;> constructor <;> omega
    generalize wrap64 (1 + wrap64 ((IntKind.u64.wrap s).tmod 20)) = st at *
    obtain ⟨W2, hW2⟩ : ∃ W2, ((((W1.alloc (.cells #[.int .i64 st] 3)).alloc (.cells #[.int .i64 0] 3)).alloc (.cells #[.int .u16 f] 31)).alloc (.cells #[.int .i64 n] 3)).drew = W2 := ⟨_, rfl⟩
    have hsz2 : W2.heap.size = b + 5 := by rw [← hW2]; simp [World.drew, hsz]
    have B1 : Boxed W2 (b + 1) 3 (.int .i64 st) := by
      have := ((((Boxed.new W1 3 (.int .i64 st)).alloc (.cells #[.int .i64 0] 3)).alloc (.cells #[.int .u16 f] 31)).alloc (.cells #[.int .i64 n] 3))
      rw [hsz] at this; rw [← hW2]; exact this
    have B2 : Boxed W2 (b + 2) 3 (.int .i64 0) := by
      have := (((Boxed.new (W1.alloc (.cells #[.int .i64 st] 3)) 3 (.int .i64 0)).alloc (.cells #[.int .u16 f] 31)).alloc (.cells #[.int .i64 n] 3))
      rw [World.size_alloc, hsz] at this; rw [← hW2]; exact this
    have B3 : Boxed W2 (b + 3) 31 (.int .u16 f) := by
      have := ((Boxed.new ((W1.alloc (.cells #[.int .i64 st] 3)).alloc (.cells #[.int .i64 0] 3)) 31 (.int .u16 f)).alloc (.cells #[.int .i64 n] 3))
      rw [World.size_alloc, World.size_alloc, hsz] at this; rw [← hW2]; exact this
    have B4 : Boxed W2 (b + 4) 3 (.int .i64 n) := by
      have := (Boxed.new (((W1.alloc (.cells #[.int .i64 st] 3)).alloc (.cells #[.int .i64 0] 3)).alloc (.cells #[.int .u16 f] 31)) 3 (.int .i64 n))
      rw [World.size_alloc, World.size_alloc, World.size_alloc, hsz] at this; rw [← hW2]; exact this
    have hE2 : Ext w W2 := by
      rw [← hW2]
      exact ((((hE1.trans (Ext.alloc _ _)).trans (Ext.alloc _ _)).trans (Ext.alloc _ _)).trans (Ext.alloc _ _)).trans (Ext.drew _)
    rw [hW2]
    clear hW2
    simp only [Nat.add_assoc, Nat.reduceAdd]
    refine wpIn_rangeFunc_mergeS hro (by decide) (gf := 41) (lb := #[.pointer (some ⟨b + 4, 0, none⟩), .pointer (some ⟨b + 3, 0, none⟩)]) rfl (hF 41) (enters_of Try.func41 (by kernel_rfl) rfl)
      (range16_stops 4 (by omega) (b + 4) (b + 3) (b + 3) (b + 5) f n hf hn W2 (by omega) (by omega) B4 B3) (fun h k => h.t k) (KpR.b (by omega)) (Below.refl _ _) (fun _ => rfl) 0
      (fun pre W => W2.grownBy W (some (b + 2)) ∧ Boxed W (b + 2) 3 (.int .i64 (pre.length : Int)) ∧ (pre.length : Int) < st)
      (fun pre W => W2.grownBy W (some (b + 2)) ∧ Boxed W (b + 2) 3 (.int .i64 (pre.length : Int)) ∧ (pre.length : Int) = st)
      (fun p A B row hs hg hr => ⟨grown_through hs.1 hg (fun r e => (hr r e).1), hs.2.1.kept hg (boxed_other (fun r e => (hr r e).2) hs.2.1), hs.2.2⟩)
      (fun p A B row hs hg hr => ⟨grown_through hs.1 hg (fun r e => (hr r e).1), hs.2.1.kept hg (boxed_other (fun r e => (hr r e).2) hs.2.1), hs.2.2⟩)
      ⟨World.grownBy.refl _ _, B2, by simp; omega⟩
      (fun W => W2.grownBy W (some (b + 2)) ∧ Boxed W (b + 2) 3 (.int .i64 (min st (max 0 n)))) ?body ?m1 ?m2 ?qx ?fin
    case body =>
      rintro y pre x W ⟨hg, hb, hlt⟩ hN
      simp only [List.zip_toArray, List.zip_cons_cons, List.zip_nil_left, List.foldl_toArray, List.foldl_cons, List.foldl_nil, List.setIfInBounds_toArray, List.set_cons_succ, List.set_cons_zero]
      have hst2 : Boxed W (b + 1) 3 (.int .i64 st) := (hg.block _ B1.lt (by simp)).trans B1
      have hc := hb.cell
      have hf1 := hb.frozen
      have hb' := hb.set (.int .i64 ((pre.length : Int) + 1))
      have hst3 := (hst2.kept (grownBy_setCell' W (b + 2) (.int .i64 ((pre.length : Int) + 1))) (by simp)).cell
      have hc' := hb'.cell
      have hlen : ((pre ++ [x]).length : Int) = (pre.length : Int) + 1 := by simp
      have HG := grown_same hg (grownBy_setCell' W (b + 2) (.int .i64 ((pre.length : Int) + 1)))
      have HK : KpR (b + 3) (b + 5) W (W.setCell ⟨b + 2, 0, none⟩ (.int .i64 ((pre.length : Int) + 1))) := KpR.grown (grownBy_setCell' W (b + 2) _) (by have := hg.size; omega) (fun r e => by cases e; omega)
      by_cases hq : (pre.length : Int) + 1 = st
      · subst hq
        gi_wp2
        exact ⟨KeepsOthers.setCell _ _ _, rfl, HG, by rw [hlen]; exact hb', hlen⟩
      · have hqb : ((pre.length : Int) + 1 == st) = false := by simp [hq]
        gi_wp2
        exact ⟨KeepsOthers.setCell _ _ _, HK, HG, by rw [hlen]; exact hb', by rw [hlen]; omega⟩
    case m1 =>
      rintro xs W hxs ⟨hg, hb, hlt⟩
      refine ⟨hg, ?_⟩
      have : (xs.length : Int) = min st (max 0 n) := by
        have := congrArg List.length hxs
        rw [Ser.range_length] at this; omega
      rw [← this]; exact hb
    case m2 =>
      rintro pre W ⟨_, hpre⟩ ⟨hg, hb, hlt⟩
      refine ⟨hg, ?_⟩
      have : (pre.length : Int) = min st (max 0 n) := by
        have := hpre.length_le
        rw [Ser.range_length] at this; omega
      rw [← this]; exact hb
    case qx => exact fun a' W h => by simpa [Exit.inBlock] using h
    case fin =>
      rintro D W hD ⟨hg, hb⟩ hK
      have hEW : Ext w W := ⟨hg.os.trans hE2.os, hg.tape.trans hE2.tape, hg.output.trans hE2.output, Nat.le_trans hE2.size hg.size, fun k hk => (hg.block k (Nat.lt_of_lt_of_le hk hE2.size) (by simp; omega)).trans (hE2.block k hk)⟩
      have hst2 : Boxed W (b + 1) 3 (.int .i64 st) := (hg.block _ B1.lt (by simp)).trans B1
      have hDW : D < W.heap.size := (Array.getElem?_eq_some_iff.1 hK).1
      have hWs := hg.size
      clear hg B1 B2 B3 B4
      gi_wp2_with (gi_at_call 31; refine (callsIn_wide.2 (runs16 _ _ _ (HV.out.ext (hEW.trans ((Ext.alloc _ _).trans (Ext.alloc _ _)))) (by omega))).mono ?_; rintro e W3 ⟨b', u, rfl, hbx, hnu, hfr, hlo, hE3⟩)
      have hRL := Ser.runs_length 65536 l
      obtain ⟨c0, hc0⟩ : ∃ c0, W.heap.size = c0 := ⟨_, rfl⟩
      have C0 : Boxed W3 c0 3 (.int .i64 0) := by
        have h := (Boxed.new W 3 (.int .i64 0)).alloc (.cells #[.int .i64 0] 3)
        rw [hc0] at h
        exact (hE3.block _ h.lt).trans h
      have C1 : Boxed W3 (c0 + 1) 3 (.int .i64 0) := by
        have h := Boxed.new (W.alloc (.cells #[.int .i64 0] 3)) 3 (.int .i64 0)
        rw [World.size_alloc, hc0] at h
        exact (hE3.block _ h.lt).trans h
      have hEW3 : Ext W W3 := ((Ext.alloc _ _).trans (Ext.alloc _ _)).trans hE3
      have hsA : ((W.alloc (.cells #[.int .i64 0] 3)).alloc (.cells #[.int .i64 0] 3)).heap.size = c0 + 2 := by simp [hc0]
      rw [hsA] at hlo hfr
      have hs3 := hE3.size
      rw [hsA] at hs3
      have hK3 : W3.heap[D]? = some (.deferred (some [])) := (hEW3.block D hDW).trans hK
      have hb3 : Boxed W3 (b + 2) 3 (.int .i64 (min st (max 0 n))) := (hEW3.block _ hb.lt).trans hb
      have hst3 : Boxed W3 (b + 1) 3 (.int .i64 st) := (hEW3.block _ hst2.lt).trans hst2
      have hEw3 := hEW.trans hEW3
      have hbl2 := hbx.lt
      rw [hc0] at hDW hWs
      simp only [hc0]
      clear hE3 hEW3 hsA hb hst2 hK
      refine wpIn_rangeFunc_mergeS hro (by decide) (gf := 43) (lb := #[.pointer (some ⟨b', 0, none⟩)]) rfl (hF 43) (enters_of Try.func43 (by kernel_rfl) rfl)
        (runs16_stops 4 (by omega) b' (c0 + 2) W3.heap.size u l hl (by omega) W3 ⟨hlo, hbl2⟩ hfr hbx hnu) (fun h k => h.t k) (KpR.b (Nat.le_refl _)) (Below.refl _ _) (fun _ => rfl) 2
        (fun pre X => W3.grownBy X (some (c0 + 1)) ∧ Boxed X (c0 + 1) 3 (.int .i64 (pre.length : Int)))
        (fun _ _ => False)
        (fun p A B row hs hg hr => ⟨grown_through hs.1 hg (fun r e => (hr r e).1), hs.2.kept hg (boxed_other (fun r e => (hr r e).2) hs.2)⟩)
        (fun p A B row hs hg hr => hs)
        ⟨World.grownBy.refl _ _, C1⟩
        (fun X => W3.grownBy X (some (c0 + 1)) ∧ Boxed X (c0 + 1) 3 (.int .i64 ((Ser.runs 65536 l).length : Int))) ?body2 ?m12 ?m22 ?qx2 ?fin2
      case body2 =>
        rintro y pre x X ⟨hg, hb⟩ hN
        simp only [List.zip_toArray, List.zip_cons_cons, List.zip_nil_left, List.foldl_toArray, List.foldl_cons, List.foldl_nil, List.setIfInBounds_toArray, List.set_cons_succ, List.set_cons_zero]
        have hc := hb.cell
        have hf1 := hb.frozen
        have hb' := hb.set (.int .i64 ((pre.length : Int) + 1))
        have hlen : ((pre ++ [x]).length : Int) = (pre.length : Int) + 1 := by simp
        have HG := grown_same hg (grownBy_setCell' X (c0 + 1) (.int .i64 ((pre.length : Int) + 1)))
        have HK : KpR (c0 + 2) W3.heap.size X (X.setCell ⟨c0 + 1, 0, none⟩ (.int .i64 ((pre.length : Int) + 1))) := KpR.grown (grownBy_setCell' X (c0 + 1) _) hg.size (fun r e => by cases e; omega)
        gi_wp2
        exact ⟨KeepsOthers.setCell _ _ _, HK, HG, by rw [hlen]; exact hb'⟩
      case m12 =>
        rintro xs X hxs ⟨hg, hb⟩
        refine ⟨hg, ?_⟩
        have := congrArg List.length hxs
        rw [List.length_map] at this
        rw [← this]; exact hb
      case m22 => exact fun _ _ _ h => h.elim
      case qx2 => exact fun a' W h => by simpa [Exit.inBlock] using h
      case fin2 =>
        rintro D2 X hD2 ⟨hg, hbA⟩ hK2
        have hEX : Ext w X := ⟨hg.os.trans hEw3.os, hg.tape.trans hEw3.tape, hg.output.trans hEw3.output, Nat.le_trans hEw3.size hg.size, fun k hk => (hg.block k (Nat.lt_of_lt_of_le hk hEw3.size) (by simp; omega)).trans (hEw3.block k hk)⟩
        have hstX : Boxed X (b + 1) 3 (.int .i64 st) := (hg.block _ hst3.lt (by simp; omega)).trans hst3
        have hbX : Boxed X (b + 2) 3 (.int .i64 (min st (max 0 n))) := (hg.block _ hb3.lt (by simp; omega)).trans hb3
        have C0X : Boxed X c0 3 (.int .i64 0) := (hg.block _ C0.lt (by simp)).trans C0
        have hKX : X.heap[D]? = some (.deferred (some [])) := (hg.block D (by omega) (by simp; omega)).trans hK3
        have hDX : D2 < X.heap.size := (Array.getElem?_eq_some_iff.1 hK2).1
        have hDD : D < D2 := by omega
        have hc0X : c0 + 2 ≤ X.heap.size := Nat.le_trans hs3 hg.size
        clear hg C1 C0 hst3 hb3 hK3 hbx hnu hfr
        gi_wp2_with (gi_at_call 31; refine (callsIn_wide.2 (runs16 _ _ _ (HV.out.ext hEX) (by omega))).mono ?_; rintro e Y ⟨b2, u2, rfl, hbx, hnu, hfr, hlo2, hE4⟩)
        have hstY : Boxed Y (b + 1) 3 (.int .i64 st) := (hE4.block _ hstX.lt).trans hstX
        have hbY : Boxed Y (b + 2) 3 (.int .i64 (min st (max 0 n))) := (hE4.block _ hbX.lt).trans hbX
        have C0Y : Boxed Y c0 3 (.int .i64 0) := (hE4.block _ C0X.lt).trans C0X
        have C1Y : Boxed Y (c0 + 1) 3 (.int .i64 ((Ser.runs 65536 l).length : Int)) := (hE4.block _ hbA.lt).trans hbA
        have hKY : Y.heap[D]? = some (.deferred (some [])) := (hE4.block D (by omega)).trans hKX
        have hK2Y : Y.heap[D2]? = some (.deferred (some [])) := (hE4.block D2 hDX).trans hK2
        have hEY := hEX.trans hE4
        have hYs := hE4.size
        have hbl3 := hbx.lt
        clear hE4 hstX hbX C0X hbA hKX hK2
        refine wpIn_rangeFunc_mergeS hro (by decide) (gf := 43) (lb := #[.pointer (some ⟨b2, 0, none⟩)]) rfl (hF 43) (enters_of Try.func43 (by kernel_rfl) rfl)
          (runs16_stops 4 (by omega) b2 X.heap.size Y.heap.size u2 l hl (by omega) Y ⟨hlo2, hbl3⟩ hfr hbx hnu) (fun h k => h.t k) (KpR.b (Nat.le_refl _)) (Below.refl _ _) (fun _ => rfl) 4
          (fun pre Z => Y.grownBy Z (some c0) ∧ Boxed Z c0 3 (.int .i64 (pre.length : Int)) ∧ (pre.length : Int) < st)
          (fun pre Z => Y.grownBy Z (some c0) ∧ Boxed Z c0 3 (.int .i64 (pre.length : Int)) ∧ (pre.length : Int) = st)
          (fun p A B row hs hg hr => ⟨grown_through hs.1 hg (fun r e => (hr r e).1), hs.2.1.kept hg (boxed_other (fun r e => (hr r e).2) hs.2.1), hs.2.2⟩)
          (fun p A B row hs hg hr => ⟨grown_through hs.1 hg (fun r e => (hr r e).1), hs.2.1.kept hg (boxed_other (fun r e => (hr r e).2) hs.2.1), hs.2.2⟩)
          ⟨World.grownBy.refl _ _, C0Y, by simp; omega⟩
          (fun Z => Y.grownBy Z (some c0) ∧ Boxed Z c0 3 (.int .i64 (min st ((Ser.runs 65536 l).length : Int)))) ?body3 ?m13 ?m23 ?qx3 ?fin3
        case body3 =>
          rintro y pre x W ⟨hg, hb, hlt⟩ hN
          simp only [List.zip_toArray, List.zip_cons_cons, List.zip_nil_left, List.foldl_toArray, List.foldl_cons, List.foldl_nil, List.setIfInBounds_toArray, List.set_cons_succ, List.set_cons_zero]
          have hst2 : Boxed W (b + 1) 3 (.int .i64 st) := (hg.block _ hstY.lt (by simp; omega)).trans hstY
          have hc := hb.cell
          have hf1 := hb.frozen
          have hb' := hb.set (.int .i64 ((pre.length : Int) + 1))
          have hst3 := (hst2.kept (grownBy_setCell' W c0 (.int .i64 ((pre.length : Int) + 1))) (by simp; omega)).cell
          have hc' := hb'.cell
          have hlen : ((pre ++ [x]).length : Int) = (pre.length : Int) + 1 := by simp
          have HG := grown_same hg (grownBy_setCell' W c0 (.int .i64 ((pre.length : Int) + 1)))
          have HK : KpR X.heap.size Y.heap.size W (W.setCell ⟨c0, 0, none⟩ (.int .i64 ((pre.length : Int) + 1))) := KpR.grown (grownBy_setCell' W c0 _) hg.size (fun r e => by cases e; omega)
          by_cases hq : (pre.length : Int) + 1 = st
          · subst hq
            gi_wp2
            exact ⟨KeepsOthers.setCell _ _ _, rfl, HG, by rw [hlen]; exact hb', hlen⟩
          · have hqb : ((pre.length : Int) + 1 == st) = false := by simp [hq]
            gi_wp2
            exact ⟨KeepsOthers.setCell _ _ _, HK, HG, by rw [hlen]; exact hb', by rw [hlen]; omega⟩
        case m13 =>
          rintro xs Z hxs ⟨hg, hb, hlt⟩
          refine ⟨hg, ?_⟩
          have h := congrArg List.length hxs
          rw [List.length_map] at h
          have : (xs.length : Int) = min st ((Ser.runs 65536 l).length : Int) := by omega
          rw [← this]; exact hb
        case m23 =>
          rintro pre Z ⟨_, hpre⟩ ⟨hg, hb, hlt⟩
          refine ⟨hg, ?_⟩
          have h := hpre.length_le
          rw [List.length_map] at h
          have : (pre.length : Int) = min st ((Ser.runs 65536 l).length : Int) := by omega
          rw [← this]; exact hb
        case qx3 => exact fun a' W h => by simpa [Exit.inBlock] using h
        case fin3 =>
          rintro D3 Z hD3 ⟨hg, hbC⟩ hK3
          have hstZ0 : Boxed Z (b + 1) 3 (.int .i64 st) := (hg.block _ hstY.lt (by simp; omega)).trans hstY
          have hstZ := hstZ0.cell
          have hbZ0 : Boxed Z (b + 2) 3 (.int .i64 (min st (max 0 n))) := (hg.block _ hbY.lt (by simp; omega)).trans hbY
          have hbZ := hbZ0.cell
          have C1Z0 : Boxed Z (c0 + 1) 3 (.int .i64 ((Ser.runs 65536 l).length : Int)) := (hg.block _ C1Y.lt (by simp)).trans C1Y
          have C1Z := C1Z0.cell
          have C0Z := hbC.cell
          have hKZ : Z.heap[D]? = some (.deferred (some [])) := (hg.block D (by omega) (by simp; omega)).trans hKY
          have hK2Z : Z.heap[D2]? = some (.deferred (some [])) := (hg.block D2 (by omega) (by simp; omega)).trans hK2Y
          have hEZ : Ext w Z := ⟨hg.os.trans hEY.os, hg.tape.trans hEY.tape, hg.output.trans hEY.output, Nat.le_trans hEY.size hg.size, fun k hk => (hg.block k (Nat.lt_of_lt_of_le hk hEY.size) (by simp; omega)).trans (hEY.block k hk)⟩
          generalize (Ser.runs 65536 l).length = R at *
          have k2 : (Z.putObj D3 (.deferred none)).heap[D2]? = some (.deferred (some [])) := (World.putObj_heap_other (by omega)).trans hK2Z
          have k1 : ((Z.putObj D3 (.deferred none)).putObj D2 (.deferred none)).heap[D]? = some (.deferred (some [])) := (World.putObj_heap_other (by omega)).trans ((World.putObj_heap_other (by omega)).trans hKZ)
          have hfin : Below b w (((Z.putObj D3 (.deferred none)).putObj D2 (.deferred none)).putObj D (.deferred none)) := by
            have e0 : Below b w Z := by rw [← hb0]; exact hEZ
            exact ((e0.trans (belowK_b (w := w) (by omega) Z D3 _ _ (by omega) hK3 rfl rfl)).trans (belowK_b (w := w) (by omega) _ D2 _ _ (by omega) k2 rfl rfl)).trans (belowK_b (w := w) (by omega) _ D _ _ (by omega) k1 rfl rfl)
          gi_wp2
          all_goals refine ⟨by simp, .inl ⟨_, _, rfl, run_takeDeferred hK3, ?_⟩⟩
          all_goals refine ⟨by simp, .inl ⟨_, _, rfl, run_takeDeferred k2, ?_⟩⟩
          all_goals refine ⟨by simp, .inl ⟨_, _, rfl, run_takeDeferred k1, ?_⟩⟩
          all_goals refine ⟨_, results_tmp rfl _ _ _, ?_, hfin⟩
          all_goals simp
          all_goals omega
end Go.Proofs.Ytmfkedkkkmnmmaa
