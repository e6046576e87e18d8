/- The iterator over all numbers and things of a row. No condition of its own. -/
import Derived.Test.YtbongjdflnefmaaDeep
namespace Go.Proofs.Ytbongjdflnefmaa
open Go Go.RowKit Go.Shelf
set_option linter.unusedVariables false
set_option linter.unusedSimpArgs false
set_option maxRecDepth 100000
attribute [local go_sem] Oper.semAt_some

/-- The thing at a place. -/
def thing (L : List Int) (x : Nat) : Int := L.getD x 0
/-- A row that may be read: what its calls answer, wherever these blocks lie as they lay. -/
structure Reads (S : Nat → Prop) (r : Value) (f : Int) (L : List Int) (Good : World → Prop) : Prop where
  keep : ∀ W W', Good W → KpS S W W' → Good W'
  from_ : ∀ W, Good W → Calls Try.prog 15 #[r] W fun e w' => e = .returned (.int .u32 f) ∧ w' = W
  len : ∀ W, Good W → Calls Try.prog 18 #[r] W fun e w' => e = .returned (.int .i64 (L.length : Int)) ∧ w' = W
  at_ : ∀ W, Good W → ∀ x : Fin L.length, Calls Try.prog 23 #[r, .int .u32 ((f + (x.1 : Int)) % 4294967296)] W fun e w' => e = .returned (.tuple #[.int .i64 (thing L x.1), .bool true]) ∧ ∃ q, w' = W.drewN q
  hf : Of 4294967296 f
  hL : L.length ≤ 1024

/-- The iterator over a range, made since Wa. -/
def RangeAt (Wa wx : World) (v : Value) (f : Int) (c : Nat) : Prop := ∃ bn bf : Nat, v = .func (.func 46) #[] #[.pointer (some ⟨bn, 0, none⟩), .pointer (some ⟨bf, 0, none⟩)] ∧ Boxed wx bn 3 (.int .i64 (c : Int)) ∧ Boxed wx bf 22 (.int .u32 f) ∧ Wa.heap.size ≤ bf ∧ bn = bf + 1
theorem RangeAt.ext {Wa wx wy : World} {v : Value} {f : Int} {c : Nat} (h : RangeAt Wa wx v f c) (he : Ext wx wy) : RangeAt Wa wy v f c := by
  obtain ⟨bn, bf, e, h1, h2, h3⟩ := h
  exact ⟨bn, bf, e, block_ext he h1, block_ext he h2, h3⟩

set_option maxHeartbeats 400000 in
theorem all_call (o : Option Addr) (w : World) :
    Calls Try.prog 22 #[.pointer o] w fun e w' => e = .returned (.func (.func 39) #[] #[.pointer (some ⟨w.heap.size, 0, none⟩)]) ∧ w' = w.alloc (.cells #[.pointer o] 27) := by
  go_enter Try.func22, Try.ntmps22
  go_wp2
  go_ret
  exact ⟨rfl, rfl⟩
theorem round_in {P : Program} {y l m m' : Nat} {f : FuncId} {tmps : Array Value} {assign body : Code} {w : World} {R : Ending → World → Prop} (h : RoundIn Fence.wide m P l f tmps assign body w R) : RoundIn (Fence.wide.inRound y) m' P l f tmps assign body w R :=
  ⟨h.1, fun c cs _ => h.2 c cs (room_wide _)⟩

set_option maxHeartbeats 2000000 in
theorem all_deep {S : Nat → Prop} {rv : Value} {f : Int} {L : List Int} {Good : World → Prop} (hR0 : Reads S rv f L Good) (br : Nat) (w : World) (hS : ∀ k, S k → k < w.heap.size) (hbr : S br) (hb0 : Boxed w br 27 rv) (hg0 : Good w) :
    SeqDeep Try.prog 39 #[.pointer (some ⟨br, 0, none⟩)] (fun x : Fin L.length => #[Value.int .u32 ((f + (x.1 : Int)) % 4294967296), Value.int .i64 (thing L x.1)]) (KpS S) (fun ys => ys = List.finRange L.length) (fun pre => pre ≠ [] ∧ pre <+: List.finRange L.length) L.length w := by
  intro n l J Jx W hn hW hJ hJx hY h0
  have hro : Fence.wide.round = none := rfl
  have hF : ∀ k, Fence.wide.fn k := fun _ => trivial
  have hKW : KpS S w W := fun k hk => hW.block k (hS k hk)
  have hSW : ∀ k, S k → k < W.heap.size := fun k hk => Nat.lt_of_lt_of_le (hS k hk) hW.size
  have hbW : Boxed W br 27 rv := (hKW br hbr).trans hb0
  have hgW : Good W := hR0.keep _ _ hg0 hKW
  refine callsIn_of_wp_marks Try.func39 rfl (hF 39) ?_ hro
  simp only [Try.ntmps39, List.size_toArray, List.length_cons, List.length_nil, Nat.reduceAdd, Nat.reduceSub, Array.replicate_succ, Array.replicate_zero, List.push_toArray, List.append_toArray, List.nil_append, List.cons_append]
  gi_wp2_with fail
  obtain ⟨Wa, hWa⟩ : ∃ Wa, W.alloc (.cells #[.func (.yield l) #[] #[]] 82) = Wa := ⟨_, rfl⟩
  have hya : Boxed Wa W.heap.size 82 (.func (.yield l) #[] #[]) := by rw [← hWa]; exact Boxed.new _ _ _
  have hEa : Ext W Wa := by rw [← hWa]; exact Ext.alloc _ _
  have hJa : J [] Wa := by rw [← hWa]; exact hJ.alloc _ h0
  rw [hWa]
  have HB : ∀ {wx : World}, Ext Wa.drew wx → Boxed wx br 27 rv := fun hx => block_ext ((hEa.trans (Ext.drew _)).trans hx) hbW
  have HG : ∀ {wx : World}, Ext Wa.drew wx → Good wx := fun hx => hR0.keep _ _ hgW fun k hk => ((hEa.trans (Ext.drew _)).trans hx).block k (hSW k hk)
  clear hWa
  refine wpIn_wide.2 ?_
  refine wp_region_facts (fun t => bif Nat.ble 6 t && Nat.ble t 10 then some (t - 6) else none) 26 Ext
    [Is rv,
     Is (.int .u32 f),
     Is rv,
     Is (.int .i64 (L.length : Int)),
     (fun wx v => RangeAt Wa wx v f L.length)]
    rfl (by kernel_rfl) (by kernel_rfl) rfl Ext.refl (fun _ _ _ => Ext.trans) ?_ ?_ ?_
  · exact KeepAll.is (KeepAll.is (KeepAll.is (KeepAll.is (KeepAll.cons (fun _ _ _ he h => h.ext he) (KeepAll.nil)))))
  · refine GoodAll.cons ?_ ?_
    · intro r wx hR hx
      obtain ⟨h1, _⟩ := hx
      replace h1 : r (.tmp 1) = (.pointer (some ⟨br, 0, none⟩)) := h1
      exact give_of (by simp [execOp, h1, go_sem, (HB hR).cell]) ⟨Ext.refl _, rfl⟩
    refine GoodAll.cons ?_ ?_
    · intro r wx hR hx
      obtain ⟨h1, h2, _⟩ := hx
      replace h1 : r (.func 15) = .func (.func 15) #[] #[] := h1
      replace h2 : r (.tmp 6) = rv := h2
      refine give_func #[rv] rfl h1 Try.call15 (by simp [h2]) ?_
      refine (hR0.from_ _ (HG hR)).mono ?_
      rintro e w' ⟨rfl, rfl⟩
      exact ⟨_, rfl, Ext.refl _, rfl⟩
    refine GoodAll.cons ?_ ?_
    · intro r wx hR hx
      obtain ⟨h1, _⟩ := hx
      replace h1 : r (.tmp 1) = (.pointer (some ⟨br, 0, none⟩)) := h1
      exact give_of (by simp [execOp, h1, go_sem, (HB hR).cell]) ⟨Ext.refl _, rfl⟩
    refine GoodAll.cons ?_ ?_
    · intro r wx hR hx
      obtain ⟨h1, h2, _⟩ := hx
      replace h1 : r (.func 18) = .func (.func 18) #[] #[] := h1
      replace h2 : r (.tmp 8) = rv := h2
      refine give_func #[rv] rfl h1 Try.call18 (by simp [h2]) ?_
      refine (hR0.len _ (HG hR)).mono ?_
      rintro e w' ⟨rfl, rfl⟩
      exact ⟨_, rfl, Ext.refl _, rfl⟩
    refine GoodAll.cons ?_ ?_
    · intro r wx hR hx
      obtain ⟨h1, h2, h3, _⟩ := hx
      replace h1 : r (.func 40) = .func (.func 40) #[] #[] := h1
      replace h2 : r (.tmp 7) = (.int .u32 f) := h2
      replace h3 : r (.tmp 9) = (.int .i64 (L.length : Int)) := h3
      refine give_func #[.int .u32 f, .int .i64 (L.length : Int)] rfl h1 Try.call40 (by simp [h2, h3]) ?_
      refine (range_call _ _ _).mono ?_
      rintro e w' ⟨rfl, rfl⟩
      exact ⟨_, rfl, (Ext.alloc _ _).trans (Ext.alloc _ _), wx.heap.size + 1, wx.heap.size, rfl, two_b1 (Ext.refl _), two_b0 (Ext.refl _), hR.size, rfl⟩
    exact GoodAll.nil
  · intro vs w5 a5 hR hold ha
    have hv0 : vs 0 = rv := hold.at 0
    have hv1 : vs 1 = (.int .u32 f) := hold.at 1
    have hv2 : vs 2 = rv := hold.at 2
    have hv3 : vs 3 = (.int .i64 (L.length : Int)) := hold.at 3
    obtain ⟨bn, bf, hv4, hcn, hcf, hlo, rfl⟩ : RangeAt Wa w5 (vs 4) f L.length := hold.at 4
    simp only [putAll, Act.put, hv0, hv1, hv2, hv3, hv4, List.setIfInBounds_toArray, List.set_cons_succ, List.set_cons_zero] at ha
    subst ha
    clear hold hv0 hv1 hv2 hv3 hv4
    refine ‹∀ (a : Act) (w : World), Code.wpIn Fence.wide n Try.prog _ _ a w → _› _ _ ?_
    have hE5 : Ext Wa w5 := (Ext.drew _).trans hR
    have hy5 : Boxed w5 W.heap.size 82 (.func (.yield l) #[] #[]) := block_ext hE5 hya
    have hb5 : Boxed w5 br 27 rv := HB hR
    have hg5 : Good w5 := HG hR
    have hsa : W.heap.size < Wa.heap.size := hya.lt
    have hbn5 : bf + 1 < w5.heap.size := hcn.lt
    have hJ5 : J [] w5 := hJ [] Wa w5 none hJa ⟨hE5.os, hE5.tape, hE5.output, hE5.size, fun k hk _ => hE5.block k hk⟩ (fun _ h => by cases h)
    clear HB HG hR
    gi_wp2_with fail
    generalize ha0 : Act.mk _ _ = a0
    refine wpIn_rangeFunc_ownG hro (by omega) (gf := 46) (lb := #[.pointer (some ⟨bf + 1, 0, none⟩), .pointer (some ⟨bf, 0, none⟩)]) (by rw [← ha0]; rfl) (hF 46) (enters_of Try.func46 (by kernel_rfl) rfl)
      (range_stops (n - 1) (by omega) (bf + 1) bf bf (bf + 2) f L.length hR0.hf hR0.hL w5 (by omega) (by omega) hcn hcf) (fun h k => h.t k) (KpR.b (by omega)) (Below.refl _ _) (fun _ => rfl)
      (fun pre X => J pre X ∧ Boxed X W.heap.size 82 (.func (.yield l) #[] #[]) ∧ Boxed X br 27 rv ∧ Good X ∧ bf + 2 ≤ X.heap.size)
      (fun c pre X => c = .ret ∧ Jx pre X)
      (fun s A B row hs hg hr => ⟨hJ s A B row hs.1 hg (fun k e => ⟨by have := (hr k e).1; have := hE5.size; omega, (hr k e).2⟩),
        hs.2.1.kept hg (fun e => by have := (hr _ e.symm).1; have := hE5.size; omega), hs.2.2.1.kept hg (fun e => by have := (hr _ e.symm).1; have := hE5.size; have := hSW br hbr; omega),
        hR0.keep _ _ hs.2.2.2.1 (fun k hk => hg.block k (by have := hs.2.1.lt; have := hSW k hk; omega) (fun e => by have := (hr _ e.symm).1; have := hE5.size; have := hSW k hk; omega)), Nat.le_trans hs.2.2.2.2 hg.size⟩)
      (fun c s A B row hs hg hr => ⟨hs.1, hJx s A B row hs.2 hg (fun k e => ⟨by have := (hr k e).1; have := hE5.size; omega, (hr k e).2⟩)⟩)
      ⟨hJ5, hy5, hb5, hg5, by omega⟩
      (fun x => { tmps := (a0.tmps.setIfInBounds 11 (.int .u32 ((f + (x.1 : Int)) % 4294967296))).setIfInBounds 3 (.int .u32 ((f + (x.1 : Int)) % 4294967296)), defers := [] }) ?assign ?body ?done ?stop
    case assign =>
      intro y x X K hK
      subst ha0
      rw [fold1]
      simp only [List.setIfInBounds_toArray, List.set_cons_succ, List.set_cons_zero] at hK ⊢
      gi_wp2
      exact hK
    case body =>
      rintro y pre x X ⟨hj, hyx, hbx, hgx, hbX2⟩ hN
      subst ha0
      simp only [List.setIfInBounds_toArray, List.set_cons_succ, List.set_cons_zero]
      have cy := hyx.cell
      have cb := hbx.cell
      have hxl := x.2
      have hsX := hyx.lt
      have hn3 : 1 ≤ n - 1 - 1 := by omega
      have hn4 : 1 ≤ n - 1 - 1 - 1 := by omega
      gi_wp2_with fail
      refine (CallsIn.inRound y (callsIn_wide.2 (hR0.at_ _ hgx x))).mono ?_
      rintro e w' ⟨rfl, q, rfl⟩
      have hjq : J pre (X.drewN q) := hJ pre X _ none hj ⟨rfl, rfl, rfl, Nat.le_refl _, fun _ _ _ => rfl⟩ (fun _ h => by cases h)
      obtain ⟨fn, tmps, assign, body, hy, hRd⟩ := hY pre x (X.drewN q) hjq hN
      gi_wp2
      refine (round_in hRd).mono ?_
      rintro e W3 ⟨hka, (⟨rfl, hJ3, hk3⟩ | ⟨rfl, hJx3⟩)⟩
      · gi_wp2
        exact ⟨⟨hka.size, fun k o hB hk _ => (hka.same k (by have := hE5.size; omega) (Array.getElem?_eq_some_iff.1 hk).1).trans hk⟩, fun k h1 h2 => hka.same k (by omega) (by have := hbX2; simp; omega), hJ3, (hka.same _ (Nat.le_refl _) hsX).trans hyx, (hk3 br hbr).trans hbx, hR0.keep _ _ hgx hk3, Nat.le_trans hbX2 hka.size⟩
      · gi_wp2
        exact ⟨⟨hka.size, fun k o hB hk _ => (hka.same k (by have := hE5.size; omega) (Array.getElem?_eq_some_iff.1 hk).1).trans hk⟩, rfl, hJx3⟩
    case done =>
      rintro D ys X hD hS ⟨hj, _⟩ hK
      subst ha0
      gi_wp2
      refine ⟨by simp, .inl ⟨_, _, rfl, run_takeDeferred hK, ?_⟩⟩
      exact ⟨_, results_none rfl _ _ _, ⟨_, rfl⟩, .inl ⟨_, hS, hJ.putObj _ hj (by have := hE5.size; omega) hK rfl⟩⟩
    case stop =>
      rintro D c pre X hD hSp ⟨rfl, hjx⟩ hK
      subst ha0
      gi_wp2
      refine ⟨by simp, .inl ⟨_, _, rfl, run_takeDeferred hK, ?_⟩⟩
      exact ⟨_, results_none rfl _ _ _, ⟨_, rfl⟩, .inr ⟨_, hSp, hJx.putObj _ hjx (by have := hE5.size; omega) hK rfl⟩⟩
end Go.Proofs.Ytbongjdflnefmaa
