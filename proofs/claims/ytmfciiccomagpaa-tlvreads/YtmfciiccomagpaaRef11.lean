/- Noughts that the document's reader passes over. No condition of its own. -/
import Derived.Test.YtmfciiccomagpaaRef10
namespace Go.Proofs.Ytmfciiccomagpaa
namespace Tlv
open Go Go.RowKit
set_option linter.unusedVariables false
set_option linter.unusedSimpArgs false
set_option maxRecDepth 100000


/-- A reader's state. -/
def stS (a : Nat) (b : Bool) : Option Nat := if b = true then none else some a
/-- What ReadPad's loop keeps. -/
structure PadAt (w wr : World) (ib rb : Nat) (bv : Value) (B : List Nat) (a : Nat) (b : Bool) (s : Option Nat) : Prop where
  box : Blk wr ib #[bv, .int .i64 (a : Int), .bool b] 40
  res : Blk wr rb #[.slice none 0 0, .int .i64 0, .bool false] 40
  ext : Ext w wr
  le : a ≤ B.length
  st : padS B (stS a b) = s
/-- What ReadPad leaves. -/
def PadIs (w : World) (bv : Value) (B : List Nat) (s : Option Nat) (e : Ending) (w' : World) : Prop :=
  ∃ v', e = .returned v' ∧ RefV v' bv B s ∧ Ext w w'
theorem tmod4 (a : Nat) : (a : Int).tmod 4 = ((a % 4 : Nat) : Int) := rfl
/-- A round's number. -/
def RoundIs (w : World) (bv : Value) (B : List Nat) (a : Nat) (s : Option Nat) (b2 : Bool) (n : Nat) (e : Ending) (w' : World) : Prop :=
  ∃ a2 : Nat, e = .returned (.tuple #[.agg #[bv, .int .i64 (a2 : Int), .bool b2], .int .u64 (n : Nat)]) ∧ Hid (a2 ≤ B.length ∧ padS B (stS a2 (b2 || !decide (n = 0))) = s ∧ (if (b2 || !decide (n = 0)) = true then 0 else B.length + 5 - a2) < B.length + 5 - a) ∧ Ext w w'
theorem round_is {w : World} {bv : Value} {B : List Nat} {a : Nat} {e : Ending} {w' : World} (h4 : a % 4 ≠ 0) (hle : a ≤ B.length) :
    ∃ b2 n, ∀ e w', NumIs w bv B (numS B (some a) 1) e w' → RoundIs w bv B a (padS B (some a)) b2 n e w' := by
  by_cases hlt : a < B.length
  · refine ⟨false, B.getD a 0, fun e w' h => ?_⟩
    rw [numS1_yes hlt] at h
    obtain ⟨v2, rfl, ⟨a2, b2, rfl, ha2, hs2⟩, he2⟩ := h
    cases b2 with
    | true => cases hs2
    | false =>
      have : a2 = a + 1 := by simpa using hs2.symm
      subst this
      refine ⟨_, rfl, ⟨ha2, ?_, ?_⟩, he2⟩
      · by_cases hz : B.getD a 0 = 0
        · rw [hz]; exact (padS_step h4 hlt hz).symm
        · rw [Bool.false_or, decide_eq_false hz]; exact (padS_bad h4 hlt hz).symm
      · split <;> omega
  · refine ⟨true, 0, fun e w' h => ?_⟩
    rw [numS1_no (by omega)] at h
    obtain ⟨v2, rfl, ⟨a2, b2, rfl, ha2, hs2⟩, he2⟩ := h
    cases b2 with
    | false => cases hs2
    | true => exact ⟨_, rfl, ⟨ha2, (padS_out h4 (by omega)).symm, by simp; omega⟩, he2⟩

set_option maxHeartbeats 4000000 in
theorem refReadPad_any {w : World} {v bv : Value} {B : List Nat} {s : Option Nat} (hv : RefV v bv B s) (hb : BytesAt w bv B) (hB : B.length ≤ 1000000) :
    Calls Try.prog 21 #[v] w (PadIs w bv B (padS B s)) := by
  obtain ⟨a0, b0, hv0, ha0, hs0⟩ := hv
  have HN : Hid (∀ (a : Nat) (w' : World), a ≤ B.length → Ext w w' → Calls Try.prog 16 #[.agg #[bv, .int .i64 (a : Int), .bool false], .int .i64 1] w' (NumIs w' bv B (numS B (some a) 1))) := fun a w' ha he => refReadNum_any ⟨a, false, rfl, ha, rfl⟩ (hb.ext he) hB 1
  obtain ⟨ba, bc, rfl, _, _⟩ := hb.form
  rename_i z1 z2
  clear z1 z2
  have hbv1 : (Value.slice ba B.length bc).oneCell' = true := rfl
  clear hb
  subst hv0
  have HS0 : Hid (padS B (stS a0 b0) = padS B s) := by rw [hs0]; exact (rfl : padS B (stS a0 b0) = padS B (stS a0 b0))
  have HL : Hid (B.length ≤ 1000000) := hB
  generalize padS B s = s1 at *
  clear hs0 hB
  go_enter Try.func21, Try.ntmps21
  go_wp2_with (first
    | (refine wl_box (C := #[.slice ba B.length bc, .int .i64 (a0 : Int), .bool b0]) rfl rfl rfl ?_; intro w1 hb1 he1 hx; clear hx)
    | (refine wl_alloc rfl rfl zeroI ?_; intro w2 hb2 he2 hx; clear hx))
  have HP : Hid (PadAt w w2 w.heap.size w1.heap.size (.slice ba B.length bc) B a0 b0 s1) := ⟨hb1.ext he2, hb2, he1.trans he2, ha0, HS0.out⟩
  have HIR : Hid (w.heap.size < w1.heap.size) := hb1.lt
  clear hb1 he1 hb2 he2 ha0 HS0
  simp only [Act.put, List.setIfInBounds_toArray, List.set_cons_succ, List.set_cons_zero]
  go_loopg [3, 4] (if b0 = true then 0 else B.length + 5 - a0) (fun gm x y wr => ∃ (a : Nat) (b : Bool), gm = (if b = true then 0 else B.length + 5 - a) ∧ Hid (PadAt w wr w.heap.size w1.heap.size (.slice ba B.length bc) B a b s1))
  case atStart => exact ⟨a0, b0, rfl, HP.out⟩
  case round =>
    obtain ⟨a, b, rfl, HR⟩ := hrel
    cases b with
    | true =>
      have c2 := HR.out.box.cell 2
      have HE : Hid (s1 = none) := HR.out.st.symm
      go_wp2_with (first
        | (refine wl_load rfl rowI rfl rfl HR.out.box rfl ?_)
        | (refine wl_store (D := #[.slice ba B.length bc, .int .i64 (a : Int), .bool true]) rfl rowI rfl rfl rfl HR.out.res rfl rfl (one_in _ _ _ hbv1) ?_; intro w6 hb6 hk6 hx; clear hx))
      refine bodyPost_ret (v := .agg #[.slice ba B.length bc, .int .i64 (a : Int), .bool true]) (results_cell_row (fn := Try.f21) (p := 2) (by rfl) _ _ w1.heap.size 40 _ (0, 0) _ rfl hb6 Try.underlying40 rfl rfl) rfl ?_
      exact ⟨_, rfl, ⟨a, true, rfl, HR.out.le, HE.out⟩, HR.out.ext.of_but hk6 (fun k e => by subst e; exact Nat.le_of_lt HIR.out)⟩
    | false =>
      have c1 := HR.out.box.cell 1
      have c2 := HR.out.box.cell 2
      have ha6 : a ≤ 1000000 := Nat.le_trans HR.out.le HL.out
      by_cases h4 : a % 4 = 0
      · have HE : Hid (s1 = some a) := by rw [← HR.out.st]; exact padS_zero h4 HR.out.le
        have hd : IntKind.i64.wrap ((a : Int).tmod 4) = 0 := by rw [tmod4, h4]; rfl
        have hd2 : (a : Int).tmod 4 = 0 := by rw [tmod4, h4]; rfl
        go_wp2_with (first
          | (refine wl_load rfl rowI rfl rfl HR.out.box rfl ?_)
          | (refine wl_store (D := #[.slice ba B.length bc, .int .i64 (a : Int), .bool false]) rfl rowI rfl rfl rfl HR.out.res rfl rfl (one_in _ _ _ hbv1) ?_; intro w6 hb6 hk6 hx; clear hx))
        refine bodyPost_ret (v := .agg #[.slice ba B.length bc, .int .i64 (a : Int), .bool false]) (results_cell_row (fn := Try.f21) (p := 2) (by rfl) _ _ w1.heap.size 40 _ (0, 0) _ rfl hb6 Try.underlying40 rfl rfl) rfl ?_
        exact ⟨_, rfl, ⟨a, false, rfl, HR.out.le, HE.out⟩, HR.out.ext.of_but hk6 (fun k e => by subst e; exact Nat.le_of_lt HIR.out)⟩
      · obtain ⟨q, hq⟩ : ∃ q : Nat, q = a % 4 := ⟨_, rfl⟩
        have hd0 : (a : Int).tmod 4 = (q : Int) := by rw [tmod4, hq]
        have hq4 : q < 4 := by omega
        have hq0 : q ≠ 0 := by omega
        have hd1 : decide ((q : Int) = 0) = false := decide_eq_false (by omega)
        have hd2 : ((q : Int) == 0) = false := beq_false_of_ne (by omega)
        have hd3 : wrap64 (q : Int) = (q : Int) := by unfold wrap64; omega
        have hd4 : decide (q = 0) = false := decide_eq_false hq0
        obtain ⟨b2, n, hRI⟩ := round_is (w := wr) (bv := .slice ba B.length bc) (e := .returned undef) (w' := wr) h4 HR.out.le
        have hp : padS B (some a) = s1 := HR.out.st
        rw [hp] at hRI
        have HX : Hid (Calls Try.prog 16 #[.agg #[.slice ba B.length bc, .int .i64 (a : Int), .bool false], .int .i64 1] wr (RoundIs wr (.slice ba B.length bc) B a s1 b2 n)) := (HN.out a wr HR.out.le HR.out.ext).mono hRI
        clear hq h4 hRI hp
        have hz : True := trivial
        cases b2 with
        | true =>
          go_wp2_with (first
            | (refine wl_load rfl rowI rfl rfl HR.out.box rfl ?_)
            | (go_at_call 16; refine HX.out.mono ?_; rintro e w2 ⟨a2, rfl, HA2, he2⟩)
            | (refine wl_alloc rfl rfl zeroI ?_; intro w3 hb3 he3 hx; clear hx; have HB3 : Hid (Blk w3 w.heap.size #[.slice ba B.length bc, .int .i64 (a : Int), .bool false] 40 ∧ Blk w3 w1.heap.size #[.slice none 0 0, .int .i64 0, .bool false] 40 ∧ Ext w w3 ∧ w.heap.size < w2.heap.size ∧ w1.heap.size < w2.heap.size) := ⟨(HR.out.box.ext he2).ext he3, (HR.out.res.ext he2).ext he3, (HR.out.ext.trans he2).trans he3, Nat.lt_of_lt_of_le HR.out.box.lt he2.size, Nat.lt_of_lt_of_le HR.out.res.lt he2.size⟩)
            | (refine wl_store (D := #[.slice ba B.length bc, .int .i64 (a2 : Int), .bool true]) rfl rowI rfl rfl rfl hb3 rfl rfl (one_in _ _ _ hbv1) ?_; intro w4 hb4 hk4 hx; clear hx; clear hb3)
            | (refine wl_load rfl rowI rfl rfl hb4 rfl ?_)
            | (refine wl_store (D := #[.slice ba B.length bc, .int .i64 (a2 : Int), .bool true]) rfl rowI rfl rfl rfl (HB3.out.1.but hk4 (show ¬ _ = _ by have := HB3.out; omega)) rfl rfl (one_in _ _ _ hbv1) ?_; intro w5 hb5 hk5 hx; clear hx; have d2 := hb5.cell 2; have HB5 : Hid (Blk w5 w.heap.size #[.slice ba B.length bc, .int .i64 (a2 : Int), .bool true] 40 ∧ Blk w5 w1.heap.size #[.slice none 0 0, .int .i64 0, .bool false] 40 ∧ Ext w w5) := ⟨hb5, (HB3.out.2.1.but hk4 (show ¬ _ = _ by have := HB3.out; omega)).but hk5 (show ¬ _ = _ by have := HIR.out; omega), (HB3.out.2.2.1.of_but hk4 (fun k e => by subst e; exact Nat.le_of_lt HB3.out.2.2.2.1)).of_but hk5 (fun k e => by subst e; exact Nat.le_refl _)⟩; clear hb5 hb4)
            | (refine wl_set (v := .bool true) rfl one4 rfl rfl (by first | rfl | simp [go_sem, hz]) rfl rfl HB5.out.1 (by simp) ?_; intro w6 hb6 hk6 hx; clear hx))
          go_roundg (if true = true then 0 else B.length + 5 - a2)
          case measure => have := HA2.out.2.2; simpa [hz] using this
          case rel => exact ⟨a2, true, rfl, hb6, HB5.out.2.1.but hk6 (show ¬ _ = _ by have := HIR.out; omega), HB5.out.2.2.of_but hk6 (fun k e => by subst e; exact Nat.le_refl _), HA2.out.1, by have := HA2.out.2.1; simpa [hz] using this⟩
        | false =>
          by_cases hz : n = 0
          · subst hz
            go_wp2_with (first
              | (refine wl_load rfl rowI rfl rfl HR.out.box rfl ?_)
              | (go_at_call 16; refine HX.out.mono ?_; rintro e w2 ⟨a2, rfl, HA2, he2⟩)
              | (refine wl_alloc rfl rfl zeroI ?_; intro w3 hb3 he3 hx; clear hx; have HB3 : Hid (Blk w3 w.heap.size #[.slice ba B.length bc, .int .i64 (a : Int), .bool false] 40 ∧ Blk w3 w1.heap.size #[.slice none 0 0, .int .i64 0, .bool false] 40 ∧ Ext w w3 ∧ w.heap.size < w2.heap.size ∧ w1.heap.size < w2.heap.size) := ⟨(HR.out.box.ext he2).ext he3, (HR.out.res.ext he2).ext he3, (HR.out.ext.trans he2).trans he3, Nat.lt_of_lt_of_le HR.out.box.lt he2.size, Nat.lt_of_lt_of_le HR.out.res.lt he2.size⟩)
              | (refine wl_store (D := #[.slice ba B.length bc, .int .i64 (a2 : Int), .bool false]) rfl rowI rfl rfl rfl hb3 rfl rfl (one_in _ _ _ hbv1) ?_; intro w4 hb4 hk4 hx; clear hx; clear hb3)
              | (refine wl_load rfl rowI rfl rfl hb4 rfl ?_)
              | (refine wl_store (D := #[.slice ba B.length bc, .int .i64 (a2 : Int), .bool false]) rfl rowI rfl rfl rfl (HB3.out.1.but hk4 (show ¬ _ = _ by have := HB3.out; omega)) rfl rfl (one_in _ _ _ hbv1) ?_; intro w5 hb5 hk5 hx; clear hx; have d2 := hb5.cell 2; have HB5 : Hid (Blk w5 w.heap.size #[.slice ba B.length bc, .int .i64 (a2 : Int), .bool false] 40 ∧ Blk w5 w1.heap.size #[.slice none 0 0, .int .i64 0, .bool false] 40 ∧ Ext w w5) := ⟨hb5, (HB3.out.2.1.but hk4 (show ¬ _ = _ by have := HB3.out; omega)).but hk5 (show ¬ _ = _ by have := HIR.out; omega), (HB3.out.2.2.1.of_but hk4 (fun k e => by subst e; exact Nat.le_of_lt HB3.out.2.2.2.1)).of_but hk5 (fun k e => by subst e; exact Nat.le_refl _)⟩; clear hb5 hb4)
              | (refine wl_set (v := .bool false) rfl one4 rfl rfl (by first | rfl | simp [go_sem, hz]) rfl rfl HB5.out.1 (by simp) ?_; intro w6 hb6 hk6 hx; clear hx))
            go_roundg (if false = true then 0 else B.length + 5 - a2)
            case measure => have := HA2.out.2.2; simpa [hz] using this
            case rel => exact ⟨a2, false, rfl, hb6, HB5.out.2.1.but hk6 (show ¬ _ = _ by have := HIR.out; omega), HB5.out.2.2.of_but hk6 (fun k e => by subst e; exact Nat.le_refl _), HA2.out.1, by have := HA2.out.2.1; simpa [hz] using this⟩
          · have hz1 : decide ((n : Int) = 0) = false := decide_eq_false (by omega)
            have hz2 : ((n : Int) == 0) = false := beq_false_of_ne (by omega)
            have hz3 : decide (n = 0) = false := decide_eq_false hz
            go_wp2_with (first
              | (refine wl_load rfl rowI rfl rfl HR.out.box rfl ?_)
              | (go_at_call 16; refine HX.out.mono ?_; rintro e w2 ⟨a2, rfl, HA2, he2⟩)
              | (refine wl_alloc rfl rfl zeroI ?_; intro w3 hb3 he3 hx; clear hx; have HB3 : Hid (Blk w3 w.heap.size #[.slice ba B.length bc, .int .i64 (a : Int), .bool false] 40 ∧ Blk w3 w1.heap.size #[.slice none 0 0, .int .i64 0, .bool false] 40 ∧ Ext w w3 ∧ w.heap.size < w2.heap.size ∧ w1.heap.size < w2.heap.size) := ⟨(HR.out.box.ext he2).ext he3, (HR.out.res.ext he2).ext he3, (HR.out.ext.trans he2).trans he3, Nat.lt_of_lt_of_le HR.out.box.lt he2.size, Nat.lt_of_lt_of_le HR.out.res.lt he2.size⟩)
              | (refine wl_store (D := #[.slice ba B.length bc, .int .i64 (a2 : Int), .bool false]) rfl rowI rfl rfl rfl hb3 rfl rfl (one_in _ _ _ hbv1) ?_; intro w4 hb4 hk4 hx; clear hx; clear hb3)
              | (refine wl_load rfl rowI rfl rfl hb4 rfl ?_)
              | (refine wl_store (D := #[.slice ba B.length bc, .int .i64 (a2 : Int), .bool false]) rfl rowI rfl rfl rfl (HB3.out.1.but hk4 (show ¬ _ = _ by have := HB3.out; omega)) rfl rfl (one_in _ _ _ hbv1) ?_; intro w5 hb5 hk5 hx; clear hx; have d2 := hb5.cell 2; have HB5 : Hid (Blk w5 w.heap.size #[.slice ba B.length bc, .int .i64 (a2 : Int), .bool false] 40 ∧ Blk w5 w1.heap.size #[.slice none 0 0, .int .i64 0, .bool false] 40 ∧ Ext w w5) := ⟨hb5, (HB3.out.2.1.but hk4 (show ¬ _ = _ by have := HB3.out; omega)).but hk5 (show ¬ _ = _ by have := HIR.out; omega), (HB3.out.2.2.1.of_but hk4 (fun k e => by subst e; exact Nat.le_of_lt HB3.out.2.2.2.1)).of_but hk5 (fun k e => by subst e; exact Nat.le_refl _)⟩; clear hb5 hb4)
              | (refine wl_set (v := .bool true) rfl one4 rfl rfl (by first | rfl | simp [go_sem, hz]) rfl rfl HB5.out.1 (by simp) ?_; intro w6 hb6 hk6 hx; clear hx))
            go_roundg (if true = true then 0 else B.length + 5 - a2)
            case measure => have := HA2.out.2.2; simpa [hz] using this
            case rel => exact ⟨a2, true, rfl, hb6, HB5.out.2.1.but hk6 (show ¬ _ = _ by have := HIR.out; omega), HB5.out.2.2.of_but hk6 (fun k e => by subst e; exact Nat.le_refl _), HA2.out.1, by have := HA2.out.2.1; simpa [hz] using this⟩
end Tlv
end Go.Proofs.Ytmfciiccomagpaa
