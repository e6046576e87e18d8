/- Numbers that the document's reader reads. No condition of its own. -/
import Derived.Test.YtmfciiccomagpaaRef8
namespace Go.Proofs.Ytmfciiccomagpaa
namespace Tlv
open Go Go.RowKit
set_option linter.unusedVariables false
set_option linter.unusedSimpArgs false
set_option maxRecDepth 100000


theorem mul_byte (x b : Nat) (hx : x * 256 < 18446744073709551616) (hb : b < 256) : 256 * x + b < 18446744073709551616 := by omega
/-- What ReadNum leaves. -/
def NumIs (w : World) (bv : Value) (B : List Nat) (r : Option Nat × Nat) (e : Ending) (w' : World) : Prop :=
  ∃ v', e = .returned (.tuple #[v', .int .u64 (r.2 : Nat)]) ∧ RefV v' bv B r.1 ∧ Ext w w'

set_option maxHeartbeats 4000000 in
theorem refReadNum_any {w : World} {v bv : Value} {B : List Nat} {s : Option Nat} (hv : RefV v bv B s) (hb : BytesAt w bv B) (hB : B.length ≤ 1000000) (n : Int) :
    Calls Try.prog 16 #[v, .int .i64 n] w (NumIs w bv B (numS B s n)) := by
  have HT : Hid (∀ (x : Value) (w' : World), x = v → Ext w w' → Calls Try.prog 18 #[x, .int .i64 n] w' (TakeIs w' bv B (takeS B s n))) := fun x w' hx he => by subst hx; exact refTake_any hv (hb.ext he) hB n
  obtain ⟨a0, b0, hv0, ha0, hs0⟩ := hv
  have HA : Hid (AllB B) := hb.1
  obtain ⟨ba, bc, rfl, _, _⟩ := hb.form
  rename_i z1 z2
  clear z1 z2
  have hbv1 : (Value.slice ba B.length bc).oneCell' = true := rfl
  clear hb
  subst hv0
  cases hs : isSz n with
  | false =>
    have e : numS B s n = (none, 0) := by unfold numS; rw [hs]; rfl
    have hlen : (numB 0 n).length = 0 := (numB_nil 0 n).2 hs
    rw [e]
    clear e HT hs0
    go_enter Try.func16, Try.ntmps16
    go_wp2_with (first
      | (refine wl_box (C := #[.slice ba B.length bc, .int .i64 (a0 : Int), .bool b0]) rfl rfl rfl ?_; intro w1 hb1 he1 hx; clear hx)
      | (refine wl_alloc rfl rfl zeroI ?_; intro w2 hb2 he2 hx; clear hx)
      | (go_at_call 10; refine (refNum_any 0 n _).mono ?_; rintro e w3 ⟨na, nn, nc, rfl, hnn, ho3, he3⟩; rw [hlen] at hnn; subst hnn)
      | (refine wl_set (v := .bool true) rfl one4 rfl rfl rfl rfl rfl ((hb1.ext he2).ext he3) (by simp) ?_; intro w4 hb4 hk4 hx; clear hx)
      | (have q := hk4; clear q; refine wl_load rfl rowI rfl rfl hb4 rfl ?_)
      | (refine wl_store (D := #[.slice ba B.length bc, .int .i64 (a0 : Int), .bool true]) rfl rowI rfl rfl rfl ((hb2.ext he3).but hk4 (show ¬ _ = _ by have := hb1.lt; omega)) rfl rfl (one_in _ _ _ hbv1) ?_; intro w5 hb5 hk5 hx; clear hx))
    refine bodyPost_ret (res_two (fn := Try.f16) (p := 4) (u := 5) rfl _ _ rfl rfl hb5 Try.underlying40 (by kernel_rfl)) rfl ?_
    exact ⟨_, rfl, ⟨a0, true, rfl, ha0, rfl⟩, (((he1.trans he2).trans he3).of_but hk4 (fun k e => by subst e; exact Nat.le_refl _)).of_but hk5 (fun k e => by subst e; exact he1.size)⟩
  | true =>
    have e : numS B s n = ((takeS B s n).1, val (takeS B s n).2) := by unfold numS; rw [hs]; rfl
    have hlen : (numB 0 n).length ≠ 0 := fun h => by rw [(numB_nil 0 n).1 h] at hs; cases hs
    rw [e]
    have HR : Hid (AllB (takeS B s n).2 ∧ (takeS B s n).2.length ≤ 8) := ⟨takeS_all HA.out s n, takeS_8 (by rcases (isSz_iff n).1 hs with e | e | e | e <;> omega)⟩
    clear e hs0 HA
    obtain ⟨q0, hq0⟩ : ∃ q0, q0 = (numB 0 n).length := ⟨_, rfl⟩
    have hq1 : q0 ≠ 0 := by rw [hq0]; exact hlen
    have HQ0 : Hid (q0 = (numB 0 n).length) := hq0
    have hq2 : ((q0 : Int) == 0) = false := beq_false_of_ne (by omega)
    have hq3 : decide ((q0 : Int) = 0) = false := decide_eq_false (by omega)
    have hq4 : decide (q0 = 0) = false := decide_eq_false hq1
    clear hlen hq0
    generalize takeS B s n = r at *
    go_enter Try.func16, Try.ntmps16
    go_wp2_with (first
      | (refine wl_box (C := #[.slice ba B.length bc, .int .i64 (a0 : Int), .bool b0]) rfl rfl rfl ?_; intro w1 hb1 he1 hx; clear hx)
      | (refine wl_alloc rfl rfl zeroI ?_; intro w2 hb2 he2 hx; clear hx)
      | (go_at_call 10; refine (refNum_any 0 n _).mono ?_; rintro e w3 ⟨na, nn, nc, rfl, hnn, ho3, he3⟩; rw [← HQ0.out] at hnn; subst hnn)
      | (refine wl_load rfl rowI rfl rfl ((hb1.ext he2).ext he3) rfl ?_)
      | (go_at_call 18; refine (HT.out _ _ rfl ((he1.trans he2).trans he3)).mono ?_; rintro e w4 ⟨v4, oa, on, oc, rfl, ⟨a4, b4, rfl, ha4, hs4⟩, hon, ho4, he4⟩; have HN : Hid (on = r.2.length ∧ r.1 = (if b4 = true then none else some a4)) := ⟨hon, hs4⟩; clear hon hs4)
      | (refine wl_store (D := #[.slice ba B.length bc, .int .i64 (a4 : Int), .bool b4]) rfl rowI rfl rfl rfl (((hb1.ext he2).ext he3).ext he4) rfl rfl (one_in _ _ _ hbv1) ?_; intro w5 hb5 hk5 hx; clear hx))
    have HW : Hid (Blk w5 w.heap.size #[.slice ba B.length bc, .int .i64 (a4 : Int), .bool b4] 40 ∧ Blk w5 w1.heap.size #[.slice none 0 0, .int .i64 0, .bool false] 40 ∧ Ext w w5 ∧ w.heap.size ≤ w1.heap.size ∧ w.heap.size < w1.heap.size ∧ BytesAt w5 (.slice oa on oc) r.2) := ⟨hb5, ((hb2.ext he3).ext he4).but hk5 (show ¬ _ = _ by have := hb1.lt; omega), (((he1.trans he2).trans he3).trans he4).of_but hk5 (fun k e => by subst e; exact Nat.le_refl _), he1.size, hb1.lt, (ho4.but hk5 (fun k e e2 => by have := (ho4.lt e).1; have := hb1.lt; have := he2.size; have := he3.size; omega)).bytes⟩
    have hsn8 : on ≤ 8 := by rw [HN.out.1]; exact HR.out.2
    clear hb1 he1 hb2 he2 ho3 he3 ho4 he4 hb5 hk5
    obtain ⟨_, _, e3, _, hcell⟩ := HW.out.2.2.2.2.2.form
    have HL : Hid (∀ j, j < on → ∃ b off, oa = some ⟨b, off, none⟩ ∧ w5.cell? ⟨b, off + j, none⟩ = some (.int .u8 (r.2.getD j 0 : Nat))) := fun j hj => by
      cases e3
      exact hcell j (by rw [← HN.out.1]; exact hj)
    clear e3 hcell
    go_loopg [7, 8] on (fun gm x t wr => ∃ k : Nat, k ≤ on ∧ gm = on - k ∧ x = .int .u64 (val (r.2.take k) : Nat) ∧ t = .int .i64 (k : Int) ∧ wr = w5)
    case atStart => exact ⟨0, Nat.zero_le _, rfl, rfl, rfl, rfl⟩
    case round =>
      obtain ⟨k, hk, rfl, rfl, rfl, hw⟩ := hrel
      subst wr
      by_cases hlt : k < on
      · have hd : decide ((k : Int) < (on : Int)) = true := decide_eq_true (by omega)
        obtain ⟨b, off, rfl, hc⟩ := HL.out k hlt
        have hkr : k < r.2.length := by rw [← HN.out.1]; exact hlt
        have HV : Hid (val (r.2.take (k + 1)) = 256 * val (r.2.take k) + r.2.getD k 0) := show _ = _ by rw [take_next r.2 0 k hkr, val_snoc]
        have hk8 : k < 8 := by omega
        have hx := val_take HR.out.1 HR.out.2 hkr
        have hb8 := HR.out.1.getD k
        generalize r.2.getD k 0 = b8 at *
        generalize val (r.2.take k) = x at *
        obtain ⟨q, hq⟩ : ∃ q, q = 256 * x + b8 := ⟨_, rfl⟩
        obtain ⟨p, hp⟩ : ∃ p, p = x * 256 := ⟨_, rfl⟩
        have hq64 : q < 18446744073709551616 := by rw [hq]; exact mul_byte x b8 hx hb8
        have hw0 : (256 : Int) * (x : Int) = (p : Int) := by omega
        have hw4 : (p : Int) + (b8 : Int) = (q : Int) := by omega
        have hw1 : IntKind.u64.wrap (p : Int) = (p : Int) := by rw [IntKind.wrap_u64]; exact Int.emod_eq_of_lt (by omega) (by omega)
        have hw2 : (p : Int) % 18446744073709551616 = (p : Int) := Int.emod_eq_of_lt (by omega) (by omega)
        have hw5 : IntKind.u64.wrap (q : Int) = (q : Int) := by rw [IntKind.wrap_u64]; exact Int.emod_eq_of_lt (by omega) (by omega)
        have hw6 : (q : Int) % 18446744073709551616 = (q : Int) := Int.emod_eq_of_lt (by omega) (by omega)
        rw [← hq] at HV
        clear hp hq hx hkr hq64
        go_wp2
        go_roundg (on - (k + 1))
        case measure => omega
        case rel => exact ⟨k + 1, by omega, rfl, by rw [HV.out], by simp, rfl⟩
      · have hd : decide ((k : Int) < (on : Int)) = false := decide_eq_false (by omega)
        obtain rfl : k = on := by omega
        have HT2 : Hid (r.2.take k = r.2) := List.take_of_length_le (by rw [HN.out.1]; exact Nat.le_refl _)
        rw [HT2.out]
        go_wp2_with (first
          | (refine wl_load rfl rowI rfl rfl HW.out.1 rfl ?_)
          | (refine wl_store (D := #[.slice ba B.length bc, .int .i64 (a4 : Int), .bool b4]) rfl rowI rfl rfl rfl HW.out.2.1 rfl rfl (one_in _ _ _ hbv1) ?_; intro w6 hb6 hk6 hx; clear hx))
        refine bodyPost_ret (res_two (fn := Try.f16) (p := 4) (u := 5) rfl _ _ rfl rfl hb6 Try.underlying40 (by kernel_rfl)) rfl ?_
        exact ⟨_, rfl, ⟨a4, b4, rfl, ha4, HN.out.2⟩, HW.out.2.2.1.of_but hk6 (fun k e => by subst e; exact HW.out.2.2.2.1)⟩
end Tlv
end Go.Proofs.Ytmfciiccomagpaa
