/- The registers' bytes: what this function answers. No condition of its own. -/
import Derived.Test.YtaklbnaaoebknaaDoorWork
import Derived.Deep.LoopGhost
namespace Go.Proofs.YtaklbnaaoebknaaDoor
open Go Go.RowKit
set_option linter.unusedVariables false
set_option linter.unusedSimpArgs false
set_option maxRecDepth 100000

namespace Sha
/-- The digest, of which the first registers are laid. -/
def digs (R : List Nat) (k : Nat) : List Nat := dig (R.take k) ++ List.replicate (32 - 4 * k) 0
theorem digs_8 {R : List Nat} (h : R.length = 8) : digs R 8 = dig R := by
  unfold digs
  rw [List.take_of_length_le (by omega)]
  simp
theorem digs_len {R : List Nat} {k : Nat} (h : R.length = 8) (hk : k ≤ 8) : (digs R k).length = 32 := by
  unfold digs
  rw [List.length_append, dig_len]
  simp; omega
theorem digs_succ {R : List Nat} {k : Nat} (h : R.length = 8) (hk : k < 8) (r : Nat) (hr : R.getD k 0 = r) :
    (((((digs R k).set (4 * k) (r / 16777216 % 256)).set (4 * k + 1) (r / 65536 % 256)).set (4 * k + 2) (r / 256 % 256)).set (4 * k + 3) (r % 256)) = digs R (k + 1) := by
  have e : R.take (k + 1) = R.take k ++ [r] := by
    rw [List.take_succ_eq_append_getElem (by omega)]
    simp [← hr, List.getD_eq_getElem?_getD, h, hk]
  have hl : (dig (R.take k)).length = 4 * k := by rw [dig_len]; simp; omega
  have e2 : List.replicate (32 - 4 * k) 0 = 0 :: 0 :: 0 :: 0 :: List.replicate (32 - 4 * (k + 1)) 0 := by
    rw [show 32 - 4 * k = (32 - 4 * (k + 1)) + 1 + 1 + 1 + 1 by omega]
    rfl
  unfold digs
  rw [e, dig_app, e2]
  rw [List.set_append_right _ _ (by omega), List.set_append_right _ _ (by omega), List.set_append_right _ _ (by omega), List.set_append_right _ _ (by omega), hl]
  simp [dig, four, List.append_assoc, Nat.add_sub_cancel_left]
end Sha

theorem row25 : RowT Tryd.prog 25 32 := ⟨⟨_, Tryd.underlying25, rfl⟩, by kernel_rfl⟩
theorem one5 : OneT Tryd.prog 5 := ⟨⟨_, Tryd.underlying5, rfl⟩, by kernel_rfl⟩
theorem zero25 : (Tryd.prog.info? 25).bind (·.zero) = some (.agg (bA (List.replicate 32 0))) := by kernel_rfl

set_option maxHeartbeats 4000000 in
theorem digestOf_any (R : List Nat) (w : World) (hR : R.length = 8) (hRU : Sha.AllU R) :
    Calls Tryd.prog 36 #[.agg (uA R)] w fun e w' => e = .returned (.agg (bA (Sha.dig R))) ∧ Ext w w' := by
  go_enter Tryd.func36, Tryd.ntmps36
  go_wp2_with (first
    | (refine wl_load rfl row44 rfl rfl ((hb1.ext he2).ext he3) (by rw [uA_size, hR]) ?_)
    | (refine wl_box rfl rfl rfl ?_; intro w1 hb1 he1 hx; clear hx; refine wl_alloc rfl rfl zero25 ?_; intro w2 hb2 he2 hx; clear hx)
    | (refine wl_alloc rfl rfl zero25 ?_; intro w3 hb3 he3 hx; clear hx))
  have HE : Hid (Ext w w3) := (he1.trans he2).trans he3
  have H2 : Hid (Blk w3 w1.heap.size (bA (List.replicate 32 0)) 25) := hb2.ext he3
  have HN : Hid (w.heap.size < w1.heap.size ∧ w1.heap.size < w2.heap.size) := ⟨hb1.lt, hb2.lt⟩
  clear hb1 hb2 he1 he2 he3
  have HH : Hid (Blk w3 w2.heap.size (bA (List.replicate 32 0)) 25) := hb3
  clear hb3
  go_loopg [7] 8 (fun g s wr => ∃ k : Nat, k ≤ 8 ∧ g = 8 - k ∧ s = .int .i64 (k : Int) ∧ Hid (Ext w wr ∧ Blk wr w1.heap.size (bA (List.replicate 32 0)) 25 ∧ Blk wr w2.heap.size (bA (Sha.digs R k)) 25))
  case atStart => exact ⟨0, by omega, rfl, rfl, HE.out, H2.out, HH.out⟩
  case round =>
    obtain ⟨k, hk, rfl, rfl, HR⟩ := hrel
    by_cases hlt : k < 8
    · have hd : decide ((k : Int) < 8) = true := decide_eq_true (by omega)
      have hsc := uA_get R k (by omega)
      have hr := hRU.get k
      have HS : Hid _ := Sha.digs_succ hR hlt _ rfl
      generalize R.getD k 0 = r at *
      obtain ⟨b0, hb0⟩ : ∃ x, x = r / 16777216 % 256 := ⟨_, rfl⟩
      obtain ⟨b1, hb1⟩ : ∃ x, x = r / 65536 % 256 := ⟨_, rfl⟩
      obtain ⟨b2, hb2⟩ : ∃ x, x = r / 256 % 256 := ⟨_, rfl⟩
      obtain ⟨b3, hb3⟩ : ∃ x, x = r % 256 := ⟨_, rfl⟩
      rw [← hb0, ← hb1, ← hb2, ← hb3] at HS
      have q0 : (r : Int) / 16777216 % 256 = (b0 : Int) := by omega
      have q1 : (r : Int) / 65536 % 256 = (b1 : Int) := by omega
      have q2 : (r : Int) / 256 % 256 = (b2 : Int) := by omega
      have q3 : (r : Int) % 256 = (b3 : Int) := by omega
      have p0 : IntKind.u8.wrap ((r : Int) / 16777216) = (b0 : Int) := by rw [IntKind.wrap_u8]; exact q0
      have p1 : IntKind.u8.wrap ((r : Int) / 65536) = (b1 : Int) := by rw [IntKind.wrap_u8]; exact q1
      have p2 : IntKind.u8.wrap ((r : Int) / 256) = (b2 : Int) := by rw [IntKind.wrap_u8]; exact q2
      have p3 : IntKind.u8.wrap (r : Int) = (b3 : Int) := by rw [IntKind.wrap_u8]; exact q3
      have hl := Sha.digs_len hR hk
      have HB : Hid (Blk wr w2.heap.size (bA (Sha.digs R k)) 25 ∧ (Sha.digs R k).length = 32) := ⟨HR.out.2.2, hl⟩
      clear hb0 hb1 hb2 hb3 hl
      go_wp2_with (first
        | (refine wpList_of_run rfl (exec_index _ rfl Tryd.underlying57 ⟨_, Tryd.underlying28, rfl⟩ (by kernel_rfl) rfl rfl hlt hsc) ?_)
        | (refine wl_set (v := .int .u8 (b0 : Nat)) rfl one5 rfl rfl (by first | rfl | go_simp | simp [go_sem, p0]) rfl rfl HB.out.1 (by rw [bA_size, HB.out.2]; omega) ?_; intro x1 c1 k1 hx; clear hx; rw [bA_set] at c1)
        | (refine wl_set (v := .int .u8 (b1 : Nat)) rfl one5 rfl rfl (by first | rfl | go_simp | simp [go_sem, p1]) rfl rfl c1 (by rw [bA_size, List.length_set, HB.out.2]; omega) ?_; intro x2 c2 k2 hx; clear hx; rw [bA_set] at c2)
        | (refine wl_set (v := .int .u8 (b2 : Nat)) rfl one5 rfl rfl (by first | rfl | go_simp | simp [go_sem, p2]) rfl rfl c2 (by rw [bA_size, List.length_set, List.length_set, HB.out.2]; omega) ?_; intro x3 c3 k3 hx; clear hx; rw [bA_set] at c3)
        | (refine wl_set (v := .int .u8 (b3 : Nat)) rfl one5 rfl rfl (by first | rfl | go_simp | simp [go_sem, p3]) rfl rfl c3 (by rw [bA_size, List.length_set, List.length_set, List.length_set, HB.out.2]; omega) ?_; intro x4 c4 k4 hx; clear hx; rw [bA_set, HS.out] at c4))
      have := HN.out
      go_roundg (8 - (k + 1))
      case measure => omega
      case rel =>
        refine ⟨k + 1, by omega, rfl, by simp, ?_, ?_, c4⟩
        · exact (((HR.out.1.of_but k1 (fun j e => by subst e; omega)).of_but k2 (fun j e => by subst e; omega)).of_but k3 (fun j e => by subst e; omega)).of_but k4 (fun j e => by subst e; omega)
        · exact (((HR.out.2.1.but k1 (show ¬ _ = _ by omega)).but k2 (show ¬ _ = _ by omega)).but k3 (show ¬ _ = _ by omega)).but k4 (show ¬ _ = _ by omega)
    · have hd : decide ((k : Int) < 8) = false := decide_eq_false (by omega)
      obtain rfl : k = 8 := by omega
      have h4 := HR.out.2.2
      rw [Sha.digs_8 hR] at h4
      have hl : (Sha.dig R).length = 32 := by rw [Sha.dig_len, hR]
      have HL : Hid ((Sha.dig R).length = 32) := hl
      clear hl
      go_wp2_with (first
        | (refine wl_load rfl row25 rfl rfl h4 (by rw [bA_size, HL.out]) ?_)
        | (refine wl_store rfl row25 rfl rfl rfl HR.out.2.1 (by rw [bA_size, HL.out]) rfl (bA_one _) ?_; intro x5 c5 k5 hx; clear hx))
      have := HN.out
      refine bodyPost_ret (v := .agg (bA (Sha.dig R))) (results_cell_row (fn := Tryd.f36) (p := 2) (by rfl) _ _ w1.heap.size 25 _ (0, 0) _ rfl c5 Tryd.underlying25 rfl (by rw [bA_size, HL.out]; kernel_rfl)) rfl ⟨rfl, ?_⟩
      exact HR.out.1.of_but k5 (fun j e => by subst e; omega)
end Go.Proofs.YtaklbnaaoebknaaDoor
