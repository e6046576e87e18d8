/- The law RowCopies, where it answers early: it answers true. No condition of its own. -/
import Derived.Test.YtbongjdflnefmaaNil
namespace Go.Proofs.Ytbongjdflnefmaa
open Go Go.RowKit Go.Shelf
set_option linter.unusedVariables false
set_option linter.unusedSimpArgs false
set_option maxRecDepth 100000

set_option maxHeartbeats 4000000 in
theorem copies_out (f m : Int) (sva svb : Value) (na nb : Nat) (Ka Ja Xa Kb Jb Xb : Nat → Int) (w : World) (hf : Of 4294967296 f) (hm : W64 m) (hsa : ActsAt w sva na Ka Ja Xa) (hsb : ActsAt w svb nb Kb Jb Xb) (hmo : m < 1 ∨ 1024 < m) :
    Calls Try.prog 5 #[.agg #[.int .u32 f, .int .i64 m], sva, svb] w fun e w' => e = .returned (.bool true) ∧ Ext w w' := by
  have HSa : Hid (ActsAt w sva na Ka Ja Xa) := hsa
  have HSb : Hid (ActsAt w svb nb Kb Jb Xb) := hsb
  obtain ⟨aa, ca, rfl, hca, hcam⟩ := hsa.form
  obtain ⟨ab, cb, rfl, hcb, hcbm⟩ := hsb.form
  have hma : ca ≤ 9223372036854775807 := by unfold maxLen at hcam; omega
  have hmb : cb ≤ 9223372036854775807 := by unfold maxLen at hcbm; omega
  clear hsa hsb
  go_enter Try.func5, Try.ntmps5
  go_wp2_with (first
    | (go_at_call 8
       refine (alive_any _).mono ?_
       rintro e w1 ⟨rfl, he1⟩
       have b0 := two_b0 he1
       have b1 := two_b1 he1
       have hE1 := two_ext he1
       have hsz1 := two_sz he1
       have c0 : w1.cell? ⟨w.heap.size, 0, none⟩ = some (.int .u32 f) := cell_of_block b0 0
       have c1 : w1.cell? ⟨w.heap.size, 1, none⟩ = some (.int .i64 m) := cell_of_block b0 1
       have HB1 : Hid (w1.heap[w.heap.size + 1]? = some (Obj.cells #[.bool false] 4 (0, 0))) := b1
       clear he1 b0 b1)
    | (go_at_call 9
       refine (new_out _ _ _ hf hm hmo).mono ?_
       rintro e w2 ⟨rfl, rfl⟩
       have r0 : w2.cell? ⟨w.heap.size + 1, 0, none⟩ = some (.bool false) := cell_of_block HB1.out 0
       have r1 : w2.frozen? ⟨w.heap.size + 1, 0, none⟩ = false := frozen_of_block HB1.out 0
       have HE : Hid (Ext w w2) := hE1))
  refine bodyPost_ret (v := .bool true) ?_ rfl ⟨rfl, ?_⟩
  · simp [results, Try.f5, go_sem, r0]
  · exact Below.setCell HE.out (by simp) _

set_option maxHeartbeats 4000000 in
theorem copies_longa (f m : Int) (sva svb : Value) (na nb : Nat) (Ka Ja Xa Kb Jb Xb : Nat → Int) (w : World) (hf : Of 4294967296 f) (hm : W64 m) (hsa : ActsAt w sva na Ka Ja Xa) (hsb : ActsAt w svb nb Kb Jb Xb) (hm1 : 1 ≤ m ∧ m ≤ 1024) (h40 : 40 < na) :
    Calls Try.prog 5 #[.agg #[.int .u32 f, .int .i64 m], sva, svb] w fun e w' => e = .returned (.bool true) ∧ Ext w w' := by
  have HSa : Hid (ActsAt w sva na Ka Ja Xa) := hsa
  have HSb : Hid (ActsAt w svb nb Kb Jb Xb) := hsb
  obtain ⟨aa, ca, rfl, hca, hcam⟩ := hsa.form
  obtain ⟨ab, cb, rfl, hcb, hcbm⟩ := hsb.form
  have hma : ca ≤ 9223372036854775807 := by unfold maxLen at hcam; omega
  have hmb : cb ≤ 9223372036854775807 := by unfold maxLen at hcbm; omega
  clear hsa hsb
  have hd0 : decide (40 < (na : Int)) = true := decide_eq_true (by omega)
  go_enter Try.func5, Try.ntmps5
  go_wp2_with (first
    | (go_at_call 8
       refine (alive_any _).mono ?_
       rintro e w1 ⟨rfl, he1⟩
       have b0 := two_b0 he1
       have b1 := two_b1 he1
       have hE1 := two_ext he1
       have hsz1 := two_sz he1
       have c0 : w1.cell? ⟨w.heap.size, 0, none⟩ = some (.int .u32 f) := cell_of_block b0 0
       have c1 : w1.cell? ⟨w.heap.size, 1, none⟩ = some (.int .i64 m) := cell_of_block b0 1
       have HB1 : Hid (w1.heap[w.heap.size + 1]? = some (Obj.cells #[.bool false] 4 (0, 0))) := b1
       clear he1 b0 b1)
    | (go_at_call 9
       refine (new_any _ _ _ hf hm1).mono ?_
       rintro e w2 ⟨rfl, _, he2⟩
       have r0 : w2.cell? ⟨w.heap.size + 1, 0, none⟩ = some (.bool false) := cell_of_block (block_ext he2 HB1.out) 0
       have r1 : w2.frozen? ⟨w.heap.size + 1, 0, none⟩ = false := frozen_of_block (block_ext he2 HB1.out) 0
       have HE : Hid (Ext w w2) := hE1.trans he2
       clear he2))
  refine bodyPost_ret (v := .bool true) ?_ rfl ⟨rfl, ?_⟩
  · simp [results, Try.f5, go_sem, r0]
  · exact Below.setCell HE.out (by simp) _

set_option maxHeartbeats 4000000 in
theorem copies_longb (f m : Int) (sva svb : Value) (na nb : Nat) (Ka Ja Xa Kb Jb Xb : Nat → Int) (w : World) (hf : Of 4294967296 f) (hm : W64 m) (hsa : ActsAt w sva na Ka Ja Xa) (hsb : ActsAt w svb nb Kb Jb Xb) (hm1 : 1 ≤ m ∧ m ≤ 1024) (h40 : ¬ 40 < na) (h40b : 40 < nb) :
    Calls Try.prog 5 #[.agg #[.int .u32 f, .int .i64 m], sva, svb] w fun e w' => e = .returned (.bool true) ∧ Ext w w' := by
  have HSa : Hid (ActsAt w sva na Ka Ja Xa) := hsa
  have HSb : Hid (ActsAt w svb nb Kb Jb Xb) := hsb
  obtain ⟨aa, ca, rfl, hca, hcam⟩ := hsa.form
  obtain ⟨ab, cb, rfl, hcb, hcbm⟩ := hsb.form
  have hma : ca ≤ 9223372036854775807 := by unfold maxLen at hcam; omega
  have hmb : cb ≤ 9223372036854775807 := by unfold maxLen at hcbm; omega
  clear hsa hsb
  have hd0 : decide (40 < (na : Int)) = false := decide_eq_false (by omega)
  have hd1 : decide (40 < (nb : Int)) = true := decide_eq_true (by omega)
  go_enter Try.func5, Try.ntmps5
  go_wp2_with (first
    | (go_at_call 8
       refine (alive_any _).mono ?_
       rintro e w1 ⟨rfl, he1⟩
       have b0 := two_b0 he1
       have b1 := two_b1 he1
       have hE1 := two_ext he1
       have hsz1 := two_sz he1
       have c0 : w1.cell? ⟨w.heap.size, 0, none⟩ = some (.int .u32 f) := cell_of_block b0 0
       have c1 : w1.cell? ⟨w.heap.size, 1, none⟩ = some (.int .i64 m) := cell_of_block b0 1
       have HB1 : Hid (w1.heap[w.heap.size + 1]? = some (Obj.cells #[.bool false] 4 (0, 0))) := b1
       clear he1 b0 b1)
    | (go_at_call 9
       refine (new_any _ _ _ hf hm1).mono ?_
       rintro e w2 ⟨rfl, _, he2⟩
       have r0 : w2.cell? ⟨w.heap.size + 1, 0, none⟩ = some (.bool false) := cell_of_block (block_ext he2 HB1.out) 0
       have r1 : w2.frozen? ⟨w.heap.size + 1, 0, none⟩ = false := frozen_of_block (block_ext he2 HB1.out) 0
       have HE : Hid (Ext w w2) := hE1.trans he2
       clear he2))
  refine bodyPost_ret (v := .bool true) ?_ rfl ⟨rfl, ?_⟩
  · simp [results, Try.f5, go_sem, r0]
  · exact Below.setCell HE.out (by simp) _
end Go.Proofs.Ytbongjdflnefmaa
