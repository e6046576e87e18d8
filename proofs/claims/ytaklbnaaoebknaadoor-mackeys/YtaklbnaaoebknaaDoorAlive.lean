/- The law's fixed fact: the chapter's example. Condition: the tables hold what the text lays. -/
import Derived.Test.YtaklbnaaoebknaaDoorMac3
namespace Go.Proofs.YtaklbnaaoebknaaDoor
open Go Go.RowKit
set_option linter.unusedVariables false
set_option linter.unusedSimpArgs false
set_option maxRecDepth 100000
set_option maxHeartbeats 2000000 in
theorem alive_any (w : World) (hT : Tabs w) : Calls Tryd.prog 8 #[] w fun e w' => e = .returned (.bool true) ∧ Ext w w' := by
  have hl : (Mac.tag [74, 101, 102, 101] ([119, 104, 97, 116, 32, 100, 111, 32, 121, 97, 32, 119, 97, 110, 116, 32] ++ [102, 111, 114, 32, 110, 111, 116, 104, 105, 110, 103, 63])).length = 32 := Mac.tag_len _ _
  have q0 := bA_get (Mac.tag [74, 101, 102, 101] ([119, 104, 97, 116, 32, 100, 111, 32, 121, 97, 32, 119, 97, 110, 116, 32] ++ [102, 111, 114, 32, 110, 111, 116, 104, 105, 110, 103, 63])) 0 (by omega)
  have q1 := bA_get (Mac.tag [74, 101, 102, 101] ([119, 104, 97, 116, 32, 100, 111, 32, 121, 97, 32, 119, 97, 110, 116, 32] ++ [102, 111, 114, 32, 110, 111, 116, 104, 105, 110, 103, 63])) 1 (by omega)
  have q2 := bA_get (Mac.tag [74, 101, 102, 101] ([119, 104, 97, 116, 32, 100, 111, 32, 121, 97, 32, 119, 97, 110, 116, 32] ++ [102, 111, 114, 32, 110, 111, 116, 104, 105, 110, 103, 63])) 2 (by omega)
  have q3 := bA_get (Mac.tag [74, 101, 102, 101] ([119, 104, 97, 116, 32, 100, 111, 32, 121, 97, 32, 119, 97, 110, 116, 32] ++ [102, 111, 114, 32, 110, 111, 116, 104, 105, 110, 103, 63])) 3 (by omega)
  rw [jefe_get 0 (by decide)] at q0
  rw [jefe_get 1 (by decide)] at q1
  rw [jefe_get 2 (by decide)] at q2
  rw [jefe_get 3 (by decide)] at q3
  simp only [List.getD_cons_zero, List.getD_cons_succ] at q0 q1 q2 q3
  have HL : Hid ((Mac.tag [74, 101, 102, 101] ([119, 104, 97, 116, 32, 100, 111, 32, 121, 97, 32, 119, 97, 110, 116, 32] ++ [102, 111, 114, 32, 110, 111, 116, 104, 105, 110, 103, 63])).length = 32) := hl
  obtain ⟨D, hD⟩ : ∃ D, D = Mac.tag [74, 101, 102, 101] ([119, 104, 97, 116, 32, 100, 111, 32, 121, 97, 32, 119, 97, 110, 116, 32] ++ [102, 111, 114, 32, 110, 111, 116, 104, 105, 110, 103, 63]) := ⟨_, rfl⟩
  have HD : Hid (D = Mac.tag [74, 101, 102, 101] ([119, 104, 97, 116, 32, 100, 111, 32, 121, 97, 32, 119, 97, 110, 116, 32] ++ [102, 111, 114, 32, 110, 111, 116, 104, 105, 110, 103, 63])) := hD
  rw [← hD] at HL q0 q1 q2 q3
  clear hl hD
  have HT : Hid (Tabs w) := hT
  clear hT
  go_enter Tryd.func8, Tryd.ntmps8
  go_wp2_with (first
    | (refine wl_conv [74, 101, 102, 101] rfl rfl rfl (by simp) rfl rfl rfl (by intro x hx; simp at hx; omega) (by simp) ?_; intro w1 hv1 he1 hx; clear hx)
    | (refine wl_conv [119, 104, 97, 116, 32, 100, 111, 32, 121, 97, 32, 119, 97, 110, 116, 32] rfl rfl rfl (by simp) rfl rfl rfl (by intro x hx; simp at hx; omega) (by simp) ?_; intro w2 hv2 he2 hx; clear hx)
    | (refine wl_conv [102, 111, 114, 32, 110, 111, 116, 104, 105, 110, 103, 63] rfl rfl rfl (by simp) rfl rfl rfl (by intro x hx; simp at hx; omega) (by simp) ?_; intro w3 hv3 he3 hx; clear hx)
    | (go_at_call 9; refine (macSum_any (ls := [[119, 104, 97, 116, 32, 100, 111, 32, 121, 97, 32, 119, 97, 110, 116, 32], [102, 111, 114, 32, 110, 111, 116, 104, 105, 110, 103, 63]]) (HT.out.ext (((he1.trans he2).trans he3).trans (Ext.alloc _ _))) (hv1.ext ((he2.trans he3).trans (Ext.alloc _ _))) (PartsOf.two w3 _ rfl (hv2.ext he3) hv3) (by simp) (by simp)).mono ?_; rintro e w4 ⟨rfl, he4'⟩; have he4 := (Ext.alloc _ _).trans he4'; clear he4'; rw [show [[119, 104, 97, 116, 32, 100, 111, 32, 121, 97, 32, 119, 97, 110, 116, 32], [102, 111, 114, 32, 110, 111, 116, 104, 105, 110, 103, 63]].flatten = [119, 104, 97, 116, 32, 100, 111, 32, 121, 97, 32, 119, 97, 110, 116, 32] ++ [102, 111, 114, 32, 110, 111, 116, 104, 105, 110, 103, 63] by rfl, ← HD.out])
    | (refine wl_alloc rfl rfl zero25 ?_; intro w5 hb5 he5 hx; clear hx; refine wl_store (D := bA D) rfl row25 rfl rfl rfl hb5 (by rw [bA_size, HL.out]) rfl (bA_one _) ?_; intro w6 hb6 hk6 hx; clear hx; have c0 := (hb6.cell 0).trans q0; have c1 := (hb6.cell 1).trans q1; have c2 := (hb6.cell 2).trans q2; have c3 := (hb6.cell 3).trans q3))
  go_ret
  exact ⟨rfl, ((((he1.trans he2).trans he3).trans he4).trans (he5.of_but hk6 (fun k e => by subst e; exact Nat.le_refl _)))⟩
end Go.Proofs.YtaklbnaaoebknaaDoor
