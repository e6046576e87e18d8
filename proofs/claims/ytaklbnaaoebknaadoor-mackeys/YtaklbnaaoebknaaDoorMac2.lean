/- The tag of a key and of parts. Condition: the tables hold what the text lays. -/
import Derived.Test.YtaklbnaaoebknaaDoorMac1
namespace Go.Proofs.YtaklbnaaoebknaaDoor
open Go Go.RowKit
set_option linter.unusedVariables false
set_option linter.unusedSimpArgs false
set_option maxRecDepth 100000

set_option maxHeartbeats 4000000 in
theorem macSum_any {w : World} {v u : Value} {K : List Nat} {ls : List (List Nat)} (hT : Tabs w) (hk : BytesAt w v K) (hv : PartsOf w u ls) (hlK : K.length ≤ 90000) (hlen : ls.flatten.length ≤ 80000) :
    Calls Tryd.prog 9 #[v, u] w fun e w' => e = .returned (.agg (bA (Mac.tag K ls.flatten))) ∧ Ext w w' := by
  have HA : Hid (Tabs w ∧ BytesAt w v K ∧ PartsOf w u ls ∧ K.length ≤ 90000 ∧ ls.flatten.length ≤ 80000) := ⟨hT, hk, hv, hlK, hlen⟩
  obtain ⟨F, hF⟩ : ∃ F, F = Mac.full K := ⟨_, rfl⟩
  obtain ⟨I, hI⟩ : ∃ I, I = Mac.inner K ls.flatten := ⟨_, rfl⟩
  obtain ⟨D, hD⟩ : ∃ D, D = Mac.tag K ls.flatten := ⟨_, rfl⟩
  have HF : Hid (F = Mac.full K ∧ F.length = 64 ∧ Sha.AllB F) := ⟨hF, by rw [hF]; exact Mac.full_len K, by rw [hF]; exact Mac.full_all hk.1⟩
  have HI : Hid (I = Sha.dgst (Mac.chg F 54 ++ ls.flatten) ∧ I.length = 32 ∧ Sha.AllB I) := ⟨by rw [hI, hF]; rfl, by rw [hI]; exact Mac.inner_len _ _, by rw [hI]; exact Mac.inner_all _ _⟩
  have HD : Hid (D = Sha.dgst (Mac.chg F 92 ++ I) ∧ D.length = 32) := ⟨by rw [hD, hF, hI]; rfl, by rw [hD]; exact Mac.tag_len _ _⟩
  rw [← hD]
  obtain ⟨a, cap, rfl, _, _⟩ := hk.form
  obtain ⟨_, ua, uc, rfl, _⟩ := hv
  rename_i z1 z2 z3 z4
  clear z1 z2 z3 z4 hk hT hF hI hD
  go_enter Tryd.func9, Tryd.ntmps9
  go_wp2_with (first
    | (have q := hk8; clear q; refine wl_alloc rfl rfl zero25 ?_; intro w9 hb9 he9 hx; clear hx; refine wl_store (D := bA I) rfl row25 rfl rfl rfl hb9 (by rw [bA_size, HI.out.2.1]) rfl (bA_one _) ?_; intro w10 hb10 hk10 hx; clear hx; have he10 := he9.of_but hk10 (fun k e => by subst e; exact Nat.le_refl _); clear hk10 he9 hb9)
    | (refine wl_alloc rfl rfl zero25 ?_; intro w1 hb1 he1 hx; clear hx)
    | (go_at_call 17; refine (fullKey_any (HA.out.1.ext he1) (HA.out.2.1.ext he1) HA.out.2.2.2.1).mono ?_; rintro e w2 ⟨rfl, he2⟩; rw [← HF.out.1])
    | (refine wl_alloc rfl rfl zeroKey ?_; intro w3 hb3 he3 hx; clear hx; refine wl_store (D := bA F) rfl row45 rfl rfl rfl hb3 (by rw [bA_size, HF.out.2.1]) rfl (bA_one _) ?_; intro w4 hb4 hk4 hx; clear hx; have he4 := he3.of_but hk4 (fun k e => by subst e; exact Nat.le_refl _); clear hk4 he3 hb3; have HE4 : Hid (Ext w w4) := (he1.trans he2).trans he4)
    | (go_at_call 18; refine (begin_any _ (HA.out.1.ext HE4.out)).mono ?_; rintro e w5 ⟨rfl, hS5, he5⟩)
    | (refine wl_load rfl row45 rfl rfl (hb4.ext he5) (by rw [bA_size, HF.out.2.1]) ?_)
    | (go_at_call 20; refine (changed_any F 54 _ HF.out.2.1 HF.out.2.2 (by decide)).mono ?_; rintro e w6 ⟨rfl, hb6, he6⟩)
    | (go_at_call 19; refine (add_any (HA.out.1.ext ((HE4.out.trans he5).trans he6)) (hS5.ext he6) (bytes_ofBlk hb6 (Mac.chg_all HF.out.2.2 (by decide)) (by rw [Mac.chg_len, HF.out.2.1]) (by decide)) (fun _ g hg => by simp [blockOf] at hg; have := hS5.blk.lt; omega) (by have := HA.out.1.two; have := HE4.out.size; omega) (by rw [Mac.chg_len, HF.out.2.1]; decide)).mono ?_; rintro e w7 ⟨⟨x, rfl⟩, hS7, hk7⟩; rw [List.nil_append] at hS7; have HE7 : Hid (Ext w w7) := ((HE4.out.trans he5).trans he6).of_but hk7 (fun k e => by subst e; exact HE4.out.size))
    | (go_at_call 21; refine (sumBehind_any (w0 := w) HA.out.1 HE7.out HE4.out.size hS7 HA.out.2.2.1 (by rw [Mac.chg_len, HF.out.2.1]; have := HA.out; omega)).mono ?_; rintro e w8 ⟨rfl, hk8⟩; rw [← HI.out.1]; have HE8 : Hid (Ext w w8) := HE7.out.of_but hk8 (fun k e => by subst e; exact HE4.out.size)))
  have HE10 : Hid (Ext w w10) := HE8.out.trans he10
  have hn4 : w4.heap.size ≠ w2.heap.size := by have := hb4.lt; omega
  have hsz : w.heap.size < w2.heap.size := by have := hb1.lt; have := he2.size; omega
  have Hb4 : Hid (Blk w10 w2.heap.size (bA F) 42) := ((((((hb4.ext he5).ext he6).but hk7 (Ne.symm hn4)).but hk8 (Ne.symm hn4))).ext he10)
  have Hb1 : Hid (Blk w10 w.heap.size (bA (List.replicate 32 0)) 25) := ((((((((hb1.ext he2).ext he4).ext he5).ext he6).but hk7 (show ¬ _ = _ by have := HE4.out.size; have := hb4.lt; omega)).but hk8 (show ¬ _ = _ by have := HE4.out.size; have := hb4.lt; omega))).ext he10)
  have Hb10 : Hid (Blk w10 w8.heap.size (bA I) 25) := hb10
  clear hb1 hb4 hb6 hb10 hk7 hk8 he1 he2 he4 he5 he6 he10 hS5 hS7 HE7 HE8 hn4 hsz HE4
  generalize w2.heap.size = kb at *
  generalize w8.heap.size = ib at *
  have HB4 : ∀ {wx : World}, Ext w10.drew wx → Blk wx kb (bA F) 42 := fun hx => Hb4.out.ext ((Ext.drew _).trans hx)
  have HB1 : ∀ {wx : World}, Ext w10.drew wx → Blk wx w.heap.size (bA (List.replicate 32 0)) 25 := fun hx => Hb1.out.ext ((Ext.drew _).trans hx)
  have HB10 : ∀ {wx : World}, Ext w10.drew wx → Blk wx ib (bA I) 25 := fun hx => Hb10.out.ext ((Ext.drew _).trans hx)
  have HT10 : ∀ {wx : World}, Ext w10.drew wx → Tabs wx := fun hx => HA.out.1.ext (HE10.out.trans ((Ext.drew _).trans hx))
  refine wp_region_lastD (fun t => bif Nat.ble 18 t && Nat.ble t 22 then some (t - 18) else none) 23 Ext
    [Is (.agg (bA F)),
     (fun wx v => BytesAt wx v (Mac.chg F 92)),
     Is (.slice (some ⟨ib, 0, none⟩) 32 32),
     (fun wx v => PartsOf wx v [Mac.chg F 92, I]),
     Is (.agg (bA D))]
    (by intro h; cases h) rfl (by kernel_rfl) (by kernel_rfl) rfl (by kernel_rfl) Ext.refl (fun _ _ _ => Ext.trans) ?_ (fun wx wy => Blk wy w.heap.size (bA D) 25 ∧ KeepBut (· = w.heap.size) wx wy) ?_ ?_ ?_
  · exact KeepAll.is (KeepAll.cons (fun _ _ _ hr h => BytesAt.ext h hr) (KeepAll.is (KeepAll.cons (fun _ _ _ hr h => PartsOf.ext h hr) (KeepAll.is (KeepAll.nil)))))
  · refine GoodAll.cons ?_ ?_
    · intro r wx hR hx
      obtain ⟨h1, _⟩ := hx
      replace h1 : r (.tmp 5) = (.pointer (some ⟨kb, 0, none⟩)) := h1
      exact give_of (exec_loadW row45 rfl h1 (HB4 hR) (by rw [bA_size, HF.out.2.1])) ⟨Ext.refl _, rfl⟩
    refine GoodAll.cons ?_ ?_
    · intro r wx hR hx
      obtain ⟨h1, h2, h3, _⟩ := hx
      replace h1 : r (.func 20) = .func (.func 20) #[] #[] := h1
      replace h2 : r (.tmp 18) = (.agg (bA F)) := h2
      replace h3 : r (.const (.int .u8 92)) = .int .u8 92 := h3
      refine give_func #[.agg (bA F), .int .u8 92] rfl h1 Tryd.call20 (by simp [h2, h3]) ?_
      refine (changed_any F 92 _ HF.out.2.1 HF.out.2.2 (by decide)).mono ?_
      rintro e w' ⟨rfl, hb, he⟩
      exact ⟨_, rfl, he, bytes_ofBlk hb (Mac.chg_all HF.out.2.2 (by decide)) (by rw [Mac.chg_len, HF.out.2.1]) (by decide)⟩
    refine GoodAll.cons ?_ ?_
    · intro r wx hR hx
      obtain ⟨h1, _⟩ := hx
      replace h1 : r (.tmp 7) = (.pointer (some ⟨ib, 0, none⟩)) := h1
      exact give_of (exec_sliceA rfl Tryd.underlying25 h1 (by decide)) ⟨Ext.refl _, rfl⟩
    refine GoodAll.cons ?_ ?_
    · intro r wx hR hx
      obtain ⟨h1, h2, _⟩ := hx
      replace h1 : ((fun wx v => BytesAt wx v (Mac.chg F 92)) : Fact) wx (r (.tmp 19)) := h1
      replace h2 : r (.tmp 20) = (.slice (some ⟨ib, 0, none⟩) 32 32) := h2
      obtain ⟨x1, q1, e1, _, _⟩ := BytesAt.form h1
      refine give_of (v := .slice (some ⟨wx.heap.size, 0, none⟩) 2 2) (w' := wx.alloc (.cells #[r (.tmp 19), r (.tmp 20)] 22)) (by simp [execOp, e1, h2, go_sem]) ⟨Ext.alloc _ _, PartsOf.two wx _ rfl h1 (by rw [h2]; exact bytes_ofBlk (HB10 hR) HI.out.2.2 HI.out.2.1 (by decide))⟩
    refine GoodAll.cons ?_ ?_
    · intro r wx hR hx
      obtain ⟨h1, h2, _⟩ := hx
      replace h1 : r (.func 16) = .func (.func 16) #[] #[] := h1
      replace h2 : ((fun wx v => PartsOf wx v [Mac.chg F 92, I]) : Fact) wx (r (.tmp 21)) := h2
      refine give_func #[r (.tmp 21)] rfl h1 Tryd.call16 (by simp) ?_
      refine (sum_any (ls := [Mac.chg F 92, I]) (HT10 hR) h2 (by simp [Mac.chg_len, HF.out.2.1, HI.out.2.1])).mono ?_
      rintro e w' ⟨rfl, he⟩
      exact ⟨_, rfl, he, by rw [show [Mac.chg F 92, I].flatten = Mac.chg F 92 ++ I by simp, ← HD.out.1]; rfl⟩
    exact GoodAll.nil
  · intro r wx hR hx
    obtain ⟨h1, h2, _⟩ := hx
    replace h1 : r (.tmp 4) = (.pointer (some ⟨w.heap.size, 0, none⟩)) := h1
    replace h2 : r (.tmp 22) = (.agg (bA D)) := h2
    exact give_skip (w' := wx.setRow w.heap.size (bA D)) (by rw [← putIn_all (bA (List.replicate 32 0)) (bA D) (by rw [bA_size, bA_size, HD.out.2]; rfl)]; exact exec_store row25 rfl h1 h2 (HB1 hR) (by rw [bA_size, HD.out.2]) (by rw [bA_size]; decide) (bA_one _)) ⟨(HB1 hR).row _, KeepBut.row _ _ _⟩
  · intro vs w11 w12 aY hR11 hE hold ha
    have hv0 : vs 0 = (.agg (bA F)) := hold.at 0
    have hv2 : vs 2 = (.slice (some ⟨ib, 0, none⟩) 32 32) := hold.at 2
    have hv4 : vs 4 = (.agg (bA D)) := hold.at 4
    obtain ⟨hb12, hk12⟩ := hE
    have HE12 : Hid (Ext w w12) := (HE10.out.trans ((Ext.drew _).trans hR11)).of_but hk12 (fun k e => by subst e; exact Nat.le_refl _)
    simp only [putAll, Act.put, hv0, hv2, hv4, List.setIfInBounds_toArray, List.set_cons_succ, List.set_cons_zero] at ha
    subst ha
    clear hold
    refine ‹∀ (a : Act) (w : World), Code.wp Tryd.prog _ _ a w → _› _ _ ?_
    go_wp2
    refine bodyPost_ret (v := .agg (bA D)) (results_cell_row (fn := Tryd.f9) (p := 4) (by rfl) _ _ w.heap.size 25 _ (0, 0) _ rfl hb12 Tryd.underlying25 rfl (by rw [bA_size, HD.out.2]; kernel_rfl)) rfl ⟨rfl, HE12.out⟩
end Go.Proofs.YtaklbnaaoebknaaDoor
