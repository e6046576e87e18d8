/- The law MacParts walked: it answers true. Condition: the tables hold what the text lays. -/
import Derived.Test.YtaklbnaaoebknaaDoorAlive
namespace Go.Proofs.YtaklbnaaoebknaaDoor
open Go Go.RowKit
set_option linter.unusedVariables false
set_option linter.unusedSimpArgs false
set_option maxRecDepth 100000

set_option maxHeartbeats 4000000 in
theorem parts_walk (kv v : Value) (K : List Nat) (n : Nat) (L : Nat → List Nat) (w : World) (hT : Tabs w) (hk : BytesAt w kv K) (hv : PartsArg w v n L) :
    Calls Tryd.prog 7 #[kv, v] w fun e w' => e = .returned (.bool true) ∧ Ext w w' := by
  obtain ⟨hnm, a, cap, rfl, hc⟩ := hv
  unfold maxLen at hnm
  have HC : Hid (∀ i, i < n → ∃ b off u, a = some ⟨b, off, none⟩ ∧ w.cell? ⟨b, off + i, none⟩ = some u ∧ BytesAt w u (L i)) := hc
  have HT : Hid (Tabs w) := hT
  have HK : Hid (BytesAt w kv K) := hk
  have hKm : K.length ≤ 9223372036854775807 := by have := hk.2.1; unfold maxLen at this; omega
  obtain ⟨ka, kc, rfl, _, _⟩ := hk.form
  rename_i z1 z2
  clear hc hT hk z1 z2
  go_enter Tryd.func7, Tryd.ntmps7
  go_wp2_with (first
    | (go_at_call 8; refine (alive_any _ HT.out).mono ?_; rintro e w1 ⟨rfl, he1⟩))
  have HO : Hid (OwnB (w1.alloc (.cells #[] 5)) w1.heap.size 5 (.slice (some ⟨w1.heap.size, 0, none⟩) 0 0) [] ∧ Ext w (w1.alloc (.cells #[] 5)) ∧ w.heap.size ≤ w1.heap.size) := ⟨OwnB.made #[] [] rfl (Nat.le_refl _) rfl (by simp) (by simp) rfl, he1.trans (Ext.alloc _ _), he1.size⟩
  clear he1
  go_loopg [5, 14] 22 (fun g s t wr => ∃ (i ga len cp : Nat), i ≤ 21 ∧ i ≤ n ∧ g = 22 - i ∧ t = .int .i64 (i : Int) ∧ s = .slice (some ⟨ga, 0, none⟩) len cp ∧ Hid (OwnB wr w1.heap.size 5 (.slice (some ⟨ga, 0, none⟩) len cp) (jo L i) ∧ Ext w wr ∧ (jo L i).length ≤ 200 * i))
  case atStart => exact ⟨0, w1.heap.size, 0, 0, by omega, Nat.zero_le _, rfl, rfl, rfl, HO.out.1, HO.out.2.1, by simp [jo]⟩
  case round =>
    obtain ⟨i, ga, len, cp, hi21, hin, rfl, rfl, rfl, HR⟩ := hrel
    by_cases hlt : i < n
    · have hd : decide ((i : Int) < (n : Int)) = true := decide_eq_true (by omega)
      obtain ⟨b, off, u, rfl, hu, hbu⟩ := HC.out i hlt
      have hur := HR.out.2.1.cell hu
      have HBU : Hid (BytesAt w u (L i)) := hbu
      have hul : (L i).length ≤ 9223372036854775807 := by have := hbu.2.1; unfold maxLen at this; omega
      obtain ⟨ua, uc, rfl, _, _⟩ := hbu.form
      clear hbu hu
      by_cases h20 : i > 20
      · have hg1 : decide ((i : Int) > 20) = true := decide_eq_true (by omega)
        go_wp2
        go_ret
        exact ⟨rfl, HR.out.2.1⟩
      · have hg1 : decide ((i : Int) > 20) = false := decide_eq_false (by omega)
        by_cases h200 : (L i).length > 200
        · have hg2 : decide (((L i).length : Int) > 200) = true := decide_eq_true (by omega)
          go_wp2
          go_ret
          exact ⟨rfl, HR.out.2.1⟩
        · have hg2 : decide (((L i).length : Int) > 200) = false := decide_eq_false (by omega)
          have HW : Hid (w.heap.size ≤ w1.heap.size ∧ (jo L i).length ≤ 4200 ∧ (L i).length ≤ 200) := ⟨HO.out.2.2, by have := HR.out.2.2; omega, by omega⟩
          have HGA : Hid (w1.heap.size ≤ ga) := HR.out.1.blk (g := ga) (by simp [blockOf])
          go_wp2_with (first
            | (at_builtin; refine wl_appendG byteT rfl _ _ rfl w1.heap.size _ _ _ (jo L i) (L i) rfl HR.out.1 (HBU.out.ext HR.out.2.1) (by have := HW.out; omega) ?_; intro ga2 cp2 w3 ho3 hk3 hg3; have HE3 : Hid (Ext w w3) := HR.out.2.1.of_but hk3 (fun k e => by subst e; exact Nat.le_trans HW.out.1 HGA.out)))
          go_roundg (22 - (i + 1))
          case measure => omega
          case rel =>
            refine ⟨i + 1, ga2, _, cp2, by omega, by omega, rfl, by simp, rfl, ?_, HE3.out, ?_⟩
            · rw [jo_succ]; simpa using ho3
            · rw [jo_succ, List.length_append]; have := HR.out.2.2; have := HW.out; omega
    · have hd : decide ((i : Int) < (n : Int)) = false := decide_eq_false (by omega)
      obtain rfl : i = n := by omega
      by_cases h300 : K.length > 300
      · have hg3 : decide ((K.length : Int) > 300) = true := decide_eq_true (by omega)
        go_wp2
        go_ret
        exact ⟨rfl, HR.out.2.1⟩
      have hg3 : decide ((K.length : Int) > 300) = false := decide_eq_false (by omega)
      obtain ⟨D, hD⟩ : ∃ D, D = Mac.tag K (jo L i) := ⟨_, rfl⟩
      have HD : Hid (D = Mac.tag K (jo L i) ∧ D.length = 32 ∧ Sha.AllB D) := ⟨hD, by rw [hD]; exact Mac.tag_len _ _, by rw [hD]; exact Mac.tag_all _ _⟩
      clear hD
      have HP : Hid (PartsOf w (.slice a i cap) ((List.range i).map L)) := ⟨by simp; omega, a, cap, by simp, fun j hj => by
        have hj' : j < i := by simpa using hj
        obtain ⟨b, off, u, e, hu, hbu⟩ := HC.out j hj'
        exact ⟨b, off, u, e, hu, by simpa [List.getD_eq_getElem?_getD, hj'] using hbu⟩⟩
      have HB : Hid (K.length ≤ 90000 ∧ ((List.range i).map L).flatten.length ≤ 80000 ∧ ((List.range i).map L).flatten = jo L i ∧ (jo L i).length ≤ 80000) := by
        have h1 : ((List.range i).map L).flatten = jo L i := rfl
        refine ⟨by omega, ?_, h1, ?_⟩
        · rw [h1]; have := HR.out.2.2; omega
        · have := HR.out.2.2; omega
      go_wp2_with (first
        | (go_at_call 9; refine (macSum_one rfl (HT.out.ext HR.out.2.1) (HK.out.ext HR.out.2.1) HR.out.1.bytes HB.out.1 HB.out.2.2.2).mono ?_; rintro e w4 ⟨rfl, he4⟩; rw [← HD.out.1])
        | (refine wl_alloc rfl rfl zero25 ?_; intro w5 hb5 he5 hx; clear hx; refine wl_store (D := bA D) rfl row25 rfl rfl rfl hb5 (by rw [bA_size, HD.out.2.1]) rfl (bA_one _) ?_; intro w6 hb6 hk6 hx; clear hx; have he6 := he5.of_but hk6 (fun k e => by subst e; exact Nat.le_refl _); clear hk6 he5 hb5))
      have HE6 : Hid (Ext w w6) := (HR.out.2.1.trans he4).trans he6
      generalize w4.heap.size = db at *
      have HDx : ∀ {wx : World}, Ext w6.drew wx → Blk wx db (bA D) 25 := fun hx => hb6.ext ((Ext.drew _).trans hx)
      have HTx : ∀ {wx : World}, Ext w6.drew wx → Tabs wx := fun hx => HT.out.ext (HE6.out.trans ((Ext.drew _).trans hx))
      have HKx : ∀ {wx : World}, Ext w6.drew wx → BytesAt wx (.slice ka K.length kc) K := fun hx => HK.out.ext (HE6.out.trans ((Ext.drew _).trans hx))
      have HPx : ∀ {wx : World}, Ext w6.drew wx → PartsOf wx (.slice a i cap) ((List.range i).map L) := fun hx => HP.out.ext (HE6.out.trans ((Ext.drew _).trans hx))
      refine wp_region_facts (fun t => bif Nat.ble 37 t && Nat.ble t 47 then some (t - 37) else bif Nat.beq t 4 then some 11 else none) 48 Ext
        [Is (.slice ka K.length kc),
         Is (.slice a i cap),
         Is (.agg (bA D)),
         Is (.agg (bA D)),
         Is (.bool true),
         Is (.bool true),
         Is (.slice (some ⟨db, 0, none⟩) 32 32),
         Is (.slice ka K.length kc),
         Is (.slice a i cap),
         Is (.bool true),
         Is (.bool true),
         Is (.bool true)]
        rfl (by kernel_rfl) (by kernel_rfl) rfl Ext.refl (fun _ _ _ => Ext.trans) ?_ ?_ ?_
      · exact KeepAll.is (KeepAll.is (KeepAll.is (KeepAll.is (KeepAll.is (KeepAll.is (KeepAll.is (KeepAll.is (KeepAll.is (KeepAll.is (KeepAll.is (KeepAll.is (KeepAll.nil))))))))))))
      · refine GoodAll.cons ?_ ?_
        · intro r wx hR hx
          obtain ⟨h1, _⟩ := hx
          replace h1 : r (.tmp 0) = (.slice ka K.length kc) := h1
          exact give_move (.inl rfl) ⟨Ext.refl _, h1⟩
        refine GoodAll.cons ?_ ?_
        · intro r wx hR hx
          obtain ⟨h1, _⟩ := hx
          replace h1 : r (.tmp 1) = (.slice a i cap) := h1
          exact give_move (.inl rfl) ⟨Ext.refl _, h1⟩
        refine GoodAll.cons ?_ ?_
        · intro r wx hR hx
          obtain ⟨h1, h2, h3, _⟩ := hx
          replace h1 : r (.func 9) = .func (.func 9) #[] #[] := h1
          replace h2 : r (.tmp 37) = (.slice ka K.length kc) := h2
          replace h3 : r (.tmp 38) = (.slice a i cap) := h3
          refine give_func #[.slice ka K.length kc, .slice a i cap] rfl h1 Tryd.call9 (by simp [h2, h3]) ?_
          refine (macSum_any (HTx hR) (HKx hR) (HPx hR) HB.out.1 HB.out.2.1).mono ?_
          rintro e w' ⟨rfl, he⟩
          exact ⟨_, rfl, he, by rw [HB.out.2.2.1, ← HD.out.1]; rfl⟩
        refine GoodAll.cons ?_ ?_
        · intro r wx hR hx
          obtain ⟨h1, _⟩ := hx
          replace h1 : r (.tmp 8) = (.pointer (some ⟨db, 0, none⟩)) := h1
          exact give_of (exec_loadW row25 rfl h1 (HDx hR) (by rw [bA_size, HD.out.2.1])) ⟨Ext.refl _, rfl⟩
        refine GoodAll.cons ?_ ?_
        · intro r wx hR hx
          obtain ⟨h1, h2, _⟩ := hx
          replace h1 : r (.tmp 39) = (.agg (bA D)) := h1
          replace h2 : r (.tmp 40) = (.agg (bA D)) := h2
          exact give_of (exec_eqlA wx rfl h1 h2 HD.out.2.1 HD.out.2.2) ⟨Ext.refl _, rfl⟩
        refine GoodAll.cons ?_ ?_
        · intro r wx hR hx
          obtain ⟨h1, _⟩ := hx
          replace h1 : r (.tmp 41) = (.bool true) := h1
          exact give_move (.inl rfl) ⟨Ext.refl _, h1⟩
        refine GoodAll.cons ?_ ?_
        · intro r wx hR hx
          obtain ⟨h1, _⟩ := hx
          replace h1 : r (.tmp 8) = (.pointer (some ⟨db, 0, none⟩)) := h1
          intro gb hgb
          refine guard_in (b := gb) (want := true) hgb ?_
          exact give_of (exec_sliceA rfl Tryd.underlying25 h1 (by decide)) ⟨Ext.refl _, rfl⟩
        refine GoodAll.cons ?_ ?_
        · intro r wx hR hx
          obtain ⟨h1, _⟩ := hx
          replace h1 : r (.tmp 0) = (.slice ka K.length kc) := h1
          intro gb hgb
          refine guard_in (b := gb) (want := true) hgb ?_
          exact give_move (.inl rfl) ⟨Ext.refl _, h1⟩
        refine GoodAll.cons ?_ ?_
        · intro r wx hR hx
          obtain ⟨h1, _⟩ := hx
          replace h1 : r (.tmp 1) = (.slice a i cap) := h1
          intro gb hgb
          refine guard_in (b := gb) (want := true) hgb ?_
          exact give_move (.inl rfl) ⟨Ext.refl _, h1⟩
        refine GoodAll.cons ?_ ?_
        · intro r wx hR hx
          obtain ⟨h1, h2, h3, h4, _⟩ := hx
          replace h1 : r (.func 15) = .func (.func 15) #[] #[] := h1
          replace h2 : r (.tmp 43) = (.slice (some ⟨db, 0, none⟩) 32 32) := h2
          replace h3 : r (.tmp 44) = (.slice ka K.length kc) := h3
          replace h4 : r (.tmp 45) = (.slice a i cap) := h4
          intro gb hgb
          refine guard_in (b := gb) (want := true) hgb ?_
          refine give_func #[.slice (some ⟨db, 0, none⟩) 32 32, .slice ka K.length kc, .slice a i cap] rfl h1 Tryd.call15 (by simp [h2, h3, h4]) ?_
          refine (check_any (HTx hR) (bytes_ofBlk (HDx hR) HD.out.2.2 HD.out.2.1 (by decide)) (HKx hR) (HPx hR) HB.out.1 HB.out.2.1).mono ?_
          rintro e w' ⟨rfl, he⟩
          exact ⟨_, rfl, he, by rw [HB.out.2.2.1, ← HD.out.1, decide_eq_true rfl]; rfl⟩
        refine GoodAll.cons ?_ ?_
        · intro r wx hR hx
          obtain ⟨h1, h2, h3, _⟩ := hx
          replace h1 : r (.tmp 42) = (.bool true) := h1
          replace h2 : r (.tmp 46) = (.bool true) := h2
          replace h3 : r (.const (.bool false)) = .bool false := h3
          exact give_pick rfl h1 ⟨Ext.refl _, h2⟩
        refine GoodAll.cons ?_ ?_
        · intro r wx hR hx
          obtain ⟨h1, _⟩ := hx
          replace h1 : r (.tmp 47) = (.bool true) := h1
          exact give_move (.inr rfl) ⟨Ext.refl _, h1⟩
        exact GoodAll.nil
      · intro vs2 w7 a7 hR2 hold2 ha2
        have hv : vs2 11 = .bool true := hold2.at 11
        refine ‹∀ (a : Act) (w : World), Code.wp Tryd.prog Code.ret _ a w → _› _ _ ?_
        refine wp_ret ?_
        have hs : a7.tmps[4]? = some (.bool true) := by rw [ha2, ← hv]; kernel_rfl
        have hdf : a7.defers = [] := by rw [ha2]; exact putAll_defers _ _ _ _
        clear ha2
        refine bodyPost_ret (v := .bool true) ?_ hdf ⟨rfl, HE6.out.trans ((Ext.drew _).trans hR2)⟩
        simp [results, Tryd.results7, go_sem, hs]
end Go.Proofs.YtaklbnaaoebknaaDoor
