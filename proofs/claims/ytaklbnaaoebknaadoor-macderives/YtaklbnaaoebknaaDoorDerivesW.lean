/- The law MacDerives walked: it answers true. Condition: the tables hold what the text lays. -/
import Derived.Test.YtaklbnaaoebknaaDoorDer1
import Derived.Test.YtaklbnaaoebknaaDoorDer3
import Derived.Test.YtaklbnaaoebknaaDoorAlive
namespace Go.Proofs.YtaklbnaaoebknaaDoor
open Go Go.RowKit
set_option linter.unusedVariables false
set_option linter.unusedSimpArgs false
set_option maxRecDepth 100000

set_option maxHeartbeats 4000000 in
theorem derives_walk (av bv v : Value) (A B : List Nat) (n : Nat) (L : Nat → List Nat) (w : World) (hT : Tabs w ∧ Cube w) (ha : BytesAt w av A) (hb : BytesAt w bv B) (hv : PartsArg w v n L) :
    Calls Tryd.prog 4 #[av, bv, v] w fun e w' => e = .returned (.bool true) ∧ Ext w w' := by
  obtain ⟨hnm, a, cap, rfl, hc⟩ := hv
  unfold maxLen at hnm
  have HC : Hid (∀ i, i < n → ∃ b off u, a = some ⟨b, off, none⟩ ∧ w.cell? ⟨b, off + i, none⟩ = some u ∧ BytesAt w u (L i)) := hc
  have HT : Hid (Tabs w ∧ Cube w) := hT
  have HK : Hid (BytesAt w av A ∧ BytesAt w bv B) := ⟨ha, hb⟩
  have hAm : A.length ≤ 9223372036854775807 := by have := ha.2.1; unfold maxLen at this; omega
  have hBm : B.length ≤ 9223372036854775807 := by have := hb.2.1; unfold maxLen at this; omega
  obtain ⟨aa, ac, rfl, _, _⟩ := ha.form
  obtain ⟨ba, bc, rfl, _, _⟩ := hb.form
  rename_i z1 z2 z3 z4
  clear hc hT ha hb z1 z2 z3 z4
  go_enter Tryd.func4, Tryd.ntmps4
  go_wp2_with (first
    | (go_at_call 8; refine (alive_any _ HT.out.1).mono ?_; rintro e w1 ⟨rfl, he1⟩))
  have HO : Hid (OwnB (w1.alloc (.cells #[] 5)) w1.heap.size 5 (.slice (some ⟨w1.heap.size, 0, none⟩) 0 0) [] ∧ Ext w (w1.alloc (.cells #[] 5)) ∧ w.heap.size ≤ w1.heap.size) := ⟨OwnB.made #[] [] rfl (Nat.le_refl _) rfl (by simp) (by simp) rfl, he1.trans (Ext.alloc _ _), he1.size⟩
  clear he1
  go_loopg [7, 16] 12 (fun g s t wr => ∃ (i ga len cp : Nat), i ≤ 11 ∧ i ≤ n ∧ g = 12 - i ∧ t = .int .i64 (i : Int) ∧ s = .slice (some ⟨ga, 0, none⟩) len cp ∧ Hid (OwnB wr w1.heap.size 5 (.slice (some ⟨ga, 0, none⟩) len cp) (jo L i) ∧ Ext w wr ∧ (jo L i).length ≤ 200 * i))
  case atStart => exact ⟨0, w1.heap.size, 0, 0, by omega, Nat.zero_le _, rfl, rfl, rfl, HO.out.1, HO.out.2.1, by simp [jo]⟩
  case round =>
    obtain ⟨i, ga, len, cp, hi21, hin, rfl, rfl, rfl, HR⟩ := hrel
    by_cases hlt : i < n
    · have hd : decide ((i : Int) < (n : Int)) = true := decide_eq_true (by omega)
      obtain ⟨b, off, u, rfl, hu, hbu⟩ := HC.out i hlt
      have hur := HR.out.2.1.cell hu
      have HBU : Hid (BytesAt w u (L i)) := hbu
      have hul : (L i).length ≤ 9223372036854775807 := by have := hbu.2.1; unfold maxLen at this; omega
      obtain ⟨ua, uc, rfl, _, _⟩ := hbu.form
      clear hbu hu
      by_cases h20 : i > 10
      · have hg1 : decide ((i : Int) > 10) = true := decide_eq_true (by omega)
        go_wp2
        go_ret
        exact ⟨rfl, HR.out.2.1⟩
      · have hg1 : decide ((i : Int) > 10) = false := decide_eq_false (by omega)
        by_cases h200 : (L i).length > 200
        · have hg2 : decide (((L i).length : Int) > 200) = true := decide_eq_true (by omega)
          go_wp2
          go_ret
          exact ⟨rfl, HR.out.2.1⟩
        · have hg2 : decide (((L i).length : Int) > 200) = false := decide_eq_false (by omega)
          have HW : Hid (w.heap.size ≤ w1.heap.size ∧ (jo L i).length ≤ 4200 ∧ (L i).length ≤ 200) := ⟨HO.out.2.2, by have := HR.out.2.2; omega, by omega⟩
          have HGA : Hid (w1.heap.size ≤ ga) := HR.out.1.blk (g := ga) (by simp [blockOf])
          go_wp2_with (first
            | (at_builtin; refine wl_appendG byteT rfl _ _ rfl w1.heap.size _ _ _ (jo L i) (L i) rfl HR.out.1 (HBU.out.ext HR.out.2.1) (by have := HW.out; omega) ?_; intro ga2 cp2 w3 ho3 hk3 hg3; have HE3 : Hid (Ext w w3) := HR.out.2.1.of_but hk3 (fun k e => by subst e; exact Nat.le_trans HW.out.1 HGA.out)))
          go_roundg (12 - (i + 1))
          case measure => omega
          case rel =>
            refine ⟨i + 1, ga2, _, cp2, by omega, by omega, rfl, by simp, rfl, ?_, HE3.out, ?_⟩
            · rw [jo_succ]; simpa using ho3
            · rw [jo_succ, List.length_append]; have := HR.out.2.2; have := HW.out; omega
    · have hd : decide ((i : Int) < (n : Int)) = false := decide_eq_false (by omega)
      obtain rfl : i = n := by omega
      by_cases hA200 : A.length > 200
      · have hg3 : decide ((A.length : Int) > 200) = true := decide_eq_true (by omega)
        go_wp2
        go_ret
        exact ⟨rfl, HR.out.2.1⟩
      have hg3 : decide ((A.length : Int) > 200) = false := decide_eq_false (by omega)
      by_cases hB200 : B.length > 200
      · have hg4 : decide ((B.length : Int) > 200) = true := decide_eq_true (by omega)
        go_wp2
        go_ret
        exact ⟨rfl, HR.out.2.1⟩
      have hg4 : decide ((B.length : Int) > 200) = false := decide_eq_false (by omega)
      have HP : Hid (PartsOf w (.slice a i cap) ((List.range i).map L)) := ⟨by simp; omega, a, cap, by simp, fun j hj => by
        have hj' : j < i := by simpa using hj
        obtain ⟨b, off, u, e, hu, hbu⟩ := HC.out j hj'
        exact ⟨b, off, u, e, hu, by simpa [List.getD_eq_getElem?_getD, hj'] using hbu⟩⟩
      obtain ⟨J, hJ⟩ : ∃ J, J = jo L i := ⟨_, rfl⟩
      have HJ : Hid (((List.range i).map L).flatten = J) := show _ = _ by rw [hJ]; rfl
      rw [← hJ] at HR
      clear hJ
      obtain ⟨D, hD⟩ : ∃ D, D = Sha.dgst (Mac.pair A B ++ J) := ⟨_, rfl⟩
      have HD : Hid (D = Sha.dgst (Mac.pair A B ++ J)) := hD
      clear hD
      have HL : Hid (A.length ≤ 5000 ∧ B.length ≤ 5000 ∧ J.length ≤ 9000 ∧ A.length ≤ 200) := ⟨by omega, by omega, by have := HR.out.2.2; omega, by omega⟩
      go_wp2_with (first
        | (go_at_call 13; refine (derive_any (HT.out.1.ext HR.out.2.1) (HK.out.1.ext HR.out.2.1) (HK.out.2.ext HR.out.2.1) (HP.out.ext HR.out.2.1) (by have := HL.out; omega) (by have := HL.out; omega) (by rw [HJ.out]; have := HL.out; omega)).mono ?_; rintro e w4 ⟨v4, rfl, hv4, he4⟩; rw [HJ.out, ← HD.out] at hv4; obtain ⟨da, dc, rfl, _, _⟩ := hv4.form))
      have HE4 : Hid (Ext w w4) := HR.out.2.1.trans he4
      have HDx : ∀ {wx : World}, Ext w4.drew wx → BytesAt wx (.slice da D.length dc) D := fun hx => hv4.ext ((Ext.drew _).trans hx)
      have HTx : ∀ {wx : World}, Ext w4.drew wx → Tabs wx := fun hx => HT.out.1.ext (HE4.out.trans ((Ext.drew _).trans hx))
      have HCx : ∀ {wx : World}, Ext w4.drew wx → Cube wx := fun hx => HT.out.2.ext (HE4.out.trans ((Ext.drew _).trans hx))
      have HAx : ∀ {wx : World}, Ext w4.drew wx → BytesAt wx (.slice aa A.length ac) A := fun hx => HK.out.1.ext (HE4.out.trans ((Ext.drew _).trans hx))
      have HBx : ∀ {wx : World}, Ext w4.drew wx → BytesAt wx (.slice ba B.length bc) B := fun hx => HK.out.2.ext (HE4.out.trans ((Ext.drew _).trans hx))
      have HJx : ∀ {wx : World}, Ext w4.drew wx → BytesAt wx (.slice (some ⟨ga, 0, none⟩) len cp) J := fun hx => HR.out.1.bytes.ext (he4.trans ((Ext.drew _).trans hx))
      refine wp_region_facts (fun t => bif Nat.ble 44 t && Nat.ble t 62 then some (t - 44) else bif Nat.beq t 6 then some 19 else none) 63 Ext
        [Is (.slice da D.length dc),
         Is (.string (strOf D)),
         Is (.slice aa A.length ac),
         Is (.slice ba B.length bc),
         Is (.slice (some ⟨ga, 0, none⟩) len cp),
         (fun wx v => BytesAt wx v D),
         Is (.string (strOf D)),
         Is (.bool true),
         Is (.bool true),
         Is (.slice da D.length dc),
         Is (.string (strOf D)),
         Is (.slice ba B.length bc),
         Is (.slice aa A.length ac),
         Is (.slice (some ⟨ga, 0, none⟩) len cp),
         (fun wx v => PartsOf wx v [J]),
         (fun wx v => BytesAt wx v D),
         Is (.string (strOf D)),
         Is (.bool true),
         Is (.bool true),
         Is (.bool true)]
        rfl (by kernel_rfl) (by kernel_rfl) rfl Ext.refl (fun _ _ _ => Ext.trans) ?_ ?_ ?_
      · exact KeepAll.is (KeepAll.is (KeepAll.is (KeepAll.is (KeepAll.is (KeepAll.cons (fun _ _ _ hr h => BytesAt.ext h hr) (KeepAll.is (KeepAll.is (KeepAll.is (KeepAll.is (KeepAll.is (KeepAll.is (KeepAll.is (KeepAll.is (KeepAll.cons (fun _ _ _ hr h => PartsOf.ext h hr) (KeepAll.cons (fun _ _ _ hr h => BytesAt.ext h hr) (KeepAll.is (KeepAll.is (KeepAll.is (KeepAll.is (KeepAll.nil))))))))))))))))))))
      · refine GoodAll.cons ?_ ?_
        · intro r wx hR hx
          obtain ⟨h1, _⟩ := hx
          replace h1 : r (.tmp 10) = (.slice da D.length dc) := h1
          exact give_move (.inl rfl) ⟨Ext.refl _, h1⟩
        refine GoodAll.cons ?_ ?_
        · intro r wx hR hx
          obtain ⟨h1, _⟩ := hx
          replace h1 : r (.tmp 44) = (.slice da D.length dc) := h1
          exact give_of (exec_string byteT Tryd.underlying9 rfl wx _ (by rw [h1]; exact HDx hR)) ⟨Ext.refl _, rfl⟩
        refine GoodAll.cons ?_ ?_
        · intro r wx hR hx
          obtain ⟨h1, _⟩ := hx
          replace h1 : r (.tmp 0) = (.slice aa A.length ac) := h1
          exact give_move (.inl rfl) ⟨Ext.refl _, h1⟩
        refine GoodAll.cons ?_ ?_
        · intro r wx hR hx
          obtain ⟨h1, _⟩ := hx
          replace h1 : r (.tmp 1) = (.slice ba B.length bc) := h1
          exact give_move (.inl rfl) ⟨Ext.refl _, h1⟩
        refine GoodAll.cons ?_ ?_
        · intro r wx hR hx
          obtain ⟨h1, _⟩ := hx
          replace h1 : r (.tmp 7) = (.slice (some ⟨ga, 0, none⟩) len cp) := h1
          exact give_move (.inl rfl) ⟨Ext.refl _, h1⟩
        refine GoodAll.cons ?_ ?_
        · intro r wx hR hx
          obtain ⟨h1, h2, h3, h4, _⟩ := hx
          replace h1 : r (.func 14) = .func (.func 14) #[] #[] := h1
          replace h2 : r (.tmp 46) = (.slice aa A.length ac) := h2
          replace h3 : r (.tmp 47) = (.slice ba B.length bc) := h3
          replace h4 : r (.tmp 48) = (.slice (some ⟨ga, 0, none⟩) len cp) := h4
          refine give_func #[.slice aa A.length ac, .slice ba B.length bc, .slice (some ⟨ga, 0, none⟩) len cp] rfl h1 Tryd.call14 (by simp [h2, h3, h4]) ?_
          refine (refDerive_any (HCx hR) (HAx hR) (HBx hR) (HJx hR) HL.out.1 HL.out.2.1 HL.out.2.2.1).mono ?_
          rintro e w' ⟨v, rfl, ho, he⟩
          exact ⟨_, rfl, he, by rw [← HD.out] at ho; exact ho.bytes⟩
        refine GoodAll.cons ?_ ?_
        · intro r wx hR hx
          obtain ⟨h1, _⟩ := hx
          replace h1 : ((fun wx v => BytesAt wx v D) : Fact) wx (r (.tmp 49)) := h1
          exact give_of (exec_string byteT Tryd.underlying9 rfl wx _ h1) ⟨Ext.refl _, rfl⟩
        refine GoodAll.cons ?_ ?_
        · intro r wx hR hx
          obtain ⟨h1, h2, _⟩ := hx
          replace h1 : r (.tmp 45) = (.string (strOf D)) := h1
          replace h2 : r (.tmp 50) = (.string (strOf D)) := h2
          exact give_of (by simp [execOp, h1, h2, go_sem]) ⟨Ext.refl _, rfl⟩
        refine GoodAll.cons ?_ ?_
        · intro r wx hR hx
          obtain ⟨h1, _⟩ := hx
          replace h1 : r (.tmp 51) = (.bool true) := h1
          exact give_move (.inl rfl) ⟨Ext.refl _, h1⟩
        refine GoodAll.cons ?_ ?_
        · intro r wx hR hx
          obtain ⟨h1, _⟩ := hx
          replace h1 : r (.tmp 10) = (.slice da D.length dc) := h1
          intro gb hgb
          refine guard_in (b := gb) (want := true) hgb ?_
          exact give_move (.inl rfl) ⟨Ext.refl _, h1⟩
        refine GoodAll.cons ?_ ?_
        · intro r wx hR hx
          obtain ⟨h1, _⟩ := hx
          replace h1 : r (.tmp 53) = (.slice da D.length dc) := h1
          intro gb hgb
          refine guard_in (b := gb) (want := true) hgb ?_
          exact give_of (exec_string byteT Tryd.underlying9 rfl wx _ (by rw [h1]; exact HDx hR)) ⟨Ext.refl _, rfl⟩
        refine GoodAll.cons ?_ ?_
        · intro r wx hR hx
          obtain ⟨h1, _⟩ := hx
          replace h1 : r (.tmp 1) = (.slice ba B.length bc) := h1
          intro gb hgb
          refine guard_in (b := gb) (want := true) hgb ?_
          exact give_move (.inl rfl) ⟨Ext.refl _, h1⟩
        refine GoodAll.cons ?_ ?_
        · intro r wx hR hx
          obtain ⟨h1, _⟩ := hx
          replace h1 : r (.tmp 0) = (.slice aa A.length ac) := h1
          intro gb hgb
          refine guard_in (b := gb) (want := true) hgb ?_
          exact give_move (.inl rfl) ⟨Ext.refl _, h1⟩
        refine GoodAll.cons ?_ ?_
        · intro r wx hR hx
          obtain ⟨h1, _⟩ := hx
          replace h1 : r (.tmp 7) = (.slice (some ⟨ga, 0, none⟩) len cp) := h1
          intro gb hgb
          refine guard_in (b := gb) (want := true) hgb ?_
          exact give_move (.inl rfl) ⟨Ext.refl _, h1⟩
        refine GoodAll.cons ?_ ?_
        · intro r wx hR hx
          obtain ⟨h1, _⟩ := hx
          replace h1 : r (.tmp 57) = (.slice (some ⟨ga, 0, none⟩) len cp) := h1
          intro gb hgb
          refine guard_in (b := gb) (want := true) hgb ?_
          refine give_of (v := .slice (some ⟨wx.heap.size, 0, none⟩) 1 1) (w' := wx.alloc (.cells #[.slice (some ⟨ga, 0, none⟩) len cp] 22)) (by simp [execOp, h1, go_sem]) ⟨Ext.alloc _ _, PartsOf.one wx _ rfl (HJx hR)⟩
        refine GoodAll.cons ?_ ?_
        · intro r wx hR hx
          obtain ⟨h1, h2, h3, h4, _⟩ := hx
          replace h1 : r (.func 13) = .func (.func 13) #[] #[] := h1
          replace h2 : r (.tmp 55) = (.slice ba B.length bc) := h2
          replace h3 : r (.tmp 56) = (.slice aa A.length ac) := h3
          replace h4 : ((fun wx v => PartsOf wx v [J]) : Fact) wx (r (.tmp 58)) := h4
          intro gb hgb
          refine guard_in (b := gb) (want := true) hgb ?_
          refine give_func #[.slice ba B.length bc, .slice aa A.length ac, r (.tmp 58)] rfl h1 Tryd.call13 (by simp [h2, h3]) ?_
          refine (derive_any (HTx hR) (HBx hR) (HAx hR) h4 (by have := HL.out; omega) (by have := HL.out; omega) (by have := HL.out; simp; omega)).mono ?_
          rintro e w' ⟨v, rfl, ho, he⟩
          exact ⟨_, rfl, he, by rw [show [J].flatten = J by simp, Mac.pair_comm, ← HD.out] at ho; exact ho⟩
        refine GoodAll.cons ?_ ?_
        · intro r wx hR hx
          obtain ⟨h1, _⟩ := hx
          replace h1 : ((fun wx v => BytesAt wx v D) : Fact) wx (r (.tmp 59)) := h1
          intro gb hgb
          refine guard_in (b := gb) (want := true) hgb ?_
          exact give_of (exec_string byteT Tryd.underlying9 rfl wx _ h1) ⟨Ext.refl _, rfl⟩
        refine GoodAll.cons ?_ ?_
        · intro r wx hR hx
          obtain ⟨h1, h2, _⟩ := hx
          replace h1 : r (.tmp 54) = (.string (strOf D)) := h1
          replace h2 : r (.tmp 60) = (.string (strOf D)) := h2
          intro gb hgb
          refine guard_in (b := gb) (want := true) hgb ?_
          exact give_of (by simp [execOp, h1, h2, go_sem]) ⟨Ext.refl _, rfl⟩
        refine GoodAll.cons ?_ ?_
        · intro r wx hR hx
          obtain ⟨h1, h2, h3, _⟩ := hx
          replace h1 : r (.tmp 52) = (.bool true) := h1
          replace h2 : r (.tmp 61) = (.bool true) := h2
          replace h3 : r (.const (.bool false)) = .bool false := h3
          exact give_pick rfl h1 ⟨Ext.refl _, h2⟩
        refine GoodAll.cons ?_ ?_
        · intro r wx hR hx
          obtain ⟨h1, _⟩ := hx
          replace h1 : r (.tmp 62) = (.bool true) := h1
          exact give_move (.inr rfl) ⟨Ext.refl _, h1⟩
        exact GoodAll.nil
      · intro vs2 w7 a7 hR2 hold2 ha2
        have hv : vs2 19 = .bool true := hold2.at 19
        refine ‹∀ (a : Act) (w : World), Code.wp Tryd.prog Code.ret _ a w → _› _ _ ?_
        refine wp_ret ?_
        have hs : a7.tmps[6]? = some (.bool true) := by rw [ha2, ← hv]; kernel_rfl
        have hdf : a7.defers = [] := by rw [ha2]; exact putAll_defers _ _ _ _
        clear ha2
        refine bodyPost_ret (v := .bool true) ?_ hdf ⟨rfl, HE4.out.trans ((Ext.drew _).trans hR2)⟩
        simp [results, Tryd.results4, go_sem, hs]
end Go.Proofs.YtaklbnaaoebknaaDoor
