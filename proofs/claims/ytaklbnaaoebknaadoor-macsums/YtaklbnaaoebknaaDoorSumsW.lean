/- The law MacSums walked: it answers true. Condition: the tables hold what the text lays. -/
import Derived.Test.YtaklbnaaoebknaaDoorR54
import Derived.Test.YtaklbnaaoebknaaDoorAlive
namespace Go.Proofs.YtaklbnaaoebknaaDoor
open Go Go.RowKit
set_option linter.unusedVariables false
set_option linter.unusedSimpArgs false
set_option maxRecDepth 100000

set_option maxHeartbeats 4000000 in
theorem sums_short (kv tv : Value) (K T : List Nat) (n : Int) (w : World) (hT : Tabs w) (hC : Cube w) (hk : BytesAt w kv K) (ht : BytesAt w tv T) (hK : K.length ≤ 500) (hTl : T.length ≤ 1000) :
    Calls Tryd.prog 3 #[kv, tv, .int .i64 n] w fun e w' => e = .returned (.bool true) ∧ Ext w w' := by
  have HA : Hid (Tabs w ∧ Cube w ∧ BytesAt w kv K ∧ BytesAt w tv T) := ⟨hT, hC, hk, ht⟩
  have HB : Hid (K.length ≤ 20000 ∧ T.length ≤ 10000 ∧ K.length ≤ 90000 ∧ T.length ≤ 80000) := ⟨by omega, by omega, by omega, by omega⟩
  obtain ⟨N, hN⟩ : ∃ N : Nat, IntKind.u64.wrap n = (N : Int) := ⟨(IntKind.u64.wrap n).toNat, by rw [IntKind.wrap_u64]; omega⟩
  have HN : Hid (IntKind.u64.wrap n = (N : Int)) := hN
  obtain ⟨M, hM⟩ : ∃ M, M = Mac.draw K N := ⟨_, rfl⟩
  have HM : Hid (M = Mac.draw K N) := hM
  obtain ⟨D, hD⟩ : ∃ D, D = Mac.tag K T := ⟨_, rfl⟩
  have HD : Hid (D = Mac.tag K T ∧ D.length = 32 ∧ Sha.AllB D) := ⟨hD, by rw [hD]; exact Mac.tag_len _ _, by rw [hD]; exact Mac.tag_all _ _⟩
  have i1 : decide ((K.length : Int) > 500) = false := decide_eq_false (by omega)
  have i2 : decide ((T.length : Int) > 1000) = false := decide_eq_false (by omega)
  obtain ⟨ka, kc, rfl, _, _⟩ := hk.form
  obtain ⟨ta, tc, rfl, _, _⟩ := ht.form
  rename_i z1 z2 z3 z4
  clear z1 z2 z3 z4 hT hC hk ht hD hM hN
  go_enter Tryd.func3, Tryd.ntmps3
  go_wp2_with (first
    | (go_at_call 8; refine (alive_any _ HA.out.1).mono ?_; rintro e w1 ⟨rfl, he1⟩)
    | (at_builtin; have q := ho2; clear q; refine wl_appendG byteT rfl _ _ rfl w2.heap.size w2.heap.size 0 0 [] T rfl (OwnB.made #[] [] rfl (Nat.le_refl _) rfl (by simp) (by simp) rfl) (HA.out.2.2.2.ext (HE2.out.trans (Ext.alloc _ _))) (by have := HB.out; simp; omega) ?_; intro gb cb w3 ho3 hk3 hg3; simp only [List.nil_append] at ho3 ⊢; have he3 : Ext w2 w3 := (Ext.alloc _ _).of_but hk3 (fun k e => by subst e; exact Nat.le_refl _))
    | (at_builtin; refine wl_appendG byteT rfl _ _ rfl w1.heap.size w1.heap.size 0 0 [] K rfl (OwnB.made #[] [] rfl (Nat.le_refl _) rfl (by simp) (by simp) rfl) (HA.out.2.2.1.ext (he1.trans (Ext.alloc _ _))) (by have := HB.out; simp; omega) ?_; intro ga ca w2 ho2 hk2 hg2; simp only [List.nil_append] at ho2 ⊢; have HE2 : Hid (Ext w w2) := he1.trans ((Ext.alloc _ _).of_but hk2 (fun k e => by subst e; exact Nat.le_refl _)))
    | (go_at_call 9; refine (macSum_one rfl (HA.out.1.ext (HE2.out.trans he3)) (ho2.bytes.ext he3) ho3.bytes HB.out.2.2.1 HB.out.2.2.2).mono ?_; rintro e w4 ⟨rfl, he4⟩; rw [← HD.out.1])
    | (refine wl_alloc rfl rfl zero25 ?_; intro w5 hb5 he5 hx; clear hx; refine wl_store (D := bA D) rfl row25 rfl rfl rfl hb5 (by rw [bA_size, HD.out.2.1]) rfl (bA_one _) ?_; intro w6 hb6 hk6 hx; clear hx; have he6 := he5.of_but hk6 (fun k e => by subst e; exact Nat.le_refl _); clear hk6 he5 hb5))
  have HE6 : Hid (Ext w w6) := ((HE2.out.trans he3).trans he4).trans he6
  have Hb6 : Hid (Blk w6 w4.heap.size (bA D) 25) := hb6
  have HO : Hid (BytesAt w6 (.slice (some ⟨ga, 0, none⟩) K.length ca) K ∧ BytesAt w6 (.slice (some ⟨gb, 0, none⟩) T.length cb) T) := ⟨((ho2.bytes.ext he3).ext he4).ext he6, (ho3.bytes.ext he4).ext he6⟩
  clear hb6 ho2 ho3 hk2 hk3 hg2 hg3 he1 he3 he4 he6 HE2
  generalize w4.heap.size = db at *
  have HDx : ∀ {wx : World}, Ext w6.drew wx → Blk wx db (bA D) 25 := fun hx => Hb6.out.ext ((Ext.drew _).trans hx)
  have HTx : ∀ {wx : World}, Ext w6.drew wx → Tabs wx := fun hx => HA.out.1.ext (HE6.out.trans ((Ext.drew _).trans hx))
  have HCx : ∀ {wx : World}, Ext w6.drew wx → Cube wx := fun hx => HA.out.2.1.ext (HE6.out.trans ((Ext.drew _).trans hx))
  have HKx : ∀ {wx : World}, Ext w6.drew wx → BytesAt wx (.slice ka K.length kc) K := fun hx => HA.out.2.2.1.ext (HE6.out.trans ((Ext.drew _).trans hx))
  have HTTx : ∀ {wx : World}, Ext w6.drew wx → BytesAt wx (.slice ta T.length tc) T := fun hx => HA.out.2.2.2.ext (HE6.out.trans ((Ext.drew _).trans hx))
  have HAx : ∀ {wx : World}, Ext w6.drew wx → BytesAt wx (.slice (some ⟨ga, 0, none⟩) K.length ca) K := fun hx => HO.out.1.ext ((Ext.drew _).trans hx)
  have HBx : ∀ {wx : World}, Ext w6.drew wx → BytesAt wx (.slice (some ⟨gb, 0, none⟩) T.length cb) T := fun hx => HO.out.2.ext ((Ext.drew _).trans hx)
  refine wp_region_facts (fun t => bif Nat.ble 30 t && Nat.ble t 59 then some (t - 30) else bif Nat.beq t 6 then some 30 else none) 60 Ext
    [Is (.slice (some ⟨db, 0, none⟩) 32 32),
     Is (.string (strOf D)),
     Is (.slice ka K.length kc),
     Is (.slice ta T.length tc),
     (fun wx v => BytesAt wx v D),
     Is (.string (strOf D)),
     Is (.bool true),
     Is (.bool true),
     Is (.slice (some ⟨ga, 0, none⟩) K.length ca),
     Is (.int .i64 n),
     Is (.int .u32 (M : Int)),
     Is (.slice ka K.length kc),
     Is (.int .i64 n),
     Is (.int .u32 (M : Int)),
     Is (.bool true),
     Is (.bool true),
     Is (.bool true),
     Is (.slice (some ⟨ga, 0, none⟩) K.length ca),
     Is (.string (strOf K)),
     Is (.slice ka K.length kc),
     Is (.string (strOf K)),
     Is (.bool true),
     Is (.bool true),
     Is (.bool true),
     Is (.slice (some ⟨gb, 0, none⟩) T.length cb),
     Is (.string (strOf T)),
     Is (.slice ta T.length tc),
     Is (.string (strOf T)),
     Is (.bool true),
     Is (.bool true),
     Is (.bool true)]
    rfl (by kernel_rfl) (by kernel_rfl) rfl Ext.refl (fun _ _ _ => Ext.trans) ?_ ?_ ?_
  · exact KeepAll.is (KeepAll.is (KeepAll.is (KeepAll.is (KeepAll.cons (fun _ _ _ hr h => BytesAt.ext h hr) (KeepAll.is (KeepAll.is (KeepAll.is (KeepAll.is (KeepAll.is (KeepAll.is (KeepAll.is (KeepAll.is (KeepAll.is (KeepAll.is (KeepAll.is (KeepAll.is (KeepAll.is (KeepAll.is (KeepAll.is (KeepAll.is (KeepAll.is (KeepAll.is (KeepAll.is (KeepAll.is (KeepAll.is (KeepAll.is (KeepAll.is (KeepAll.is (KeepAll.is (KeepAll.is (KeepAll.nil)))))))))))))))))))))))))))))))
  · refine GoodAll.cons ?_ ?_
    · intro r wx hR hx
      obtain ⟨h1, _⟩ := hx
      replace h1 : r (.tmp 9) = (.pointer (some ⟨db, 0, none⟩)) := h1
      exact give_of (exec_sliceA rfl Tryd.underlying25 h1 (by decide)) ⟨Ext.refl _, rfl⟩
    refine GoodAll.cons ?_ ?_
    · intro r wx hR hx
      obtain ⟨h1, _⟩ := hx
      replace h1 : r (.tmp 30) = (.slice (some ⟨db, 0, none⟩) 32 32) := h1
      exact give_of (exec_string byteT Tryd.underlying9 rfl wx _ (by rw [h1]; exact bytes_ofBlk (HDx hR) HD.out.2.2 HD.out.2.1 (by decide))) ⟨Ext.refl _, rfl⟩
    refine GoodAll.cons ?_ ?_
    · intro r wx hR hx
      obtain ⟨h1, _⟩ := hx
      replace h1 : r (.tmp 0) = (.slice ka K.length kc) := h1
      exact give_move (.inl rfl) ⟨Ext.refl _, h1⟩
    refine GoodAll.cons ?_ ?_
    · intro r wx hR hx
      obtain ⟨h1, _⟩ := hx
      replace h1 : r (.tmp 1) = (.slice ta T.length tc) := h1
      exact give_move (.inl rfl) ⟨Ext.refl _, h1⟩
    refine GoodAll.cons ?_ ?_
    · intro r wx hR hx
      obtain ⟨h1, h2, h3, _⟩ := hx
      replace h1 : r (.func 10) = .func (.func 10) #[] #[] := h1
      replace h2 : r (.tmp 32) = (.slice ka K.length kc) := h2
      replace h3 : r (.tmp 33) = (.slice ta T.length tc) := h3
      refine give_func #[.slice ka K.length kc, .slice ta T.length tc] rfl h1 Tryd.call10 (by simp [h2, h3]) ?_
      refine (refMac_any _ _ K T _ (HCx hR) (HKx hR) (HTTx hR) HB.out.1 HB.out.2.1).mono ?_
      rintro e w' ⟨v, rfl, ho, he⟩
      exact ⟨_, rfl, he, by rw [← HD.out.1] at ho; exact ho.bytes⟩
    refine GoodAll.cons ?_ ?_
    · intro r wx hR hx
      obtain ⟨h1, _⟩ := hx
      replace h1 : ((fun wx v => BytesAt wx v D) : Fact) wx (r (.tmp 34)) := h1
      exact give_of (exec_string byteT Tryd.underlying9 rfl wx _ h1) ⟨Ext.refl _, rfl⟩
    refine GoodAll.cons ?_ ?_
    · intro r wx hR hx
      obtain ⟨h1, h2, _⟩ := hx
      replace h1 : r (.tmp 31) = (.string (strOf D)) := h1
      replace h2 : r (.tmp 35) = (.string (strOf D)) := h2
      exact give_of (by simp [execOp, h1, h2, go_sem]) ⟨Ext.refl _, rfl⟩
    refine GoodAll.cons ?_ ?_
    · intro r wx hR hx
      obtain ⟨h1, _⟩ := hx
      replace h1 : r (.tmp 36) = (.bool true) := h1
      exact give_move (.inl rfl) ⟨Ext.refl _, h1⟩
    refine GoodAll.cons ?_ ?_
    · intro r wx hR hx
      obtain ⟨h1, _⟩ := hx
      replace h1 : r (.tmp 7) = (.slice (some ⟨ga, 0, none⟩) K.length ca) := h1
      intro gb hgb
      refine guard_in (b := gb) (want := true) hgb ?_
      exact give_move (.inl rfl) ⟨Ext.refl _, h1⟩
    refine GoodAll.cons ?_ ?_
    · intro r wx hR hx
      obtain ⟨h1, _⟩ := hx
      replace h1 : r (.tmp 2) = (.int .i64 n) := h1
      intro gb hgb
      refine guard_in (b := gb) (want := true) hgb ?_
      exact give_move (.inl rfl) ⟨Ext.refl _, h1⟩
    refine GoodAll.cons ?_ ?_
    · intro r wx hR hx
      obtain ⟨h1, h2, h3, _⟩ := hx
      replace h1 : r (.func 11) = .func (.func 11) #[] #[] := h1
      replace h2 : r (.tmp 38) = (.slice (some ⟨ga, 0, none⟩) K.length ca) := h2
      replace h3 : r (.tmp 39) = (.int .i64 n) := h3
      intro gb hgb
      refine guard_in (b := gb) (want := true) hgb ?_
      refine give_func #[.slice (some ⟨ga, 0, none⟩) K.length ca, .int .i64 n] rfl h1 Tryd.call11 (by simp [h2, h3]) ?_
      refine (draw_any _ K n N _ (HTx hR) (HAx hR) HB.out.2.2.1 HN.out).mono ?_
      rintro e w' ⟨rfl, he⟩
      exact ⟨_, rfl, he, by rw [← HM.out]; rfl⟩
    refine GoodAll.cons ?_ ?_
    · intro r wx hR hx
      obtain ⟨h1, _⟩ := hx
      replace h1 : r (.tmp 0) = (.slice ka K.length kc) := h1
      intro gb hgb
      refine guard_in (b := gb) (want := true) hgb ?_
      exact give_move (.inl rfl) ⟨Ext.refl _, h1⟩
    refine GoodAll.cons ?_ ?_
    · intro r wx hR hx
      obtain ⟨h1, _⟩ := hx
      replace h1 : r (.tmp 2) = (.int .i64 n) := h1
      intro gb hgb
      refine guard_in (b := gb) (want := true) hgb ?_
      exact give_move (.inl rfl) ⟨Ext.refl _, h1⟩
    refine GoodAll.cons ?_ ?_
    · intro r wx hR hx
      obtain ⟨h1, h2, h3, _⟩ := hx
      replace h1 : r (.func 12) = .func (.func 12) #[] #[] := h1
      replace h2 : r (.tmp 41) = (.slice ka K.length kc) := h2
      replace h3 : r (.tmp 42) = (.int .i64 n) := h3
      intro gb hgb
      refine guard_in (b := gb) (want := true) hgb ?_
      refine give_func #[.slice ka K.length kc, .int .i64 n] rfl h1 Tryd.call12 (by simp [h2, h3]) ?_
      refine (refDraw_any _ K n N _ (HCx hR) (HKx hR) HB.out.1 HN.out).mono ?_
      rintro e w' ⟨rfl, he⟩
      exact ⟨_, rfl, he, by rw [← HM.out]; rfl⟩
    refine GoodAll.cons ?_ ?_
    · intro r wx hR hx
      obtain ⟨h1, h2, _⟩ := hx
      replace h1 : r (.tmp 40) = (.int .u32 (M : Int)) := h1
      replace h2 : r (.tmp 43) = (.int .u32 (M : Int)) := h2
      intro gb hgb
      refine guard_in (b := gb) (want := true) hgb ?_
      exact give_of (by simp [execOp, h1, h2, go_sem]) ⟨Ext.refl _, rfl⟩
    refine GoodAll.cons ?_ ?_
    · intro r wx hR hx
      obtain ⟨h1, h2, h3, _⟩ := hx
      replace h1 : r (.tmp 37) = (.bool true) := h1
      replace h2 : r (.tmp 44) = (.bool true) := h2
      replace h3 : r (.const (.bool false)) = .bool false := h3
      exact give_pick rfl h1 ⟨Ext.refl _, h2⟩
    refine GoodAll.cons ?_ ?_
    · intro r wx hR hx
      obtain ⟨h1, _⟩ := hx
      replace h1 : r (.tmp 45) = (.bool true) := h1
      exact give_move (.inl rfl) ⟨Ext.refl _, h1⟩
    refine GoodAll.cons ?_ ?_
    · intro r wx hR hx
      obtain ⟨h1, _⟩ := hx
      replace h1 : r (.tmp 7) = (.slice (some ⟨ga, 0, none⟩) K.length ca) := h1
      intro gb hgb
      refine guard_in (b := gb) (want := true) hgb ?_
      exact give_move (.inl rfl) ⟨Ext.refl _, h1⟩
    refine GoodAll.cons ?_ ?_
    · intro r wx hR hx
      obtain ⟨h1, _⟩ := hx
      replace h1 : r (.tmp 47) = (.slice (some ⟨ga, 0, none⟩) K.length ca) := h1
      intro gb hgb
      refine guard_in (b := gb) (want := true) hgb ?_
      exact give_of (exec_string byteT Tryd.underlying9 rfl wx _ (by rw [h1]; exact HAx hR)) ⟨Ext.refl _, rfl⟩
    refine GoodAll.cons ?_ ?_
    · intro r wx hR hx
      obtain ⟨h1, _⟩ := hx
      replace h1 : r (.tmp 0) = (.slice ka K.length kc) := h1
      intro gb hgb
      refine guard_in (b := gb) (want := true) hgb ?_
      exact give_move (.inl rfl) ⟨Ext.refl _, h1⟩
    refine GoodAll.cons ?_ ?_
    · intro r wx hR hx
      obtain ⟨h1, _⟩ := hx
      replace h1 : r (.tmp 49) = (.slice ka K.length kc) := h1
      intro gb hgb
      refine guard_in (b := gb) (want := true) hgb ?_
      exact give_of (exec_string byteT Tryd.underlying9 rfl wx _ (by rw [h1]; exact HKx hR)) ⟨Ext.refl _, rfl⟩
    refine GoodAll.cons ?_ ?_
    · intro r wx hR hx
      obtain ⟨h1, h2, _⟩ := hx
      replace h1 : r (.tmp 48) = (.string (strOf K)) := h1
      replace h2 : r (.tmp 50) = (.string (strOf K)) := h2
      intro gb hgb
      refine guard_in (b := gb) (want := true) hgb ?_
      exact give_of (by simp [execOp, h1, h2, go_sem]) ⟨Ext.refl _, rfl⟩
    refine GoodAll.cons ?_ ?_
    · intro r wx hR hx
      obtain ⟨h1, h2, h3, _⟩ := hx
      replace h1 : r (.tmp 46) = (.bool true) := h1
      replace h2 : r (.tmp 51) = (.bool true) := h2
      replace h3 : r (.const (.bool false)) = .bool false := h3
      exact give_pick rfl h1 ⟨Ext.refl _, h2⟩
    refine GoodAll.cons ?_ ?_
    · intro r wx hR hx
      obtain ⟨h1, _⟩ := hx
      replace h1 : r (.tmp 52) = (.bool true) := h1
      exact give_move (.inl rfl) ⟨Ext.refl _, h1⟩
    refine GoodAll.cons ?_ ?_
    · intro r wx hR hx
      obtain ⟨h1, _⟩ := hx
      replace h1 : r (.tmp 8) = (.slice (some ⟨gb, 0, none⟩) T.length cb) := h1
      intro gb hgb
      refine guard_in (b := gb) (want := true) hgb ?_
      exact give_move (.inl rfl) ⟨Ext.refl _, h1⟩
    refine GoodAll.cons ?_ ?_
    · intro r wx hR hx
      obtain ⟨h1, _⟩ := hx
      replace h1 : r (.tmp 54) = (.slice (some ⟨gb, 0, none⟩) T.length cb) := h1
      intro gb hgb
      refine guard_in (b := gb) (want := true) hgb ?_
      exact give_of (exec_string byteT Tryd.underlying9 rfl wx _ (by rw [h1]; exact HBx hR)) ⟨Ext.refl _, rfl⟩
    refine GoodAll.cons ?_ ?_
    · intro r wx hR hx
      obtain ⟨h1, _⟩ := hx
      replace h1 : r (.tmp 1) = (.slice ta T.length tc) := h1
      intro gb hgb
      refine guard_in (b := gb) (want := true) hgb ?_
      exact give_move (.inl rfl) ⟨Ext.refl _, h1⟩
    refine GoodAll.cons ?_ ?_
    · intro r wx hR hx
      obtain ⟨h1, _⟩ := hx
      replace h1 : r (.tmp 56) = (.slice ta T.length tc) := h1
      intro gb hgb
      refine guard_in (b := gb) (want := true) hgb ?_
      exact give_of (exec_string byteT Tryd.underlying9 rfl wx _ (by rw [h1]; exact HTTx hR)) ⟨Ext.refl _, rfl⟩
    refine GoodAll.cons ?_ ?_
    · intro r wx hR hx
      obtain ⟨h1, h2, _⟩ := hx
      replace h1 : r (.tmp 55) = (.string (strOf T)) := h1
      replace h2 : r (.tmp 57) = (.string (strOf T)) := h2
      intro gb hgb
      refine guard_in (b := gb) (want := true) hgb ?_
      exact give_of (by simp [execOp, h1, h2, go_sem]) ⟨Ext.refl _, rfl⟩
    refine GoodAll.cons ?_ ?_
    · intro r wx hR hx
      obtain ⟨h1, h2, h3, _⟩ := hx
      replace h1 : r (.tmp 53) = (.bool true) := h1
      replace h2 : r (.tmp 58) = (.bool true) := h2
      replace h3 : r (.const (.bool false)) = .bool false := h3
      exact give_pick rfl h1 ⟨Ext.refl _, h2⟩
    refine GoodAll.cons ?_ ?_
    · intro r wx hR hx
      obtain ⟨h1, _⟩ := hx
      replace h1 : r (.tmp 59) = (.bool true) := h1
      exact give_move (.inr rfl) ⟨Ext.refl _, h1⟩
    exact GoodAll.nil
  · intro vs2 w7 a7 hR2 hold2 ha2
    have hv : vs2 30 = .bool true := hold2.at 30
    refine ‹∀ (a : Act) (w : World), Code.wp Tryd.prog Code.ret _ a w → _› _ _ ?_
    refine wp_ret ?_
    have hs : a7.tmps[6]? = some (.bool true) := by rw [ha2, ← hv]; kernel_rfl
    have hdf : a7.defers = [] := by rw [ha2]; exact putAll_defers _ _ _ _
    clear ha2
    refine bodyPost_ret (v := .bool true) ?_ hdf ⟨rfl, HE6.out.trans ((Ext.drew _).trans hR2)⟩
    simp [results, Tryd.results3, go_sem, hs]

set_option maxHeartbeats 1000000 in
theorem sums_l1 (ka ta : Option Addr) (n1 n2 kc tc : Nat) (n : Int) (w : World) (hT : Tabs w) (h1 : n1 ≤ maxLen) (h2 : n2 ≤ maxLen) (q1 : 500 < n1) :
    Calls Tryd.prog 3 #[.slice ka n1 kc, .slice ta n2 tc, .int .i64 n] w fun e w' => e = .returned (.bool true) ∧ Ext w w' := by
  unfold maxLen at h1 h2
  have HT : Hid (Tabs w) := hT
  have i1 : decide ((n1 : Int) > 500) = true := decide_eq_true (by omega)
  clear hT
  go_enter Tryd.func3, Tryd.ntmps3
  go_wp2_with (go_at_call 8; refine (alive_any _ HT.out).mono ?_; rintro e w' ⟨rfl, hb⟩)
  go_ret
  exact ⟨rfl, hb⟩

set_option maxHeartbeats 1000000 in
theorem sums_l2 (ka ta : Option Addr) (n1 n2 kc tc : Nat) (n : Int) (w : World) (hT : Tabs w) (h1 : n1 ≤ maxLen) (h2 : n2 ≤ maxLen) (q1 : n1 ≤ 500) (q2 : 1000 < n2) :
    Calls Tryd.prog 3 #[.slice ka n1 kc, .slice ta n2 tc, .int .i64 n] w fun e w' => e = .returned (.bool true) ∧ Ext w w' := by
  unfold maxLen at h1 h2
  have HT : Hid (Tabs w) := hT
  have i1 : decide ((n1 : Int) > 500) = false := decide_eq_false (by omega)
  have i2 : decide ((n2 : Int) > 1000) = true := decide_eq_true (by omega)
  clear hT
  go_enter Tryd.func3, Tryd.ntmps3
  go_wp2_with (go_at_call 8; refine (alive_any _ HT.out).mono ?_; rintro e w' ⟨rfl, hb⟩)
  go_ret
  exact ⟨rfl, hb⟩

theorem sums_walk (kv tv : Value) (K T : List Nat) (n : Int) (w : World) (hT : Tabs w ∧ Cube w) (hk : BytesAt w kv K) (ht : BytesAt w tv T) :
    Calls Tryd.prog 3 #[kv, tv, .int .i64 n] w fun e w' => e = .returned (.bool true) ∧ Below w.heap.size w w' := by
  obtain ⟨ka, kc, e1, _, _⟩ := hk.form
  obtain ⟨ta, tc, e2, _, _⟩ := ht.form
  by_cases q1 : 500 < K.length
  · subst e1 e2; exact sums_l1 _ _ _ _ _ _ n w hT.1 hk.2.1 ht.2.1 q1
  by_cases q2 : 1000 < T.length
  · subst e1 e2; exact sums_l2 _ _ _ _ _ _ n w hT.1 hk.2.1 ht.2.1 (by omega) q2
  exact sums_short kv tv K T n w hT.1 hT.2 hk ht (by omega) (by omega)
end Go.Proofs.YtaklbnaaoebknaaDoor
