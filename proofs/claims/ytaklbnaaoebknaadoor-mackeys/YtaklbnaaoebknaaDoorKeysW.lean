/- The law MacKeys walked: it answers true. Condition: the tables hold what the text lays. -/
import Derived.Test.YtaklbnaaoebknaaDoorZeros
import Derived.Test.YtaklbnaaoebknaaDoorAlive
namespace Go.Proofs.YtaklbnaaoebknaaDoor
open Go Go.RowKit
set_option linter.unusedVariables false
set_option linter.unusedSimpArgs false
set_option maxRecDepth 100000

theorem parts_blk {w : World} {b : Nat} {u : Value} {T : List Nat} (h : Blk w b #[u] 22) (ht : BytesAt w u T) : PartsOf w (.slice (some ⟨b, 0, none⟩) 1 1) [T] :=
  ⟨by simp, _, 1, rfl, fun i hi => by
    obtain rfl : i = 0 := by simp at hi; omega
    exact ⟨b, 0, u, rfl, h.cell 0, ht⟩⟩
theorem OwnB.form1 {w : World} {base : Nat} {e : TypeId} {v : Value} {l : List Nat} (h : OwnB w base e v l) : ∃ g c, v = .slice (some ⟨g, 0, Option.none⟩) l.length c := by
  obtain ⟨_, ⟨g, c, e1, _⟩, _⟩ := h
  exact ⟨g, c, e1⟩

set_option maxHeartbeats 4000000 in
theorem keys_long (kv tv : Value) (K T : List Nat) (n : Int) (w : World) (hT : Tabs w) (hk : BytesAt w kv K) (ht : BytesAt w tv T) (hK : K.length ≤ 300) (hTl : T.length ≤ 500) (h64 : 64 < K.length) :
    Calls Tryd.prog 6 #[kv, tv, .int .i64 n] w fun e w' => e = .returned (.bool true) ∧ Ext w w' := by
  have HA : Hid (Tabs w ∧ BytesAt w kv K ∧ BytesAt w tv T) := ⟨hT, hk, ht⟩
  have HL : Hid (K.length ≤ 300 ∧ T.length ≤ 500) := ⟨hK, hTl⟩
  obtain ⟨D, hD⟩ : ∃ D, D = Mac.tag K T := ⟨_, rfl⟩
  have HD : Hid (D = Mac.tag K T ∧ D.length = 32 ∧ Sha.AllB D) := ⟨hD, by rw [hD]; exact Mac.tag_len _ _, by rw [hD]; exact Mac.tag_all _ _⟩
  have i1 : decide ((K.length : Int) > 300) = false := decide_eq_false (by omega)
  have i2 : decide ((T.length : Int) > 500) = false := decide_eq_false (by omega)
  have HK64 : Hid (64 < K.length) := h64
  have i3 : decide ((K.length : Int) > 64) = true := decide_eq_true (by omega)
  obtain ⟨S, hS⟩ : ∃ S, S = Sha.dgst K := ⟨_, rfl⟩
  have HS : Hid (S = Sha.dgst K ∧ S.length = 32 ∧ Sha.AllB S) := ⟨hS, by rw [hS]; exact Mac.dlen _, by rw [hS]; exact Mac.dall _⟩
  clear hS
  obtain ⟨ka, kc, rfl, _, _⟩ := hk.form
  obtain ⟨ta, tc, rfl, _, _⟩ := ht.form
  rename_i z1 z2 z3 z4
  clear z1 z2 z3 z4 hT hk ht hD
  go_enter Tryd.func6, Tryd.ntmps6
  go_wp2_with (first
    | (go_at_call 8; refine (alive_any _ HA.out.1).mono ?_; rintro e w1 ⟨rfl, he1⟩)
    | (go_at_call 9; refine (macSum_one rfl (HA.out.1.ext he1) (HA.out.2.1.ext he1) (HA.out.2.2.ext he1) (by have := HL.out; omega) (by have := HL.out; omega)).mono ?_; rintro e w2 ⟨rfl, he2⟩; rw [← HD.out.1])
    | (have q := he5; clear q; refine wl_alloc rfl rfl zero25 ?_; intro w6 hb6 he6 hx; clear hx; refine wl_store (D := bA S) rfl row25 rfl rfl rfl hb6 (by rw [bA_size, HS.out.2.1]) rfl (bA_one _) ?_; intro w7 hb7 hk7 hx; clear hx; have he7 := he6.of_but hk7 (fun k e => by subst e; exact Nat.le_refl _); clear hk7 he6 hb6)
    | (refine wl_alloc rfl rfl zero25 ?_; intro w3 hb3 he3 hx; clear hx; refine wl_store (D := bA D) rfl row25 rfl rfl rfl hb3 (by rw [bA_size, HD.out.2.1]) rfl (bA_one _) ?_; intro w4 hb4 hk4 hx; clear hx; have he4 := he3.of_but hk4 (fun k e => by subst e; exact Nat.le_refl _); clear hk4 he3 hb3; have HE4 : Hid (Ext w w4) := (he1.trans he2).trans he4)
    | (go_at_call 16; refine (sum_any (ls := [K]) (HA.out.1.ext (HE4.out.trans (Ext.alloc _ _))) (PartsOf.one w4 _ rfl (HA.out.2.1.ext HE4.out)) (by have := HL.out; simp; omega)).mono ?_; rintro e w5 ⟨rfl, he5'⟩; have he5 := (Ext.alloc _ _).trans he5'; clear he5'; rw [show [K].flatten = K by simp, ← HS.out.1]))
  have HE7 : Hid (Ext w w7) := (HE4.out.trans he5).trans he7
  have Hb7 : Hid (Blk w7 w5.heap.size (bA S) 25 ∧ Blk w7 w2.heap.size (bA D) 25) := ⟨hb7, (hb4.ext he5).ext he7⟩
  clear hb7 hb4 he1 he2 he4 he5 he7
  generalize w5.heap.size = sb at *
  generalize w2.heap.size = db at *
  have HSx : ∀ {wx : World}, Ext w7.drew wx → Blk wx sb (bA S) 25 := fun hx => Hb7.out.1.ext ((Ext.drew _).trans hx)
  have HDx : ∀ {wx : World}, Ext w7.drew wx → Blk wx db (bA D) 25 := fun hx => Hb7.out.2.ext ((Ext.drew _).trans hx)
  have HTx : ∀ {wx : World}, Ext w7.drew wx → Tabs wx := fun hx => HA.out.1.ext (HE7.out.trans ((Ext.drew _).trans hx))
  have HTTx : ∀ {wx : World}, Ext w7.drew wx → BytesAt wx (.slice ta T.length tc) T := fun hx => HA.out.2.2.ext (HE7.out.trans ((Ext.drew _).trans hx))
  refine wp_region_facts (fun t => bif Nat.ble 30 t && Nat.ble t 35 then some (t - 30) else bif Nat.beq t 6 then some 6 else none) 54 Ext
    [Is (.slice (some ⟨sb, 0, none⟩) 32 32),
     Is (.slice ta T.length tc),
     (fun wx v => PartsOf wx v [T]),
     Is (.agg (bA D)),
     Is (.agg (bA D)),
     Is (.bool true),
     Is (.bool true)]
    rfl (by kernel_rfl) (by kernel_rfl) rfl Ext.refl (fun _ _ _ => Ext.trans) ?_ ?_ ?_
  · exact KeepAll.is (KeepAll.is (KeepAll.cons (fun _ _ _ hr h => PartsOf.ext h hr) (KeepAll.is (KeepAll.is (KeepAll.is (KeepAll.is (KeepAll.nil)))))))
  · refine GoodAll.cons ?_ ?_
    · intro r wx hR hx
      obtain ⟨h1, _⟩ := hx
      replace h1 : r (.tmp 8) = (.pointer (some ⟨sb, 0, none⟩)) := h1
      exact give_of (exec_sliceA rfl Tryd.underlying25 h1 (by decide)) ⟨Ext.refl _, rfl⟩
    refine GoodAll.cons ?_ ?_
    · intro r wx hR hx
      obtain ⟨h1, _⟩ := hx
      replace h1 : r (.tmp 1) = (.slice ta T.length tc) := h1
      exact give_move (.inl rfl) ⟨Ext.refl _, h1⟩
    refine GoodAll.cons ?_ ?_
    · intro r wx hR hx
      obtain ⟨h1, _⟩ := hx
      replace h1 : r (.tmp 31) = (.slice ta T.length tc) := h1
      refine give_of (v := .slice (some ⟨wx.heap.size, 0, none⟩) 1 1) (w' := wx.alloc (.cells #[.slice ta T.length tc] 22)) (by simp [execOp, h1, go_sem]) ⟨Ext.alloc _ _, PartsOf.one wx _ rfl (HTTx hR)⟩
    refine GoodAll.cons ?_ ?_
    · intro r wx hR hx
      obtain ⟨h1, h2, h3, _⟩ := hx
      replace h1 : r (.func 9) = .func (.func 9) #[] #[] := h1
      replace h2 : r (.tmp 30) = (.slice (some ⟨sb, 0, none⟩) 32 32) := h2
      replace h3 : ((fun wx v => PartsOf wx v [T]) : Fact) wx (r (.tmp 32)) := h3
      refine give_func #[.slice (some ⟨sb, 0, none⟩) 32 32, r (.tmp 32)] rfl h1 Tryd.call9 (by simp [h2]) ?_
      refine (macSum_any (HTx hR) (bytes_ofBlk (HSx hR) HS.out.2.2 HS.out.2.1 (by decide)) h3 (by rw [HS.out.2.1]; decide) (by have := HL.out; simp; omega)).mono ?_
      rintro e w' ⟨rfl, he⟩
      exact ⟨_, rfl, he, by rw [show [T].flatten = T by simp, HS.out.1, Mac.tag_full (Mac.full_dgst HK64.out), ← HD.out.1]; rfl⟩
    refine GoodAll.cons ?_ ?_
    · intro r wx hR hx
      obtain ⟨h1, _⟩ := hx
      replace h1 : r (.tmp 7) = (.pointer (some ⟨db, 0, none⟩)) := h1
      exact give_of (exec_loadW row25 rfl h1 (HDx hR) (by rw [bA_size, HD.out.2.1])) ⟨Ext.refl _, rfl⟩
    refine GoodAll.cons ?_ ?_
    · intro r wx hR hx
      obtain ⟨h1, h2, _⟩ := hx
      replace h1 : r (.tmp 33) = (.agg (bA D)) := h1
      replace h2 : r (.tmp 34) = (.agg (bA D)) := h2
      exact give_of (exec_eqlA wx rfl h1 h2 HD.out.2.1 HD.out.2.2) ⟨Ext.refl _, rfl⟩
    refine GoodAll.cons ?_ ?_
    · intro r wx hR hx
      obtain ⟨h1, _⟩ := hx
      replace h1 : r (.tmp 35) = (.bool true) := h1
      exact give_move (.inr rfl) ⟨Ext.refl _, h1⟩
    exact GoodAll.nil
  · intro vs2 w9 a9 hR2 hold2 ha2
    have hv : vs2 6 = .bool true := hold2.at 6
    refine ‹∀ (a : Act) (w : World), Code.wp Tryd.prog Code.ret _ a w → _› _ _ ?_
    refine wp_ret ?_
    have hs : a9.tmps[6]? = some (.bool true) := by rw [ha2, ← hv]; kernel_rfl
    have hdf : a9.defers = [] := by rw [ha2]; exact putAll_defers _ _ _ _
    clear ha2
    try (unfold Exit.then; dsimp only)
    refine bodyPost_ret (v := .bool true) ?_ hdf ⟨rfl, HE7.out.trans ((Ext.drew _).trans hR2)⟩
    simp [results, Tryd.results6, go_sem, hs]

set_option maxHeartbeats 4000000 in
theorem keys_short (kv tv : Value) (K T : List Nat) (n : Int) (w : World) (hT : Tabs w) (hk : BytesAt w kv K) (ht : BytesAt w tv T) (hK : K.length ≤ 300) (hTl : T.length ≤ 500) (h64 : K.length ≤ 64) :
    Calls Tryd.prog 6 #[kv, tv, .int .i64 n] w fun e w' => e = .returned (.bool true) ∧ Ext w w' := by
  have HA : Hid (Tabs w ∧ BytesAt w kv K ∧ BytesAt w tv T) := ⟨hT, hk, ht⟩
  have HL : Hid (K.length ≤ 300 ∧ T.length ≤ 500) := ⟨hK, hTl⟩
  obtain ⟨D, hD⟩ : ∃ D, D = Mac.tag K T := ⟨_, rfl⟩
  have HD : Hid (D = Mac.tag K T ∧ D.length = 32 ∧ Sha.AllB D) := ⟨hD, by rw [hD]; exact Mac.tag_len _ _, by rw [hD]; exact Mac.tag_all _ _⟩
  have i1 : decide ((K.length : Int) > 300) = false := decide_eq_false (by omega)
  have i2 : decide ((T.length : Int) > 500) = false := decide_eq_false (by omega)
  have i3 : decide ((K.length : Int) > 64) = false := decide_eq_false (by omega)
  obtain ⟨d, hd⟩ : ∃ d, d = 65 - K.length := ⟨_, rfl⟩
  have e1 : (65 : Int) - (K.length : Int) = (d : Int) := by omega
  have e2 : IntKind.u64.wrap (d : Int) = (d : Int) := by rw [IntKind.wrap_u64]; omega
  have e2' : IntKind.i64.wrap (d : Int) = (d : Int) := by rw [IntKind.wrap_i64]; omega
  have e3 : ((d : Int) == 0) = false := by simp; omega
  have e3' : ¬ (d = 0) := by omega
  obtain ⟨m, hm⟩ : ∃ m : Nat, (IntKind.u64.wrap n).tmod (d : Int) = (m : Int) := by
    refine ⟨((IntKind.u64.wrap n).tmod (d : Int)).toNat, ?_⟩
    have h0 : 0 ≤ IntKind.u64.wrap n := by rw [IntKind.wrap_u64]; omega
    have := Int.tmod_nonneg (d : Int) h0
    omega
  have hml : m < d := by
    have h0 : 0 ≤ IntKind.u64.wrap n := by rw [IntKind.wrap_u64]; omega
    have := Int.tmod_lt_of_pos (IntKind.u64.wrap n) (show 0 < (d : Int) by omega)
    omega
  have e4 : IntKind.i64.wrap (m : Int) = (m : Int) := by rw [IntKind.wrap_i64]; omega
  have HM : Hid (K.length + m ≤ 64) := show _ ≤ _ by omega
  clear hd
  obtain ⟨ka, kc, rfl, _, _⟩ := hk.form
  obtain ⟨ta, tc, rfl, _, _⟩ := ht.form
  rename_i z1 z2 z3 z4
  clear z1 z2 z3 z4 hT hk ht hD
  go_enter Tryd.func6, Tryd.ntmps6
  go_wp2_with (first
    | (go_at_call 8; refine (alive_any _ HA.out.1).mono ?_; rintro e w1 ⟨rfl, he1⟩)
    | (go_at_call 9; refine (macSum_one rfl (HA.out.1.ext he1) (HA.out.2.1.ext he1) (HA.out.2.2.ext he1) (by have := HL.out; omega) (by have := HL.out; omega)).mono ?_; rintro e w2 ⟨rfl, he2⟩; rw [← HD.out.1])
    | (refine wl_alloc rfl rfl zero25 ?_; intro w3 hb3 he3 hx; clear hx; refine wl_store (D := bA D) rfl row25 rfl rfl rfl hb3 (by rw [bA_size, HD.out.2.1]) rfl (bA_one _) ?_; intro w4 hb4 hk4 hx; clear hx; have he4 := he3.of_but hk4 (fun k e => by subst e; exact Nat.le_refl _); clear hk4 he3 hb3; have HE4 : Hid (Ext w w4) := (he1.trans he2).trans he4))
  have Hb4 : Hid (Blk w4 w2.heap.size (bA D) 25) := hb4
  clear hb4 he1 he2 he4
  generalize w2.heap.size = db at *
  obtain ⟨B, hB⟩ : ∃ B, B = w4.heap.size := ⟨_, rfl⟩
  have HEx : ∀ {wx : World}, Turns B K (List.replicate m 0) w4.drew wx → Ext w4.drew wx := fun hx => hx.ext (by rw [hB]; exact Nat.le_refl _)
  have HBx : ∀ {wx : World}, Turns B K (List.replicate m 0) w4.drew wx → B ≤ wx.heap.size := fun hx => by rw [hB]; exact hx.size
  have HDx : ∀ {wx : World}, Turns B K (List.replicate m 0) w4.drew wx → Blk wx db (bA D) 25 := fun hx => Hb4.out.ext ((Ext.drew _).trans (HEx hx))
  have HTx : ∀ {wx : World}, Turns B K (List.replicate m 0) w4.drew wx → Tabs wx := fun hx => HA.out.1.ext (HE4.out.trans ((Ext.drew _).trans (HEx hx)))
  have HKx : ∀ {wx : World}, Turns B K (List.replicate m 0) w4.drew wx → BytesAt wx (.slice ka K.length kc) K := fun hx => HA.out.2.1.ext (HE4.out.trans ((Ext.drew _).trans (HEx hx)))
  have HTTx : ∀ {wx : World}, Turns B K (List.replicate m 0) w4.drew wx → BytesAt wx (.slice ta T.length tc) T := fun hx => HA.out.2.2.ext (HE4.out.trans ((Ext.drew _).trans (HEx hx)))
  refine wp_region_facts (fun t => bif Nat.ble 44 t && Nat.ble t 53 then some (t - 44) else bif Nat.beq t 6 then some 10 else none) 54 (Turns B K (List.replicate m 0))
    [(fun wx v => ∃ g, v = .slice (some ⟨g, 0, none⟩) 0 0 ∧ OwnB wx B 5 v []),
     Is (.slice ka K.length kc),
     (fun wx v => OwnB wx B 5 v K),
     Is (.int .i64 (m : Int)),
     (fun wx v => OwnB wx B 5 v (K ++ List.replicate m 0)),
     Is (.slice ta T.length tc),
     (fun wx v => ∃ b, v = .slice (some ⟨b, 0, none⟩) 1 1 ∧ Blk wx b #[.slice ta T.length tc] 22),
     Is (.agg (bA D)),
     Is (.agg (bA D)),
     Is (.bool true),
     Is (.bool true)]
    rfl (by kernel_rfl) (by kernel_rfl) rfl Turns.refl (fun _ _ _ => Turns.trans) ?_ ?_ ?_
  · exact KeepAll.cons (fun _ _ _ hr h => by obtain ⟨g, e, ho⟩ := h; exact ⟨g, e, hr.own ho (List.nil_prefix)⟩) (KeepAll.is (KeepAll.cons (fun _ _ _ hr h => hr.own h (List.prefix_append _ _)) (KeepAll.is (KeepAll.cons (fun _ _ _ hr h => hr.own h (List.prefix_refl _)) (KeepAll.is (KeepAll.cons (fun _ _ _ hr h => by obtain ⟨b, e, hb⟩ := h; exact ⟨b, e, hr.blk hb (by decide)⟩) (KeepAll.is (KeepAll.is (KeepAll.is (KeepAll.is (KeepAll.nil)))))))))))
  · refine GoodAll.cons ?_ ?_
    · intro r wx hR hx
      refine give_of (v := .slice (some ⟨wx.heap.size, 0, none⟩) 0 0) (w' := wx.alloc (.cells #[] 5)) (by simp [execOp, go_sem]) ⟨Turns.of_ext (Ext.alloc _ _), _, rfl, OwnB.made #[] [] rfl (HBx hR) rfl (by simp) (by simp) rfl⟩
    refine GoodAll.cons ?_ ?_
    · intro r wx hR hx
      obtain ⟨h1, _⟩ := hx
      replace h1 : r (.tmp 0) = (.slice ka K.length kc) := h1
      exact give_move (.inl rfl) ⟨Turns.refl _, h1⟩
    refine GoodAll.cons ?_ ?_
    · intro r wx hR hx
      obtain ⟨h1, h2, _⟩ := hx
      replace h1 : ((fun wx v => ∃ g, v = .slice (some ⟨g, 0, none⟩) 0 0 ∧ OwnB wx B 5 v []) : Fact) wx (r (.tmp 44)) := h1
      replace h2 : r (.tmp 45) = (.slice ka K.length kc) := h2
      obtain ⟨g, e1, ho⟩ := h1
      rw [e1] at ho
      obtain ⟨v, w', hr, hov, hev⟩ := run_append_onto0 wx B 22 g (r (.tmp 45)) K ho (by rw [h2]; exact HKx hR) (by have := HL.out; omega)
      refine give_of (v := v) (w' := w') ?_ ⟨Turns.of_ext hev, hov⟩
      simp only [execOp, resolve, invoke, builtin, Sem.run_bind, Sem.run_pure, Result.andThen_ok, List.map_toArray, List.map_cons, List.map_nil, e1, hr]
    refine GoodAll.cons ?_ ?_
    · intro r wx hR hx
      obtain ⟨h1, _⟩ := hx
      replace h1 : r (.tmp 9) = (.int .i64 (m : Int)) := h1
      exact give_move (.inl rfl) ⟨Turns.refl _, h1⟩
    refine GoodAll.cons ?_ ?_
    · intro r wx hR hx
      obtain ⟨h1, h2, _⟩ := hx
      replace h1 : ((fun wx v => OwnB wx B 5 v K) : Fact) wx (r (.tmp 46)) := h1
      replace h2 : r (.tmp 47) = (.int .i64 (m : Int)) := h2
      obtain ⟨g, c, e1⟩ := OwnB.form1 h1
      have ho : OwnB wx B 5 (r (.tmp 46)) K := h1
      rw [e1] at ho
      obtain ⟨v, w', hr, hov, hev⟩ := run_append_noughts wx B 22 g c m K ho (by have := HM.out; omega)
      refine give_of (v := v) (w' := w') ?_ ⟨hev, hov⟩
      simp only [execOp, resolve, invoke, builtin, Sem.run_bind, Sem.run_pure, Result.andThen_ok, List.map_toArray, List.map_cons, List.map_nil, e1, h2, hr]
    refine GoodAll.cons ?_ ?_
    · intro r wx hR hx
      obtain ⟨h1, _⟩ := hx
      replace h1 : r (.tmp 1) = (.slice ta T.length tc) := h1
      exact give_move (.inl rfl) ⟨Turns.refl _, h1⟩
    refine GoodAll.cons ?_ ?_
    · intro r wx hR hx
      obtain ⟨h1, _⟩ := hx
      replace h1 : r (.tmp 49) = (.slice ta T.length tc) := h1
      refine give_of (v := .slice (some ⟨wx.heap.size, 0, none⟩) 1 1) (w' := wx.alloc (.cells #[.slice ta T.length tc] 22)) (by simp [execOp, h1, go_sem]) ⟨Turns.of_ext (Ext.alloc _ _), _, rfl, Blk.new _ _ _⟩
    refine GoodAll.cons ?_ ?_
    · intro r wx hR hx
      obtain ⟨h1, h2, h3, _⟩ := hx
      replace h1 : r (.func 9) = .func (.func 9) #[] #[] := h1
      replace h2 : ((fun wx v => OwnB wx B 5 v (K ++ List.replicate m 0)) : Fact) wx (r (.tmp 48)) := h2
      replace h3 : ((fun wx v => ∃ b, v = .slice (some ⟨b, 0, none⟩) 1 1 ∧ Blk wx b #[.slice ta T.length tc] 22) : Fact) wx (r (.tmp 50)) := h3
      obtain ⟨b, e3, hb⟩ := h3
      obtain ⟨gq, cq, eq⟩ := OwnB.form1 h2
      refine give_func #[r (.tmp 48), r (.tmp 50)] rfl h1 Tryd.call9 (by simp) ?_
      refine (macSum_any (ls := [T]) (HTx hR) (OwnB.bytes h2) (by rw [e3]; exact parts_blk hb (HTTx hR)) (by have := HM.out; simp; omega) (by have := HL.out; simp; omega)).mono ?_
      rintro e w' ⟨rfl, he⟩
      exact ⟨_, rfl, Turns.of_ext he, by rw [show [T].flatten = T by simp, Mac.tag_full (Mac.full_noughts HM.out), ← HD.out.1]; rfl⟩
    refine GoodAll.cons ?_ ?_
    · intro r wx hR hx
      obtain ⟨h1, _⟩ := hx
      replace h1 : r (.tmp 7) = (.pointer (some ⟨db, 0, none⟩)) := h1
      exact give_of (exec_loadW row25 rfl h1 (HDx hR) (by rw [bA_size, HD.out.2.1])) ⟨Turns.refl _, rfl⟩
    refine GoodAll.cons ?_ ?_
    · intro r wx hR hx
      obtain ⟨h1, h2, _⟩ := hx
      replace h1 : r (.tmp 51) = (.agg (bA D)) := h1
      replace h2 : r (.tmp 52) = (.agg (bA D)) := h2
      exact give_of (exec_eqlA wx rfl h1 h2 HD.out.2.1 HD.out.2.2) ⟨Turns.refl _, rfl⟩
    refine GoodAll.cons ?_ ?_
    · intro r wx hR hx
      obtain ⟨h1, _⟩ := hx
      replace h1 : r (.tmp 53) = (.bool true) := h1
      exact give_move (.inr rfl) ⟨Turns.refl _, h1⟩
    exact GoodAll.nil
  · intro vs2 w9 a9 hR2 hold2 ha2
    have hv : vs2 10 = .bool true := hold2.at 10
    refine ‹∀ (a : Act) (w : World), Code.wp Tryd.prog Code.ret _ a w → _› _ _ ?_
    refine wp_ret ?_
    have hs : a9.tmps[6]? = some (.bool true) := by rw [ha2, ← hv]; kernel_rfl
    have hdf : a9.defers = [] := by rw [ha2]; exact putAll_defers _ _ _ _
    clear ha2
    try (unfold Exit.then; dsimp only)
    refine bodyPost_ret (v := .bool true) ?_ hdf ⟨rfl, HE4.out.trans ((Ext.drew _).trans (HEx hR2))⟩
    simp [results, Tryd.results6, go_sem, hs]

set_option maxHeartbeats 1000000 in
theorem keys_l1 (ka ta : Option Addr) (n1 n2 kc tc : Nat) (n : Int) (w : World) (hT : Tabs w) (h1 : n1 ≤ maxLen) (h2 : n2 ≤ maxLen) (q1 : 300 < n1) :
    Calls Tryd.prog 6 #[.slice ka n1 kc, .slice ta n2 tc, .int .i64 n] w fun e w' => e = .returned (.bool true) ∧ Ext w w' := by
  unfold maxLen at h1 h2
  have HT : Hid (Tabs w) := hT
  have i1 : decide ((n1 : Int) > 300) = true := decide_eq_true (by omega)
  clear hT
  go_enter Tryd.func6, Tryd.ntmps6
  go_wp2_with (go_at_call 8; refine (alive_any _ HT.out).mono ?_; rintro e w' ⟨rfl, hb⟩)
  go_ret
  exact ⟨rfl, hb⟩

set_option maxHeartbeats 1000000 in
theorem keys_l2 (ka ta : Option Addr) (n1 n2 kc tc : Nat) (n : Int) (w : World) (hT : Tabs w) (h1 : n1 ≤ maxLen) (h2 : n2 ≤ maxLen) (q1 : n1 ≤ 300) (q2 : 500 < n2) :
    Calls Tryd.prog 6 #[.slice ka n1 kc, .slice ta n2 tc, .int .i64 n] w fun e w' => e = .returned (.bool true) ∧ Ext w w' := by
  unfold maxLen at h1 h2
  have HT : Hid (Tabs w) := hT
  have i1 : decide ((n1 : Int) > 300) = false := decide_eq_false (by omega)
  have i2 : decide ((n2 : Int) > 500) = true := decide_eq_true (by omega)
  clear hT
  go_enter Tryd.func6, Tryd.ntmps6
  go_wp2_with (go_at_call 8; refine (alive_any _ HT.out).mono ?_; rintro e w' ⟨rfl, hb⟩)
  go_ret
  exact ⟨rfl, hb⟩

theorem keys_walk (kv tv : Value) (K T : List Nat) (n : Int) (w : World) (hT : Tabs w) (hk : BytesAt w kv K) (ht : BytesAt w tv T) :
    Calls Tryd.prog 6 #[kv, tv, .int .i64 n] w fun e w' => e = .returned (.bool true) ∧ Below w.heap.size w w' := by
  obtain ⟨ka, kc, e1, _, _⟩ := hk.form
  obtain ⟨ta, tc, e2, _, _⟩ := ht.form
  by_cases q1 : 300 < K.length
  · subst e1 e2; exact keys_l1 _ _ _ _ _ _ n w hT hk.2.1 ht.2.1 q1
  by_cases q2 : 500 < T.length
  · subst e1 e2; exact keys_l2 _ _ _ _ _ _ n w hT hk.2.1 ht.2.1 (by omega) q2
  by_cases q3 : 64 < K.length
  · exact keys_long kv tv K T n w hT hk ht (by omega) (by omega) q3
  · exact keys_short kv tv K T n w hT hk ht (by omega) (by omega) (by omega)
end Go.Proofs.YtaklbnaaoebknaaDoor
