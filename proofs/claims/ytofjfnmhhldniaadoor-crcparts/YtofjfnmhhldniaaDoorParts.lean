/- The law CrcParts walked: it answers true. Conditions: the table fourBits holds what the text lays. -/
import Derived.Test.YtofjfnmhhldniaaDoorWalks
namespace Go.Proofs.YtofjfnmhhldniaaDoor
open Go.RowKit
set_option linter.unusedSimpArgs false
set_option linter.unusedVariables false

theorem byteT : ByteT Tryd.prog 22 5 := ⟨Tryd.underlying22, Tryd.underlying5, by kernel_rfl, by kernel_rfl⟩

set_option maxHeartbeats 400000 in
theorem parts_long (a b : Option Addr) (ca cb n m : Nat) (at0 : Int) (w : World) (hT : Tab w) (hn : n ≤ maxLen) (hm : m ≤ maxLen) (hl : 5000 < n ∨ (n ≤ 5000 ∧ 5000 < m)) :
    Calls Tryd.prog 4 #[.slice a n ca, .slice b m cb, .int .i64 at0] w fun e w' => e = .returned (.bool true) ∧ Below w.heap.size w w' := by
  unfold maxLen at hn hm
  have HT : Hid (Tab w) := hT
  clear hT
  rcases hl with hl | ⟨hl, hl2⟩
  all_goals
    go_enter Tryd.func4, Tryd.ntmps4
    go_wp2_with (go_at_call 6; refine (alive_any _ HT.out).mono ?_; rintro e w' ⟨rfl, hb⟩)
    go_ret
    exact ⟨rfl, hb⟩

theorem cut_at (x : Int) (n : Nat) (hn : n ≤ 10000) : ∃ k : Nat, k ≤ n ∧ wrap64 ((IntKind.u64.wrap x).tmod ((n : Int) + 1)) = (k : Int) := by
  have h0 : 0 ≤ IntKind.u64.wrap x := wrap_u64_nonneg x
  generalize IntKind.u64.wrap x = y at *
  rw [Int.tmod_eq_emod_of_nonneg h0]
  have h1 := Int.emod_nonneg y (show ((n : Int) + 1) ≠ 0 by omega)
  have h2 := Int.emod_lt_of_pos y (show (0 : Int) < (n : Int) + 1 by omega)
  refine ⟨(y % ((n : Int) + 1)).toNat, by omega, ?_⟩
  rw [Int.toNat_of_nonneg h1]
  unfold wrap64
  omega

set_option maxHeartbeats 400000 in
theorem parts_short (va vb : Value) (la lb : List Nat) (at0 : Int) (w : World) (hT : Tab w) (ha : BytesAt w va la) (hb : BytesAt w vb lb) (hn : la.length ≤ 5000) (hm : lb.length ≤ 5000) :
    Calls Tryd.prog 4 #[va, vb, .int .i64 at0] w fun e w' => e = .returned (.bool true) ∧ Below w.heap.size w w' := by
  have HA : Hid (BytesAt w va la) := ha
  have HB : Hid (BytesAt w vb lb) := hb
  obtain ⟨a, ca, rfl, hx1, hx2⟩ := ha.form
  obtain ⟨b, cb, rfl, hx3, hx4⟩ := hb.form
  clear ha hb hx1 hx2 hx3 hx4
  have HT : Hid (Tab w) := hT
  clear hT
  go_enter Tryd.func4, Tryd.ntmps4
  go_wp2_with (first
    | (go_at_call 6; refine (alive_any _ HT.out).mono ?_; rintro e w1 ⟨rfl, hbe⟩)
    | (at_builtin; refine wpList_append_bytes byteT rfl _ _ rfl w1.heap.size [] la (OwnB.made #[] [] rfl (Nat.le_refl _) rfl (by simp) (by simp) rfl) ((BytesAt.ext HA.out hbe).ext (Ext.alloc _ _)) (by simp; omega) ?_; intro g1 c1 w2 ho1 hb1; simp only [List.nil_append] at ho1 ⊢)
    | (at_builtin; refine wpList_append_bytes byteT rfl _ _ rfl w1.heap.size la lb ho1 (HB.out.ext (Ext.step hbe _ hb1)) (by omega) ?_; intro g2 c2 w3 ho2 hb2))
  obtain ⟨k, hk, hke⟩ := cut_at at0 (la ++ lb).length (by simp; omega)
  simp only [List.length_append, Int.natCast_add] at hke
  rw [hke]
  have HKE : Hid (k ≤ (la ++ lb).length) := hk
  clear hke hk
  have e3 : Ext w w3 := Ext.on (Ext.step hbe _ hb1) hb2 hbe.size
  refine (sum_any _ [la ++ lb] _ (HT.out.ext (e3.trans (Ext.alloc _ _))) (PartsAt.made w3 [_] [la ++ lb] 22 _ 1 rfl rfl (by simp) ?_)).mono ?_
  · intro i hi
    obtain rfl : i = 0 := by simp at hi; omega
    have := ho2.bytes
    simpa using this
  rintro e w4 ⟨rfl, rfl⟩
  go_wp2_with fail
  have o4 := ho2.ext (Ext.alloc w3 (Obj.cells #[Value.slice (some ⟨g2, 0, none⟩) (la.length + lb.length) c2] 22))
  have e4 := e3.trans (Ext.alloc w3 (Obj.cells #[Value.slice (some ⟨g2, 0, none⟩) (la.length + lb.length) c2] 22))
  generalize w3.alloc (Obj.cells #[Value.slice (some ⟨g2, 0, none⟩) (la.length + lb.length) c2] 22) = w4 at *
  have hE : Ext w w4.drew := e4.trans (Ext.drew _)
  have hcap := o4.cap
  have hkl := HKE.out
  simp only [List.length_append] at hcap hkl
  have hc1 : k ≤ c2 := by omega
  have HO : Hid (OwnB w4 w1.heap.size 5 (Value.slice (some ⟨g2, 0, none⟩) (la ++ lb).length c2) (la ++ lb)) := o4
  clear hcap o4 ho1 ho2
  refine wp_region_facts (fun t => bif Nat.ble 36 t && Nat.ble t 66 then some (t - 36) else bif Nat.beq t 6 then some 31 else none) 67 Ext
    [Is (.slice a la.length ca),
     Is (.slice b lb.length cb),
     fun w v => PartsAt w v [la, lb],
     Is (.int .u32 (Crc.sum (la ++ lb) : Nat)),
     Is (.int .u32 (Crc.sum (la ++ lb) : Nat)),
     Is (.bool true),
     Is (.bool true),
     Is (.slice (some ⟨g2, 0, none⟩) (la.length + lb.length) c2),
     Is (.int .i64 (k : Int)),
     fun w v => BytesAt w v ((la ++ lb).take k),
     Is (.slice (some ⟨g2, 0, none⟩) (la.length + lb.length) c2),
     Is (.int .i64 (k : Int)),
     fun w v => BytesAt w v ((la ++ lb).drop k),
     fun w v => PartsAt w v [(la ++ lb).take k, [], (la ++ lb).drop k],
     Is (.int .u32 (Crc.sum (la ++ lb) : Nat)),
     Is (.int .u32 (Crc.sum (la ++ lb) : Nat)),
     Is (.bool true),
     Is (.bool true),
     Is (.bool true),
     Is (.slice a la.length ca),
     fun w v => PartsAt w v [la],
     Is (.int .u32 (Crc.sum la : Nat)),
     Is (.slice b lb.length cb),
     fun w v => PartsAt w v [lb],
     Is (.int .u32 (Crc.sum lb : Nat)),
     Is (.slice b lb.length cb),
     Is (.int .i64 (lb.length : Int)),
     Is (.int .u32 (Crc.sum (la ++ lb) : Nat)),
     Is (.int .u32 (Crc.sum (la ++ lb) : Nat)),
     Is (.bool true),
     Is (.bool true),
     Is (.bool true)]
    rfl (by kernel_rfl) (by kernel_rfl) rfl Ext.refl (fun _ _ _ => Ext.trans) ?_ ?_ ?_
  · exact KeepAll.is (KeepAll.is (KeepAll.cons (fun _ _ _ hr h => PartsAt.ext h hr) (KeepAll.is (KeepAll.is (KeepAll.is (KeepAll.is (KeepAll.is (KeepAll.is (KeepAll.cons (fun _ _ _ hr h => BytesAt.ext h hr) (KeepAll.is (KeepAll.is (KeepAll.cons (fun _ _ _ hr h => BytesAt.ext h hr) (KeepAll.cons (fun _ _ _ hr h => PartsAt.ext h hr) (KeepAll.is (KeepAll.is (KeepAll.is (KeepAll.is (KeepAll.is (KeepAll.is (KeepAll.cons (fun _ _ _ hr h => PartsAt.ext h hr) (KeepAll.is (KeepAll.is (KeepAll.cons (fun _ _ _ hr h => PartsAt.ext h hr) (KeepAll.is (KeepAll.is (KeepAll.is (KeepAll.is (KeepAll.is (KeepAll.is (KeepAll.is (KeepAll.is (KeepAll.nil))))))))))))))))))))))))))))))))
  · refine GoodAll.cons ?_ ?_
    · intro r wx hR hx
      obtain ⟨h1, _⟩ := hx
      replace h1 : r (.tmp 0) = (.slice a la.length ca) := h1
      exact give_move (.inl rfl) ⟨Ext.refl _, h1⟩
    refine GoodAll.cons ?_ ?_
    · intro r wx hR hx
      obtain ⟨h1, _⟩ := hx
      replace h1 : r (.tmp 1) = (.slice b lb.length cb) := h1
      exact give_move (.inl rfl) ⟨Ext.refl _, h1⟩
    refine GoodAll.cons ?_ ?_
    · intro r wx hR hx
      obtain ⟨h1, h2, _⟩ := hx
      replace h1 : r (.tmp 36) = (.slice a la.length ca) := h1
      replace h2 : r (.tmp 37) = (.slice b lb.length cb) := h2
      refine give_of (v := .slice (some ⟨wx.heap.size, 0, none⟩) 2 2) (w' := wx.alloc (.cells [.slice a la.length ca, .slice b lb.length cb].toArray 22)) (by simp [execOp, h1, h2, go_sem]) ⟨Ext.alloc _ _, PartsAt.made wx _ [la, lb] 22 _ _ rfl rfl (by simp) ?_⟩
      have hX := hE.trans hR
      intro i hi
      match i, hi with
      | 0, _ => exact HA.out.ext hX
      | 1, _ => exact HB.out.ext hX
    refine GoodAll.cons ?_ ?_
    · intro r wx hR hx
      obtain ⟨h1, h2, _⟩ := hx
      replace h1 : r (.func 9) = .func (.func 9) #[] #[] := h1
      replace h2 : (fun w v => PartsAt w v [la, lb] : Fact) wx (r (.tmp 38)) := h2
      refine give_func #[_] rfl h1 Tryd.call9 (by simp; rfl) ?_
      refine (sum_any _ [la, lb] _ (HT.out.ext (hE.trans hR)) h2).mono ?_
      rintro e w' ⟨rfl, rfl⟩
      exact ⟨_, rfl, Ext.refl _, (show Value.int .u32 (Crc.sum [la, lb].flatten : Nat) = .int .u32 (Crc.sum (la ++ lb) : Nat) by simp)⟩
    refine GoodAll.cons ?_ ?_
    · intro r wx hR hx
      obtain ⟨h1, _⟩ := hx
      replace h1 : r (.tmp 9) = (.int .u32 (Crc.sum (la ++ lb) : Nat)) := h1
      exact give_move (.inl rfl) ⟨Ext.refl _, h1⟩
    refine GoodAll.cons ?_ ?_
    · intro r wx hR hx
      obtain ⟨h1, h2, _⟩ := hx
      replace h1 : r (.tmp 39) = (.int .u32 (Crc.sum (la ++ lb) : Nat)) := h1
      replace h2 : r (.tmp 40) = (.int .u32 (Crc.sum (la ++ lb) : Nat)) := h2
      exact give_of (by simp [execOp, h1, h2, go_sem]) ⟨Ext.refl _, rfl⟩
    refine GoodAll.cons ?_ ?_
    · intro r wx hR hx
      obtain ⟨h1, _⟩ := hx
      replace h1 : r (.tmp 41) = (.bool true) := h1
      exact give_move (.inl rfl) ⟨Ext.refl _, h1⟩
    refine GoodAll.cons ?_ ?_
    · intro r wx hR hx
      obtain ⟨h1, _⟩ := hx
      replace h1 : r (.tmp 7) = (.slice (some ⟨g2, 0, none⟩) (la.length + lb.length) c2) := h1
      intro gb hgb
      refine guard_in (b := gb) (want := true) hgb ?_
      exact give_move (.inl rfl) ⟨Ext.refl _, h1⟩
    refine GoodAll.cons ?_ ?_
    · intro r wx hR hx
      obtain ⟨h1, _⟩ := hx
      replace h1 : r (.tmp 8) = (.int .i64 (k : Int)) := h1
      intro gb hgb
      refine guard_in (b := gb) (want := true) hgb ?_
      exact give_move (.inl rfl) ⟨Ext.refl _, h1⟩
    refine GoodAll.cons ?_ ?_
    · intro r wx hR hx
      obtain ⟨h1, h2, _⟩ := hx
      replace h1 : r (.tmp 43) = (.slice (some ⟨g2, 0, none⟩) (la.length + lb.length) c2) := h1
      replace h2 : r (.tmp 44) = (.int .i64 (k : Int)) := h2
      intro gb hgb
      refine guard_in (b := gb) (want := true) hgb ?_
      refine give_of (exec_slice_h byteT rfl wx _ _ c2 k _ h1 h2 (by omega)) ⟨Ext.refl _, ?_⟩
      have hX := HO.out.bytes.ext ((Ext.drew _).trans hR)
      exact hX.sliced 0 k (by omega) HKE.out
    refine GoodAll.cons ?_ ?_
    · intro r wx hR hx
      obtain ⟨h1, _⟩ := hx
      replace h1 : r (.tmp 7) = (.slice (some ⟨g2, 0, none⟩) (la.length + lb.length) c2) := h1
      intro gb hgb
      refine guard_in (b := gb) (want := true) hgb ?_
      exact give_move (.inl rfl) ⟨Ext.refl _, h1⟩
    refine GoodAll.cons ?_ ?_
    · intro r wx hR hx
      obtain ⟨h1, _⟩ := hx
      replace h1 : r (.tmp 8) = (.int .i64 (k : Int)) := h1
      intro gb hgb
      refine guard_in (b := gb) (want := true) hgb ?_
      exact give_move (.inl rfl) ⟨Ext.refl _, h1⟩
    refine GoodAll.cons ?_ ?_
    · intro r wx hR hx
      obtain ⟨h1, h2, _⟩ := hx
      replace h1 : r (.tmp 46) = (.slice (some ⟨g2, 0, none⟩) (la.length + lb.length) c2) := h1
      replace h2 : r (.tmp 47) = (.int .i64 (k : Int)) := h2
      intro gb hgb
      refine guard_in (b := gb) (want := true) hgb ?_
      refine give_of (exec_slice_l byteT rfl wx _ _ c2 k _ h1 h2 (by omega)) ⟨Ext.refl _, ?_⟩
      have hX := (HO.out.bytes.ext ((Ext.drew _).trans hR)).sliced k (la ++ lb).length HKE.out (Nat.le_refl _)
      rw [List.take_length, List.length_append] at hX
      exact hX
    refine GoodAll.cons ?_ ?_
    · intro r wx hR hx
      obtain ⟨h1, h2, h3, _⟩ := hx
      replace h1 : (fun w v => BytesAt w v ((la ++ lb).take k) : Fact) wx (r (.tmp 45)) := h1
      replace h2 : r (.const (.slice none 0 0)) = .slice none 0 0 := h2
      replace h3 : (fun w v => BytesAt w v ((la ++ lb).drop k) : Fact) wx (r (.tmp 48)) := h3
      intro gb hgb
      refine guard_in (b := gb) (want := true) hgb ?_
      obtain ⟨x1, q1, e1, _, _⟩ := BytesAt.form h1
      obtain ⟨x3, q3, e3, _, _⟩ := BytesAt.form h3
      refine give_of (v := .slice (some ⟨wx.heap.size, 0, none⟩) 3 3) (w' := wx.alloc (.cells [r (.tmp 45), .slice none 0 0, r (.tmp 48)].toArray 22)) (by simp [execOp, h2, e1, e3, go_sem]) ⟨Ext.alloc _ _, PartsAt.made wx _ [(la ++ lb).take k, [], (la ++ lb).drop k] 22 _ _ rfl rfl (by simp) ?_⟩
      have hX := hE.trans hR
      intro i hi
      match i, hi with
      | 0, _ => exact h1
      | 1, _ => exact BytesAt.none _
      | 2, _ => exact h3
    refine GoodAll.cons ?_ ?_
    · intro r wx hR hx
      obtain ⟨h1, h2, _⟩ := hx
      replace h1 : r (.func 9) = .func (.func 9) #[] #[] := h1
      replace h2 : (fun w v => PartsAt w v [(la ++ lb).take k, [], (la ++ lb).drop k] : Fact) wx (r (.tmp 49)) := h2
      intro gb hgb
      refine guard_in (b := gb) (want := true) hgb ?_
      refine give_func #[_] rfl h1 Tryd.call9 (by simp; rfl) ?_
      refine (sum_any _ [(la ++ lb).take k, [], (la ++ lb).drop k] _ (HT.out.ext (hE.trans hR)) h2).mono ?_
      rintro e w' ⟨rfl, rfl⟩
      exact ⟨_, rfl, Ext.refl _, (show Value.int .u32 (Crc.sum [(la ++ lb).take k, [], (la ++ lb).drop k].flatten : Nat) = .int .u32 (Crc.sum (la ++ lb) : Nat) by simp)⟩
    refine GoodAll.cons ?_ ?_
    · intro r wx hR hx
      obtain ⟨h1, _⟩ := hx
      replace h1 : r (.tmp 9) = (.int .u32 (Crc.sum (la ++ lb) : Nat)) := h1
      intro gb hgb
      refine guard_in (b := gb) (want := true) hgb ?_
      exact give_move (.inl rfl) ⟨Ext.refl _, h1⟩
    refine GoodAll.cons ?_ ?_
    · intro r wx hR hx
      obtain ⟨h1, h2, _⟩ := hx
      replace h1 : r (.tmp 50) = (.int .u32 (Crc.sum (la ++ lb) : Nat)) := h1
      replace h2 : r (.tmp 51) = (.int .u32 (Crc.sum (la ++ lb) : Nat)) := h2
      intro gb hgb
      refine guard_in (b := gb) (want := true) hgb ?_
      exact give_of (by simp [execOp, h1, h2, go_sem]) ⟨Ext.refl _, rfl⟩
    refine GoodAll.cons ?_ ?_
    · intro r wx hR hx
      obtain ⟨h1, h2, h3, _⟩ := hx
      replace h1 : r (.tmp 42) = (.bool true) := h1
      replace h2 : r (.tmp 52) = (.bool true) := h2
      replace h3 : r (.const (.bool false)) = .bool false := h3
      exact give_pick rfl h1 ⟨Ext.refl _, h2⟩
    refine GoodAll.cons ?_ ?_
    · intro r wx hR hx
      obtain ⟨h1, _⟩ := hx
      replace h1 : r (.tmp 53) = (.bool true) := h1
      exact give_move (.inl rfl) ⟨Ext.refl _, h1⟩
    refine GoodAll.cons ?_ ?_
    · intro r wx hR hx
      obtain ⟨h1, _⟩ := hx
      replace h1 : r (.tmp 0) = (.slice a la.length ca) := h1
      intro gb hgb
      refine guard_in (b := gb) (want := true) hgb ?_
      exact give_move (.inl rfl) ⟨Ext.refl _, h1⟩
    refine GoodAll.cons ?_ ?_
    · intro r wx hR hx
      obtain ⟨h1, _⟩ := hx
      replace h1 : r (.tmp 55) = (.slice a la.length ca) := h1
      intro gb hgb
      refine guard_in (b := gb) (want := true) hgb ?_
      refine give_of (v := .slice (some ⟨wx.heap.size, 0, none⟩) 1 1) (w' := wx.alloc (.cells [.slice a la.length ca].toArray 22)) (by simp [execOp, h1, go_sem]) ⟨Ext.alloc _ _, PartsAt.made wx _ [la] 22 _ _ rfl rfl (by simp) ?_⟩
      have hX := hE.trans hR
      intro i hi
      match i, hi with
      | 0, _ => exact HA.out.ext hX
    refine GoodAll.cons ?_ ?_
    · intro r wx hR hx
      obtain ⟨h1, h2, _⟩ := hx
      replace h1 : r (.func 9) = .func (.func 9) #[] #[] := h1
      replace h2 : (fun w v => PartsAt w v [la] : Fact) wx (r (.tmp 56)) := h2
      intro gb hgb
      refine guard_in (b := gb) (want := true) hgb ?_
      refine give_func #[_] rfl h1 Tryd.call9 (by simp; rfl) ?_
      refine (sum_any _ [la] _ (HT.out.ext (hE.trans hR)) h2).mono ?_
      rintro e w' ⟨rfl, rfl⟩
      exact ⟨_, rfl, Ext.refl _, (show Value.int .u32 (Crc.sum [la].flatten : Nat) = .int .u32 (Crc.sum la : Nat) by simp)⟩
    refine GoodAll.cons ?_ ?_
    · intro r wx hR hx
      obtain ⟨h1, _⟩ := hx
      replace h1 : r (.tmp 1) = (.slice b lb.length cb) := h1
      intro gb hgb
      refine guard_in (b := gb) (want := true) hgb ?_
      exact give_move (.inl rfl) ⟨Ext.refl _, h1⟩
    refine GoodAll.cons ?_ ?_
    · intro r wx hR hx
      obtain ⟨h1, _⟩ := hx
      replace h1 : r (.tmp 58) = (.slice b lb.length cb) := h1
      intro gb hgb
      refine guard_in (b := gb) (want := true) hgb ?_
      refine give_of (v := .slice (some ⟨wx.heap.size, 0, none⟩) 1 1) (w' := wx.alloc (.cells [.slice b lb.length cb].toArray 22)) (by simp [execOp, h1, go_sem]) ⟨Ext.alloc _ _, PartsAt.made wx _ [lb] 22 _ _ rfl rfl (by simp) ?_⟩
      have hX := hE.trans hR
      intro i hi
      match i, hi with
      | 0, _ => exact HB.out.ext hX
    refine GoodAll.cons ?_ ?_
    · intro r wx hR hx
      obtain ⟨h1, h2, _⟩ := hx
      replace h1 : r (.func 9) = .func (.func 9) #[] #[] := h1
      replace h2 : (fun w v => PartsAt w v [lb] : Fact) wx (r (.tmp 59)) := h2
      intro gb hgb
      refine guard_in (b := gb) (want := true) hgb ?_
      refine give_func #[_] rfl h1 Tryd.call9 (by simp; rfl) ?_
      refine (sum_any _ [lb] _ (HT.out.ext (hE.trans hR)) h2).mono ?_
      rintro e w' ⟨rfl, rfl⟩
      exact ⟨_, rfl, Ext.refl _, (show Value.int .u32 (Crc.sum [lb].flatten : Nat) = .int .u32 (Crc.sum lb : Nat) by simp)⟩
    refine GoodAll.cons ?_ ?_
    · intro r wx hR hx
      obtain ⟨h1, _⟩ := hx
      replace h1 : r (.tmp 1) = (.slice b lb.length cb) := h1
      intro gb hgb
      refine guard_in (b := gb) (want := true) hgb ?_
      exact give_move (.inl rfl) ⟨Ext.refl _, h1⟩
    refine GoodAll.cons ?_ ?_
    · intro r wx hR hx
      obtain ⟨h1, _⟩ := hx
      replace h1 : r (.tmp 61) = (.slice b lb.length cb) := h1
      intro gb hgb
      refine guard_in (b := gb) (want := true) hgb ?_
      exact give_of (by simp [execOp, h1, go_sem]) ⟨Ext.refl _, rfl⟩
    refine GoodAll.cons ?_ ?_
    · intro r wx hR hx
      obtain ⟨h1, h2, h3, h4, _⟩ := hx
      replace h1 : r (.func 16) = .func (.func 16) #[] #[] := h1
      replace h2 : r (.tmp 57) = (.int .u32 (Crc.sum la : Nat)) := h2
      replace h3 : r (.tmp 60) = (.int .u32 (Crc.sum lb : Nat)) := h3
      replace h4 : r (.tmp 62) = (.int .i64 (lb.length : Int)) := h4
      intro gb hgb
      refine guard_in (b := gb) (want := true) hgb ?_
      refine give_func #[.int .u32 (Crc.sum la : Nat), .int .u32 (Crc.sum lb : Nat), .int .i64 (lb.length : Int)] rfl h1 Tryd.call16 (by simp [h2, h3, h4]) ?_
      refine (join_any _ _ _ _ (Crc.sum_lt la HA.out.1) (Crc.sum_lt lb HB.out.1) (by omega)).mono ?_
      rintro e w' ⟨rfl, rfl⟩
      exact ⟨_, rfl, Ext.refl _, (show Value.int .u32 (Crc.join (Crc.sum la) (Crc.sum lb) lb.length : Nat) = .int .u32 (Crc.sum (la ++ lb) : Nat) by rw [Crc.join_sum])⟩
    refine GoodAll.cons ?_ ?_
    · intro r wx hR hx
      obtain ⟨h1, _⟩ := hx
      replace h1 : r (.tmp 9) = (.int .u32 (Crc.sum (la ++ lb) : Nat)) := h1
      intro gb hgb
      refine guard_in (b := gb) (want := true) hgb ?_
      exact give_move (.inl rfl) ⟨Ext.refl _, h1⟩
    refine GoodAll.cons ?_ ?_
    · intro r wx hR hx
      obtain ⟨h1, h2, _⟩ := hx
      replace h1 : r (.tmp 63) = (.int .u32 (Crc.sum (la ++ lb) : Nat)) := h1
      replace h2 : r (.tmp 64) = (.int .u32 (Crc.sum (la ++ lb) : Nat)) := h2
      intro gb hgb
      refine guard_in (b := gb) (want := true) hgb ?_
      exact give_of (by simp [execOp, h1, h2, go_sem]) ⟨Ext.refl _, rfl⟩
    refine GoodAll.cons ?_ ?_
    · intro r wx hR hx
      obtain ⟨h1, h2, h3, _⟩ := hx
      replace h1 : r (.tmp 54) = (.bool true) := h1
      replace h2 : r (.tmp 65) = (.bool true) := h2
      replace h3 : r (.const (.bool false)) = .bool false := h3
      exact give_pick rfl h1 ⟨Ext.refl _, h2⟩
    refine GoodAll.cons ?_ ?_
    · intro r wx hR hx
      obtain ⟨h1, _⟩ := hx
      replace h1 : r (.tmp 66) = (.bool true) := h1
      exact give_move (.inr rfl) ⟨Ext.refl _, h1⟩
    exact GoodAll.nil
  · intro vs w5 a5 hR hold ha
    have hv : vs 31 = .bool true := hold.at 31
    refine ‹∀ (a : Act) (w : World), Code.wp Tryd.prog Code.ret _ a w → _› _ _ ?_
    refine wp_ret ?_
    have hs : a5.tmps[6]? = some (.bool true) := by rw [ha, ← hv]; kernel_rfl
    have hd : a5.defers = [] := by rw [ha]; exact putAll_defers _ _ _ _
    clear ha
    refine bodyPost_ret (v := .bool true) ?_ hd ⟨rfl, hE.trans hR⟩
    simp [results, Tryd.results4, go_sem, hs]
end Go.Proofs.YtofjfnmhhldniaaDoor
