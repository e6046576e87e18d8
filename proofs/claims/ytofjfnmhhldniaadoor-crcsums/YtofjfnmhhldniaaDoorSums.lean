/- The law CrcSums walked: it answers true. Conditions: the table fourBits holds what the program's text lays. -/
import Derived.Test.YtofjfnmhhldniaaDoorWalks3
namespace Go.Proofs.YtofjfnmhhldniaaDoor
open Go.RowKit
set_option linter.unusedVariables false
set_option linter.unusedSimpArgs false

set_option maxHeartbeats 1000000 in
theorem sums_long (a : Option Addr) (n c : Nat) (w : World) (hT : Tab w) (hn : n ≤ maxLen) (hl : 20000 < n) :
    Calls Tryd.prog 3 #[.slice a n c] w fun e w' => e = .returned (.bool true) ∧ Below w.heap.size w w' := by
  unfold maxLen at hn
  have HT : Hid (Tab w) := hT
  clear hT
  go_enter Tryd.func3, Tryd.ntmps3
  go_wp2_with (go_at_call 6; refine (alive_any _ HT.out).mono ?_; rintro e w' ⟨rfl, hb⟩)
  go_ret
  exact ⟨rfl, hb⟩

set_option maxHeartbeats 1000000 in
theorem sums_short (v : Value) (l : List Nat) (w : World) (hT : Tab w) (hv : BytesAt w v l) (hn : l.length ≤ 20000) :
    Calls Tryd.prog 3 #[v] w fun e w' => e = .returned (.bool true) ∧ Below w.heap.size w w' := by
  have HV : Hid (BytesAt w v l) := hv
  obtain ⟨a, c, rfl, _, _⟩ := hv.form
  have HT : Hid (Tab w) := hT
  clear hT hv
  have hsl : Crc.sum l < 4294967296 := Crc.sum_lt l HV.out.1
  go_enter Tryd.func3, Tryd.ntmps3
  go_wp2_with (first
    | (go_at_call 6; refine (alive_any _ HT.out).mono ?_; rintro e w1 ⟨rfl, hbe⟩)
    | (at_builtin; refine wpList_append_bytes byteT rfl _ _ rfl w1.heap.size [] l (OwnB.made #[] [] rfl (Nat.le_refl _) rfl (by simp) (by simp) rfl) ((BytesAt.ext HV.out hbe).ext (Ext.alloc _ _)) (by simp; omega) ?_; intro g1 c1 w2 ho1 hb1; simp only [List.nil_append] at ho1 ⊢)
    | (go_at_call 7; refine (refsum_any _ l _ (HV.out.ext (Ext.step hbe _ hb1))).mono ?_; rintro e w3 ⟨rfl, rfl⟩)
    | (go_at_call 8; refine (put_any _ _ hsl).mono ?_; rintro e w4 ⟨rfl, he4⟩; unfold arr4))
  have hEa := ((Ext.step hbe _ hb1).trans he4).trans (Ext.alloc w4 (.cells (cellsB (Crc.le4 (Crc.sum l))).toArray 26))
  have hOa := (ho1.ext he4).ext (Ext.alloc w4 (.cells (cellsB (Crc.le4 (Crc.sum l))).toArray 26))
  have hb5 : BytesAt (w4.alloc (.cells (cellsB (Crc.le4 (Crc.sum l))).toArray 26)) (.slice (some ⟨w4.heap.size, 0, none⟩) 4 4) (Crc.le4 (Crc.sum l)) :=
    (OwnB.made (w := w4) (base := 0) (n := w4.heap.size) (e := 26) (cellsB (Crc.le4 (Crc.sum l))).toArray (Crc.le4 (Crc.sum l)) rfl (by omega) rfl (by simp [Crc.le4, maxLen]) (Crc.le4_lt hsl) rfl).bytes
  have hcF : ∀ j u, (cellsB (Crc.le4 (Crc.sum l)))[j]? = some u → (w4.alloc (.cells (cellsB (Crc.le4 (Crc.sum l))).toArray 26)).cell? ⟨w4.heap.size, j, none⟩ = some u := by
    intro j u hu
    rw [cellNew _ _ _ _ _ _ rfl]
    simpa using hu
  have hwe : w4.alloc (Obj.cells #[Value.int IntKind.u8 ((Crc.sum l : Nat) % 256 : Int), Value.int IntKind.u8 ((Crc.sum l : Nat) / 256 % 256 : Int), Value.int IntKind.u8 ((Crc.sum l : Nat) / 65536 % 256 : Int), Value.int IntKind.u8 ((Crc.sum l : Nat) / 16777216 : Int)] 26) = w4.alloc (.cells (cellsB (Crc.le4 (Crc.sum l))).toArray 26) := by
    simp [cellsB, Crc.le4]
  rw [hwe]
  clear hwe
  generalize w4.alloc (.cells (cellsB (Crc.le4 (Crc.sum l))).toArray 26) = w5 at *
  generalize w4.heap.size = g at *
  have hE : Ext w w5.drew := hEa.trans (Ext.drew _)
  have HO : Hid (OwnB w5 w1.heap.size 5 (Value.slice (some ⟨g1, 0, none⟩) l.length c1) l) := hOa
  clear ho1 hOa
  refine wp_region_facts (fun t => bif Nat.ble 18 t && Nat.ble t 59 then some (t - 18) else bif Nat.beq t 2 then some 42 else none) 60 Ext
    [Is (.slice (some ⟨g1, 0, none⟩) l.length c1),
     fun w v => PartsAt w v [l],
     Is (.int .u32 (Crc.sum l : Nat)),
     Is (.int .u32 (Crc.sum l : Nat)),
     Is (.bool true),
     Is (.bool true),
     Is (.slice (some ⟨g, 0, none⟩) 4 4),
     Is (.string (strOf (Crc.le4 (Crc.sum l)))),
     Is (.int .u32 (Crc.sum l : Nat)),
     fun w v => BytesAt w v (Crc.le4 (Crc.sum l)),
     Is (.string (strOf (Crc.le4 (Crc.sum l)))),
     Is (.bool true),
     Is (.bool true),
     Is (.bool true),
     Is (arr4 (Crc.sum l % 256) (Crc.sum l / 256 % 256) (Crc.sum l / 65536 % 256) (Crc.sum l / 16777216)),
     Is (.int .u32 (Crc.sum l : Nat)),
     Is (.int .u32 (Crc.sum l : Nat)),
     Is (.bool true),
     Is (.bool true),
     Is (.bool true),
     Is (.slice (some ⟨g1, 0, none⟩) l.length c1),
     fun w v => BytesAt w v (Crc.close l),
     Is (.string (strOf (Crc.close l))),
     Is (.slice a l.length c),
     fun w v => BytesAt w v (Crc.close l),
     Is (.string (strOf (Crc.close l))),
     Is (.bool true),
     Is (.bool true),
     Is (.bool true),
     Is (.slice (some ⟨g1, 0, none⟩) l.length c1),
     Is (.bool (Crc.fits l)),
     Is (.slice a l.length c),
     Is (.bool (Crc.fits l)),
     Is (.bool true),
     Is (.bool true),
     Is (.bool true),
     Is (.slice (some ⟨g1, 0, none⟩) l.length c1),
     Is (.string (strOf l)),
     Is (.slice a l.length c),
     Is (.string (strOf l)),
     Is (.bool true),
     Is (.bool true),
     Is (.bool true)]
    rfl (by kernel_rfl) (by kernel_rfl) rfl Ext.refl (fun _ _ _ => Ext.trans) ?_ ?_ ?_
  · exact KeepAll.is (KeepAll.cons (fun _ _ _ hr h => PartsAt.ext h hr) (KeepAll.is (KeepAll.is (KeepAll.is (KeepAll.is (KeepAll.is (KeepAll.is (KeepAll.is (KeepAll.cons (fun _ _ _ hr h => BytesAt.ext h hr) (KeepAll.is (KeepAll.is (KeepAll.is (KeepAll.is (KeepAll.is (KeepAll.is (KeepAll.is (KeepAll.is (KeepAll.is (KeepAll.is (KeepAll.is (KeepAll.cons (fun _ _ _ hr h => BytesAt.ext h hr) (KeepAll.is (KeepAll.is (KeepAll.cons (fun _ _ _ hr h => BytesAt.ext h hr) (KeepAll.is (KeepAll.is (KeepAll.is (KeepAll.is (KeepAll.is (KeepAll.is (KeepAll.is (KeepAll.is (KeepAll.is (KeepAll.is (KeepAll.is (KeepAll.is (KeepAll.is (KeepAll.is (KeepAll.is (KeepAll.is (KeepAll.is (KeepAll.is (KeepAll.nil)))))))))))))))))))))))))))))))))))))))))))
  · refine GoodAll.cons ?_ ?_
    · intro r wx hR hx
      obtain ⟨h1, _⟩ := hx
      replace h1 : r (.tmp 3) = (.slice (some ⟨g1, 0, none⟩) l.length c1) := h1
      exact give_move (.inl rfl) ⟨Ext.refl _, h1⟩
    refine GoodAll.cons ?_ ?_
    · intro r wx hR hx
      obtain ⟨h1, _⟩ := hx
      replace h1 : r (.tmp 18) = (.slice (some ⟨g1, 0, none⟩) l.length c1) := h1
      refine give_of (v := .slice (some ⟨wx.heap.size, 0, none⟩) 1 1) (w' := wx.alloc (.cells [.slice (some ⟨g1, 0, none⟩) l.length c1].toArray 22)) (by simp [execOp, h1, go_sem]) ⟨Ext.alloc _ _, PartsAt.made wx _ [l] 22 _ _ rfl rfl (by simp) ?_⟩
      intro i hi
      match i, hi with
      | 0, _ => exact (HO.out.bytes.ext ((Ext.drew _).trans hR))
    refine GoodAll.cons ?_ ?_
    · intro r wx hR hx
      obtain ⟨h1, h2, _⟩ := hx
      replace h1 : r (.func 9) = .func (.func 9) #[] #[] := h1
      replace h2 : (fun w v => PartsAt w v [l] : Fact) wx (r (.tmp 19)) := h2
      refine give_func #[_] rfl h1 Tryd.call9 (by simp; rfl) ?_
      refine (sum_any _ _ _ (HT.out.ext (hE.trans hR)) h2).mono ?_
      rintro e w' ⟨rfl, rfl⟩
      exact ⟨_, rfl, Ext.refl _, (show Value.int .u32 (Crc.sum [l].flatten : Nat) = .int .u32 (Crc.sum l : Nat) by simp)⟩
    refine GoodAll.cons ?_ ?_
    · intro r wx hR hx
      obtain ⟨h1, _⟩ := hx
      replace h1 : r (.tmp 4) = (.int .u32 (Crc.sum l : Nat)) := h1
      exact give_move (.inl rfl) ⟨Ext.refl _, h1⟩
    refine GoodAll.cons ?_ ?_
    · intro r wx hR hx
      obtain ⟨h1, h2, _⟩ := hx
      replace h1 : r (.tmp 20) = (.int .u32 (Crc.sum l : Nat)) := h1
      replace h2 : r (.tmp 21) = (.int .u32 (Crc.sum l : Nat)) := h2
      exact give_of (by simp [execOp, h1, h2, go_sem]) ⟨Ext.refl _, rfl⟩
    refine GoodAll.cons ?_ ?_
    · intro r wx hR hx
      obtain ⟨h1, _⟩ := hx
      replace h1 : r (.tmp 22) = (.bool true) := h1
      exact give_move (.inl rfl) ⟨Ext.refl _, h1⟩
    refine GoodAll.cons ?_ ?_
    · intro r wx hR hx
      obtain ⟨h1, _⟩ := hx
      replace h1 : r (.tmp 5) = (.pointer (some ⟨g, 0, none⟩)) := h1
      intro gb hgb
      refine guard_in (b := gb) (want := true) hgb ?_
      exact give_of (by simp [execOp, h1, go_sem]) ⟨Ext.refl _, rfl⟩
    refine GoodAll.cons ?_ ?_
    · intro r wx hR hx
      obtain ⟨h1, _⟩ := hx
      replace h1 : r (.tmp 24) = (.slice (some ⟨g, 0, none⟩) 4 4) := h1
      intro gb hgb
      refine guard_in (b := gb) (want := true) hgb ?_
      exact give_of (exec_string byteT Tryd.underlying9 rfl wx _ (by rw [h1]; exact hb5.ext ((Ext.drew _).trans hR))) ⟨Ext.refl _, rfl⟩
    refine GoodAll.cons ?_ ?_
    · intro r wx hR hx
      obtain ⟨h1, _⟩ := hx
      replace h1 : r (.tmp 4) = (.int .u32 (Crc.sum l : Nat)) := h1
      intro gb hgb
      refine guard_in (b := gb) (want := true) hgb ?_
      exact give_move (.inl rfl) ⟨Ext.refl _, h1⟩
    refine GoodAll.cons ?_ ?_
    · intro r wx hR hx
      obtain ⟨h1, h2, _⟩ := hx
      replace h1 : r (.func 10) = .func (.func 10) #[] #[] := h1
      replace h2 : r (.tmp 26) = (.int .u32 (Crc.sum l : Nat)) := h2
      intro gb hgb
      refine guard_in (b := gb) (want := true) hgb ?_
      refine give_func #[.int .u32 (Crc.sum l : Nat)] rfl h1 Tryd.call10 (by simp [h2]) ?_
      refine (bytes_any _ _ hsl).mono ?_
      rintro e w' ⟨v', rfl, hb, he⟩
      exact ⟨_, rfl, he, hb⟩
    refine GoodAll.cons ?_ ?_
    · intro r wx hR hx
      obtain ⟨h1, _⟩ := hx
      replace h1 : (fun w v => BytesAt w v (Crc.le4 (Crc.sum l)) : Fact) wx (r (.tmp 27)) := h1
      intro gb hgb
      refine guard_in (b := gb) (want := true) hgb ?_
      exact give_of (exec_string byteT Tryd.underlying9 rfl wx _ h1) ⟨Ext.refl _, rfl⟩
    refine GoodAll.cons ?_ ?_
    · intro r wx hR hx
      obtain ⟨h1, h2, _⟩ := hx
      replace h1 : r (.tmp 25) = (.string (strOf (Crc.le4 (Crc.sum l)))) := h1
      replace h2 : r (.tmp 28) = (.string (strOf (Crc.le4 (Crc.sum l)))) := h2
      intro gb hgb
      refine guard_in (b := gb) (want := true) hgb ?_
      exact give_of (by simp [execOp, h1, h2, go_sem]) ⟨Ext.refl _, rfl⟩
    refine GoodAll.cons ?_ ?_
    · intro r wx hR hx
      obtain ⟨h1, h2, h3, _⟩ := hx
      replace h1 : r (.tmp 23) = (.bool true) := h1
      replace h2 : r (.tmp 29) = (.bool true) := h2
      replace h3 : r (.const (.bool false)) = .bool false := h3
      exact give_pick rfl h1 ⟨Ext.refl _, h2⟩
    refine GoodAll.cons ?_ ?_
    · intro r wx hR hx
      obtain ⟨h1, _⟩ := hx
      replace h1 : r (.tmp 30) = (.bool true) := h1
      exact give_move (.inl rfl) ⟨Ext.refl _, h1⟩
    refine GoodAll.cons ?_ ?_
    · intro r wx hR hx
      obtain ⟨h1, _⟩ := hx
      replace h1 : r (.tmp 5) = (.pointer (some ⟨g, 0, none⟩)) := h1
      intro gb hgb
      refine guard_in (b := gb) (want := true) hgb ?_
      have hc : ∀ j u, (cellsB (Crc.le4 (Crc.sum l)))[j]? = some u → wx.cell? ⟨g, j, none⟩ = some u := fun j u hu => ((Ext.drew _).trans hR).cell (hcF j u hu)
      have c0 := hc 0 _ rfl
      have c1 := hc 1 _ rfl
      have c2 := hc 2 _ rfl
      have c3 := hc 3 _ rfl
      exact give_of (v := arr4 (Crc.sum l % 256) (Crc.sum l / 256 % 256) (Crc.sum l / 65536 % 256) (Crc.sum l / 16777216)) (w' := wx) (by simp [execOp, h1, c0, c1, c2, c3, go_sem, arr4]) ⟨Ext.refl _, rfl⟩
    refine GoodAll.cons ?_ ?_
    · intro r wx hR hx
      obtain ⟨h1, h2, _⟩ := hx
      replace h1 : r (.func 11) = .func (.func 11) #[] #[] := h1
      replace h2 : r (.tmp 32) = (arr4 (Crc.sum l % 256) (Crc.sum l / 256 % 256) (Crc.sum l / 65536 % 256) (Crc.sum l / 16777216)) := h2
      intro gb hgb
      refine guard_in (b := gb) (want := true) hgb ?_
      refine give_func #[arr4 (Crc.sum l % 256) (Crc.sum l / 256 % 256) (Crc.sum l / 65536 % 256) (Crc.sum l / 16777216)] rfl h1 Tryd.call11 (by simp [h2]) ?_
      refine (get_any _ _ _ _ _ (by omega) (by omega) (by omega) (by omega)).mono ?_
      rintro e w' ⟨rfl, he⟩
      exact ⟨_, rfl, he, (show Value.int .u32 _ = Value.int .u32 _ by rw [Crc.val_le4])⟩
    refine GoodAll.cons ?_ ?_
    · intro r wx hR hx
      obtain ⟨h1, _⟩ := hx
      replace h1 : r (.tmp 4) = (.int .u32 (Crc.sum l : Nat)) := h1
      intro gb hgb
      refine guard_in (b := gb) (want := true) hgb ?_
      exact give_move (.inl rfl) ⟨Ext.refl _, h1⟩
    refine GoodAll.cons ?_ ?_
    · intro r wx hR hx
      obtain ⟨h1, h2, _⟩ := hx
      replace h1 : r (.tmp 33) = (.int .u32 (Crc.sum l : Nat)) := h1
      replace h2 : r (.tmp 34) = (.int .u32 (Crc.sum l : Nat)) := h2
      intro gb hgb
      refine guard_in (b := gb) (want := true) hgb ?_
      exact give_of (by simp [execOp, h1, h2, go_sem]) ⟨Ext.refl _, rfl⟩
    refine GoodAll.cons ?_ ?_
    · intro r wx hR hx
      obtain ⟨h1, h2, h3, _⟩ := hx
      replace h1 : r (.tmp 31) = (.bool true) := h1
      replace h2 : r (.tmp 35) = (.bool true) := h2
      replace h3 : r (.const (.bool false)) = .bool false := h3
      exact give_pick rfl h1 ⟨Ext.refl _, h2⟩
    refine GoodAll.cons ?_ ?_
    · intro r wx hR hx
      obtain ⟨h1, _⟩ := hx
      replace h1 : r (.tmp 36) = (.bool true) := h1
      exact give_move (.inl rfl) ⟨Ext.refl _, h1⟩
    refine GoodAll.cons ?_ ?_
    · intro r wx hR hx
      obtain ⟨h1, _⟩ := hx
      replace h1 : r (.tmp 3) = (.slice (some ⟨g1, 0, none⟩) l.length c1) := h1
      intro gb hgb
      refine guard_in (b := gb) (want := true) hgb ?_
      exact give_move (.inl rfl) ⟨Ext.refl _, h1⟩
    refine GoodAll.cons ?_ ?_
    · intro r wx hR hx
      obtain ⟨h1, h2, _⟩ := hx
      replace h1 : r (.func 12) = .func (.func 12) #[] #[] := h1
      replace h2 : r (.tmp 38) = (.slice (some ⟨g1, 0, none⟩) l.length c1) := h2
      intro gb hgb
      refine guard_in (b := gb) (want := true) hgb ?_
      refine give_func #[.slice (some ⟨g1, 0, none⟩) l.length c1] rfl h1 Tryd.call12 (by simp [h2]) ?_
      refine (close_any _ l _ (HT.out.ext (hE.trans hR)) (HO.out.bytes.ext ((Ext.drew _).trans hR)) (by omega)).mono ?_
      rintro e w' ⟨v', rfl, hb, he⟩
      exact ⟨_, rfl, he, hb.bytes⟩
    refine GoodAll.cons ?_ ?_
    · intro r wx hR hx
      obtain ⟨h1, _⟩ := hx
      replace h1 : (fun w v => BytesAt w v (Crc.close l) : Fact) wx (r (.tmp 39)) := h1
      intro gb hgb
      refine guard_in (b := gb) (want := true) hgb ?_
      exact give_of (exec_string byteT Tryd.underlying9 rfl wx _ h1) ⟨Ext.refl _, rfl⟩
    refine GoodAll.cons ?_ ?_
    · intro r wx hR hx
      obtain ⟨h1, _⟩ := hx
      replace h1 : r (.tmp 0) = (.slice a l.length c) := h1
      intro gb hgb
      refine guard_in (b := gb) (want := true) hgb ?_
      exact give_move (.inl rfl) ⟨Ext.refl _, h1⟩
    refine GoodAll.cons ?_ ?_
    · intro r wx hR hx
      obtain ⟨h1, h2, _⟩ := hx
      replace h1 : r (.func 13) = .func (.func 13) #[] #[] := h1
      replace h2 : r (.tmp 41) = (.slice a l.length c) := h2
      intro gb hgb
      refine guard_in (b := gb) (want := true) hgb ?_
      refine give_func #[.slice a l.length c] rfl h1 Tryd.call13 (by simp [h2]) ?_
      refine (refclose_any _ l _ (HV.out.ext (hE.trans hR)) (by omega)).mono ?_
      rintro e w' ⟨v', rfl, hb, he⟩
      exact ⟨_, rfl, he, hb.bytes⟩
    refine GoodAll.cons ?_ ?_
    · intro r wx hR hx
      obtain ⟨h1, _⟩ := hx
      replace h1 : (fun w v => BytesAt w v (Crc.close l) : Fact) wx (r (.tmp 42)) := h1
      intro gb hgb
      refine guard_in (b := gb) (want := true) hgb ?_
      exact give_of (exec_string byteT Tryd.underlying9 rfl wx _ h1) ⟨Ext.refl _, rfl⟩
    refine GoodAll.cons ?_ ?_
    · intro r wx hR hx
      obtain ⟨h1, h2, _⟩ := hx
      replace h1 : r (.tmp 40) = (.string (strOf (Crc.close l))) := h1
      replace h2 : r (.tmp 43) = (.string (strOf (Crc.close l))) := h2
      intro gb hgb
      refine guard_in (b := gb) (want := true) hgb ?_
      exact give_of (by simp [execOp, h1, h2, go_sem]) ⟨Ext.refl _, rfl⟩
    refine GoodAll.cons ?_ ?_
    · intro r wx hR hx
      obtain ⟨h1, h2, h3, _⟩ := hx
      replace h1 : r (.tmp 37) = (.bool true) := h1
      replace h2 : r (.tmp 44) = (.bool true) := h2
      replace h3 : r (.const (.bool false)) = .bool false := h3
      exact give_pick rfl h1 ⟨Ext.refl _, h2⟩
    refine GoodAll.cons ?_ ?_
    · intro r wx hR hx
      obtain ⟨h1, _⟩ := hx
      replace h1 : r (.tmp 45) = (.bool true) := h1
      exact give_move (.inl rfl) ⟨Ext.refl _, h1⟩
    refine GoodAll.cons ?_ ?_
    · intro r wx hR hx
      obtain ⟨h1, _⟩ := hx
      replace h1 : r (.tmp 3) = (.slice (some ⟨g1, 0, none⟩) l.length c1) := h1
      intro gb hgb
      refine guard_in (b := gb) (want := true) hgb ?_
      exact give_move (.inl rfl) ⟨Ext.refl _, h1⟩
    refine GoodAll.cons ?_ ?_
    · intro r wx hR hx
      obtain ⟨h1, h2, _⟩ := hx
      replace h1 : r (.func 14) = .func (.func 14) #[] #[] := h1
      replace h2 : r (.tmp 47) = (.slice (some ⟨g1, 0, none⟩) l.length c1) := h2
      intro gb hgb
      refine guard_in (b := gb) (want := true) hgb ?_
      refine give_func #[.slice (some ⟨g1, 0, none⟩) l.length c1] rfl h1 Tryd.call14 (by simp [h2]) ?_
      refine (fits_any _ l _ (HT.out.ext (hE.trans hR)) (HO.out.bytes.ext ((Ext.drew _).trans hR)) (by omega)).mono ?_
      rintro e w' ⟨rfl, he⟩
      exact ⟨_, rfl, he, rfl⟩
    refine GoodAll.cons ?_ ?_
    · intro r wx hR hx
      obtain ⟨h1, _⟩ := hx
      replace h1 : r (.tmp 0) = (.slice a l.length c) := h1
      intro gb hgb
      refine guard_in (b := gb) (want := true) hgb ?_
      exact give_move (.inl rfl) ⟨Ext.refl _, h1⟩
    refine GoodAll.cons ?_ ?_
    · intro r wx hR hx
      obtain ⟨h1, h2, _⟩ := hx
      replace h1 : r (.func 15) = .func (.func 15) #[] #[] := h1
      replace h2 : r (.tmp 49) = (.slice a l.length c) := h2
      intro gb hgb
      refine guard_in (b := gb) (want := true) hgb ?_
      refine give_func #[.slice a l.length c] rfl h1 Tryd.call15 (by simp [h2]) ?_
      refine (reffits_any _ l _ (HV.out.ext (hE.trans hR)) (by omega)).mono ?_
      rintro e w' ⟨rfl, he⟩
      exact ⟨_, rfl, he, rfl⟩
    refine GoodAll.cons ?_ ?_
    · intro r wx hR hx
      obtain ⟨h1, h2, _⟩ := hx
      replace h1 : r (.tmp 48) = (.bool (Crc.fits l)) := h1
      replace h2 : r (.tmp 50) = (.bool (Crc.fits l)) := h2
      intro gb hgb
      refine guard_in (b := gb) (want := true) hgb ?_
      exact give_of (by simp [execOp, h1, h2, go_sem]) ⟨Ext.refl _, rfl⟩
    refine GoodAll.cons ?_ ?_
    · intro r wx hR hx
      obtain ⟨h1, h2, h3, _⟩ := hx
      replace h1 : r (.tmp 46) = (.bool true) := h1
      replace h2 : r (.tmp 51) = (.bool true) := h2
      replace h3 : r (.const (.bool false)) = .bool false := h3
      exact give_pick rfl h1 ⟨Ext.refl _, h2⟩
    refine GoodAll.cons ?_ ?_
    · intro r wx hR hx
      obtain ⟨h1, _⟩ := hx
      replace h1 : r (.tmp 52) = (.bool true) := h1
      exact give_move (.inl rfl) ⟨Ext.refl _, h1⟩
    refine GoodAll.cons ?_ ?_
    · intro r wx hR hx
      obtain ⟨h1, _⟩ := hx
      replace h1 : r (.tmp 3) = (.slice (some ⟨g1, 0, none⟩) l.length c1) := h1
      intro gb hgb
      refine guard_in (b := gb) (want := true) hgb ?_
      exact give_move (.inl rfl) ⟨Ext.refl _, h1⟩
    refine GoodAll.cons ?_ ?_
    · intro r wx hR hx
      obtain ⟨h1, _⟩ := hx
      replace h1 : r (.tmp 54) = (.slice (some ⟨g1, 0, none⟩) l.length c1) := h1
      intro gb hgb
      refine guard_in (b := gb) (want := true) hgb ?_
      exact give_of (exec_string byteT Tryd.underlying9 rfl wx _ (by rw [h1]; exact (HO.out.bytes.ext ((Ext.drew _).trans hR)))) ⟨Ext.refl _, rfl⟩
    refine GoodAll.cons ?_ ?_
    · intro r wx hR hx
      obtain ⟨h1, _⟩ := hx
      replace h1 : r (.tmp 0) = (.slice a l.length c) := h1
      intro gb hgb
      refine guard_in (b := gb) (want := true) hgb ?_
      exact give_move (.inl rfl) ⟨Ext.refl _, h1⟩
    refine GoodAll.cons ?_ ?_
    · intro r wx hR hx
      obtain ⟨h1, _⟩ := hx
      replace h1 : r (.tmp 56) = (.slice a l.length c) := h1
      intro gb hgb
      refine guard_in (b := gb) (want := true) hgb ?_
      exact give_of (exec_string byteT Tryd.underlying9 rfl wx _ (by rw [h1]; exact (HV.out.ext (hE.trans hR)))) ⟨Ext.refl _, rfl⟩
    refine GoodAll.cons ?_ ?_
    · intro r wx hR hx
      obtain ⟨h1, h2, _⟩ := hx
      replace h1 : r (.tmp 55) = (.string (strOf l)) := h1
      replace h2 : r (.tmp 57) = (.string (strOf l)) := h2
      intro gb hgb
      refine guard_in (b := gb) (want := true) hgb ?_
      exact give_of (by simp [execOp, h1, h2, go_sem]) ⟨Ext.refl _, rfl⟩
    refine GoodAll.cons ?_ ?_
    · intro r wx hR hx
      obtain ⟨h1, h2, h3, _⟩ := hx
      replace h1 : r (.tmp 53) = (.bool true) := h1
      replace h2 : r (.tmp 58) = (.bool true) := h2
      replace h3 : r (.const (.bool false)) = .bool false := h3
      exact give_pick rfl h1 ⟨Ext.refl _, h2⟩
    refine GoodAll.cons ?_ ?_
    · intro r wx hR hx
      obtain ⟨h1, _⟩ := hx
      replace h1 : r (.tmp 59) = (.bool true) := h1
      exact give_move (.inr rfl) ⟨Ext.refl _, h1⟩
    exact GoodAll.nil
  · intro vs2 w6 a6 hR2 hold2 ha2
    have hv : vs2 42 = .bool true := hold2.at 42
    refine ‹∀ (a : Act) (w : World), Code.wp Tryd.prog Code.ret _ a w → _› _ _ ?_
    refine wp_ret ?_
    have hs : a6.tmps[2]? = some (.bool true) := by rw [ha2, ← hv]; kernel_rfl
    have hdf : a6.defers = [] := by rw [ha2]; exact putAll_defers _ _ _ _
    clear ha2
    refine bodyPost_ret (v := .bool true) ?_ hdf ⟨rfl, hE.trans hR2⟩
    simp [results, Tryd.results3, go_sem, hs]
end Go.Proofs.YtofjfnmhhldniaaDoor
