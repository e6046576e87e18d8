/- What Close and Fits of package crc answer, and the document's own beside them. Conditions: the table fourBits holds what the program's text lays. -/
import Derived.Test.YtofjfnmhhldniaaDoorWalks2
namespace Go.Proofs.YtofjfnmhhldniaaDoor
open Go.RowKit
set_option linter.unusedVariables false
set_option linter.unusedSimpArgs false

set_option maxHeartbeats 1000000 in
theorem close_any (v : Value) (l : List Nat) (w : World) (hT : Tab w) (hv : BytesAt w v l) (hl : l.length ≤ 1000000) :
    Calls Tryd.prog 12 #[v] w fun e w' => ∃ v', e = .returned v' ∧ OwnB w' w.heap.size 5 v' (Crc.close l) ∧ Ext w w' := by
  have HV : Hid (BytesAt w v l) := hv
  obtain ⟨a, c, rfl, _, _⟩ := hv.form
  have HT : Hid (Tab w) := hT
  clear hT hv
  go_enter Tryd.func12, Tryd.ntmps12
  go_wp2_with (first
    | (at_make; refine wpList_make_bytes byteT rfl _ _ rfl (l.length + 4) rfl (by simp [Act.eval]) (by omega) ?_; intro w1 ho1 he1)
    | (at_builtin; refine wpList_append_bytes byteT rfl _ _ rfl w.heap.size [] l ho1 (HV.out.ext he1) (by simp; omega) ?_; intro g1 c1 w2 ho2 hb2; simp only [List.nil_append] at ho2 ⊢))
  have e2 : Ext w w2 := Ext.on he1 hb2 (Nat.le_refl _)
  have hsl : Crc.sum l < 4294967296 := Crc.sum_lt l HV.out.1
  refine (sum_any _ [l] _ (HT.out.ext (e2.trans (Ext.alloc _ _))) (PartsAt.made w2 [_] [l] 22 _ 1 rfl rfl (by simp) ?_)).mono ?_
  · intro i hi
    obtain rfl : i = 0 := by simp at hi; omega
    exact HV.out.ext e2
  rintro e w3 ⟨rfl, rfl⟩
  rw [show [l].flatten = l by simp]
  have e3 := e2.trans (Ext.alloc w2 (Obj.cells #[Value.slice a l.length c] 22))
  have o3 := ho2.ext (Ext.alloc w2 (Obj.cells #[Value.slice a l.length c] 22))
  generalize w2.alloc (Obj.cells #[Value.slice a l.length c] 22) = w3 at *
  have HCL : Hid (Crc.close l = l ++ Crc.le4 (Crc.sum l)) := rfl
  generalize Crc.sum l = s at *
  go_wp2_with fail
  refine (put_any s _ hsl).mono ?_
  rintro e w4 ⟨rfl, e4⟩
  unfold arr4
  have o4 := (o3.ext e4).ext (Ext.alloc w4 (.cells (cellsB (Crc.le4 s)).toArray 26))
  have b4 : BytesAt (w4.alloc (.cells (cellsB (Crc.le4 s)).toArray 26)) (.slice (some ⟨w4.heap.size, 0, none⟩) 4 4) (Crc.le4 s) := by
    exact (OwnB.made (w := w4) (base := 0) (n := w4.heap.size) (e := 26) (cellsB (Crc.le4 s)).toArray (Crc.le4 s) rfl (by omega) rfl (by simp [Crc.le4, maxLen]) (Crc.le4_lt hsl) rfl).bytes
  simp only [cellsB, Crc.le4, List.map_cons, List.map_nil] at o4 b4
  go_wp2_with (at_builtin; refine wpList_append_bytes byteT rfl _ _ rfl w.heap.size l (Crc.le4 s) (by exact o4) (by exact b4) (by simp [Crc.le4]; omega) ?_; intro g5 c5 w5 ho5 hb5)
  go_ret
  refine ⟨_, rfl, ?_, Ext.on (e3.trans (e4.trans (Ext.alloc _ _))) hb5 (Nat.le_refl _)⟩
  rw [HCL.out]
  simpa using ho5

set_option maxHeartbeats 1000000 in
theorem refclose_any (v : Value) (l : List Nat) (w : World) (hv : BytesAt w v l) (hl : l.length ≤ 1000000) :
    Calls Tryd.prog 13 #[v] w fun e w' => ∃ v', e = .returned v' ∧ OwnB w' w.heap.size 5 v' (Crc.close l) ∧ Ext w w' := by
  have HV : Hid (BytesAt w v l) := hv
  obtain ⟨a, c, rfl, _, _⟩ := hv.form
  clear hv
  have hsl : Crc.sum l < 4294967296 := Crc.sum_lt l HV.out.1
  have HCL : Hid (Crc.close l = l ++ Crc.le4 (Crc.sum l)) := rfl
  go_enter Tryd.func13, Tryd.ntmps13
  go_wp2_with (first
    | (at_builtin; refine wpList_append_bytes byteT rfl _ _ rfl w.heap.size [] l (OwnB.made #[] [] rfl (Nat.le_refl _) rfl (by simp) (by simp) rfl) (HV.out.ext (Ext.alloc _ _)) (by simp; omega) ?_; intro g1 c1 w2 ho2 hb2; simp only [List.nil_append] at ho2 ⊢)
    | (go_at_call 7; refine (refsum_any _ l _ (HV.out.ext (Ext.on (Ext.alloc w (.cells #[] 5)) hb2 (Nat.le_refl _)))).mono ?_; rintro e w3 ⟨rfl, rfl⟩))
  generalize Crc.sum l = s at *
  have e2 : Ext w w3 := Ext.on (Ext.alloc w (.cells #[] 5)) hb2 (Nat.le_refl _)
  refine (bytes_any s _ hsl).mono ?_
  rintro e w4 ⟨v4, rfl, hv4, e4⟩
  have o4 := ho2.ext e4
  have HV4 : Hid (BytesAt w4 v4 (Crc.le4 s)) := hv4
  obtain ⟨a4, c4, rfl, _, _⟩ := hv4.form
  clear hv4
  go_wp2_with (at_builtin; refine wpList_append_bytes byteT rfl _ _ rfl w.heap.size l (Crc.le4 s) o4 HV4.out (by simp [Crc.le4]; omega) ?_; intro g5 c5 w5 ho5 hb5)
  go_ret
  refine ⟨_, rfl, ?_, Ext.on (e2.trans e4) hb5 (Nat.le_refl _)⟩
  rw [HCL.out]
  simpa using ho5

theorem fits_no (a : Option Addr) (n c : Nat) (w : World) (hn : n < 4) :
    Calls Tryd.prog 14 #[.slice a n c] w fun e w' => e = .returned (.bool false) ∧ w' = w := by
  go_enter Tryd.func14, Tryd.ntmps14
  go_wp2
  go_ret
  exact ⟨rfl, rfl⟩
set_option maxHeartbeats 1000000 in
theorem fits_yes (v : Value) (l : List Nat) (w : World) (hT : Tab w) (hv : BytesAt w v l) (hl : 4 ≤ l.length) (hm : l.length ≤ 1000000) :
    Calls Tryd.prog 14 #[v] w fun e w' => e = .returned (.bool (Crc.fits l)) ∧ Ext w w' := by
  have HV : Hid (BytesAt w v l) := hv
  obtain ⟨a, c, rfl, _, _⟩ := hv.form
  have HT : Hid (Tab w) := hT
  clear hT hv
  obtain ⟨b0, b1, b2, b3, hd⟩ := Crc.four l hl
  have hq : ∀ x ∈ [b0, b1, b2, b3], x < 256 := by rw [← hd]; exact fun x hx => HV.out.1 x (List.mem_of_mem_drop hx)
  have q0 := hq b0 (by simp)
  have q1 := hq b1 (by simp)
  have q2 := hq b2 (by simp)
  have q3 := hq b3 (by simp)
  have HS : Hid (BytesAt w (sliced a (l.length - 4) l.length c 1) [b0, b1, b2, b3]) := by
    have := HV.out.sliced (l.length - 4) l.length (by omega) (Nat.le_refl _)
    rw [List.take_length, hd] at this
    exact this
  have hcap := HV.out.form
  obtain ⟨a', c', e', ⟨hca, _⟩, _⟩ := hcap
  simp only [Value.slice.injEq, true_and] at e'
  obtain ⟨rfl, rfl⟩ := e'
  have hfv := Crc.fits_val hl hd HV.out.1
  have hfin : Value.bool (((Crc.val4 b0 b1 b2 b3 : Nat) : Int) == ((Crc.sum (l.take (l.length - 4)) : Nat) : Int)) = Value.bool (Crc.fits l) := by
    rw [hfv]
    congr 1
    rw [Bool.eq_iff_iff]
    simp
    omega
  clear hfv hd hq
  go_enter Tryd.func14, Tryd.ntmps14
  go_wp2
  rw [show ((l.length : Int) - 4) = ((l.length - 4 : Nat) : Int) by omega]
  have hE0 : Ext w (w.alloc (Obj.cells #[Value.int IntKind.u8 0, Value.int IntKind.u8 0, Value.int IntKind.u8 0, Value.int IntKind.u8 0] 26)).drew := (Ext.alloc _ _).trans (Ext.drew _)
  have hg0 : (w.alloc (Obj.cells #[Value.int IntKind.u8 0, Value.int IntKind.u8 0, Value.int IntKind.u8 0, Value.int IntKind.u8 0] 26)).drew.heap[w.heap.size]? = some (.cells #[Value.int IntKind.u8 0, Value.int IntKind.u8 0, Value.int IntKind.u8 0, Value.int IntKind.u8 0] 26 (0, 0)) := by
    show (w.heap.push _)[w.heap.size]? = _
    simp
  generalize w.alloc (Obj.cells #[Value.int IntKind.u8 0, Value.int IntKind.u8 0, Value.int IntKind.u8 0, Value.int IntKind.u8 0] 26) = w1 at *
  have hEF : Ext w (w1.drew.setRow w.heap.size (cellsB [b0, b1, b2, b3]).toArray) := below_setRow hE0 (Nat.le_refl _) _
  have hgF := setRow_heap w1.drew w.heap.size _ (cellsB [b0, b1, b2, b3]).toArray 26 (0, 0) hg0
  generalize hwF : w1.drew.setRow w.heap.size (cellsB [b0, b1, b2, b3]).toArray = wF at *
  refine wp_region_facts (fun t => bif Nat.ble 11 t && Nat.ble t 15 then some (t - 11) else none) 24 (Fin1 wF)
    [Is (.slice (some ⟨w.heap.size, 0, none⟩) 4 4),
     Is (.slice a l.length c),
     Is (.int .i64 ((l.length - 4 : Nat) : Int)),
     Is (sliced a (l.length - 4) l.length c 1),
     fun w v => w = wF]
    rfl (by kernel_rfl) (by kernel_rfl) rfl Fin1.refl (fun _ _ _ => Fin1.trans) ?_ ?_ ?_
  · exact KeepAll.is (KeepAll.is (KeepAll.is (KeepAll.is (KeepAll.cons (fun _ _ _ hr h => hr.elim (fun e => e.trans h) id) (KeepAll.nil)))))
  · refine GoodAll.cons ?_ ?_
    · intro r wx hR hx
      obtain ⟨h1, _⟩ := hx
      replace h1 : r (.tmp 4) = (.pointer (some ⟨w.heap.size, 0, none⟩)) := h1
      exact give_of (by simp [execOp, h1, go_sem]) ⟨Fin1.refl _, rfl⟩
    refine GoodAll.cons ?_ ?_
    · intro r wx hR hx
      obtain ⟨h1, _⟩ := hx
      replace h1 : r (.tmp 0) = (.slice a l.length c) := h1
      exact give_move (.inl rfl) ⟨Fin1.refl _, h1⟩
    refine GoodAll.cons ?_ ?_
    · intro r wx hR hx
      obtain ⟨h1, _⟩ := hx
      replace h1 : r (.tmp 3) = (.int .i64 ((l.length - 4 : Nat) : Int)) := h1
      exact give_move (.inl rfl) ⟨Fin1.refl _, h1⟩
    refine GoodAll.cons ?_ ?_
    · intro r wx hR hx
      obtain ⟨h1, h2, _⟩ := hx
      replace h1 : r (.tmp 12) = (.slice a l.length c) := h1
      replace h2 : r (.tmp 13) = (.int .i64 ((l.length - 4 : Nat) : Int)) := h2
      exact give_of (exec_slice_l byteT rfl wx _ _ c _ _ h1 h2 (by omega)) ⟨Fin1.refl _, rfl⟩
    refine GoodAll.cons ?_ ?_
    · intro r wx hR hx
      obtain ⟨h1, h2, _⟩ := hx
      replace h1 : r (.tmp 11) = (.slice (some ⟨w.heap.size, 0, none⟩) 4 4) := h1
      replace h2 : r (.tmp 14) = (sliced a (l.length - 4) l.length c 1) := h2
      rcases hR with rfl | rfl
      · exact give_of (exec_copy_bytes byteT rfl _ _ 4 4 [b0, b1, b2, b3] _ h1 hg0 rfl (by rw [h2]; exact HS.out.ext hE0) rfl (by omega)) ⟨.inr hwF, hwF⟩
      · refine give_of (exec_copy_bytes byteT rfl _ _ 4 4 [b0, b1, b2, b3] _ h1 hgF (by simp [cellsB]) (by rw [h2]; exact HS.out.ext hEF) rfl (by omega)) ⟨.inl ?_, ?_⟩
        · exact setRow_self _ _ _ _ _ hgF
        · exact setRow_self _ _ _ _ _ hgF
    exact GoodAll.nil
  · intro vs w5 a5 hR hold ha
    obtain rfl : w5 = wF := hold.at 4
    simp only [putAll, Act.put, List.setIfInBounds_toArray, List.set_cons_succ, List.set_cons_zero] at ha
    subst ha
    refine ‹∀ (a : Act) (w : World), Code.wp Tryd.prog (Code.seq _ Code.ret) _ a w → _› _ _ ?_
    clear hold hR hwF hg0 hE0
    have hcF : ∀ j u, (cellsB [b0, b1, b2, b3])[j]? = some u → w5.cell? ⟨w.heap.size, j, none⟩ = some u := by
      intro j u hu
      rw [← hu]
      have := World.news_of_block hgF j u (by simpa using hu)
      rw [add_plain, Nat.zero_add] at this
      rw [this, hu]
    go_wp2_with fail
    refine wp_region_facts (fun t => bif Nat.ble 16 t && Nat.ble t 23 then some (t - 16) else bif Nat.beq t 2 then some 8 else none) 24 Ext
      [Is (arr4 b0 b1 b2 b3),
       Is (.int .u32 (Crc.val4 b0 b1 b2 b3 : Nat)),
       Is (.slice a l.length c),
       Is (.int .i64 ((l.length - 4 : Nat) : Int)),
       fun w v => BytesAt w v (l.take (l.length - 4)),
       fun w v => PartsAt w v [l.take (l.length - 4)],
       Is (.int .u32 (Crc.sum (l.take (l.length - 4)) : Nat)),
       Is (.bool (Crc.fits l)),
       Is (.bool (Crc.fits l))]
      rfl (by kernel_rfl) (by kernel_rfl) rfl Ext.refl (fun _ _ _ => Ext.trans) ?_ ?_ ?_
    · exact KeepAll.is (KeepAll.is (KeepAll.is (KeepAll.is (KeepAll.cons (fun _ _ _ hr h => BytesAt.ext h hr) (KeepAll.cons (fun _ _ _ hr h => PartsAt.ext h hr) (KeepAll.is (KeepAll.is (KeepAll.is (KeepAll.nil)))))))))
    · refine GoodAll.cons ?_ ?_
      · intro r wx hR hx
        obtain ⟨h1, _⟩ := hx
        replace h1 : r (.tmp 4) = (.pointer (some ⟨w.heap.size, 0, none⟩)) := h1
        have hc : ∀ j u, (cellsB [b0, b1, b2, b3])[j]? = some u → wx.cell? ⟨w.heap.size, j, none⟩ = some u := fun j u hu => ((Ext.drew _).trans hR).cell (hcF j u hu)
        have c0 := hc 0 _ rfl
        have c1 := hc 1 _ rfl
        have c2 := hc 2 _ rfl
        have c3 := hc 3 _ rfl
        exact give_of (v := arr4 b0 b1 b2 b3) (w' := wx) (by simp [execOp, h1, c0, c1, c2, c3, go_sem, arr4]) ⟨Ext.refl _, rfl⟩
      refine GoodAll.cons ?_ ?_
      · intro r wx hR hx
        obtain ⟨h1, h2, _⟩ := hx
        replace h1 : r (.func 11) = .func (.func 11) #[] #[] := h1
        replace h2 : r (.tmp 16) = (arr4 b0 b1 b2 b3) := h2
        refine give_func #[arr4 b0 b1 b2 b3] rfl h1 Tryd.call11 (by simp [h2]) ?_
        refine (get_any b0 b1 b2 b3 _ q0 q1 q2 q3).mono ?_
        rintro e w' ⟨rfl, he⟩
        exact ⟨_, rfl, he, rfl⟩
      refine GoodAll.cons ?_ ?_
      · intro r wx hR hx
        obtain ⟨h1, _⟩ := hx
        replace h1 : r (.tmp 0) = (.slice a l.length c) := h1
        exact give_move (.inl rfl) ⟨Ext.refl _, h1⟩
      refine GoodAll.cons ?_ ?_
      · intro r wx hR hx
        obtain ⟨h1, _⟩ := hx
        replace h1 : r (.tmp 3) = (.int .i64 ((l.length - 4 : Nat) : Int)) := h1
        exact give_move (.inl rfl) ⟨Ext.refl _, h1⟩
      refine GoodAll.cons ?_ ?_
      · intro r wx hR hx
        obtain ⟨h1, h2, _⟩ := hx
        replace h1 : r (.tmp 18) = (.slice a l.length c) := h1
        replace h2 : r (.tmp 19) = (.int .i64 ((l.length - 4 : Nat) : Int)) := h2
        refine give_of (exec_slice_h byteT rfl wx _ _ c _ _ h1 h2 (by omega)) ⟨Ext.refl _, ?_⟩
        exact (HV.out.ext (hEF.trans ((Ext.drew _).trans hR))).sliced 0 (l.length - 4) (by omega) (by omega)
      refine GoodAll.cons ?_ ?_
      · intro r wx hR hx
        obtain ⟨h1, _⟩ := hx
        replace h1 : (fun w v => BytesAt w v (l.take (l.length - 4)) : Fact) wx (r (.tmp 20)) := h1
        obtain ⟨x1, q1', e1, _, _⟩ := BytesAt.form h1
        refine give_of (v := .slice (some ⟨wx.heap.size, 0, none⟩) 1 1) (w' := wx.alloc (.cells [r (.tmp 20)].toArray 22)) (by simp [execOp, e1, go_sem]) ⟨Ext.alloc _ _, PartsAt.made wx _ [l.take (l.length - 4)] 22 _ _ rfl rfl (by simp) ?_⟩
        intro i hi
        match i, hi with
        | 0, _ => exact h1
      refine GoodAll.cons ?_ ?_
      · intro r wx hR hx
        obtain ⟨h1, h2, _⟩ := hx
        replace h1 : r (.func 9) = .func (.func 9) #[] #[] := h1
        replace h2 : (fun w v => PartsAt w v [l.take (l.length - 4)] : Fact) wx (r (.tmp 21)) := h2
        refine give_func #[_] rfl h1 Tryd.call9 (by simp; rfl) ?_
        refine (sum_any _ _ _ (HT.out.ext (hEF.trans ((Ext.drew _).trans hR))) h2).mono ?_
        rintro e w' ⟨rfl, rfl⟩
        exact ⟨_, rfl, Ext.refl _, (show Value.int .u32 (Crc.sum [l.take (l.length - 4)].flatten : Nat) = .int .u32 (Crc.sum (l.take (l.length - 4)) : Nat) by simp)⟩
      refine GoodAll.cons ?_ ?_
      · intro r wx hR hx
        obtain ⟨h1, h2, _⟩ := hx
        replace h1 : r (.tmp 17) = (.int .u32 (Crc.val4 b0 b1 b2 b3 : Nat)) := h1
        replace h2 : r (.tmp 22) = (.int .u32 (Crc.sum (l.take (l.length - 4)) : Nat)) := h2
        exact give_of (by simp [execOp, h1, h2, go_sem]) ⟨Ext.refl _, hfin⟩
      refine GoodAll.cons ?_ ?_
      · intro r wx hR hx
        obtain ⟨h1, _⟩ := hx
        replace h1 : r (.tmp 23) = (.bool (Crc.fits l)) := h1
        exact give_move (.inr rfl) ⟨Ext.refl _, h1⟩
      exact GoodAll.nil
    · intro vs2 w6 a6 hR2 hold2 ha2
      have hv : vs2 8 = .bool (Crc.fits l) := hold2.at 8
      refine ‹∀ (a : Act) (w : World), Code.wp Tryd.prog Code.ret _ a w → _› _ _ ?_
      refine wp_ret ?_
      have hs : a6.tmps[2]? = some (.bool (Crc.fits l)) := by rw [ha2, ← hv]; kernel_rfl
      have hdf : a6.defers = [] := by rw [ha2]; exact putAll_defers _ _ _ _
      clear ha2
      refine bodyPost_ret (v := .bool (Crc.fits l)) ?_ hdf ⟨rfl, hEF.trans ((Ext.drew _).trans hR2)⟩
      simp [results, Tryd.results14, go_sem, hs]

theorem fits_any (v : Value) (l : List Nat) (w : World) (hT : Tab w) (hv : BytesAt w v l) (hm : l.length ≤ 1000000) :
    Calls Tryd.prog 14 #[v] w fun e w' => e = .returned (.bool (Crc.fits l)) ∧ Ext w w' := by
  by_cases hl : 4 ≤ l.length
  · exact fits_yes v l w hT hv hl hm
  · obtain ⟨a, c, rfl, _, _⟩ := hv.form
    refine (fits_no a _ c w (by omega)).mono ?_
    rintro e w' ⟨rfl, rfl⟩
    exact ⟨by rw [Crc.fits_short (by omega)], Ext.refl _⟩

set_option maxHeartbeats 1000000 in
theorem reffits_no (a : Option Addr) (n c : Nat) (w : World) (hn : n < 4) :
    Calls Tryd.prog 15 #[.slice a n c] w fun e w' => e = .returned (.bool false) ∧ Ext w w' := by
  go_enter Tryd.func15, Tryd.ntmps15
  go_wp2_with fail
  refine wp_region_facts (fun t => bif Nat.ble 7 t && Nat.ble t 21 then some (t - 7) else bif Nat.beq t 2 then some 15 else none) 22 Ext
    [Is (.int .i64 ((n : Int) - 4)),
     Is (.bool false),
     Is (.bool false),
     Is undef,
     Is undef,
     Is undef,
     Is undef,
     Is undef,
     Is undef,
     Is undef,
     Is undef,
     Is undef,
     Is undef,
     Is undef,
     Is (.bool false),
     Is (.bool false)]
    rfl (by kernel_rfl) (by kernel_rfl) rfl Ext.refl (fun _ _ _ => Ext.trans) ?_ ?_ ?_
  · exact KeepAll.is (KeepAll.is (KeepAll.is (KeepAll.is (KeepAll.is (KeepAll.is (KeepAll.is (KeepAll.is (KeepAll.is (KeepAll.is (KeepAll.is (KeepAll.is (KeepAll.is (KeepAll.is (KeepAll.is (KeepAll.is (KeepAll.nil))))))))))))))))
  · refine GoodAll.cons ?_ ?_
    · intro r wx hR hx
      obtain ⟨h1, _⟩ := hx
      replace h1 : r (.tmp 3) = (.int .i64 ((n : Int) - 4)) := h1
      exact give_move (.inl rfl) ⟨Ext.refl _, h1⟩
    refine GoodAll.cons ?_ ?_
    · intro r wx hR hx
      obtain ⟨h1, h2, _⟩ := hx
      replace h1 : r (.tmp 7) = (.int .i64 ((n : Int) - 4)) := h1
      replace h2 : r (.const (.int .i64 0)) = .int .i64 0 := h2
      exact give_of (by simp [execOp, h1, h2, go_sem]; omega) ⟨Ext.refl _, rfl⟩
    refine GoodAll.cons ?_ ?_
    · intro r wx hR hx
      obtain ⟨h1, _⟩ := hx
      replace h1 : r (.tmp 8) = (.bool false) := h1
      exact give_move (.inl rfl) ⟨Ext.refl _, h1⟩
    refine GoodAll.cons ?_ ?_
    · intro r wx hR hx
      obtain ⟨h1, _⟩ := hx
      replace h1 : r (.tmp 0) = (.slice a n c) := h1
      intro gb hgb
      exact guard_out (b := gb) (want := true) hgb rfl
    refine GoodAll.cons ?_ ?_
    · intro r wx hR hx
      obtain ⟨h1, _⟩ := hx
      replace h1 : r (.tmp 3) = (.int .i64 ((n : Int) - 4)) := h1
      intro gb hgb
      exact guard_out (b := gb) (want := true) hgb rfl
    refine GoodAll.cons ?_ ?_
    · intro r wx hR hx
      obtain ⟨h1, h2, _⟩ := hx
      replace h1 : r (.tmp 10) = undef := h1
      replace h2 : r (.tmp 11) = undef := h2
      intro gb hgb
      exact guard_out (b := gb) (want := true) hgb rfl
    refine GoodAll.cons ?_ ?_
    · intro r wx hR hx
      obtain ⟨h1, _⟩ := hx
      replace h1 : r (.tmp 12) = undef := h1
      intro gb hgb
      exact guard_out (b := gb) (want := true) hgb rfl
    refine GoodAll.cons ?_ ?_
    · intro r wx hR hx
      obtain ⟨h1, _⟩ := hx
      replace h1 : r (.tmp 0) = (.slice a n c) := h1
      intro gb hgb
      exact guard_out (b := gb) (want := true) hgb rfl
    refine GoodAll.cons ?_ ?_
    · intro r wx hR hx
      obtain ⟨h1, _⟩ := hx
      replace h1 : r (.tmp 3) = (.int .i64 ((n : Int) - 4)) := h1
      intro gb hgb
      exact guard_out (b := gb) (want := true) hgb rfl
    refine GoodAll.cons ?_ ?_
    · intro r wx hR hx
      obtain ⟨h1, h2, _⟩ := hx
      replace h1 : r (.tmp 14) = undef := h1
      replace h2 : r (.tmp 15) = undef := h2
      intro gb hgb
      exact guard_out (b := gb) (want := true) hgb rfl
    refine GoodAll.cons ?_ ?_
    · intro r wx hR hx
      obtain ⟨h1, h2, _⟩ := hx
      replace h1 : r (.func 7) = .func (.func 7) #[] #[] := h1
      replace h2 : r (.tmp 16) = undef := h2
      intro gb hgb
      exact guard_out (b := gb) (want := true) hgb rfl
    refine GoodAll.cons ?_ ?_
    · intro r wx hR hx
      obtain ⟨h1, h2, _⟩ := hx
      replace h1 : r (.func 10) = .func (.func 10) #[] #[] := h1
      replace h2 : r (.tmp 17) = undef := h2
      intro gb hgb
      exact guard_out (b := gb) (want := true) hgb rfl
    refine GoodAll.cons ?_ ?_
    · intro r wx hR hx
      obtain ⟨h1, _⟩ := hx
      replace h1 : r (.tmp 18) = undef := h1
      intro gb hgb
      exact guard_out (b := gb) (want := true) hgb rfl
    refine GoodAll.cons ?_ ?_
    · intro r wx hR hx
      obtain ⟨h1, h2, _⟩ := hx
      replace h1 : r (.tmp 13) = undef := h1
      replace h2 : r (.tmp 19) = undef := h2
      intro gb hgb
      exact guard_out (b := gb) (want := true) hgb rfl
    refine GoodAll.cons ?_ ?_
    · intro r wx hR hx
      obtain ⟨h1, h2, h3, _⟩ := hx
      replace h1 : r (.tmp 9) = (.bool false) := h1
      replace h2 : r (.tmp 20) = undef := h2
      replace h3 : r (.const (.bool false)) = .bool false := h3
      exact give_pickF rfl h1 ⟨Ext.refl _, h3⟩
    refine GoodAll.cons ?_ ?_
    · intro r wx hR hx
      obtain ⟨h1, _⟩ := hx
      replace h1 : r (.tmp 21) = (.bool false) := h1
      exact give_move (.inr rfl) ⟨Ext.refl _, h1⟩
    exact GoodAll.nil
  · intro vs2 w6 a6 hR2 hold2 ha2
    have hv : vs2 15 = .bool false := hold2.at 15
    refine ‹∀ (a : Act) (w : World), Code.wp Tryd.prog Code.ret _ a w → _› _ _ ?_
    refine wp_ret ?_
    have hs : a6.tmps[2]? = some (.bool false) := by rw [ha2, ← hv]; kernel_rfl
    have hdf : a6.defers = [] := by rw [ha2]; exact putAll_defers _ _ _ _
    clear ha2
    refine bodyPost_ret (v := .bool false) ?_ hdf ⟨rfl, (Ext.drew _).trans hR2⟩
    simp [results, Tryd.results15, go_sem, hs]

set_option maxHeartbeats 1000000 in
theorem reffits_yes (v : Value) (l : List Nat) (w : World) (hv : BytesAt w v l) (hl : 4 ≤ l.length) (hm : l.length ≤ 1000000) :
    Calls Tryd.prog 15 #[v] w fun e w' => e = .returned (.bool (Crc.fits l)) ∧ Ext w w' := by
  have HV : Hid (BytesAt w v l) := hv
  obtain ⟨a, c, rfl, ⟨hca, _⟩, _⟩ := hv.form
  clear hv
  have hsl : Crc.sum (l.take (l.length - 4)) < 4294967296 := Crc.sum_lt _ fun x hx => HV.out.1 x (List.mem_of_mem_take hx)
  have hfin : Value.bool ((strOf (l.drop (l.length - 4))).toList == (strOf (Crc.le4 (Crc.sum (l.take (l.length - 4))))).toList) = Value.bool (Crc.fits l) := by
    congr 1
    rw [strOf_beq _ _ (fun x hx => HV.out.1 x (List.mem_of_mem_drop hx)) (Crc.le4_lt hsl)]
    unfold Crc.fits
    congr 1
    exact propext ⟨fun h => ⟨hl, h⟩, fun h => h.2⟩
  go_enter Tryd.func15, Tryd.ntmps15
  go_wp2_with fail
  rw [show ((l.length : Int) - 4) = ((l.length - 4 : Nat) : Int) by omega]
  refine wp_region_facts (fun t => bif Nat.ble 7 t && Nat.ble t 21 then some (t - 7) else bif Nat.beq t 2 then some 15 else none) 22 Ext
    [Is (.int .i64 ((l.length - 4 : Nat) : Int)),
     Is (.bool true),
     Is (.bool true),
     Is (.slice a l.length c),
     Is (.int .i64 ((l.length - 4 : Nat) : Int)),
     fun w v => BytesAt w v (l.drop (l.length - 4)),
     Is (.string (strOf (l.drop (l.length - 4)))),
     Is (.slice a l.length c),
     Is (.int .i64 ((l.length - 4 : Nat) : Int)),
     fun w v => BytesAt w v (l.take (l.length - 4)),
     Is (.int .u32 (Crc.sum (l.take (l.length - 4)) : Nat)),
     fun w v => BytesAt w v (Crc.le4 (Crc.sum (l.take (l.length - 4)))),
     Is (.string (strOf (Crc.le4 (Crc.sum (l.take (l.length - 4)))))),
     Is (.bool (Crc.fits l)),
     Is (.bool (Crc.fits l)),
     Is (.bool (Crc.fits l))]
    rfl (by kernel_rfl) (by kernel_rfl) rfl Ext.refl (fun _ _ _ => Ext.trans) ?_ ?_ ?_
  · exact KeepAll.is (KeepAll.is (KeepAll.is (KeepAll.is (KeepAll.is (KeepAll.cons (fun _ _ _ hr h => BytesAt.ext h hr) (KeepAll.is (KeepAll.is (KeepAll.is (KeepAll.cons (fun _ _ _ hr h => BytesAt.ext h hr) (KeepAll.is (KeepAll.cons (fun _ _ _ hr h => BytesAt.ext h hr) (KeepAll.is (KeepAll.is (KeepAll.is (KeepAll.is (KeepAll.nil))))))))))))))))
  · refine GoodAll.cons ?_ ?_
    · intro r wx hR hx
      obtain ⟨h1, _⟩ := hx
      replace h1 : r (.tmp 3) = (.int .i64 ((l.length - 4 : Nat) : Int)) := h1
      exact give_move (.inl rfl) ⟨Ext.refl _, h1⟩
    refine GoodAll.cons ?_ ?_
    · intro r wx hR hx
      obtain ⟨h1, h2, _⟩ := hx
      replace h1 : r (.tmp 7) = (.int .i64 ((l.length - 4 : Nat) : Int)) := h1
      replace h2 : r (.const (.int .i64 0)) = .int .i64 0 := h2
      exact give_of (by simp [execOp, h1, h2, go_sem]) ⟨Ext.refl _, rfl⟩
    refine GoodAll.cons ?_ ?_
    · intro r wx hR hx
      obtain ⟨h1, _⟩ := hx
      replace h1 : r (.tmp 8) = (.bool true) := h1
      exact give_move (.inl rfl) ⟨Ext.refl _, h1⟩
    refine GoodAll.cons ?_ ?_
    · intro r wx hR hx
      obtain ⟨h1, _⟩ := hx
      replace h1 : r (.tmp 0) = (.slice a l.length c) := h1
      intro gb hgb
      refine guard_in (b := gb) (want := true) hgb ?_
      exact give_move (.inl rfl) ⟨Ext.refl _, h1⟩
    refine GoodAll.cons ?_ ?_
    · intro r wx hR hx
      obtain ⟨h1, _⟩ := hx
      replace h1 : r (.tmp 3) = (.int .i64 ((l.length - 4 : Nat) : Int)) := h1
      intro gb hgb
      refine guard_in (b := gb) (want := true) hgb ?_
      exact give_move (.inl rfl) ⟨Ext.refl _, h1⟩
    refine GoodAll.cons ?_ ?_
    · intro r wx hR hx
      obtain ⟨h1, h2, _⟩ := hx
      replace h1 : r (.tmp 10) = (.slice a l.length c) := h1
      replace h2 : r (.tmp 11) = (.int .i64 ((l.length - 4 : Nat) : Int)) := h2
      intro gb hgb
      refine guard_in (b := gb) (want := true) hgb ?_
      refine give_of (exec_slice_l byteT rfl wx _ _ c _ _ h1 h2 (by omega)) ⟨Ext.refl _, ?_⟩
      have hX := (HV.out.ext ((Ext.drew _).trans hR)).sliced (l.length - 4) l.length (by omega) (Nat.le_refl _)
      rw [List.take_length] at hX
      exact hX
    refine GoodAll.cons ?_ ?_
    · intro r wx hR hx
      obtain ⟨h1, _⟩ := hx
      replace h1 : (fun w v => BytesAt w v (l.drop (l.length - 4)) : Fact) wx (r (.tmp 12)) := h1
      intro gb hgb
      refine guard_in (b := gb) (want := true) hgb ?_
      exact give_of (exec_string byteT Tryd.underlying9 rfl wx _ h1) ⟨Ext.refl _, rfl⟩
    refine GoodAll.cons ?_ ?_
    · intro r wx hR hx
      obtain ⟨h1, _⟩ := hx
      replace h1 : r (.tmp 0) = (.slice a l.length c) := h1
      intro gb hgb
      refine guard_in (b := gb) (want := true) hgb ?_
      exact give_move (.inl rfl) ⟨Ext.refl _, h1⟩
    refine GoodAll.cons ?_ ?_
    · intro r wx hR hx
      obtain ⟨h1, _⟩ := hx
      replace h1 : r (.tmp 3) = (.int .i64 ((l.length - 4 : Nat) : Int)) := h1
      intro gb hgb
      refine guard_in (b := gb) (want := true) hgb ?_
      exact give_move (.inl rfl) ⟨Ext.refl _, h1⟩
    refine GoodAll.cons ?_ ?_
    · intro r wx hR hx
      obtain ⟨h1, h2, _⟩ := hx
      replace h1 : r (.tmp 14) = (.slice a l.length c) := h1
      replace h2 : r (.tmp 15) = (.int .i64 ((l.length - 4 : Nat) : Int)) := h2
      intro gb hgb
      refine guard_in (b := gb) (want := true) hgb ?_
      refine give_of (exec_slice_h byteT rfl wx _ _ c _ _ h1 h2 (by omega)) ⟨Ext.refl _, ?_⟩
      exact (HV.out.ext ((Ext.drew _).trans hR)).sliced 0 (l.length - 4) (by omega) (by omega)
    refine GoodAll.cons ?_ ?_
    · intro r wx hR hx
      obtain ⟨h1, h2, _⟩ := hx
      replace h1 : r (.func 7) = .func (.func 7) #[] #[] := h1
      replace h2 : (fun w v => BytesAt w v (l.take (l.length - 4)) : Fact) wx (r (.tmp 16)) := h2
      intro gb hgb
      refine guard_in (b := gb) (want := true) hgb ?_
      refine give_func #[_] rfl h1 Tryd.call7 (by simp; rfl) ?_
      refine (refsum_any _ _ _ h2).mono ?_
      rintro e w' ⟨rfl, rfl⟩
      exact ⟨_, rfl, Ext.refl _, rfl⟩
    refine GoodAll.cons ?_ ?_
    · intro r wx hR hx
      obtain ⟨h1, h2, _⟩ := hx
      replace h1 : r (.func 10) = .func (.func 10) #[] #[] := h1
      replace h2 : r (.tmp 17) = (.int .u32 (Crc.sum (l.take (l.length - 4)) : Nat)) := h2
      intro gb hgb
      refine guard_in (b := gb) (want := true) hgb ?_
      refine give_func #[.int .u32 (Crc.sum (l.take (l.length - 4)) : Nat)] rfl h1 Tryd.call10 (by simp [h2]) ?_
      refine (bytes_any _ _ hsl).mono ?_
      rintro e w' ⟨v', rfl, hb, he⟩
      exact ⟨_, rfl, he, hb⟩
    refine GoodAll.cons ?_ ?_
    · intro r wx hR hx
      obtain ⟨h1, _⟩ := hx
      replace h1 : (fun w v => BytesAt w v (Crc.le4 (Crc.sum (l.take (l.length - 4)))) : Fact) wx (r (.tmp 18)) := h1
      intro gb hgb
      refine guard_in (b := gb) (want := true) hgb ?_
      exact give_of (exec_string byteT Tryd.underlying9 rfl wx _ h1) ⟨Ext.refl _, rfl⟩
    refine GoodAll.cons ?_ ?_
    · intro r wx hR hx
      obtain ⟨h1, h2, _⟩ := hx
      replace h1 : r (.tmp 13) = (.string (strOf (l.drop (l.length - 4)))) := h1
      replace h2 : r (.tmp 19) = (.string (strOf (Crc.le4 (Crc.sum (l.take (l.length - 4)))))) := h2
      intro gb hgb
      refine guard_in (b := gb) (want := true) hgb ?_
      exact give_of (by simp [execOp, h1, h2, go_sem]) ⟨Ext.refl _, hfin⟩
    refine GoodAll.cons ?_ ?_
    · intro r wx hR hx
      obtain ⟨h1, h2, h3, _⟩ := hx
      replace h1 : r (.tmp 9) = (.bool true) := h1
      replace h2 : r (.tmp 20) = (.bool (Crc.fits l)) := h2
      replace h3 : r (.const (.bool false)) = .bool false := h3
      exact give_pick rfl h1 ⟨Ext.refl _, h2⟩
    refine GoodAll.cons ?_ ?_
    · intro r wx hR hx
      obtain ⟨h1, _⟩ := hx
      replace h1 : r (.tmp 21) = (.bool (Crc.fits l)) := h1
      exact give_move (.inr rfl) ⟨Ext.refl _, h1⟩
    exact GoodAll.nil
  · intro vs2 w6 a6 hR2 hold2 ha2
    have hv : vs2 15 = .bool (Crc.fits l) := hold2.at 15
    refine ‹∀ (a : Act) (w : World), Code.wp Tryd.prog Code.ret _ a w → _› _ _ ?_
    refine wp_ret ?_
    have hs : a6.tmps[2]? = some (.bool (Crc.fits l)) := by rw [ha2, ← hv]; kernel_rfl
    have hdf : a6.defers = [] := by rw [ha2]; exact putAll_defers _ _ _ _
    clear ha2
    refine bodyPost_ret (v := .bool (Crc.fits l)) ?_ hdf ⟨rfl, (Ext.drew _).trans hR2⟩
    simp [results, Tryd.results15, go_sem, hs]

theorem reffits_any (v : Value) (l : List Nat) (w : World) (hv : BytesAt w v l) (hm : l.length ≤ 1000000) :
    Calls Tryd.prog 15 #[v] w fun e w' => e = .returned (.bool (Crc.fits l)) ∧ Ext w w' := by
  by_cases hl : 4 ≤ l.length
  · exact reffits_yes v l w hv hl hm
  · obtain ⟨a, c, rfl, _, _⟩ := hv.form
    refine (reffits_no a _ c w (by omega)).mono ?_
    rintro e w' ⟨rfl, he⟩
    exact ⟨by rw [Crc.fits_short (by omega)], he⟩
end Go.Proofs.YtofjfnmhhldniaaDoor
