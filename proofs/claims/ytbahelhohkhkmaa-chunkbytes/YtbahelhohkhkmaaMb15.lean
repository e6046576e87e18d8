/- For any chunk the law ChunkBytes answers true and leaves its argument as it was: which chunks are good is what the document says, a good chunk's bytes are the document's, and these are read to the chunk again. Conditions: none. -/
import Derived.Test.YtbahelhohkhkmaaMb14
import Derived.Lib.SmallJoins
import Derived.SizedLaws
import Derived.Test.YtbahelhohkhkmaaRows
import Derived.WalkKit
import Derived.ProofKit
import Derived.OpenShut
import Derived.ShutString
import Derived.ChangeOld
import Derived.Below
set_option linter.unusedVariables false
set_option linter.unusedSimpArgs false
/- The law ChunkBytes walked. No condition of its own. -/
namespace Go.Proofs.Ytbahelhohkhkmaa
namespace Tlv
open Go Go.RowKit
set_option maxRecDepth 100000
theorem errT : Try.prog.underlying 41 = some (.interface (Try.prog.methodsAt 41)) := by kernel_rfl
theorem exec_neq0 {r : Operand → Value} {o : Oper} {x : Operand} {tt : TypeId} {w : World} (ho : o.op = .binOp .neq 41 x (.const .nilIface) tt) (hx : r x = .nilIface) (hc : r (.const .nilIface) = .nilIface) : (execOp r o).run Try.prog w = .ok (.value (.bool false)) w := by
 have h2 := run_neq_nil_nil (P := Try.prog) w 41 errT
 cases x <;> simp [execOp, ho, hx, hc, h2, eqGuard, go_sem]
theorem exec_eql0 {r : Operand → Value} {o : Oper} {x : Operand} {tt : TypeId} {w : World} (ho : o.op = .binOp .eql 41 x (.const .nilIface) tt) (hx : r x = .nilIface) (hc : r (.const .nilIface) = .nilIface) : (execOp r o).run Try.prog w = .ok (.value (.bool true)) w := by
 have h2 := run_eql_nil_nil (P := Try.prog) w 41 errT
 cases x <;> simp [execOp, ho, hx, hc, h2, eqGuard, go_sem]
theorem exec_neqS {r : Operand → Value} {o : Oper} {x y : Operand} {tt : TypeId} {w : World} {l : List Nat} (ho : o.op = .binOp .neq 9 x y tt) (hx : r x = .string (strOf l)) (hy : r y = .string (strOf l)) (hl : ∀ x ∈ l, x < 256) :
  (execOp r o).run Try.prog w = .ok (.value (.bool false)) w := by
 have := strOf_beq l l hl hl
 simp [execOp, ho, hx, hy, go_sem, this, bne]
theorem bytes_no {w : World} {c : Ck} {s : Sv} (ha : CkAt w s c) (hf : Fit c) (hg : goodB c = false) :
  Calls Try.prog 10 #[.agg (CV c s)] w fun e w' => e = .returned (.tuple #[.slice none 0 0, errF]) ∧ Ext w w' := by
 refine (bytesC_any ha hf).mono ?_
 rintro e w' ⟨he, ⟨_, rfl⟩ | ⟨h, _⟩⟩
 ·
  exact ⟨rfl, he⟩
 ·
  rw [hg] at h; cases h
theorem bytes_yes {w : World} {c : Ck} {s : Sv} (ha : CkAt w s c) (hf : Fit c) (hg : goodB c = true) :
  Calls Try.prog 10 #[.agg (CV c s)] w fun e w' => ∃ a n cp, e = .returned (.tuple #[.slice a n cp, .nilIface]) ∧ n = (bytesB c).length ∧ OB w' w.heap.size (.slice a n cp) (bytesB c) ∧ Ext w w' := by
 refine (bytesC_any ha hf).mono ?_
 rintro e w' ⟨he, ⟨h, _⟩ | ⟨_, a, n, cp, rfl, h1, h2⟩⟩
 ·
  rw [hg] at h; cases h
 ·
  exact ⟨a, n, cp, rfl, h1, h2, he⟩
theorem bytesB_le {c : Ck} (hg : GoodC c) : (bytesB c).length ≤ 700 := (bytes_le _ _ _ _ (valB_len hg)).1
theorem sameT (c : Ck) : refSameB c c = true := (refSameB_eq c c).trans (sameB_refl c)
set_option maxHeartbeats 32000000 in
theorem bytes_walk {w : World} {c : Ck} {s : Sv} (ha : CkAt w s c) (hf : Fit c) (hl : Lens c) :
  Calls Try.prog 3 #[.agg (CV c s)] w fun e w' => e = .returned (.bool true) ∧ Ext w w' := by
 have HA : Hid (CkAt w s c ∧ Fit c ∧ Lens c) := ⟨ha, hf, hl⟩
 clear ha hf hl
 by_cases hsz : (sizeC c : Int) > 3000
 ·
  have hszd : decide ((sizeC c : Int) > 3000) = true := decide_eq_true hsz
  have hszn : decide (3000 < sizeC c) = true := decide_eq_true (by omega)
  go_enter Try.func3, Try.ntmps3
  go_wp2_with (first
   | (have q_ := hb2; clear q_; go_at_call 8; refine (size_any (HA.out.1.ext HE2.out) HA.out.2.2).mono ?_; rintro e w3 ⟨rfl, he3⟩; have hb3 := hb2.ext he3; have HE3 : Hid (Ext w w3) := HE2.out.trans he3; clear hb2 he3)
   | (have q_ := hb2; clear q_; refine wl_load rfl rowC2 rfl rfl hb2 rfl ?_)
   | (have q_ := hb1; clear q_; go_at_call 7; refine (alive_any _).mono ?_; rintro e w2 ⟨rfl, he2⟩; have hb2 := hb1.ext he2; have HE2 : Hid (Ext w w2) := he1.trans he2; clear hb1 he1 he2)
   | (refine wl_box (C := CV c s) rfl rfl rfl ?_; intro w1 hb1 he1 hx; clear hx))
  go_ret
  exact ⟨rfl, HE3.out⟩
 ·
  have hszd : decide ((sizeC c : Int) > 3000) = false := decide_eq_false hsz
  have hszn : decide (3000 < sizeC c) = false := decide_eq_false (by omega)
  have HSM : Hid (Small c) := sizeC_small (by omega)
  clear hsz
  cases hgd : goodB c with
  | false =>
   go_enter Try.func3, Try.ntmps3
   go_wp2_with (first
    | (have q_ := HZ6; clear q_; go_at_call 11; refine (refGoodC (HA.out.1.ext HZ6.out.1)).mono ?_; rintro e w7 ⟨rfl, he7⟩; rw [hgd]; have HE7 : Hid (Ext w w7 ∧ CkAt w7 z c ∧ Blk w7 w.heap.size (CV c s) 32 ∧ Blk w7 w4.heap.size (CV c z) 38) := ⟨HZ6.out.1.trans he7, HZ6.out.2.ext he7, hb6.ext he7, hd6.ext he7⟩; clear HZ6 hb6 hd6 he7)
    | (have q_ := HZ6; clear q_; refine wl_load rfl rowC2 rfl rfl hb6 rfl ?_)
    | (have q_ := HZ5; clear q_; go_at_call 10; refine (bytes_no HZ5.out.2 HA.out.2.1 hgd).mono ?_; rintro e w6 ⟨rfl, he6⟩; have hb6 := hb4.ext he6; have hd6 := hb5.ext he6; have HZ6 : Hid (Ext w w6 ∧ CkAt w6 z c) := ⟨HZ5.out.1.trans he6, HZ5.out.2.ext he6⟩; clear HZ5 hb4 hb5 he6)
    | (have q_ := HZ5; clear q_; refine wl_load rfl rowC rfl rfl hb5 rfl ?_)
    | (have q_ := HB4; clear q_; refine wl_alloc rfl rfl zeroC ?_; intro w5a hb5a he5a hx; clear hx; refine wl_store (D := CV c z) rfl rowC rfl rfl rfl hb5a rfl rfl (CV.one _ _) ?_; intro w5 hb5 hk5 hx; clear hx; have he5 := he5a.of_but hk5 (fun k e => by subst e; exact Nat.le_refl _); have hb4 : Blk w5 w.heap.size (CV c s) 32 := HB4.out.1.ext he5; have HZ5 : Hid (Ext w w5 ∧ CkAt w5 z c) := ⟨HB4.out.2.1.trans he5, HB4.out.2.2.ext he5⟩; clear hb5a he5a hk5 he5)
    | (have q_ := hb3; clear q_; go_at_call 9; refine (program_any (HA.out.1.ext HE3.out) HSM.out).mono ?_; rintro e w4 ⟨z, rfl, hz, he4⟩; have HB4 : Hid (Blk w4 w.heap.size (CV c s) 32 ∧ Ext w w4 ∧ CkAt w4 z c) := ⟨hb3.ext he4, HE3.out.trans he4, hz.at⟩; clear hb3 he4 hz)
    | (have q_ := hb3; clear q_; refine wl_load rfl rowC2 rfl rfl hb3 rfl ?_)
    | (have q_ := hb2; clear q_; go_at_call 8; refine (size_any (HA.out.1.ext HE2.out) HA.out.2.2).mono ?_; rintro e w3 ⟨rfl, he3⟩; have hb3 := hb2.ext he3; have HE3 : Hid (Ext w w3) := HE2.out.trans he3; clear hb2 he3)
    | (have q_ := hb2; clear q_; refine wl_load rfl rowC2 rfl rfl hb2 rfl ?_)
    | (have q_ := hb1; clear q_; go_at_call 7; refine (alive_any _).mono ?_; rintro e w2 ⟨rfl, he2⟩; have hb2 := hb1.ext he2; have HE2 : Hid (Ext w w2) := he1.trans he2; clear hb1 he1 he2)
    | (refine wl_box (C := CV c s) rfl rfl rfl ?_; intro w1 hb1 he1 hx; clear hx))
   obtain ⟨q4, hq4⟩ : ∃ q, q = w.heap.size := ⟨_, rfl⟩
   obtain ⟨q3, hq3⟩ : ∃ q, q = w4.heap.size := ⟨_, rfl⟩
   have HQ : Hid (q4 = w.heap.size ∧ q3 = w4.heap.size) := ⟨hq4, hq3⟩
   rw [← hq4, ← hq3] at HE7
   rw [← hq4, ← hq3]
   clear hq4 hq3
   have HEx : ∀ {wx : World}, Ext w7.drew wx → Ext w wx := fun h => HE7.out.1.trans ((Ext.drew _).trans h)
   have HB2x : ∀ {wx : World}, Ext w7.drew wx → Blk wx q4 (CV c s) 32 := fun h => HE7.out.2.2.1.ext ((Ext.drew _).trans h)
   have HB3x : ∀ {wx : World}, Ext w7.drew wx → Blk wx q3 (CV c z) 38 := fun h => HE7.out.2.2.2.ext ((Ext.drew _).trans h)
   have HZx : ∀ {wx : World}, Ext w7.drew wx → CkAt wx z c := fun h => HE7.out.2.1.ext ((Ext.drew _).trans h)
   refine wp_region_facts (fun t => bif Nat.ble 22 t && Nat.ble t 32 then some (t - 22) else none) 65 Ext
    [Is (.agg (CV c z)),
     Is (.bool false),
     Is (.bool false),
     Is (.bool false),
     Is (.bool false),
     Is (.agg (CV c z)),
     (fun wx v => ∃ z3, v = .agg (CV c z3) ∧ CkAt wx z3 c),
     Is (.agg (CV c s)),
     Is (.bool true),
     Is (.bool false),
     Is (.bool false)]
    rfl (by kernel_rfl) (by kernel_rfl) rfl Ext.refl (fun _ _ _ => Ext.trans) ?_ ?_ ?_
   ·
    exact Ks (Ks (Ks (Ks (Ks (Ks (KeepAll.cons (fun _ _ _ hR h => by obtain ⟨z3, e, h3⟩ := h; exact ⟨z3, e, h3.ext hR⟩) (Ks (Ks (Ks (Ks (KeepAll.nil)))))))))))
   ·
    refine Gc (lr1 Ext.refl rfl rfl rfl (fun _ _ h => h) (fun r wx hR h1 => exec_loadW rowC rfl h1 (HB3x hR) rfl)) ?_
    refine Gc ?_ ?_
    ·
     rintro r wx hR ⟨h1, h2, _⟩
     replace h1 : r (.func 12) = .func (.func 12) #[] #[] := h1
     replace h2 : r (.tmp 22) = (.agg (CV c z)) := h2
     refine give_func #[.agg (CV c z)] rfl h1 Try.call12 (by simp [h2]) ?_
     refine (goodC_any (HZx hR)).mono ?_
     rintro e w' ⟨rfl, he⟩
     exact ⟨_, rfl, he, congrArg Value.bool hgd⟩
    refine Gc (lr1 Ext.refl rfl rfl rfl (fun _ _ h => h) (fun r wx hR h1 => exec_mv (.inl rfl) h1)) ?_
    refine Gc (lr2 Ext.refl rfl rfl rfl (fun _ _ h => h) (fun _ _ h => h) (fun r wx hR h1 h2 => by simp [execOp, h1, h2, go_sem])) ?_
    refine Gc (lr1 Ext.refl rfl rfl rfl (fun _ _ h => h) (fun r wx hR h1 => exec_mv (.inl rfl) h1)) ?_
    refine Gc ?_ ?_
    ·
     rintro r wx hR ⟨h1, _⟩
     replace h1 : r (.tmp 3) = (.pointer (some ⟨q3, 0, none⟩)) := h1
     intro gb hgb
     refine guard_in (b := gb) (want := false) hgb ?_
     exact gvo (exec_loadW rowC rfl h1 (HB3x hR) rfl) ⟨Ext.refl _, rfl⟩
    refine Gc ?_ ?_
    ·
     rintro r wx hR ⟨h1, h2, _⟩
     replace h1 : r (.func 14) = .func (.func 14) #[] #[] := h1
     replace h2 : r (.tmp 27) = (.agg (CV c z)) := h2
     intro gb hgb
     refine guard_in (b := gb) (want := false) hgb ?_
     refine give_func #[.agg (CV c z)] rfl h1 Try.call14 (by simp [h2]) ?_
     refine (document_any (HZx hR) HSM.out).mono ?_
     rintro e w' ⟨z3, rfl, h3, he⟩
     exact ⟨_, rfl, he, z3, rfl, h3⟩
    refine Gc ?_ ?_
    ·
     rintro r wx hR ⟨h1, _⟩
     replace h1 : r (.tmp 1) = (.pointer (some ⟨q4, 0, none⟩)) := h1
     intro gb hgb
     refine guard_in (b := gb) (want := false) hgb ?_
     exact gvo (exec_loadW rowC2 rfl h1 (HB2x hR) rfl) ⟨Ext.refl _, rfl⟩
    refine Gc ?_ ?_
    ·
     rintro r wx hR ⟨h1, h2, h3, _⟩
     replace h1 : r (.func 13) = .func (.func 13) #[] #[] := h1
     replace h2 : ((fun wx v => ∃ z3, v = .agg (CV c z3) ∧ CkAt wx z3 c) : Fact) wx (r (.tmp 28)) := h2
     replace h3 : r (.tmp 29) = (.agg (CV c s)) := h3
     intro gb hgb
     refine guard_in (b := gb) (want := false) hgb ?_
     obtain ⟨z3, e3, hz3⟩ := h2
     refine give_func #[.agg (CV c z3), .agg (CV c s)] rfl h1 Try.call13 (by simp [e3, h3]) ?_
     refine (refSame_any hz3 (HA.out.1.ext (HEx hR))).mono ?_
     rintro e w' ⟨rfl, he⟩
     exact ⟨_, rfl, he, congrArg Value.bool (sameT c)⟩
    refine Gc ?_ ?_
    ·
     rintro r wx hR ⟨h1, _⟩
     replace h1 : r (.tmp 30) = (.bool true) := h1
     intro gb hgb
     refine guard_in (b := gb) (want := false) hgb ?_
     exact gvo (by simp [execOp, h1, go_sem]) ⟨Ext.refl _, rfl⟩
    refine Gc ?_ ?_
    ·
     rintro r wx hR ⟨h1, h2, h3, _⟩
     replace h1 : r (.tmp 26) = (.bool false) := h1
     replace h2 : r (.const (.bool true)) = .bool true := h2
     replace h3 : r (.tmp 31) = (.bool false) := h3
     exact give_pickF rfl h1 ⟨Ext.refl _, h3⟩
    exact GoodAll.nil
   ·
    intro vs w8 aY hR hold ha8
    have hv0 : vs 0 = (.agg (CV c z)) := hold.at 0
    have hv1 : vs 1 = (.bool false) := hold.at 1
    have hv2 : vs 2 = (.bool false) := hold.at 2
    have hv3 : vs 3 = (.bool false) := hold.at 3
    have hv4 : vs 4 = (.bool false) := hold.at 4
    have hv5 : vs 5 = (.agg (CV c z)) := hold.at 5
    have hv7 : vs 7 = (.agg (CV c s)) := hold.at 7
    have hv8 : vs 8 = (.bool true) := hold.at 8
    have hv9 : vs 9 = (.bool false) := hold.at 9
    have hv10 : vs 10 = (.bool false) := hold.at 10
    simp only [putAll, Act.put, Nat.zero_add, Nat.reduceAdd, hv0, hv1, hv2, hv3, hv4, hv5, hv7, hv8, hv9, hv10, List.setIfInBounds_toArray, List.set_cons_succ, List.set_cons_zero] at ha8
    subst ha8
    have HE8 : Hid (Ext w w8 ∧ CkAt w8 z c ∧ Blk w8 q4 (CV c s) 32) := ⟨HEx hR, HZx hR, HB2x hR⟩
    clear hold hR HEx HB2x HB3x HZx HE7 hv0 hv1 hv2 hv3 hv4 hv5 hv7 hv8 hv9 hv10
    go_wp2_with (first
     | (go_at_call 15; refine (isF _).mono ?_; rintro e w9 ⟨rfl, he9⟩; subst he9))
    go_ret
    exact ⟨rfl, HE8.out.1⟩
  | true =>
   have HGC : Hid (GoodC c) := (goodB_iff c).1 hgd
   go_enter Try.func3, Try.ntmps3
   go_wp2_with (first
    | (have q_ := HZ6; clear q_; go_at_call 11; refine (refGoodC (HA.out.1.ext HZ6.out.1)).mono ?_; rintro e w7 ⟨rfl, he7⟩; rw [hgd]; have HE7 : Hid (Ext w w7 ∧ CkAt w7 z c ∧ Blk w7 w.heap.size (CV c s) 32 ∧ Blk w7 w4.heap.size (CV c z) 38 ∧ bn = (bytesB c).length ∧ BytesAt w7 (.slice ba bn bc) (bytesB c)) := ⟨HZ6.out.1.trans he7, HZ6.out.2.ext he7, hb6.ext he7, hd6.ext he7, HBO6.out.1, HBO6.out.2.ext he7⟩; clear HBO6 HZ6 hb6 hd6 he7)
    | (have q_ := HZ6; clear q_; refine wl_load rfl rowC2 rfl rfl hb6 rfl ?_)
    | (have q_ := HZ5; clear q_; go_at_call 10; refine (bytes_yes HZ5.out.2 HA.out.2.1 hgd).mono ?_; rintro e w6 ⟨ba, bn, bc, rfl, hbn, hbo, he6⟩; have hb6 := hb4.ext he6; have hd6 := hb5.ext he6; have HZ6 : Hid (Ext w w6 ∧ CkAt w6 z c) := ⟨HZ5.out.1.trans he6, HZ5.out.2.ext he6⟩; have HBO6 : Hid (bn = (bytesB c).length ∧ BytesAt w6 (.slice ba bn bc) (bytesB c)) := ⟨hbn, hbo.bytes⟩; clear HZ5 hb4 hb5 he6 hbn hbo)
    | (have q_ := HZ5; clear q_; refine wl_load rfl rowC rfl rfl hb5 rfl ?_)
    | (have q_ := HB4; clear q_; refine wl_alloc rfl rfl zeroC ?_; intro w5a hb5a he5a hx; clear hx; refine wl_store (D := CV c z) rfl rowC rfl rfl rfl hb5a rfl rfl (CV.one _ _) ?_; intro w5 hb5 hk5 hx; clear hx; have he5 := he5a.of_but hk5 (fun k e => by subst e; exact Nat.le_refl _); have hb4 : Blk w5 w.heap.size (CV c s) 32 := HB4.out.1.ext he5; have HZ5 : Hid (Ext w w5 ∧ CkAt w5 z c) := ⟨HB4.out.2.1.trans he5, HB4.out.2.2.ext he5⟩; clear hb5a he5a hk5 he5)
    | (have q_ := hb3; clear q_; go_at_call 9; refine (program_any (HA.out.1.ext HE3.out) HSM.out).mono ?_; rintro e w4 ⟨z, rfl, hz, he4⟩; have HB4 : Hid (Blk w4 w.heap.size (CV c s) 32 ∧ Ext w w4 ∧ CkAt w4 z c) := ⟨hb3.ext he4, HE3.out.trans he4, hz.at⟩; clear hb3 he4 hz)
    | (have q_ := hb3; clear q_; refine wl_load rfl rowC2 rfl rfl hb3 rfl ?_)
    | (have q_ := hb2; clear q_; go_at_call 8; refine (size_any (HA.out.1.ext HE2.out) HA.out.2.2).mono ?_; rintro e w3 ⟨rfl, he3⟩; have hb3 := hb2.ext he3; have HE3 : Hid (Ext w w3) := HE2.out.trans he3; clear hb2 he3)
    | (have q_ := hb2; clear q_; refine wl_load rfl rowC2 rfl rfl hb2 rfl ?_)
    | (have q_ := hb1; clear q_; go_at_call 7; refine (alive_any _).mono ?_; rintro e w2 ⟨rfl, he2⟩; have hb2 := hb1.ext he2; have HE2 : Hid (Ext w w2) := he1.trans he2; clear hb1 he1 he2)
    | (refine wl_box (C := CV c s) rfl rfl rfl ?_; intro w1 hb1 he1 hx; clear hx))
   obtain ⟨q4, hq4⟩ : ∃ q, q = w.heap.size := ⟨_, rfl⟩
   obtain ⟨q3, hq3⟩ : ∃ q, q = w4.heap.size := ⟨_, rfl⟩
   have HQ : Hid (q4 = w.heap.size ∧ q3 = w4.heap.size) := ⟨hq4, hq3⟩
   rw [← hq4, ← hq3] at HE7
   rw [← hq4, ← hq3]
   clear hq4 hq3
   have HEx : ∀ {wx : World}, Ext w7.drew wx → Ext w wx := fun h => HE7.out.1.trans ((Ext.drew _).trans h)
   have HB2x : ∀ {wx : World}, Ext w7.drew wx → Blk wx q4 (CV c s) 32 := fun h => HE7.out.2.2.1.ext ((Ext.drew _).trans h)
   have HB3x : ∀ {wx : World}, Ext w7.drew wx → Blk wx q3 (CV c z) 38 := fun h => HE7.out.2.2.2.1.ext ((Ext.drew _).trans h)
   have HZx : ∀ {wx : World}, Ext w7.drew wx → CkAt wx z c := fun h => HE7.out.2.1.ext ((Ext.drew _).trans h)
   refine wp_region_facts (fun t => bif Nat.ble 22 t && Nat.ble t 32 then some (t - 22) else none) 65 Ext
    [Is (.agg (CV c z)),
     Is (.bool true),
     Is (.bool true),
     Is (.bool false),
     Is (.bool false),
     Is (.agg (CV c z)),
     (fun wx v => ∃ z3, v = .agg (CV c z3) ∧ CkAt wx z3 c),
     Is (.agg (CV c s)),
     Is (.bool true),
     Is (.bool false),
     Is (.bool false)]
    rfl (by kernel_rfl) (by kernel_rfl) rfl Ext.refl (fun _ _ _ => Ext.trans) ?_ ?_ ?_
   ·
    exact Ks (Ks (Ks (Ks (Ks (Ks (KeepAll.cons (fun _ _ _ hR h => by obtain ⟨z3, e, h3⟩ := h; exact ⟨z3, e, h3.ext hR⟩) (Ks (Ks (Ks (Ks (KeepAll.nil)))))))))))
   ·
    refine Gc (lr1 Ext.refl rfl rfl rfl (fun _ _ h => h) (fun r wx hR h1 => exec_loadW rowC rfl h1 (HB3x hR) rfl)) ?_
    refine Gc ?_ ?_
    ·
     rintro r wx hR ⟨h1, h2, _⟩
     replace h1 : r (.func 12) = .func (.func 12) #[] #[] := h1
     replace h2 : r (.tmp 22) = (.agg (CV c z)) := h2
     refine give_func #[.agg (CV c z)] rfl h1 Try.call12 (by simp [h2]) ?_
     refine (goodC_any (HZx hR)).mono ?_
     rintro e w' ⟨rfl, he⟩
     exact ⟨_, rfl, he, congrArg Value.bool hgd⟩
    refine Gc (lr1 Ext.refl rfl rfl rfl (fun _ _ h => h) (fun r wx hR h1 => exec_mv (.inl rfl) h1)) ?_
    refine Gc (lr2 Ext.refl rfl rfl rfl (fun _ _ h => h) (fun _ _ h => h) (fun r wx hR h1 h2 => by simp [execOp, h1, h2, go_sem])) ?_
    refine Gc (lr1 Ext.refl rfl rfl rfl (fun _ _ h => h) (fun r wx hR h1 => exec_mv (.inl rfl) h1)) ?_
    refine Gc ?_ ?_
    ·
     rintro r wx hR ⟨h1, _⟩
     replace h1 : r (.tmp 3) = (.pointer (some ⟨q3, 0, none⟩)) := h1
     intro gb hgb
     refine guard_in (b := gb) (want := false) hgb ?_
     exact gvo (exec_loadW rowC rfl h1 (HB3x hR) rfl) ⟨Ext.refl _, rfl⟩
    refine Gc ?_ ?_
    ·
     rintro r wx hR ⟨h1, h2, _⟩
     replace h1 : r (.func 14) = .func (.func 14) #[] #[] := h1
     replace h2 : r (.tmp 27) = (.agg (CV c z)) := h2
     intro gb hgb
     refine guard_in (b := gb) (want := false) hgb ?_
     refine give_func #[.agg (CV c z)] rfl h1 Try.call14 (by simp [h2]) ?_
     refine (document_any (HZx hR) HSM.out).mono ?_
     rintro e w' ⟨z3, rfl, h3, he⟩
     exact ⟨_, rfl, he, z3, rfl, h3⟩
    refine Gc ?_ ?_
    ·
     rintro r wx hR ⟨h1, _⟩
     replace h1 : r (.tmp 1) = (.pointer (some ⟨q4, 0, none⟩)) := h1
     intro gb hgb
     refine guard_in (b := gb) (want := false) hgb ?_
     exact gvo (exec_loadW rowC2 rfl h1 (HB2x hR) rfl) ⟨Ext.refl _, rfl⟩
    refine Gc ?_ ?_
    ·
     rintro r wx hR ⟨h1, h2, h3, _⟩
     replace h1 : r (.func 13) = .func (.func 13) #[] #[] := h1
     replace h2 : ((fun wx v => ∃ z3, v = .agg (CV c z3) ∧ CkAt wx z3 c) : Fact) wx (r (.tmp 28)) := h2
     replace h3 : r (.tmp 29) = (.agg (CV c s)) := h3
     intro gb hgb
     refine guard_in (b := gb) (want := false) hgb ?_
     obtain ⟨z3, e3, hz3⟩ := h2
     refine give_func #[.agg (CV c z3), .agg (CV c s)] rfl h1 Try.call13 (by simp [e3, h3]) ?_
     refine (refSame_any hz3 (HA.out.1.ext (HEx hR))).mono ?_
     rintro e w' ⟨rfl, he⟩
     exact ⟨_, rfl, he, congrArg Value.bool (sameT c)⟩
    refine Gc ?_ ?_
    ·
     rintro r wx hR ⟨h1, _⟩
     replace h1 : r (.tmp 30) = (.bool true) := h1
     intro gb hgb
     refine guard_in (b := gb) (want := false) hgb ?_
     exact gvo (by simp [execOp, h1, go_sem]) ⟨Ext.refl _, rfl⟩
    refine Gc ?_ ?_
    ·
     rintro r wx hR ⟨h1, h2, h3, _⟩
     replace h1 : r (.tmp 26) = (.bool false) := h1
     replace h2 : r (.const (.bool true)) = .bool true := h2
     replace h3 : r (.tmp 31) = (.bool false) := h3
     exact give_pickF rfl h1 ⟨Ext.refl _, h3⟩
    exact GoodAll.nil
   ·
    intro vs w8 aY hR hold ha8
    have hv0 : vs 0 = (.agg (CV c z)) := hold.at 0
    have hv1 : vs 1 = (.bool true) := hold.at 1
    have hv2 : vs 2 = (.bool true) := hold.at 2
    have hv3 : vs 3 = (.bool false) := hold.at 3
    have hv4 : vs 4 = (.bool false) := hold.at 4
    have hv5 : vs 5 = (.agg (CV c z)) := hold.at 5
    have hv7 : vs 7 = (.agg (CV c s)) := hold.at 7
    have hv8 : vs 8 = (.bool true) := hold.at 8
    have hv9 : vs 9 = (.bool false) := hold.at 9
    have hv10 : vs 10 = (.bool false) := hold.at 10
    simp only [putAll, Act.put, Nat.zero_add, Nat.reduceAdd, hv0, hv1, hv2, hv3, hv4, hv5, hv7, hv8, hv9, hv10, List.setIfInBounds_toArray, List.set_cons_succ, List.set_cons_zero] at ha8
    subst ha8
    have HE8 : Hid (Ext w w8 ∧ CkAt w8 z c ∧ Blk w8 q4 (CV c s) 32 ∧ bn = (bytesB c).length ∧ BytesAt w8 (.slice ba bn bc) (bytesB c)) := ⟨HEx hR, HZx hR, HB2x hR, HE7.out.2.2.2.2.1, HE7.out.2.2.2.2.2.ext ((Ext.drew _).trans hR)⟩
    clear hold hR HEx HB2x HB3x HZx HE7 hv0 hv1 hv2 hv3 hv4 hv5 hv7 hv8 hv9 hv10
    have HBA : Hid (∀ x ∈ bytesB c, x < 256) := HE8.out.2.2.2.2.1
    go_wp2_with fail
    have HEx : ∀ {wx : World}, Ext w8.drew wx → Ext w wx := fun h => HE8.out.1.trans ((Ext.drew _).trans h)
    have HB2x : ∀ {wx : World}, Ext w8.drew wx → Blk wx q4 (CV c s) 32 := fun h => HE8.out.2.2.1.ext ((Ext.drew _).trans h)
    have HBBx : ∀ {wx : World}, Ext w8.drew wx → BytesAt wx (.slice ba bn bc) (bytesB c) := fun h => HE8.out.2.2.2.2.ext ((Ext.drew _).trans h)
    refine wp_region_facts (fun t => bif Nat.ble 42 t && Nat.ble t 51 then some (t - 42) else none) 65 Ext
     [Is (.nilIface),
      Is (.bool false),
      Is (.bool false),
      Is (.slice ba bn bc),
      Is (.string (strOf (bytesB c))),
      Is (.agg (CV c s)),
      (fun wx v => BytesAt wx v (bytesB c)),
      Is (.string (strOf (bytesB c))),
      Is (.bool false),
      Is (.bool false)]
     rfl (by kernel_rfl) (by kernel_rfl) rfl Ext.refl (fun _ _ _ => Ext.trans) ?_ ?_ ?_
    ·
     exact Ks (Ks (Ks (Ks (Ks (Ks (KeepAll.cons (fun _ _ _ hr h => BytesAt.ext h hr) (Ks (Ks (Ks (KeepAll.nil))))))))))
    ·
     refine Gc (lr1 Ext.refl rfl rfl rfl (fun _ _ h => h) (fun r wx hR h1 => exec_mv (.inl rfl) h1)) ?_
     refine Gc (lr2 Ext.refl rfl rfl rfl (fun _ _ h => h) (fun _ _ h => h) (fun r wx hR h1 h2 => exec_neq0 rfl h1 h2)) ?_
     refine Gc (lr1 Ext.refl rfl rfl rfl (fun _ _ h => h) (fun r wx hR h1 => exec_mv (.inl rfl) h1)) ?_
     refine Gc ?_ ?_
     ·
      rintro r wx hR ⟨h1, _⟩
      replace h1 : r (.tmp 4) = (.slice ba bn bc) := h1
      intro gb hgb
      refine guard_in (b := gb) (want := false) hgb ?_
      exact give_move (.inl rfl) ⟨Ext.refl _, h1⟩
     refine Gc ?_ ?_
     ·
      rintro r wx hR ⟨h1, _⟩
      replace h1 : r (.tmp 45) = (.slice ba bn bc) := h1
      intro gb hgb
      refine guard_in (b := gb) (want := false) hgb ?_
      exact gvo (exec_string byteT strT rfl wx _ (by rw [h1]; exact HBBx hR)) ⟨Ext.refl _, rfl⟩
     refine Gc ?_ ?_
     ·
      rintro r wx hR ⟨h1, _⟩
      replace h1 : r (.tmp 1) = (.pointer (some ⟨q4, 0, none⟩)) := h1
      intro gb hgb
      refine guard_in (b := gb) (want := false) hgb ?_
      exact gvo (exec_loadW rowC2 rfl h1 (HB2x hR) rfl) ⟨Ext.refl _, rfl⟩
     refine Gc ?_ ?_
     ·
      rintro r wx hR ⟨h1, h2, _⟩
      replace h1 : r (.func 16) = .func (.func 16) #[] #[] := h1
      replace h2 : r (.tmp 47) = (.agg (CV c s)) := h2
      intro gb hgb
      refine guard_in (b := gb) (want := false) hgb ?_
      refine give_func #[.agg (CV c s)] rfl h1 Try.call16 (by simp [h2]) ?_
      refine (docBytes_any (HA.out.1.ext (HEx hR)) HA.out.2.1 HGC.out).mono ?_
      rintro e w' ⟨a, m, cp, rfl, hm, ho, he⟩
      exact ⟨_, rfl, he, ho.bytes⟩
     refine Gc ?_ ?_
     ·
      rintro r wx hR ⟨h1, _⟩
      replace h1 : ((fun wx v => BytesAt wx v (bytesB c)) : Fact) wx (r (.tmp 48)) := h1
      intro gb hgb
      refine guard_in (b := gb) (want := false) hgb ?_
      exact gvo (exec_string byteT strT rfl wx _ h1) ⟨Ext.refl _, rfl⟩
     refine Gc ?_ ?_
     ·
      rintro r wx hR ⟨h1, h2, _⟩
      replace h1 : r (.tmp 46) = (.string (strOf (bytesB c))) := h1
      replace h2 : r (.tmp 49) = (.string (strOf (bytesB c))) := h2
      intro gb hgb
      refine guard_in (b := gb) (want := false) hgb ?_
      exact gvo (exec_neqS rfl h1 h2 HBA.out) ⟨Ext.refl _, rfl⟩
     refine Gc ?_ ?_
     ·
      rintro r wx hR ⟨h1, h2, h3, _⟩
      replace h1 : r (.tmp 44) = (.bool false) := h1
      replace h2 : r (.const (.bool true)) = .bool true := h2
      replace h3 : r (.tmp 50) = (.bool false) := h3
      exact give_pickF rfl h1 ⟨Ext.refl _, h3⟩
     exact GoodAll.nil
    ·
     intro vs w9 aY hR hold ha9
     have hv0 : vs 0 = (.nilIface) := hold.at 0
     have hv1 : vs 1 = (.bool false) := hold.at 1
     have hv2 : vs 2 = (.bool false) := hold.at 2
     have hv3 : vs 3 = (.slice ba bn bc) := hold.at 3
     have hv4 : vs 4 = (.string (strOf (bytesB c))) := hold.at 4
     have hv5 : vs 5 = (.agg (CV c s)) := hold.at 5
     have hv7 : vs 7 = (.string (strOf (bytesB c))) := hold.at 7
     have hv8 : vs 8 = (.bool false) := hold.at 8
     have hv9 : vs 9 = (.bool false) := hold.at 9
     simp only [putAll, Act.put, Nat.zero_add, Nat.reduceAdd, hv0, hv1, hv2, hv3, hv4, hv5, hv7, hv8, hv9, List.setIfInBounds_toArray, List.set_cons_succ, List.set_cons_zero] at ha9
     subst ha9
     have HE9 : Hid (Ext w w9 ∧ Blk w9 q4 (CV c s) 32 ∧ BytesAt w9 (.slice ba bn bc) (bytesB c)) := ⟨HEx hR, HB2x hR, HBBx hR⟩
     clear hold hR HEx HB2x HBBx HE8 hv0 hv1 hv2 hv3 hv4 hv5 hv7 hv8 hv9
     go_wp2_with (first
      | (have q_ := HR10; clear q_; refine wl_alloc rfl rfl zeroC ?_; intro w11a hb11a he11a hx; clear hx; refine wl_store (D := CV c z9) rfl rowC rfl rfl rfl hb11a rfl rfl (CV.one _ _) ?_; intro w11 hb11 hk11 hx; clear hx; have he11 := he11a.of_but hk11 (fun k e => by subst e; exact Nat.le_refl _); have HE11 : Hid (Ext w w11 ∧ Blk w11 q4 (CV c s) 32 ∧ CkAt w11 z9 c ∧ Blk w11 w10.heap.size (CV c z9) 38) := ⟨(HE9.out.1.trans HR10.out.1).trans he11, (HE9.out.2.1.ext HR10.out.1).ext he11, HR10.out.2.ext he11, hb11⟩; clear hb11a he11a hk11 he11 HR10 hb11)
      | (go_at_call 17; refine (readC_good HGC.out HA.out.2.1 HE9.out.2.2 (by have := bytesB_le HGC.out; omega)).mono ?_; rintro e w10 ⟨he10, z9, rfl, hz9⟩; have HR10 : Hid (Ext w9 w10 ∧ CkAt w10 z9 c) := ⟨he10, hz9⟩; clear he10 hz9))
     obtain ⟨q7, hq7⟩ : ∃ q, q = w10.heap.size := ⟨_, rfl⟩
     rw [← hq7] at HE11
     rw [← hq7]
     clear hq7 HE9
     have HEx : ∀ {wx : World}, Ext w11.drew wx → Ext w wx := fun h => HE11.out.1.trans ((Ext.drew _).trans h)
     have HB2x : ∀ {wx : World}, Ext w11.drew wx → Blk wx q4 (CV c s) 32 := fun h => HE11.out.2.1.ext ((Ext.drew _).trans h)
     have HB7x : ∀ {wx : World}, Ext w11.drew wx → Blk wx q7 (CV c z9) 38 := fun h => HE11.out.2.2.2.ext ((Ext.drew _).trans h)
     have HZx : ∀ {wx : World}, Ext w11.drew wx → CkAt wx z9 c := fun h => HE11.out.2.2.1.ext ((Ext.drew _).trans h)
     refine wp_region_facts (fun t => bif Nat.ble 57 t && Nat.ble t 64 then some (t - 57) else bif Nat.beq t 2 then some 8 else none) 65 Ext
      [Is (.nilIface),
       Is (.bool true),
       Is (.bool true),
       Is (.agg (CV c z9)),
       (fun wx v => ∃ z3, v = .agg (CV c z3) ∧ CkAt wx z3 c),
       Is (.agg (CV c s)),
       Is (.bool true),
       Is (.bool true),
       Is (.bool true)]
      rfl (by kernel_rfl) (by kernel_rfl) rfl Ext.refl (fun _ _ _ => Ext.trans) ?_ ?_ ?_
     ·
      exact Ks (Ks (Ks (Ks (KeepAll.cons (fun _ _ _ hR h => by obtain ⟨z3, e, h3⟩ := h; exact ⟨z3, e, h3.ext hR⟩) (Ks (Ks (Ks (Ks (KeepAll.nil)))))))))
     ·
      refine Gc (lr1 Ext.refl rfl rfl rfl (fun _ _ h => h) (fun r wx hR h1 => exec_mv (.inl rfl) h1)) ?_
      refine Gc (lr2 Ext.refl rfl rfl rfl (fun _ _ h => h) (fun _ _ h => h) (fun r wx hR h1 h2 => exec_eql0 rfl h1 h2)) ?_
      refine Gc (lr1 Ext.refl rfl rfl rfl (fun _ _ h => h) (fun r wx hR h1 => exec_mv (.inl rfl) h1)) ?_
      refine Gc ?_ ?_
      ·
       rintro r wx hR ⟨h1, _⟩
       replace h1 : r (.tmp 7) = (.pointer (some ⟨q7, 0, none⟩)) := h1
       intro gb hgb
       refine guard_in (b := gb) (want := true) hgb ?_
       exact gvo (exec_loadW rowC rfl h1 (HB7x hR) rfl) ⟨Ext.refl _, rfl⟩
      refine Gc ?_ ?_
      ·
       rintro r wx hR ⟨h1, h2, _⟩
       replace h1 : r (.func 14) = .func (.func 14) #[] #[] := h1
       replace h2 : r (.tmp 60) = (.agg (CV c z9)) := h2
       intro gb hgb
       refine guard_in (b := gb) (want := true) hgb ?_
       refine give_func #[.agg (CV c z9)] rfl h1 Try.call14 (by simp [h2]) ?_
       refine (document_any (HZx hR) HSM.out).mono ?_
       rintro e w' ⟨z3, rfl, h3, he⟩
       exact ⟨_, rfl, he, z3, rfl, h3⟩
      refine Gc ?_ ?_
      ·
       rintro r wx hR ⟨h1, _⟩
       replace h1 : r (.tmp 1) = (.pointer (some ⟨q4, 0, none⟩)) := h1
       intro gb hgb
       refine guard_in (b := gb) (want := true) hgb ?_
       exact gvo (exec_loadW rowC2 rfl h1 (HB2x hR) rfl) ⟨Ext.refl _, rfl⟩
      refine Gc ?_ ?_
      ·
       rintro r wx hR ⟨h1, h2, h3, _⟩
       replace h1 : r (.func 13) = .func (.func 13) #[] #[] := h1
       replace h2 : ((fun wx v => ∃ z3, v = .agg (CV c z3) ∧ CkAt wx z3 c) : Fact) wx (r (.tmp 61)) := h2
       replace h3 : r (.tmp 62) = (.agg (CV c s)) := h3
       intro gb hgb
       refine guard_in (b := gb) (want := true) hgb ?_
       obtain ⟨z3, e3, hz3⟩ := h2
       refine give_func #[.agg (CV c z3), .agg (CV c s)] rfl h1 Try.call13 (by simp [e3, h3]) ?_
       refine (refSame_any hz3 (HA.out.1.ext (HEx hR))).mono ?_
       rintro e w' ⟨rfl, he⟩
       exact ⟨_, rfl, he, congrArg Value.bool (sameT c)⟩
      refine Gc ?_ ?_
      ·
       rintro r wx hR ⟨h1, h2, h3, _⟩
       replace h1 : r (.tmp 59) = (.bool true) := h1
       replace h2 : r (.tmp 63) = (.bool true) := h2
       replace h3 : r (.const (.bool false)) = .bool false := h3
       exact give_pick rfl h1 ⟨Ext.refl _, h2⟩
      refine Gc (lr1 Ext.refl rfl rfl rfl (fun _ _ h => h) (fun r wx hR h1 => exec_mv (.inr rfl) h1)) ?_
      exact GoodAll.nil
     ·
      intro vs w12 aY hR hold ha12
      have hv0 : vs 0 = (.nilIface) := hold.at 0
      have hv1 : vs 1 = (.bool true) := hold.at 1
      have hv2 : vs 2 = (.bool true) := hold.at 2
      have hv3 : vs 3 = (.agg (CV c z9)) := hold.at 3
      have hv5 : vs 5 = (.agg (CV c s)) := hold.at 5
      have hv6 : vs 6 = (.bool true) := hold.at 6
      have hv7 : vs 7 = (.bool true) := hold.at 7
      have hv8 : vs 8 = (.bool true) := hold.at 8
      simp only [putAll, Act.put, Nat.zero_add, Nat.reduceAdd, hv0, hv1, hv2, hv3, hv5, hv6, hv7, hv8, List.setIfInBounds_toArray, List.set_cons_succ, List.set_cons_zero] at ha12
      subst ha12
      go_wp2
      go_ret
      exact ⟨rfl, HEx hR⟩
end Tlv
end Go.Proofs.Ytbahelhohkhkmaa
/- An argument that is a slice of numbers, opened. No condition of its own. -/
namespace Go.Proofs.Ytbahelhohkhkmaa
open Go.RowKit Go.ChangeShapes
end Go.Proofs.Ytbahelhohkhkmaa
/- An argument that is a chunk, opened. No condition of its own. -/
namespace Go.Proofs.Ytbahelhohkhkmaa
namespace Tlv
open Go Go.RowKit Go.ChangeShapes Go.WideShapes Go.ChangeAt
set_option maxRecDepth 100000
abbrev Light {H : Type} (t : TypeId) (d : DataW H) : Prop := ∀ n ∈ d.weights Try.prog t, n ≤ reachBytes
theorem reach_eq : reachBytes = 140737488351232 := rfl
theorem bytes_openL {H : Type} {enc : TypeId × Value → H} {w : World} {base : Nat} {held : Bool} {fuel : Nat} {v : Value} {x : DataW H × List MemPlace}
  (h : DataW.trod enc Try.prog w base (fun _ => true) held fuel 24 [v] = some x) (hw : Light 24 x.1) : ∃ l, BytesAt w v l ∧ l.length ≤ 140737488355328 := by
 have hb : Try.prog.bytesOf 5 = 1 := by kernel_rfl
 rcases open_ints Try.underlying24 Try.underlying5 (by kernel_rfl) h with ⟨hcs, _⟩ | ⟨y, l, c, zs, hcs, _, hl, hm, hz, hx, hcell, hwz⟩
 ·
  simp at hcs
  subst hcs
  exact ⟨[], BytesAt.none _, by simp⟩
 ·
  simp at hcs
  subst hcs
  refine ⟨_, BytesAt.of_row hl hm (by simpa using hz) hcell hwz, ?_⟩
  subst hx
  have := hw _ (by simp only [DataW.weights, Try.underlying24]; exact List.mem_cons_self)
  simp [lits, hb, reach_eq] at this
  simp
  omega
theorem nums_openL {H : Type} {enc : TypeId × Value → H} {w : World} {base : Nat} {held : Bool} {fuel : Nat} {t e : TypeId} {k : IntKind} {v : Value} {x : DataW H × List MemPlace}
  (ht : Try.prog.underlying t = some (.slice e)) (he : Try.prog.underlying e = some (.int k)) (hc : Try.prog.cellsOf e = 1) (hb : 1 ≤ Try.prog.bytesOf e) (h : DataW.trod enc Try.prog w base (fun _ => true) held fuel t [v] = some x) (hw : Light t x.1) :
  ∃ l, NumsAt k w v l ∧ (∀ z ∈ l, (Lit.int k z).wf = true) ∧ l.length ≤ 140737488355328 := by
 rcases open_ints ht he hc h with ⟨hcs, _⟩ | ⟨a, len, cap, zs, hcs, _, hl, hm, hz, hx, hcell, hwf⟩
 ·
  simp at hcs
  subst hcs
  exact ⟨[], NumsAt.nothing _ _, by simp, by simp⟩
 ·
  simp at hcs
  subst hcs
  refine ⟨_, NumsAt.of_row hl hm (by simpa using hz) hcell, fun z hz' => hwf z (List.mem_of_mem_take hz'), ?_⟩
  subst hx
  have := hw _ (by simp only [DataW.weights, ht]; exact List.mem_cons_self)
  simp [lits, reach_eq] at this
  have h2 := Nat.mul_le_mul_left (min len zs.length + (zs.length - len)) hb
  simp
  omega
theorem pairs_openL {H : Type} {enc : TypeId × Value → H} {w : World} {base : Nat} {held : Bool} {fuel : Nat} {t e u2 : TypeId} {f0 f1 : Field} {v : Value} {x : DataW H × List MemPlace}
  (ht : Try.prog.underlying t = some (.slice e)) (he : Try.prog.underlying e = some (.struct #[f0, f1])) (h0 : Try.prog.underlying f0.type = some (.int .i64)) (h1 : Try.prog.underlying f1.type = some (.int .i64)) (ho : f0.offset = 0 ∧ f1.offset = 1 ∧ Try.prog.cellsOf f0.type = 1 ∧ Try.prog.cellsOf f1.type = 1) (hc : Try.prog.cellsOf e = 2) (hb : 1 ≤ Try.prog.bytesOf e)
  (h : DataW.trod enc Try.prog w base (fun _ => true) held fuel t [v] = some x) (hw : Light t x.1) : ∃ L, PairsAt w v L ∧ (∀ p ∈ L, W64 p.1 ∧ W64 p.2) ∧ L.length ≤ 140737488355328 := by
 rcases Go.Deep.open_slice ht h with ⟨hcs, _⟩ | ⟨a, len, cap, m, n, D, Pl, hcs, hb', hl, hm, hmm, hxx, hx⟩
 ·
  simp at hcs
  subst hcs
  exact ⟨[], PairsAt.nil _, by simp, by simp⟩
 ·
  simp at hcs
  subst hcs
  have hlm : len ≤ m := by rw [hmm]; split <;> omega
  rw [hc] at hx
  obtain ⟨q, hq⟩ := Go.Deep.choose_lt (α := Int × Int) (n := len) (p := fun i z => w.cell? (a.add (i * 2)) = some (.int .i64 z.1) ∧ w.cell? (a.add (i * 2 + 1)) = some (.int .i64 z.2) ∧ W64 z.1 ∧ W64 z.2) (fun i hi => by
   obtain ⟨cs', k1, k2⟩ := hx i (by omega)
   obtain ⟨_, hlen, hcell⟩ := World.cells?_some k1
   match cs', hlen with
   | [v0, v1], _ =>
    obtain ⟨y0, y1, fu, _, _, t0, t1⟩ := trod_struct2 he k2
    rw [ho.1, ho.2.2.1] at t0
    rw [ho.2.1, ho.2.2.2] at t1
    have t0' : DataW.trod enc Try.prog w base (fun _ => true) held fu f0.type [v0] = some y0 := by simpa using t0
    have t1' : DataW.trod enc Try.prog w base (fun _ => true) held fu f1.type [v1] = some y1 := by simpa using t1
    obtain ⟨k, e0, _, w0⟩ := DataW.trod_int h0 t0'
    obtain ⟨k', e1, _, w1⟩ := DataW.trod_int h1 t1'
    simp only [List.cons.injEq, and_true] at e0 e1
    subst e0 e1
    have r0 := hcell 0 (by omega)
    have r1 := hcell 1 (by omega)
    rw [Go.Deep.add_add] at r0 r1
    exact ⟨(k, k'), by simpa using r0, by simpa using r1, of_i64 w0, of_i64 w1⟩)
  refine ⟨(List.range len).map q, ⟨by simp; omega, some a, cap, by simp, ⟨by simpa using hl, fun e => by cases e⟩, hm, fun i p hp => ?_⟩, fun p hp => ?_, ?_⟩
  ·
   have hi : i < len := by have := (List.getElem?_eq_some_iff.1 hp).1; simpa using this
   simp [hi] at hp
   subst hp
   obtain ⟨g0, g1, _⟩ := hq i hi
   obtain ⟨b, off, spot⟩ := a
   have hs : spot = none := by simpa [Addr.add] using World.cell?_spot (hq 0 (by omega)).1
   subst hs
   rw [add_plain] at g0 g1
   exact ⟨b, off, rfl, g0, g1⟩
  ·
   obtain ⟨i, hi, rfl⟩ := List.mem_map.1 hp
   exact (hq i (List.mem_range.1 hi)).2.2
  ·
   subst hxx
   have := hw _ (by simp only [DataW.weights, ht]; exact List.mem_cons_self)
   simp [reach_eq] at this
   have h2 := Nat.mul_le_mul_left (len + (m - len)) hb
   simp
   omega
theorem fieldT {H : Type} {enc : TypeId × Value → H} {w : World} {base : Nat} {held : Bool} {n : Nat} {cs : List Value} {xs : List (DataW H × List MemPlace)} {fs : Array Field}
  (hf : ∀ (i : Nat) (f : Field), fs[i]? = some f → DataW.trod enc Try.prog w base (fun _ => true) held n f.type ((cs.drop f.offset).take (Try.prog.cellsOf f.type)) = xs[i]?) (i t off k : Nat) (hfi : ∃ f, fs[i]? = some f ∧ f.type = t ∧ f.offset = off) (hk : Try.prog.cellsOf t = k) :
  DataW.trod enc Try.prog w base (fun _ => true) held n t ((cs.drop off).take k) = xs[i]? := by
 obtain ⟨f, h1, rfl, rfl⟩ := hfi
 have := hf i f h1
 rwa [hk] at this
theorem ck_open {H : Type} {enc : TypeId × Value → H} {w : World} {base : Nat} {held : Bool} {fuel : Nat} {cs : List Value} {x : DataW H × List MemPlace} (h22 : cs.length = 22)
  (h : DataW.trod enc Try.prog w base (fun _ => true) held fuel 32 cs = some x) (hw : Light 32 x.1) : ∃ c s, cs = (CV c s).toList ∧ CkAt w s c ∧ Fit c ∧ Lens c := by
 have k22 : Try.prog.cellsOf 22 = 1 := by kernel_rfl
 have k23 : Try.prog.cellsOf 23 = 1 := by kernel_rfl
 have k3 : Try.prog.cellsOf 3 = 1 := by kernel_rfl
 have k4 : Try.prog.cellsOf 4 = 1 := by kernel_rfl
 have kA : Try.prog.cellsOf 27 = 1 := by kernel_rfl
 have kB : Try.prog.cellsOf 24 = 1 := by kernel_rfl
 have kD : Try.prog.cellsOf 29 = 1 := by kernel_rfl
 have kG : Try.prog.cellsOf 28 = 1 := by kernel_rfl
 have kO : Try.prog.cellsOf 30 = 1 := by kernel_rfl
 have kP : Try.prog.cellsOf 26 = 7 := by kernel_rfl
 obtain ⟨xs, n, _, rfl, hl, hlen, hf⟩ := DataW.trod_struct Try.underlying32 h
 match xs, hlen, cs, h22 with
 | [y0, y1, y2, y3, y4, y5, y6, y7, y8, y9, y10, y11, y12, y13, y14, y15], _, [c0, c1, c2, c3, c4, c5, c6, c7, c8, c9, c10, c11, c12, c13, c14, c15, c16, c17, c18, c19, c20, c21], _ =>
  have hwe : ∀ n ∈ DataW.weightsEach Try.prog [3, 26, 22, 3, 3, 3, 22, 24, 27, 24, 28, 29, 3, 22, 30, 4] [y0.1, y1.1, y2.1, y3.1, y4.1, y5.1, y6.1, y7.1, y8.1, y9.1, y10.1, y11.1, y12.1, y13.1, y14.1, y15.1], n ≤ reachBytes := fun n hn => hw n (by simpa [DataW.weights, Try.underlying32] using hn)
  have t0 : DataW.trod enc Try.prog w base (fun _ => true) held n 3 [c0] = some y0 := by
   have := fieldT hf 0 3 0 1 ⟨_, rfl, rfl, rfl⟩ k3
   simpa using this
  have t1 : DataW.trod enc Try.prog w base (fun _ => true) held n 26 [c1, c2, c3, c4, c5, c6, c7] = some y1 := by
   have := fieldT hf 1 26 1 7 ⟨_, rfl, rfl, rfl⟩ kP
   simpa using this
  have t2 : DataW.trod enc Try.prog w base (fun _ => true) held n 22 [c8] = some y2 := by
   have := fieldT hf 2 22 8 1 ⟨_, rfl, rfl, rfl⟩ k22
   simpa using this
  have t3 : DataW.trod enc Try.prog w base (fun _ => true) held n 3 [c9] = some y3 := by
   have := fieldT hf 3 3 9 1 ⟨_, rfl, rfl, rfl⟩ k3
   simpa using this
  have t4 : DataW.trod enc Try.prog w base (fun _ => true) held n 3 [c10] = some y4 := by
   have := fieldT hf 4 3 10 1 ⟨_, rfl, rfl, rfl⟩ k3
   simpa using this
  have t5 : DataW.trod enc Try.prog w base (fun _ => true) held n 3 [c11] = some y5 := by
   have := fieldT hf 5 3 11 1 ⟨_, rfl, rfl, rfl⟩ k3
   simpa using this
  have t6 : DataW.trod enc Try.prog w base (fun _ => true) held n 22 [c12] = some y6 := by
   have := fieldT hf 6 22 12 1 ⟨_, rfl, rfl, rfl⟩ k22
   simpa using this
  have t7 : DataW.trod enc Try.prog w base (fun _ => true) held n 24 [c13] = some y7 := by
   have := fieldT hf 7 24 13 1 ⟨_, rfl, rfl, rfl⟩ kB
   simpa using this
  have t8 : DataW.trod enc Try.prog w base (fun _ => true) held n 27 [c14] = some y8 := by
   have := fieldT hf 8 27 14 1 ⟨_, rfl, rfl, rfl⟩ kA
   simpa using this
  have t9 : DataW.trod enc Try.prog w base (fun _ => true) held n 24 [c15] = some y9 := by
   have := fieldT hf 9 24 15 1 ⟨_, rfl, rfl, rfl⟩ kB
   simpa using this
  have t10 : DataW.trod enc Try.prog w base (fun _ => true) held n 28 [c16] = some y10 := by
   have := fieldT hf 10 28 16 1 ⟨_, rfl, rfl, rfl⟩ kG
   simpa using this
  have t11 : DataW.trod enc Try.prog w base (fun _ => true) held n 29 [c17] = some y11 := by
   have := fieldT hf 11 29 17 1 ⟨_, rfl, rfl, rfl⟩ kD
   simpa using this
  have t12 : DataW.trod enc Try.prog w base (fun _ => true) held n 3 [c18] = some y12 := by
   have := fieldT hf 12 3 18 1 ⟨_, rfl, rfl, rfl⟩ k3
   simpa using this
  have t13 : DataW.trod enc Try.prog w base (fun _ => true) held n 22 [c19] = some y13 := by
   have := fieldT hf 13 22 19 1 ⟨_, rfl, rfl, rfl⟩ k22
   simpa using this
  have t14 : DataW.trod enc Try.prog w base (fun _ => true) held n 30 [c20] = some y14 := by
   have := fieldT hf 14 30 20 1 ⟨_, rfl, rfl, rfl⟩ kO
   simpa using this
  have t15 : DataW.trod enc Try.prog w base (fun _ => true) held n 4 [c21] = some y15 := by
   have := fieldT hf 15 4 21 1 ⟨_, rfl, rfl, rfl⟩ k4
   simpa using this
  obtain ⟨zs, n1, _, hy1, hl1, hlen1, hf1⟩ := DataW.trod_struct Try.underlying26 t1
  match zs, hlen1 with
  | [z0, z1, z2, z3, z4, z5, z6], _ =>
   have hwp : ∀ n ∈ DataW.weightsEach Try.prog [22, 23, 23, 4, 4, 4, 24] [z0.1, z1.1, z2.1, z3.1, z4.1, z5.1, z6.1], n ≤ reachBytes := fun n hn => hwe n (DataW.weights_mem_each (j := 1) (t := 26) (d := y1.1) rfl rfl n (by rw [hy1]; simpa [DataW.weights, Try.underlying26] using hn))
   have q0 : DataW.trod enc Try.prog w base (fun _ => true) held n1 22 [c1] = some z0 := by
    have := fieldT hf1 0 22 0 1 ⟨_, rfl, rfl, rfl⟩ k22
    simpa using this
   have q1 : DataW.trod enc Try.prog w base (fun _ => true) held n1 23 [c2] = some z1 := by
    have := fieldT hf1 1 23 1 1 ⟨_, rfl, rfl, rfl⟩ k23
    simpa using this
   have q2 : DataW.trod enc Try.prog w base (fun _ => true) held n1 23 [c3] = some z2 := by
    have := fieldT hf1 2 23 2 1 ⟨_, rfl, rfl, rfl⟩ k23
    simpa using this
   have q3 : DataW.trod enc Try.prog w base (fun _ => true) held n1 4 [c4] = some z3 := by
    have := fieldT hf1 3 4 3 1 ⟨_, rfl, rfl, rfl⟩ k4
    simpa using this
   have q4 : DataW.trod enc Try.prog w base (fun _ => true) held n1 4 [c5] = some z4 := by
    have := fieldT hf1 4 4 4 1 ⟨_, rfl, rfl, rfl⟩ k4
    simpa using this
   have q5 : DataW.trod enc Try.prog w base (fun _ => true) held n1 4 [c6] = some z5 := by
    have := fieldT hf1 5 4 5 1 ⟨_, rfl, rfl, rfl⟩ k4
    simpa using this
   have q6 : DataW.trod enc Try.prog w base (fun _ => true) held n1 24 [c7] = some z6 := by
    have := fieldT hf1 6 24 6 1 ⟨_, rfl, rfl, rfl⟩ kB
    simpa using this
   obtain ⟨n_kind, e_kind, _, w_kind⟩ := DataW.trod_int Try.underlying3 t0
   obtain ⟨n_tag, e_tag, _, w_tag⟩ := DataW.trod_int Try.underlying22 t2
   obtain ⟨n_win, e_win, _, w_win⟩ := DataW.trod_int Try.underlying3 t3
   obtain ⟨n_out, e_out, _, w_out⟩ := DataW.trod_int Try.underlying3 t4
   obtain ⟨n_inn, e_inn, _, w_inn⟩ := DataW.trod_int Try.underlying3 t5
   obtain ⟨n_tsn, e_tsn, _, w_tsn⟩ := DataW.trod_int Try.underlying22 t6
   obtain ⟨n_rand, g_rand, b_rand⟩ := bytes_openL t7 (fun n hn => hwe n (DataW.weights_mem_each (j := 7) rfl rfl n hn))
   obtain ⟨a_rand, k_rand, f_rand, _⟩ := g_rand.form
   obtain ⟨n_addrs, g_addrs, v_addrs, b_addrs⟩ := nums_openL Try.underlying27 Try.underlying65 (by kernel_rfl) (by rw [show Try.prog.bytesOf 65 = 8 by kernel_rfl]; decide) t8 (fun n hn => hwe n (DataW.weights_mem_each (j := 8) rfl rfl n hn))
   obtain ⟨a_addrs, k_addrs, f_addrs, _⟩ := g_addrs.form
   obtain ⟨n_info, g_info, b_info⟩ := bytes_openL t9 (fun n hn => hwe n (DataW.weights_mem_each (j := 9) rfl rfl n hn))
   obtain ⟨a_info, k_info, f_info, _⟩ := g_info.form
   obtain ⟨n_gaps, g_gaps, v_gaps, b_gaps⟩ := pairs_openL (u2 := 0) Try.underlying28 Try.underlying70 Try.underlying3 Try.underlying3 ⟨rfl, rfl, by kernel_rfl, by kernel_rfl⟩ (by kernel_rfl) (by rw [show Try.prog.bytesOf 70 = 16 by kernel_rfl]; decide) t10 (fun n hn => hwe n (DataW.weights_mem_each (j := 10) rfl rfl n hn))
   obtain ⟨_, a_gaps, k_gaps, f_gaps, _⟩ := id g_gaps
   obtain ⟨n_dups, g_dups, v_dups, b_dups⟩ := nums_openL Try.underlying29 Try.underlying22 (by kernel_rfl) (by rw [show Try.prog.bytesOf 22 = 4 by kernel_rfl]; decide) t11 (fun n hn => hwe n (DataW.weights_mem_each (j := 11) rfl rfl n hn))
   obtain ⟨a_dups, k_dups, f_dups, _⟩ := g_dups.form
   obtain ⟨n_cause, e_cause, _, w_cause⟩ := DataW.trod_int Try.underlying3 t12
   obtain ⟨n_serial, e_serial, _, w_serial⟩ := DataW.trod_int Try.underlying22 t13
   obtain ⟨n_ops, g_ops, v_ops, b_ops⟩ := pairs_openL (u2 := 0) Try.underlying30 Try.underlying71 Try.underlying3 Try.underlying65 ⟨rfl, rfl, by kernel_rfl, by kernel_rfl⟩ (by kernel_rfl) (by rw [show Try.prog.bytesOf 71 = 16 by kernel_rfl]; decide) t14 (fun n hn => hwe n (DataW.weights_mem_each (j := 14) rfl rfl n hn))
   obtain ⟨_, a_ops, k_ops, f_ops, _⟩ := id g_ops
   obtain ⟨n_ok, e_ok, _⟩ := DataW.trod_bool Try.underlying4 t15
   obtain ⟨n_ptsn, e_ptsn, _, w_ptsn⟩ := DataW.trod_int Try.underlying22 q0
   obtain ⟨n_pstr, e_pstr, _, w_pstr⟩ := DataW.trod_int Try.underlying23 q1
   obtain ⟨n_pseq, e_pseq, _, w_pseq⟩ := DataW.trod_int Try.underlying23 q2
   obtain ⟨n_pb, e_pb, _⟩ := DataW.trod_bool Try.underlying4 q3
   obtain ⟨n_pe, e_pe, _⟩ := DataW.trod_bool Try.underlying4 q4
   obtain ⟨n_pu, e_pu, _⟩ := DataW.trod_bool Try.underlying4 q5
   obtain ⟨n_text, g_text, b_text⟩ := bytes_openL q6 (fun n hn => hwp n (DataW.weights_mem_each (j := 6) rfl rfl n hn))
   obtain ⟨a_text, k_text, f_text, _⟩ := g_text.form
   simp only [List.cons.injEq, and_true] at e_kind e_tag e_win e_out e_inn e_tsn e_cause e_serial e_ok e_ptsn e_pstr e_pseq e_pb e_pe e_pu
   subst e_kind e_tag e_win e_out e_inn e_tsn f_rand f_addrs f_info f_gaps f_dups e_cause e_serial f_ops e_ok e_ptsn e_pstr e_pseq e_pb e_pe e_pu f_text
   have r_tag := of_u32 w_tag
   have r_tsn := of_u32 w_tsn
   have r_serial := of_u32 w_serial
   have r_ptsn := of_u32 w_ptsn
   have r_pstr := of_u16 w_pstr
   have r_pseq := of_u16 w_pseq
   have hd : ci (n_dups.map Int.toNat) = n_dups := by
    unfold ci
    rw [List.map_map]
    refine (List.map_congr_left (fun y hy => ?_)).trans (List.map_id _)
    have := of_u32 (v_dups y hy)
    simp only [Function.comp_apply, id_eq]; omega
   refine ⟨{ kind := n_kind, ptsn := n_ptsn.toNat, pstr := n_pstr.toNat, pseq := n_pseq.toNat, pb := n_pb, pe := n_pe, pu := n_pu, text := n_text, tag := n_tag.toNat, win := n_win, out := n_out, inn := n_inn, tsn := n_tsn.toNat, rand := n_rand, addrs := n_addrs, info := n_info, gaps := n_gaps, dups := n_dups.map Int.toNat, cause := n_cause, serial := n_serial.toNat, ops := n_ops, ok := n_ok }, { tA := a_text, tN := n_text.length, tC := k_text, rA := a_rand, rN := n_rand.length, rC := k_rand, aA := a_addrs, aN := n_addrs.length, aC := k_addrs, iA := a_info, iN := n_info.length, iC := k_info, gA := a_gaps, gN := n_gaps.length, gC := k_gaps, dA := a_dups, dN := n_dups.length, dC := k_dups, oA := a_ops, oN := n_ops.length, oC := k_ops }, ?_, ⟨g_text, g_rand, g_addrs, g_info, g_gaps, by rw [hd]; exact g_dups, g_ops⟩, ⟨of_i64 w_kind, show n_ptsn.toNat < 4294967296 by omega, show n_pstr.toNat < 65536 by omega, show n_pseq.toNat < 65536 by omega, show n_tag.toNat < 4294967296 by omega, of_i64 w_win, of_i64 w_out, of_i64 w_inn, show n_tsn.toNat < 4294967296 by omega, of_i64 w_cause, show n_serial.toNat < 4294967296 by omega, fun y hy => of_i64 (v_addrs y hy), v_gaps, fun y hy => ?_, v_ops⟩, ⟨b_text, b_rand, b_addrs, b_info, b_gaps, by simpa using b_dups, b_ops⟩⟩
   ·
    simp only [CV]
    rw [show ((n_ptsn.toNat : Nat) : Int) = n_ptsn by omega, show ((n_pstr.toNat : Nat) : Int) = n_pstr by omega, show ((n_pseq.toNat : Nat) : Int) = n_pseq by omega, show ((n_tag.toNat : Nat) : Int) = n_tag by omega, show ((n_tsn.toNat : Nat) : Int) = n_tsn by omega, show ((n_serial.toNat : Nat) : Int) = n_serial by omega]
   ·
    obtain ⟨z, hz, rfl⟩ := List.mem_map.1 hy
    have := of_u32 (v_dups z hz)
    omega
end Tlv
end Go.Proofs.Ytbahelhohkhkmaa
namespace Go.Proofs.Ytbahelhohkhkmaa
open Go.ChangeShapes Go.WideShapes Go.ChangeAt Go.RowKit
open Go.ChangeMaps (open_string shut_string)
theorem chunkBytesOwn : ownKnob Try.prog.godebug = none := by kernel_rfl
theorem chunkBytesLaidOut : laidOutB Try.prog = true := by kernel_rfl
set_option maxRecDepth 100000 in
theorem chunkBytesLifted (os : Os) (started : os.Started) (H : Type) (enc : TypeId × Value → H) :
  ReturnsInHanded {} Try.checked os 3 .any (Rows.chunkBytesSpec.pre6 enc Try.prog Try.f3 Rows.chunkBytesRow.domain false) (Rows.chunkBytesSpec.post enc Try.prog Try.f3 false true false false) := by
 refine returnsInHanded_of_change_sized (C := Try.checked) chunkBytesOwn started (by kernel_rfl) Try.func3
  (ChangeSpec.witness6 (enc := enc) (C := Try.checked) false ⟨#[], #[.agg (Tlv.CV (Tlv.ck0 0) Tlv.sv0)], []⟩ 8 (by kernel_rfl) (by kernel_rfl) (by kernel_rfl) (by kernel_rfl)) ?_
 intro W base args ds gs before hval0 hW hcnd hsz _
 have hval : ∀ (j : Nat) t v, Try.f3.params[j]? = some t → args[j]? = some v → Value.okWide Try.prog W .any base t v := hval0
 have hW' := hW
 obtain ⟨p, q, hA0, hV, rfl, hfz, hnd⟩ := hW
 have hA : DataW.TrodAll enc Try.prog W 0 (fun _ => true) true Try.f3.params.toList args.toList ds p := hA0
 rw [Try.params3] at hA hval hsz
 obtain ⟨v0, vs0, d0, ds0, p0, q0, hargs, rfl, rfl, h0, r0⟩ := trodAll_cons hA
 obtain ⟨rfl, rfl, rfl⟩ := trodAll_nil r0
 obtain rfl : args = #[v0] := by cases args; simp_all
 obtain ⟨rfl, rfl⟩ := trodVars_none hV
 have k0 := h0
 have lt0 : ∀ x ∈ p0, x.block < W.heap.size := by obtain ⟨m, hm⟩ := k0; exact DataW.trod_lt m _ _ _ hm
 obtain ⟨cs0, rfl, hz0⟩ := okWide_struct Try.underlying32 (hval 0 32 v0 rfl rfl)
 obtain ⟨c0, s0, hc0, hk0, hf0, hn0⟩ : ∃ c s, cs0 = Tlv.CV c s ∧ Tlv.CkAt W s c ∧ Tlv.Fit c ∧ Tlv.Lens c := by
  obtain ⟨fu, hfu⟩ := h0
  have hz : cs0.toList.length = 22 := by rw [Array.length_toList, hz0]; kernel_rfl
  obtain ⟨c, s, e, a, b, d⟩ := Tlv.ck_open hz (by simpa [Value.cells] using hfu) (fun n hn => of_decide_eq_true (List.all_eq_true.1 hsz _ (DataW.weights_mem_each (j := 0) (t := 32) rfl rfl n hn)))
  exact ⟨c, s, Array.toList_inj.1 e, a, b, d⟩
 subst hc0
 clear hA0 hval0
 refine (Tlv.bytes_walk hk0 hf0 hn0).mono fun e W' ⟨he, bel⟩ => ?_
 subst he
 exact ⟨_, rfl, _, _, _, [], _, [], hW', trodAll_mk1 (shut_bool Try.underlying4 _), (trodAll_cons_mk (Below.trod chunkBytesLaidOut (by kernel_rfl) (of_decide_eq_true (by kernel_rfl)) k0 bel lt0) (trodAll_mk0)), rfl, bel.frame _, fun h => by cases h⟩
theorem chunkBytesOver : Rows.chunkBytesRow.holds Try.pinned (OpenSpec.ofChange Rows.chunkBytesSpec) :=
 OpenClaim.holds_of_wide 3 Try.f3 rfl rfl rfl rfl rfl rfl rfl ⟨rfl, rfl, rfl, rfl, rfl⟩ rfl rfl rfl rfl rfl (by kernel_rfl) Try.func3 (by kernel_rfl)
  (of_decide_eq_true (by kernel_rfl)) (by unfold Func.isWrapper; first | (rw [if_pos (by decide +kernel)]; kernel_rfl) | (rw [if_neg (by decide +kernel)]; exact ⟨rfl, rfl⟩))
  (fun os started H enc _ => chunkBytesLifted os started H enc)
/-- THE STATEMENT. -/
theorem chunkBytes_holds : Rows.ChunkBytesSaid := chunkBytesOver
#print axioms chunkBytes_holds
end Go.Proofs.Ytbahelhohkhkmaa
