/- For any two chunks the law ChunkCopies answers true and leaves its arguments as they were: which chunks are the same is what the document says, a chunk's copy is the same, and whatever is changed in the copy changes nothing of what it was made of. Conditions: none. -/
import Derived.Test.YtobkgaceallegaaChkC13
import Derived.Lib.SmallJoins
import Derived.SizedLaws
import Derived.Test.YtobkgaceallegaaRows
import Derived.WalkKit
import Derived.ProofKit
import Derived.OpenShut
import Derived.ShutString
import Derived.ChangeOld
import Derived.Below
/- The law ChunkCopies. No condition of its own. -/
namespace Go.Proofs.Ytobkgaceallegaa
namespace Tlv
open Go Go.RowKit
set_option linter.unusedVariables false
set_option linter.unusedSimpArgs false
set_option maxRecDepth 100000


theorem wl_loadG {P : Program} {w : World} {ops : Array Oper} {rest : List Oper} {o : Oper} {a : Act} {Q : Exit → Act → World → Prop} (hw : Region.wanted o (yielded ops a.tmps) = true) {t : TypeId} {n : Nat} (hT : RowT P t n) {x : Operand} {g T : Nat} {C : Array Value} (ho : o.op = .load t x) (hx : a.eval x = .pointer (some ⟨g, 0, none⟩)) (hB : Blk w g C T) (hn : C.size = n)
    (h : wpList P ops Q rest (a.put o.dst (.agg C)) w) : wpList P ops Q (o :: rest) a w := by
  refine BigFrame.wpList_want hw fun K hK => ?_
  unfold Oper.wp
  rw [exec_loadW hT ho hx hB hn]
  exact hK _ _ h
theorem OwnC.lower {w : World} {base base' : Nat} {s : Sv} {c : Ck} (h : OwnC w base s c) (hb : base' ≤ base) : OwnC w base' s c := ⟨⟨h.t.own.base hb, h.t.all⟩, ⟨h.r.own.base hb, h.r.all⟩, h.a.base hb, ⟨h.i.own.base hb, h.i.all⟩, OwnP.base h.g hb, h.d.base hb, OwnP.base h.o hb⟩
/-- Two chunks made and stored into two variables, in whatever order. -/
structure TwoG (w0 : World) (a b : Ck) (va vb : Value) (L : Nat → Bool) (vs : Nat → Value) (wx : World) : Prop where
  ext : Ext w0 wx
  k0 : L 0 = true → vs 0 = va
  k1 : L 1 = true → ∃ s, vs 1 = .agg (CV a s) ∧ OwnC wx w0.heap.size s a
  k2 : L 2 = true → vs 2 = vb
  k3 : L 3 = true → ∃ s, vs 3 = .agg (CV b s) ∧ OwnC wx w0.heap.size s b
  k4 : L 4 = true → ∃ g C, vs 4 = .pointer (some ⟨g, 0, none⟩) ∧ w0.heap.size ≤ g ∧ Blk wx g C 38 ∧ C.size = 22 ∧ (L 6 = true → vs 1 = .agg C)
  k5 : L 5 = true → ∃ g C, vs 5 = .pointer (some ⟨g, 0, none⟩) ∧ w0.heap.size ≤ g ∧ Blk wx g C 38 ∧ C.size = 22 ∧ (L 7 = true → vs 3 = .agg C)
  ne : L 4 = true → L 5 = true → vs 4 ≠ vs 5
  i6 : L 6 = true → L 4 = true ∧ L 1 = true
  i7 : L 7 = true → L 5 = true ∧ L 3 = true
section
variable {w0 wx : World} {a b : Ck} {va vb : Value} {L : Nat → Bool} {vs : Nat → Value}
theorem TwoG.start (w0 : World) (a b : Ck) (va vb : Value) (vs : Nat → Value) : TwoG w0 a b va vb (fun i => decide (8 ≤ i)) vs w0 :=
  ⟨Ext.refl _, fun h => by simp at h, fun h => by simp at h, fun h => by simp at h, fun h => by simp at h, fun h => by simp at h, fun h => by simp at h, fun h => by simp at h, fun h => by simp at h, fun h => by simp at h⟩
theorem TwoG.grow (H : TwoG w0 a b va vb L vs wx) {w' : World} (he : Ext wx w') : TwoG w0 a b va vb L vs w' :=
  ⟨H.ext.trans he, H.k0, fun h => by obtain ⟨s, e, ho⟩ := H.k1 h; exact ⟨s, e, ho.ext he⟩, H.k2, fun h => by obtain ⟨s, e, ho⟩ := H.k3 h; exact ⟨s, e, ho.ext he⟩, fun h => by obtain ⟨g, C, e, hg, hB, hC⟩ := H.k4 h; exact ⟨g, C, e, hg, hB.ext he, hC⟩, fun h => by obtain ⟨g, C, e, hg, hB, hC⟩ := H.k5 h; exact ⟨g, C, e, hg, hB.ext he, hC⟩, H.ne, H.i6, H.i7⟩
theorem TwoG.op0 (H : TwoG w0 a b va vb L vs wx) : TwoG w0 a b va vb (met1 L 0) (updV vs 0 va) wx := ⟨H.ext, fun _ => rfl, H.k1, H.k2, H.k3, H.k4, H.k5, H.ne, H.i6, H.i7⟩
theorem TwoG.op2 (H : TwoG w0 a b va vb L vs wx) : TwoG w0 a b va vb (met1 L 2) (updV vs 2 vb) wx := ⟨H.ext, H.k0, H.k1, fun _ => rfl, H.k3, H.k4, H.k5, H.ne, H.i6, H.i7⟩
theorem TwoG.op1 (H0 : TwoG w0 a b va vb L vs wx) (hl : L 1 = false) {w' : World} {s : Sv} (ho : OwnC w' w0.heap.size s a) (he : Ext wx w') : TwoG w0 a b va vb (met1 L 1) (updV vs 1 (.agg (CV a s))) w' := by
  have H := H0.grow he
  exact ⟨H.ext, H.k0, fun _ => ⟨s, rfl, ho⟩, H.k2, H.k3, fun h => by obtain ⟨g, C, e, hg, hB, hC, hc⟩ := H.k4 h; exact ⟨g, C, e, hg, hB, hC, fun h6 => absurd ((H.i6 h6).2.symm.trans hl) (by decide)⟩, H.k5, H.ne, fun h => ⟨(H.i6 h).1, rfl⟩, H.i7⟩
theorem TwoG.op3 (H0 : TwoG w0 a b va vb L vs wx) (hl : L 3 = false) {w' : World} {s : Sv} (ho : OwnC w' w0.heap.size s b) (he : Ext wx w') : TwoG w0 a b va vb (met1 L 3) (updV vs 3 (.agg (CV b s))) w' := by
  have H := H0.grow he
  exact ⟨H.ext, H.k0, H.k1, H.k2, fun _ => ⟨s, rfl, ho⟩, H.k4, fun h => by obtain ⟨g, C, e, hg, hB, hC, hc⟩ := H.k5 h; exact ⟨g, C, e, hg, hB, hC, fun h6 => absurd ((H.i7 h6).2.symm.trans hl) (by decide)⟩, H.ne, H.i6, fun h => ⟨(H.i7 h).1, rfl⟩⟩
theorem TwoG.op4 (H0 : TwoG w0 a b va vb L vs wx) (hl : L 4 = false) : TwoG w0 a b va vb (met1 L 4) (updV vs 4 (.pointer (some ⟨wx.heap.size, 0, none⟩))) (wx.alloc (.cells (CV (ck0 0) sv0) 38)) := by
  have H := H0.grow (Ext.alloc wx (.cells (CV (ck0 0) sv0) 38))
  refine ⟨H.ext, H.k0, H.k1, H.k2, H.k3, fun _ => ⟨wx.heap.size, _, rfl, H0.ext.size, Blk.new _ _ _, rfl, fun h => absurd ((H.i6 h).1.symm.trans hl) (by decide)⟩, H.k5, fun _ h => ?_, fun h => ⟨rfl, (H.i6 h).2⟩, H.i7⟩
  obtain ⟨g, C, e, hg, hB, _⟩ := H0.k5 h
  show _ ≠ vs 5
  rw [e]
  intro e2
  simp [updV] at e2
  have := hB.lt
  omega
theorem TwoG.op5 (H0 : TwoG w0 a b va vb L vs wx) (hl : L 5 = false) : TwoG w0 a b va vb (met1 L 5) (updV vs 5 (.pointer (some ⟨wx.heap.size, 0, none⟩))) (wx.alloc (.cells (CV (ck0 0) sv0) 38)) := by
  have H := H0.grow (Ext.alloc wx (.cells (CV (ck0 0) sv0) 38))
  refine ⟨H.ext, H.k0, H.k1, H.k2, H.k3, H.k4, fun _ => ⟨wx.heap.size, _, rfl, H0.ext.size, Blk.new _ _ _, rfl, fun h => absurd ((H.i7 h).1.symm.trans hl) (by decide)⟩, fun h _ => ?_, H.i6, fun h => ⟨rfl, (H.i7 h).2⟩⟩
  obtain ⟨g, C, e, hg, hB, _⟩ := H0.k4 h
  show vs 4 ≠ _
  rw [e]
  intro e2
  simp [updV] at e2
  have := hB.lt
  omega
theorem TwoG.op6 (H : TwoG w0 a b va vb L vs wx) (hm : L 4 = true) (hs : L 1 = true) {g : Nat} {C D : Array Value} (e : vs 4 = .pointer (some ⟨g, 0, none⟩)) (hB : Blk wx g C 38) (hC : C.size = 22) (hD : vs 1 = .agg D) (hDs : D.size = 22) : TwoG w0 a b va vb (met1 L 6) (updV vs 6 undef) (wx.setRow g (putIn C 0 D.toList)) := by
  rw [putIn_all C D (by rw [hC, hDs])]
  obtain ⟨g', C', e', hg, _⟩ := H.k4 hm
  rw [e] at e'
  simp at e'
  subst e'
  have hk : KeepBut (· = g) wx (wx.setRow g D) := KeepBut.row _ _ _
  have hO : ∀ {s : Sv} {c : Ck}, OwnC wx w0.heap.size s c → OwnC (wx.setRow g D) w0.heap.size s c := fun h => h.but hk hB noCk
  refine ⟨H.ext.of_but hk (fun k e => by subst e; exact hg), H.k0, fun h => by obtain ⟨s, e, ho⟩ := H.k1 h; exact ⟨s, e, hO ho⟩, H.k2, fun h => by obtain ⟨s, e, ho⟩ := H.k3 h; exact ⟨s, e, hO ho⟩, fun _ => ⟨g, _, e, hg, hB.row _, hDs, fun _ => hD⟩, fun h => ?_, H.ne, fun _ => ⟨hm, hs⟩, H.i7⟩
  obtain ⟨g2, C2, e2, hg2, hB2, hC2, hc2⟩ := H.k5 h
  refine ⟨g2, C2, e2, hg2, hB2.rowO (fun q => ?_) _, hC2, hc2⟩
  subst q
  exact H.ne hm h (e.trans e2.symm)
theorem TwoG.op7 (H : TwoG w0 a b va vb L vs wx) (hm : L 5 = true) (hs : L 3 = true) {g : Nat} {C D : Array Value} (e : vs 5 = .pointer (some ⟨g, 0, none⟩)) (hB : Blk wx g C 38) (hC : C.size = 22) (hD : vs 3 = .agg D) (hDs : D.size = 22) : TwoG w0 a b va vb (met1 L 7) (updV vs 7 undef) (wx.setRow g (putIn C 0 D.toList)) := by
  rw [putIn_all C D (by rw [hC, hDs])]
  obtain ⟨g', C', e', hg, _⟩ := H.k5 hm
  rw [e] at e'
  simp at e'
  subst e'
  have hk : KeepBut (· = g) wx (wx.setRow g D) := KeepBut.row _ _ _
  have hO : ∀ {s : Sv} {c : Ck}, OwnC wx w0.heap.size s c → OwnC (wx.setRow g D) w0.heap.size s c := fun h => h.but hk hB noCk
  refine ⟨H.ext.of_but hk (fun k e => by subst e; exact hg), H.k0, fun h => by obtain ⟨s, e, ho⟩ := H.k1 h; exact ⟨s, e, hO ho⟩, H.k2, fun h => by obtain ⟨s, e, ho⟩ := H.k3 h; exact ⟨s, e, hO ho⟩, fun h => ?_, fun _ => ⟨g, _, e, hg, hB.row _, hDs, fun _ => hD⟩, H.ne, H.i6, fun _ => ⟨hm, hs⟩⟩
  obtain ⟨g2, C2, e2, hg2, hB2, hC2, hc2⟩ := H.k4 h
  refine ⟨g2, C2, e2, hg2, hB2.rowO (fun q => ?_) _, hC2, hc2⟩
  subst q
  exact H.ne h hm (e2.trans e.symm)
end
set_option maxHeartbeats 16000000 in
theorem copies_walk {w : World} {a b : Ck} {s u : Sv} (ha : CkAt w s a) (hb : CkAt w u b) (hla : Lens a) (hlb : Lens b) :
    Calls Try.prog 6 #[.agg (CV a s), .agg (CV b u)] w fun e w' => e = .returned (.bool true) ∧ Ext w w' := by
  have HA : Hid (CkAt w s a ∧ CkAt w u b ∧ Lens a ∧ Lens b) := ⟨ha, hb, hla, hlb⟩
  clear ha hb hla hlb
  go_enter Try.func6, Try.ntmps6
  refine wp_seq_k (fun K hK => ?_)
  have HK := Stop.mk hK
  clear hK
  go_wp2_with (first
    | (have q := hb1; clear q; refine wl_box (C := CV b u) rfl rfl rfl ?_; intro w2 hb2 he2 hx; clear hx; have HE2 : Hid (Ext w w2) := he1.trans he2; replace hb1 := hb1.ext he2; clear he1 he2)
    | (refine wl_box (C := CV a s) rfl rfl rfl ?_; intro w1 hb1 he1 hx; clear hx))
  refine HK.go _ _ ?_
  clear HK
  refine wp_seq_k (fun K2 hK2 => ?_)
  have HK2 := Stop.mk hK2
  clear hK2
  go_wp2_with (first
    | (go_at_call 7; refine (alive_any _).mono ?_; rintro e w3 ⟨rfl, he3⟩; have HE3 : Hid (Ext w w3 ∧ Blk w3 w.heap.size (CV a s) 32 ∧ Blk w3 w1.heap.size (CV b u) 32) := ⟨HE2.out.trans he3, hb1.ext he3, hb2.ext he3⟩; clear he3 hb1 hb2))
  refine HK2.go _ _ ?_
  clear HK2
  refine wp_seq_k (fun K3 hK3 => ?_)
  have HK3 := Stop.mk hK3
  clear hK3
  refine wp_seq_k (fun K4 hK4 => ?_)
  have HK4 := Stop.mk hK4
  clear hK4
  refine wp_line (fun t => bif Nat.ble 18 t && Nat.ble t 25 then some (t - 18) else none) 155 Ext
    [Is (.agg (CV a s)),
     Is (.int .i64 ((sizeC a : Nat) : Int)),
     Is (.bool (decide ((((sizeC a : Nat) : Int) : Int) > (3000 : Int)))),
     Is (.bool (decide ((((sizeC a : Nat) : Int) : Int) > (3000 : Int)))),
     Under ((!((decide ((((sizeC a : Nat) : Int) : Int) > (3000 : Int)))))) (.agg (CV b u)),
     Under ((!((decide ((((sizeC a : Nat) : Int) : Int) > (3000 : Int)))))) (.int .i64 ((sizeC b : Nat) : Int)),
     Under ((!((decide ((((sizeC a : Nat) : Int) : Int) > (3000 : Int)))))) (.bool (decide ((((sizeC b : Nat) : Int) : Int) > (3000 : Int)))),
     Is (.bool ((decide ((((sizeC a : Nat) : Int) : Int) > (3000 : Int))) || ((decide ((((sizeC b : Nat) : Int) : Int) > (3000 : Int))))))]
    rfl (by kernel_rfl) rfl Ext.refl (fun _ _ _ => Ext.trans) (KeepAll.is (KeepAll.is (KeepAll.is (KeepAll.is (KeepAll.under (KeepAll.under (KeepAll.under (KeepAll.is (KeepAll.nil))))))))) ?_ ?_
  · refine GoodAll.cons ?_ ?_
    · intro r wx hR hx
      obtain ⟨h1, _⟩ := hx
      replace h1 : r (.tmp 2) = .pointer (some ⟨w.heap.size, 0, none⟩) := h1
      exact give_of (exec_loadW rowC2 rfl h1 (HE3.out.2.1.ext hR) rfl) ⟨Ext.refl _, rfl⟩
    refine GoodAll.cons ?_ ?_
    · intro r wx hR hx
      obtain ⟨h1, h2, _⟩ := hx
      replace h1 : r (.func 8) = .func (.func 8) #[] #[] := h1
      replace h2 : r (.tmp 18) = .agg (CV a s) := h2
      refine give_func #[.agg (CV a s)] rfl h1 Try.call8 (by simp [h2]) ?_
      refine (size_any (HA.out.1.ext (HE3.out.1.trans hR)) HA.out.2.2.1).mono ?_
      rintro e wz ⟨rfl, hez⟩
      exact ⟨_, rfl, hez, rfl⟩
    refine GoodAll.cons ?_ ?_
    · intro r wx hR hx
      obtain ⟨h1, h2, _⟩ := hx
      replace h1 : r (.tmp 19) = .int .i64 ((sizeC a : Nat) : Int) := h1
      replace h2 : r (.const (.int .i64 3000)) = .int .i64 3000 := h2
      exact give_of (by simp [execOp, h1, h2, go_sem]) ⟨Ext.refl _, rfl⟩
    refine GoodAll.cons ?_ ?_
    · intro r wx hR hx
      obtain ⟨h1, _⟩ := hx
      replace h1 : r (.tmp 20) = .bool (decide ((((sizeC a : Nat) : Int) : Int) > (3000 : Int))) := h1
      exact give_move (.inl rfl) ⟨Ext.refl _, h1⟩
    refine GoodAll.cons ?_ ?_
    · intro r wx hR hx
      obtain ⟨h1, _⟩ := hx
      replace h1 : r (.tmp 3) = .pointer (some ⟨w1.heap.size, 0, none⟩) := h1
      intro gb hgb
      refine guard_u (C := (!((decide ((((sizeC a : Nat) : Int) : Int) > (3000 : Int)))))) (b := (decide ((((sizeC a : Nat) : Int) : Int) > (3000 : Int)))) (want := false) hgb (want_f _) (fun hc => ?_) (fun hc => under_no hc)
      exact give_of (exec_loadW rowC2 rfl h1 (HE3.out.2.2.ext hR) rfl) ⟨Ext.refl _, under_yes hc⟩
    refine GoodAll.cons ?_ ?_
    · intro r wx hR hx
      obtain ⟨h1, h2, _⟩ := hx
      replace h1 : r (.func 8) = .func (.func 8) #[] #[] := h1
      replace h2 : Under ((!((decide ((((sizeC a : Nat) : Int) : Int) > (3000 : Int)))))) (.agg (CV b u)) wx (r (.tmp 22)) := h2
      intro gb hgb
      refine guard_u (C := (!((decide ((((sizeC a : Nat) : Int) : Int) > (3000 : Int)))))) (b := (decide ((((sizeC a : Nat) : Int) : Int) > (3000 : Int)))) (want := false) hgb (want_f _) (fun hc => ?_) (fun hc => under_no hc)
      replace h2 := h2.get hc
      refine give_func #[.agg (CV b u)] rfl h1 Try.call8 (by simp [h2]) ?_
      refine (size_any (HA.out.2.1.ext (HE3.out.1.trans hR)) HA.out.2.2.2).mono ?_
      rintro e wz ⟨rfl, hez⟩
      exact ⟨_, rfl, hez, under_yes hc⟩
    refine GoodAll.cons ?_ ?_
    · intro r wx hR hx
      obtain ⟨h1, h2, _⟩ := hx
      replace h1 : Under ((!((decide ((((sizeC a : Nat) : Int) : Int) > (3000 : Int)))))) (.int .i64 ((sizeC b : Nat) : Int)) wx (r (.tmp 23)) := h1
      replace h2 : r (.const (.int .i64 3000)) = .int .i64 3000 := h2
      intro gb hgb
      refine guard_u (C := (!((decide ((((sizeC a : Nat) : Int) : Int) > (3000 : Int)))))) (b := (decide ((((sizeC a : Nat) : Int) : Int) > (3000 : Int)))) (want := false) hgb (want_f _) (fun hc => ?_) (fun hc => under_no hc)
      replace h1 := h1.get hc
      exact give_of (by simp [execOp, h1, h2, go_sem]) ⟨Ext.refl _, under_yes hc⟩
    refine GoodAll.cons ?_ ?_
    · intro r wx hR hx
      obtain ⟨h1, h2, h3, _⟩ := hx
      replace h1 : r (.tmp 21) = .bool (decide ((((sizeC a : Nat) : Int) : Int) > (3000 : Int))) := h1
      replace h2 : r (.const (.bool true)) = .bool true := h2
      replace h3 : Under ((!((decide ((((sizeC a : Nat) : Int) : Int) > (3000 : Int)))))) (.bool (decide ((((sizeC b : Nat) : Int) : Int) > (3000 : Int)))) wx (r (.tmp 24)) := h3
      exact give_or rfl h2 h1 (fun hb => h3.get (by first | (rw [hb]; rfl) | (rw [hc, hb]; rfl))) ⟨Ext.refl _, rfl⟩
    exact GoodAll.nil
  · intro vs w5 a5 hR hold ha5
    have hv : vs 7 = .bool (((decide ((((sizeC a : Nat) : Int) : Int) > (3000 : Int))) || ((decide ((((sizeC b : Nat) : Int) : Int) > (3000 : Int)))))) := hold.at 7
    clear hold
    simp only [putAll, Act.put, hv, List.setIfInBounds_toArray, List.set_cons_succ, List.set_cons_zero] at ha5
    subst ha5
    refine HK4.go _ _ ?_
    have HE5 : Hid (Ext w w5 ∧ Blk w5 w.heap.size (CV a s) 32 ∧ Blk w5 w1.heap.size (CV b u) 32) := ⟨HE3.out.1.trans hR, HE3.out.2.1.ext hR, HE3.out.2.2.ext hR⟩
    cases hsz : (((decide ((((sizeC a : Nat) : Int) : Int) > (3000 : Int))) || ((decide ((((sizeC b : Nat) : Int) : Int) > (3000 : Int)))))) with
    | true =>
      go_wp2
      go_ret
      exact ⟨rfl, HE5.out.1⟩
    | false =>
      go_wp2_with fail
      refine HK3.go _ _ ?_
      have HS : Hid (Small a ∧ Small b) := by
        rw [Bool.or_eq_false_iff, decide_eq_false_iff_not, decide_eq_false_iff_not] at hsz
        exact ⟨sizeC_small (by omega), sizeC_small (by omega)⟩
      clear hsz HK3 HK4 HE3 hv hR
      refine wp_seq_k (fun K5 hK5 => ?_)
      have HK5 := Stop.mk hK5
      clear hK5
      refine wp_region_W (TwoG w5.drew a b (.agg (CV a s)) (.agg (CV b u))) (fun t => bif Nat.ble 26 t && Nat.ble t 29 then some (t - 26) else bif Nat.beq t 5 then some 4 else bif Nat.beq t 6 then some 5 else none) 155 rfl (by kernel_rfl) rfl (fun vs => TwoG.start _ _ _ _ _ _) ?_ ?_
      · refine OwedVs.cons ⟨rfl, ?_⟩ (OwedVs.cons ⟨rfl, ?_⟩ (OwedVs.cons ⟨rfl, ?_⟩ (OwedVs.cons ⟨rfl, ?_⟩ (OwedVs.cons ⟨rfl, ?_⟩ (OwedVs.cons ⟨rfl, ?_⟩ (OwedVs.cons ⟨rfl, ?_⟩ (OwedVs.cons ⟨rfl, ?_⟩ OwedVs.nil)))))))
        · intro L vs wx r H hl hL hx
          obtain ⟨h1, _⟩ := hx
          replace h1 : r (.tmp 2) = .pointer (some ⟨w.heap.size, 0, none⟩) := h1
          exact give_of (exec_loadW rowC2 rfl h1 (HE5.out.2.1.ext ((Ext.drew _).trans H.ext)) rfl) H.op0
        · intro L vs wx r H hl hL hx
          obtain ⟨h1, h2, _⟩ := hx
          replace h1 : r (.func 9) = .func (.func 9) #[] #[] := h1
          replace h2 : r (.tmp 26) = .agg (CV a s) := Eq.trans h2 (H.k0 (hL 0 (by kernel_rfl)))
          refine give_func #[.agg (CV a s)] rfl h1 Try.call9 (by simp [h2]) ?_
          refine (program_any (HA.out.1.ext (HE5.out.1.trans ((Ext.drew _).trans H.ext))) HS.out.1).mono ?_
          rintro e w' ⟨s1, rfl, ho, he⟩
          exact ⟨_, rfl, H.op1 hl (ho.lower H.ext.size) he⟩
        · intro L vs wx r H hl hL hx
          obtain ⟨h1, _⟩ := hx
          replace h1 : r (.tmp 3) = .pointer (some ⟨w1.heap.size, 0, none⟩) := h1
          exact give_of (exec_loadW rowC2 rfl h1 (HE5.out.2.2.ext ((Ext.drew _).trans H.ext)) rfl) H.op2
        · intro L vs wx r H hl hL hx
          obtain ⟨h1, h2, _⟩ := hx
          replace h1 : r (.func 9) = .func (.func 9) #[] #[] := h1
          replace h2 : r (.tmp 28) = .agg (CV b u) := Eq.trans h2 (H.k2 (hL 2 (by kernel_rfl)))
          refine give_func #[.agg (CV b u)] rfl h1 Try.call9 (by simp [h2]) ?_
          refine (program_any (HA.out.2.1.ext (HE5.out.1.trans ((Ext.drew _).trans H.ext))) HS.out.2).mono ?_
          rintro e w' ⟨s1, rfl, ho, he⟩
          exact ⟨_, rfl, H.op3 hl (ho.lower H.ext.size) he⟩
        · intro L vs wx r H hl hL hx
          exact give_of (exec_alloc wx rfl zeroC) (H.op4 hl)
        · intro L vs wx r H hl hL hx
          exact give_of (exec_alloc wx rfl zeroC) (H.op5 hl)
        · intro L vs wx r H hl hL hx
          obtain ⟨h1, h2, _⟩ := hx
          replace h1 : r (.tmp 5) = vs 4 := h1
          replace h2 : r (.tmp 27) = vs 1 := h2
          obtain ⟨g, C, e, hg, hB, hC, _⟩ := H.k4 (hL 4 (by kernel_rfl))
          obtain ⟨s1, e1, _⟩ := H.k1 (hL 1 (by kernel_rfl))
          exact give_skip (exec_store rowC rfl (h1.trans e) (h2.trans e1) hB rfl (by rw [hC]; decide) (CV.one _ _)) (H.op6 (hL 4 (by kernel_rfl)) (hL 1 (by kernel_rfl)) e hB hC e1 rfl)
        · intro L vs wx r H hl hL hx
          obtain ⟨h1, h2, _⟩ := hx
          replace h1 : r (.tmp 6) = vs 5 := h1
          replace h2 : r (.tmp 29) = vs 3 := h2
          obtain ⟨g, C, e, hg, hB, hC, _⟩ := H.k5 (hL 5 (by kernel_rfl))
          obtain ⟨s1, e1, _⟩ := H.k3 (hL 3 (by kernel_rfl))
          exact give_skip (exec_store rowC rfl (h1.trans e) (h2.trans e1) hB rfl (by rw [hC]; decide) (CV.one _ _)) (H.op7 (hL 5 (by kernel_rfl)) (hL 3 (by kernel_rfl)) e hB hC e1 rfl)
      · intro vs2 a6 w6 H ha6
        obtain ⟨s1, e1, o1⟩ := H.k1 rfl
        obtain ⟨u1, e3, o3⟩ := H.k3 rfl
        obtain ⟨g5, C5, e4, hg5, hB5, _, hC5⟩ := H.k4 rfl
        obtain ⟨g6, C6, e5, hg6, hB6, _, hC6⟩ := H.k5 rfl
        have q5 : C5 = CV a s1 := by have := (hC5 rfl).symm.trans e1; simpa using this
        have q6 : C6 = CV b u1 := by have := (hC6 rfl).symm.trans e3; simpa using this
        subst q5 q6
        have hv0 := H.k0 rfl
        have hv2 := H.k2 rfl
        simp only [putAll, Act.put, Nat.zero_add, Nat.reduceAdd, hv0, hv2, e1, e3, e4, e5, List.setIfInBounds_toArray, List.set_cons_succ, List.set_cons_zero] at ha6
        subst ha6
        have HE6 : Hid (Ext w w6 ∧ Blk w6 w.heap.size (CV a s) 32 ∧ Blk w6 w1.heap.size (CV b u) 32 ∧ Blk w6 g5 (CV a s1) 38 ∧ Blk w6 g6 (CV b u1) 38 ∧ CkAt w6 s1 a ∧ CkAt w6 u1 b) := ⟨HE5.out.1.trans ((Ext.drew _).trans H.ext), HE5.out.2.1.ext ((Ext.drew _).trans H.ext), HE5.out.2.2.ext ((Ext.drew _).trans H.ext), hB5, hB6, o1.at, o3.at⟩
        clear hv0 hv2 e1 e3 e4 e5 hC5 hC6 hB5 hB6 o1 o3 H hg5 hg6 HE5
        refine HK5.go _ _ ?_
        clear HK5
        refine wp_seq_k (fun K6 hK6 => ?_)
        have HK6 := Stop.mk hK6
        clear hK6
        go_wp2_with (first
          | (have q := HC8; clear q; refine wl_store (D := CV a s2) rfl rowC rfl rfl rfl HC8.out.2.2.2 rfl rfl (CV.one _ _) ?_; intro w9 hb9 hk9 hx9; clear hx9)
          | (have q := HC7; clear q; refine wl_alloc rfl rfl zeroC ?_; intro w8 hb8 he8 hx; clear hx; have HC8 : Hid (OwnC w8 w6.heap.size s2 a ∧ Dist s2 ∧ Ext w6 w8 ∧ Blk w8 w7.heap.size (CV (ck0 0) sv0) 38) := ⟨HC7.out.1.ext he8, HC7.out.2.1, HC7.out.2.2.trans he8, hb8⟩; have HL7 : Hid (w6.heap.size ≤ w7.heap.size) := HC7.out.2.2.size; clear hb8 he8 HC7)
          | (refine wl_load rfl rowC rfl rfl HE6.out.2.2.2.1 rfl ?_)
          | (go_at_call 24; refine (copy_any HE6.out.2.2.2.2.2.1 HS.out.1).mono ?_; rintro e w7 ⟨s2, rfl, hoc, hdi, he7⟩; have HC7 : Hid (OwnC w7 w6.heap.size s2 a ∧ Dist s2 ∧ Ext w6 w7) := ⟨hoc, hdi, he7⟩; clear hoc hdi he7))
        refine HK6.go _ _ ?_
        clear HK6
        obtain ⟨g7, hg7⟩ : ∃ g, g = w7.heap.size := ⟨_, rfl⟩
        rw [← hg7] at hb9 hk9 ⊢
        have HC : Hid (OwnC w9 w6.heap.size s2 a ∧ Blk w9 g7 (CV a s2) 38 ∧ Ext w6 w9) := ⟨HC8.out.1.but hk9 (by rw [hg7]; exact HC8.out.2.2.2) noCk, hb9, HC8.out.2.2.1.of_but hk9 (fun k e => by subst e; rw [hg7]; exact HL7.out)⟩
        have HD : Hid (Dist s2) := HC8.out.2.1
        clear hb9 hk9 HC8 hg7 HL7
        refine wp_seq_k (fun K7 hK7 => ?_)
        have HK7 := Stop.mk hK7
        clear hK7
        have EX : Hid (Ext w6 w9.drew) := HC.out.2.2.trans (Ext.drew _)
        have B7 : Hid (Blk w9.drew g7 (CV a s2) 38 ∧ CkAt w9.drew s2 a) := ⟨HC.out.2.1.ext (Ext.drew _), HC.out.1.at.ext (Ext.drew _)⟩
        refine wp_region_facts (fun t => bif Nat.ble 32 t && Nat.ble t 43 then some (t - 32) else bif Nat.beq t 8 then some 12 else none) 155 Ext
          [Is (.agg (CV a s2)),
           Is (.agg (CV a s1)),
           Is (.bool true),
           Is (.bool true),
           Is (.agg (CV a s1)),
           Is (.agg (CV b u1)),
           Is (.bool (sameB a b)),
           Is (.agg (CV a s)),
           Is (.agg (CV b u)),
           Is (.bool (sameB a b)),
           Is (.bool true),
           Is (.bool true),
           Is (.bool true)]
          rfl (by kernel_rfl) (by kernel_rfl) rfl Ext.refl (fun _ _ _ => Ext.trans) ?_ ?_ ?_
        · exact KeepAll.is (KeepAll.is (KeepAll.is (KeepAll.is (KeepAll.is (KeepAll.is (KeepAll.is (KeepAll.is (KeepAll.is (KeepAll.is (KeepAll.is (KeepAll.is (KeepAll.is (KeepAll.nil)))))))))))))
        · refine GoodAll.cons ?_ ?_
          · intro r wx hR hx
            obtain ⟨h1, _⟩ := hx
            replace h1 : r (.tmp 7) = (.pointer (some ⟨g7, 0, none⟩)) := h1
            exact give_of (exec_loadW rowC rfl h1 (B7.out.1.ext hR) rfl) ⟨Ext.refl _, rfl⟩
          refine GoodAll.cons ?_ ?_
          · intro r wx hR hx
            obtain ⟨h1, _⟩ := hx
            replace h1 : r (.tmp 5) = (.pointer (some ⟨g5, 0, none⟩)) := h1
            exact give_of (exec_loadW rowC rfl h1 (HE6.out.2.2.2.1.ext (EX.out.trans hR)) rfl) ⟨Ext.refl _, rfl⟩
          refine GoodAll.cons ?_ ?_
          · intro r wx hR hx
            obtain ⟨h1, h2, h3, _⟩ := hx
            replace h1 : r (.func 25) = .func (.func 25) #[] #[] := h1
            replace h2 : r (.tmp 32) = (.agg (CV a s2)) := h2
            replace h3 : r (.tmp 33) = (.agg (CV a s1)) := h3
            refine give_func #[.agg (CV a s2), .agg (CV a s1)] rfl h1 Try.call25 (by simp [h2, h3]) ?_
            refine (same_any (B7.out.2.ext hR) (HE6.out.2.2.2.2.2.1.ext (EX.out.trans hR))).mono ?_
            rintro e w' ⟨rfl, he⟩
            exact ⟨_, rfl, he, congrArg Value.bool (sameB_refl a)⟩
          refine GoodAll.cons ?_ ?_
          · intro r wx hR hx
            obtain ⟨h1, _⟩ := hx
            replace h1 : r (.tmp 34) = (.bool true) := h1
            exact give_move (.inl rfl) ⟨Ext.refl _, h1⟩
          refine GoodAll.cons ?_ ?_
          · intro r wx hR hx
            obtain ⟨h1, _⟩ := hx
            replace h1 : r (.tmp 5) = (.pointer (some ⟨g5, 0, none⟩)) := h1
            intro gb hgb
            refine guard_in (b := gb) (want := true) hgb ?_
            exact give_of (exec_loadW rowC rfl h1 (HE6.out.2.2.2.1.ext (EX.out.trans hR)) rfl) ⟨Ext.refl _, rfl⟩
          refine GoodAll.cons ?_ ?_
          · intro r wx hR hx
            obtain ⟨h1, _⟩ := hx
            replace h1 : r (.tmp 6) = (.pointer (some ⟨g6, 0, none⟩)) := h1
            intro gb hgb
            refine guard_in (b := gb) (want := true) hgb ?_
            exact give_of (exec_loadW rowC rfl h1 (HE6.out.2.2.2.2.1.ext (EX.out.trans hR)) rfl) ⟨Ext.refl _, rfl⟩
          refine GoodAll.cons ?_ ?_
          · intro r wx hR hx
            obtain ⟨h1, h2, h3, _⟩ := hx
            replace h1 : r (.func 25) = .func (.func 25) #[] #[] := h1
            replace h2 : r (.tmp 36) = (.agg (CV a s1)) := h2
            replace h3 : r (.tmp 37) = (.agg (CV b u1)) := h3
            intro gb hgb
            refine guard_in (b := gb) (want := true) hgb ?_
            refine give_func #[.agg (CV a s1), .agg (CV b u1)] rfl h1 Try.call25 (by simp [h2, h3]) ?_
            refine (same_any (HE6.out.2.2.2.2.2.1.ext (EX.out.trans hR)) (HE6.out.2.2.2.2.2.2.ext (EX.out.trans hR))).mono ?_
            rintro e w' ⟨rfl, he⟩
            exact ⟨_, rfl, he, rfl⟩
          refine GoodAll.cons ?_ ?_
          · intro r wx hR hx
            obtain ⟨h1, _⟩ := hx
            replace h1 : r (.tmp 2) = (.pointer (some ⟨w.heap.size, 0, none⟩)) := h1
            intro gb hgb
            refine guard_in (b := gb) (want := true) hgb ?_
            exact give_of (exec_loadW rowC2 rfl h1 (HE6.out.2.1.ext (EX.out.trans hR)) rfl) ⟨Ext.refl _, rfl⟩
          refine GoodAll.cons ?_ ?_
          · intro r wx hR hx
            obtain ⟨h1, _⟩ := hx
            replace h1 : r (.tmp 3) = (.pointer (some ⟨w1.heap.size, 0, none⟩)) := h1
            intro gb hgb
            refine guard_in (b := gb) (want := true) hgb ?_
            exact give_of (exec_loadW rowC2 rfl h1 (HE6.out.2.2.1.ext (EX.out.trans hR)) rfl) ⟨Ext.refl _, rfl⟩
          refine GoodAll.cons ?_ ?_
          · intro r wx hR hx
            obtain ⟨h1, h2, h3, _⟩ := hx
            replace h1 : r (.func 13) = .func (.func 13) #[] #[] := h1
            replace h2 : r (.tmp 39) = (.agg (CV a s)) := h2
            replace h3 : r (.tmp 40) = (.agg (CV b u)) := h3
            intro gb hgb
            refine guard_in (b := gb) (want := true) hgb ?_
            refine give_func #[.agg (CV a s), .agg (CV b u)] rfl h1 Try.call13 (by simp [h2, h3]) ?_
            refine (refSame_any (HA.out.1.ext (HE6.out.1.trans (EX.out.trans hR))) (HA.out.2.1.ext (HE6.out.1.trans (EX.out.trans hR)))).mono ?_
            rintro e w' ⟨rfl, he⟩
            exact ⟨_, rfl, he, congrArg Value.bool (refSameB_eq a b)⟩
          refine GoodAll.cons ?_ ?_
          · intro r wx hR hx
            obtain ⟨h1, h2, _⟩ := hx
            replace h1 : r (.tmp 38) = (.bool (sameB a b)) := h1
            replace h2 : r (.tmp 41) = (.bool (sameB a b)) := h2
            intro gb hgb
            refine guard_in (b := gb) (want := true) hgb ?_
            exact give_of (by simp [execOp, h1, h2, go_sem]) ⟨Ext.refl _, rfl⟩
          refine GoodAll.cons ?_ ?_
          · intro r wx hR hx
            obtain ⟨h1, h2, h3, _⟩ := hx
            replace h1 : r (.tmp 35) = (.bool true) := h1
            replace h2 : r (.tmp 42) = (.bool true) := h2
            replace h3 : r (.const (.bool false)) = .bool false := h3
            exact give_pick rfl h1 ⟨Ext.refl _, h2⟩
          refine GoodAll.cons ?_ ?_
          · intro r wx hR hx
            obtain ⟨h1, _⟩ := hx
            replace h1 : r (.tmp 43) = (.bool true) := h1
            exact give_move (.inr rfl) ⟨Ext.refl _, h1⟩
          exact GoodAll.nil
        · intro vs3 w10 a10 hR hold ha10
          have hv : vs3 12 = .bool true := hold.at 12
          clear hold
          simp only [putAll, Act.put, Nat.zero_add, Nat.reduceAdd, hv, List.setIfInBounds_toArray, List.set_cons_succ, List.set_cons_zero] at ha10
          subst ha10
          refine HK7.go _ _ ?_
          clear HK7 hv
          have HCS : Hid (CopySt w6 w10 g7 a s2) := ⟨⟨a, HC.out.1.ext ((Ext.drew _).trans hR), LensEq.refl a⟩, HC.out.2.1.ext ((Ext.drew _).trans hR), EX.out.trans hR⟩
          clear HC EX B7 hR
          have hn7 : s2.tN ≤ 3000 := by obtain ⟨⟨m, ho, hl⟩, _⟩ := HCS.out; have := (bytes_len ho.t.bytes).1; have := hl.t; have := HS.out.1.text; omega
          have hn13 : s2.rN ≤ 3000 := by obtain ⟨⟨m, ho, hl⟩, _⟩ := HCS.out; have := (bytes_len ho.r.bytes).1; have := hl.r; have := HS.out.1.rand; omega
          have hn15 : s2.iN ≤ 3000 := by obtain ⟨⟨m, ho, hl⟩, _⟩ := HCS.out; have := (bytes_len ho.i.bytes).1; have := hl.i; have := HS.out.1.info; omega
          have hn14 : s2.aN ≤ 3000 := by obtain ⟨⟨m, ho, hl⟩, _⟩ := HCS.out; have := (nums_len ho.a.nums).1; have := hl.a; have := HS.out.1.addrs; omega
          have hn17 : s2.dN ≤ 3000 := by obtain ⟨⟨m, ho, hl⟩, _⟩ := HCS.out; have h1 := (nums_len ho.d.nums).1; rw [ci_len] at h1; have := hl.d; have := HS.out.1.dups; omega
          have hn16 : s2.gN ≤ 3000 := by obtain ⟨⟨m, ho, hl⟩, _⟩ := HCS.out; have := (PairsAt.len ho.g.pairs).1; have := hl.g; have := HS.out.1.gaps; omega
          have hn20 : s2.oN ≤ 3000 := by obtain ⟨⟨m, ho, hl⟩, _⟩ := HCS.out; have := (PairsAt.len ho.o.pairs).1; have := hl.o; have := HS.out.1.ops; omega
          obtain ⟨tA, tN, tC, rA, rN, rC, aA, aN, aC, iA, iN, iC, gA, gN, gC, dA, dN, dC, oA, oN, oC⟩ := s2
          dsimp only at hn7 hn13 hn14 hn15 hn16 hn17 hn20
          have c7 := cv7 HCS.out.2.1
          dsimp only at c7
          go_wp2
          clear c7
          go_loopg [48] tN (fun gm t wr => ∃ k : Nat, k ≤ tN ∧ gm = tN - k ∧ t = .int .i64 (k : Int) ∧ Hid (CopySt w6 wr g7 a ⟨tA, tN, tC, rA, rN, rC, aA, aN, aC, iA, iN, iC, gA, gN, gC, dA, dN, dC, oA, oN, oC⟩))
          case atStart => exact ⟨0, Nat.zero_le _, rfl, rfl, HCS.out⟩
          case round =>
            obtain ⟨k, hk, rfl, rfl, HR⟩ := hrel
            by_cases hlt : k < tN
            · have hd : decide ((k : Int) < (tN : Int)) = true := decide_eq_true (by omega)
              obtain ⟨⟨m, ho, hl⟩, hb, he⟩ := HR.out
              obtain ⟨q, rfl, hzz⟩ := OB.some_of ho.t (Nat.lt_of_le_of_lt (Nat.zero_le k) hlt)
              have hkm : k < m.text.length := by rw [← hzz]; exact hlt
              have hcq := OB.cellAt ho.t k hkm
              obtain ⟨z, hz, hw1, hw2⟩ := plus8 _ (ho.t.all.getD k)
              generalize m.text.getD k 0 = y at *
              have HX : Hid (OwnC wr w6.heap.size ⟨some ⟨q, 0, none⟩, tN, tC, rA, rN, rC, aA, aN, aC, iA, iN, iC, gA, gN, gC, dA, dN, dC, oA, oN, oC⟩ m ∧ LensEq m a ∧ Blk wr g7 (CV a ⟨some ⟨q, 0, none⟩, tN, tC, rA, rN, rC, aA, aN, aC, iA, iN, iC, gA, gN, gC, dA, dN, dC, oA, oN, oC⟩) 38 ∧ Ext w6 wr ∧ k < m.text.length) := ⟨ho, hl, hb, he, hkm⟩
              have c7 := cv7 hb
              dsimp only at c7
              clear ho hl hb he hzz hkm HR HCS
              go_wp2_with (first
                | (refine wl_poke (z := z) (m := m.text) (q := q) (j := k) rfl rfl (by first | rfl | go_simp) (by first | rfl | go_simp | simp [go_sem, hw1, hw2]) hz HX.out.1.t HX.out.2.2.2.2 ?_; intro w8 ho8 hk8))
              go_roundg (tN - (k + 1))
              case measure => omega
              case rel => exact ⟨k + 1, by omega, rfl, by simp, CopySt.poked_t HX.out.1 HX.out.2.1 HX.out.2.2.1 HX.out.2.2.2.1 HD.out rfl hk8 ho8 (by rw [List.length_set])⟩
            · have hd : decide ((k : Int) < (tN : Int)) = false := decide_eq_false (by omega)
              clear HCS
              have HCS : Hid (CopySt w6 wr g7 a ⟨tA, tN, tC, rA, rN, rC, aA, aN, aC, iA, iN, iC, gA, gN, gC, dA, dN, dC, oA, oN, oC⟩) := HR
              clear HR
              have c15 := cv15 HCS.out.2.1
              dsimp only at c15
              go_wp2
              clear hd hlt hk
              clear c15
              go_loopg [63] iN (fun gm t wr => ∃ k : Nat, k ≤ iN ∧ gm = iN - k ∧ t = .int .i64 (k : Int) ∧ Hid (CopySt w6 wr g7 a ⟨tA, tN, tC, rA, rN, rC, aA, aN, aC, iA, iN, iC, gA, gN, gC, dA, dN, dC, oA, oN, oC⟩))
              case atStart => exact ⟨0, Nat.zero_le _, rfl, rfl, HCS.out⟩
              case round =>
                obtain ⟨k, hk, rfl, rfl, HR⟩ := hrel
                by_cases hlt : k < iN
                · have hd : decide ((k : Int) < (iN : Int)) = true := decide_eq_true (by omega)
                  obtain ⟨⟨m, ho, hl⟩, hb, he⟩ := HR.out
                  obtain ⟨q, rfl, hzz⟩ := OB.some_of ho.i (Nat.lt_of_le_of_lt (Nat.zero_le k) hlt)
                  have hkm : k < m.info.length := by rw [← hzz]; exact hlt
                  have hcq := OB.cellAt ho.i k hkm
                  obtain ⟨z, hz, hw1, hw2⟩ := plus8 _ (ho.i.all.getD k)
                  generalize m.info.getD k 0 = y at *
                  have HX : Hid (OwnC wr w6.heap.size ⟨tA, tN, tC, rA, rN, rC, aA, aN, aC, some ⟨q, 0, none⟩, iN, iC, gA, gN, gC, dA, dN, dC, oA, oN, oC⟩ m ∧ LensEq m a ∧ Blk wr g7 (CV a ⟨tA, tN, tC, rA, rN, rC, aA, aN, aC, some ⟨q, 0, none⟩, iN, iC, gA, gN, gC, dA, dN, dC, oA, oN, oC⟩) 38 ∧ Ext w6 wr ∧ k < m.info.length) := ⟨ho, hl, hb, he, hkm⟩
                  have c15 := cv15 hb
                  dsimp only at c15
                  clear ho hl hb he hzz hkm HR HCS
                  go_wp2_with (first
                    | (refine wl_poke (z := z) (m := m.info) (q := q) (j := k) rfl rfl (by first | rfl | go_simp) (by first | rfl | go_simp | simp [go_sem, hw1, hw2]) hz HX.out.1.i HX.out.2.2.2.2 ?_; intro w8 ho8 hk8))
                  go_roundg (iN - (k + 1))
                  case measure => omega
                  case rel => exact ⟨k + 1, by omega, rfl, by simp, CopySt.poked_i HX.out.1 HX.out.2.1 HX.out.2.2.1 HX.out.2.2.2.1 HD.out rfl hk8 ho8 (by rw [List.length_set])⟩
                · have hd : decide ((k : Int) < (iN : Int)) = false := decide_eq_false (by omega)
                  clear HCS
                  have HCS : Hid (CopySt w6 wr g7 a ⟨tA, tN, tC, rA, rN, rC, aA, aN, aC, iA, iN, iC, gA, gN, gC, dA, dN, dC, oA, oN, oC⟩) := HR
                  clear HR
                  have c13 := cv13 HCS.out.2.1
                  dsimp only at c13
                  go_wp2
                  clear hd hlt hk
                  clear c13
                  go_loopg [77] rN (fun gm t wr => ∃ k : Nat, k ≤ rN ∧ gm = rN - k ∧ t = .int .i64 (k : Int) ∧ Hid (CopySt w6 wr g7 a ⟨tA, tN, tC, rA, rN, rC, aA, aN, aC, iA, iN, iC, gA, gN, gC, dA, dN, dC, oA, oN, oC⟩))
                  case atStart => exact ⟨0, Nat.zero_le _, rfl, rfl, HCS.out⟩
                  case round =>
                    obtain ⟨k, hk, rfl, rfl, HR⟩ := hrel
                    by_cases hlt : k < rN
                    · have hd : decide ((k : Int) < (rN : Int)) = true := decide_eq_true (by omega)
                      obtain ⟨⟨m, ho, hl⟩, hb, he⟩ := HR.out
                      obtain ⟨q, rfl, hzz⟩ := OB.some_of ho.r (Nat.lt_of_le_of_lt (Nat.zero_le k) hlt)
                      have hkm : k < m.rand.length := by rw [← hzz]; exact hlt
                      have hcq := OB.cellAt ho.r k hkm
                      obtain ⟨z, hz, hw1, hw2⟩ := plus8 _ (ho.r.all.getD k)
                      generalize m.rand.getD k 0 = y at *
                      have HX : Hid (OwnC wr w6.heap.size ⟨tA, tN, tC, some ⟨q, 0, none⟩, rN, rC, aA, aN, aC, iA, iN, iC, gA, gN, gC, dA, dN, dC, oA, oN, oC⟩ m ∧ LensEq m a ∧ Blk wr g7 (CV a ⟨tA, tN, tC, some ⟨q, 0, none⟩, rN, rC, aA, aN, aC, iA, iN, iC, gA, gN, gC, dA, dN, dC, oA, oN, oC⟩) 38 ∧ Ext w6 wr ∧ k < m.rand.length) := ⟨ho, hl, hb, he, hkm⟩
                      have c13 := cv13 hb
                      dsimp only at c13
                      clear ho hl hb he hzz hkm HR HCS
                      go_wp2_with (first
                        | (refine wl_poke (z := z) (m := m.rand) (q := q) (j := k) rfl rfl (by first | rfl | go_simp) (by first | rfl | go_simp | simp [go_sem, hw1, hw2]) hz HX.out.1.r HX.out.2.2.2.2 ?_; intro w8 ho8 hk8))
                      go_roundg (rN - (k + 1))
                      case measure => omega
                      case rel => exact ⟨k + 1, by omega, rfl, by simp, CopySt.poked_r HX.out.1 HX.out.2.1 HX.out.2.2.1 HX.out.2.2.2.1 HD.out rfl hk8 ho8 (by rw [List.length_set])⟩
                    · have hd : decide ((k : Int) < (rN : Int)) = false := decide_eq_false (by omega)
                      clear HCS
                      have HCS : Hid (CopySt w6 wr g7 a ⟨tA, tN, tC, rA, rN, rC, aA, aN, aC, iA, iN, iC, gA, gN, gC, dA, dN, dC, oA, oN, oC⟩) := HR
                      clear HR
                      have c14 := cv14 HCS.out.2.1
                      dsimp only at c14
                      go_wp2
                      clear hd hlt hk
                      clear c14
                      go_loopg [91] aN (fun gm t wr => ∃ k : Nat, k ≤ aN ∧ gm = aN - k ∧ t = .int .i64 (k : Int) ∧ Hid (CopySt w6 wr g7 a ⟨tA, tN, tC, rA, rN, rC, aA, aN, aC, iA, iN, iC, gA, gN, gC, dA, dN, dC, oA, oN, oC⟩))
                      case atStart => exact ⟨0, Nat.zero_le _, rfl, rfl, HCS.out⟩
                      case round =>
                        obtain ⟨k, hk, rfl, rfl, HR⟩ := hrel
                        by_cases hlt : k < aN
                        · have hd : decide ((k : Int) < (aN : Int)) = true := decide_eq_true (by omega)
                          obtain ⟨⟨m, ho, hl⟩, hb, he⟩ := HR.out
                          obtain ⟨q, rfl, hzz⟩ := ownN_some ho.a (Nat.lt_of_le_of_lt (Nat.zero_le k) hlt)
                          have hkm : k < m.addrs.length := by rw [← hzz]; exact hlt
                          have hcq := ownN_cell ho.a k hkm
                          generalize m.addrs.getD k 0 = y at *
                          obtain ⟨z, hw1⟩ : ∃ z, IntKind.i64.wrap (y + 1) = z := ⟨_, rfl⟩
                          have hw2 : wrap64 (y + 1) = z := by first | exact hw1 | (rw [← hw1, IntKind.wrap_i64]; rfl) | (rw [← hw1, IntKind.wrap_i64]; simp [wrap64])
                          have HX : Hid (OwnC wr w6.heap.size ⟨tA, tN, tC, rA, rN, rC, some ⟨q, 0, none⟩, aN, aC, iA, iN, iC, gA, gN, gC, dA, dN, dC, oA, oN, oC⟩ m ∧ LensEq m a ∧ Blk wr g7 (CV a ⟨tA, tN, tC, rA, rN, rC, some ⟨q, 0, none⟩, aN, aC, iA, iN, iC, gA, gN, gC, dA, dN, dC, oA, oN, oC⟩) 38 ∧ Ext w6 wr ∧ k < m.addrs.length) := ⟨ho, hl, hb, he, hkm⟩
                          have c14 := cv14 hb
                          dsimp only at c14
                          clear ho hl hb he hzz hkm HR HCS
                          go_wp2_with (first
                            | (refine wl_pokeN (k := .i64) (z := z) (m := m.addrs) (q := q) (j := k) rfl oneAd rfl (by first | rfl | go_simp) (by first | rfl | go_simp | simp [go_sem, hw1, hw2]) HX.out.1.a HX.out.2.2.2.2 ?_; intro w8 ho8 hk8))
                          go_roundg (aN - (k + 1))
                          case measure => omega
                          case rel => exact ⟨k + 1, by omega, rfl, by simp, CopySt.poked_a HX.out.1 HX.out.2.1 HX.out.2.2.1 HX.out.2.2.2.1 HD.out rfl hk8 ho8 (by rw [List.length_set])⟩
                        · have hd : decide ((k : Int) < (aN : Int)) = false := decide_eq_false (by omega)
                          clear HCS
                          have HCS : Hid (CopySt w6 wr g7 a ⟨tA, tN, tC, rA, rN, rC, aA, aN, aC, iA, iN, iC, gA, gN, gC, dA, dN, dC, oA, oN, oC⟩) := HR
                          clear HR
                          have c16 := cv16 HCS.out.2.1
                          dsimp only at c16
                          go_wp2
                          clear hd hlt hk
                          clear c16
                          go_loopg [105] gN (fun gm t wr => ∃ k : Nat, k ≤ gN ∧ gm = gN - k ∧ t = .int .i64 (k : Int) ∧ Hid (CopySt w6 wr g7 a ⟨tA, tN, tC, rA, rN, rC, aA, aN, aC, iA, iN, iC, gA, gN, gC, dA, dN, dC, oA, oN, oC⟩))
                          case atStart => exact ⟨0, Nat.zero_le _, rfl, rfl, HCS.out⟩
                          case round =>
                            obtain ⟨k, hk, rfl, rfl, HR⟩ := hrel
                            by_cases hlt : k < gN
                            · have hd : decide ((k : Int) < (gN : Int)) = true := decide_eq_true (by omega)
                              obtain ⟨⟨m, ho, hl⟩, hb, he⟩ := HR.out
                              obtain ⟨q, rfl, hzz⟩ := ownP_some ho.g (Nat.lt_of_le_of_lt (Nat.zero_le k) hlt)
                              have hkm : k < m.gaps.length := by rw [← hzz]; exact hlt
                              have hcq := ownP_cell ho.g k hkm
                              generalize hy : (m.gaps.getD k (0, 0)).2 = y at hcq
                              clear hy
                              obtain ⟨z, hw1⟩ : ∃ z, IntKind.i64.wrap (y + 1) = z := ⟨_, rfl⟩
                              have hw2 : wrap64 (y + 1) = z := by first | exact hw1 | (rw [← hw1, IntKind.wrap_i64]; rfl) | (rw [← hw1, IntKind.wrap_i64]; simp [wrap64])
                              have HX : Hid (OwnC wr w6.heap.size ⟨tA, tN, tC, rA, rN, rC, aA, aN, aC, iA, iN, iC, some ⟨q, 0, none⟩, gN, gC, dA, dN, dC, oA, oN, oC⟩ m ∧ LensEq m a ∧ Blk wr g7 (CV a ⟨tA, tN, tC, rA, rN, rC, aA, aN, aC, iA, iN, iC, some ⟨q, 0, none⟩, gN, gC, dA, dN, dC, oA, oN, oC⟩) 38 ∧ Ext w6 wr ∧ k < m.gaps.length) := ⟨ho, hl, hb, he, hkm⟩
                              have c16 := cv16 hb
                              dsimp only at c16
                              clear ho hl hb he hzz hkm HR HCS
                              go_wp2_with (first
                                | (refine wl_pokeP (z := z) (m := m.gaps) (q := q) (j := k) rfl one3 rfl (by first | rfl | go_simp) (by first | rfl | omega | simp) (by first | rfl | go_simp | simp [go_sem, hw1, hw2]) HX.out.1.g HX.out.2.2.2.2 ?_; intro w8 ho8 hk8))
                              go_roundg (gN - (k + 1))
                              case measure => omega
                              case rel => exact ⟨k + 1, by omega, rfl, by simp, CopySt.poked_g HX.out.1 HX.out.2.1 HX.out.2.2.1 HX.out.2.2.2.1 HD.out rfl hk8 ho8 (by rw [List.length_set])⟩
                            · have hd : decide ((k : Int) < (gN : Int)) = false := decide_eq_false (by omega)
                              clear HCS
                              have HCS : Hid (CopySt w6 wr g7 a ⟨tA, tN, tC, rA, rN, rC, aA, aN, aC, iA, iN, iC, gA, gN, gC, dA, dN, dC, oA, oN, oC⟩) := HR
                              clear HR
                              have c17 := cv17 HCS.out.2.1
                              dsimp only at c17
                              go_wp2
                              clear hd hlt hk
                              clear c17
                              go_loopg [121] dN (fun gm t wr => ∃ k : Nat, k ≤ dN ∧ gm = dN - k ∧ t = .int .i64 (k : Int) ∧ Hid (CopySt w6 wr g7 a ⟨tA, tN, tC, rA, rN, rC, aA, aN, aC, iA, iN, iC, gA, gN, gC, dA, dN, dC, oA, oN, oC⟩))
                              case atStart => exact ⟨0, Nat.zero_le _, rfl, rfl, HCS.out⟩
                              case round =>
                                obtain ⟨k, hk, rfl, rfl, HR⟩ := hrel
                                by_cases hlt : k < dN
                                · have hd : decide ((k : Int) < (dN : Int)) = true := decide_eq_true (by omega)
                                  obtain ⟨⟨m, ho, hl⟩, hb, he⟩ := HR.out
                                  obtain ⟨q, rfl, hzz⟩ := ownN_some ho.d (Nat.lt_of_le_of_lt (Nat.zero_le k) hlt)
                                  have hkm : k < (ci m.dups).length := by rw [← hzz]; exact hlt
                                  have hcq := ownN_cell ho.d k hkm
                                  rw [ci_get] at hcq
                                  generalize m.dups.getD k 0 = y at *
                                  obtain ⟨z, hw1, hw2⟩ : ∃ z : Nat, IntKind.u32.wrap ((y : Int) + 1) = (z : Int) ∧ ((y : Int) + 1) % 4294967296 = (z : Int) := ⟨(y + 1) % 4294967296, by rw [IntKind.wrap_u32]; omega, by omega⟩
                                  have HX : Hid (OwnC wr w6.heap.size ⟨tA, tN, tC, rA, rN, rC, aA, aN, aC, iA, iN, iC, gA, gN, gC, some ⟨q, 0, none⟩, dN, dC, oA, oN, oC⟩ m ∧ LensEq m a ∧ Blk wr g7 (CV a ⟨tA, tN, tC, rA, rN, rC, aA, aN, aC, iA, iN, iC, gA, gN, gC, some ⟨q, 0, none⟩, dN, dC, oA, oN, oC⟩) 38 ∧ Ext w6 wr ∧ k < (ci m.dups).length) := ⟨ho, hl, hb, he, hkm⟩
                                  have c17 := cv17 hb
                                  dsimp only at c17
                                  clear ho hl hb he hzz hkm HR HCS
                                  go_wp2_with (first
                                    | (refine wl_pokeN (k := .u32) (z := (z : Int)) (m := ci m.dups) (q := q) (j := k) rfl one22 rfl (by first | rfl | go_simp) (by first | rfl | go_simp | simp [go_sem, hw1, hw2]) HX.out.1.d HX.out.2.2.2.2 ?_; intro w8 ho8 hk8))
                                  go_roundg (dN - (k + 1))
                                  case measure => omega
                                  case rel => exact ⟨k + 1, by omega, rfl, by simp, CopySt.poked_d HX.out.1 HX.out.2.1 HX.out.2.2.1 HX.out.2.2.2.1 HD.out rfl hk8 (l' := m.dups.set k z) (by rw [show ci (m.dups.set k z) = (ci m.dups).set k (z : Int) by simp [ci, List.map_set]]; exact ho8) (by rw [List.length_set])⟩
                                · have hd : decide ((k : Int) < (dN : Int)) = false := decide_eq_false (by omega)
                                  clear HCS
                                  have HCS : Hid (CopySt w6 wr g7 a ⟨tA, tN, tC, rA, rN, rC, aA, aN, aC, iA, iN, iC, gA, gN, gC, dA, dN, dC, oA, oN, oC⟩) := HR
                                  clear HR
                                  have c20 := cv20 HCS.out.2.1
                                  dsimp only at c20
                                  go_wp2
                                  clear hd hlt hk
                                  clear c20
                                  go_loopg [135] oN (fun gm t wr => ∃ k : Nat, k ≤ oN ∧ gm = oN - k ∧ t = .int .i64 (k : Int) ∧ Hid (CopySt w6 wr g7 a ⟨tA, tN, tC, rA, rN, rC, aA, aN, aC, iA, iN, iC, gA, gN, gC, dA, dN, dC, oA, oN, oC⟩))
                                  case atStart => exact ⟨0, Nat.zero_le _, rfl, rfl, HCS.out⟩
                                  case round =>
                                    obtain ⟨k, hk, rfl, rfl, HR⟩ := hrel
                                    by_cases hlt : k < oN
                                    · have hd : decide ((k : Int) < (oN : Int)) = true := decide_eq_true (by omega)
                                      obtain ⟨⟨m, ho, hl⟩, hb, he⟩ := HR.out
                                      obtain ⟨q, rfl, hzz⟩ := ownP_some ho.o (Nat.lt_of_le_of_lt (Nat.zero_le k) hlt)
                                      have hkm : k < m.ops.length := by rw [← hzz]; exact hlt
                                      have hcq := ownP_cell ho.o k hkm
                                      generalize hy : (m.ops.getD k (0, 0)).2 = y at hcq
                                      clear hy
                                      obtain ⟨z, hw1⟩ : ∃ z, IntKind.i64.wrap (y + 1) = z := ⟨_, rfl⟩
                                      have hw2 : wrap64 (y + 1) = z := by first | exact hw1 | (rw [← hw1, IntKind.wrap_i64]; rfl) | (rw [← hw1, IntKind.wrap_i64]; simp [wrap64])
                                      have HX : Hid (OwnC wr w6.heap.size ⟨tA, tN, tC, rA, rN, rC, aA, aN, aC, iA, iN, iC, gA, gN, gC, dA, dN, dC, some ⟨q, 0, none⟩, oN, oC⟩ m ∧ LensEq m a ∧ Blk wr g7 (CV a ⟨tA, tN, tC, rA, rN, rC, aA, aN, aC, iA, iN, iC, gA, gN, gC, dA, dN, dC, some ⟨q, 0, none⟩, oN, oC⟩) 38 ∧ Ext w6 wr ∧ k < m.ops.length) := ⟨ho, hl, hb, he, hkm⟩
                                      have c20 := cv20 hb
                                      dsimp only at c20
                                      clear ho hl hb he hzz hkm HR HCS
                                      go_wp2_with (first
                                        | (refine wl_pokeP (z := z) (m := m.ops) (q := q) (j := k) rfl oneAd rfl (by first | rfl | go_simp) (by first | rfl | omega | simp) (by first | rfl | go_simp | simp [go_sem, hw1, hw2]) HX.out.1.o HX.out.2.2.2.2 ?_; intro w8 ho8 hk8))
                                      go_roundg (oN - (k + 1))
                                      case measure => omega
                                      case rel => exact ⟨k + 1, by omega, rfl, by simp, CopySt.poked_o HX.out.1 HX.out.2.1 HX.out.2.2.1 HX.out.2.2.2.1 HD.out rfl hk8 ho8 (by rw [List.length_set])⟩
                                    · have hd : decide ((k : Int) < (oN : Int)) = false := decide_eq_false (by omega)
                                      clear HCS
                                      have HCS : Hid (CopySt w6 wr g7 a ⟨tA, tN, tC, rA, rN, rC, aA, aN, aC, iA, iN, iC, gA, gN, gC, dA, dN, dC, oA, oN, oC⟩) := HR
                                      clear HR
                                      go_wp2_with fail
                                      have EX : Hid (Ext w6 wr.drew) := HCS.out.2.2.trans (Ext.drew _)
                                      refine wp_region_facts (fun t => bif Nat.ble 148 t && Nat.ble t 154 then some (t - 148) else bif Nat.beq t 4 then some 7 else none) 155 Ext
                                        [Is (.bool true),
                                         Is (.bool true),
                                         Is (.agg (CV a s1)),
                                         (fun wz v => ∃ s3, v = .agg (CV a s3) ∧ CkAt wz s3 a),
                                         Is (.agg (CV a s)),
                                         Is (.bool true),
                                         Is (.bool true),
                                         Is (.bool true)]
                                        rfl (by kernel_rfl) (by kernel_rfl) rfl Ext.refl (fun _ _ _ => Ext.trans) ?_ ?_ ?_
                                      · exact KeepAll.is (KeepAll.is (KeepAll.is (KeepAll.cons (fun _ _ _ hr hz => by obtain ⟨s3, e, hc⟩ := hz; exact ⟨s3, e, hc.ext hr⟩) (KeepAll.is (KeepAll.is (KeepAll.is (KeepAll.is (KeepAll.nil))))))))
                                      · refine GoodAll.cons ?_ ?_
                                        · intro r wx hR hx
                                          obtain ⟨h1, _⟩ := hx
                                          replace h1 : r (.tmp 8) = (.bool true) := h1
                                          exact give_move (.inl rfl) ⟨Ext.refl _, h1⟩
                                        refine GoodAll.cons ?_ ?_
                                        · intro r wx hR hx
                                          obtain ⟨h1, _⟩ := hx
                                          replace h1 : r (.tmp 148) = (.bool true) := h1
                                          exact give_move (.inl rfl) ⟨Ext.refl _, h1⟩
                                        refine GoodAll.cons ?_ ?_
                                        · intro r wx hR hx
                                          obtain ⟨h1, _⟩ := hx
                                          replace h1 : r (.tmp 5) = (.pointer (some ⟨g5, 0, none⟩)) := h1
                                          intro gb hgb
                                          refine guard_in (b := gb) (want := true) hgb ?_
                                          exact give_of (exec_loadW rowC rfl h1 (HE6.out.2.2.2.1.ext (EX.out.trans hR)) rfl) ⟨Ext.refl _, rfl⟩
                                        refine GoodAll.cons ?_ ?_
                                        · intro r wx hR hx
                                          obtain ⟨h1, h2, _⟩ := hx
                                          replace h1 : r (.func 14) = .func (.func 14) #[] #[] := h1
                                          replace h2 : r (.tmp 150) = (.agg (CV a s1)) := h2
                                          intro gb hgb
                                          refine guard_in (b := gb) (want := true) hgb ?_
                                          refine give_func #[.agg (CV a s1)] rfl h1 Try.call14 (by simp [h2]) ?_
                                          refine (document_any (HE6.out.2.2.2.2.2.1.ext (EX.out.trans hR)) HS.out.1).mono ?_
                                          rintro e w' ⟨s3, rfl, hc, he⟩
                                          exact ⟨_, rfl, he, s3, rfl, hc⟩
                                        refine GoodAll.cons ?_ ?_
                                        · intro r wx hR hx
                                          obtain ⟨h1, _⟩ := hx
                                          replace h1 : r (.tmp 2) = (.pointer (some ⟨w.heap.size, 0, none⟩)) := h1
                                          intro gb hgb
                                          refine guard_in (b := gb) (want := true) hgb ?_
                                          exact give_of (exec_loadW rowC2 rfl h1 (HE6.out.2.1.ext (EX.out.trans hR)) rfl) ⟨Ext.refl _, rfl⟩
                                        refine GoodAll.cons ?_ ?_
                                        · intro r wx hR hx
                                          obtain ⟨h1, h2, h3, _⟩ := hx
                                          replace h1 : r (.func 13) = .func (.func 13) #[] #[] := h1
                                          replace h2 : ((fun wz v => ∃ s3, v = .agg (CV a s3) ∧ CkAt wz s3 a) : Fact) wx (r (.tmp 151)) := h2
                                          replace h3 : r (.tmp 152) = (.agg (CV a s)) := h3
                                          intro gb hgb
                                          refine guard_in (b := gb) (want := true) hgb ?_
                                          obtain ⟨s3, e3, hc3⟩ := h2
                                          refine give_func #[.agg (CV a s3), .agg (CV a s)] rfl h1 Try.call13 (by simp [e3, h3]) ?_
                                          refine (refSame_any hc3 (HA.out.1.ext (HE6.out.1.trans (EX.out.trans hR)))).mono ?_
                                          rintro e w' ⟨rfl, he⟩
                                          exact ⟨_, rfl, he, congrArg Value.bool ((refSameB_eq a a).trans (sameB_refl a))⟩
                                        refine GoodAll.cons ?_ ?_
                                        · intro r wx hR hx
                                          obtain ⟨h1, h2, h3, _⟩ := hx
                                          replace h1 : r (.tmp 149) = (.bool true) := h1
                                          replace h2 : r (.tmp 153) = (.bool true) := h2
                                          replace h3 : r (.const (.bool false)) = .bool false := h3
                                          exact give_pick rfl h1 ⟨Ext.refl _, h2⟩
                                        refine GoodAll.cons ?_ ?_
                                        · intro r wx hR hx
                                          obtain ⟨h1, _⟩ := hx
                                          replace h1 : r (.tmp 154) = (.bool true) := h1
                                          exact give_move (.inr rfl) ⟨Ext.refl _, h1⟩
                                        exact GoodAll.nil
                                      · intro vs wE aE hR hold haE
                                        have hv : vs 7 = .bool true := hold.at 7
                                        refine ‹∀ (a : Act) (w : World), Code.wp Try.prog Code.ret _ a w → _› _ _ ?_
                                        refine wp_ret ?_
                                        have hs : aE.tmps[4]? = some (.bool true) := by rw [haE, ← hv]; kernel_rfl
                                        have hdf : aE.defers = [] := by rw [haE]; exact putAll_defers _ _ _ _
                                        clear haE
                                        refine bodyPost_ret (v := .bool true) ?_ hdf ⟨rfl, (HE6.out.1.trans EX.out).trans hR⟩
                                        simp [results, Try.results6, go_sem, hs]
end Tlv
end Go.Proofs.Ytobkgaceallegaa

/- An argument that is a slice of numbers, opened. No condition of its own. -/
namespace Go.Proofs.Ytobkgaceallegaa
open Go.RowKit Go.ChangeShapes

theorem nums_open {H : Type} {enc : TypeId × Value → H} {P : Program} {w : World} {base : Nat} {held : Bool} {fuel : Nat} {t e : TypeId} {k : IntKind} {v : Value} {x : DataW H × List MemPlace}
    (ht : P.underlying t = some (.slice e)) (he : P.underlying e = some (.int k)) (hc : P.cellsOf e = 1) (h : DataW.trod enc P w base (fun _ => true) held fuel t [v] = some x) :
    ∃ l, NumsAt k w v l ∧ ∀ z ∈ l, (Lit.int k z).wf = true := by
  rcases open_ints ht he hc h with ⟨hcs, _⟩ | ⟨a, len, cap, zs, hcs, _, hl, hm, hz, _, hcell, hwf⟩
  · simp at hcs
    subst hcs
    exact ⟨[], NumsAt.nothing _ _, by simp⟩
  · simp at hcs
    subst hcs
    exact ⟨_, NumsAt.of_row hl hm (by simpa using hz) hcell, fun z hz' => hwf z (List.mem_of_mem_take hz')⟩
end Go.Proofs.Ytobkgaceallegaa

/- An argument that is a chunk, opened. No condition of its own. -/
namespace Go.Proofs.Ytobkgaceallegaa
namespace Tlv
open Go Go.RowKit Go.ChangeShapes Go.WideShapes Go.ChangeAt
set_option linter.unusedVariables false
set_option linter.unusedSimpArgs false
set_option maxRecDepth 100000

abbrev Light {H : Type} (t : TypeId) (d : DataW H) : Prop := ∀ n ∈ d.weights Try.prog t, n ≤ reachBytes
theorem reach_eq : reachBytes = 140737488351232 := rfl
theorem bytes_openL {H : Type} {enc : TypeId × Value → H} {w : World} {base : Nat} {held : Bool} {fuel : Nat} {v : Value} {x : DataW H × List MemPlace}
    (h : DataW.trod enc Try.prog w base (fun _ => true) held fuel 24 [v] = some x) (hw : Light 24 x.1) : ∃ l, BytesAt w v l ∧ l.length ≤ 140737488355328 := by
  have hb : Try.prog.bytesOf 5 = 1 := by kernel_rfl
  rcases open_ints Try.underlying24 Try.underlying5 (by kernel_rfl) h with ⟨hcs, _⟩ | ⟨y, l, c, zs, hcs, _, hl, hm, hz, hx, hcell, hwz⟩
  · simp at hcs
    subst hcs
    exact ⟨[], BytesAt.none _, by simp⟩
  · simp at hcs
    subst hcs
    refine ⟨_, BytesAt.of_row hl hm (by simpa using hz) hcell hwz, ?_⟩
    subst hx
    have := hw _ (by simp only [DataW.weights, Try.underlying24]; exact List.mem_cons_self)
    simp [lits, hb, reach_eq] at this
    simp
    omega
theorem nums_openL {H : Type} {enc : TypeId × Value → H} {w : World} {base : Nat} {held : Bool} {fuel : Nat} {t e : TypeId} {k : IntKind} {v : Value} {x : DataW H × List MemPlace}
    (ht : Try.prog.underlying t = some (.slice e)) (he : Try.prog.underlying e = some (.int k)) (hc : Try.prog.cellsOf e = 1) (hb : 1 ≤ Try.prog.bytesOf e) (h : DataW.trod enc Try.prog w base (fun _ => true) held fuel t [v] = some x) (hw : Light t x.1) :
    ∃ l, NumsAt k w v l ∧ (∀ z ∈ l, (Lit.int k z).wf = true) ∧ l.length ≤ 140737488355328 := by
  rcases open_ints ht he hc h with ⟨hcs, _⟩ | ⟨a, len, cap, zs, hcs, _, hl, hm, hz, hx, hcell, hwf⟩
  · simp at hcs
    subst hcs
    exact ⟨[], NumsAt.nothing _ _, by simp, by simp⟩
  · simp at hcs
    subst hcs
    refine ⟨_, NumsAt.of_row hl hm (by simpa using hz) hcell, fun z hz' => hwf z (List.mem_of_mem_take hz'), ?_⟩
    subst hx
    have := hw _ (by simp only [DataW.weights, ht]; exact List.mem_cons_self)
    simp [lits, reach_eq] at this
    have h2 := Nat.mul_le_mul_left (min len zs.length + (zs.length - len)) hb
    simp
    omega
theorem pairs_openL {H : Type} {enc : TypeId × Value → H} {w : World} {base : Nat} {held : Bool} {fuel : Nat} {t e u2 : TypeId} {f0 f1 : Field} {v : Value} {x : DataW H × List MemPlace}
    (ht : Try.prog.underlying t = some (.slice e)) (he : Try.prog.underlying e = some (.struct #[f0, f1])) (h0 : Try.prog.underlying f0.type = some (.int .i64)) (h1 : Try.prog.underlying f1.type = some (.int .i64)) (ho : f0.offset = 0 ∧ f1.offset = 1 ∧ Try.prog.cellsOf f0.type = 1 ∧ Try.prog.cellsOf f1.type = 1) (hc : Try.prog.cellsOf e = 2) (hb : 1 ≤ Try.prog.bytesOf e)
    (h : DataW.trod enc Try.prog w base (fun _ => true) held fuel t [v] = some x) (hw : Light t x.1) : ∃ L, PairsAt w v L ∧ (∀ p ∈ L, W64 p.1 ∧ W64 p.2) ∧ L.length ≤ 140737488355328 := by
  rcases Go.Deep.open_slice ht h with ⟨hcs, _⟩ | ⟨a, len, cap, m, n, D, Pl, hcs, hb', hl, hm, hmm, hxx, hx⟩
  · simp at hcs
    subst hcs
    exact ⟨[], PairsAt.nil _, by simp, by simp⟩
  · simp at hcs
    subst hcs
    have hlm : len ≤ m := by rw [hmm]; split <;> omega
    rw [hc] at hx
    obtain ⟨q, hq⟩ := Go.Deep.choose_lt (α := Int × Int) (n := len) (p := fun i z => w.cell? (a.add (i * 2)) = some (.int .i64 z.1) ∧ w.cell? (a.add (i * 2 + 1)) = some (.int .i64 z.2) ∧ W64 z.1 ∧ W64 z.2) (fun i hi => by
      obtain ⟨cs', k1, k2⟩ := hx i (by omega)
      obtain ⟨_, hlen, hcell⟩ := World.cells?_some k1
      match cs', hlen with
      | [v0, v1], _ =>
        obtain ⟨y0, y1, fu, _, _, t0, t1⟩ := trod_struct2 he k2
        rw [ho.1, ho.2.2.1] at t0
        rw [ho.2.1, ho.2.2.2] at t1
        have t0' : DataW.trod enc Try.prog w base (fun _ => true) held fu f0.type [v0] = some y0 := by simpa using t0
        have t1' : DataW.trod enc Try.prog w base (fun _ => true) held fu f1.type [v1] = some y1 := by simpa using t1
        obtain ⟨k, e0, _, w0⟩ := DataW.trod_int h0 t0'
        obtain ⟨k', e1, _, w1⟩ := DataW.trod_int h1 t1'
        simp only [List.cons.injEq, and_true] at e0 e1
        subst e0 e1
        have r0 := hcell 0 (by omega)
        have r1 := hcell 1 (by omega)
        rw [Go.Deep.add_add] at r0 r1
        exact ⟨(k, k'), by simpa using r0, by simpa using r1, of_i64 w0, of_i64 w1⟩)
    refine ⟨(List.range len).map q, ⟨by simp; omega, some a, cap, by simp, ⟨by simpa using hl, fun e => by cases e⟩, hm, fun i p hp => ?_⟩, fun p hp => ?_, ?_⟩
    · have hi : i < len := by have := (List.getElem?_eq_some_iff.1 hp).1; simpa using this
      simp [hi] at hp
      subst hp
      obtain ⟨g0, g1, _⟩ := hq i hi
      obtain ⟨b, off, spot⟩ := a
      have hs : spot = none := by simpa [Addr.add] using World.cell?_spot (hq 0 (by omega)).1
      subst hs
      rw [add_plain] at g0 g1
      exact ⟨b, off, rfl, g0, g1⟩
    · obtain ⟨i, hi, rfl⟩ := List.mem_map.1 hp
      exact (hq i (List.mem_range.1 hi)).2.2
    · subst hxx
      have := hw _ (by simp only [DataW.weights, ht]; exact List.mem_cons_self)
      simp [reach_eq] at this
      have h2 := Nat.mul_le_mul_left (len + (m - len)) hb
      simp
      omega
theorem fieldT {H : Type} {enc : TypeId × Value → H} {w : World} {base : Nat} {held : Bool} {n : Nat} {cs : List Value} {xs : List (DataW H × List MemPlace)} {fs : Array Field}
    (hf : ∀ (i : Nat) (f : Field), fs[i]? = some f → DataW.trod enc Try.prog w base (fun _ => true) held n f.type ((cs.drop f.offset).take (Try.prog.cellsOf f.type)) = xs[i]?) (i t off k : Nat) (hfi : ∃ f, fs[i]? = some f ∧ f.type = t ∧ f.offset = off) (hk : Try.prog.cellsOf t = k) :
    DataW.trod enc Try.prog w base (fun _ => true) held n t ((cs.drop off).take k) = xs[i]? := by
  obtain ⟨f, h1, rfl, rfl⟩ := hfi
  have := hf i f h1
  rwa [hk] at this
theorem ck_open {H : Type} {enc : TypeId × Value → H} {w : World} {base : Nat} {held : Bool} {fuel : Nat} {cs : List Value} {x : DataW H × List MemPlace} (h22 : cs.length = 22)
    (h : DataW.trod enc Try.prog w base (fun _ => true) held fuel 32 cs = some x) (hw : Light 32 x.1) : ∃ c s, cs = (CV c s).toList ∧ CkAt w s c ∧ Fit c ∧ Lens c := by
  have k22 : Try.prog.cellsOf 22 = 1 := by kernel_rfl
  have k23 : Try.prog.cellsOf 23 = 1 := by kernel_rfl
  have k3 : Try.prog.cellsOf 3 = 1 := by kernel_rfl
  have k4 : Try.prog.cellsOf 4 = 1 := by kernel_rfl
  have kA : Try.prog.cellsOf 27 = 1 := by kernel_rfl
  have kB : Try.prog.cellsOf 24 = 1 := by kernel_rfl
  have kD : Try.prog.cellsOf 29 = 1 := by kernel_rfl
  have kG : Try.prog.cellsOf 28 = 1 := by kernel_rfl
  have kO : Try.prog.cellsOf 30 = 1 := by kernel_rfl
  have kP : Try.prog.cellsOf 26 = 7 := by kernel_rfl
  obtain ⟨xs, n, _, rfl, hl, hlen, hf⟩ := DataW.trod_struct Try.underlying32 h
  match xs, hlen, cs, h22 with
  | [y0, y1, y2, y3, y4, y5, y6, y7, y8, y9, y10, y11, y12, y13, y14, y15], _, [c0, c1, c2, c3, c4, c5, c6, c7, c8, c9, c10, c11, c12, c13, c14, c15, c16, c17, c18, c19, c20, c21], _ =>
    have hwe : ∀ n ∈ DataW.weightsEach Try.prog [3, 26, 22, 3, 3, 3, 22, 24, 27, 24, 28, 29, 3, 22, 30, 4] [y0.1, y1.1, y2.1, y3.1, y4.1, y5.1, y6.1, y7.1, y8.1, y9.1, y10.1, y11.1, y12.1, y13.1, y14.1, y15.1], n ≤ reachBytes := fun n hn => hw n (by simpa [DataW.weights, Try.underlying32] using hn)
    have t0 : DataW.trod enc Try.prog w base (fun _ => true) held n 3 [c0] = some y0 := by
      have := fieldT hf 0 3 0 1 ⟨_, rfl, rfl, rfl⟩ k3
      simpa using this
    have t1 : DataW.trod enc Try.prog w base (fun _ => true) held n 26 [c1, c2, c3, c4, c5, c6, c7] = some y1 := by
      have := fieldT hf 1 26 1 7 ⟨_, rfl, rfl, rfl⟩ kP
      simpa using this
    have t2 : DataW.trod enc Try.prog w base (fun _ => true) held n 22 [c8] = some y2 := by
      have := fieldT hf 2 22 8 1 ⟨_, rfl, rfl, rfl⟩ k22
      simpa using this
    have t3 : DataW.trod enc Try.prog w base (fun _ => true) held n 3 [c9] = some y3 := by
      have := fieldT hf 3 3 9 1 ⟨_, rfl, rfl, rfl⟩ k3
      simpa using this
    have t4 : DataW.trod enc Try.prog w base (fun _ => true) held n 3 [c10] = some y4 := by
      have := fieldT hf 4 3 10 1 ⟨_, rfl, rfl, rfl⟩ k3
      simpa using this
    have t5 : DataW.trod enc Try.prog w base (fun _ => true) held n 3 [c11] = some y5 := by
      have := fieldT hf 5 3 11 1 ⟨_, rfl, rfl, rfl⟩ k3
      simpa using this
    have t6 : DataW.trod enc Try.prog w base (fun _ => true) held n 22 [c12] = some y6 := by
      have := fieldT hf 6 22 12 1 ⟨_, rfl, rfl, rfl⟩ k22
      simpa using this
    have t7 : DataW.trod enc Try.prog w base (fun _ => true) held n 24 [c13] = some y7 := by
      have := fieldT hf 7 24 13 1 ⟨_, rfl, rfl, rfl⟩ kB
      simpa using this
    have t8 : DataW.trod enc Try.prog w base (fun _ => true) held n 27 [c14] = some y8 := by
      have := fieldT hf 8 27 14 1 ⟨_, rfl, rfl, rfl⟩ kA
      simpa using this
    have t9 : DataW.trod enc Try.prog w base (fun _ => true) held n 24 [c15] = some y9 := by
      have := fieldT hf 9 24 15 1 ⟨_, rfl, rfl, rfl⟩ kB
      simpa using this
    have t10 : DataW.trod enc Try.prog w base (fun _ => true) held n 28 [c16] = some y10 := by
      have := fieldT hf 10 28 16 1 ⟨_, rfl, rfl, rfl⟩ kG
      simpa using this
    have t11 : DataW.trod enc Try.prog w base (fun _ => true) held n 29 [c17] = some y11 := by
      have := fieldT hf 11 29 17 1 ⟨_, rfl, rfl, rfl⟩ kD
      simpa using this
    have t12 : DataW.trod enc Try.prog w base (fun _ => true) held n 3 [c18] = some y12 := by
      have := fieldT hf 12 3 18 1 ⟨_, rfl, rfl, rfl⟩ k3
      simpa using this
    have t13 : DataW.trod enc Try.prog w base (fun _ => true) held n 22 [c19] = some y13 := by
      have := fieldT hf 13 22 19 1 ⟨_, rfl, rfl, rfl⟩ k22
      simpa using this
    have t14 : DataW.trod enc Try.prog w base (fun _ => true) held n 30 [c20] = some y14 := by
      have := fieldT hf 14 30 20 1 ⟨_, rfl, rfl, rfl⟩ kO
      simpa using this
    have t15 : DataW.trod enc Try.prog w base (fun _ => true) held n 4 [c21] = some y15 := by
      have := fieldT hf 15 4 21 1 ⟨_, rfl, rfl, rfl⟩ k4
      simpa using this
    obtain ⟨zs, n1, _, hy1, hl1, hlen1, hf1⟩ := DataW.trod_struct Try.underlying26 t1
    match zs, hlen1 with
    | [z0, z1, z2, z3, z4, z5, z6], _ =>
      have hwp : ∀ n ∈ DataW.weightsEach Try.prog [22, 23, 23, 4, 4, 4, 24] [z0.1, z1.1, z2.1, z3.1, z4.1, z5.1, z6.1], n ≤ reachBytes := fun n hn => hwe n (DataW.weights_mem_each (j := 1) (t := 26) (d := y1.1) rfl rfl n (by rw [hy1]; simpa [DataW.weights, Try.underlying26] using hn))
      have q0 : DataW.trod enc Try.prog w base (fun _ => true) held n1 22 [c1] = some z0 := by
        have := fieldT hf1 0 22 0 1 ⟨_, rfl, rfl, rfl⟩ k22
        simpa using this
      have q1 : DataW.trod enc Try.prog w base (fun _ => true) held n1 23 [c2] = some z1 := by
        have := fieldT hf1 1 23 1 1 ⟨_, rfl, rfl, rfl⟩ k23
        simpa using this
      have q2 : DataW.trod enc Try.prog w base (fun _ => true) held n1 23 [c3] = some z2 := by
        have := fieldT hf1 2 23 2 1 ⟨_, rfl, rfl, rfl⟩ k23
        simpa using this
      have q3 : DataW.trod enc Try.prog w base (fun _ => true) held n1 4 [c4] = some z3 := by
        have := fieldT hf1 3 4 3 1 ⟨_, rfl, rfl, rfl⟩ k4
        simpa using this
      have q4 : DataW.trod enc Try.prog w base (fun _ => true) held n1 4 [c5] = some z4 := by
        have := fieldT hf1 4 4 4 1 ⟨_, rfl, rfl, rfl⟩ k4
        simpa using this
      have q5 : DataW.trod enc Try.prog w base (fun _ => true) held n1 4 [c6] = some z5 := by
        have := fieldT hf1 5 4 5 1 ⟨_, rfl, rfl, rfl⟩ k4
        simpa using this
      have q6 : DataW.trod enc Try.prog w base (fun _ => true) held n1 24 [c7] = some z6 := by
        have := fieldT hf1 6 24 6 1 ⟨_, rfl, rfl, rfl⟩ kB
        simpa using this
      obtain ⟨n_kind, e_kind, _, w_kind⟩ := DataW.trod_int Try.underlying3 t0
      obtain ⟨n_tag, e_tag, _, w_tag⟩ := DataW.trod_int Try.underlying22 t2
      obtain ⟨n_win, e_win, _, w_win⟩ := DataW.trod_int Try.underlying3 t3
      obtain ⟨n_out, e_out, _, w_out⟩ := DataW.trod_int Try.underlying3 t4
      obtain ⟨n_inn, e_inn, _, w_inn⟩ := DataW.trod_int Try.underlying3 t5
      obtain ⟨n_tsn, e_tsn, _, w_tsn⟩ := DataW.trod_int Try.underlying22 t6
      obtain ⟨n_rand, g_rand, b_rand⟩ := bytes_openL t7 (fun n hn => hwe n (DataW.weights_mem_each (j := 7) rfl rfl n hn))
      obtain ⟨a_rand, k_rand, f_rand, _⟩ := g_rand.form
      obtain ⟨n_addrs, g_addrs, v_addrs, b_addrs⟩ := nums_openL Try.underlying27 Try.underlying65 (by kernel_rfl) (by rw [show Try.prog.bytesOf 65 = 8 by kernel_rfl]; decide) t8 (fun n hn => hwe n (DataW.weights_mem_each (j := 8) rfl rfl n hn))
      obtain ⟨a_addrs, k_addrs, f_addrs, _⟩ := g_addrs.form
      obtain ⟨n_info, g_info, b_info⟩ := bytes_openL t9 (fun n hn => hwe n (DataW.weights_mem_each (j := 9) rfl rfl n hn))
      obtain ⟨a_info, k_info, f_info, _⟩ := g_info.form
      obtain ⟨n_gaps, g_gaps, v_gaps, b_gaps⟩ := pairs_openL (u2 := 0) Try.underlying28 Try.underlying70 Try.underlying3 Try.underlying3 ⟨rfl, rfl, by kernel_rfl, by kernel_rfl⟩ (by kernel_rfl) (by rw [show Try.prog.bytesOf 70 = 16 by kernel_rfl]; decide) t10 (fun n hn => hwe n (DataW.weights_mem_each (j := 10) rfl rfl n hn))
      obtain ⟨_, a_gaps, k_gaps, f_gaps, _⟩ := id g_gaps
      obtain ⟨n_dups, g_dups, v_dups, b_dups⟩ := nums_openL Try.underlying29 Try.underlying22 (by kernel_rfl) (by rw [show Try.prog.bytesOf 22 = 4 by kernel_rfl]; decide) t11 (fun n hn => hwe n (DataW.weights_mem_each (j := 11) rfl rfl n hn))
      obtain ⟨a_dups, k_dups, f_dups, _⟩ := g_dups.form
      obtain ⟨n_cause, e_cause, _, w_cause⟩ := DataW.trod_int Try.underlying3 t12
      obtain ⟨n_serial, e_serial, _, w_serial⟩ := DataW.trod_int Try.underlying22 t13
      obtain ⟨n_ops, g_ops, v_ops, b_ops⟩ := pairs_openL (u2 := 0) Try.underlying30 Try.underlying71 Try.underlying3 Try.underlying65 ⟨rfl, rfl, by kernel_rfl, by kernel_rfl⟩ (by kernel_rfl) (by rw [show Try.prog.bytesOf 71 = 16 by kernel_rfl]; decide) t14 (fun n hn => hwe n (DataW.weights_mem_each (j := 14) rfl rfl n hn))
      obtain ⟨_, a_ops, k_ops, f_ops, _⟩ := id g_ops
      obtain ⟨n_ok, e_ok, _⟩ := DataW.trod_bool Try.underlying4 t15
      obtain ⟨n_ptsn, e_ptsn, _, w_ptsn⟩ := DataW.trod_int Try.underlying22 q0
      obtain ⟨n_pstr, e_pstr, _, w_pstr⟩ := DataW.trod_int Try.underlying23 q1
      obtain ⟨n_pseq, e_pseq, _, w_pseq⟩ := DataW.trod_int Try.underlying23 q2
      obtain ⟨n_pb, e_pb, _⟩ := DataW.trod_bool Try.underlying4 q3
      obtain ⟨n_pe, e_pe, _⟩ := DataW.trod_bool Try.underlying4 q4
      obtain ⟨n_pu, e_pu, _⟩ := DataW.trod_bool Try.underlying4 q5
      obtain ⟨n_text, g_text, b_text⟩ := bytes_openL q6 (fun n hn => hwp n (DataW.weights_mem_each (j := 6) rfl rfl n hn))
      obtain ⟨a_text, k_text, f_text, _⟩ := g_text.form
      simp only [List.cons.injEq, and_true] at e_kind e_tag e_win e_out e_inn e_tsn e_cause e_serial e_ok e_ptsn e_pstr e_pseq e_pb e_pe e_pu
      subst e_kind e_tag e_win e_out e_inn e_tsn f_rand f_addrs f_info f_gaps f_dups e_cause e_serial f_ops e_ok e_ptsn e_pstr e_pseq e_pb e_pe e_pu f_text
      have r_tag := of_u32 w_tag
      have r_tsn := of_u32 w_tsn
      have r_serial := of_u32 w_serial
      have r_ptsn := of_u32 w_ptsn
      have r_pstr := of_u16 w_pstr
      have r_pseq := of_u16 w_pseq
      have hd : ci (n_dups.map Int.toNat) = n_dups := by
        unfold ci
        rw [List.map_map]
        refine (List.map_congr_left (fun y hy => ?_)).trans (List.map_id _)
        have := of_u32 (v_dups y hy)
        simp only [Function.comp_apply, id_eq]; omega
      refine ⟨{ kind := n_kind, ptsn := n_ptsn.toNat, pstr := n_pstr.toNat, pseq := n_pseq.toNat, pb := n_pb, pe := n_pe, pu := n_pu, text := n_text, tag := n_tag.toNat, win := n_win, out := n_out, inn := n_inn, tsn := n_tsn.toNat, rand := n_rand, addrs := n_addrs, info := n_info, gaps := n_gaps, dups := n_dups.map Int.toNat, cause := n_cause, serial := n_serial.toNat, ops := n_ops, ok := n_ok }, { tA := a_text, tN := n_text.length, tC := k_text, rA := a_rand, rN := n_rand.length, rC := k_rand, aA := a_addrs, aN := n_addrs.length, aC := k_addrs, iA := a_info, iN := n_info.length, iC := k_info, gA := a_gaps, gN := n_gaps.length, gC := k_gaps, dA := a_dups, dN := n_dups.length, dC := k_dups, oA := a_ops, oN := n_ops.length, oC := k_ops }, ?_, ⟨g_text, g_rand, g_addrs, g_info, g_gaps, by rw [hd]; exact g_dups, g_ops⟩, ⟨of_i64 w_kind, show n_ptsn.toNat < 4294967296 by omega, show n_pstr.toNat < 65536 by omega, show n_pseq.toNat < 65536 by omega, show n_tag.toNat < 4294967296 by omega, of_i64 w_win, of_i64 w_out, of_i64 w_inn, show n_tsn.toNat < 4294967296 by omega, of_i64 w_cause, show n_serial.toNat < 4294967296 by omega, fun y hy => of_i64 (v_addrs y hy), v_gaps, fun y hy => ?_, v_ops⟩, ⟨b_text, b_rand, b_addrs, b_info, b_gaps, by simpa using b_dups, b_ops⟩⟩
      · simp only [CV]
        rw [show ((n_ptsn.toNat : Nat) : Int) = n_ptsn by omega, show ((n_pstr.toNat : Nat) : Int) = n_pstr by omega, show ((n_pseq.toNat : Nat) : Int) = n_pseq by omega, show ((n_tag.toNat : Nat) : Int) = n_tag by omega, show ((n_tsn.toNat : Nat) : Int) = n_tsn by omega, show ((n_serial.toNat : Nat) : Int) = n_serial by omega]
      · obtain ⟨z, hz, rfl⟩ := List.mem_map.1 hy
        have := of_u32 (v_dups z hz)
        omega
end Tlv
end Go.Proofs.Ytobkgaceallegaa

namespace Go.Proofs.Ytobkgaceallegaa
open Go.ChangeShapes Go.WideShapes Go.ChangeAt Go.RowKit
open Go.ChangeMaps (open_string shut_string)
set_option linter.unusedVariables false
set_option linter.unusedSimpArgs false

theorem chunkCopiesOwn : ownKnob Try.prog.godebug = none := by kernel_rfl
theorem chunkCopiesLaidOut : laidOutB Try.prog = true := by kernel_rfl
set_option maxRecDepth 100000 in
theorem chunkCopiesLifted (os : Os) (started : os.Started) (H : Type) (enc : TypeId × Value → H) :
    ReturnsInHanded {} Try.checked os 6 .any (Rows.chunkCopiesSpec.pre6 enc Try.prog Try.f6 Rows.chunkCopiesRow.domain false) (Rows.chunkCopiesSpec.post enc Try.prog Try.f6 false true false false) := by
  refine returnsInHanded_of_change_sized (C := Try.checked) chunkCopiesOwn started (by kernel_rfl) Try.func6
    (ChangeSpec.witness6 (enc := enc) (C := Try.checked) false ⟨#[], #[.agg (Tlv.CV (Tlv.ck0 0) Tlv.sv0), .agg (Tlv.CV (Tlv.ck0 0) Tlv.sv0)], []⟩ 8 (by kernel_rfl) (by kernel_rfl) (by kernel_rfl) (by kernel_rfl)) ?_
  intro W base args ds gs before hval0 hW hcnd hsz _
  have hval : ∀ (j : Nat) t v, Try.f6.params[j]? = some t → args[j]? = some v → Value.okWide Try.prog W .any base t v := hval0
  have hW' := hW
  obtain ⟨p, q, hA0, hV, rfl, hfz, hnd⟩ := hW
  have hA : DataW.TrodAll enc Try.prog W 0 (fun _ => true) true Try.f6.params.toList args.toList ds p := hA0
  rw [Try.params6] at hA hval hsz
  obtain ⟨v0, vs0, d0, ds0, p0, q0, hargs, rfl, rfl, h0, r0⟩ := trodAll_cons hA
  obtain ⟨v1, vs1, d1, ds1, p1, q1, rfl, rfl, rfl, h1, r1⟩ := trodAll_cons r0
  obtain ⟨rfl, rfl, rfl⟩ := trodAll_nil r1
  obtain rfl : args = #[v0, v1] := by cases args; simp_all
  obtain ⟨rfl, rfl⟩ := trodVars_none hV
  have k0 := h0
  have lt0 : ∀ x ∈ p0, x.block < W.heap.size := by obtain ⟨m, hm⟩ := k0; exact DataW.trod_lt m _ _ _ hm
  obtain ⟨cs0, rfl, hz0⟩ := okWide_struct Try.underlying32 (hval 0 32 v0 rfl rfl)
  obtain ⟨c0, s0, hc0, hk0, hf0, hn0⟩ : ∃ c s, cs0 = Tlv.CV c s ∧ Tlv.CkAt W s c ∧ Tlv.Fit c ∧ Tlv.Lens c := by
    obtain ⟨fu, hfu⟩ := h0
    have hz : cs0.toList.length = 22 := by rw [Array.length_toList, hz0]; kernel_rfl
    obtain ⟨c, s, e, a, b, d⟩ := Tlv.ck_open hz (by simpa [Value.cells] using hfu) (fun n hn => of_decide_eq_true (List.all_eq_true.1 hsz _ (DataW.weights_mem_each (j := 0) (t := 32) rfl rfl n hn)))
    exact ⟨c, s, Array.toList_inj.1 e, a, b, d⟩
  subst hc0
  have k1 := h1
  have lt1 : ∀ x ∈ p1, x.block < W.heap.size := by obtain ⟨m, hm⟩ := k1; exact DataW.trod_lt m _ _ _ hm
  obtain ⟨cs1, rfl, hz1⟩ := okWide_struct Try.underlying32 (hval 1 32 v1 rfl rfl)
  obtain ⟨c1, s1, hc1, hk1, hf1, hn1⟩ : ∃ c s, cs1 = Tlv.CV c s ∧ Tlv.CkAt W s c ∧ Tlv.Fit c ∧ Tlv.Lens c := by
    obtain ⟨fu, hfu⟩ := h1
    have hz : cs1.toList.length = 22 := by rw [Array.length_toList, hz1]; kernel_rfl
    obtain ⟨c, s, e, a, b, d⟩ := Tlv.ck_open hz (by simpa [Value.cells] using hfu) (fun n hn => of_decide_eq_true (List.all_eq_true.1 hsz _ (DataW.weights_mem_each (j := 1) (t := 32) rfl rfl n hn)))
    exact ⟨c, s, Array.toList_inj.1 e, a, b, d⟩
  subst hc1
  clear hA0 hval0
  refine (Tlv.copies_walk hk0 hk1 hn0 hn1).mono fun e W' ⟨he, bel⟩ => ?_
  subst he
  exact ⟨_, rfl, _, _, _, [], _, [], hW', trodAll_mk1 (shut_bool Try.underlying4 _), (trodAll_cons_mk (Below.trod chunkCopiesLaidOut (by kernel_rfl) (of_decide_eq_true (by kernel_rfl)) k0 bel lt0) (trodAll_cons_mk (Below.trod chunkCopiesLaidOut (by kernel_rfl) (of_decide_eq_true (by kernel_rfl)) k1 bel lt1) (trodAll_mk0))), rfl, bel.frame _, fun h => by cases h⟩

theorem chunkCopiesOver : Rows.chunkCopiesRow.holds Try.pinned (OpenSpec.ofChange Rows.chunkCopiesSpec) :=
  OpenClaim.holds_of_wide 6 Try.f6 rfl rfl rfl rfl rfl rfl rfl ⟨rfl, rfl, rfl, rfl, rfl⟩ rfl rfl rfl rfl rfl (by kernel_rfl) Try.func6 (by kernel_rfl)
    (of_decide_eq_true (by kernel_rfl)) (by unfold Func.isWrapper; first | (rw [if_pos (by decide +kernel)]; kernel_rfl) | (rw [if_neg (by decide +kernel)]; exact ⟨rfl, rfl⟩))
    (fun os started H enc _ => chunkCopiesLifted os started H enc)

/-- THE STATEMENT. -/
theorem chunkCopies_holds : Rows.ChunkCopiesSaid := chunkCopiesOver
#print axioms chunkCopies_holds
end Go.Proofs.Ytobkgaceallegaa
