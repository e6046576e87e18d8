/- Texts of the seat, one behind the other. No condition of its own. -/
import Derived.Test.YtfhoielfekeihaaDoorMgM7
/- Bytes opened to a cookie, by the program. Condition: the tables hold what the text lays. -/
namespace Go.Proofs.YtfhoielfekeihaaDoor
namespace Tlv
open Go Go.RowKit
set_option linter.unusedVariables false
set_option linter.unusedSimpArgs false
set_option maxRecDepth 100000



theorem wl_buildC {w : World} {ops : Array Oper} {rest : List Oper} {o : Oper} {a : Act} {Q : Exit → Act → World → Prop} (hgd : o.guard = none) {t : TypeId} {parts : Array (Nat × Operand)} {vals : List (Nat × Value)} {cells : Array Value} (ho : o.op = .build t parts)
    (hv : (parts.map fun (i, x) => (i, a.eval x)).toList = vals) (hc : Tryd.prog.built t vals = some cells) (h : wpList Tryd.prog ops Q rest (a.put o.dst (.agg cells)) w) : wpList Tryd.prog ops Q (o :: rest) a w := by
  refine wpList_of_run hgd (v := .agg cells) ?_ h
  have := run_build (P := Tryd.prog) w t (parts.map fun (i, x) => (i, a.eval x)) cells (by rw [hv]; exact hc)
  simp [execOp, ho, this]
theorem builtZ : Tryd.prog.built 29 [] = some (KV co0 so0) := by kernel_rfl
theorem res_two9 {fn : Func} {p u : Tmp} {ty g t : Nat} {cs : Array Value} {fs : Array Field} {x : Value} (h : fn.results = #[.cell p ty, .tmp u]) (tmps : Array Value) (w : World) (hp : tmps.getD p undef = .pointer (some ⟨g, 0, none⟩)) (hx : tmps.getD u undef = x) (hg : Blk w g cs t) (hu : Tryd.prog.underlying ty = some (.struct fs)) (hi : (Tryd.prog.info? ty).map (·.size) = some cs.size) :
    (results fn tmps).run Tryd.prog w = .ok (.tuple #[.agg cs, x]) w := by
  rw [results_cell_tmp h, hp, hx]
  have := run_loadVar_row (P := Tryd.prog) w g t ty cs (0, 0) _ hg hu rfl hi
  simp [asAddr, this]
def bodyB (B : List Nat) : List Nat := B.take (B.length - 32)
def sealB (B : List Nat) : List Nat := B.drop (B.length - 32)
theorem errT : Tryd.prog.underlying 32 = some (.interface (Tryd.prog.methodsAt 32)) := by kernel_rfl
theorem exec_neqE {r : Operand → Value} {o : Oper} {x : Operand} {tt : TypeId} {w : World} {n : Int} (ho : o.op = .binOp .neq 32 x (.const .nilIface) tt) (hx : r x = .iface 39 (.int .i64 n)) (hc : r (.const .nilIface) = .nilIface) : (execOp r o).run Tryd.prog w = .ok (.value (.bool true)) w := by
  have h2 := run_neq_held_nil (P := Tryd.prog) w 32 39 (.int .i64 n) errT
  simp [execOp, ho, hx, hc, h2, eqGuard, go_sem]
theorem exec_neq0 {r : Operand → Value} {o : Oper} {x : Operand} {tt : TypeId} {w : World} (ho : o.op = .binOp .neq 32 x (.const .nilIface) tt) (hx : r x = .nilIface) (hc : r (.const .nilIface) = .nilIface) : (execOp r o).run Tryd.prog w = .ok (.value (.bool false)) w := by
  have h2 := run_neq_nil_nil (P := Tryd.prog) w 32 errT
  cases x <;> simp [execOp, ho, hx, hc, h2, eqGuard, go_sem]
theorem exec_eqlE {r : Operand → Value} {o : Oper} {x : Operand} {tt : TypeId} {w : World} {n : Int} (ho : o.op = .binOp .eql 32 x (.const .nilIface) tt) (hx : r x = .iface 39 (.int .i64 n)) (hc : r (.const .nilIface) = .nilIface) : (execOp r o).run Tryd.prog w = .ok (.value (.bool false)) w := by
  have h2 := run_eql_held_nil (P := Tryd.prog) w 32 39 (.int .i64 n) errT
  simp [execOp, ho, hx, hc, h2, eqGuard, go_sem]
theorem exec_eql0 {r : Operand → Value} {o : Oper} {x : Operand} {tt : TypeId} {w : World} (ho : o.op = .binOp .eql 32 x (.const .nilIface) tt) (hx : r x = .nilIface) (hc : r (.const .nilIface) = .nilIface) : (execOp r o).run Tryd.prog w = .ok (.value (.bool true)) w := by
  have h2 := run_eql_nil_nil (P := Tryd.prog) w 32 errT
  cases x <;> simp [execOp, ho, hx, hc, h2, eqGuard, go_sem]
theorem slice0 (a : Option Addr) (k c : Nat) : sliced a 0 k c 1 = .slice a k c := by
  unfold sliced
  cases a with
  | none => simp
  | some x => simp [Addr.add]
/-- The error's number; the cookie. -/
def openE (K B : List Nat) (now : Int) : Int := if B.length < 32 then 15 else if ¬ sealB B = Mac.tag K (bodyB B) then 15 else if endK (bodyB B) = false then 2 else if goodK (readK (bodyB B)) = false then 2 else if 0 < lateK (readK (bodyB B)) now then 8 else 0
def openC (K B : List Nat) (now : Int) : Co := if openE K B now = 0 then readK (bodyB B) else co0
def errV (n : Int) : Value := if n = 0 then .nilIface else .iface 39 (.int .i64 n)
theorem openE_15 {K B : List Nat} {now : Int} (h : B.length < 32 ∨ ¬ sealB B = Mac.tag K (bodyB B)) : openE K B now = 15 := by
  unfold openE
  by_cases h1 : B.length < 32
  · rw [if_pos h1]
  · rw [if_neg h1, if_pos (h.resolve_left h1)]
theorem openE_in {K B : List Nat} {now : Int} (h1 : ¬ B.length < 32) (h2 : sealB B = Mac.tag K (bodyB B)) : openE K B now = if endK (bodyB B) = false then 2 else if goodK (readK (bodyB B)) = false then 2 else if 0 < lateK (readK (bodyB B)) now then 8 else 0 := by
  unfold openE
  rw [if_neg h1, if_neg (fun h => h h2)]
theorem openC_no {K B : List Nat} {now : Int} (h : openE K B now ≠ 0) : openC K B now = co0 := if_neg h
theorem openC_yes {K B : List Nat} {now : Int} (h : openE K B now = 0) : openC K B now = readK (bodyB B) := if_pos h
/-- What Open answers. -/
def OpenIs (w : World) (K B : List Nat) (now : Int) (e : Ending) (w' : World) : Prop := Ext w w' ∧ ∃ s, e = .returned (.tuple #[.agg (KV (openC K B now) s), errV (openE K B now)]) ∧ OwnK w' w.heap.size s (openC K B now)
theorem OpenIs.err {w w' : World} {K B : List Nat} {now n : Int} (he : Ext w w') (h : openE K B now = n) (hn : n ≠ 0) : OpenIs w K B now (.returned (.tuple #[.agg (KV co0 so0), .iface 39 (.int .i64 n)])) w' := by
  refine ⟨he, so0, ?_, ?_⟩
  · rw [openC_no (by rw [h]; exact hn), h]
    unfold errV
    rw [if_neg hn]
  · rw [openC_no (by rw [h]; exact hn)]
    exact OwnK.nil _ _
set_option maxHeartbeats 16000000 in
theorem open_any {w : World} {kv bv : Value} {K B : List Nat} {now : Int} (hT : Tabs w) (hk : BytesAt w kv K) (hb : BytesAt w bv B) (hlK : K.length ≤ 90000) (hlB : B.length ≤ 70000) (hnow : W64 now) :
    Calls Tryd.prog 17 #[kv, bv, .int .i64 now] w (OpenIs w K B now) := by
  have HX : Hid (Tabs w ∧ BytesAt w kv K ∧ BytesAt w bv B ∧ K.length ≤ 90000 ∧ B.length ≤ 70000 ∧ W64 now) := ⟨hT, hk, hb, hlK, hlB, hnow⟩
  obtain ⟨ka, kc, rfl, _, _⟩ := hk.form
  obtain ⟨ba, bc, rfl, hbc, _⟩ := hb.form
  rename_i z1 z2 z3
  have HBC : Hid (B.length ≤ bc) := hbc.1
  have HAB : Hid (AllB B) := hb.1
  clear z1 z2 z3 hT hk hb hbc hnow
  by_cases hsh : B.length < 32
  · obtain ⟨x, hx⟩ : ∃ x : Int, x = (B.length : Int) - 32 := ⟨_, rfl⟩
    have hw : IntKind.i64.wrap ((B.length : Int) - 32) = x := by rw [IntKind.wrap_i64, hx]; omega
    have hw2 : (B.length : Int) - 32 = x := hx.symm
    have hx0 : decide (x < 0) = true := decide_eq_true (by omega)
    have hxw : IntKind.i64.wrap x = x := by rw [IntKind.wrap_i64]; omega
    have hxv : wrap64 x = x := by unfold wrap64; omega
    have HE : Hid (openE K B now = 15) := openE_15 (.inl hsh)
    clear hx hsh hlK hlB
    go_enter Tryd.func17, Tryd.ntmps17
    go_wp2_with (first
      | (refine wl_alloc rfl rfl zeroC ?_; intro w1 hb1 he1 hx; clear hx))
    go_quiet (fail)
    have hb2 := hb1.ext (Ext.drewN w1 nq)
    have he2 := he1.trans (Ext.drewN w1 nq)
    clear hb1 he1
    go_wp2_with (first
      | (refine wl_buildC rfl rfl (vals := []) rfl builtZ ?_)
      | (refine wl_store (D := KV co0 so0) rfl rowC rfl rfl rfl hb2 rfl rfl (KV.one _ _) ?_; intro w9 hb9 hk9 hx9; clear hx9))
    refine bodyPost_ret (res_two9 (fn := Tryd.f17) (p := 6) (u := 7) rfl _ _ rfl rfl hb9 Tryd.underlying29 (by kernel_rfl)) rfl ?_
    exact OpenIs.err (he2.of_but hk9 (fun k e => by subst e; exact Nat.le_refl _)) HE.out (by decide)
  · obtain ⟨E, hEE⟩ : ∃ E, E = B.length - 32 := ⟨_, rfl⟩
    have HEE : Hid (bodyB B = B.take E ∧ sealB B = B.drop E ∧ E + 32 = B.length) := ⟨by rw [hEE]; rfl, by rw [hEE]; rfl, by omega⟩
    have HEn : Hid (E ≤ B.length) := show E ≤ _ by omega
    have HEc : Hid (E ≤ bc) := Nat.le_trans HEn.out HBC.out
    have hw : IntKind.i64.wrap ((B.length : Int) - 32) = (E : Int) := by rw [IntKind.wrap_i64]; omega
    have hw2 : (B.length : Int) - 32 = (E : Int) := by omega
    have hw3 : wrap64 (E : Int) = (E : Int) := by unfold wrap64; omega
    have hw4 : IntKind.i64.wrap (E : Int) = (E : Int) := by rw [IntKind.wrap_i64]; omega
    have hE0 : ¬ (E : Int) < 0 := by omega
    have HL : Hid (K.length ≤ 90000 ∧ (B.take E).length ≤ 80000) := ⟨hlK, by rw [List.length_take]; omega⟩
    have HNS : Hid (¬ B.length < 32) := hsh
    have hEb : (E : Int) ≤ (bc : Int) := by have := HEc.out; omega
    obtain ⟨R, hRR⟩ : ∃ R, R = decide (B.drop E = Mac.tag K (B.take E)) := ⟨_, rfl⟩
    have HRR : Hid (R = decide (B.drop E = Mac.tag K (B.take E))) := hRR
    clear hRR hEE hsh hlK hlB
    go_enter Tryd.func17, Tryd.ntmps17
    go_wp2_with (first
      | (refine wl_alloc rfl rfl zeroC ?_; intro w1 hb1 he1 hx; clear hx))
    have HB1 : Hid (Blk w1 w.heap.size (KV co0 so0) 29 ∧ Ext w w1) := ⟨hb1, he1⟩
    clear hb1 he1
    have HTx : ∀ {wx : World}, Ext w1.drew wx → Tabs wx := fun hx => HX.out.1.ext (HB1.out.2.trans ((Ext.drew _).trans hx))
    have HKx : ∀ {wx : World}, Ext w1.drew wx → BytesAt wx (.slice ka K.length kc) K := fun hx => HX.out.2.1.ext (HB1.out.2.trans ((Ext.drew _).trans hx))
    have HBx : ∀ {wx : World}, Ext w1.drew wx → BytesAt wx (.slice ba B.length bc) B := fun hx => HX.out.2.2.1.ext (HB1.out.2.trans ((Ext.drew _).trans hx))
    refine wp_region_facts (fun t => bif Nat.ble 14 t && Nat.ble t 27 then some (t - 14) else none) 53 Ext
      [Is (.int .i64 (E : Nat)),
       Is (.bool false),
       Is (.bool false),
       Is (.slice ba B.length bc),
       Is (.int .i64 (E : Nat)),
       (fun wx v => BytesAt wx v (B.drop E)),
       Is (.slice ka K.length kc),
       Is (.slice ba B.length bc),
       Is (.int .i64 (E : Nat)),
       (fun wx v => BytesAt wx v (B.take E)),
       (fun wx v => PartsOf wx v [B.take E]),
       Is (.bool R),
       Is (.bool (!R)),
       Is (.bool (!R))]
      rfl (by kernel_rfl) (by kernel_rfl) rfl Ext.refl (fun _ _ _ => Ext.trans) ?_ ?_ ?_
    · exact KeepAll.is (KeepAll.is (KeepAll.is (KeepAll.is (KeepAll.is (KeepAll.cons (fun _ _ _ hr h => BytesAt.ext h hr) (KeepAll.is (KeepAll.is (KeepAll.is (KeepAll.cons (fun _ _ _ hr h => BytesAt.ext h hr) (KeepAll.cons (fun _ _ _ hr h => PartsOf.ext h hr) (KeepAll.is (KeepAll.is (KeepAll.is (KeepAll.nil))))))))))))))
    · refine GoodAll.cons ?_ ?_
      · intro r wx hR hx
        obtain ⟨h1, _⟩ := hx
        replace h1 : r (.tmp 8) = (.int .i64 (E : Nat)) := h1
        exact give_move (.inl rfl) ⟨Ext.refl _, h1⟩
      refine GoodAll.cons ?_ ?_
      · intro r wx hR hx
        obtain ⟨h1, h2, _⟩ := hx
        replace h1 : r (.tmp 14) = (.int .i64 (E : Nat)) := h1
        replace h2 : r (.const (.int .i64 0)) = .int .i64 0 := h2
        exact give_of (by simp [execOp, h1, h2, go_sem, hE0]; done) ⟨Ext.refl _, rfl⟩
      refine GoodAll.cons ?_ ?_
      · intro r wx hR hx
        obtain ⟨h1, _⟩ := hx
        replace h1 : r (.tmp 15) = (.bool false) := h1
        exact give_move (.inl rfl) ⟨Ext.refl _, h1⟩
      refine GoodAll.cons ?_ ?_
      · intro r wx hR hx
        obtain ⟨h1, _⟩ := hx
        replace h1 : r (.tmp 1) = (.slice ba B.length bc) := h1
        intro gb hgb
        refine guard_in (b := gb) (want := false) hgb ?_
        exact give_move (.inl rfl) ⟨Ext.refl _, h1⟩
      refine GoodAll.cons ?_ ?_
      · intro r wx hR hx
        obtain ⟨h1, _⟩ := hx
        replace h1 : r (.tmp 8) = (.int .i64 (E : Nat)) := h1
        intro gb hgb
        refine guard_in (b := gb) (want := false) hgb ?_
        exact give_move (.inl rfl) ⟨Ext.refl _, h1⟩
      refine GoodAll.cons ?_ ?_
      · intro r wx hR hx
        obtain ⟨h1, h2, _⟩ := hx
        replace h1 : r (.tmp 17) = (.slice ba B.length bc) := h1
        replace h2 : r (.tmp 18) = (.int .i64 (E : Nat)) := h2
        intro gb hgb
        refine guard_in (b := gb) (want := false) hgb ?_
        refine give_of (exec_slice_l byteT rfl wx _ _ bc E _ h1 h2 HEn.out) ⟨Ext.refl _, ?_⟩
        have hX := (HBx hR).sliced E B.length HEn.out (Nat.le_refl _)
        rw [List.take_length] at hX
        exact hX
      refine GoodAll.cons ?_ ?_
      · intro r wx hR hx
        obtain ⟨h1, _⟩ := hx
        replace h1 : r (.tmp 0) = (.slice ka K.length kc) := h1
        intro gb hgb
        refine guard_in (b := gb) (want := false) hgb ?_
        exact give_move (.inl rfl) ⟨Ext.refl _, h1⟩
      refine GoodAll.cons ?_ ?_
      · intro r wx hR hx
        obtain ⟨h1, _⟩ := hx
        replace h1 : r (.tmp 1) = (.slice ba B.length bc) := h1
        intro gb hgb
        refine guard_in (b := gb) (want := false) hgb ?_
        exact give_move (.inl rfl) ⟨Ext.refl _, h1⟩
      refine GoodAll.cons ?_ ?_
      · intro r wx hR hx
        obtain ⟨h1, _⟩ := hx
        replace h1 : r (.tmp 8) = (.int .i64 (E : Nat)) := h1
        intro gb hgb
        refine guard_in (b := gb) (want := false) hgb ?_
        exact give_move (.inl rfl) ⟨Ext.refl _, h1⟩
      refine GoodAll.cons ?_ ?_
      · intro r wx hR hx
        obtain ⟨h1, h2, _⟩ := hx
        replace h1 : r (.tmp 21) = (.slice ba B.length bc) := h1
        replace h2 : r (.tmp 22) = (.int .i64 (E : Nat)) := h2
        intro gb hgb
        refine guard_in (b := gb) (want := false) hgb ?_
        refine give_of (exec_slice_h byteT rfl wx _ _ bc E _ h1 h2 HEc.out) ⟨Ext.refl _, ?_⟩
        have hX := (HBx hR).sliced 0 E (Nat.zero_le _) HEn.out
        rw [List.drop_zero] at hX
        exact hX
      refine GoodAll.cons ?_ ?_
      · intro r wx hR hx
        obtain ⟨h1, _⟩ := hx
        replace h1 : ((fun wx v => BytesAt wx v (B.take E)) : Fact) wx (r (.tmp 23)) := h1
        intro gb hgb
        refine guard_in (b := gb) (want := false) hgb ?_
        obtain ⟨ya, yc, ye, _⟩ := h1.form
        refine give_of (v := .slice (some ⟨wx.heap.size, 0, none⟩) 1 1) (w' := wx.alloc (.cells #[.slice ya (B.take E).length yc] 22)) (by simp only [execOp]; simp [ye, go_sem]) ⟨Ext.alloc _ _, PartsOf.one wx _ rfl (by rw [← ye]; exact h1)⟩
      refine GoodAll.cons ?_ ?_
      · intro r wx hR hx
        obtain ⟨h1, h2, h3, h4, _⟩ := hx
        replace h1 : r (.func 30) = .func (.func 30) #[] #[] := h1
        replace h2 : ((fun wx v => BytesAt wx v (B.drop E)) : Fact) wx (r (.tmp 19)) := h2
        replace h3 : r (.tmp 20) = (.slice ka K.length kc) := h3
        replace h4 : ((fun wx v => PartsOf wx v [B.take E]) : Fact) wx (r (.tmp 24)) := h4
        intro gb hgb
        refine guard_in (b := gb) (want := false) hgb ?_
        refine give_func #[r (.tmp 19), .slice ka K.length kc, r (.tmp 24)] rfl h1 Tryd.call30 (by simp [h3]) ?_
        refine (check_any (HTx hR) h2 (HKx hR) h4 HL.out.1 (by simpa using HL.out.2)).mono ?_
        rintro e w' ⟨rfl, he⟩
        exact ⟨_, rfl, he, by rw [show [B.take E].flatten = B.take E by simp, ← HRR.out]; rfl⟩
      refine GoodAll.cons ?_ ?_
      · intro r wx hR hx
        obtain ⟨h1, _⟩ := hx
        replace h1 : r (.tmp 25) = (.bool R) := h1
        intro gb hgb
        refine guard_in (b := gb) (want := false) hgb ?_
        exact give_of (by simp [execOp, h1, go_sem]) ⟨Ext.refl _, rfl⟩
      refine GoodAll.cons ?_ ?_
      · intro r wx hR hx
        obtain ⟨h1, h2, h3, _⟩ := hx
        replace h1 : r (.tmp 16) = (.bool false) := h1
        replace h2 : r (.const (.bool true)) = .bool true := h2
        replace h3 : r (.tmp 26) = (.bool (!R)) := h3
        exact give_pickF rfl h1 ⟨Ext.refl _, h3⟩
      exact GoodAll.nil
    · intro vs w7 aY hR7 hold ha
      have hv0 : vs 0 = (.int .i64 (E : Nat)) := hold.at 0
      have hv1 : vs 1 = (.bool false) := hold.at 1
      have hv2 : vs 2 = (.bool false) := hold.at 2
      have hv3 : vs 3 = (.slice ba B.length bc) := hold.at 3
      have hv4 : vs 4 = (.int .i64 (E : Nat)) := hold.at 4
      have hv6 : vs 6 = (.slice ka K.length kc) := hold.at 6
      have hv7 : vs 7 = (.slice ba B.length bc) := hold.at 7
      have hv8 : vs 8 = (.int .i64 (E : Nat)) := hold.at 8
      have hv11 : vs 11 = (.bool R) := hold.at 11
      have hv12 : vs 12 = (.bool (!R)) := hold.at 12
      have hv13 : vs 13 = (.bool (!R)) := hold.at 13
      simp only [putAll, Act.put, hv0, hv1, hv2, hv3, hv4, hv6, hv7, hv8, hv11, hv12, hv13, List.setIfInBounds_toArray, List.set_cons_succ, List.set_cons_zero] at ha
      subst ha
      have HE7 : Hid (Ext w1 w7) := (Ext.drew _).trans hR7
      have hb7 := HB1.out.1.ext HE7.out
      have he7 := HB1.out.2.trans HE7.out
      have HBW : Hid (BytesAt w7 (.slice ba E bc) (bodyB B)) := show BytesAt _ _ _ by
        have hX := (HBx hR7).sliced 0 E (Nat.zero_le _) HEn.out
        rw [List.drop_zero, slice0] at hX
        rw [HEE.out.1]; exact hX
      clear hold HTx HKx HBx hv0 hv1 hv2 hv3 hv4 hv6 hv7 hv8 hv11 hv12 hv13
      refine ‹∀ (a : Act) (w : World), Code.wp Tryd.prog _ _ a w → _› _ _ ?_
      cases R with
      | false =>
        have HE : Hid (openE K B now = 15) := openE_15 (.inr (by rw [HEE.out.1, HEE.out.2.1]; exact of_decide_eq_false HRR.out.symm))
        go_wp2_with (first
          | (refine wl_buildC rfl rfl (vals := []) rfl builtZ ?_)
          | (refine wl_store (D := KV co0 so0) rfl rowC rfl rfl rfl hb7 rfl rfl (KV.one _ _) ?_; intro w9 hb9 hk9 hx9; clear hx9))
        refine bodyPost_ret (res_two9 (fn := Tryd.f17) (p := 6) (u := 7) rfl _ _ rfl rfl hb9 Tryd.underlying29 (by kernel_rfl)) rfl ?_
        exact OpenIs.err (he7.of_but hk9 (fun k e => by subst e; exact Nat.le_refl _)) HE.out (by decide)
      | true =>
        have HIN : Hid (sealB B = Mac.tag K (bodyB B)) := show _ = _ by rw [HEE.out.1, HEE.out.2.1]; exact of_decide_eq_true HRR.out.symm
        have HOE := openE_in (now := now) HNS.out HIN.out
        have HAY : Hid (AllB (bodyB B)) := HAB.out.take _
        have HLY : Hid ((bodyB B).length ≤ 1000000) := show _ ≤ _ by have := HL.out.2; rw [HEE.out.1]; omega
        obtain ⟨Y, hY⟩ : ∃ Y, Y = bodyB B := ⟨_, rfl⟩
        have HYB : Hid (Y = bodyB B) := hY
        rw [← hY] at HOE HAY HLY HBW
        have HO : Hid (openE K B now = if endK Y = false then 2 else if goodK (readK Y) = false then 2 else if 0 < lateK (readK Y) now then 8 else 0) := HOE
        clear hY HOE HRR
        have HFY : Hid (FitC (readK Y)) := readK_fit HAY.out
        cases hen : endK Y with
        | false =>
          have HOE : Hid (openE K B now = 2) := show _ = _ by rw [HO.out, if_pos hen]
          go_wp2_with (first
            | (refine wl_buildC rfl rfl (vals := []) rfl builtZ ?_)
            | (refine wpList_of_run rfl (exec_neqE rfl rfl rfl) ?_)
            | (have q := hr10; clear q; refine wl_store (D := KV co0 so0) rfl rowC rfl rfl rfl hr10 rfl rfl (KV.one _ _) ?_; intro w11 hb11 hk11 hx11; clear hx11)
            | (have q := hb9; clear q; go_at_call 33; refine (end_any (hi9) HLY.out).mono ?_; rintro e w10 ⟨rfl, he10⟩; rw [show endS Y (q17 Y) = endK Y from rfl, hen, show endV false = errF from rfl]; have HE10 : Hid (Ext w7 w10) := (hs9.2.2.trans he9).trans he10; have HS : Hid (OwnK w10 w7.heap.size s9 (readK Y)) := (hs9.1.ext he9).ext he10; have hc10 := hb9.ext he10; have hr10 := hb7.ext HE10.out; have HE : Hid (Ext w w10) := he7.trans HE10.out; have HNE : Hid (w.heap.size < w7.heap.size ∧ w7.heap.size ≤ w8a.heap.size) := ⟨hb7.lt, hs9.2.2.size⟩; clear hb9 he9 he10 hs9 hi9 hi8 he8 hb7 he7 hg8)
            | (have q := hs9; clear q; refine wl_alloc rfl rfl zeroC ?_; intro w8b hb8b he8b hx; clear hx; refine wl_store (D := KV (readK Y) s9) rfl rowC rfl rfl rfl hb8b rfl rfl (KV.one _ _) ?_; intro w9 hb9 hk9 hx9; clear hx9; have he9 := he8b.of_but hk9 (fun k e => by subst e; exact Nat.le_refl _); have hi9 := hs9.2.1.ext he9; clear hb8b he8b hk9)
            | (have q := hg8; clear q; go_at_call 32; refine (read_anyK (w0 := w7) hg8 he8 hi8 HAY.out HLY.out).mono ?_; rintro e w8a ⟨s9, rfl, hs9⟩)
            | (go_at_call 31; refine (read_any HBW.out HLY.out).mono ?_; rintro e w8 ⟨g8, bv8, rfl, hg8, hi8, he8⟩))
          refine bodyPost_ret (res_two9 (fn := Tryd.f17) (p := 6) (u := 7) rfl _ _ rfl rfl hb11 Tryd.underlying29 (by kernel_rfl)) rfl ?_
          exact OpenIs.err (HE.out.of_but hk11 (fun k e => by subst e; exact Nat.le_refl _)) HOE.out (by decide)
        | true =>
          cases hgd : goodK (readK Y) with
          | false =>
            have HOE : Hid (openE K B now = 2) := show _ = _ by rw [HO.out, if_neg (by rw [hen]; decide), if_pos hgd]
            go_wp2_with (first
              | (go_at_call 12; refine (goodK_any HS.out.at).mono ?_; rintro e w12 ⟨rfl, he12⟩; rw [hgd]; have hr12 := hr10.ext he12; clear c0 c1 c2 c3 c4 c5 c6 c7 c8 c9 c10 c11 c12 c13)
              | (refine wl_buildC rfl rfl (vals := []) rfl builtZ ?_)
              | (refine wpList_of_run rfl (exec_neq0 rfl rfl rfl) ?_)
              | (have q := hr12; clear q; refine wl_store (D := KV co0 so0) rfl rowC rfl rfl rfl hr12 rfl rfl (KV.one _ _) ?_; intro w11 hb11 hk11 hx11; clear hx11)
              | (have q := hb9; clear q; go_at_call 33; refine (end_any (hi9) HLY.out).mono ?_; rintro e w10 ⟨rfl, he10⟩; rw [show endS Y (q17 Y) = endK Y from rfl, hen, show endV true = .nilIface from rfl]; have HE10 : Hid (Ext w7 w10) := (hs9.2.2.trans he9).trans he10; have HS : Hid (OwnK w10 w7.heap.size s9 (readK Y)) := (hs9.1.ext he9).ext he10; have hc10 := hb9.ext he10; have hr10 := hb7.ext HE10.out; have HE : Hid (Ext w w10) := he7.trans HE10.out; have HNE : Hid (w.heap.size < w7.heap.size ∧ w7.heap.size ≤ w8a.heap.size) := ⟨hb7.lt, hs9.2.2.size⟩; clear hb9 he9 he10 hs9 hi9 hi8 he8 hb7 he7 hg8; have c0 := kv0 hc10; have c1 := kv1 hc10; have c2 := kv2 hc10; have c3 := kv3 hc10; have c4 := kv4 hc10; have c5 := kv5 hc10; have c6 := kv6 hc10; have c7 := kv7 hc10; have c8 := kv8 hc10; have c9 := kv9 hc10; have c10 := kv10 hc10; have c11 := kv11 hc10; have c12 := kv12 hc10; have c13 := kv13 hc10)
              | (have q := hs9; clear q; refine wl_alloc rfl rfl zeroC ?_; intro w8b hb8b he8b hx; clear hx; refine wl_store (D := KV (readK Y) s9) rfl rowC rfl rfl rfl hb8b rfl rfl (KV.one _ _) ?_; intro w9 hb9 hk9 hx9; clear hx9; have he9 := he8b.of_but hk9 (fun k e => by subst e; exact Nat.le_refl _); have hi9 := hs9.2.1.ext he9; clear hb8b he8b hk9)
              | (have q := hg8; clear q; go_at_call 32; refine (read_anyK (w0 := w7) hg8 he8 hi8 HAY.out HLY.out).mono ?_; rintro e w8a ⟨s9, rfl, hs9⟩)
              | (go_at_call 31; refine (read_any HBW.out HLY.out).mono ?_; rintro e w8 ⟨g8, bv8, rfl, hg8, hi8, he8⟩))
            refine bodyPost_ret (res_two9 (fn := Tryd.f17) (p := 6) (u := 7) rfl _ _ rfl rfl hb11 Tryd.underlying29 (by kernel_rfl)) rfl ?_
            exact OpenIs.err ((HE.out.trans he12).of_but hk11 (fun k e => by subst e; exact Nat.le_refl _)) HOE.out (by decide)
          | true =>
            obtain ⟨LT, hLT⟩ : ∃ l, l = lateK (readK Y) now := ⟨_, rfl⟩
            have HLT : Hid (LT = lateK (readK Y) now) := hLT
            clear hLT
            by_cases hlt : 0 < LT
            · have hd : decide (LT > 0) = true := decide_eq_true hlt
              have hd2 : decide (0 < LT) = true := decide_eq_true hlt
              have HOE : Hid (openE K B now = 8) := show _ = _ by rw [HO.out, if_neg (by rw [hen]; decide), if_neg (by rw [hgd]; decide), ← HLT.out, if_pos hlt]
              go_wp2_with (first
                | (have q := he12; clear q; go_at_call 15; refine (late_any (HS.out.at.ext he12) now HX.out.2.2.2.2.2).mono ?_; rintro e w13 ⟨rfl, he13⟩; rw [← HLT.out]; have hr13 := hr12.ext he13)
                | (have q := he12; clear q; refine wl_load rfl rowC rfl rfl (hc10.ext he12) rfl ?_)
                | (go_at_call 12; refine (goodK_any HS.out.at).mono ?_; rintro e w12 ⟨rfl, he12⟩; rw [hgd]; have hr12 := hr10.ext he12; clear c0 c1 c2 c3 c4 c5 c6 c7 c8 c9 c10 c11 c12 c13)
                | (refine wl_buildC rfl rfl (vals := []) rfl builtZ ?_)
                | (refine wpList_of_run rfl (exec_neq0 rfl rfl rfl) ?_)
                | (have q := hr13; clear q; refine wl_store (D := KV co0 so0) rfl rowC rfl rfl rfl hr13 rfl rfl (KV.one _ _) ?_; intro w11 hb11 hk11 hx11; clear hx11)
                | (have q := hb9; clear q; go_at_call 33; refine (end_any (hi9) HLY.out).mono ?_; rintro e w10 ⟨rfl, he10⟩; rw [show endS Y (q17 Y) = endK Y from rfl, hen, show endV true = .nilIface from rfl]; have HE10 : Hid (Ext w7 w10) := (hs9.2.2.trans he9).trans he10; have HS : Hid (OwnK w10 w7.heap.size s9 (readK Y)) := (hs9.1.ext he9).ext he10; have hc10 := hb9.ext he10; have hr10 := hb7.ext HE10.out; have HE : Hid (Ext w w10) := he7.trans HE10.out; have HNE : Hid (w.heap.size < w7.heap.size ∧ w7.heap.size ≤ w8a.heap.size) := ⟨hb7.lt, hs9.2.2.size⟩; clear hb9 he9 he10 hs9 hi9 hi8 he8 hb7 he7 hg8; have c0 := kv0 hc10; have c1 := kv1 hc10; have c2 := kv2 hc10; have c3 := kv3 hc10; have c4 := kv4 hc10; have c5 := kv5 hc10; have c6 := kv6 hc10; have c7 := kv7 hc10; have c8 := kv8 hc10; have c9 := kv9 hc10; have c10 := kv10 hc10; have c11 := kv11 hc10; have c12 := kv12 hc10; have c13 := kv13 hc10)
                | (have q := hs9; clear q; refine wl_alloc rfl rfl zeroC ?_; intro w8b hb8b he8b hx; clear hx; refine wl_store (D := KV (readK Y) s9) rfl rowC rfl rfl rfl hb8b rfl rfl (KV.one _ _) ?_; intro w9 hb9 hk9 hx9; clear hx9; have he9 := he8b.of_but hk9 (fun k e => by subst e; exact Nat.le_refl _); have hi9 := hs9.2.1.ext he9; clear hb8b he8b hk9)
                | (have q := hg8; clear q; go_at_call 32; refine (read_anyK (w0 := w7) hg8 he8 hi8 HAY.out HLY.out).mono ?_; rintro e w8a ⟨s9, rfl, hs9⟩)
                | (go_at_call 31; refine (read_any HBW.out HLY.out).mono ?_; rintro e w8 ⟨g8, bv8, rfl, hg8, hi8, he8⟩))
              refine bodyPost_ret (res_two9 (fn := Tryd.f17) (p := 6) (u := 7) rfl _ _ rfl rfl hb11 Tryd.underlying29 (by kernel_rfl)) rfl ?_
              exact OpenIs.err (((HE.out.trans he12).trans he13).of_but hk11 (fun k e => by subst e; exact Nat.le_refl _)) HOE.out (by decide)
            · have hd : decide (LT > 0) = false := decide_eq_false hlt
              have hd2 : decide (0 < LT) = false := decide_eq_false hlt
              have HOE : Hid (openE K B now = 0) := show _ = _ by rw [HO.out, if_neg (by rw [hen]; decide), if_neg (by rw [hgd]; decide), ← HLT.out, if_neg hlt]
              go_wp2_with (first
                | (have q := hr13; clear q; refine wl_load rfl rowC rfl rfl ((hc10.ext he12).ext he13) rfl ?_)
                | (have q := he12; clear q; go_at_call 15; refine (late_any (HS.out.at.ext he12) now HX.out.2.2.2.2.2).mono ?_; rintro e w13 ⟨rfl, he13⟩; rw [← HLT.out]; have hr13 := hr12.ext he13)
                | (have q := he12; clear q; refine wl_load rfl rowC rfl rfl (hc10.ext he12) rfl ?_)
                | (go_at_call 12; refine (goodK_any HS.out.at).mono ?_; rintro e w12 ⟨rfl, he12⟩; rw [hgd]; have hr12 := hr10.ext he12; clear c0 c1 c2 c3 c4 c5 c6 c7 c8 c9 c10 c11 c12 c13)
                | (refine wpList_of_run rfl (exec_neq0 rfl rfl rfl) ?_)
                | (have q := hr13; clear q; refine wl_store (D := KV (readK Y) s9) rfl rowC rfl rfl rfl hr13 rfl rfl (KV.one _ _) ?_; intro w11 hb11 hk11 hx11; clear hx11)
                | (have q := hb9; clear q; go_at_call 33; refine (end_any (hi9) HLY.out).mono ?_; rintro e w10 ⟨rfl, he10⟩; rw [show endS Y (q17 Y) = endK Y from rfl, hen, show endV true = .nilIface from rfl]; have HE10 : Hid (Ext w7 w10) := (hs9.2.2.trans he9).trans he10; have HS : Hid (OwnK w10 w7.heap.size s9 (readK Y)) := (hs9.1.ext he9).ext he10; have hc10 := hb9.ext he10; have hr10 := hb7.ext HE10.out; have HE : Hid (Ext w w10) := he7.trans HE10.out; have HNE : Hid (w.heap.size < w7.heap.size ∧ w7.heap.size ≤ w8a.heap.size) := ⟨hb7.lt, hs9.2.2.size⟩; clear hb9 he9 he10 hs9 hi9 hi8 he8 hb7 he7 hg8; have c0 := kv0 hc10; have c1 := kv1 hc10; have c2 := kv2 hc10; have c3 := kv3 hc10; have c4 := kv4 hc10; have c5 := kv5 hc10; have c6 := kv6 hc10; have c7 := kv7 hc10; have c8 := kv8 hc10; have c9 := kv9 hc10; have c10 := kv10 hc10; have c11 := kv11 hc10; have c12 := kv12 hc10; have c13 := kv13 hc10)
                | (have q := hs9; clear q; refine wl_alloc rfl rfl zeroC ?_; intro w8b hb8b he8b hx; clear hx; refine wl_store (D := KV (readK Y) s9) rfl rowC rfl rfl rfl hb8b rfl rfl (KV.one _ _) ?_; intro w9 hb9 hk9 hx9; clear hx9; have he9 := he8b.of_but hk9 (fun k e => by subst e; exact Nat.le_refl _); have hi9 := hs9.2.1.ext he9; clear hb8b he8b hk9)
                | (have q := hg8; clear q; go_at_call 32; refine (read_anyK (w0 := w7) hg8 he8 hi8 HAY.out HLY.out).mono ?_; rintro e w8a ⟨s9, rfl, hs9⟩)
                | (go_at_call 31; refine (read_any HBW.out HLY.out).mono ?_; rintro e w8 ⟨g8, bv8, rfl, hg8, hi8, he8⟩))
              refine bodyPost_ret (res_two9 (fn := Tryd.f17) (p := 6) (u := 7) rfl _ _ rfl rfl hb11 Tryd.underlying29 (by kernel_rfl)) rfl ?_
              refine ⟨((HE.out.trans he12).trans he13).of_but hk11 (fun k e => by subst e; exact Nat.le_refl _), s9, ?_, ?_⟩
              · rw [openC_yes HOE.out, HOE.out, ← HYB.out]; rfl
              · rw [openC_yes HOE.out, ← HYB.out]
                exact (((HS.out.ext he12).ext he13).but hk11 hr13 noKC).base (Nat.le_of_lt HNE.out.1)
end Tlv
end Go.Proofs.YtfhoielfekeihaaDoor

/- Two lists appended to empty ones and stored into two fields, in whatever order. No condition of its own. -/
namespace Go.Proofs.YtfhoielfekeihaaDoor
namespace Tlv
open Go Go.RowKit
set_option linter.unusedVariables false
set_option linter.unusedSimpArgs false
set_option maxRecDepth 100000

theorem run_append_empty {P : Program} {t e : TypeId} {k : IntKind} {by8 : Nat} (hT : NumT P t e k by8) (w : World) (base ty g : Nat) (x : Value) (m : List Int) (hg : base ≤ g) (hB : Blk w g #[] e) (hx : NumsAt k w x m) (hlen : m.length * by8 ≤ 140737488355328) (hlen2 : m.length ≤ 140737488355328) :
    ∃ ad cap w', (Builtin.append_ #[t, t] ty #[.slice (some ⟨g, 0, none⟩) 0 0, x]).run P w = .ok (.slice ad m.length cap) w' ∧ OwnN k w' base e (.slice ad m.length cap) m ∧ Ext w w' := by
  obtain ⟨i, hi, hz, hs, hby⟩ := hT.ex
  have hown : w.ownsRow base e 1 (.slice (some ⟨g, 0, none⟩) 0 0) 0 [] := ⟨rfl, .inr ⟨g, 0, #[], rfl, hg, hB, by simp, by simp [maxLen], rfl, rfl⟩⟩
  obtain ⟨hm, ⟨rfl, rfl⟩ | ⟨ad, c, rfl, h1, h2, hc⟩⟩ := hx
  · exact ⟨_, 0, w, run_append_owned_none w base t ty e i 1 hT.ut hi _ _ _ hown, ⟨by simpa using hown, by simp [maxLen]⟩, Ext.refl _⟩
  · cases m with
    | nil =>
      have hr := run_append_room_cells (P := P) (w := w) t ty e i hT.ut hi g 0 0 0 ad 0 c [] (by simp) (by simp) (by simp) (by simp) (by simp) (by simp)
      exact ⟨_, 0, w, hr, ⟨by simpa using hown, by simp [maxLen]⟩, Ext.refl _⟩
    | cons y m =>
      obtain ⟨v', w', hr, h3, h4⟩ := run_append_arg_grows (P := P) (w := w) t ty e i (.int k 0) 1 by8 hT.ut hi hz hs hby rfl (by omega) ⟨g, 0, none⟩ 0 0 [] rfl (by simp) ad (m.length + 1) c ((y :: m).map (Value.int k)) (by simp)
        (fun j u hu => by
          rw [List.getElem?_map] at hu
          obtain ⟨z, hz', rfl⟩ := Option.map_eq_some_iff.1 hu
          have hj : j < (y :: m).length := (List.getElem?_eq_some_iff.1 hz').1
          rw [hc j hj]
          simp [List.getD_eq_getElem?_getD, hz']) (by omega) (by simp only [List.length_cons] at hlen2; unfold maxLen; omega) (by simpa using hlen)
      have hO : OwnN k w' base e v' (y :: m) := OwnN.base (base := w.heap.size) ⟨by simpa using h3, hm⟩ (Nat.le_trans hg (Nat.le_of_lt hB.lt))
      obtain ⟨a', c', rfl, _⟩ := hO.slice
      exact ⟨a', c', w', hr, hO, Ext.of_grown h4⟩
theorem give_append {P : Program} {t e : TypeId} {k : IntKind} {by8 : Nat} (hT : NumT P t e k by8) {w : World} {r : Operand → Value} {o : Oper} {K : Value → World → Prop} {s x : Operand} (ho : o.op = .call { callee := .builtin .append, args := #[s, x], argTypes := #[t, t] })
    {base g : Nat} {u : Value} {m : List Int} (hs : r s = .slice (some ⟨g, 0, none⟩) 0 0) (hxx : r x = u) (hg : base ≤ g) (hB : Blk w g #[] e) (hx : NumsAt k w u m) (h8 : by8 ≤ 8) (hlen : m.length ≤ 1000000)
    (h : ∀ ad cap w', OwnN k w' base e (.slice ad m.length cap) m → Ext w w' → K (.slice ad m.length cap) w') : give P K ((execOp r o).run P w) := by
  obtain ⟨ad, cap, w', hr, h1, h2⟩ := run_append_empty hT w base o.type g u m hg hB hx (by have := Nat.mul_le_mul_left m.length h8; omega) (by omega)
  refine give_of (v := .slice ad m.length cap) (w' := w') ?_ (h ad cap w' h1 h2)
  simp only [execOp, ho, resolve, invoke, builtin, Sem.run_bind, Sem.run_pure, Result.andThen_ok, List.map_toArray, List.map_cons, List.map_nil, hs, hxx, hr]
theorem give_empty {P : Program} {w : World} {r : Operand → Value} {o : Oper} {K : Value → World → Prop} {t e : TypeId} (ho : o.op = .buildSlice t 0 #[]) {k : IntKind} {by8 : Nat} (hT : NumT P t e k by8)
    (h : K (.slice (some ⟨w.heap.size, 0, none⟩) 0 0) (w.alloc (.cells #[] e))) : give P K ((execOp r o).run P w) := by
  obtain ⟨i, hi, hz, hs, hby⟩ := hT.ex
  refine give_of (v := .slice (some ⟨w.heap.size, 0, none⟩) 0 0) (w' := w.alloc (.cells #[] e)) ?_ h
  simp [execOp, ho, go_sem, run_underlying hT.ut, hi, hz, hs, sizeOf, typeInfo]
/-- What holds while the region goes. -/
structure TwoA (w0 ws : World) (G T : Nat) (C0 : Array Value) (j1 j2 : Nat) (k1 k2 : IntKind) (e1 e2 : TypeId) (L1 L2 : List Int) (p1 s1 p2 s2 q1 q2 : Value) (L : Nat → Bool) (vs : Nat → Value) (wx : World) : Prop where
  ext : Ext w0 wx
  keep : KeepBut (· = G) ws wx
  blk : ∃ C, Blk wx G C T ∧ C.size = C0.size ∧ (∀ j, j ≠ j1 → j ≠ j2 → C[j]? = C0[j]?) ∧ (L 9 = true → C[j1]? = some (vs 3)) ∧ (L 11 = true → C[j2]? = some (vs 7))
  a0 : L 0 = true → ∃ g, vs 0 = .slice (some ⟨g, 0, none⟩) 0 0 ∧ w0.heap.size ≤ g ∧ Blk wx g #[] e1
  a1 : L 1 = true → vs 1 = p1
  a2 : L 2 = true → vs 2 = s1
  a3 : L 3 = true → (∃ ad cap, vs 3 = .slice ad L1.length cap) ∧ OwnN k1 wx w0.heap.size e1 (vs 3) L1
  a4 : L 4 = true → ∃ g, vs 4 = .slice (some ⟨g, 0, none⟩) 0 0 ∧ w0.heap.size ≤ g ∧ Blk wx g #[] e2
  a5 : L 5 = true → vs 5 = p2
  a6 : L 6 = true → vs 6 = s2
  a7 : L 7 = true → (∃ ad cap, vs 7 = .slice ad L2.length cap) ∧ OwnN k2 wx w0.heap.size e2 (vs 7) L2
  a8 : L 8 = true → vs 8 = q1
  aA : L 10 = true → vs 10 = q2
  i9 : L 9 = true → L 3 = true
  iB : L 11 = true → L 7 = true
section
variable {w0 ws wx : World} {G T j1 j2 : Nat} {C0 : Array Value} {k1 k2 : IntKind} {e1 e2 : TypeId} {L1 L2 : List Int} {p1 s1 p2 s2 q1 q2 : Value} {L : Nat → Bool} {vs : Nat → Value}
theorem TwoA.start (he : Ext w0 wx) (hb : Blk wx G C0 T) : TwoA w0 wx G T C0 j1 j2 k1 k2 e1 e2 L1 L2 p1 s1 p2 s2 q1 q2 (fun i => decide (12 ≤ i)) vs wx :=
  ⟨he, KeepBut.refl _ _, ⟨C0, hb, rfl, fun _ _ _ => rfl, fun h => by simp at h, fun h => by simp at h⟩, fun h => by simp at h, fun h => by simp at h, fun h => by simp at h, fun h => by simp at h, fun h => by simp at h, fun h => by simp at h, fun h => by simp at h, fun h => by simp at h, fun h => by simp at h, fun h => by simp at h, fun h => by simp at h, fun h => by simp at h⟩
/-- All in a grown world. -/
theorem TwoA.grow (H : TwoA w0 ws G T C0 j1 j2 k1 k2 e1 e2 L1 L2 p1 s1 p2 s2 q1 q2 L vs wx) {w' : World} (he : Ext wx w') : TwoA w0 ws G T C0 j1 j2 k1 k2 e1 e2 L1 L2 p1 s1 p2 s2 q1 q2 L vs w' := by
  obtain ⟨C, hb, h2⟩ := H.blk
  exact ⟨H.ext.trans he, H.keep.trans (KeepBut.ext he), ⟨C, hb.ext he, h2⟩, fun h => by obtain ⟨g, a, b, c⟩ := H.a0 h; exact ⟨g, a, b, c.ext he⟩, H.a1, H.a2, fun h => ⟨(H.a3 h).1, (H.a3 h).2.ext he⟩, fun h => by obtain ⟨g, a, b, c⟩ := H.a4 h; exact ⟨g, a, b, c.ext he⟩, H.a5, H.a6, fun h => ⟨(H.a7 h).1, (H.a7 h).2.ext he⟩, H.a8, H.aA, H.i9, H.iB⟩
theorem TwoA.op1 (H : TwoA w0 ws G T C0 j1 j2 k1 k2 e1 e2 L1 L2 p1 s1 p2 s2 q1 q2 L vs wx) : TwoA w0 ws G T C0 j1 j2 k1 k2 e1 e2 L1 L2 p1 s1 p2 s2 q1 q2 (met1 L 1) (updV vs 1 p1) wx := ⟨H.ext, H.keep, H.blk, H.a0, fun _ => rfl, H.a2, H.a3, H.a4, H.a5, H.a6, H.a7, H.a8, H.aA, H.i9, H.iB⟩
theorem TwoA.op2 (H : TwoA w0 ws G T C0 j1 j2 k1 k2 e1 e2 L1 L2 p1 s1 p2 s2 q1 q2 L vs wx) : TwoA w0 ws G T C0 j1 j2 k1 k2 e1 e2 L1 L2 p1 s1 p2 s2 q1 q2 (met1 L 2) (updV vs 2 s1) wx := ⟨H.ext, H.keep, H.blk, H.a0, H.a1, fun _ => rfl, H.a3, H.a4, H.a5, H.a6, H.a7, H.a8, H.aA, H.i9, H.iB⟩
theorem TwoA.op5 (H : TwoA w0 ws G T C0 j1 j2 k1 k2 e1 e2 L1 L2 p1 s1 p2 s2 q1 q2 L vs wx) : TwoA w0 ws G T C0 j1 j2 k1 k2 e1 e2 L1 L2 p1 s1 p2 s2 q1 q2 (met1 L 5) (updV vs 5 p2) wx := ⟨H.ext, H.keep, H.blk, H.a0, H.a1, H.a2, H.a3, H.a4, fun _ => rfl, H.a6, H.a7, H.a8, H.aA, H.i9, H.iB⟩
theorem TwoA.op6 (H : TwoA w0 ws G T C0 j1 j2 k1 k2 e1 e2 L1 L2 p1 s1 p2 s2 q1 q2 L vs wx) : TwoA w0 ws G T C0 j1 j2 k1 k2 e1 e2 L1 L2 p1 s1 p2 s2 q1 q2 (met1 L 6) (updV vs 6 s2) wx := ⟨H.ext, H.keep, H.blk, H.a0, H.a1, H.a2, H.a3, H.a4, H.a5, fun _ => rfl, H.a7, H.a8, H.aA, H.i9, H.iB⟩
theorem TwoA.op8 (H : TwoA w0 ws G T C0 j1 j2 k1 k2 e1 e2 L1 L2 p1 s1 p2 s2 q1 q2 L vs wx) : TwoA w0 ws G T C0 j1 j2 k1 k2 e1 e2 L1 L2 p1 s1 p2 s2 q1 q2 (met1 L 8) (updV vs 8 q1) wx := ⟨H.ext, H.keep, H.blk, H.a0, H.a1, H.a2, H.a3, H.a4, H.a5, H.a6, H.a7, fun _ => rfl, H.aA, H.i9, H.iB⟩
theorem TwoA.op10 (H : TwoA w0 ws G T C0 j1 j2 k1 k2 e1 e2 L1 L2 p1 s1 p2 s2 q1 q2 L vs wx) : TwoA w0 ws G T C0 j1 j2 k1 k2 e1 e2 L1 L2 p1 s1 p2 s2 q1 q2 (met1 L 10) (updV vs 10 q2) wx := ⟨H.ext, H.keep, H.blk, H.a0, H.a1, H.a2, H.a3, H.a4, H.a5, H.a6, H.a7, H.a8, fun _ => rfl, H.i9, H.iB⟩
theorem TwoA.op0 (H0 : TwoA w0 ws G T C0 j1 j2 k1 k2 e1 e2 L1 L2 p1 s1 p2 s2 q1 q2 L vs wx) : TwoA w0 ws G T C0 j1 j2 k1 k2 e1 e2 L1 L2 p1 s1 p2 s2 q1 q2 (met1 L 0) (updV vs 0 (.slice (some ⟨wx.heap.size, 0, none⟩) 0 0)) (wx.alloc (.cells #[] e1)) := by
  have H := H0.grow (Ext.alloc wx (.cells #[] e1))
  exact ⟨H.ext, H.keep, H.blk, fun _ => ⟨wx.heap.size, rfl, H0.ext.size, Blk.new _ _ _⟩, H.a1, H.a2, H.a3, H.a4, H.a5, H.a6, H.a7, H.a8, H.aA, H.i9, H.iB⟩
theorem TwoA.op4 (H0 : TwoA w0 ws G T C0 j1 j2 k1 k2 e1 e2 L1 L2 p1 s1 p2 s2 q1 q2 L vs wx) : TwoA w0 ws G T C0 j1 j2 k1 k2 e1 e2 L1 L2 p1 s1 p2 s2 q1 q2 (met1 L 4) (updV vs 4 (.slice (some ⟨wx.heap.size, 0, none⟩) 0 0)) (wx.alloc (.cells #[] e2)) := by
  have H := H0.grow (Ext.alloc wx (.cells #[] e2))
  exact ⟨H.ext, H.keep, H.blk, H.a0, H.a1, H.a2, H.a3, fun _ => ⟨wx.heap.size, rfl, H0.ext.size, Blk.new _ _ _⟩, H.a5, H.a6, H.a7, H.a8, H.aA, H.i9, H.iB⟩
theorem TwoA.op3 (H0 : TwoA w0 ws G T C0 j1 j2 k1 k2 e1 e2 L1 L2 p1 s1 p2 s2 q1 q2 L vs wx) (hl : L 3 = false) {w' : World} {ad : Option Addr} {cap : Nat} (ho : OwnN k1 w' w0.heap.size e1 (.slice ad L1.length cap) L1) (he : Ext wx w') : TwoA w0 ws G T C0 j1 j2 k1 k2 e1 e2 L1 L2 p1 s1 p2 s2 q1 q2 (met1 L 3) (updV vs 3 (.slice ad L1.length cap)) w' := by
  have H := H0.grow he
  have hb' : ∃ C, Blk w' G C T ∧ C.size = C0.size ∧ (∀ j, j ≠ j1 → j ≠ j2 → C[j]? = C0[j]?) ∧ (met1 L 3 9 = true → C[j1]? = some (updV vs 3 (.slice ad L1.length cap) 3)) ∧ (met1 L 3 11 = true → C[j2]? = some (updV vs 3 (.slice ad L1.length cap) 7)) := by
    obtain ⟨C, hb, h2, h3, h4, h5⟩ := H.blk
    refine ⟨C, hb, h2, h3, fun h => ?_, fun h => ?_⟩
    · have := H.i9 h; rw [hl] at this; cases this
    · exact h5 h
  exact ⟨H.ext, H.keep, hb', H.a0, H.a1, H.a2, fun _ => ⟨⟨ad, cap, rfl⟩, ho⟩, H.a4, H.a5, H.a6, H.a7, H.a8, H.aA, fun _ => rfl, H.iB⟩
theorem TwoA.op7 (H0 : TwoA w0 ws G T C0 j1 j2 k1 k2 e1 e2 L1 L2 p1 s1 p2 s2 q1 q2 L vs wx) (hl : L 7 = false) {w' : World} {ad : Option Addr} {cap : Nat} (ho : OwnN k2 w' w0.heap.size e2 (.slice ad L2.length cap) L2) (he : Ext wx w') : TwoA w0 ws G T C0 j1 j2 k1 k2 e1 e2 L1 L2 p1 s1 p2 s2 q1 q2 (met1 L 7) (updV vs 7 (.slice ad L2.length cap)) w' := by
  have H := H0.grow he
  have hb' : ∃ C, Blk w' G C T ∧ C.size = C0.size ∧ (∀ j, j ≠ j1 → j ≠ j2 → C[j]? = C0[j]?) ∧ (met1 L 7 9 = true → C[j1]? = some (updV vs 7 (.slice ad L2.length cap) 3)) ∧ (met1 L 7 11 = true → C[j2]? = some (updV vs 7 (.slice ad L2.length cap) 7)) := by
    obtain ⟨C, hb, h2, h3, h4, h5⟩ := H.blk
    refine ⟨C, hb, h2, h3, fun h => ?_, fun h => ?_⟩
    · exact h4 h
    · have := H.iB h; rw [hl] at this; cases this
  exact ⟨H.ext, H.keep, hb', H.a0, H.a1, H.a2, H.a3, H.a4, H.a5, H.a6, fun _ => ⟨⟨ad, cap, rfl⟩, ho⟩, H.a8, H.aA, H.i9, fun _ => rfl⟩
theorem TwoA.op9 (H : TwoA w0 ws G T C0 j1 j2 k1 k2 e1 e2 L1 L2 p1 s1 p2 s2 q1 q2 L vs wx) (h3 : L 3 = true) (hG : w0.heap.size ≤ G) (hj : j1 ≠ j2) (hjs : j1 < C0.size) (ht1 : T ≠ e1) (ht2 : T ≠ e2) {v : Value} (hv : v = vs 3) : TwoA w0 ws G T C0 j1 j2 k1 k2 e1 e2 L1 L2 p1 s1 p2 s2 q1 q2 (met1 L 9) (updV vs 9 undef) (wx.setCell ⟨G, j1, none⟩ v) := by
  obtain ⟨C, hb, h2, hc, hd, hd2⟩ := H.blk
  have hk : KeepBut (· = G) wx (wx.setCell ⟨G, j1, none⟩ v) := ⟨rfl, rfl, rfl, by simp, fun k _ hk => block_other hk j1 v⟩
  have hE : ∀ {g : Nat} {e : TypeId}, T ≠ e → Blk wx g #[] e → Blk (wx.setCell ⟨G, j1, none⟩ v) g #[] e := fun {g e} hte hg => hg.but hk (show ¬ g = G from fun e' => by
    subst e'
    have : some (Obj.cells C T (0, 0)) = some (.cells #[] e (0, 0)) := hb.symm.trans hg
    simp only [Option.some.injEq, Obj.cells.injEq] at this
    exact hte this.2.1)
  have hb' : ∃ C, Blk (wx.setCell ⟨G, j1, none⟩ v) G C T ∧ C.size = C0.size ∧ (∀ j, j ≠ j1 → j ≠ j2 → C[j]? = C0[j]?) ∧ (met1 L 9 9 = true → C[j1]? = some (updV vs 9 undef 3)) ∧ (met1 L 9 11 = true → C[j2]? = some (updV vs 9 undef 7)) := by
    refine ⟨_, hb.set j1 v, by simpa using h2, fun j n1 n2 => ?_, fun h => ?_, fun h => ?_⟩
    · rw [Array.getElem?_setIfInBounds_ne (by first | exact fun e => n1 e.symm | exact fun e => n2 e.symm)]; exact hc j n1 n2
    · rw [Array.getElem?_setIfInBounds_self_of_lt (by omega), hv]; rfl
    · rw [Array.getElem?_setIfInBounds_ne hj]; exact hd2 h
  exact ⟨H.ext.of_but hk (fun k e => by subst e; exact hG), H.keep.trans hk, hb', fun h => by obtain ⟨g, a, b, c⟩ := H.a0 h; exact ⟨g, a, b, hE ht1 c⟩, H.a1, H.a2, fun h => ⟨(H.a3 h).1, (H.a3 h).2.mono_via hk (ownsRow_ne (H.a3 h).2.1 hb ht1)⟩, fun h => by obtain ⟨g, a, b, c⟩ := H.a4 h; exact ⟨g, a, b, hE ht2 c⟩, H.a5, H.a6, fun h => ⟨(H.a7 h).1, (H.a7 h).2.mono_via hk (ownsRow_ne (H.a7 h).2.1 hb ht2)⟩, H.a8, H.aA, fun _ => h3, H.iB⟩
theorem TwoA.op11 (H : TwoA w0 ws G T C0 j1 j2 k1 k2 e1 e2 L1 L2 p1 s1 p2 s2 q1 q2 L vs wx) (h3 : L 7 = true) (hG : w0.heap.size ≤ G) (hj : j1 ≠ j2) (hjs : j2 < C0.size) (ht1 : T ≠ e1) (ht2 : T ≠ e2) {v : Value} (hv : v = vs 7) : TwoA w0 ws G T C0 j1 j2 k1 k2 e1 e2 L1 L2 p1 s1 p2 s2 q1 q2 (met1 L 11) (updV vs 11 undef) (wx.setCell ⟨G, j2, none⟩ v) := by
  obtain ⟨C, hb, h2, hc, hd, hd2⟩ := H.blk
  have hk : KeepBut (· = G) wx (wx.setCell ⟨G, j2, none⟩ v) := ⟨rfl, rfl, rfl, by simp, fun k _ hk => block_other hk j2 v⟩
  have hE : ∀ {g : Nat} {e : TypeId}, T ≠ e → Blk wx g #[] e → Blk (wx.setCell ⟨G, j2, none⟩ v) g #[] e := fun {g e} hte hg => hg.but hk (show ¬ g = G from fun e' => by
    subst e'
    have : some (Obj.cells C T (0, 0)) = some (.cells #[] e (0, 0)) := hb.symm.trans hg
    simp only [Option.some.injEq, Obj.cells.injEq] at this
    exact hte this.2.1)
  have hb' : ∃ C, Blk (wx.setCell ⟨G, j2, none⟩ v) G C T ∧ C.size = C0.size ∧ (∀ j, j ≠ j1 → j ≠ j2 → C[j]? = C0[j]?) ∧ (met1 L 11 9 = true → C[j1]? = some (updV vs 11 undef 3)) ∧ (met1 L 11 11 = true → C[j2]? = some (updV vs 11 undef 7)) := by
    refine ⟨_, hb.set j2 v, by simpa using h2, fun j n1 n2 => ?_, fun h => ?_, fun h => ?_⟩
    · rw [Array.getElem?_setIfInBounds_ne (by first | exact fun e => n1 e.symm | exact fun e => n2 e.symm)]; exact hc j n1 n2
    · rw [Array.getElem?_setIfInBounds_ne (fun e => hj e.symm)]; exact hd h
    · rw [Array.getElem?_setIfInBounds_self_of_lt (by omega), hv]; rfl
  exact ⟨H.ext.of_but hk (fun k e => by subst e; exact hG), H.keep.trans hk, hb', fun h => by obtain ⟨g, a, b, c⟩ := H.a0 h; exact ⟨g, a, b, hE ht1 c⟩, H.a1, H.a2, fun h => ⟨(H.a3 h).1, (H.a3 h).2.mono_via hk (ownsRow_ne (H.a3 h).2.1 hb ht1)⟩, fun h => by obtain ⟨g, a, b, c⟩ := H.a4 h; exact ⟨g, a, b, hE ht2 c⟩, H.a5, H.a6, fun h => ⟨(H.a7 h).1, (H.a7 h).2.mono_via hk (ownsRow_ne (H.a7 h).2.1 hb ht2)⟩, H.a8, H.aA, H.i9, fun _ => h3⟩
theorem TwoA.done (H : TwoA w0 ws G T C0 j1 j2 k1 k2 e1 e2 L1 L2 p1 s1 p2 s2 q1 q2 (fun _ => true) vs wx) (hj : j1 ≠ j2) (h1 : j1 < C0.size) (h2 : j2 < C0.size) : ∃ ad1 c1 ad2 c2, vs 3 = .slice ad1 L1.length c1 ∧ vs 7 = .slice ad2 L2.length c2 ∧ Blk wx G ((C0.setIfInBounds j1 (.slice ad1 L1.length c1)).setIfInBounds j2 (.slice ad2 L2.length c2)) T ∧ OwnN k1 wx w0.heap.size e1 (.slice ad1 L1.length c1) L1 ∧ OwnN k2 wx w0.heap.size e2 (.slice ad2 L2.length c2) L2 := by
  obtain ⟨⟨ad1, c1, v3⟩, o3⟩ := H.a3 rfl
  obtain ⟨⟨ad2, c2, v7⟩, o7⟩ := H.a7 rfl
  obtain ⟨C, hb, hs, hc, hd1, hd2⟩ := H.blk
  rw [v3] at o3
  rw [v7] at o7
  refine ⟨ad1, c1, ad2, c2, v3, v7, ?_, o3, o7⟩
  have e : C = (C0.setIfInBounds j1 (.slice ad1 L1.length c1)).setIfInBounds j2 (.slice ad2 L2.length c2) := by
    apply Array.ext_getElem?
    intro j
    by_cases hj2 : j2 = j
    · subst hj2
      rw [hd2 rfl, v7, Array.getElem?_setIfInBounds_self_of_lt (by simpa using h2)]
    · rw [Array.getElem?_setIfInBounds_ne hj2]
      by_cases hj1 : j1 = j
      · subst hj1
        rw [hd1 rfl, v3, Array.getElem?_setIfInBounds_self_of_lt h1]
      · rw [Array.getElem?_setIfInBounds_ne hj1]
        exact hc j (fun e => hj1 e.symm) (fun e => hj2 e.symm)
  rw [← e]; exact hb
end
end Tlv
end Go.Proofs.YtfhoielfekeihaaDoor

/- The law's errors, sizes and cookies. No condition of its own. -/
namespace Go.Proofs.YtfhoielfekeihaaDoor
namespace Tlv
open Go Go.RowKit
set_option linter.unusedVariables false
set_option linter.unusedSimpArgs false
set_option maxRecDepth 100000


theorem wl_appE {t e : TypeId} {k : IntKind} {by8 : Nat} (hT : NumT Tryd.prog t e k by8) (h8 : by8 ≤ 8) {w : World} {ops : Array Oper} {rest : List Oper} {o : Oper} {a : Act} {Q : Exit → Act → World → Prop} (hgd : o.guard = none) {s x : Operand} (ho : o.op = .call { callee := .builtin .append, args := #[s, x], argTypes := #[t, t] })
    {base g : Nat} {u : Value} {M : List Int} (hs : a.eval s = .slice (some ⟨g, 0, none⟩) 0 0) (hxx : a.eval x = u) (hg : base ≤ g) (hB : Blk w g #[] e) (hx : NumsAt k w u M) (hlen : M.length ≤ 1000000)
    (h : ∀ ad n cap w', Hid (n = M.length) → OwnN k w' base e (.slice ad n cap) M → Ext w w' → wpList Tryd.prog ops Q rest (a.put o.dst (.slice ad n cap)) w') : wpList Tryd.prog ops Q (o :: rest) a w := by
  obtain ⟨ad, cap, w', hr, h1, h2⟩ := run_append_empty hT w base o.type g u M hg hB hx (by have := Nat.mul_le_mul_left M.length h8; omega) (by omega)
  refine wpList_of_run hgd (v := .slice ad M.length cap) ?_ (h ad _ cap w' rfl h1 h2)
  simp only [execOp, ho, resolve, invoke, builtin, Sem.run_bind, Sem.run_pure, Result.andThen_ok, List.map_toArray, List.map_cons, List.map_nil, hs, hxx, hr]
theorem obN {w : World} {base : Nat} {v : Value} {l : List Nat} (h : OwnN .u8 w base 5 v (ci l)) (ha : ∀ x ∈ l, x < 256) : OB w base v l := ⟨h, ha⟩

theorem assertN (n : Int) (W : World) : (Instr.typeAssert (.iface 39 (.int .i64 n)) 32 39 true).run Tryd.prog W = .ok (.tuple #[.int .i64 n, .bool true]) W := by kernel_rfl
theorem num_any (n : Int) (w : World) : Calls Tryd.prog 19 #[errV n] w fun e w' => e = .returned (.int .i64 n) ∧ w' = w := by
  by_cases h : n = 0
  · subst h
    exact errNum_0 w
  · rw [show errV n = .iface 39 (.int .i64 n) from if_neg h]
    have ha := assertN n w
    have hn : (n != 0) = true := by simpa using h
    go_enter Tryd.func19, Tryd.ntmps19
    go_wp2
    go_ret
    exact ⟨rfl, rfl⟩
theorem is_any (n m : Int) (w : World) : Calls Tryd.prog 14 #[errV n, .int .i64 m] w fun e w' => e = .returned (.bool (n == m)) ∧ w' = w := by
  have HN := num_any n
  generalize errV n = ev at HN ⊢
  go_enter Tryd.func14, Tryd.ntmps14
  go_wp2_with (first
    | (go_at_call 19; refine (HN _).mono ?_; rintro e w1 ⟨rfl, hw⟩; subst w1))
  go_ret
  exact ⟨rfl, rfl⟩
/-- More than is looked at. -/
def bigK (K : List Nat) (c : Co) : Bool := ((((decide (((K.length : Int) : Int) > (300 : Int))) || ((decide (((c.addrs.length : Int) : Int) > (30 : Int))))) || ((decide (((c.mr.length : Int) : Int) > (300 : Int))))) || ((decide (((c.pr.length : Int) : Int) > (300 : Int)))))
theorem bigK_no {K : List Nat} {c : Co} (h : bigK K c = false) : K.length ≤ 300 ∧ c.addrs.length ≤ 30 ∧ c.mr.length ≤ 300 ∧ c.pr.length ≤ 300 := by
  unfold bigK at h
  simp only [Bool.or_eq_false_iff, decide_eq_false_iff_not] at h
  omega
theorem large_any {w : World} {kv : Value} {K : List Nat} {c : Co} {s : So} (hk : BytesAt w kv K) (ha : CoAt w s c) :
    Calls Tryd.prog 8 #[kv, .agg (KV c s)] w fun e w' => e = .returned (.bool (bigK K c)) ∧ Ext w w' := by
  obtain ⟨ka, kc, rfl, _, _⟩ := hk.form
  rename_i z1 z2
  clear z1 z2 hk
  obtain ⟨kn, hkn⟩ : ∃ n, n = K.length := ⟨_, rfl⟩
  have HB : Hid (bigK K c = ((((decide (((kn : Int) : Int) > (300 : Int))) || ((decide (((s.aN : Int) : Int) > (30 : Int))))) || ((decide (((s.mN : Int) : Int) > (300 : Int))))) || ((decide (((s.pN : Int) : Int) > (300 : Int)))))) := show _ = _ by
    unfold bigK; rw [(nums_len ha.a).1, (bytes_len ha.m).1, (bytes_len ha.p).1, hkn]
  rw [← hkn, HB.out]
  clear hkn
  go_enter Tryd.func8, Tryd.ntmps8
  refine wp_seq_k (fun K hK => ?_)
  have HK := Stop.mk hK
  clear hK
  go_wp2_with (first
    | (refine wl_box (C := KV c s) rfl rfl rfl ?_; intro w1 hb1 he1 hx; clear hx))
  refine HK.go _ _ ?_
  refine wp_seq_k (fun K2 hK2 => ?_)
  refine wp_line (fun t => bif Nat.ble 5 t && Nat.ble t 25 then some (t - 5) else bif Nat.beq t 4 then some 21 else none) 26 Ext
    [Is (.slice ka kn kc),
     Is (.int .i64 (kn : Int)),
     Is (.bool (decide (((kn : Int) : Int) > (300 : Int)))),
     Is (.bool (decide (((kn : Int) : Int) > (300 : Int)))),
     Under ((!((decide (((kn : Int) : Int) > (300 : Int)))))) (.pointer (some ⟨w.heap.size, 9, none⟩)),
     Under ((!((decide (((kn : Int) : Int) > (300 : Int)))))) (.slice s.aA s.aN s.aC),
     Under ((!((decide (((kn : Int) : Int) > (300 : Int)))))) (.int .i64 (s.aN : Int)),
     Under ((!((decide (((kn : Int) : Int) > (300 : Int)))))) (.bool (decide (((s.aN : Int) : Int) > (30 : Int)))),
     Is (.bool ((decide (((kn : Int) : Int) > (300 : Int))) || ((decide (((s.aN : Int) : Int) > (30 : Int)))))),
     Is (.bool ((decide (((kn : Int) : Int) > (300 : Int))) || ((decide (((s.aN : Int) : Int) > (30 : Int)))))),
     Under ((!(((decide (((kn : Int) : Int) > (300 : Int))) || ((decide (((s.aN : Int) : Int) > (30 : Int)))))))) (.pointer (some ⟨w.heap.size, 10, none⟩)),
     Under ((!(((decide (((kn : Int) : Int) > (300 : Int))) || ((decide (((s.aN : Int) : Int) > (30 : Int)))))))) (.slice s.mA s.mN s.mC),
     Under ((!(((decide (((kn : Int) : Int) > (300 : Int))) || ((decide (((s.aN : Int) : Int) > (30 : Int)))))))) (.int .i64 (s.mN : Int)),
     Under ((!(((decide (((kn : Int) : Int) > (300 : Int))) || ((decide (((s.aN : Int) : Int) > (30 : Int)))))))) (.bool (decide (((s.mN : Int) : Int) > (300 : Int)))),
     Is (.bool (((decide (((kn : Int) : Int) > (300 : Int))) || ((decide (((s.aN : Int) : Int) > (30 : Int))))) || ((decide (((s.mN : Int) : Int) > (300 : Int)))))),
     Is (.bool (((decide (((kn : Int) : Int) > (300 : Int))) || ((decide (((s.aN : Int) : Int) > (30 : Int))))) || ((decide (((s.mN : Int) : Int) > (300 : Int)))))),
     Under ((!((((decide (((kn : Int) : Int) > (300 : Int))) || ((decide (((s.aN : Int) : Int) > (30 : Int))))) || ((decide (((s.mN : Int) : Int) > (300 : Int)))))))) (.pointer (some ⟨w.heap.size, 11, none⟩)),
     Under ((!((((decide (((kn : Int) : Int) > (300 : Int))) || ((decide (((s.aN : Int) : Int) > (30 : Int))))) || ((decide (((s.mN : Int) : Int) > (300 : Int)))))))) (.slice s.pA s.pN s.pC),
     Under ((!((((decide (((kn : Int) : Int) > (300 : Int))) || ((decide (((s.aN : Int) : Int) > (30 : Int))))) || ((decide (((s.mN : Int) : Int) > (300 : Int)))))))) (.int .i64 (s.pN : Int)),
     Under ((!((((decide (((kn : Int) : Int) > (300 : Int))) || ((decide (((s.aN : Int) : Int) > (30 : Int))))) || ((decide (((s.mN : Int) : Int) > (300 : Int)))))))) (.bool (decide (((s.pN : Int) : Int) > (300 : Int)))),
     Is (.bool ((((decide (((kn : Int) : Int) > (300 : Int))) || ((decide (((s.aN : Int) : Int) > (30 : Int))))) || ((decide (((s.mN : Int) : Int) > (300 : Int))))) || ((decide (((s.pN : Int) : Int) > (300 : Int)))))),
     Is (.bool ((((decide (((kn : Int) : Int) > (300 : Int))) || ((decide (((s.aN : Int) : Int) > (30 : Int))))) || ((decide (((s.mN : Int) : Int) > (300 : Int))))) || ((decide (((s.pN : Int) : Int) > (300 : Int))))))]
    rfl (by kernel_rfl) rfl Ext.refl (fun _ _ _ => Ext.trans) (KeepAll.is (KeepAll.is (KeepAll.is (KeepAll.is (KeepAll.under (KeepAll.under (KeepAll.under (KeepAll.under (KeepAll.is (KeepAll.is (KeepAll.under (KeepAll.under (KeepAll.under (KeepAll.under (KeepAll.is (KeepAll.is (KeepAll.under (KeepAll.under (KeepAll.under (KeepAll.under (KeepAll.is (KeepAll.is (KeepAll.nil))))))))))))))))))))))) ?_ ?_
  · refine GoodAll.cons ?_ ?_
    · intro r wx hR hx
      obtain ⟨h1, _⟩ := hx
      replace h1 : r (.tmp 0) = .slice ka kn kc := h1
      exact give_move (.inl rfl) ⟨Ext.refl _, h1⟩
    refine GoodAll.cons ?_ ?_
    · intro r wx hR hx
      obtain ⟨h1, _⟩ := hx
      replace h1 : r (.tmp 5) = .slice ka kn kc := h1
      exact give_of (by simp [execOp, h1, go_sem]) ⟨Ext.refl _, rfl⟩
    refine GoodAll.cons ?_ ?_
    · intro r wx hR hx
      obtain ⟨h1, h2, _⟩ := hx
      replace h1 : r (.tmp 6) = .int .i64 (kn : Int) := h1
      replace h2 : r (.const (.int .i64 300)) = .int .i64 300 := h2
      exact give_of (by simp [execOp, h1, h2, go_sem]) ⟨Ext.refl _, rfl⟩
    refine GoodAll.cons ?_ ?_
    · intro r wx hR hx
      obtain ⟨h1, _⟩ := hx
      replace h1 : r (.tmp 7) = .bool (decide (((kn : Int) : Int) > (300 : Int))) := h1
      exact give_move (.inl rfl) ⟨Ext.refl _, h1⟩
    refine GoodAll.cons ?_ ?_
    · intro r wx hR hx
      obtain ⟨h1, _⟩ := hx
      replace h1 : r (.tmp 3) = .pointer (some ⟨w.heap.size, 0, none⟩) := h1
      intro gb hgb
      refine guard_u (C := (!((decide (((kn : Int) : Int) > (300 : Int)))))) (b := (decide (((kn : Int) : Int) > (300 : Int)))) (want := false) hgb (want_f _) (fun hc => ?_) (fun hc => under_no hc)
      exact give_of (by simp [execOp, h1, go_sem]) ⟨Ext.refl _, under_yes hc⟩
    refine GoodAll.cons ?_ ?_
    · intro r wx hR hx
      obtain ⟨h1, _⟩ := hx
      replace h1 : Under ((!((decide (((kn : Int) : Int) > (300 : Int)))))) (.pointer (some ⟨w.heap.size, 9, none⟩)) wx (r (.tmp 9)) := h1
      intro gb hgb
      refine guard_u (C := (!((decide (((kn : Int) : Int) > (300 : Int)))))) (b := (decide (((kn : Int) : Int) > (300 : Int)))) (want := false) hgb (want_f _) (fun hc => ?_) (fun hc => under_no hc)
      replace h1 := h1.get hc
      exact give_of (exec_get oneSA rfl h1 (kv9 (hb1.ext hR))) ⟨Ext.refl _, under_yes hc⟩
    refine GoodAll.cons ?_ ?_
    · intro r wx hR hx
      obtain ⟨h1, _⟩ := hx
      replace h1 : Under ((!((decide (((kn : Int) : Int) > (300 : Int)))))) (.slice s.aA s.aN s.aC) wx (r (.tmp 10)) := h1
      intro gb hgb
      refine guard_u (C := (!((decide (((kn : Int) : Int) > (300 : Int)))))) (b := (decide (((kn : Int) : Int) > (300 : Int)))) (want := false) hgb (want_f _) (fun hc => ?_) (fun hc => under_no hc)
      replace h1 := h1.get hc
      exact give_of (by simp [execOp, h1, go_sem]) ⟨Ext.refl _, under_yes hc⟩
    refine GoodAll.cons ?_ ?_
    · intro r wx hR hx
      obtain ⟨h1, h2, _⟩ := hx
      replace h1 : Under ((!((decide (((kn : Int) : Int) > (300 : Int)))))) (.int .i64 (s.aN : Int)) wx (r (.tmp 11)) := h1
      replace h2 : r (.const (.int .i64 30)) = .int .i64 30 := h2
      intro gb hgb
      refine guard_u (C := (!((decide (((kn : Int) : Int) > (300 : Int)))))) (b := (decide (((kn : Int) : Int) > (300 : Int)))) (want := false) hgb (want_f _) (fun hc => ?_) (fun hc => under_no hc)
      replace h1 := h1.get hc
      exact give_of (by simp [execOp, h1, h2, go_sem]) ⟨Ext.refl _, under_yes hc⟩
    refine GoodAll.cons ?_ ?_
    · intro r wx hR hx
      obtain ⟨h1, h2, h3, _⟩ := hx
      replace h1 : r (.tmp 8) = .bool (decide (((kn : Int) : Int) > (300 : Int))) := h1
      replace h2 : r (.const (.bool true)) = .bool true := h2
      replace h3 : Under ((!((decide (((kn : Int) : Int) > (300 : Int)))))) (.bool (decide (((s.aN : Int) : Int) > (30 : Int)))) wx (r (.tmp 12)) := h3
      exact give_or rfl h2 h1 (fun hb => h3.get (by first | (rw [hb]; rfl) | (rw [hc, hb]; rfl))) ⟨Ext.refl _, rfl⟩
    refine GoodAll.cons ?_ ?_
    · intro r wx hR hx
      obtain ⟨h1, _⟩ := hx
      replace h1 : r (.tmp 13) = .bool ((decide (((kn : Int) : Int) > (300 : Int))) || ((decide (((s.aN : Int) : Int) > (30 : Int))))) := h1
      exact give_move (.inl rfl) ⟨Ext.refl _, h1⟩
    refine GoodAll.cons ?_ ?_
    · intro r wx hR hx
      obtain ⟨h1, _⟩ := hx
      replace h1 : r (.tmp 3) = .pointer (some ⟨w.heap.size, 0, none⟩) := h1
      intro gb hgb
      refine guard_u (C := (!(((decide (((kn : Int) : Int) > (300 : Int))) || ((decide (((s.aN : Int) : Int) > (30 : Int)))))))) (b := ((decide (((kn : Int) : Int) > (300 : Int))) || ((decide (((s.aN : Int) : Int) > (30 : Int)))))) (want := false) hgb (want_f _) (fun hc => ?_) (fun hc => under_no hc)
      exact give_of (by simp [execOp, h1, go_sem]) ⟨Ext.refl _, under_yes hc⟩
    refine GoodAll.cons ?_ ?_
    · intro r wx hR hx
      obtain ⟨h1, _⟩ := hx
      replace h1 : Under ((!(((decide (((kn : Int) : Int) > (300 : Int))) || ((decide (((s.aN : Int) : Int) > (30 : Int)))))))) (.pointer (some ⟨w.heap.size, 10, none⟩)) wx (r (.tmp 15)) := h1
      intro gb hgb
      refine guard_u (C := (!(((decide (((kn : Int) : Int) > (300 : Int))) || ((decide (((s.aN : Int) : Int) > (30 : Int)))))))) (b := ((decide (((kn : Int) : Int) > (300 : Int))) || ((decide (((s.aN : Int) : Int) > (30 : Int)))))) (want := false) hgb (want_f _) (fun hc => ?_) (fun hc => under_no hc)
      replace h1 := h1.get hc
      exact give_of (exec_get oneS rfl h1 (kv10 (hb1.ext hR))) ⟨Ext.refl _, under_yes hc⟩
    refine GoodAll.cons ?_ ?_
    · intro r wx hR hx
      obtain ⟨h1, _⟩ := hx
      replace h1 : Under ((!(((decide (((kn : Int) : Int) > (300 : Int))) || ((decide (((s.aN : Int) : Int) > (30 : Int)))))))) (.slice s.mA s.mN s.mC) wx (r (.tmp 16)) := h1
      intro gb hgb
      refine guard_u (C := (!(((decide (((kn : Int) : Int) > (300 : Int))) || ((decide (((s.aN : Int) : Int) > (30 : Int)))))))) (b := ((decide (((kn : Int) : Int) > (300 : Int))) || ((decide (((s.aN : Int) : Int) > (30 : Int)))))) (want := false) hgb (want_f _) (fun hc => ?_) (fun hc => under_no hc)
      replace h1 := h1.get hc
      exact give_of (by simp [execOp, h1, go_sem]) ⟨Ext.refl _, under_yes hc⟩
    refine GoodAll.cons ?_ ?_
    · intro r wx hR hx
      obtain ⟨h1, h2, _⟩ := hx
      replace h1 : Under ((!(((decide (((kn : Int) : Int) > (300 : Int))) || ((decide (((s.aN : Int) : Int) > (30 : Int)))))))) (.int .i64 (s.mN : Int)) wx (r (.tmp 17)) := h1
      replace h2 : r (.const (.int .i64 300)) = .int .i64 300 := h2
      intro gb hgb
      refine guard_u (C := (!(((decide (((kn : Int) : Int) > (300 : Int))) || ((decide (((s.aN : Int) : Int) > (30 : Int)))))))) (b := ((decide (((kn : Int) : Int) > (300 : Int))) || ((decide (((s.aN : Int) : Int) > (30 : Int)))))) (want := false) hgb (want_f _) (fun hc => ?_) (fun hc => under_no hc)
      replace h1 := h1.get hc
      exact give_of (by simp [execOp, h1, h2, go_sem]) ⟨Ext.refl _, under_yes hc⟩
    refine GoodAll.cons ?_ ?_
    · intro r wx hR hx
      obtain ⟨h1, h2, h3, _⟩ := hx
      replace h1 : r (.tmp 14) = .bool ((decide (((kn : Int) : Int) > (300 : Int))) || ((decide (((s.aN : Int) : Int) > (30 : Int))))) := h1
      replace h2 : r (.const (.bool true)) = .bool true := h2
      replace h3 : Under ((!(((decide (((kn : Int) : Int) > (300 : Int))) || ((decide (((s.aN : Int) : Int) > (30 : Int)))))))) (.bool (decide (((s.mN : Int) : Int) > (300 : Int)))) wx (r (.tmp 18)) := h3
      exact give_or rfl h2 h1 (fun hb => h3.get (by first | (rw [hb]; rfl) | (rw [hc, hb]; rfl))) ⟨Ext.refl _, rfl⟩
    refine GoodAll.cons ?_ ?_
    · intro r wx hR hx
      obtain ⟨h1, _⟩ := hx
      replace h1 : r (.tmp 19) = .bool (((decide (((kn : Int) : Int) > (300 : Int))) || ((decide (((s.aN : Int) : Int) > (30 : Int))))) || ((decide (((s.mN : Int) : Int) > (300 : Int))))) := h1
      exact give_move (.inl rfl) ⟨Ext.refl _, h1⟩
    refine GoodAll.cons ?_ ?_
    · intro r wx hR hx
      obtain ⟨h1, _⟩ := hx
      replace h1 : r (.tmp 3) = .pointer (some ⟨w.heap.size, 0, none⟩) := h1
      intro gb hgb
      refine guard_u (C := (!((((decide (((kn : Int) : Int) > (300 : Int))) || ((decide (((s.aN : Int) : Int) > (30 : Int))))) || ((decide (((s.mN : Int) : Int) > (300 : Int)))))))) (b := (((decide (((kn : Int) : Int) > (300 : Int))) || ((decide (((s.aN : Int) : Int) > (30 : Int))))) || ((decide (((s.mN : Int) : Int) > (300 : Int)))))) (want := false) hgb (want_f _) (fun hc => ?_) (fun hc => under_no hc)
      exact give_of (by simp [execOp, h1, go_sem]) ⟨Ext.refl _, under_yes hc⟩
    refine GoodAll.cons ?_ ?_
    · intro r wx hR hx
      obtain ⟨h1, _⟩ := hx
      replace h1 : Under ((!((((decide (((kn : Int) : Int) > (300 : Int))) || ((decide (((s.aN : Int) : Int) > (30 : Int))))) || ((decide (((s.mN : Int) : Int) > (300 : Int)))))))) (.pointer (some ⟨w.heap.size, 11, none⟩)) wx (r (.tmp 21)) := h1
      intro gb hgb
      refine guard_u (C := (!((((decide (((kn : Int) : Int) > (300 : Int))) || ((decide (((s.aN : Int) : Int) > (30 : Int))))) || ((decide (((s.mN : Int) : Int) > (300 : Int)))))))) (b := (((decide (((kn : Int) : Int) > (300 : Int))) || ((decide (((s.aN : Int) : Int) > (30 : Int))))) || ((decide (((s.mN : Int) : Int) > (300 : Int)))))) (want := false) hgb (want_f _) (fun hc => ?_) (fun hc => under_no hc)
      replace h1 := h1.get hc
      exact give_of (exec_get oneS rfl h1 (kv11 (hb1.ext hR))) ⟨Ext.refl _, under_yes hc⟩
    refine GoodAll.cons ?_ ?_
    · intro r wx hR hx
      obtain ⟨h1, _⟩ := hx
      replace h1 : Under ((!((((decide (((kn : Int) : Int) > (300 : Int))) || ((decide (((s.aN : Int) : Int) > (30 : Int))))) || ((decide (((s.mN : Int) : Int) > (300 : Int)))))))) (.slice s.pA s.pN s.pC) wx (r (.tmp 22)) := h1
      intro gb hgb
      refine guard_u (C := (!((((decide (((kn : Int) : Int) > (300 : Int))) || ((decide (((s.aN : Int) : Int) > (30 : Int))))) || ((decide (((s.mN : Int) : Int) > (300 : Int)))))))) (b := (((decide (((kn : Int) : Int) > (300 : Int))) || ((decide (((s.aN : Int) : Int) > (30 : Int))))) || ((decide (((s.mN : Int) : Int) > (300 : Int)))))) (want := false) hgb (want_f _) (fun hc => ?_) (fun hc => under_no hc)
      replace h1 := h1.get hc
      exact give_of (by simp [execOp, h1, go_sem]) ⟨Ext.refl _, under_yes hc⟩
    refine GoodAll.cons ?_ ?_
    · intro r wx hR hx
      obtain ⟨h1, h2, _⟩ := hx
      replace h1 : Under ((!((((decide (((kn : Int) : Int) > (300 : Int))) || ((decide (((s.aN : Int) : Int) > (30 : Int))))) || ((decide (((s.mN : Int) : Int) > (300 : Int)))))))) (.int .i64 (s.pN : Int)) wx (r (.tmp 23)) := h1
      replace h2 : r (.const (.int .i64 300)) = .int .i64 300 := h2
      intro gb hgb
      refine guard_u (C := (!((((decide (((kn : Int) : Int) > (300 : Int))) || ((decide (((s.aN : Int) : Int) > (30 : Int))))) || ((decide (((s.mN : Int) : Int) > (300 : Int)))))))) (b := (((decide (((kn : Int) : Int) > (300 : Int))) || ((decide (((s.aN : Int) : Int) > (30 : Int))))) || ((decide (((s.mN : Int) : Int) > (300 : Int)))))) (want := false) hgb (want_f _) (fun hc => ?_) (fun hc => under_no hc)
      replace h1 := h1.get hc
      exact give_of (by simp [execOp, h1, h2, go_sem]) ⟨Ext.refl _, under_yes hc⟩
    refine GoodAll.cons ?_ ?_
    · intro r wx hR hx
      obtain ⟨h1, h2, h3, _⟩ := hx
      replace h1 : r (.tmp 20) = .bool (((decide (((kn : Int) : Int) > (300 : Int))) || ((decide (((s.aN : Int) : Int) > (30 : Int))))) || ((decide (((s.mN : Int) : Int) > (300 : Int))))) := h1
      replace h2 : r (.const (.bool true)) = .bool true := h2
      replace h3 : Under ((!((((decide (((kn : Int) : Int) > (300 : Int))) || ((decide (((s.aN : Int) : Int) > (30 : Int))))) || ((decide (((s.mN : Int) : Int) > (300 : Int)))))))) (.bool (decide (((s.pN : Int) : Int) > (300 : Int)))) wx (r (.tmp 24)) := h3
      exact give_or rfl h2 h1 (fun hb => h3.get (by first | (rw [hb]; rfl) | (rw [hc, hb]; rfl))) ⟨Ext.refl _, rfl⟩
    refine GoodAll.cons ?_ ?_
    · intro r wx hR hx
      obtain ⟨h1, _⟩ := hx
      replace h1 : r (.tmp 25) = .bool ((((decide (((kn : Int) : Int) > (300 : Int))) || ((decide (((s.aN : Int) : Int) > (30 : Int))))) || ((decide (((s.mN : Int) : Int) > (300 : Int))))) || ((decide (((s.pN : Int) : Int) > (300 : Int))))) := h1
      exact give_move (.inr rfl) ⟨Ext.refl _, h1⟩
    exact GoodAll.nil
  · intro vs wE aE hR hold haE
    have hv : vs 21 = .bool ((((decide (((kn : Int) : Int) > (300 : Int))) || ((decide (((s.aN : Int) : Int) > (30 : Int))))) || ((decide (((s.mN : Int) : Int) > (300 : Int))))) || ((decide (((s.pN : Int) : Int) > (300 : Int))))) := hold.at 21
    refine ‹∀ (a : Act) (w : World), Code.wp Tryd.prog Code.ret _ a w → _› _ _ ?_
    refine wp_ret ?_
    have hs : aE.tmps[4]? = some (.bool ((((decide (((kn : Int) : Int) > (300 : Int))) || ((decide (((s.aN : Int) : Int) > (30 : Int))))) || ((decide (((s.mN : Int) : Int) > (300 : Int))))) || ((decide (((s.pN : Int) : Int) > (300 : Int)))))) := by rw [haE, ← hv]; kernel_rfl
    have hdf : aE.defers = [] := by rw [haE]; exact putAll_defers _ _ _ _
    clear haE
    refine bodyPost_ret (v := .bool ((((decide (((kn : Int) : Int) > (300 : Int))) || ((decide (((s.aN : Int) : Int) > (30 : Int))))) || ((decide (((s.mN : Int) : Int) > (300 : Int))))) || ((decide (((s.pN : Int) : Int) > (300 : Int)))))) ?_ hdf ⟨rfl, he1.trans hR⟩
    simp [results, Tryd.results8, go_sem, hs]
/-- A cookie that holds the same, its lists in memory of the own. -/
def MadeK (w : World) (c : Co) (e : Ending) (w' : World) : Prop := ∃ s, e = .returned (.agg (KV c s)) ∧ OwnK w' w.heap.size s c ∧ Ext w w'
structure SmallK (c : Co) : Prop where
  a : c.addrs.length ≤ 100000
  m : c.mr.length ≤ 100000
  p : c.pr.length ≤ 100000
theorem noKR : NoK 26 := ⟨by decide, by decide⟩
set_option maxHeartbeats 8000000 in
theorem program_any {w : World} {c : Co} {s : So} (ha : CoAt w s c) (hs : SmallK c) :
    Calls Tryd.prog 9 #[.agg (KV c s)] w (MadeK w c) := by
  have HA : Hid (CoAt w s c ∧ SmallK c) := ⟨ha, hs⟩
  clear ha hs
  go_enter Tryd.func9, Tryd.ntmps9
  refine wp_seq_k (fun K hK => ?_)
  have HK := Stop.mk hK
  clear hK
  go_wp2_with (first
    | (have q := hb1; clear q; refine wl_alloc rfl rfl zeroC ?_; intro w2 hb2 he2 hx; clear hx; have HQ1 : Hid (w.heap.size < w1.heap.size) := hb1.lt; replace hb1 := hb1.ext he2; have HE2 : Hid (Ext w w2) := he1.trans he2; clear he1 he2)
    | (refine wl_box (C := KV c s) rfl rfl rfl ?_; intro w1 hb1 he1 hx; clear hx))
  refine HK.go _ _ ?_
  clear HK
  refine wp_seq_k (fun K2 hK2 => ?_)
  have HK2 := Stop.mk hK2
  clear hK2
  go_wp2_with (first
    | (have q := hb3; clear q; refine wl_store (D := KV c s) rfl rowC rfl rfl rfl hb3 rfl rfl (KV.one _ _) ?_; intro w4 hb4 hk4 hx4; clear hx4)
    | (refine wl_alloc rfl rfl zeroC ?_; intro w3 hb3 he3 hx; clear hx)
    | (refine wl_load rfl rowC2 rfl rfl hb1 rfl ?_))
  refine HK2.go _ _ ?_
  clear HK2
  have HW : Hid (w.heap.size < w2.heap.size) := hb1.lt
  have HQ2 : Hid (w1.heap.size < w2.heap.size) := hb2.lt
  have HE24 : Hid (Ext w2 w4) := he3.of_but hk4 (fun g e => by subst e; exact Nat.le_refl _)
  replace hb1 := hb1.ext HE24.out
  replace hb2 := hb2.ext HE24.out
  clear hb3 hk4 he3
  refine wp_seq_k (fun K3 hK3 => ?_)
  have HK3 := Stop.mk hK3
  clear hK3
  have c9 := kv9 (hb1.ext (Ext.alloc w4 (.cells #[] 54)))
  go_wp2_with (first
    | (at_builtin; refine wl_appE numTA (by decide) rfl rfl rfl rfl (base := w2.heap.size) (Nat.le_of_lt hb4.lt) (Blk.new w4 #[] 54) ((HA.out.1.a.ext (HE2.out.trans HE24.out)).ext (Ext.alloc _ _)) (by have := HA.out.2.a; omega) ?_; intro aa an ac w5 hn5 ho5 he5; have HN5 : Hid (an = c.addrs.length) := hn5.out; clear hn5 c9; have hE5 := (Ext.alloc w4 (.cells #[] 54)).trans he5; replace hb1 := hb1.ext hE5; replace hb2 := hb2.ext hE5; have hb5 := hb4.ext hE5; have HE5 : Hid (Ext w2 w5) := HE24.out.trans hE5; clear hb4 he5 HE24 hE5)
    | (refine wl_set (v := .slice aa an ac) rfl oneSA rfl rfl rfl rfl rfl hb5 (of_decide_eq_true rfl) ?_; intro w6 hbx hk6 hx6; clear hx6; have hb6 : Blk w6 w2.heap.size (KV c ({ aA := aa, aN := an, aC := ac, mA := s.mA, mN := s.mN, mC := s.mC, pA := s.pA, pN := s.pN, pC := s.pC } : So)) 29 := hbx; replace ho5 := ho5.mono_via hk6 (ownsRow_ne ho5.1 hb5 (by decide)); replace hb1 := hb1.but hk6 (Nat.ne_of_lt HW.out); replace hb2 := hb2.but hk6 (Nat.ne_of_lt HQ2.out); have HE6 : Hid (Ext w2 w6) := HE5.out.of_but hk6 (fun g e => by subst e; exact Nat.le_refl _); clear hbx hk6 hb5 HE5))
  refine HK3.go _ _ ?_
  clear HK3
  refine wp_seq_k (fun K4 hK4 => ?_)
  have HK4 := Stop.mk hK4
  clear hK4
  have HS2 : Hid (Blk w6 w.heap.size (KV c s) 26) := hb1
  have HS2x : ∀ {wx : World}, KeepBut (· = w2.heap.size) w6.drew wx → Blk wx w.heap.size (KV c s) 26 := fun hk => (HS2.out.ext (Ext.drew _)).but hk (Nat.ne_of_lt HW.out)
  refine wp_region_W (TwoA w2 w6.drew w2.heap.size 29 (KV c ({ aA := aa, aN := an, aC := ac, mA := s.mA, mN := s.mN, mC := s.mC, pA := s.pA, pN := s.pN, pC := s.pC } : So)) 10 11 .u8 .u8 5 5 (ci c.mr) (ci c.pr) (.pointer (some ⟨w.heap.size, 10, none⟩)) (.slice s.mA s.mN s.mC) (.pointer (some ⟨w.heap.size, 11, none⟩)) (.slice s.pA s.pN s.pC) (.pointer (some ⟨w2.heap.size, 10, none⟩)) (.pointer (some ⟨w2.heap.size, 11, none⟩))) (fun t => bif Nat.ble 10 t && Nat.ble t 18 then some (t - 10) else bif Nat.beq t 19 then some 10 else none) 21 rfl (by kernel_rfl) rfl (fun vs => TwoA.start (HE6.out.trans (Ext.drew _)) (hb6.ext (Ext.drew _))) ?_ ?_
  · refine OwedVs.cons ⟨rfl, ?_⟩ (OwedVs.cons ⟨rfl, ?_⟩ (OwedVs.cons ⟨rfl, ?_⟩ (OwedVs.cons ⟨rfl, ?_⟩ (OwedVs.cons ⟨rfl, ?_⟩ (OwedVs.cons ⟨rfl, ?_⟩ (OwedVs.cons ⟨rfl, ?_⟩ (OwedVs.cons ⟨rfl, ?_⟩ (OwedVs.cons ⟨rfl, ?_⟩ (OwedVs.cons ⟨rfl, ?_⟩ (OwedVs.cons ⟨rfl, ?_⟩ (OwedVs.cons ⟨rfl, ?_⟩ OwedVs.nil)))))))))))
    · intro L vs wx r H hl hL hx
      exact give_empty rfl numT8 H.op0
    · intro L vs wx r H hl hL hx
      obtain ⟨h1, _⟩ := hx
      replace h1 : r (.tmp 1) = .pointer (some ⟨w.heap.size, 0, none⟩) := h1
      exact give_of (by simp [execOp, h1, go_sem]) H.op1
    · intro L vs wx r H hl hL hx
      obtain ⟨h1, _⟩ := hx
      replace h1 : r (.tmp 11) = .pointer (some ⟨w.heap.size, 10, none⟩) := Eq.trans h1 (H.a1 (hL 1 (by kernel_rfl)))
      exact give_of (exec_get oneS rfl h1 (kv10 (HS2x H.keep))) H.op2
    · intro L vs wx r H hl hL hx
      obtain ⟨h1, h2, _⟩ := hx
      obtain ⟨g, e, hg, hB⟩ := H.a0 (hL 0 (by kernel_rfl))
      replace h1 : r (.tmp 10) = .slice (some ⟨g, 0, none⟩) 0 0 := Eq.trans h1 e
      replace h2 : r (.tmp 12) = .slice s.mA s.mN s.mC := Eq.trans h2 (H.a2 (hL 2 (by kernel_rfl)))
      exact give_append numT8 rfl h1 h2 hg hB (nums_of_bytes (HA.out.1.m.ext (HE2.out.trans H.ext))) (by decide) (by have := HA.out.2.m; simp only [ci_len]; omega) (fun ad cap w' ho he => H.op3 hl ho he)
    · intro L vs wx r H hl hL hx
      exact give_empty rfl numT8 H.op4
    · intro L vs wx r H hl hL hx
      obtain ⟨h1, _⟩ := hx
      replace h1 : r (.tmp 1) = .pointer (some ⟨w.heap.size, 0, none⟩) := h1
      exact give_of (by simp [execOp, h1, go_sem]) H.op5
    · intro L vs wx r H hl hL hx
      obtain ⟨h1, _⟩ := hx
      replace h1 : r (.tmp 15) = .pointer (some ⟨w.heap.size, 11, none⟩) := Eq.trans h1 (H.a5 (hL 5 (by kernel_rfl)))
      exact give_of (exec_get oneS rfl h1 (kv11 (HS2x H.keep))) H.op6
    · intro L vs wx r H hl hL hx
      obtain ⟨h1, h2, _⟩ := hx
      obtain ⟨g, e, hg, hB⟩ := H.a4 (hL 4 (by kernel_rfl))
      replace h1 : r (.tmp 14) = .slice (some ⟨g, 0, none⟩) 0 0 := Eq.trans h1 e
      replace h2 : r (.tmp 16) = .slice s.pA s.pN s.pC := Eq.trans h2 (H.a6 (hL 6 (by kernel_rfl)))
      exact give_append numT8 rfl h1 h2 hg hB (nums_of_bytes (HA.out.1.p.ext (HE2.out.trans H.ext))) (by decide) (by have := HA.out.2.p; simp only [ci_len]; omega) (fun ad cap w' ho he => H.op7 hl ho he)
    · intro L vs wx r H hl hL hx
      obtain ⟨h1, _⟩ := hx
      replace h1 : r (.tmp 3) = .pointer (some ⟨w2.heap.size, 0, none⟩) := h1
      exact give_of (by simp [execOp, h1, go_sem]) H.op8
    · intro L vs wx r H hl hL hx
      obtain ⟨h1, h2, _⟩ := hx
      replace h1 : r (.tmp 18) = .pointer (some ⟨w2.heap.size, 10, none⟩) := Eq.trans h1 (H.a8 (hL 8 (by kernel_rfl)))
      obtain ⟨⟨ad, cap, e⟩, _⟩ := H.a3 (hL 3 (by kernel_rfl))
      replace h2 : r (.tmp 13) = _ := Eq.trans h2 e
      obtain ⟨C, hb, hs, _⟩ := H.blk
      exact give_skip (exec_set oneS rfl h1 h2 rfl rfl hb (by rw [hs]; exact of_decide_eq_true rfl)) (H.op9 (hL 3 (by kernel_rfl)) (Nat.le_refl _) (by decide) (of_decide_eq_true rfl) (by decide) (by decide) e.symm)
    · intro L vs wx r H hl hL hx
      obtain ⟨h1, _⟩ := hx
      replace h1 : r (.tmp 3) = .pointer (some ⟨w2.heap.size, 0, none⟩) := h1
      exact give_of (by simp [execOp, h1, go_sem]) H.op10
    · intro L vs wx r H hl hL hx
      obtain ⟨h1, h2, _⟩ := hx
      replace h1 : r (.tmp 19) = .pointer (some ⟨w2.heap.size, 11, none⟩) := Eq.trans h1 (H.aA (hL 10 (by kernel_rfl)))
      obtain ⟨⟨ad, cap, e⟩, _⟩ := H.a7 (hL 7 (by kernel_rfl))
      replace h2 : r (.tmp 17) = _ := Eq.trans h2 e
      obtain ⟨C, hb, hs, _⟩ := H.blk
      exact give_skip (exec_set oneS rfl h1 h2 rfl rfl hb (by rw [hs]; exact of_decide_eq_true rfl)) (H.op11 (hL 7 (by kernel_rfl)) (Nat.le_refl _) (by decide) (of_decide_eq_true rfl) (by decide) (by decide) e.symm)
  · intro vs2 a4 w7 H ha4
    obtain ⟨ma, mc, pa, pc, e3, e7, hbx, hor, hoi⟩ := H.done (by decide) (of_decide_eq_true rfl) (of_decide_eq_true rfl)
    have hbo : Blk w7 w2.heap.size (KV c ({ aA := aa, aN := an, aC := ac, mA := ma, mN := (ci c.mr).length, mC := mc, pA := pa, pN := (ci c.pr).length, pC := pc } : So)) 29 := hbx
    have hv0 := H.a1 rfl; have hv1 := H.a2 rfl; have hv2 := H.a5 rfl; have hv3 := H.a6 rfl; have hv4 := H.a8 rfl; have hv5 := H.aA rfl
    obtain ⟨g0, hv6, -, -⟩ := H.a0 rfl
    obtain ⟨g4, hv7, -, -⟩ := H.a4 rfl
    have hkx := H.keep
    have hex := H.ext
    simp only [putAll, Act.put, Nat.zero_add, Nat.reduceAdd, hv0, hv1, hv2, hv3, hv4, hv5, hv6, hv7, e3, e7, List.setIfInBounds_toArray, List.set_cons_succ, List.set_cons_zero] at ha4
    subst ha4
    clear hv0 hv1 hv2 hv3 hv4 hv5 hv6 hv7 e3 e7 hbx H HS2x
    refine HK4.go _ _ ?_
    clear HK4
    have HE7 : Hid (Ext w2 w7) := hex
    have hkd := (KeepBut.ext (S := (· = w2.heap.size)) (Ext.drew w6)).trans hkx
    replace hb2 := hb2.but hkd (Nat.ne_of_lt HQ2.out)
    replace ho5 := ho5.mono_via hkd (ownsRow_ne ho5.1 hb6 (by decide))
    have HO : Hid (OwnN .i64 w7 w2.heap.size 54 (.slice aa an ac) c.addrs ∧ OwnN .u8 w7 w2.heap.size 5 (.slice ma (ci c.mr).length mc) (ci c.mr) ∧ OwnN .u8 w7 w2.heap.size 5 (.slice pa (ci c.pr).length pc) (ci c.pr)) := ⟨ho5, hor, hoi⟩
    clear hex hkx hkd hb6 HE6 ho5 hor hoi
    go_wp2_with (first
      | (refine wl_load rfl rowC rfl rfl hbo rfl ?_)
      | (refine wl_store (D := KV c ({ aA := aa, aN := an, aC := ac, mA := ma, mN := (ci c.mr).length, mC := mc, pA := pa, pN := (ci c.pr).length, pC := pc } : So)) rfl rowC rfl rfl rfl hb2 rfl rfl (KV.one _ _) ?_; intro w9 hb9 hk9 hx9; clear hx9))
    refine bodyPost_ret (results_cell_row (fn := Tryd.f9) (p := 2) rfl _ w9 _ _ _ (0, 0) _ rfl hb9 Tryd.underlying29 rfl (by kernel_rfl)) rfl ?_
    have hle := Nat.le_of_lt HW.out
    refine ⟨_, rfl, ⟨?_, ?_, ?_⟩, (HE2.out.trans HE7.out).of_but hk9 (fun g e => by subst e; exact Nat.le_of_lt HQ1.out)⟩
    · exact (HO.out.1.mono_via hk9 (ownsRow_ne HO.out.1.1 hb2 (by decide))).base hle
    · exact obN ((HO.out.2.1.mono_via hk9 (ownsRow_ne HO.out.2.1.1 hb2 (by decide))).base hle) HA.out.1.m.1
    · exact obN ((HO.out.2.2.mono_via hk9 (ownsRow_ne HO.out.2.2.1 hb2 (by decide))).base hle) HA.out.1.p.1
end Tlv
end Go.Proofs.YtfhoielfekeihaaDoor
