/- Acts by a row and by the document's own: they answer alike, and stand alike. No condition of its own. -/
import Derived.Test.YtbongjdflnefmaaPlayAt
namespace Go.Proofs.Ytbongjdflnefmaa
open Go.RowKit
set_option linter.unusedVariables false
set_option linter.unusedSimpArgs false
set_option maxRecDepth 100000

set_option maxHeartbeats 8000000 in
theorem play_any {w : World} {b : Nat} {v u sv : Value} {f m : Int} {l : List Int} {n : Nat} {K J X : Nat → Int} (h : RowAt w b v f m l) (hu : NumsAt .i64 w u l) (hap : ∀ g, blockOf u = some g → g < w.heap.size ∧ ¬ Foot b v g)
    (hs : ActsAt w sv n K J X) (hsap : 0 < n → ∀ g, blockOf sv = some g → ¬ Foot b v g) :
    Calls Try.prog 11 #[rowP b, refV f m u, sv] w fun e w' => ∃ f' l' v' u', e = .returned (.tuple #[refV f' m u', .bool true]) ∧ RowAt w' b v' f' m l' ∧ Moves b v v' w w' ∧ NumsAt .i64 w' u' l' ∧ ∀ g, blockOf u' = some g → g < w'.heap.size ∧ ¬ Foot b v' g := by
  have hm := h.hm
  have hmW : W64 m := by omega
  have hblt := h.lt
  obtain ⟨a0, c0', rfl, hcap, _⟩ := hu.form
  obtain ⟨sa, sc, rfl, hsc, hscm⟩ := hs.form
  have hsm : sc ≤ 9223372036854775807 := by unfold maxLen at hscm; omega
  have HS : Hid (ActsAt w (.slice sa n sc) n K J X) := hs
  have HSA : Hid (0 < n → ∀ g, blockOf (.slice sa n sc) = some g → ¬ Foot b v g) := hsap
  have HP0 : Hid (PlayAt w b v m ((w.alloc (.cells #[.int .u32 f, .int .i64 m, .slice a0 l.length c0'] 36)).alloc (.cells #[.int .u32 0, .int .i64 0, .slice none 0 0] 36)) f l v (.slice a0 l.length c0')) :=
    PlayAt.ext (PlayAt.mk h (Moves.refl _ _ _) hu fun g hg => ⟨(hap g hg).1, by have := (hap g hg).1; constructor <;> omega, (hap g hg).2⟩) ((Ext.alloc _ _).trans (Ext.alloc _ _))
  clear hu hs hsap hap h
  go_enter Try.func11, Try.ntmps11
  go_wp2
  go_loopg [36] n (fun gk s wr => ∃ (i : Nat) (f' : Int) (l' : List Int) (v' : Value) (a : Option Addr) (k c : Nat), i ≤ n ∧ gk = n - i ∧ s = .int .i64 i ∧ Hid (PlayAt w b v m wr f' l' v' (.slice a k c)) ∧ Hid (wr.heap[w.heap.size]? = some (.cells #[.int .u32 f', .int .i64 m, .slice a k c] 36 (0, 0))) ∧ Hid (wr.heap[w.heap.size + 1]? = some (.cells #[.int .u32 0, .int .i64 0, .slice none 0 0] 36 (0, 0))))
  case atStart => exact ⟨0, f, l, v, a0, l.length, c0', by omega, rfl, rfl, HP0, two_b0 (Ext.refl _), two_b1 (Ext.refl _)⟩
  case round =>
    obtain ⟨i, f', l', v', a, k, c, hi, rfl, rfl, HP, HB0, HB1⟩ := hrel
    clear HP0
    have c0 : wr.cell? ⟨w.heap.size, 0, none⟩ = some (.int .u32 f') := cell_of_block HB0.out 0
    have c1 : wr.cell? ⟨w.heap.size, 1, none⟩ = some (.int .i64 m) := cell_of_block HB0.out 1
    have c2 : wr.cell? ⟨w.heap.size, 2, none⟩ = some (.slice a k c) := cell_of_block HB0.out 2
    have hsz0 : w.heap.size < wr.heap.size := cell_lt c0
    by_cases hlt : i < n
    · have hlt' : (i : Int) < (n : Int) := by omega
      obtain ⟨sb, so, rfl, s0, s1, s2, hK, hJ, hX⟩ := (HS.out.via fun g hg hlt2 => HP.out.mov.keep.block g hlt2 (HSA.out (by omega) g hg)).cells i hlt
      generalize K i = kk at *
      generalize J i = jj at *
      generalize X i = xx at *
      by_cases k0 : kk = 0
      · subst k0
        go_wp2_with (first
          | (go_at_call 13
             refine (push_u (HP.out.row.ext (Ext.alloc _ _)) hX).mono ?_
             rintro e w2 ⟨v2, rfl, r2, m2⟩
             obtain ⟨q0, q1, q2, q3⟩ := mid_boxes HP.out.row HB0.out HB1.out m2
             obtain ⟨d0, d1, d2⟩ := cells3 q0
             obtain ⟨t0, t1, t2⟩ := cells3 q2
             have HR2 : Hid (RowAt _ _ _ _ _ _) := r2
             have HM2 : Hid (Moves _ _ _ _ _) := m2
             have HQ : Hid (_ ∧ _ ∧ _ ∧ _) := ⟨q0, q1, q2, q3⟩
             clear r2 m2 q0 q1 q2 q3 s0 s1 s2 c0 c1 c2)
          | (go_at_call 30
             refine (rpush_u HP.out.row.hf hmW hX ((HP.out.ext (Ext.alloc _ _)).numsMid HM2.out) HP.out.row.small).mono ?_
             rintro e w3 ⟨a3, k3, c3, rfl, n3, cm3, he3⟩
             have HP3 : Hid (PlayAt w b v m w3 (f') (pushL m l' xx) v2 (.slice a3 k3 c3)) := (HP.out.ext (Ext.alloc _ _)).made (by simp; omega) HR2.out HM2.out n3 cm3 he3
             obtain ⟨q0, q1, q2, q3⟩ := HQ.out
             have b0 := block_ext he3 q0
             have b1 := block_ext he3 q1
             have b2 := block_ext he3 q2
             obtain ⟨y0, y1, y2⟩ := cells3 b0
             obtain ⟨z0, z1, z2⟩ := cells3 b2
             have hs3 : wr.heap.size < w3.heap.size := by have := he3.size; omega
             have hs4 : w.heap.size < w3.heap.size := by omega
             have HQ3 : Hid (_ ∧ _ ∧ _) := ⟨b0, b1, b2⟩
             clear q0 q1 q2 q3 b0 b1 b2 n3 cm3 he3 HR2 HM2 HQ d0 d1 d2 t0 t1 t2 HP HB0 HB1))
        have hE4 := Ext.alloc w3 (Obj.cells #[.int .u32 (f'), .int .i64 m, .slice a3 k3 c3] 36 (0, 0))
        have b0 := block_ext hE4 HQ3.out.1
        have b1 := block_ext hE4 HQ3.out.2.1
        have b2 := block_ext hE4 HQ3.out.2.2
        have nx : (w3.alloc (Obj.cells #[.int .u32 (f'), .int .i64 m, .slice a3 k3 c3] 36 (0, 0))).heap[w3.heap.size]? = some (Obj.cells #[.int .u32 (f'), .int .i64 m, .slice a3 k3 c3] 36 (0, 0)) := Array.getElem?_push_size
        have HP4 := HP3.out.ext hE4
        have hs5 : wr.heap.size ≠ w.heap.size := by omega
        have hB30 : w3.heap.size ≠ w.heap.size := by omega
        generalize w3.alloc (Obj.cells #[.int .u32 (f'), .int .i64 m, .slice a3 k3 c3] 36 (0, 0)) = W4 at *
        generalize w3.heap.size = B3 at *
        clear HP3 HQ3 y0 y1 y2 z0 z1 z2 hE4
        refine wp_region_facts (fun t => bif Nat.ble 96 t && Nat.ble t 105 then some (t - 96) else bif Nat.beq t 10 then some 11 else none) 186 (Puts w.heap.size (Obj.cells #[.int .u32 (f'), .int .i64 m, .slice a3 k3 c3] 36 (0, 0)))
          [Is (.agg #[.int .u32 (f'), .int .i64 m, .slice a3 k3 c3]),
           Is (.int .u32 (pushN f' m l')),
           Is (.int .u32 (pushN f' m l')),
           Is (.bool true),
           Is (.bool true),
           Is (errOf (pushE m l')),
           Is (.int .i64 (pushE m l')),
           Is (.int .i64 (pushE m l')),
           Is (.bool true),
           Is (.bool true),
           (fun wx _ => wx.heap[w.heap.size]? = some (Obj.cells #[.int .u32 (f'), .int .i64 m, .slice a3 k3 c3] 36 (0, 0))),
           Is (.bool true)]
          rfl (by kernel_rfl) (by kernel_rfl) rfl Puts.refl (fun _ _ _ => Puts.trans) ?_ ?_ ?_
        · exact KeepAll.is (KeepAll.is (KeepAll.is (KeepAll.is (KeepAll.is (KeepAll.is (KeepAll.is (KeepAll.is (KeepAll.is (KeepAll.is (KeepAll.cons (fun _ _ _ he h => by rcases he.it with e | e; exact e.trans h; exact e) (KeepAll.is (KeepAll.nil))))))))))))
        · refine GoodAll.cons ?_ ?_
          · intro r wx hR hx
            obtain ⟨h1, _⟩ := hx
            replace h1 : r (.tmp 13) = (.pointer (some ⟨B3, 0, none⟩)) := h1
            obtain ⟨n0, n1, n2⟩ := cells3 ((hR.block B3 hB30).trans nx)
            exact give_of (by simp [execOp, h1, go_sem, n0, n1, n2]) ⟨Puts.refl _, rfl⟩
          refine GoodAll.cons ?_ ?_
          · intro r wx hR hx
            obtain ⟨h1, _⟩ := hx
            replace h1 : r (.tmp 11) = (.int .u32 (pushN f' m l')) := h1
            exact give_move (.inl rfl) ⟨Puts.refl _, h1⟩
          refine GoodAll.cons ?_ ?_
          · intro r wx hR hx
            obtain ⟨h1, _⟩ := hx
            replace h1 : r (.tmp 14) = (.int .u32 (pushN f' m l')) := h1
            exact give_move (.inl rfl) ⟨Puts.refl _, h1⟩
          refine GoodAll.cons ?_ ?_
          · intro r wx hR hx
            obtain ⟨h1, h2, _⟩ := hx
            replace h1 : r (.tmp 97) = (.int .u32 (pushN f' m l')) := h1
            replace h2 : r (.tmp 98) = (.int .u32 (pushN f' m l')) := h2
            exact give_of (by simp [execOp, h1, h2, go_sem]) ⟨Puts.refl _, rfl⟩
          refine GoodAll.cons ?_ ?_
          · intro r wx hR hx
            obtain ⟨h1, _⟩ := hx
            replace h1 : r (.tmp 99) = (.bool true) := h1
            exact give_move (.inl rfl) ⟨Puts.refl _, h1⟩
          refine GoodAll.cons ?_ ?_
          · intro r wx hR hx
            obtain ⟨h1, _⟩ := hx
            replace h1 : r (.tmp 12) = (errOf (pushE m l')) := h1
            intro gb hgb
            refine guard_in (b := gb) (want := true) hgb ?_
            exact give_move (.inl rfl) ⟨Puts.refl _, h1⟩
          refine GoodAll.cons ?_ ?_
          · intro r wx hR hx
            obtain ⟨h1, h2, _⟩ := hx
            replace h1 : r (.func 29) = .func (.func 29) #[] #[] := h1
            replace h2 : r (.tmp 101) = (errOf (pushE m l')) := h2
            intro gb hgb
            refine guard_in (b := gb) (want := true) hgb ?_
            refine give_func #[errOf (pushE m l')] rfl h1 Try.call29 (by simp [h2]) ?_
            refine (num_any _ _ (by unfold pushE; split <;> omega)).mono ?_
            rintro e w' ⟨rfl, rfl⟩
            exact ⟨_, rfl, Puts.refl _, rfl⟩
          refine GoodAll.cons ?_ ?_
          · intro r wx hR hx
            obtain ⟨h1, _⟩ := hx
            replace h1 : r (.tmp 15) = (.int .i64 (pushE m l')) := h1
            intro gb hgb
            refine guard_in (b := gb) (want := true) hgb ?_
            exact give_move (.inl rfl) ⟨Puts.refl _, h1⟩
          refine GoodAll.cons ?_ ?_
          · intro r wx hR hx
            obtain ⟨h1, h2, _⟩ := hx
            replace h1 : r (.tmp 102) = (.int .i64 (pushE m l')) := h1
            replace h2 : r (.tmp 103) = (.int .i64 (pushE m l')) := h2
            intro gb hgb
            refine guard_in (b := gb) (want := true) hgb ?_
            exact give_of (by simp [execOp, h1, h2, go_sem]) ⟨Puts.refl _, rfl⟩
          refine GoodAll.cons ?_ ?_
          · intro r wx hR hx
            obtain ⟨h1, h2, h3, _⟩ := hx
            replace h1 : r (.tmp 100) = (.bool true) := h1
            replace h2 : r (.tmp 104) = (.bool true) := h2
            replace h3 : r (.const (.bool false)) = .bool false := h3
            exact give_pick rfl h1 ⟨Puts.refl _, h2⟩
          refine GoodAll.cons ?_ ?_
          · intro r wx hR hx
            obtain ⟨h1, h2, _⟩ := hx
            replace h1 : r (.tmp 4) = (.pointer (some ⟨w.heap.size, 0, none⟩)) := h1
            replace h2 : r (.tmp 96) = (.agg #[.int .u32 (f'), .int .i64 m, .slice a3 k3 c3]) := h2
            have hB : ∃ x0 x1 x2, wx.heap[w.heap.size]? = some (Obj.cells #[x0, x1, x2] 36 (0, 0)) := by
              rcases hR.it with e | e
              · exact ⟨_, _, _, e.trans b0⟩
              · exact ⟨_, _, _, e⟩
            obtain ⟨x0, x1, x2, hB⟩ := hB
            have p := Puts.store (y0 := .int .u32 (f')) (y1 := .int .i64 m) (y2 := .slice a3 k3 c3) hB
            obtain ⟨n0, n1, n2⟩ := cells3 hB
            have g0 := frozen_of_block hB 0
            have g1 := frozen_of_block hB 1
            have g2 := frozen_of_block hB 2
            exact give_skip (w' := _) (by simp [execOp, h1, h2, go_sem, n0, n1, n2, g0, g1, g2]) ⟨p.1, p.2⟩
          refine GoodAll.cons ?_ ?_
          · intro r wx hR hx
            obtain ⟨h1, _⟩ := hx
            replace h1 : r (.tmp 105) = (.bool true) := h1
            exact give_move (.inr rfl) ⟨Puts.refl _, h1⟩
          exact GoodAll.nil
        · intro vs w5 aZ hR hold ha
          have hv0 : vs 0 = (.agg #[.int .u32 (f'), .int .i64 m, .slice a3 k3 c3]) := hold.at 0
          have hv1 : vs 1 = (.int .u32 (pushN f' m l')) := hold.at 1
          have hv2 : vs 2 = (.int .u32 (pushN f' m l')) := hold.at 2
          have hv3 : vs 3 = (.bool true) := hold.at 3
          have hv4 : vs 4 = (.bool true) := hold.at 4
          have hv5 : vs 5 = (errOf (pushE m l')) := hold.at 5
          have hv6 : vs 6 = (.int .i64 (pushE m l')) := hold.at 6
          have hv7 : vs 7 = (.int .i64 (pushE m l')) := hold.at 7
          have hv8 : vs 8 = (.bool true) := hold.at 8
          have hv9 : vs 9 = (.bool true) := hold.at 9
          have hv11 : vs 11 = (.bool true) := hold.at 11
          have nb0 : w5.heap[w.heap.size]? = some (Obj.cells #[.int .u32 (f'), .int .i64 m, .slice a3 k3 c3] 36 (0, 0)) := hold.at 10
          simp only [putAll, Act.put, hv0, hv1, hv2, hv3, hv4, hv5, hv6, hv7, hv8, hv9, hv11, List.setIfInBounds_toArray, List.set_cons_succ, List.set_cons_zero] at ha
          subst ha
          clear hold hv0 hv1 hv2 hv3 hv4 hv5 hv6 hv7 hv8 hv9 hv11
          have HP5 : Hid (PlayAt _ _ _ _ _ _ _ _ _) := (HP4.ext (Ext.drew _)).puts hblt (HP4.row.notfoot b0 (by decide) (by decide)) hR
          have HN0 : Hid (w5.heap[w.heap.size]? = _) := nb0
          have HN1 : Hid (w5.heap[w.heap.size + 1]? = _) := (hR.block _ (by omega)).trans b1
          have nb2 : w5.heap[wr.heap.size]? = _ := (hR.block _ hs5).trans b2
          obtain ⟨y0, y1, y2⟩ := cells3 nb0
          obtain ⟨z0, z1, z2⟩ := cells3 nb2
          have HN2 : Hid (w5.heap[wr.heap.size]? = _) := nb2
          clear HP4 b0 b1 b2 nx hR nb0 nb2
          refine ‹∀ (a : Act) (w : World), Code.wp Try.prog _ _ a w → _› _ _ ?_
          go_wp2_with (first
            | (go_at_call 23
               refine (at_any HP5.out.row _ hJ).mono ?_
               rintro e w6 ⟨rfl, q6, rfl⟩)
            | (go_at_call 34
               refine (rat_any HP5.out.row.hf hmW hJ (HP5.out.nums.ext (Ext.drewN _ _)) HP5.out.row.small).mono ?_
               rintro e w7 ⟨rfl, he7⟩
               have HE7 : Hid (Ext w5 w7) := (Ext.drewN w5 q6).trans he7
               have p0 := HE7.out.cell y0
               have p1 := HE7.out.cell y1
               have p2 := HE7.out.cell y2
               clear he7 y0 y1 y2 z0 z1 z2)
            | (go_at_call 21
               refine (stands_any (HP5.out.row.ext HE7.out) (HP5.out.nums.ext HE7.out)).mono ?_
               rintro e w8 ⟨rfl, he8⟩
               have HE8 : Hid (Ext w5 w8) := HE7.out.trans he8
               clear he8))
          go_roundg (n - (i + 1))
          case measure => omega
          case rel => exact ⟨i + 1, f', pushL m l' xx, v2, a3, k3, c3, by omega, rfl, by simp, HP5.out.ext HE8.out, block_ext HE8.out HN0.out, block_ext HE8.out HN1.out⟩

      have k0' : (kk == 0) = false := beq_eq_false_iff_ne.2 k0
      by_cases k1 : kk = 1
      · subst k1
        go_wp2_with (first
          | (go_at_call 14
             refine (pop_u (HP.out.row.ext (Ext.alloc _ _))).mono ?_
             rintro e w2 ⟨v2, rfl, r2, m2⟩
             obtain ⟨q0, q1, q2, q3⟩ := mid_boxes HP.out.row HB0.out HB1.out m2
             obtain ⟨d0, d1, d2⟩ := cells3 q0
             obtain ⟨t0, t1, t2⟩ := cells3 q2
             have HR2 : Hid (RowAt _ _ _ _ _ _) := r2
             have HM2 : Hid (Moves _ _ _ _ _) := m2
             have HQ : Hid (_ ∧ _ ∧ _ ∧ _) := ⟨q0, q1, q2, q3⟩
             clear r2 m2 q0 q1 q2 q3 s0 s1 s2 c0 c1 c2)
          | (go_at_call 31
             refine (rpop_u HP.out.row.hf hmW ((HP.out.ext (Ext.alloc _ _)).numsMid HM2.out) HP.out.row.small).mono ?_
             rintro e w3 ⟨a3, k3, c3, rfl, n3, cm3, he3⟩
             have HP3 : Hid (PlayAt w b v m w3 (popF f' l') (l'.tail) v2 (.slice a3 k3 c3)) := (HP.out.ext (Ext.alloc _ _)).made (by simp; omega) HR2.out HM2.out n3 cm3 he3
             obtain ⟨q0, q1, q2, q3⟩ := HQ.out
             have b0 := block_ext he3 q0
             have b1 := block_ext he3 q1
             have b2 := block_ext he3 q2
             obtain ⟨y0, y1, y2⟩ := cells3 b0
             obtain ⟨z0, z1, z2⟩ := cells3 b2
             have hs3 : wr.heap.size < w3.heap.size := by have := he3.size; omega
             have hs4 : w.heap.size < w3.heap.size := by omega
             have HQ3 : Hid (_ ∧ _ ∧ _) := ⟨b0, b1, b2⟩
             clear q0 q1 q2 q3 b0 b1 b2 n3 cm3 he3 HR2 HM2 HQ d0 d1 d2 t0 t1 t2 HP HB0 HB1))
        have hE4 := Ext.alloc w3 (Obj.cells #[.int .u32 (popF f' l'), .int .i64 m, .slice a3 k3 c3] 36 (0, 0))
        have b0 := block_ext hE4 HQ3.out.1
        have b1 := block_ext hE4 HQ3.out.2.1
        have b2 := block_ext hE4 HQ3.out.2.2
        have nx : (w3.alloc (Obj.cells #[.int .u32 (popF f' l'), .int .i64 m, .slice a3 k3 c3] 36 (0, 0))).heap[w3.heap.size]? = some (Obj.cells #[.int .u32 (popF f' l'), .int .i64 m, .slice a3 k3 c3] 36 (0, 0)) := Array.getElem?_push_size
        have HP4 := HP3.out.ext hE4
        have hs5 : wr.heap.size ≠ w.heap.size := by omega
        have hB30 : w3.heap.size ≠ w.heap.size := by omega
        generalize w3.alloc (Obj.cells #[.int .u32 (popF f' l'), .int .i64 m, .slice a3 k3 c3] 36 (0, 0)) = W4 at *
        generalize w3.heap.size = B3 at *
        clear HP3 HQ3 y0 y1 y2 z0 z1 z2 hE4
        refine wp_region_facts (fun t => bif Nat.ble 119 t && Nat.ble t 128 then some (t - 119) else bif Nat.beq t 10 then some 11 else none) 186 (Puts w.heap.size (Obj.cells #[.int .u32 (popF f' l'), .int .i64 m, .slice a3 k3 c3] 36 (0, 0)))
          [Is (.agg #[.int .u32 (popF f' l'), .int .i64 m, .slice a3 k3 c3]),
           Is (.int .i64 (popX l')),
           Is (.int .i64 (popX l')),
           Is (.bool true),
           Is (.bool true),
           Is (errOf (popE l')),
           Is (.int .i64 (popE l')),
           Is (.int .i64 (popE l')),
           Is (.bool true),
           Is (.bool true),
           (fun wx _ => wx.heap[w.heap.size]? = some (Obj.cells #[.int .u32 (popF f' l'), .int .i64 m, .slice a3 k3 c3] 36 (0, 0))),
           Is (.bool true)]
          rfl (by kernel_rfl) (by kernel_rfl) rfl Puts.refl (fun _ _ _ => Puts.trans) ?_ ?_ ?_
        · exact KeepAll.is (KeepAll.is (KeepAll.is (KeepAll.is (KeepAll.is (KeepAll.is (KeepAll.is (KeepAll.is (KeepAll.is (KeepAll.is (KeepAll.cons (fun _ _ _ he h => by rcases he.it with e | e; exact e.trans h; exact e) (KeepAll.is (KeepAll.nil))))))))))))
        · refine GoodAll.cons ?_ ?_
          · intro r wx hR hx
            obtain ⟨h1, _⟩ := hx
            replace h1 : r (.tmp 18) = (.pointer (some ⟨B3, 0, none⟩)) := h1
            obtain ⟨n0, n1, n2⟩ := cells3 ((hR.block B3 hB30).trans nx)
            exact give_of (by simp [execOp, h1, go_sem, n0, n1, n2]) ⟨Puts.refl _, rfl⟩
          refine GoodAll.cons ?_ ?_
          · intro r wx hR hx
            obtain ⟨h1, _⟩ := hx
            replace h1 : r (.tmp 16) = (.int .i64 (popX l')) := h1
            exact give_move (.inl rfl) ⟨Puts.refl _, h1⟩
          refine GoodAll.cons ?_ ?_
          · intro r wx hR hx
            obtain ⟨h1, _⟩ := hx
            replace h1 : r (.tmp 19) = (.int .i64 (popX l')) := h1
            exact give_move (.inl rfl) ⟨Puts.refl _, h1⟩
          refine GoodAll.cons ?_ ?_
          · intro r wx hR hx
            obtain ⟨h1, h2, _⟩ := hx
            replace h1 : r (.tmp 120) = (.int .i64 (popX l')) := h1
            replace h2 : r (.tmp 121) = (.int .i64 (popX l')) := h2
            exact give_of (by simp [execOp, h1, h2, go_sem]) ⟨Puts.refl _, rfl⟩
          refine GoodAll.cons ?_ ?_
          · intro r wx hR hx
            obtain ⟨h1, _⟩ := hx
            replace h1 : r (.tmp 122) = (.bool true) := h1
            exact give_move (.inl rfl) ⟨Puts.refl _, h1⟩
          refine GoodAll.cons ?_ ?_
          · intro r wx hR hx
            obtain ⟨h1, _⟩ := hx
            replace h1 : r (.tmp 17) = (errOf (popE l')) := h1
            intro gb hgb
            refine guard_in (b := gb) (want := true) hgb ?_
            exact give_move (.inl rfl) ⟨Puts.refl _, h1⟩
          refine GoodAll.cons ?_ ?_
          · intro r wx hR hx
            obtain ⟨h1, h2, _⟩ := hx
            replace h1 : r (.func 29) = .func (.func 29) #[] #[] := h1
            replace h2 : r (.tmp 124) = (errOf (popE l')) := h2
            intro gb hgb
            refine guard_in (b := gb) (want := true) hgb ?_
            refine give_func #[errOf (popE l')] rfl h1 Try.call29 (by simp [h2]) ?_
            refine (num_any _ _ (by unfold popE; split <;> omega)).mono ?_
            rintro e w' ⟨rfl, rfl⟩
            exact ⟨_, rfl, Puts.refl _, rfl⟩
          refine GoodAll.cons ?_ ?_
          · intro r wx hR hx
            obtain ⟨h1, _⟩ := hx
            replace h1 : r (.tmp 20) = (.int .i64 (popE l')) := h1
            intro gb hgb
            refine guard_in (b := gb) (want := true) hgb ?_
            exact give_move (.inl rfl) ⟨Puts.refl _, h1⟩
          refine GoodAll.cons ?_ ?_
          · intro r wx hR hx
            obtain ⟨h1, h2, _⟩ := hx
            replace h1 : r (.tmp 125) = (.int .i64 (popE l')) := h1
            replace h2 : r (.tmp 126) = (.int .i64 (popE l')) := h2
            intro gb hgb
            refine guard_in (b := gb) (want := true) hgb ?_
            exact give_of (by simp [execOp, h1, h2, go_sem]) ⟨Puts.refl _, rfl⟩
          refine GoodAll.cons ?_ ?_
          · intro r wx hR hx
            obtain ⟨h1, h2, h3, _⟩ := hx
            replace h1 : r (.tmp 123) = (.bool true) := h1
            replace h2 : r (.tmp 127) = (.bool true) := h2
            replace h3 : r (.const (.bool false)) = .bool false := h3
            exact give_pick rfl h1 ⟨Puts.refl _, h2⟩
          refine GoodAll.cons ?_ ?_
          · intro r wx hR hx
            obtain ⟨h1, h2, _⟩ := hx
            replace h1 : r (.tmp 4) = (.pointer (some ⟨w.heap.size, 0, none⟩)) := h1
            replace h2 : r (.tmp 119) = (.agg #[.int .u32 (popF f' l'), .int .i64 m, .slice a3 k3 c3]) := h2
            have hB : ∃ x0 x1 x2, wx.heap[w.heap.size]? = some (Obj.cells #[x0, x1, x2] 36 (0, 0)) := by
              rcases hR.it with e | e
              · exact ⟨_, _, _, e.trans b0⟩
              · exact ⟨_, _, _, e⟩
            obtain ⟨x0, x1, x2, hB⟩ := hB
            have p := Puts.store (y0 := .int .u32 (popF f' l')) (y1 := .int .i64 m) (y2 := .slice a3 k3 c3) hB
            obtain ⟨n0, n1, n2⟩ := cells3 hB
            have g0 := frozen_of_block hB 0
            have g1 := frozen_of_block hB 1
            have g2 := frozen_of_block hB 2
            exact give_skip (w' := _) (by simp [execOp, h1, h2, go_sem, n0, n1, n2, g0, g1, g2]) ⟨p.1, p.2⟩
          refine GoodAll.cons ?_ ?_
          · intro r wx hR hx
            obtain ⟨h1, _⟩ := hx
            replace h1 : r (.tmp 128) = (.bool true) := h1
            exact give_move (.inr rfl) ⟨Puts.refl _, h1⟩
          exact GoodAll.nil
        · intro vs w5 aZ hR hold ha
          have hv0 : vs 0 = (.agg #[.int .u32 (popF f' l'), .int .i64 m, .slice a3 k3 c3]) := hold.at 0
          have hv1 : vs 1 = (.int .i64 (popX l')) := hold.at 1
          have hv2 : vs 2 = (.int .i64 (popX l')) := hold.at 2
          have hv3 : vs 3 = (.bool true) := hold.at 3
          have hv4 : vs 4 = (.bool true) := hold.at 4
          have hv5 : vs 5 = (errOf (popE l')) := hold.at 5
          have hv6 : vs 6 = (.int .i64 (popE l')) := hold.at 6
          have hv7 : vs 7 = (.int .i64 (popE l')) := hold.at 7
          have hv8 : vs 8 = (.bool true) := hold.at 8
          have hv9 : vs 9 = (.bool true) := hold.at 9
          have hv11 : vs 11 = (.bool true) := hold.at 11
          have nb0 : w5.heap[w.heap.size]? = some (Obj.cells #[.int .u32 (popF f' l'), .int .i64 m, .slice a3 k3 c3] 36 (0, 0)) := hold.at 10
          simp only [putAll, Act.put, hv0, hv1, hv2, hv3, hv4, hv5, hv6, hv7, hv8, hv9, hv11, List.setIfInBounds_toArray, List.set_cons_succ, List.set_cons_zero] at ha
          subst ha
          clear hold hv0 hv1 hv2 hv3 hv4 hv5 hv6 hv7 hv8 hv9 hv11
          have HP5 : Hid (PlayAt _ _ _ _ _ _ _ _ _) := (HP4.ext (Ext.drew _)).puts hblt (HP4.row.notfoot b0 (by decide) (by decide)) hR
          have HN0 : Hid (w5.heap[w.heap.size]? = _) := nb0
          have HN1 : Hid (w5.heap[w.heap.size + 1]? = _) := (hR.block _ (by omega)).trans b1
          have nb2 : w5.heap[wr.heap.size]? = _ := (hR.block _ hs5).trans b2
          obtain ⟨y0, y1, y2⟩ := cells3 nb0
          obtain ⟨z0, z1, z2⟩ := cells3 nb2
          have HN2 : Hid (w5.heap[wr.heap.size]? = _) := nb2
          clear HP4 b0 b1 b2 nx hR nb0 nb2
          refine ‹∀ (a : Act) (w : World), Code.wp Try.prog _ _ a w → _› _ _ ?_
          go_wp2_with (first
            | (go_at_call 23
               refine (at_any HP5.out.row _ hJ).mono ?_
               rintro e w6 ⟨rfl, q6, rfl⟩)
            | (go_at_call 34
               refine (rat_any HP5.out.row.hf hmW hJ (HP5.out.nums.ext (Ext.drewN _ _)) HP5.out.row.small).mono ?_
               rintro e w7 ⟨rfl, he7⟩
               have HE7 : Hid (Ext w5 w7) := (Ext.drewN w5 q6).trans he7
               have p0 := HE7.out.cell y0
               have p1 := HE7.out.cell y1
               have p2 := HE7.out.cell y2
               clear he7 y0 y1 y2 z0 z1 z2)
            | (go_at_call 21
               refine (stands_any (HP5.out.row.ext HE7.out) (HP5.out.nums.ext HE7.out)).mono ?_
               rintro e w8 ⟨rfl, he8⟩
               have HE8 : Hid (Ext w5 w8) := HE7.out.trans he8
               clear he8))
          go_roundg (n - (i + 1))
          case measure => omega
          case rel => exact ⟨i + 1, popF f' l', l'.tail, v2, a3, k3, c3, by omega, rfl, by simp, HP5.out.ext HE8.out, block_ext HE8.out HN0.out, block_ext HE8.out HN1.out⟩

      have k1' : (kk == 1) = false := beq_eq_false_iff_ne.2 k1
      by_cases k2 : kk = 2
      · subst k2
        go_wp2_with (first
          | (go_at_call 24
             refine (set_u (HP.out.row.ext (Ext.alloc _ _)) hJ hX).mono ?_
             rintro e w2 ⟨v2, rfl, r2, m2⟩
             obtain ⟨q0, q1, q2, q3⟩ := mid_boxes HP.out.row HB0.out HB1.out m2
             obtain ⟨d0, d1, d2⟩ := cells3 q0
             obtain ⟨t0, t1, t2⟩ := cells3 q2
             have HR2 : Hid (RowAt _ _ _ _ _ _) := r2
             have HM2 : Hid (Moves _ _ _ _ _) := m2
             have HQ : Hid (_ ∧ _ ∧ _ ∧ _) := ⟨q0, q1, q2, q3⟩
             clear r2 m2 q0 q1 q2 q3 s0 s1 s2 c0 c1 c2)
          | (go_at_call 32
             refine (rset_u HP.out.row.hf hmW hJ hX ((HP.out.ext (Ext.alloc _ _)).numsMid HM2.out) HP.out.row.small).mono ?_
             rintro e w3 ⟨a3, k3, c3, rfl, n3, cm3, he3⟩
             have HP3 : Hid (PlayAt w b v m w3 (f') (setL f' jj l' xx) v2 (.slice a3 k3 c3)) := (HP.out.ext (Ext.alloc _ _)).made (by simp; omega) HR2.out HM2.out n3 cm3 he3
             obtain ⟨q0, q1, q2, q3⟩ := HQ.out
             have b0 := block_ext he3 q0
             have b1 := block_ext he3 q1
             have b2 := block_ext he3 q2
             obtain ⟨y0, y1, y2⟩ := cells3 b0
             obtain ⟨z0, z1, z2⟩ := cells3 b2
             have hs3 : wr.heap.size < w3.heap.size := by have := he3.size; omega
             have hs4 : w.heap.size < w3.heap.size := by omega
             have HQ3 : Hid (_ ∧ _ ∧ _) := ⟨b0, b1, b2⟩
             clear q0 q1 q2 q3 b0 b1 b2 n3 cm3 he3 HR2 HM2 HQ d0 d1 d2 t0 t1 t2 HP HB0 HB1))
        have hE4 := Ext.alloc w3 (Obj.cells #[.int .u32 (f'), .int .i64 m, .slice a3 k3 c3] 36 (0, 0))
        have b0 := block_ext hE4 HQ3.out.1
        have b1 := block_ext hE4 HQ3.out.2.1
        have b2 := block_ext hE4 HQ3.out.2.2
        have nx : (w3.alloc (Obj.cells #[.int .u32 (f'), .int .i64 m, .slice a3 k3 c3] 36 (0, 0))).heap[w3.heap.size]? = some (Obj.cells #[.int .u32 (f'), .int .i64 m, .slice a3 k3 c3] 36 (0, 0)) := Array.getElem?_push_size
        have HP4 := HP3.out.ext hE4
        have hs5 : wr.heap.size ≠ w.heap.size := by omega
        have hB30 : w3.heap.size ≠ w.heap.size := by omega
        generalize w3.alloc (Obj.cells #[.int .u32 (f'), .int .i64 m, .slice a3 k3 c3] 36 (0, 0)) = W4 at *
        generalize w3.heap.size = B3 at *
        clear HP3 HQ3 y0 y1 y2 z0 z1 z2 hE4
        refine wp_region_facts (fun t => bif Nat.ble 146 t && Nat.ble t 150 then some (t - 146) else bif Nat.beq t 10 then some 6 else none) 186 (Puts w.heap.size (Obj.cells #[.int .u32 (f'), .int .i64 m, .slice a3 k3 c3] 36 (0, 0)))
          [Is (.agg #[.int .u32 (f'), .int .i64 m, .slice a3 k3 c3]),
           Is (errOf (setE f' jj l')),
           Is (.int .i64 (setE f' jj l')),
           Is (.int .i64 (setE f' jj l')),
           Is (.bool true),
           (fun wx _ => wx.heap[w.heap.size]? = some (Obj.cells #[.int .u32 (f'), .int .i64 m, .slice a3 k3 c3] 36 (0, 0))),
           Is (.bool true)]
          rfl (by kernel_rfl) (by kernel_rfl) rfl Puts.refl (fun _ _ _ => Puts.trans) ?_ ?_ ?_
        · exact KeepAll.is (KeepAll.is (KeepAll.is (KeepAll.is (KeepAll.is (KeepAll.cons (fun _ _ _ he h => by rcases he.it with e | e; exact e.trans h; exact e) (KeepAll.is (KeepAll.nil)))))))
        · refine GoodAll.cons ?_ ?_
          · intro r wx hR hx
            obtain ⟨h1, _⟩ := hx
            replace h1 : r (.tmp 22) = (.pointer (some ⟨B3, 0, none⟩)) := h1
            obtain ⟨n0, n1, n2⟩ := cells3 ((hR.block B3 hB30).trans nx)
            exact give_of (by simp [execOp, h1, go_sem, n0, n1, n2]) ⟨Puts.refl _, rfl⟩
          refine GoodAll.cons ?_ ?_
          · intro r wx hR hx
            obtain ⟨h1, _⟩ := hx
            replace h1 : r (.tmp 21) = (errOf (setE f' jj l')) := h1
            exact give_move (.inl rfl) ⟨Puts.refl _, h1⟩
          refine GoodAll.cons ?_ ?_
          · intro r wx hR hx
            obtain ⟨h1, h2, _⟩ := hx
            replace h1 : r (.func 29) = .func (.func 29) #[] #[] := h1
            replace h2 : r (.tmp 147) = (errOf (setE f' jj l')) := h2
            refine give_func #[errOf (setE f' jj l')] rfl h1 Try.call29 (by simp [h2]) ?_
            refine (num_any _ _ (by unfold setE; split <;> omega)).mono ?_
            rintro e w' ⟨rfl, rfl⟩
            exact ⟨_, rfl, Puts.refl _, rfl⟩
          refine GoodAll.cons ?_ ?_
          · intro r wx hR hx
            obtain ⟨h1, _⟩ := hx
            replace h1 : r (.tmp 23) = (.int .i64 (setE f' jj l')) := h1
            exact give_move (.inl rfl) ⟨Puts.refl _, h1⟩
          refine GoodAll.cons ?_ ?_
          · intro r wx hR hx
            obtain ⟨h1, h2, _⟩ := hx
            replace h1 : r (.tmp 148) = (.int .i64 (setE f' jj l')) := h1
            replace h2 : r (.tmp 149) = (.int .i64 (setE f' jj l')) := h2
            exact give_of (by simp [execOp, h1, h2, go_sem]) ⟨Puts.refl _, rfl⟩
          refine GoodAll.cons ?_ ?_
          · intro r wx hR hx
            obtain ⟨h1, h2, _⟩ := hx
            replace h1 : r (.tmp 4) = (.pointer (some ⟨w.heap.size, 0, none⟩)) := h1
            replace h2 : r (.tmp 146) = (.agg #[.int .u32 (f'), .int .i64 m, .slice a3 k3 c3]) := h2
            have hB : ∃ x0 x1 x2, wx.heap[w.heap.size]? = some (Obj.cells #[x0, x1, x2] 36 (0, 0)) := by
              rcases hR.it with e | e
              · exact ⟨_, _, _, e.trans b0⟩
              · exact ⟨_, _, _, e⟩
            obtain ⟨x0, x1, x2, hB⟩ := hB
            have p := Puts.store (y0 := .int .u32 (f')) (y1 := .int .i64 m) (y2 := .slice a3 k3 c3) hB
            obtain ⟨n0, n1, n2⟩ := cells3 hB
            have g0 := frozen_of_block hB 0
            have g1 := frozen_of_block hB 1
            have g2 := frozen_of_block hB 2
            exact give_skip (w' := _) (by simp [execOp, h1, h2, go_sem, n0, n1, n2, g0, g1, g2]) ⟨p.1, p.2⟩
          refine GoodAll.cons ?_ ?_
          · intro r wx hR hx
            obtain ⟨h1, _⟩ := hx
            replace h1 : r (.tmp 150) = (.bool true) := h1
            exact give_move (.inr rfl) ⟨Puts.refl _, h1⟩
          exact GoodAll.nil
        · intro vs w5 aZ hR hold ha
          have hv0 : vs 0 = (.agg #[.int .u32 (f'), .int .i64 m, .slice a3 k3 c3]) := hold.at 0
          have hv1 : vs 1 = (errOf (setE f' jj l')) := hold.at 1
          have hv2 : vs 2 = (.int .i64 (setE f' jj l')) := hold.at 2
          have hv3 : vs 3 = (.int .i64 (setE f' jj l')) := hold.at 3
          have hv4 : vs 4 = (.bool true) := hold.at 4
          have hv6 : vs 6 = (.bool true) := hold.at 6
          have nb0 : w5.heap[w.heap.size]? = some (Obj.cells #[.int .u32 (f'), .int .i64 m, .slice a3 k3 c3] 36 (0, 0)) := hold.at 5
          simp only [putAll, Act.put, hv0, hv1, hv2, hv3, hv4, hv6, List.setIfInBounds_toArray, List.set_cons_succ, List.set_cons_zero] at ha
          subst ha
          clear hold hv0 hv1 hv2 hv3 hv4 hv6
          have HP5 : Hid (PlayAt _ _ _ _ _ _ _ _ _) := (HP4.ext (Ext.drew _)).puts hblt (HP4.row.notfoot b0 (by decide) (by decide)) hR
          have HN0 : Hid (w5.heap[w.heap.size]? = _) := nb0
          have HN1 : Hid (w5.heap[w.heap.size + 1]? = _) := (hR.block _ (by omega)).trans b1
          have nb2 : w5.heap[wr.heap.size]? = _ := (hR.block _ hs5).trans b2
          obtain ⟨y0, y1, y2⟩ := cells3 nb0
          obtain ⟨z0, z1, z2⟩ := cells3 nb2
          have HN2 : Hid (w5.heap[wr.heap.size]? = _) := nb2
          clear HP4 b0 b1 b2 nx hR nb0 nb2
          refine ‹∀ (a : Act) (w : World), Code.wp Try.prog _ _ a w → _› _ _ ?_
          go_wp2_with (first
            | (go_at_call 23
               refine (at_any HP5.out.row _ hJ).mono ?_
               rintro e w6 ⟨rfl, q6, rfl⟩)
            | (go_at_call 34
               refine (rat_any HP5.out.row.hf hmW hJ (HP5.out.nums.ext (Ext.drewN _ _)) HP5.out.row.small).mono ?_
               rintro e w7 ⟨rfl, he7⟩
               have HE7 : Hid (Ext w5 w7) := (Ext.drewN w5 q6).trans he7
               have p0 := HE7.out.cell y0
               have p1 := HE7.out.cell y1
               have p2 := HE7.out.cell y2
               clear he7 y0 y1 y2 z0 z1 z2)
            | (go_at_call 21
               refine (stands_any (HP5.out.row.ext HE7.out) (HP5.out.nums.ext HE7.out)).mono ?_
               rintro e w8 ⟨rfl, he8⟩
               have HE8 : Hid (Ext w5 w8) := HE7.out.trans he8
               clear he8))
          go_roundg (n - (i + 1))
          case measure => omega
          case rel => exact ⟨i + 1, f', setL f' jj l' xx, v2, a3, k3, c3, by omega, rfl, by simp, HP5.out.ext HE8.out, block_ext HE8.out HN0.out, block_ext HE8.out HN1.out⟩

      have k2' : (kk == 2) = false := beq_eq_false_iff_ne.2 k2
      go_wp2_with (first
        | (go_at_call 16
           refine (cut_u (HP.out.row.ext (Ext.alloc _ _)) hJ).mono ?_
           rintro e w2 ⟨v2, a5, k5, c5, rfl, hk5, o5, r2, m2, hv5⟩
           obtain ⟨q0, q1, q2, q3⟩ := mid_boxes HP.out.row HB0.out HB1.out m2
           obtain ⟨d0, d1, d2⟩ := cells3 q0
           obtain ⟨t0, t1, t2⟩ := cells3 q2
           have HR2 : Hid (RowAt _ _ _ _ _ _) := r2
           have HM2 : Hid (Moves _ _ _ _ _) := m2
           have HQ : Hid (_ ∧ _ ∧ _ ∧ _) := ⟨q0, q1, q2, q3⟩
           have HO5 : Hid (OwnN _ _ _ _ _ _) := o5
           have HV5 : Hid (_ = _) := hv5
           have HK5 : Hid (_ = _) := hk5
           clear o5 hv5 hk5
           clear r2 m2 q0 q1 q2 q3 s0 s1 s2 c0 c1 c2)
        | (go_at_call 33
           refine (rcut_u HP.out.row.hf hmW hJ ((HP.out.ext (Ext.alloc _ _)).numsMid HM2.out) HP.out.row.small).mono ?_
           rintro e w3 ⟨a3, k3, c3, a6, k6, c6, rfl, n6, n3, cm6, cm3, he3⟩
           have HP3 : Hid (PlayAt w b v m w3 (cutF f' jj l') (cutL f' jj l') v2 (.slice a3 k3 c3)) := (HP.out.ext (Ext.alloc _ _)).made (by simp; omega) HR2.out HM2.out n3 cm3 he3
           obtain ⟨q0, q1, q2, q3⟩ := HQ.out
           have b0 := block_ext he3 q0
           have b1 := block_ext he3 q1
           have b2 := block_ext he3 q2
           obtain ⟨y0, y1, y2⟩ := cells3 b0
           obtain ⟨z0, z1, z2⟩ := cells3 b2
           have hs3 : wr.heap.size < w3.heap.size := by have := he3.size; omega
           have hs4 : w.heap.size < w3.heap.size := by omega
           have HQ3 : Hid (_ ∧ _ ∧ _) := ⟨b0, b1, b2⟩
           have HX5 : Hid (∀ g, (Value.slice a5 k5 c5).ownBlock = some g → wr.heap.size < g ∧ ¬ Foot b v2 g ∧ ∀ k, blockOf (.slice a3 k3 c3) = some k → k ≠ g) := cut_apart HP.out hsz0 HO5.out HV5.out cm3
           have HN5 : Hid (OwnN .i64 w3 0 3 (.slice a5 k5 c5) (cutO f' jj l')) := (HO5.out.base (Nat.zero_le _)).ext he3
           have HN6 : Hid (NumsAt .i64 w3 (.slice a6 k6 c6) (cutO f' jj l')) := n6
           have HX6 : Hid (∀ g, blockOf (.slice a6 k6 c6) = some g → g ≠ w.heap.size) := fun g hg => by
             rcases cm6 g hg with h1 | h1
             · exact (HP.out.apart g h1).2.1.1
             · have := HM2.out.keep.size; simp at this; omega
           clear n6 cm6 HO5 HV5
           clear q0 q1 q2 q3 b0 b1 b2 n3 cm3 he3 HR2 HM2 HQ d0 d1 d2 t0 t1 t2 HP HB0 HB1))
      have hE4 := Ext.alloc w3 (Obj.cells #[.int .u32 (cutF f' jj l'), .int .i64 m, .slice a3 k3 c3] 36 (0, 0))
      have b0 := block_ext hE4 HQ3.out.1
      have b1 := block_ext hE4 HQ3.out.2.1
      have b2 := block_ext hE4 HQ3.out.2.2
      have nx : (w3.alloc (Obj.cells #[.int .u32 (cutF f' jj l'), .int .i64 m, .slice a3 k3 c3] 36 (0, 0))).heap[w3.heap.size]? = some (Obj.cells #[.int .u32 (cutF f' jj l'), .int .i64 m, .slice a3 k3 c3] 36 (0, 0)) := Array.getElem?_push_size
      have HP4 := HP3.out.ext hE4
      have hs5 : wr.heap.size ≠ w.heap.size := by omega
      have hB30 : w3.heap.size ≠ w.heap.size := by omega
      replace HN5 : Hid (OwnN .i64 (w3.alloc (Obj.cells #[.int .u32 (cutF f' jj l'), .int .i64 m, .slice a3 k3 c3] 36 (0, 0))) 0 3 (.slice a5 k5 c5) (cutO f' jj l')) := HN5.out.ext hE4
      replace HN6 : Hid (NumsAt .i64 (w3.alloc (Obj.cells #[.int .u32 (cutF f' jj l'), .int .i64 m, .slice a3 k3 c3] 36 (0, 0))) (.slice a6 k6 c6) (cutO f' jj l')) := HN6.out.ext hE4
      generalize w3.alloc (Obj.cells #[.int .u32 (cutF f' jj l'), .int .i64 m, .slice a3 k3 c3] 36 (0, 0)) = W4 at *
      generalize w3.heap.size = B3 at *
      clear HP3 HQ3 y0 y1 y2 z0 z1 z2 hE4
      refine wp_region_facts (fun t => bif Nat.ble 57 t && Nat.ble t 66 then some (t - 57) else bif Nat.beq t 10 then some 11 else none) 186 (Puts w.heap.size (Obj.cells #[.int .u32 (cutF f' jj l'), .int .i64 m, .slice a3 k3 c3] 36 (0, 0)))
        [Is (.agg #[.int .u32 (cutF f' jj l'), .int .i64 m, .slice a3 k3 c3]),
         Is (.slice a5 k5 c5),
         Is (.slice a6 k6 c6),
         Is (.bool true),
         Is (.bool true),
         Is (errOf (cutE f' jj l')),
         Is (.int .i64 (cutE f' jj l')),
         Is (.int .i64 (cutE f' jj l')),
         Is (.bool true),
         Is (.bool true),
         (fun wx _ => wx.heap[w.heap.size]? = some (Obj.cells #[.int .u32 (cutF f' jj l'), .int .i64 m, .slice a3 k3 c3] 36 (0, 0))),
         Is (.bool true)]
        rfl (by kernel_rfl) (by kernel_rfl) rfl Puts.refl (fun _ _ _ => Puts.trans) ?_ ?_ ?_
      · exact KeepAll.is (KeepAll.is (KeepAll.is (KeepAll.is (KeepAll.is (KeepAll.is (KeepAll.is (KeepAll.is (KeepAll.is (KeepAll.is (KeepAll.cons (fun _ _ _ he h => by rcases he.it with e | e; exact e.trans h; exact e) (KeepAll.is (KeepAll.nil))))))))))))
      · refine GoodAll.cons ?_ ?_
        · intro r wx hR hx
          obtain ⟨h1, _⟩ := hx
          replace h1 : r (.tmp 26) = (.pointer (some ⟨B3, 0, none⟩)) := h1
          obtain ⟨n0, n1, n2⟩ := cells3 ((hR.block B3 hB30).trans nx)
          exact give_of (by simp [execOp, h1, go_sem, n0, n1, n2]) ⟨Puts.refl _, rfl⟩
        refine GoodAll.cons ?_ ?_
        · intro r wx hR hx
          obtain ⟨h1, _⟩ := hx
          replace h1 : r (.tmp 24) = (.slice a5 k5 c5) := h1
          exact give_move (.inl rfl) ⟨Puts.refl _, h1⟩
        refine GoodAll.cons ?_ ?_
        · intro r wx hR hx
          obtain ⟨h1, _⟩ := hx
          replace h1 : r (.tmp 27) = (.slice a6 k6 c6) := h1
          exact give_move (.inl rfl) ⟨Puts.refl _, h1⟩
        refine GoodAll.cons ?_ ?_
        · intro r wx hR hx
          obtain ⟨h1, h2, h3, _⟩ := hx
          replace h1 : r (.func 19) = .func (.func 19) #[] #[] := h1
          replace h2 : r (.tmp 58) = (.slice a5 k5 c5) := h2
          replace h3 : r (.tmp 59) = (.slice a6 k6 c6) := h3
          refine give_func #[.slice a5 k5 c5, .slice a6 k6 c6] rfl h1 Try.call19 (by simp [h2, h3]) ?_
          refine (ints_same _ _ (cutO f' jj l') wx (hR.nums HN5.out.nums (fun g hg => by have := (HX5.out g (by rw [← blockOf_own]; exact hg)).1; omega)) (hR.nums HN6.out HX6.out)).mono ?_
          rintro e w' ⟨rfl, q, rfl⟩
          exact ⟨_, rfl, Puts.drewN _ _, rfl⟩
        refine GoodAll.cons ?_ ?_
        · intro r wx hR hx
          obtain ⟨h1, _⟩ := hx
          replace h1 : r (.tmp 60) = (.bool true) := h1
          exact give_move (.inl rfl) ⟨Puts.refl _, h1⟩
        refine GoodAll.cons ?_ ?_
        · intro r wx hR hx
          obtain ⟨h1, _⟩ := hx
          replace h1 : r (.tmp 25) = (errOf (cutE f' jj l')) := h1
          intro gb hgb
          refine guard_in (b := gb) (want := true) hgb ?_
          exact give_move (.inl rfl) ⟨Puts.refl _, h1⟩
        refine GoodAll.cons ?_ ?_
        · intro r wx hR hx
          obtain ⟨h1, h2, _⟩ := hx
          replace h1 : r (.func 29) = .func (.func 29) #[] #[] := h1
          replace h2 : r (.tmp 62) = (errOf (cutE f' jj l')) := h2
          intro gb hgb
          refine guard_in (b := gb) (want := true) hgb ?_
          refine give_func #[errOf (cutE f' jj l')] rfl h1 Try.call29 (by simp [h2]) ?_
          refine (num_any _ _ (by unfold cutE; split <;> omega)).mono ?_
          rintro e w' ⟨rfl, rfl⟩
          exact ⟨_, rfl, Puts.refl _, rfl⟩
        refine GoodAll.cons ?_ ?_
        · intro r wx hR hx
          obtain ⟨h1, _⟩ := hx
          replace h1 : r (.tmp 28) = (.int .i64 (cutE f' jj l')) := h1
          intro gb hgb
          refine guard_in (b := gb) (want := true) hgb ?_
          exact give_move (.inl rfl) ⟨Puts.refl _, h1⟩
        refine GoodAll.cons ?_ ?_
        · intro r wx hR hx
          obtain ⟨h1, h2, _⟩ := hx
          replace h1 : r (.tmp 63) = (.int .i64 (cutE f' jj l')) := h1
          replace h2 : r (.tmp 64) = (.int .i64 (cutE f' jj l')) := h2
          intro gb hgb
          refine guard_in (b := gb) (want := true) hgb ?_
          exact give_of (by simp [execOp, h1, h2, go_sem]) ⟨Puts.refl _, rfl⟩
        refine GoodAll.cons ?_ ?_
        · intro r wx hR hx
          obtain ⟨h1, h2, h3, _⟩ := hx
          replace h1 : r (.tmp 61) = (.bool true) := h1
          replace h2 : r (.tmp 65) = (.bool true) := h2
          replace h3 : r (.const (.bool false)) = .bool false := h3
          exact give_pick rfl h1 ⟨Puts.refl _, h2⟩
        refine GoodAll.cons ?_ ?_
        · intro r wx hR hx
          obtain ⟨h1, h2, _⟩ := hx
          replace h1 : r (.tmp 4) = (.pointer (some ⟨w.heap.size, 0, none⟩)) := h1
          replace h2 : r (.tmp 57) = (.agg #[.int .u32 (cutF f' jj l'), .int .i64 m, .slice a3 k3 c3]) := h2
          have hB : ∃ x0 x1 x2, wx.heap[w.heap.size]? = some (Obj.cells #[x0, x1, x2] 36 (0, 0)) := by
            rcases hR.it with e | e
            · exact ⟨_, _, _, e.trans b0⟩
            · exact ⟨_, _, _, e⟩
          obtain ⟨x0, x1, x2, hB⟩ := hB
          have p := Puts.store (y0 := .int .u32 (cutF f' jj l')) (y1 := .int .i64 m) (y2 := .slice a3 k3 c3) hB
          obtain ⟨n0, n1, n2⟩ := cells3 hB
          have g0 := frozen_of_block hB 0
          have g1 := frozen_of_block hB 1
          have g2 := frozen_of_block hB 2
          exact give_skip (w' := _) (by simp [execOp, h1, h2, go_sem, n0, n1, n2, g0, g1, g2]) ⟨p.1, p.2⟩
        refine GoodAll.cons ?_ ?_
        · intro r wx hR hx
          obtain ⟨h1, _⟩ := hx
          replace h1 : r (.tmp 66) = (.bool true) := h1
          exact give_move (.inr rfl) ⟨Puts.refl _, h1⟩
        exact GoodAll.nil
      · intro vs w5 aZ hR hold ha
        have hv0 : vs 0 = (.agg #[.int .u32 (cutF f' jj l'), .int .i64 m, .slice a3 k3 c3]) := hold.at 0
        have hv1 : vs 1 = (.slice a5 k5 c5) := hold.at 1
        have hv2 : vs 2 = (.slice a6 k6 c6) := hold.at 2
        have hv3 : vs 3 = (.bool true) := hold.at 3
        have hv4 : vs 4 = (.bool true) := hold.at 4
        have hv5 : vs 5 = (errOf (cutE f' jj l')) := hold.at 5
        have hv6 : vs 6 = (.int .i64 (cutE f' jj l')) := hold.at 6
        have hv7 : vs 7 = (.int .i64 (cutE f' jj l')) := hold.at 7
        have hv8 : vs 8 = (.bool true) := hold.at 8
        have hv9 : vs 9 = (.bool true) := hold.at 9
        have hv11 : vs 11 = (.bool true) := hold.at 11
        have nb0 : w5.heap[w.heap.size]? = some (Obj.cells #[.int .u32 (cutF f' jj l'), .int .i64 m, .slice a3 k3 c3] 36 (0, 0)) := hold.at 10
        simp only [putAll, Act.put, hv0, hv1, hv2, hv3, hv4, hv5, hv6, hv7, hv8, hv9, hv11, List.setIfInBounds_toArray, List.set_cons_succ, List.set_cons_zero] at ha
        subst ha
        clear hold hv0 hv1 hv2 hv3 hv4 hv5 hv6 hv7 hv8 hv9 hv11
        have HP5 : Hid (PlayAt _ _ _ _ _ _ _ _ _) := (HP4.ext (Ext.drew _)).puts hblt (HP4.row.notfoot b0 (by decide) (by decide)) hR
        have HN0 : Hid (w5.heap[w.heap.size]? = _) := nb0
        have HN1 : Hid (w5.heap[w.heap.size + 1]? = _) := (hR.block _ (by omega)).trans b1
        have nb2 : w5.heap[wr.heap.size]? = _ := (hR.block _ hs5).trans b2
        obtain ⟨y0, y1, y2⟩ := cells3 nb0
        obtain ⟨z0, z1, z2⟩ := cells3 nb2
        have HN2 : Hid (w5.heap[wr.heap.size]? = _) := nb2
        have HN7 : Hid (OwnN .i64 w5 0 3 (.slice a5 k5 c5) (cutO f' jj l')) := HN5.out.via fun g hg => hR.block g (by have := (HX5.out g hg).1; omega)
        clear HP4 b0 b1 b2 nx hR nb0 nb2 HN5 HN6 HX6
        refine ‹∀ (a : Act) (w : World), Code.wp Try.prog _ _ a w → _› _ _ ?_
        have HZ : Hid (wr.heap.size ≠ w.heap.size) := hs5
        obtain ⟨BA, hBA⟩ : ∃ BA, wr.heap.size = BA := ⟨_, rfl⟩
        rw [hBA] at z0 z1 z2 HN2 HX5 hs3 hs5 hsz0 ⊢
        clear HS HSA
        have hk5m : k5 ≤ 9223372036854775807 := by
          have h1 := HN7.out.2
          have h2 := HK5.out
          rw [← h2] at h1
          exact h1
        go_wp2
        go_loopg [69] k5 (fun gk s wr => ∃ j : Nat, j ≤ k5 ∧ gk = k5 - j ∧ s = .int .i64 j ∧ Hid (w5.grownBy wr (Value.slice a5 k5 c5).ownBlock) ∧ Hid (∃ L, L.length = k5 ∧ OwnN .i64 wr 0 3 (.slice a5 k5 c5) L))
        case atStart => exact ⟨0, by omega, rfl, rfl, World.grownBy.refl _ _, _, HK5.out.symm, HN7.out⟩
        case round =>
          obtain ⟨j, hj, rfl, rfl, HG, HL⟩ := hrel
          by_cases hjl : j < k5
          · obtain ⟨L, hLl, hLo⟩ := HL.out
            have hjl' : (j : Int) < (k5 : Int) := by omega
            obtain ⟨g5, rfl⟩ : ∃ g5, a5 = some ⟨g5, 0, none⟩ := by
              obtain ⟨a9, c9, e9, h5, h6⟩ := hLo.slice
              cases e9
              cases a5 with
              | none => have := (h5 rfl).1; subst this; rw [← hLl] at hjl; simp at hjl
              | some z => obtain ⟨g, rfl, _⟩ := h6 z rfl; exact ⟨g, rfl⟩
            have q1 : wr.cell? ⟨g5, j, none⟩ = some (.int .i64 (L.getD j 0)) := by
              have hLo' := hLo.1
              rw [hLl] at hLo'
              rw [hLo'.cellAt j (by omega)]
              simp [List.getD_eq_getElem?_getD, show j < L.length by omega]
            have q2 : wr.frozen? ⟨g5, j, none⟩ = false := by
              rcases hLo.1.2 with ⟨h0, _⟩ | ⟨g', cap', cur, h0, _, hgb, _⟩
              · cases h0
              · cases h0; exact frozen_of_block hgb j
            have HLo : Hid (L.length = k5 ∧ OwnN .i64 wr 0 3 (.slice (some ⟨g5, 0, none⟩) k5 c5) L) := ⟨hLl, hLo⟩
            clear hLl hLo
            generalize L.getD j 0 = y at *
            go_wp2
            go_roundg (k5 - (j + 1))
            case measure => omega
            case rel =>
              have hst := HLo.out.2.stored j (wrap64 (y + 1))
              exact ⟨j + 1, by omega, rfl, by simp, grown_trans HG.out hst.2, _, by simpa using HLo.out.1, hst.1⟩
          · have hd : decide ((j : Int) < (k5 : Int)) = false := decide_eq_false (by omega)
            have HX7 : Hid (∀ g, (Value.slice a5 k5 c5).ownBlock = some g → BA < g) := fun g hg => (HX5.out g hg).1
            have HP6 : Hid (PlayAt w b v m wr (cutF f' jj l') (cutL f' jj l') v2 (.slice a3 k3 c3)) := HP5.out.other HG.out (fun g hg => ⟨by have := (HX5.out g hg).1; omega, (HX5.out g hg).2⟩)
            have nb0 := block_grown HG.out HN0.out (fun g hg => by have := HX7.out g hg; omega)
            have nb1 := block_grown HG.out HN1.out (fun g hg => by have := HX7.out g hg; omega)
            have nb2 := block_grown HG.out HN2.out (fun g hg => by have := HX7.out g hg; omega)
            clear HP5 HN0 HN1 HN2 y0 y1 y2 z0 z1 z2 HG HL HN7 HX5
            obtain ⟨y0, y1, y2⟩ := cells3 nb0
            obtain ⟨z0, z1, z2⟩ := cells3 nb2
            have HN0 : Hid (wr.heap[w.heap.size]? = _) := nb0
            have HN1 : Hid (wr.heap[w.heap.size + 1]? = _) := nb1
            have HP5 : Hid (PlayAt w b v m wr (cutF f' jj l') (cutL f' jj l') v2 (.slice a3 k3 c3)) := HP6
            clear HP6 nb0 nb1 nb2
            go_wp2_with (first
              | (go_at_call 23
                 refine (at_any HP5.out.row _ hJ).mono ?_
                 rintro e w6 ⟨rfl, q6, rfl⟩)
              | (go_at_call 34
                 refine (rat_any HP5.out.row.hf hmW hJ (HP5.out.nums.ext (Ext.drewN _ _)) HP5.out.row.small).mono ?_
                 rintro e w7 ⟨rfl, he7⟩
                 have HE7 : Hid (Ext wr w7) := (Ext.drewN wr q6).trans he7
                 have p0 := HE7.out.cell y0
                 have p1 := HE7.out.cell y1
                 have p2 := HE7.out.cell y2
                 clear he7 y0 y1 y2 z0 z1 z2)
              | (go_at_call 21
                 refine (stands_any (HP5.out.row.ext HE7.out) (HP5.out.nums.ext HE7.out)).mono ?_
                 rintro e w8 ⟨rfl, he8⟩
                 have HE8 : Hid (Ext wr w8) := HE7.out.trans he8
                 clear he8))
            go_roundg (n - (i + 1))
            case measure => omega
            case rel => exact ⟨i + 1, cutF f' jj l', cutL f' jj l', v2, a3, k3, c3, by omega, rfl, by simp, HP5.out.ext HE8.out, block_ext HE8.out HN0.out, block_ext HE8.out HN1.out⟩

    · have hlt' : decide ((i : Int) < (n : Int)) = false := decide_eq_false (by omega)
      have e0 : wr.cell? ⟨w.heap.size + 1, 0, none⟩ = some (.int .u32 0) := cell_of_block HB1.out 0
      have e1 : wr.cell? ⟨w.heap.size + 1, 1, none⟩ = some (.int .i64 0) := cell_of_block HB1.out 1
      have e2 : wr.cell? ⟨w.heap.size + 1, 2, none⟩ = some (.slice none 0 0) := cell_of_block HB1.out 2
      have g0 : wr.frozen? ⟨w.heap.size + 1, 0, none⟩ = false := frozen_of_block HB1.out 0
      have g1 : wr.frozen? ⟨w.heap.size + 1, 1, none⟩ = false := frozen_of_block HB1.out 1
      have g2 : wr.frozen? ⟨w.heap.size + 1, 2, none⟩ = false := frozen_of_block HB1.out 2
      go_wp2
      obtain ⟨p1, p2⟩ := Puts.store (y0 := .int .u32 f') (y1 := .int .i64 m) (y2 := .slice a k c) HB1.out
      have hfin := HP.out.other (r := some (w.heap.size + 1)) ⟨p1.os, p1.tape, p1.output, Nat.le_of_eq p1.size.symm, fun q _ hq => p1.block q (fun e => hq (by rw [e]))⟩ (fun g hg => by
        cases hg
        exact ⟨by omega, HP.out.row.notfoot HB1.out (by decide) (by decide), fun q hq => (HP.out.apart q hq).2.1.2⟩)
      refine bodyPost_ret (v := .tuple #[refV f' m (.slice a k c), .bool true]) ?_ rfl ⟨f', l', v', _, rfl, hfin.row, hfin.mov, hfin.nums, fun g hg => ⟨(hfin.apart g hg).1, (hfin.apart g hg).2.2⟩⟩
      simp [results, Try.f11, go_sem, c0, c1, c2, e0, e1, e2]
end Go.Proofs.Ytbongjdflnefmaa
