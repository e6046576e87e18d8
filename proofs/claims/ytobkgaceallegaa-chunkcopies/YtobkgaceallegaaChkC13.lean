/- Texts of the seat, one behind the other. No condition of its own. -/
import Derived.Test.YtobkgaceallegaaChkC12
/- The document's sameness is the code's. No condition of its own. -/
namespace Go.Proofs.Ytobkgaceallegaa
namespace Tlv
open Go Go.RowKit
set_option linter.unusedVariables false
set_option linter.unusedSimpArgs false
set_option maxRecDepth 100000

theorem refSameB_eq (c d : Ck) : refSameB c d = sameB c d := by
  rw [Bool.eq_iff_iff]
  simp only [refSameB, diffNB, diffPB, sameB, samePB, Bool.and_eq_true, Bool.not_eq_true', Bool.or_eq_false_iff, decide_eq_true_eq, beq_iff_eq, bne_eq_false_iff_eq, Bool.not_eq_false', Int.ofNat_inj, Int.natCast_inj]
  constructor
  · intro h; simp_all
  · intro h
    have hd : c.dups = d.dups := ci_inj h.1.1.1.1.2
    simp_all
end Tlv
end Go.Proofs.Ytobkgaceallegaa

/- Two lists appended to empty ones and stored into two fields, in whatever order. No condition of its own. -/
namespace Go.Proofs.Ytobkgaceallegaa
namespace Tlv
open Go Go.RowKit
set_option linter.unusedVariables false
set_option linter.unusedSimpArgs false
set_option maxRecDepth 100000

theorem run_append_empty {P : Program} {t e : TypeId} {k : IntKind} {by8 : Nat} (hT : NumT P t e k by8) (w : World) (base ty g : Nat) (x : Value) (m : List Int) (hg : base ≤ g) (hB : Blk w g #[] e) (hx : NumsAt k w x m) (hlen : m.length * by8 ≤ 140737488355328) (hlen2 : m.length ≤ 140737488355328) :
    ∃ ad cap w', (Builtin.append_ #[t, t] ty #[.slice (some ⟨g, 0, none⟩) 0 0, x]).run P w = .ok (.slice ad m.length cap) w' ∧ OwnN k w' base e (.slice ad m.length cap) m ∧ Ext w w' := by
  obtain ⟨i, hi, hz, hs, hby⟩ := hT.ex
  have hown : w.ownsRow base e 1 (.slice (some ⟨g, 0, none⟩) 0 0) 0 [] := ⟨rfl, .inr ⟨g, 0, #[], rfl, hg, hB, by simp, by simp [maxLen], rfl, rfl⟩⟩
  obtain ⟨hm, ⟨rfl, rfl⟩ | ⟨ad, c, rfl, h1, h2, hc⟩⟩ := hx
  · exact ⟨_, 0, w, run_append_owned_none w base t ty e i 1 hT.ut hi _ _ _ hown, ⟨by simpa using hown, by simp [maxLen]⟩, Ext.refl _⟩
  · cases m with
    | nil =>
      have hr := run_append_room_cells (P := P) (w := w) t ty e i hT.ut hi g 0 0 0 ad 0 c [] (by simp) (by simp) (by simp) (by simp) (by simp) (by simp)
      exact ⟨_, 0, w, hr, ⟨by simpa using hown, by simp [maxLen]⟩, Ext.refl _⟩
    | cons y m =>
      obtain ⟨v', w', hr, h3, h4⟩ := run_append_arg_grows (P := P) (w := w) t ty e i (.int k 0) 1 by8 hT.ut hi hz hs hby rfl (by omega) ⟨g, 0, none⟩ 0 0 [] rfl (by simp) ad (m.length + 1) c ((y :: m).map (Value.int k)) (by simp)
        (fun j u hu => by
          rw [List.getElem?_map] at hu
          obtain ⟨z, hz', rfl⟩ := Option.map_eq_some_iff.1 hu
          have hj : j < (y :: m).length := (List.getElem?_eq_some_iff.1 hz').1
          rw [hc j hj]
          simp [List.getD_eq_getElem?_getD, hz']) (by omega) (by simp only [List.length_cons] at hlen2; unfold maxLen; omega) (by simpa using hlen)
      have hO : OwnN k w' base e v' (y :: m) := OwnN.base (base := w.heap.size) ⟨by simpa using h3, hm⟩ (Nat.le_trans hg (Nat.le_of_lt hB.lt))
      obtain ⟨a', c', rfl, _⟩ := hO.slice
      exact ⟨a', c', w', hr, hO, Ext.of_grown h4⟩
theorem give_append {P : Program} {t e : TypeId} {k : IntKind} {by8 : Nat} (hT : NumT P t e k by8) {w : World} {r : Operand → Value} {o : Oper} {K : Value → World → Prop} {s x : Operand} (ho : o.op = .call { callee := .builtin .append, args := #[s, x], argTypes := #[t, t] })
    {base g : Nat} {u : Value} {m : List Int} (hs : r s = .slice (some ⟨g, 0, none⟩) 0 0) (hxx : r x = u) (hg : base ≤ g) (hB : Blk w g #[] e) (hx : NumsAt k w u m) (h8 : by8 ≤ 8) (hlen : m.length ≤ 1000000)
    (h : ∀ ad cap w', OwnN k w' base e (.slice ad m.length cap) m → Ext w w' → K (.slice ad m.length cap) w') : give P K ((execOp r o).run P w) := by
  obtain ⟨ad, cap, w', hr, h1, h2⟩ := run_append_empty hT w base o.type g u m hg hB hx (by have := Nat.mul_le_mul_left m.length h8; omega) (by omega)
  refine give_of (v := .slice ad m.length cap) (w' := w') ?_ (h ad cap w' h1 h2)
  simp only [execOp, ho, resolve, invoke, builtin, Sem.run_bind, Sem.run_pure, Result.andThen_ok, List.map_toArray, List.map_cons, List.map_nil, hs, hxx, hr]
theorem give_empty {P : Program} {w : World} {r : Operand → Value} {o : Oper} {K : Value → World → Prop} {t e : TypeId} (ho : o.op = .buildSlice t 0 #[]) {k : IntKind} {by8 : Nat} (hT : NumT P t e k by8)
    (h : K (.slice (some ⟨w.heap.size, 0, none⟩) 0 0) (w.alloc (.cells #[] e))) : give P K ((execOp r o).run P w) := by
  obtain ⟨i, hi, hz, hs, hby⟩ := hT.ex
  refine give_of (v := .slice (some ⟨w.heap.size, 0, none⟩) 0 0) (w' := w.alloc (.cells #[] e)) ?_ h
  simp [execOp, ho, go_sem, run_underlying hT.ut, hi, hz, hs, sizeOf, typeInfo]
/-- What holds while the region goes. -/
structure TwoA (w0 ws : World) (G T : Nat) (C0 : Array Value) (j1 j2 : Nat) (k1 k2 : IntKind) (e1 e2 : TypeId) (L1 L2 : List Int) (p1 s1 p2 s2 q1 q2 : Value) (L : Nat → Bool) (vs : Nat → Value) (wx : World) : Prop where
  ext : Ext w0 wx
  keep : KeepBut (· = G) ws wx
  blk : ∃ C, Blk wx G C T ∧ C.size = C0.size ∧ (∀ j, j ≠ j1 → j ≠ j2 → C[j]? = C0[j]?) ∧ (L 9 = true → C[j1]? = some (vs 3)) ∧ (L 11 = true → C[j2]? = some (vs 7))
  a0 : L 0 = true → ∃ g, vs 0 = .slice (some ⟨g, 0, none⟩) 0 0 ∧ w0.heap.size ≤ g ∧ Blk wx g #[] e1
  a1 : L 1 = true → vs 1 = p1
  a2 : L 2 = true → vs 2 = s1
  a3 : L 3 = true → (∃ ad cap, vs 3 = .slice ad L1.length cap) ∧ OwnN k1 wx w0.heap.size e1 (vs 3) L1
  a4 : L 4 = true → ∃ g, vs 4 = .slice (some ⟨g, 0, none⟩) 0 0 ∧ w0.heap.size ≤ g ∧ Blk wx g #[] e2
  a5 : L 5 = true → vs 5 = p2
  a6 : L 6 = true → vs 6 = s2
  a7 : L 7 = true → (∃ ad cap, vs 7 = .slice ad L2.length cap) ∧ OwnN k2 wx w0.heap.size e2 (vs 7) L2
  a8 : L 8 = true → vs 8 = q1
  aA : L 10 = true → vs 10 = q2
  i9 : L 9 = true → L 3 = true
  iB : L 11 = true → L 7 = true
section
variable {w0 ws wx : World} {G T j1 j2 : Nat} {C0 : Array Value} {k1 k2 : IntKind} {e1 e2 : TypeId} {L1 L2 : List Int} {p1 s1 p2 s2 q1 q2 : Value} {L : Nat → Bool} {vs : Nat → Value}
theorem TwoA.start (he : Ext w0 wx) (hb : Blk wx G C0 T) : TwoA w0 wx G T C0 j1 j2 k1 k2 e1 e2 L1 L2 p1 s1 p2 s2 q1 q2 (fun i => decide (12 ≤ i)) vs wx :=
  ⟨he, KeepBut.refl _ _, ⟨C0, hb, rfl, fun _ _ _ => rfl, fun h => by simp at h, fun h => by simp at h⟩, fun h => by simp at h, fun h => by simp at h, fun h => by simp at h, fun h => by simp at h, fun h => by simp at h, fun h => by simp at h, fun h => by simp at h, fun h => by simp at h, fun h => by simp at h, fun h => by simp at h, fun h => by simp at h, fun h => by simp at h⟩
/-- All in a grown world. -/
theorem TwoA.grow (H : TwoA w0 ws G T C0 j1 j2 k1 k2 e1 e2 L1 L2 p1 s1 p2 s2 q1 q2 L vs wx) {w' : World} (he : Ext wx w') : TwoA w0 ws G T C0 j1 j2 k1 k2 e1 e2 L1 L2 p1 s1 p2 s2 q1 q2 L vs w' := by
  obtain ⟨C, hb, h2⟩ := H.blk
  exact ⟨H.ext.trans he, H.keep.trans (KeepBut.ext he), ⟨C, hb.ext he, h2⟩, fun h => by obtain ⟨g, a, b, c⟩ := H.a0 h; exact ⟨g, a, b, c.ext he⟩, H.a1, H.a2, fun h => ⟨(H.a3 h).1, (H.a3 h).2.ext he⟩, fun h => by obtain ⟨g, a, b, c⟩ := H.a4 h; exact ⟨g, a, b, c.ext he⟩, H.a5, H.a6, fun h => ⟨(H.a7 h).1, (H.a7 h).2.ext he⟩, H.a8, H.aA, H.i9, H.iB⟩
theorem TwoA.op1 (H : TwoA w0 ws G T C0 j1 j2 k1 k2 e1 e2 L1 L2 p1 s1 p2 s2 q1 q2 L vs wx) : TwoA w0 ws G T C0 j1 j2 k1 k2 e1 e2 L1 L2 p1 s1 p2 s2 q1 q2 (met1 L 1) (updV vs 1 p1) wx := ⟨H.ext, H.keep, H.blk, H.a0, fun _ => rfl, H.a2, H.a3, H.a4, H.a5, H.a6, H.a7, H.a8, H.aA, H.i9, H.iB⟩
theorem TwoA.op2 (H : TwoA w0 ws G T C0 j1 j2 k1 k2 e1 e2 L1 L2 p1 s1 p2 s2 q1 q2 L vs wx) : TwoA w0 ws G T C0 j1 j2 k1 k2 e1 e2 L1 L2 p1 s1 p2 s2 q1 q2 (met1 L 2) (updV vs 2 s1) wx := ⟨H.ext, H.keep, H.blk, H.a0, H.a1, fun _ => rfl, H.a3, H.a4, H.a5, H.a6, H.a7, H.a8, H.aA, H.i9, H.iB⟩
theorem TwoA.op5 (H : TwoA w0 ws G T C0 j1 j2 k1 k2 e1 e2 L1 L2 p1 s1 p2 s2 q1 q2 L vs wx) : TwoA w0 ws G T C0 j1 j2 k1 k2 e1 e2 L1 L2 p1 s1 p2 s2 q1 q2 (met1 L 5) (updV vs 5 p2) wx := ⟨H.ext, H.keep, H.blk, H.a0, H.a1, H.a2, H.a3, H.a4, fun _ => rfl, H.a6, H.a7, H.a8, H.aA, H.i9, H.iB⟩
theorem TwoA.op6 (H : TwoA w0 ws G T C0 j1 j2 k1 k2 e1 e2 L1 L2 p1 s1 p2 s2 q1 q2 L vs wx) : TwoA w0 ws G T C0 j1 j2 k1 k2 e1 e2 L1 L2 p1 s1 p2 s2 q1 q2 (met1 L 6) (updV vs 6 s2) wx := ⟨H.ext, H.keep, H.blk, H.a0, H.a1, H.a2, H.a3, H.a4, H.a5, fun _ => rfl, H.a7, H.a8, H.aA, H.i9, H.iB⟩
theorem TwoA.op8 (H : TwoA w0 ws G T C0 j1 j2 k1 k2 e1 e2 L1 L2 p1 s1 p2 s2 q1 q2 L vs wx) : TwoA w0 ws G T C0 j1 j2 k1 k2 e1 e2 L1 L2 p1 s1 p2 s2 q1 q2 (met1 L 8) (updV vs 8 q1) wx := ⟨H.ext, H.keep, H.blk, H.a0, H.a1, H.a2, H.a3, H.a4, H.a5, H.a6, H.a7, fun _ => rfl, H.aA, H.i9, H.iB⟩
theorem TwoA.op10 (H : TwoA w0 ws G T C0 j1 j2 k1 k2 e1 e2 L1 L2 p1 s1 p2 s2 q1 q2 L vs wx) : TwoA w0 ws G T C0 j1 j2 k1 k2 e1 e2 L1 L2 p1 s1 p2 s2 q1 q2 (met1 L 10) (updV vs 10 q2) wx := ⟨H.ext, H.keep, H.blk, H.a0, H.a1, H.a2, H.a3, H.a4, H.a5, H.a6, H.a7, H.a8, fun _ => rfl, H.i9, H.iB⟩
theorem TwoA.op0 (H0 : TwoA w0 ws G T C0 j1 j2 k1 k2 e1 e2 L1 L2 p1 s1 p2 s2 q1 q2 L vs wx) : TwoA w0 ws G T C0 j1 j2 k1 k2 e1 e2 L1 L2 p1 s1 p2 s2 q1 q2 (met1 L 0) (updV vs 0 (.slice (some ⟨wx.heap.size, 0, none⟩) 0 0)) (wx.alloc (.cells #[] e1)) := by
  have H := H0.grow (Ext.alloc wx (.cells #[] e1))
  exact ⟨H.ext, H.keep, H.blk, fun _ => ⟨wx.heap.size, rfl, H0.ext.size, Blk.new _ _ _⟩, H.a1, H.a2, H.a3, H.a4, H.a5, H.a6, H.a7, H.a8, H.aA, H.i9, H.iB⟩
theorem TwoA.op4 (H0 : TwoA w0 ws G T C0 j1 j2 k1 k2 e1 e2 L1 L2 p1 s1 p2 s2 q1 q2 L vs wx) : TwoA w0 ws G T C0 j1 j2 k1 k2 e1 e2 L1 L2 p1 s1 p2 s2 q1 q2 (met1 L 4) (updV vs 4 (.slice (some ⟨wx.heap.size, 0, none⟩) 0 0)) (wx.alloc (.cells #[] e2)) := by
  have H := H0.grow (Ext.alloc wx (.cells #[] e2))
  exact ⟨H.ext, H.keep, H.blk, H.a0, H.a1, H.a2, H.a3, fun _ => ⟨wx.heap.size, rfl, H0.ext.size, Blk.new _ _ _⟩, H.a5, H.a6, H.a7, H.a8, H.aA, H.i9, H.iB⟩
theorem TwoA.op3 (H0 : TwoA w0 ws G T C0 j1 j2 k1 k2 e1 e2 L1 L2 p1 s1 p2 s2 q1 q2 L vs wx) (hl : L 3 = false) {w' : World} {ad : Option Addr} {cap : Nat} (ho : OwnN k1 w' w0.heap.size e1 (.slice ad L1.length cap) L1) (he : Ext wx w') : TwoA w0 ws G T C0 j1 j2 k1 k2 e1 e2 L1 L2 p1 s1 p2 s2 q1 q2 (met1 L 3) (updV vs 3 (.slice ad L1.length cap)) w' := by
  have H := H0.grow he
  have hb' : ∃ C, Blk w' G C T ∧ C.size = C0.size ∧ (∀ j, j ≠ j1 → j ≠ j2 → C[j]? = C0[j]?) ∧ (met1 L 3 9 = true → C[j1]? = some (updV vs 3 (.slice ad L1.length cap) 3)) ∧ (met1 L 3 11 = true → C[j2]? = some (updV vs 3 (.slice ad L1.length cap) 7)) := by
    obtain ⟨C, hb, h2, h3, h4, h5⟩ := H.blk
    refine ⟨C, hb, h2, h3, fun h => ?_, fun h => ?_⟩
    · have := H.i9 h; rw [hl] at this; cases this
    · exact h5 h
  exact ⟨H.ext, H.keep, hb', H.a0, H.a1, H.a2, fun _ => ⟨⟨ad, cap, rfl⟩, ho⟩, H.a4, H.a5, H.a6, H.a7, H.a8, H.aA, fun _ => rfl, H.iB⟩
theorem TwoA.op7 (H0 : TwoA w0 ws G T C0 j1 j2 k1 k2 e1 e2 L1 L2 p1 s1 p2 s2 q1 q2 L vs wx) (hl : L 7 = false) {w' : World} {ad : Option Addr} {cap : Nat} (ho : OwnN k2 w' w0.heap.size e2 (.slice ad L2.length cap) L2) (he : Ext wx w') : TwoA w0 ws G T C0 j1 j2 k1 k2 e1 e2 L1 L2 p1 s1 p2 s2 q1 q2 (met1 L 7) (updV vs 7 (.slice ad L2.length cap)) w' := by
  have H := H0.grow he
  have hb' : ∃ C, Blk w' G C T ∧ C.size = C0.size ∧ (∀ j, j ≠ j1 → j ≠ j2 → C[j]? = C0[j]?) ∧ (met1 L 7 9 = true → C[j1]? = some (updV vs 7 (.slice ad L2.length cap) 3)) ∧ (met1 L 7 11 = true → C[j2]? = some (updV vs 7 (.slice ad L2.length cap) 7)) := by
    obtain ⟨C, hb, h2, h3, h4, h5⟩ := H.blk
    refine ⟨C, hb, h2, h3, fun h => ?_, fun h => ?_⟩
    · exact h4 h
    · have := H.iB h; rw [hl] at this; cases this
  exact ⟨H.ext, H.keep, hb', H.a0, H.a1, H.a2, H.a3, H.a4, H.a5, H.a6, fun _ => ⟨⟨ad, cap, rfl⟩, ho⟩, H.a8, H.aA, H.i9, fun _ => rfl⟩
theorem TwoA.op9 (H : TwoA w0 ws G T C0 j1 j2 k1 k2 e1 e2 L1 L2 p1 s1 p2 s2 q1 q2 L vs wx) (h3 : L 3 = true) (hG : w0.heap.size ≤ G) (hj : j1 ≠ j2) (hjs : j1 < C0.size) (ht1 : T ≠ e1) (ht2 : T ≠ e2) {v : Value} (hv : v = vs 3) : TwoA w0 ws G T C0 j1 j2 k1 k2 e1 e2 L1 L2 p1 s1 p2 s2 q1 q2 (met1 L 9) (updV vs 9 undef) (wx.setCell ⟨G, j1, none⟩ v) := by
  obtain ⟨C, hb, h2, hc, hd, hd2⟩ := H.blk
  have hk : KeepBut (· = G) wx (wx.setCell ⟨G, j1, none⟩ v) := ⟨rfl, rfl, rfl, by simp, fun k _ hk => block_other hk j1 v⟩
  have hE : ∀ {g : Nat} {e : TypeId}, T ≠ e → Blk wx g #[] e → Blk (wx.setCell ⟨G, j1, none⟩ v) g #[] e := fun {g e} hte hg => hg.but hk (show ¬ g = G from fun e' => by
    subst e'
    have : some (Obj.cells C T (0, 0)) = some (.cells #[] e (0, 0)) := hb.symm.trans hg
    simp only [Option.some.injEq, Obj.cells.injEq] at this
    exact hte this.2.1)
  have hb' : ∃ C, Blk (wx.setCell ⟨G, j1, none⟩ v) G C T ∧ C.size = C0.size ∧ (∀ j, j ≠ j1 → j ≠ j2 → C[j]? = C0[j]?) ∧ (met1 L 9 9 = true → C[j1]? = some (updV vs 9 undef 3)) ∧ (met1 L 9 11 = true → C[j2]? = some (updV vs 9 undef 7)) := by
    refine ⟨_, hb.set j1 v, by simpa using h2, fun j n1 n2 => ?_, fun h => ?_, fun h => ?_⟩
    · rw [Array.getElem?_setIfInBounds_ne (by first | exact fun e => n1 e.symm | exact fun e => n2 e.symm)]; exact hc j n1 n2
    · rw [Array.getElem?_setIfInBounds_self_of_lt (by omega), hv]; rfl
    · rw [Array.getElem?_setIfInBounds_ne hj]; exact hd2 h
  exact ⟨H.ext.of_but hk (fun k e => by subst e; exact hG), H.keep.trans hk, hb', fun h => by obtain ⟨g, a, b, c⟩ := H.a0 h; exact ⟨g, a, b, hE ht1 c⟩, H.a1, H.a2, fun h => ⟨(H.a3 h).1, (H.a3 h).2.mono_via hk (ownsRow_ne (H.a3 h).2.1 hb ht1)⟩, fun h => by obtain ⟨g, a, b, c⟩ := H.a4 h; exact ⟨g, a, b, hE ht2 c⟩, H.a5, H.a6, fun h => ⟨(H.a7 h).1, (H.a7 h).2.mono_via hk (ownsRow_ne (H.a7 h).2.1 hb ht2)⟩, H.a8, H.aA, fun _ => h3, H.iB⟩
theorem TwoA.op11 (H : TwoA w0 ws G T C0 j1 j2 k1 k2 e1 e2 L1 L2 p1 s1 p2 s2 q1 q2 L vs wx) (h3 : L 7 = true) (hG : w0.heap.size ≤ G) (hj : j1 ≠ j2) (hjs : j2 < C0.size) (ht1 : T ≠ e1) (ht2 : T ≠ e2) {v : Value} (hv : v = vs 7) : TwoA w0 ws G T C0 j1 j2 k1 k2 e1 e2 L1 L2 p1 s1 p2 s2 q1 q2 (met1 L 11) (updV vs 11 undef) (wx.setCell ⟨G, j2, none⟩ v) := by
  obtain ⟨C, hb, h2, hc, hd, hd2⟩ := H.blk
  have hk : KeepBut (· = G) wx (wx.setCell ⟨G, j2, none⟩ v) := ⟨rfl, rfl, rfl, by simp, fun k _ hk => block_other hk j2 v⟩
  have hE : ∀ {g : Nat} {e : TypeId}, T ≠ e → Blk wx g #[] e → Blk (wx.setCell ⟨G, j2, none⟩ v) g #[] e := fun {g e} hte hg => hg.but hk (show ¬ g = G from fun e' => by
    subst e'
    have : some (Obj.cells C T (0, 0)) = some (.cells #[] e (0, 0)) := hb.symm.trans hg
    simp only [Option.some.injEq, Obj.cells.injEq] at this
    exact hte this.2.1)
  have hb' : ∃ C, Blk (wx.setCell ⟨G, j2, none⟩ v) G C T ∧ C.size = C0.size ∧ (∀ j, j ≠ j1 → j ≠ j2 → C[j]? = C0[j]?) ∧ (met1 L 11 9 = true → C[j1]? = some (updV vs 11 undef 3)) ∧ (met1 L 11 11 = true → C[j2]? = some (updV vs 11 undef 7)) := by
    refine ⟨_, hb.set j2 v, by simpa using h2, fun j n1 n2 => ?_, fun h => ?_, fun h => ?_⟩
    · rw [Array.getElem?_setIfInBounds_ne (by first | exact fun e => n1 e.symm | exact fun e => n2 e.symm)]; exact hc j n1 n2
    · rw [Array.getElem?_setIfInBounds_ne (fun e => hj e.symm)]; exact hd h
    · rw [Array.getElem?_setIfInBounds_self_of_lt (by omega), hv]; rfl
  exact ⟨H.ext.of_but hk (fun k e => by subst e; exact hG), H.keep.trans hk, hb', fun h => by obtain ⟨g, a, b, c⟩ := H.a0 h; exact ⟨g, a, b, hE ht1 c⟩, H.a1, H.a2, fun h => ⟨(H.a3 h).1, (H.a3 h).2.mono_via hk (ownsRow_ne (H.a3 h).2.1 hb ht1)⟩, fun h => by obtain ⟨g, a, b, c⟩ := H.a4 h; exact ⟨g, a, b, hE ht2 c⟩, H.a5, H.a6, fun h => ⟨(H.a7 h).1, (H.a7 h).2.mono_via hk (ownsRow_ne (H.a7 h).2.1 hb ht2)⟩, H.a8, H.aA, H.i9, fun _ => h3⟩
theorem TwoA.done (H : TwoA w0 ws G T C0 j1 j2 k1 k2 e1 e2 L1 L2 p1 s1 p2 s2 q1 q2 (fun _ => true) vs wx) (hj : j1 ≠ j2) (h1 : j1 < C0.size) (h2 : j2 < C0.size) : ∃ ad1 c1 ad2 c2, vs 3 = .slice ad1 L1.length c1 ∧ vs 7 = .slice ad2 L2.length c2 ∧ Blk wx G ((C0.setIfInBounds j1 (.slice ad1 L1.length c1)).setIfInBounds j2 (.slice ad2 L2.length c2)) T ∧ OwnN k1 wx w0.heap.size e1 (.slice ad1 L1.length c1) L1 ∧ OwnN k2 wx w0.heap.size e2 (.slice ad2 L2.length c2) L2 := by
  obtain ⟨⟨ad1, c1, v3⟩, o3⟩ := H.a3 rfl
  obtain ⟨⟨ad2, c2, v7⟩, o7⟩ := H.a7 rfl
  obtain ⟨C, hb, hs, hc, hd1, hd2⟩ := H.blk
  rw [v3] at o3
  rw [v7] at o7
  refine ⟨ad1, c1, ad2, c2, v3, v7, ?_, o3, o7⟩
  have e : C = (C0.setIfInBounds j1 (.slice ad1 L1.length c1)).setIfInBounds j2 (.slice ad2 L2.length c2) := by
    apply Array.ext_getElem?
    intro j
    by_cases hj2 : j2 = j
    · subst hj2
      rw [hd2 rfl, v7, Array.getElem?_setIfInBounds_self_of_lt (by simpa using h2)]
    · rw [Array.getElem?_setIfInBounds_ne hj2]
      by_cases hj1 : j1 = j
      · subst hj1
        rw [hd1 rfl, v3, Array.getElem?_setIfInBounds_self_of_lt h1]
      · rw [Array.getElem?_setIfInBounds_ne hj1]
        exact hc j (fun e => hj1 e.symm) (fun e => hj2 e.symm)
  rw [← e]; exact hb
end
end Tlv
end Go.Proofs.Ytobkgaceallegaa

/- The code's chunk of a document's. No condition of its own. -/
namespace Go.Proofs.Ytobkgaceallegaa
namespace Tlv
open Go Go.RowKit
set_option linter.unusedVariables false
set_option linter.unusedSimpArgs false
set_option maxRecDepth 100000


theorem builtP (c : Ck) (s : Sv) : Try.prog.built 38 [(0, .int .i64 c.kind), (1, .agg (PV c s)), (2, .int .u32 (c.tag : Int)), (3, .int .i64 c.win), (4, .int .i64 c.out), (5, .int .i64 c.inn), (6, .int .u32 (c.tsn : Int)), (12, .int .i64 c.cause), (13, .int .u32 (c.serial : Int)), (15, .bool c.ok)] = some (CV c { sv0 with tA := s.tA, tN := s.tN, tC := s.tC }) := by kernel_rfl
theorem wl_appE {t e : TypeId} {k : IntKind} {by8 : Nat} (hT : NumT Try.prog t e k by8) (h8 : by8 ≤ 8) {w : World} {ops : Array Oper} {rest : List Oper} {o : Oper} {a : Act} {Q : Exit → Act → World → Prop} (hgd : o.guard = none) {s x : Operand} (ho : o.op = .call { callee := .builtin .append, args := #[s, x], argTypes := #[t, t] })
    {base g : Nat} {u : Value} {M : List Int} (hs : a.eval s = .slice (some ⟨g, 0, none⟩) 0 0) (hxx : a.eval x = u) (hg : base ≤ g) (hB : Blk w g #[] e) (hx : NumsAt k w u M) (hlen : M.length ≤ 1000000)
    (h : ∀ ad n cap w', Hid (n = M.length) → OwnN k w' base e (.slice ad n cap) M → Ext w w' → wpList Try.prog ops Q rest (a.put o.dst (.slice ad n cap)) w') : wpList Try.prog ops Q (o :: rest) a w := by
  obtain ⟨ad, cap, w', hr, h1, h2⟩ := run_append_empty hT w base o.type g u M hg hB hx (by have := Nat.mul_le_mul_left M.length h8; omega) (by omega)
  refine wpList_of_run hgd (v := .slice ad M.length cap) ?_ (h ad _ cap w' rfl h1 h2)
  simp only [execOp, ho, resolve, invoke, builtin, Sem.run_bind, Sem.run_pure, Result.andThen_ok, List.map_toArray, List.map_cons, List.map_nil, hs, hxx, hr]
theorem obN {w : World} {base : Nat} {v : Value} {l : List Nat} (h : OwnN .u8 w base 5 v (ci l)) (ha : ∀ x ∈ l, x < 256) : OB w base v l := ⟨h, ha⟩
theorem noGp2 : NoList 70 := ⟨by decide, by decide, by decide, by decide, by decide⟩
theorem noOp2 : NoList 71 := ⟨by decide, by decide, by decide, by decide, by decide⟩
/-- The five lists that are made ahead of the loops. -/
structure Own5 (w : World) (base : Nat) (s : Sv) (c : Ck) : Prop where
  t : OwnN .u8 w base 5 (.slice s.tA s.tN s.tC) (ci c.text)
  r : OwnN .u8 w base 5 (.slice s.rA s.rN s.rC) (ci c.rand)
  a : OwnN .i64 w base 65 (.slice s.aA s.aN s.aC) c.addrs
  i : OwnN .u8 w base 5 (.slice s.iA s.iN s.iC) (ci c.info)
  d : OwnN .u32 w base 22 (.slice s.dA s.dN s.dC) (ci c.dups)
theorem Own5.ext {w w' : World} {base : Nat} {s : Sv} {c : Ck} (h : Own5 w base s c) (he : Ext w w') : Own5 w' base s c := ⟨h.t.ext he, h.r.ext he, h.a.ext he, h.i.ext he, h.d.ext he⟩
theorem Own5.but {w w' : World} {base g t : Nat} {s : Sv} {c : Ck} {C : Array Value} (h : Own5 w base s c) (hk : KeepBut (· = g) w w') (hb : Blk w g C t) (ht : NoList t) : Own5 w' base s c :=
  ⟨h.t.mono_via hk (ownsRow_ne h.t.1 hb ht.1), h.r.mono_via hk (ownsRow_ne h.r.1 hb ht.1), h.a.mono_via hk (ownsRow_ne h.a.1 hb ht.2.1), h.i.mono_via hk (ownsRow_ne h.i.1 hb ht.1), h.d.mono_via hk (ownsRow_ne h.d.1 hb ht.2.2.2.1)⟩
theorem Own5.butP {w w' : World} {base base' E : Nat} {s : Sv} {c : Ck} {v : Value} {L : List (Int × Int)} (h : Own5 w base s c) (hk : KeepBut (fun k => v.ownBlock = some k) w w') (ho : OwnP E w base' v L) (h1 : 5 ≠ E) (h2 : 65 ≠ E) (h3 : 22 ≠ E) : Own5 w' base s c :=
  ⟨h.t.mono_via hk (own_apart h.t.1 ho.1 h1), h.r.mono_via hk (own_apart h.r.1 ho.1 h1), h.a.mono_via hk (own_apart h.a.1 ho.1 h2), h.i.mono_via hk (own_apart h.i.1 ho.1 h1), h.d.mono_via hk (own_apart h.d.1 ho.1 h3)⟩
/-- A chunk that holds the same, its lists in memory of the own. -/
def MadeIs (w : World) (c : Ck) (e : Ending) (w' : World) : Prop := ∃ s, e = .returned (.agg (CV c s)) ∧ OwnC w' w.heap.size s c ∧ Ext w w'
set_option maxHeartbeats 8000000 in
theorem program_any {w : World} {c : Ck} {s : Sv} (ha : CkAt w s c) (hs : Small c) :
    Calls Try.prog 9 #[.agg (CV c s)] w (MadeIs w c) := by
  have HA : Hid (CkAt w s c ∧ Small c) := ⟨ha, hs⟩
  have hgN : s.gN = c.gaps.length := (PairsAt.len ha.g).1
  have hoN : Hid (s.oN = c.ops.length) := (PairsAt.len ha.o).1
  clear ha hs
  go_enter Try.func9, Try.ntmps9
  refine wp_seq_k (fun K hK => ?_)
  have HK := Stop.mk hK
  clear hK
  go_wp2_with (first
    | (have q := hb1; clear q; refine wl_alloc rfl rfl zeroC ?_; intro w2 hb2 he2 hx; clear hx; have HQ1 : Hid (w.heap.size < w1.heap.size) := hb1.lt; replace hb1 := hb1.ext he2; have HE2 : Hid (Ext w w2) := he1.trans he2; clear he1 he2)
    | (refine wl_box (C := CV c s) rfl rfl rfl ?_; intro w1 hb1 he1 hx; clear hx))
  refine HK.go _ _ ?_
  refine wp_seq_k (fun K2 hK2 => ?_)
  have HK2 := Stop.mk hK2
  clear hK2
  refine wp_region_lit ?_
  refine wpList_of_run (v := .pointer (some ⟨w.heap.size, 0, none⟩)) (w' := w2) rfl (by first | rfl | simp [execOp, go_sem]) ?_
  simp only [Act.put, List.setIfInBounds_toArray, List.set_cons_succ, List.set_cons_zero]
  refine wpList_of_run rfl (exec_get one3 rfl rfl (cv0 hb1)) ?_
  simp only [Act.put, List.setIfInBounds_toArray, List.set_cons_succ, List.set_cons_zero]
  refine wpList_of_run (v := .pointer (some ⟨w.heap.size, 1, none⟩)) (w' := w2) rfl (by first | rfl | simp [execOp, go_sem]) ?_
  simp only [Act.put, List.setIfInBounds_toArray, List.set_cons_succ, List.set_cons_zero]
  refine wpList_of_run (v := .agg (PV c s)) rfl (exec_load rowPc rfl rfl hb1 (PV c s).toList (CV.piece c s) rfl) ?_
  simp only [Act.put, List.setIfInBounds_toArray, List.set_cons_succ, List.set_cons_zero]
  refine wpList_of_run (v := .pointer (some ⟨w.heap.size, 8, none⟩)) (w' := w2) rfl (by first | rfl | simp [execOp, go_sem]) ?_
  simp only [Act.put, List.setIfInBounds_toArray, List.set_cons_succ, List.set_cons_zero]
  refine wpList_of_run rfl (exec_get one22 rfl rfl (cv8 hb1)) ?_
  simp only [Act.put, List.setIfInBounds_toArray, List.set_cons_succ, List.set_cons_zero]
  refine wpList_of_run (v := .pointer (some ⟨w.heap.size, 9, none⟩)) (w' := w2) rfl (by first | rfl | simp [execOp, go_sem]) ?_
  simp only [Act.put, List.setIfInBounds_toArray, List.set_cons_succ, List.set_cons_zero]
  refine wpList_of_run rfl (exec_get one3 rfl rfl (cv9 hb1)) ?_
  simp only [Act.put, List.setIfInBounds_toArray, List.set_cons_succ, List.set_cons_zero]
  refine wpList_of_run (v := .pointer (some ⟨w.heap.size, 10, none⟩)) (w' := w2) rfl (by first | rfl | simp [execOp, go_sem]) ?_
  simp only [Act.put, List.setIfInBounds_toArray, List.set_cons_succ, List.set_cons_zero]
  refine wpList_of_run rfl (exec_get one3 rfl rfl (cv10 hb1)) ?_
  simp only [Act.put, List.setIfInBounds_toArray, List.set_cons_succ, List.set_cons_zero]
  refine wpList_of_run (v := .pointer (some ⟨w.heap.size, 11, none⟩)) (w' := w2) rfl (by first | rfl | simp [execOp, go_sem]) ?_
  simp only [Act.put, List.setIfInBounds_toArray, List.set_cons_succ, List.set_cons_zero]
  refine wpList_of_run rfl (exec_get one3 rfl rfl (cv11 hb1)) ?_
  simp only [Act.put, List.setIfInBounds_toArray, List.set_cons_succ, List.set_cons_zero]
  refine wpList_of_run (v := .pointer (some ⟨w.heap.size, 12, none⟩)) (w' := w2) rfl (by first | rfl | simp [execOp, go_sem]) ?_
  simp only [Act.put, List.setIfInBounds_toArray, List.set_cons_succ, List.set_cons_zero]
  refine wpList_of_run rfl (exec_get one22 rfl rfl (cv12 hb1)) ?_
  simp only [Act.put, List.setIfInBounds_toArray, List.set_cons_succ, List.set_cons_zero]
  refine wpList_of_run (v := .pointer (some ⟨w.heap.size, 18, none⟩)) (w' := w2) rfl (by first | rfl | simp [execOp, go_sem]) ?_
  simp only [Act.put, List.setIfInBounds_toArray, List.set_cons_succ, List.set_cons_zero]
  refine wpList_of_run rfl (exec_get one3 rfl rfl (cv18 hb1)) ?_
  simp only [Act.put, List.setIfInBounds_toArray, List.set_cons_succ, List.set_cons_zero]
  refine wpList_of_run (v := .pointer (some ⟨w.heap.size, 19, none⟩)) (w' := w2) rfl (by first | rfl | simp [execOp, go_sem]) ?_
  simp only [Act.put, List.setIfInBounds_toArray, List.set_cons_succ, List.set_cons_zero]
  refine wpList_of_run rfl (exec_get one22 rfl rfl (cv19 hb1)) ?_
  simp only [Act.put, List.setIfInBounds_toArray, List.set_cons_succ, List.set_cons_zero]
  refine wpList_of_run (v := .pointer (some ⟨w.heap.size, 21, none⟩)) (w' := w2) rfl (by first | rfl | simp [execOp, go_sem]) ?_
  simp only [Act.put, List.setIfInBounds_toArray, List.set_cons_succ, List.set_cons_zero]
  refine wpList_of_run rfl (exec_get one4 rfl rfl (cv21 hb1)) ?_
  simp only [Act.put, List.setIfInBounds_toArray, List.set_cons_succ, List.set_cons_zero]
  refine wl_buildC rfl rfl ?hv (builtP c s) ?hk
  case hv => first | kernel_rfl | (simp only [List.map_toArray, List.map_cons, List.map_nil]; rfl)
  simp only [Act.put, List.setIfInBounds_toArray, List.set_cons_succ, List.set_cons_zero]
  refine wl_alloc rfl rfl zeroC ?_
  intro w3 hb3 he3 hx
  clear hx
  have HW : Hid (w.heap.size < w2.heap.size) := hb1.lt
  have HQ2 : Hid (w1.heap.size < w2.heap.size) := hb2.lt
  have HS2 : Hid (Blk w2 w.heap.size (CV c s) 32) := hb1
  replace hb1 := hb1.ext he3
  replace hb2 := hb2.ext he3
  have HE3 : Hid (Ext w w3) := HE2.out.trans he3
  have HE23 : Hid (Ext w2 w3) := he3
  clear he3
  refine wl_store (D := CV c { sv0 with tA := s.tA, tN := s.tN, tC := s.tC }) rfl rowC rfl rfl rfl hb3 rfl rfl (CV.one _ _) ?_
  intro w4 hb4 hk4 hx4
  clear hx4
  simp only [Act.put]
  go_wp2
  refine HK2.go _ _ ?_
  have HG3 : Hid (w.heap.size ≤ w2.heap.size) := Nat.le_of_lt HW.out
  have HG2 : Hid (w1.heap.size < w2.heap.size ∧ w.heap.size < w1.heap.size) := ⟨HQ2.out, HQ1.out⟩
  have HE4 : Hid (Ext w w4) := HE3.out.of_but hk4 (fun g e => by subst e; exact HG3.out)
  have HE24 : Hid (Ext w2 w4) := HE23.out.of_but hk4 (fun g e => by subst e; exact Nat.le_refl _)
  replace hb1 := hb1.but hk4 (Nat.ne_of_lt HW.out)
  replace hb2 := hb2.but hk4 (Nat.ne_of_lt HQ2.out)
  clear hb3 hk4 HK HK2 HE3 HE23
  have c7 := cv7 (hb1.ext (Ext.alloc w4 (.cells #[] 5)))
  refine wp_seq_k (fun K3 hK3 => ?_)
  have HK3 := Stop.mk hK3
  clear hK3
  go_wp2_with (first
    | (at_builtin; refine wl_appE numT8 (by decide) rfl rfl rfl rfl (base := w2.heap.size) (Nat.le_of_lt hb4.lt) (Blk.new w4 #[] 5) (nums_of_bytes (HA.out.1.t.ext (HE4.out.trans (Ext.alloc _ _)))) (by have := HA.out.2.text; rw [ci_len]; omega) ?_; intro ta tn tc w5 hn5 ho5 he5; clear hn5 c7; replace hb1 := hb1.ext ((Ext.alloc w4 _).trans he5); replace hb2 := hb2.ext ((Ext.alloc w4 _).trans he5); have hb5 := hb4.ext ((Ext.alloc w4 _).trans he5); have HE5 : Hid (Ext w2 w5) := HE24.out.trans ((Ext.alloc w4 _).trans he5); clear hb4 he5 HE4 HE24)
    | (refine wl_set (v := .slice ta tn tc) rfl oneS rfl rfl rfl rfl rfl hb5 (of_decide_eq_true rfl) ?_; intro w6 hbx hk6 hx6; clear hx6; have hb6 : Blk w6 w2.heap.size (CV c ({ tA := ta, tN := tn, tC := tc, rA := none, rN := 0, rC := 0, aA := none, aN := 0, aC := 0, iA := none, iN := 0, iC := 0, gA := none, gN := 0, gC := 0, dA := none, dN := 0, dC := 0, oA := none, oN := 0, oC := 0 } : Sv)) 38 := hbx; replace ho5 := ho5.mono_via hk6 (ownsRow_ne ho5.1 hb5 (by decide)); replace hb1 := hb1.but hk6 (Nat.ne_of_lt HW.out); replace hb2 := hb2.but hk6 (Nat.ne_of_lt HQ2.out); have HE6 : Hid (Ext w2 w6) := HE5.out.of_but hk6 (fun g e => by subst e; exact Nat.le_refl _); clear hbx hk6 hb5 HE5))
  refine HK3.go _ _ ?_
  clear HK3
  refine wp_seq_k (fun K4 hK4 => ?_)
  have HK4 := Stop.mk hK4
  clear hK4
  refine wp_region_W (TwoA w2 w6.drew w2.heap.size 38 (CV c ({ tA := ta, tN := tn, tC := tc, rA := none, rN := 0, rC := 0, aA := none, aN := 0, aC := 0, iA := none, iN := 0, iC := 0, gA := none, gN := 0, gC := 0, dA := none, dN := 0, dC := 0, oA := none, oN := 0, oC := 0 } : Sv)) 13 15 .u8 .u8 5 5 (ci c.rand) (ci c.info) (.pointer (some ⟨w.heap.size, 13, none⟩)) (.slice s.rA s.rN s.rC) (.pointer (some ⟨w.heap.size, 15, none⟩)) (.slice s.iA s.iN s.iC) (.pointer (some ⟨w2.heap.size, 13, none⟩)) (.pointer (some ⟨w2.heap.size, 15, none⟩))) (fun t => bif Nat.ble 36 t && Nat.ble t 44 then some (t - 36) else bif Nat.beq t 45 then some 10 else none) 85 rfl (by kernel_rfl) rfl (fun vs => TwoA.start (HE6.out.trans (Ext.drew _)) (hb6.ext (Ext.drew _))) ?_ ?_
  · refine OwedVs.cons ⟨rfl, ?_⟩ (OwedVs.cons ⟨rfl, ?_⟩ (OwedVs.cons ⟨rfl, ?_⟩ (OwedVs.cons ⟨rfl, ?_⟩ (OwedVs.cons ⟨rfl, ?_⟩ (OwedVs.cons ⟨rfl, ?_⟩ (OwedVs.cons ⟨rfl, ?_⟩ (OwedVs.cons ⟨rfl, ?_⟩ (OwedVs.cons ⟨rfl, ?_⟩ (OwedVs.cons ⟨rfl, ?_⟩ (OwedVs.cons ⟨rfl, ?_⟩ (OwedVs.cons ⟨rfl, ?_⟩ OwedVs.nil)))))))))))
    · intro L vs wx r H hl hL hx
      exact give_empty rfl numT8 H.op0
    · intro L vs wx r H hl hL hx
      obtain ⟨h1, _⟩ := hx
      replace h1 : r (.tmp 1) = .pointer (some ⟨w.heap.size, 0, none⟩) := h1
      exact give_of (by simp [execOp, h1, go_sem]) H.op1
    · intro L vs wx r H hl hL hx
      obtain ⟨h1, _⟩ := hx
      replace h1 : r (.tmp 37) = .pointer (some ⟨w.heap.size, 13, none⟩) := Eq.trans h1 (H.a1 (hL 1 (by kernel_rfl)))
      exact give_of (exec_get oneS rfl h1 (cv13 (HS2.out.ext H.ext))) H.op2
    · intro L vs wx r H hl hL hx
      obtain ⟨h1, h2, _⟩ := hx
      obtain ⟨g, e, hg, hB⟩ := H.a0 (hL 0 (by kernel_rfl))
      replace h1 : r (.tmp 36) = .slice (some ⟨g, 0, none⟩) 0 0 := Eq.trans h1 e
      replace h2 : r (.tmp 38) = .slice s.rA s.rN s.rC := Eq.trans h2 (H.a2 (hL 2 (by kernel_rfl)))
      exact give_append numT8 rfl h1 h2 hg hB (nums_of_bytes (HA.out.1.r.ext (HE2.out.trans H.ext))) (by decide) (by have := HA.out.2.rand; (try simp only [ci_len]); omega) (fun ad cap w' ho he => H.op3 hl ho he)
    · intro L vs wx r H hl hL hx
      exact give_empty rfl numT8 H.op4
    · intro L vs wx r H hl hL hx
      obtain ⟨h1, _⟩ := hx
      replace h1 : r (.tmp 1) = .pointer (some ⟨w.heap.size, 0, none⟩) := h1
      exact give_of (by simp [execOp, h1, go_sem]) H.op5
    · intro L vs wx r H hl hL hx
      obtain ⟨h1, _⟩ := hx
      replace h1 : r (.tmp 41) = .pointer (some ⟨w.heap.size, 15, none⟩) := Eq.trans h1 (H.a5 (hL 5 (by kernel_rfl)))
      exact give_of (exec_get oneS rfl h1 (cv15 (HS2.out.ext H.ext))) H.op6
    · intro L vs wx r H hl hL hx
      obtain ⟨h1, h2, _⟩ := hx
      obtain ⟨g, e, hg, hB⟩ := H.a4 (hL 4 (by kernel_rfl))
      replace h1 : r (.tmp 40) = .slice (some ⟨g, 0, none⟩) 0 0 := Eq.trans h1 e
      replace h2 : r (.tmp 42) = .slice s.iA s.iN s.iC := Eq.trans h2 (H.a6 (hL 6 (by kernel_rfl)))
      exact give_append numT8 rfl h1 h2 hg hB (nums_of_bytes (HA.out.1.i.ext (HE2.out.trans H.ext))) (by decide) (by have := HA.out.2.info; (try simp only [ci_len]); omega) (fun ad cap w' ho he => H.op7 hl ho he)
    · intro L vs wx r H hl hL hx
      obtain ⟨h1, _⟩ := hx
      replace h1 : r (.tmp 3) = .pointer (some ⟨w2.heap.size, 0, none⟩) := h1
      exact give_of (by simp [execOp, h1, go_sem]) H.op8
    · intro L vs wx r H hl hL hx
      obtain ⟨h1, h2, _⟩ := hx
      replace h1 : r (.tmp 44) = .pointer (some ⟨w2.heap.size, 13, none⟩) := Eq.trans h1 (H.a8 (hL 8 (by kernel_rfl)))
      obtain ⟨⟨ad, cap, e⟩, _⟩ := H.a3 (hL 3 (by kernel_rfl))
      replace h2 : r (.tmp 39) = _ := Eq.trans h2 e
      obtain ⟨C, hb, hs, _⟩ := H.blk
      exact give_skip (exec_set oneS rfl h1 h2 rfl rfl hb (by rw [hs]; exact of_decide_eq_true rfl)) (H.op9 (hL 3 (by kernel_rfl)) (Nat.le_refl _) (by decide) (of_decide_eq_true rfl) (by decide) (by decide) e.symm)
    · intro L vs wx r H hl hL hx
      obtain ⟨h1, _⟩ := hx
      replace h1 : r (.tmp 3) = .pointer (some ⟨w2.heap.size, 0, none⟩) := h1
      exact give_of (by simp [execOp, h1, go_sem]) H.op10
    · intro L vs wx r H hl hL hx
      obtain ⟨h1, h2, _⟩ := hx
      replace h1 : r (.tmp 45) = .pointer (some ⟨w2.heap.size, 15, none⟩) := Eq.trans h1 (H.aA (hL 10 (by kernel_rfl)))
      obtain ⟨⟨ad, cap, e⟩, _⟩ := H.a7 (hL 7 (by kernel_rfl))
      replace h2 : r (.tmp 43) = _ := Eq.trans h2 e
      obtain ⟨C, hb, hs, _⟩ := H.blk
      exact give_skip (exec_set oneS rfl h1 h2 rfl rfl hb (by rw [hs]; exact of_decide_eq_true rfl)) (H.op11 (hL 7 (by kernel_rfl)) (Nat.le_refl _) (by decide) (of_decide_eq_true rfl) (by decide) (by decide) e.symm)
  · intro vs2 a4 w7 H ha4
    obtain ⟨ra, rc, ia, ic, e3, e7, hbx, hor, hoi⟩ := H.done (by decide) (of_decide_eq_true rfl) (of_decide_eq_true rfl)
    have hbo : Blk w7 w2.heap.size (CV c ({ tA := ta, tN := tn, tC := tc, rA := ra, rN := (ci c.rand).length, rC := rc, aA := none, aN := 0, aC := 0, iA := ia, iN := (ci c.info).length, iC := ic, gA := none, gN := 0, gC := 0, dA := none, dN := 0, dC := 0, oA := none, oN := 0, oC := 0 } : Sv)) 38 := hbx
    have hv0 := H.a1 rfl; have hv1 := H.a2 rfl; have hv2 := H.a5 rfl; have hv3 := H.a6 rfl; have hv4 := H.a8 rfl; have hv5 := H.aA rfl
    obtain ⟨g0, hv6, -, -⟩ := H.a0 rfl
    obtain ⟨g4, hv7, -, -⟩ := H.a4 rfl
    have hkx := H.keep
    have hex := H.ext
    simp only [putAll, Act.put, Nat.zero_add, Nat.reduceAdd, hv0, hv1, hv2, hv3, hv4, hv5, hv6, hv7, e3, e7, List.setIfInBounds_toArray, List.set_cons_succ, List.set_cons_zero] at ha4
    subst ha4
    clear hv0 hv1 hv2 hv3 hv4 hv5 hv6 hv7 e3 e7 hbx H
    refine HK4.go _ _ ?_
    clear HK4
    have HE7 : Hid (Ext w2 w7) := hex
    have hkd := (KeepBut.ext (S := (· = w2.heap.size)) (Ext.drew w6)).trans hkx
    replace hb1 := hb1.but hkd (Nat.ne_of_lt HW.out)
    replace hb2 := hb2.but hkd (Nat.ne_of_lt HQ2.out)
    replace ho5 := ho5.mono_via hkd (ownsRow_ne ho5.1 hb6 (by decide))
    clear hex hkx hkd hb6 HE6
    refine wp_seq_k (fun K5 hK5 => ?_)
    have HK5 := Stop.mk hK5
    clear hK5
    refine wp_region_W (TwoA w2 w7.drew w2.heap.size 38 (CV c ({ tA := ta, tN := tn, tC := tc, rA := ra, rN := (ci c.rand).length, rC := rc, aA := none, aN := 0, aC := 0, iA := ia, iN := (ci c.info).length, iC := ic, gA := none, gN := 0, gC := 0, dA := none, dN := 0, dC := 0, oA := none, oN := 0, oC := 0 } : Sv)) 14 17 .i64 .u32 65 22 c.addrs (ci c.dups) (.pointer (some ⟨w.heap.size, 14, none⟩)) (.slice s.aA s.aN s.aC) (.pointer (some ⟨w.heap.size, 17, none⟩)) (.slice s.dA s.dN s.dC) (.pointer (some ⟨w2.heap.size, 14, none⟩)) (.pointer (some ⟨w2.heap.size, 17, none⟩))) (fun t => bif Nat.ble 46 t && Nat.ble t 54 then some (t - 46) else bif Nat.beq t 55 then some 10 else none) 85 rfl (by kernel_rfl) rfl (fun vs => TwoA.start (HE7.out.trans (Ext.drew _)) (hbo.ext (Ext.drew _))) ?_ ?_
    · refine OwedVs.cons ⟨rfl, ?_⟩ (OwedVs.cons ⟨rfl, ?_⟩ (OwedVs.cons ⟨rfl, ?_⟩ (OwedVs.cons ⟨rfl, ?_⟩ (OwedVs.cons ⟨rfl, ?_⟩ (OwedVs.cons ⟨rfl, ?_⟩ (OwedVs.cons ⟨rfl, ?_⟩ (OwedVs.cons ⟨rfl, ?_⟩ (OwedVs.cons ⟨rfl, ?_⟩ (OwedVs.cons ⟨rfl, ?_⟩ (OwedVs.cons ⟨rfl, ?_⟩ (OwedVs.cons ⟨rfl, ?_⟩ OwedVs.nil)))))))))))
      · intro L vs wx r H hl hL hx
        exact give_empty rfl numTA H.op0
      · intro L vs wx r H hl hL hx
        obtain ⟨h1, _⟩ := hx
        replace h1 : r (.tmp 1) = .pointer (some ⟨w.heap.size, 0, none⟩) := h1
        exact give_of (by simp [execOp, h1, go_sem]) H.op1
      · intro L vs wx r H hl hL hx
        obtain ⟨h1, _⟩ := hx
        replace h1 : r (.tmp 47) = .pointer (some ⟨w.heap.size, 14, none⟩) := Eq.trans h1 (H.a1 (hL 1 (by kernel_rfl)))
        exact give_of (exec_get oneSA rfl h1 (cv14 (HS2.out.ext H.ext))) H.op2
      · intro L vs wx r H hl hL hx
        obtain ⟨h1, h2, _⟩ := hx
        obtain ⟨g, e, hg, hB⟩ := H.a0 (hL 0 (by kernel_rfl))
        replace h1 : r (.tmp 46) = .slice (some ⟨g, 0, none⟩) 0 0 := Eq.trans h1 e
        replace h2 : r (.tmp 48) = .slice s.aA s.aN s.aC := Eq.trans h2 (H.a2 (hL 2 (by kernel_rfl)))
        exact give_append numTA rfl h1 h2 hg hB (HA.out.1.a.ext (HE2.out.trans H.ext)) (by decide) (by have := HA.out.2.addrs; (try simp only [ci_len]); omega) (fun ad cap w' ho he => H.op3 hl ho he)
      · intro L vs wx r H hl hL hx
        exact give_empty rfl numTD H.op4
      · intro L vs wx r H hl hL hx
        obtain ⟨h1, _⟩ := hx
        replace h1 : r (.tmp 1) = .pointer (some ⟨w.heap.size, 0, none⟩) := h1
        exact give_of (by simp [execOp, h1, go_sem]) H.op5
      · intro L vs wx r H hl hL hx
        obtain ⟨h1, _⟩ := hx
        replace h1 : r (.tmp 51) = .pointer (some ⟨w.heap.size, 17, none⟩) := Eq.trans h1 (H.a5 (hL 5 (by kernel_rfl)))
        exact give_of (exec_get oneSD rfl h1 (cv17 (HS2.out.ext H.ext))) H.op6
      · intro L vs wx r H hl hL hx
        obtain ⟨h1, h2, _⟩ := hx
        obtain ⟨g, e, hg, hB⟩ := H.a4 (hL 4 (by kernel_rfl))
        replace h1 : r (.tmp 50) = .slice (some ⟨g, 0, none⟩) 0 0 := Eq.trans h1 e
        replace h2 : r (.tmp 52) = .slice s.dA s.dN s.dC := Eq.trans h2 (H.a6 (hL 6 (by kernel_rfl)))
        exact give_append numTD rfl h1 h2 hg hB (HA.out.1.d.ext (HE2.out.trans H.ext)) (by decide) (by have := HA.out.2.dups; (try simp only [ci_len]); omega) (fun ad cap w' ho he => H.op7 hl ho he)
      · intro L vs wx r H hl hL hx
        obtain ⟨h1, _⟩ := hx
        replace h1 : r (.tmp 3) = .pointer (some ⟨w2.heap.size, 0, none⟩) := h1
        exact give_of (by simp [execOp, h1, go_sem]) H.op8
      · intro L vs wx r H hl hL hx
        obtain ⟨h1, h2, _⟩ := hx
        replace h1 : r (.tmp 54) = .pointer (some ⟨w2.heap.size, 14, none⟩) := Eq.trans h1 (H.a8 (hL 8 (by kernel_rfl)))
        obtain ⟨⟨ad, cap, e⟩, _⟩ := H.a3 (hL 3 (by kernel_rfl))
        replace h2 : r (.tmp 49) = _ := Eq.trans h2 e
        obtain ⟨C, hb, hs, _⟩ := H.blk
        exact give_skip (exec_set oneSA rfl h1 h2 rfl rfl hb (by rw [hs]; exact of_decide_eq_true rfl)) (H.op9 (hL 3 (by kernel_rfl)) (Nat.le_refl _) (by decide) (of_decide_eq_true rfl) (by decide) (by decide) e.symm)
      · intro L vs wx r H hl hL hx
        obtain ⟨h1, _⟩ := hx
        replace h1 : r (.tmp 3) = .pointer (some ⟨w2.heap.size, 0, none⟩) := h1
        exact give_of (by simp [execOp, h1, go_sem]) H.op10
      · intro L vs wx r H hl hL hx
        obtain ⟨h1, h2, _⟩ := hx
        replace h1 : r (.tmp 55) = .pointer (some ⟨w2.heap.size, 17, none⟩) := Eq.trans h1 (H.aA (hL 10 (by kernel_rfl)))
        obtain ⟨⟨ad, cap, e⟩, _⟩ := H.a7 (hL 7 (by kernel_rfl))
        replace h2 : r (.tmp 53) = _ := Eq.trans h2 e
        obtain ⟨C, hb, hs, _⟩ := H.blk
        exact give_skip (exec_set oneSD rfl h1 h2 rfl rfl hb (by rw [hs]; exact of_decide_eq_true rfl)) (H.op11 (hL 7 (by kernel_rfl)) (Nat.le_refl _) (by decide) (of_decide_eq_true rfl) (by decide) (by decide) e.symm)
    · intro vs2 a4 w8 H ha4
      obtain ⟨aa, ac, da, dc, e3, e7, hbx, hoa, hod⟩ := H.done (by decide) (of_decide_eq_true rfl) (of_decide_eq_true rfl)
      have hbo8 : Blk w8 w2.heap.size (CV c ({ tA := ta, tN := tn, tC := tc, rA := ra, rN := (ci c.rand).length, rC := rc, aA := aa, aN := c.addrs.length, aC := ac, iA := ia, iN := (ci c.info).length, iC := ic, gA := none, gN := 0, gC := 0, dA := da, dN := (ci c.dups).length, dC := dc, oA := none, oN := 0, oC := 0 } : Sv)) 38 := hbx
      have hv0 := H.a1 rfl; have hv1 := H.a2 rfl; have hv2 := H.a5 rfl; have hv3 := H.a6 rfl; have hv4 := H.a8 rfl; have hv5 := H.aA rfl
      obtain ⟨g0, hv6, -, -⟩ := H.a0 rfl
      obtain ⟨g4, hv7, -, -⟩ := H.a4 rfl
      have hkx := H.keep
      have hex := H.ext
      simp only [putAll, Act.put, Nat.zero_add, Nat.reduceAdd, hv0, hv1, hv2, hv3, hv4, hv5, hv6, hv7, e3, e7, List.setIfInBounds_toArray, List.set_cons_succ, List.set_cons_zero] at ha4
      subst ha4
      clear hv0 hv1 hv2 hv3 hv4 hv5 hv6 hv7 e3 e7 hbx H
      refine HK5.go _ _ ?_
      clear HK5
      have hkd := (KeepBut.ext (S := (· = w2.heap.size)) (Ext.drew w7)).trans hkx
      have HS : Hid (Blk w8 w2.heap.size (CV c ({ tA := ta, tN := tn, tC := tc, rA := ra, rN := (ci c.rand).length, rC := rc, aA := aa, aN := c.addrs.length, aC := ac, iA := ia, iN := (ci c.info).length, iC := ic, gA := none, gN := 0, gC := 0, dA := da, dN := (ci c.dups).length, dC := dc, oA := none, oN := 0, oC := 0 } : Sv)) 38 ∧ Ext w w8 ∧ Blk w8 w.heap.size (CV c s) 32 ∧ Blk w8 w1.heap.size (CV (ck0 0) sv0) 38 ∧ Own5 w8 w2.heap.size ({ tA := ta, tN := tn, tC := tc, rA := ra, rN := (ci c.rand).length, rC := rc, aA := aa, aN := c.addrs.length, aC := ac, iA := ia, iN := (ci c.info).length, iC := ic, gA := none, gN := 0, gC := 0, dA := da, dN := (ci c.dups).length, dC := dc, oA := none, oN := 0, oC := 0 } : Sv) c) := ⟨hbo8, HE2.out.trans hex, hb1.but hkd (Nat.ne_of_lt HW.out), hb2.but hkd (Nat.ne_of_lt HQ2.out), ho5.mono_via hkd (ownsRow_ne ho5.1 hbo (by decide)), hor.mono_via hkd (ownsRow_ne hor.1 hbo (by decide)), hoa, hoi.mono_via hkd (ownsRow_ne hoi.1 hbo (by decide)), hod⟩
      clear hb1 hb2 hbo hbo8 hkx hkd hex hor hoi hoa hod ho5 HE7
      have g16 := cv16 HS.out.2.2.1
      obtain ⟨N, hN⟩ : ∃ N, N = c.gaps.length := ⟨_, rfl⟩
      rw [hgN, ← hN] at g16
      have HNg : Hid (N = c.gaps.length) := hN
      have hn3 : N ≤ 3000 := by rw [hN]; exact HA.out.2.gaps
      have HSmg : Hid (c.gaps.length ≤ 3000) := HA.out.2.gaps
      have HSmo : Hid (c.ops.length ≤ 3000) := HA.out.2.ops
      have HAt : Hid (PairsAt w (.slice s.gA N s.gC) c.gaps) := show PairsAt _ _ _ by rw [hN, ← hgN]; exact HA.out.1.g
      clear hN hgN
      obtain ⟨aA, haA⟩ : ∃ x, x = s.gA := ⟨_, rfl⟩
      rw [← haA] at HAt
      go_wp2
      rw [← haA]
      clear g16 haA
      go_loopg [59] N (fun gm t wr => ∃ (k : Nat) (ga : Option Addr) (gn gc : Nat), k ≤ N ∧ gm = N - k ∧ t = .int .i64 (k : Int) ∧ Hid (OwnP 67 wr w.heap.size (.slice ga gn gc) (c.gaps.take k) ∧ Blk wr w2.heap.size (CV c ({ tA := ta, tN := tn, tC := tc, rA := ra, rN := (ci c.rand).length, rC := rc, aA := aa, aN := c.addrs.length, aC := ac, iA := ia, iN := (ci c.info).length, iC := ic, gA := ga, gN := gn, gC := gc, dA := da, dN := (ci c.dups).length, dC := dc, oA := none, oN := 0, oC := 0 } : Sv)) 38 ∧ Ext w wr ∧ Blk wr w.heap.size (CV c s) 32 ∧ Blk wr w1.heap.size (CV (ck0 0) sv0) 38 ∧ Own5 wr w2.heap.size ({ tA := ta, tN := tn, tC := tc, rA := ra, rN := (ci c.rand).length, rC := rc, aA := aa, aN := c.addrs.length, aC := ac, iA := ia, iN := (ci c.info).length, iC := ic, gA := none, gN := 0, gC := 0, dA := da, dN := (ci c.dups).length, dC := dc, oA := none, oN := 0, oC := 0 } : Sv) c))
      case atStart => exact ⟨0, none, 0, 0, Nat.zero_le _, rfl, rfl, by rw [List.take_zero]; exact OwnP.nil _ _ _, HS.out.1, HS.out.2.1, HS.out.2.2⟩
      case round =>
        obtain ⟨k, ga, gn, gc, hk, rfl, rfl, HR⟩ := hrel
        by_cases hlt : k < N
        · have hd : decide ((k : Int) < (N : Int)) = true := decide_eq_true (by omega)
          have hkL : k < c.gaps.length := by rw [← HNg.out]; exact hlt
          have hkn : (k : Int) < (N : Int) := by omega
          obtain ⟨b, off, rfl, hc0, hc1⟩ := HAt.out.cellAt k hkL
          replace hc0 := HR.out.2.2.1.cell hc0
          replace hc1 := HR.out.2.2.1.cell hc1
          have HL : Hid (c.gaps.take (k + 1) = c.gaps.take k ++ [c.gaps.getD k (0, 0)] ∧ (c.gaps.take k).length ≤ 3000 ∧ (c.gaps.take k).length = k) := ⟨take_snocP hkL, by rw [List.length_take]; have := HSmg.out; omega, by rw [List.length_take]; omega⟩
          obtain ⟨q, hq⟩ : ∃ q, q = c.gaps.getD k (0, 0) := ⟨_, rfl⟩
          rw [← hq] at hc0 hc1 HL
          clear hq hkL
          go_wp2_with (first
            | (refine wl_loadP rfl rowGp2 rfl rfl hc0 hc1 ?_)
            | (refine wl_alloc rfl rfl zeroGp2 ?_; intro w6 hb6 he6 hx; clear hx)
            | (refine wl_store (D := #[.int .i64 q.1, .int .i64 q.2]) rfl rowGp2 rfl rfl rfl hb6 rfl rfl (one_pair _ _) ?_; intro w7 hb7 hk7 hx; clear hx; have hO7 := (HR.out.1.ext he6).but hk7 (ownsRow_ne (HR.out.1.ext he6).1 hb6 (by decide)); have hB7 := (HR.out.2.1.ext he6).but hk7 (Nat.ne_of_lt HR.out.2.1.lt); have HE7 : Hid (Ext w w7) := (HR.out.2.2.1.trans he6).of_but hk7 (fun g e => by subst e; exact HR.out.2.2.1.size); have x70 := ((HR.out.2.2.2.1).ext he6).but hk7 (Nat.ne_of_lt (HR.out.2.2.2.1).lt); have x71 := ((HR.out.2.2.2.2.1).ext he6).but hk7 (Nat.ne_of_lt (HR.out.2.2.2.2.1).lt); have x72 := ((HR.out.2.2.2.2.2).ext he6).but hk7 hb6 noGp2; clear hk7 hb6; have d7 := cv16 hB7)
            | (refine wl_load rfl rowGp2 rfl rfl hb7 rfl ?_)
            | (at_builtin; refine wl_pushPr prG (L := c.gaps.take k) (p := q) (v := .slice ga gn gc) (base := w.heap.size) rfl rfl rfl rfl rfl rfl hO7 (by have := HL.out.2.1; omega) HE7.out.size ?_; intro ad n8 cap w8 hn8 ho8 hk8 hg8; clear hg8; have hB8 := hB7.but hk8 (fun e => ownsRow_ne hO7.1 hB7 (by decide) _ e rfl); have HE8 : Hid (Ext w w8) := HE7.out.of_but hk8 (fun g e => (hO7.lt e).1); have x80 := (x70).but hk8 (fun e => ownsRow_ne hO7.1 (x70) (by decide) _ e rfl); have x81 := (x71).but hk8 (fun e => ownsRow_ne hO7.1 (x71) (by decide) _ e rfl); have x82 := (x72).butP hk8 hO7 (by decide) (by decide) (by decide); clear hk8 d7 hb7)
            | (refine wl_set (v := .slice ad n8 cap) rfl oneSG rfl rfl rfl rfl rfl hB8 (of_decide_eq_true rfl) ?_; intro w9 hbx hk9 hx9; clear hx9; have hB9 : Blk w9 w2.heap.size (CV c ({ tA := ta, tN := tn, tC := tc, rA := ra, rN := (ci c.rand).length, rC := rc, aA := aa, aN := c.addrs.length, aC := ac, iA := ia, iN := (ci c.info).length, iC := ic, gA := ad, gN := n8, gC := cap, dA := da, dN := (ci c.dups).length, dC := dc, oA := none, oN := 0, oC := 0 } : Sv)) 38 := hbx; have hO9 := ho8.but hk9 (ownsRow_ne ho8.1 hB8 (by decide)); have HE9 : Hid (Ext w w9) := HE8.out.of_but hk9 (fun g e => by subst e; exact HG3.out); have x90 := (x80).but hk9 (Nat.ne_of_lt HW.out); have x91 := (x81).but hk9 (Nat.ne_of_lt HQ2.out); have x92 := (x82).but hk9 hB8 noCk; clear hbx hk9))
          rw [← HL.out.1] at hO9
          go_roundg (N - (k + 1))
          case measure => omega
          case rel => exact ⟨k + 1, ad, n8, cap, by omega, rfl, by simp, hO9, hB9, HE9.out, x90, x91, x92⟩
        · have hd : decide ((k : Int) < (N : Int)) = false := decide_eq_false (by omega)
          have hke : c.gaps.take k = c.gaps := List.take_of_length_le (by rw [← HNg.out]; omega)
          rw [hke] at HR
          clear hke
          have g20 := cv20 HR.out.2.2.2.1
          obtain ⟨M, hM⟩ : ∃ M, M = c.ops.length := ⟨_, rfl⟩
          rw [hoN.out, ← hM] at g20
          have HNo : Hid (M = c.ops.length) := hM
          have hm3 : M ≤ 3000 := by rw [hM]; exact HA.out.2.ops
          have HBt : Hid (PairsAt w (.slice s.oA M s.oC) c.ops) := show PairsAt _ _ _ by rw [hM, ← hoN.out]; exact HA.out.1.o
          obtain ⟨bA, hbA⟩ : ∃ x, x = s.oA := ⟨_, rfl⟩
          rw [← hbA] at HBt
          clear hM
          go_wp2
          rw [← hbA]
          clear g20 hbA hd hlt hk
          have HS : Hid (Blk wr w2.heap.size (CV c ({ tA := ta, tN := tn, tC := tc, rA := ra, rN := (ci c.rand).length, rC := rc, aA := aa, aN := c.addrs.length, aC := ac, iA := ia, iN := (ci c.info).length, iC := ic, gA := ga, gN := gn, gC := gc, dA := da, dN := (ci c.dups).length, dC := dc, oA := none, oN := 0, oC := 0 } : Sv)) 38 ∧ Ext w wr ∧ Blk wr w.heap.size (CV c s) 32 ∧ Blk wr w1.heap.size (CV (ck0 0) sv0) 38 ∧ Own5 wr w2.heap.size ({ tA := ta, tN := tn, tC := tc, rA := ra, rN := (ci c.rand).length, rC := rc, aA := aa, aN := c.addrs.length, aC := ac, iA := ia, iN := (ci c.info).length, iC := ic, gA := none, gN := 0, gC := 0, dA := da, dN := (ci c.dups).length, dC := dc, oA := none, oN := 0, oC := 0 } : Sv) c ∧ OwnP 67 wr w.heap.size (.slice ga gn gc) c.gaps) := ⟨HR.out.2.1, HR.out.2.2.1, HR.out.2.2.2.1, HR.out.2.2.2.2.1, HR.out.2.2.2.2.2, HR.out.1⟩
          clear HR
          go_loopg [73] M (fun gm t wr => ∃ (k : Nat) (oa : Option Addr) (on oc : Nat), k ≤ M ∧ gm = M - k ∧ t = .int .i64 (k : Int) ∧ Hid (OwnP 69 wr w.heap.size (.slice oa on oc) (c.ops.take k) ∧ Blk wr w2.heap.size (CV c ({ tA := ta, tN := tn, tC := tc, rA := ra, rN := (ci c.rand).length, rC := rc, aA := aa, aN := c.addrs.length, aC := ac, iA := ia, iN := (ci c.info).length, iC := ic, gA := ga, gN := gn, gC := gc, dA := da, dN := (ci c.dups).length, dC := dc, oA := oa, oN := on, oC := oc } : Sv)) 38 ∧ Ext w wr ∧ Blk wr w.heap.size (CV c s) 32 ∧ Blk wr w1.heap.size (CV (ck0 0) sv0) 38 ∧ Own5 wr w2.heap.size ({ tA := ta, tN := tn, tC := tc, rA := ra, rN := (ci c.rand).length, rC := rc, aA := aa, aN := c.addrs.length, aC := ac, iA := ia, iN := (ci c.info).length, iC := ic, gA := none, gN := 0, gC := 0, dA := da, dN := (ci c.dups).length, dC := dc, oA := none, oN := 0, oC := 0 } : Sv) c ∧ OwnP 67 wr w.heap.size (.slice ga gn gc) c.gaps))
          case atStart => exact ⟨0, none, 0, 0, Nat.zero_le _, rfl, rfl, by rw [List.take_zero]; exact OwnP.nil _ _ _, HS.out.1, HS.out.2.1, HS.out.2.2⟩
          case round =>
            obtain ⟨k, oa, on, oc, hk, rfl, rfl, HR⟩ := hrel
            by_cases hlt : k < M
            · have hd : decide ((k : Int) < (M : Int)) = true := decide_eq_true (by omega)
              have hkL : k < c.ops.length := by rw [← HNo.out]; exact hlt
              have hkn : (k : Int) < (M : Int) := by omega
              obtain ⟨b, off, rfl, hc0, hc1⟩ := HBt.out.cellAt k hkL
              replace hc0 := HR.out.2.2.1.cell hc0
              replace hc1 := HR.out.2.2.1.cell hc1
              have HL : Hid (c.ops.take (k + 1) = c.ops.take k ++ [c.ops.getD k (0, 0)] ∧ (c.ops.take k).length ≤ 3000 ∧ (c.ops.take k).length = k) := ⟨take_snocP hkL, by rw [List.length_take]; have := HSmo.out; omega, by rw [List.length_take]; omega⟩
              obtain ⟨q, hq⟩ : ∃ q, q = c.ops.getD k (0, 0) := ⟨_, rfl⟩
              rw [← hq] at hc0 hc1 HL
              clear hq hkL
              go_wp2_with (first
                | (refine wl_loadP rfl rowOp2 rfl rfl hc0 hc1 ?_)
                | (refine wl_alloc rfl rfl zeroOp2 ?_; intro w6 hb6 he6 hx; clear hx)
                | (refine wl_store (D := #[.int .i64 q.1, .int .i64 q.2]) rfl rowOp2 rfl rfl rfl hb6 rfl rfl (one_pair _ _) ?_; intro w7 hb7 hk7 hx; clear hx; have hO7 := (HR.out.1.ext he6).but hk7 (ownsRow_ne (HR.out.1.ext he6).1 hb6 (by decide)); have hB7 := (HR.out.2.1.ext he6).but hk7 (Nat.ne_of_lt HR.out.2.1.lt); have HE7 : Hid (Ext w w7) := (HR.out.2.2.1.trans he6).of_but hk7 (fun g e => by subst e; exact HR.out.2.2.1.size); have x70 := ((HR.out.2.2.2.1).ext he6).but hk7 (Nat.ne_of_lt (HR.out.2.2.2.1).lt); have x71 := ((HR.out.2.2.2.2.1).ext he6).but hk7 (Nat.ne_of_lt (HR.out.2.2.2.2.1).lt); have x72 := ((HR.out.2.2.2.2.2.1).ext he6).but hk7 hb6 noOp2; have x73 := ((HR.out.2.2.2.2.2.2).ext he6).but hk7 (ownsRow_ne ((HR.out.2.2.2.2.2.2).ext he6).1 hb6 (by decide)); clear hk7 hb6; have d7 := cv20 hB7)
                | (refine wl_load rfl rowOp2 rfl rfl hb7 rfl ?_)
                | (at_builtin; refine wl_pushPr prO (L := c.ops.take k) (p := q) (v := .slice oa on oc) (base := w.heap.size) rfl rfl rfl rfl rfl rfl hO7 (by have := HL.out.2.1; omega) HE7.out.size ?_; intro ad n8 cap w8 hn8 ho8 hk8 hg8; clear hg8; have hB8 := hB7.but hk8 (fun e => ownsRow_ne hO7.1 hB7 (by decide) _ e rfl); have HE8 : Hid (Ext w w8) := HE7.out.of_but hk8 (fun g e => (hO7.lt e).1); have x80 := (x70).but hk8 (fun e => ownsRow_ne hO7.1 (x70) (by decide) _ e rfl); have x81 := (x71).but hk8 (fun e => ownsRow_ne hO7.1 (x71) (by decide) _ e rfl); have x82 := (x72).butP hk8 hO7 (by decide) (by decide) (by decide); have x83 := (x73).but hk8 (fun k e1 e2 => own_apart (x73).1 hO7.1 (by decide) k e1 e2); clear hk8 d7 hb7)
                | (refine wl_set (v := .slice ad n8 cap) rfl oneSO rfl rfl rfl rfl rfl hB8 (of_decide_eq_true rfl) ?_; intro w9 hbx hk9 hx9; clear hx9; have hB9 : Blk w9 w2.heap.size (CV c ({ tA := ta, tN := tn, tC := tc, rA := ra, rN := (ci c.rand).length, rC := rc, aA := aa, aN := c.addrs.length, aC := ac, iA := ia, iN := (ci c.info).length, iC := ic, gA := ga, gN := gn, gC := gc, dA := da, dN := (ci c.dups).length, dC := dc, oA := ad, oN := n8, oC := cap } : Sv)) 38 := hbx; have hO9 := ho8.but hk9 (ownsRow_ne ho8.1 hB8 (by decide)); have HE9 : Hid (Ext w w9) := HE8.out.of_but hk9 (fun g e => by subst e; exact HG3.out); have x90 := (x80).but hk9 (Nat.ne_of_lt HW.out); have x91 := (x81).but hk9 (Nat.ne_of_lt HQ2.out); have x92 := (x82).but hk9 hB8 noCk; have x93 := (x83).but hk9 (ownsRow_ne (x83).1 hB8 (by decide)); clear hbx hk9))
              rw [← HL.out.1] at hO9
              go_roundg (M - (k + 1))
              case measure => omega
              case rel => exact ⟨k + 1, ad, n8, cap, by omega, rfl, by simp, hO9, hB9, HE9.out, x90, x91, x92, x93⟩
            · have hd : decide ((k : Int) < (M : Int)) = false := decide_eq_false (by omega)
              have hke : c.ops.take k = c.ops := List.take_of_length_le (by rw [← HNo.out]; omega)
              rw [hke] at HR
              clear hke
              go_wp2_with (first
                | (refine wl_load rfl rowC rfl rfl HR.out.2.1 rfl ?_)
                | (refine wl_store (D := CV c ({ tA := ta, tN := tn, tC := tc, rA := ra, rN := (ci c.rand).length, rC := rc, aA := aa, aN := c.addrs.length, aC := ac, iA := ia, iN := (ci c.info).length, iC := ic, gA := ga, gN := gn, gC := gc, dA := da, dN := (ci c.dups).length, dC := dc, oA := oa, oN := on, oC := oc } : Sv)) rfl rowC rfl rfl rfl HR.out.2.2.2.2.1 rfl rfl (CV.one _ _) ?_; intro w9 hb9 hk9 hx9; clear hx9))
              refine bodyPost_ret (results_cell_row (fn := Try.f9) (p := 2) rfl _ w9 _ _ _ (0, 0) _ rfl hb9 Try.underlying38 rfl (by kernel_rfl)) rfl ?_
              have hE : Ext w w9 := HR.out.2.2.1.of_but hk9 (fun g e => by subst e; exact Nat.le_of_lt HG2.out.2)
              have h5 := HR.out.2.2.2.2.2.1.but hk9 HR.out.2.2.2.2.1 noCk
              exact ⟨_, rfl, ⟨obN (h5.t.base HG3.out) HA.out.1.t.1, obN (h5.r.base HG3.out) HA.out.1.r.1, h5.a.base HG3.out, obN (h5.i.base HG3.out) HA.out.1.i.1, HR.out.2.2.2.2.2.2.but hk9 (ownsRow_ne HR.out.2.2.2.2.2.2.1 HR.out.2.2.2.2.1 (by decide)), h5.d.base HG3.out, HR.out.1.but hk9 (ownsRow_ne HR.out.1.1 HR.out.2.2.2.2.1 (by decide))⟩, hE⟩


end Tlv
end Go.Proofs.Ytobkgaceallegaa

/- Elements of the own stored: numbers, pairs; a chunk in memory of the own, an element of whose lists is stored. No condition of its own. -/
namespace Go.Proofs.Ytobkgaceallegaa
namespace Tlv
open Go Go.RowKit
set_option linter.unusedVariables false
set_option linter.unusedSimpArgs false
set_option maxRecDepth 100000


theorem wl_pokeN {w : World} {ops : Array Oper} {rest : List Oper} {o : Oper} {a : Act} {Q : Exit → Act → World → Prop} (hgd : o.guard = none) {e : TypeId} {k : IntKind} (hT : OneT Try.prog e) {x y : Operand} {base q j n c : Nat} {z : Int} {m : List Int} (ho : o.op = .store e x y) (hx : a.eval x = .pointer (some ⟨q, j, none⟩)) (hy : a.eval y = .int k z) (hm : OwnN k w base e (.slice (some ⟨q, 0, none⟩) n c) m) (hj : j < m.length)
    (h : ∀ w', OwnN k w' base e (.slice (some ⟨q, 0, none⟩) n c) (m.set j z) → KeepBut (· = q) w w' → wpList Try.prog ops Q rest (a.put o.dst undef) w') : wpList Try.prog ops Q (o :: rest) a w := by
  obtain ⟨h1, h2⟩ := hm.stored j z
  have hm0 := hm.1
  rcases hm0.2 with ⟨e1, _⟩ | ⟨g', cap, cur, e1, hb, hg, hnc, hcm, hcs, _⟩
  · cases e1
  · simp only [Value.slice.injEq, Option.some.injEq, Addr.mk.injEq, and_true] at e1
    obtain ⟨rfl, e2, rfl⟩ := e1
    exact wpList_of_skip hgd (exec_set hT ho hx hy rfl rfl (C := cur) (T := e) hg (by rw [hcs]; omega)) (h _ h1 ⟨h2.os, h2.tape, h2.output, h2.size, fun k hk hn => h2.block k hk (by simpa using hn)⟩)
theorem pcl_cons (p : Int × Int) (L : List (Int × Int)) : pcl (p :: L) = .int .i64 p.1 :: .int .i64 p.2 :: pcl L := rfl
theorem pcl_set : ∀ (L : List (Int × Int)) (j : Nat) (z : Int), j < L.length → (pcl L).set (j * 2 + 1) (.int .i64 z) = pcl (L.set j ((L.getD j (0, 0)).1, z))
  | [], j, z, h => by simp at h
  | p :: L, 0, z, _ => by simp [pcl_cons]
  | p :: L, j + 1, z, h => by
    have := pcl_set L j z (by simpa using h)
    rw [pcl_cons, show (j + 1) * 2 + 1 = j * 2 + 1 + 1 + 1 by omega, List.set_cons_succ, List.set_cons_succ, this, List.set_cons_succ, pcl_cons]
    simp
theorem wl_pokeP {w : World} {ops : Array Oper} {rest : List Oper} {o : Oper} {a : Act} {Q : Exit → Act → World → Prop} (hgd : o.guard = none) {E t : TypeId} (hT : OneT Try.prog t) {x y : Operand} {base q j p n c : Nat} {z : Int} {m : List (Int × Int)} (ho : o.op = .store t x y) (hx : a.eval x = .pointer (some ⟨q, p, none⟩)) (hp : p = j * 2 + 1) (hy : a.eval y = .int .i64 z) (hm : OwnP E w base (.slice (some ⟨q, 0, none⟩) n c) m) (hj : j < m.length)
    (h : ∀ w', OwnP E w' base (.slice (some ⟨q, 0, none⟩) n c) (m.set j ((m.getD j (0, 0)).1, z)) → KeepBut (· = q) w w' → wpList Try.prog ops Q rest (a.put o.dst undef) w') : wpList Try.prog ops Q (o :: rest) a w := by
  subst hp
  have hm0 := hm.1
  have hn : n = m.length := by
    obtain ⟨a', c', e1⟩ := OwnP.form hm
    simp only [Value.slice.injEq] at e1
    exact e1.2.1
  subst hn
  obtain ⟨h1, h2⟩ := hm0.stored (j * 2 + 1) (.int .i64 z)
  rw [pcl_set m j z hj] at h1
  rcases hm0.2 with ⟨e1, _⟩ | ⟨g', cap, cur, e1, hb, hg, hnc, hcm, hcs, _⟩
  · cases e1
  · simp only [Value.slice.injEq, Option.some.injEq, Addr.mk.injEq, and_true, true_and] at e1
    obtain ⟨rfl, rfl⟩ := e1
    exact wpList_of_skip hgd (exec_set hT ho hx hy rfl rfl (C := cur) (T := E) hg (by rw [hcs]; omega)) (h _ ⟨by rw [List.length_set]; exact h1, by rw [List.length_set]; exact hm.2⟩ ⟨h2.os, h2.tape, h2.output, h2.size, fun k hk hn => h2.block k hk (by simpa using hn)⟩)
theorem ownN_some {k : IntKind} {e : TypeId} {w : World} {base : Nat} {a : Option Addr} {n c : Nat} {l : List Int} (h : OwnN k w base e (.slice a n c) l) (hn : 0 < n) : ∃ q, a = some ⟨q, 0, none⟩ ∧ n = l.length := by
  obtain ⟨x, y, e2, h1, h2⟩ := h.slice
  simp only [Value.slice.injEq] at e2
  obtain ⟨rfl, e3, rfl⟩ := e2
  cases ha : a with
  | none => have := (h1 ha).1; rw [e3, this] at hn; simp at hn
  | some z => obtain ⟨q, rfl, _⟩ := h2 z ha; exact ⟨q, rfl, e3⟩
theorem ownP_some {E : TypeId} {w : World} {base : Nat} {a : Option Addr} {n c : Nat} {l : List (Int × Int)} (h : OwnP E w base (.slice a n c) l) (hn : 0 < n) : ∃ q, a = some ⟨q, 0, none⟩ ∧ n = l.length := by
  obtain ⟨a', c', e1⟩ := OwnP.form h
  simp only [Value.slice.injEq] at e1
  rcases h.1.2 with ⟨h1, h2⟩ | ⟨g, cap, cur, h1, _⟩
  · simp only [Value.slice.injEq] at h1; omega
  · simp only [Value.slice.injEq] at h1
    exact ⟨g, h1.1, e1.2.1⟩
theorem ownN_cell {k : IntKind} {e : TypeId} {w : World} {base q n c : Nat} {l : List Int} (h : OwnN k w base e (.slice (some ⟨q, 0, none⟩) n c) l) (j : Nat) (hj : j < l.length) : w.cell? ⟨q, j, none⟩ = some (.int k (l.getD j 0)) := by
  have hn : n = l.length := by
    obtain ⟨a', c', e1, _⟩ := h.slice
    simp only [Value.slice.injEq] at e1
    exact e1.2.1
  subst hn
  rw [h.1.cellAt j (by omega)]
  simp [List.getD_eq_getElem?_getD, hj]
theorem ownP_cell {E : TypeId} {w : World} {base q n c : Nat} {l : List (Int × Int)} (h : OwnP E w base (.slice (some ⟨q, 0, none⟩) n c) l) (j : Nat) (hj : j < l.length) : w.cell? ⟨q, j * 2 + 1, none⟩ = some (.int .i64 (l.getD j (0, 0)).2) := by
  have hn : n = l.length := by
    obtain ⟨a', c', e1⟩ := OwnP.form h
    simp only [Value.slice.injEq] at e1
    exact e1.2.1
  subst hn
  rw [h.1.cellAt (j * 2 + 1) (by omega)]
  have := (pcl_get (L := l) (i := j) (p := l.getD j (0, 0)) (by simp [List.getD_eq_getElem?_getD, hj])).2
  exact this
/-- Lists as long. -/
structure LensEq (m x : Ck) : Prop where
  t : m.text.length = x.text.length
  r : m.rand.length = x.rand.length
  a : m.addrs.length = x.addrs.length
  i : m.info.length = x.info.length
  g : m.gaps.length = x.gaps.length
  d : m.dups.length = x.dups.length
  o : m.ops.length = x.ops.length
theorem LensEq.refl (a : Ck) : LensEq a a := ⟨rfl, rfl, rfl, rfl, rfl, rfl, rfl⟩
theorem OwnC.poked_t {w w' : World} {base q : Nat} {s : Sv} {m : Ck} {l' : List Nat} (h : OwnC w base s m) (hd : Dist s) (hq : (Value.slice s.tA s.tN s.tC).ownBlock = some q) (hk : KeepBut (· = q) w w') (hn : OB w' base (Value.slice s.tA s.tN s.tC) l') : OwnC w' base s { m with text := l' } :=
  ⟨hn, h.r.but hk (fun k e e2 => hd.1 q hq (by rw [← e2]; exact e)), h.a.mono_via hk (fun k e e2 => own_apart h.a.1 h.t.own.1 (by decide) k e (by rw [e2]; exact hq)), h.i.but hk (fun k e e2 => hd.2.1 q hq (by rw [← e2]; exact e)), h.g.but hk (fun k e e2 => own_apart h.g.1 h.t.own.1 (by decide) k e (by rw [e2]; exact hq)), h.d.mono_via hk (fun k e e2 => own_apart h.d.1 h.t.own.1 (by decide) k e (by rw [e2]; exact hq)), h.o.but hk (fun k e e2 => own_apart h.o.1 h.t.own.1 (by decide) k e (by rw [e2]; exact hq))⟩
theorem OwnC.poked_r {w w' : World} {base q : Nat} {s : Sv} {m : Ck} {l' : List Nat} (h : OwnC w base s m) (hd : Dist s) (hq : (Value.slice s.rA s.rN s.rC).ownBlock = some q) (hk : KeepBut (· = q) w w') (hn : OB w' base (Value.slice s.rA s.rN s.rC) l') : OwnC w' base s { m with rand := l' } :=
  ⟨h.t.but hk (fun k e e2 => hd.1 k e (by rw [e2]; exact hq)), hn, h.a.mono_via hk (fun k e e2 => own_apart h.a.1 h.r.own.1 (by decide) k e (by rw [e2]; exact hq)), h.i.but hk (fun k e e2 => hd.2.2 q hq (by rw [← e2]; exact e)), h.g.but hk (fun k e e2 => own_apart h.g.1 h.r.own.1 (by decide) k e (by rw [e2]; exact hq)), h.d.mono_via hk (fun k e e2 => own_apart h.d.1 h.r.own.1 (by decide) k e (by rw [e2]; exact hq)), h.o.but hk (fun k e e2 => own_apart h.o.1 h.r.own.1 (by decide) k e (by rw [e2]; exact hq))⟩
theorem OwnC.poked_a {w w' : World} {base q : Nat} {s : Sv} {m : Ck} {l' : List Int} (h : OwnC w base s m) (hd : Dist s) (hq : (Value.slice s.aA s.aN s.aC).ownBlock = some q) (hk : KeepBut (· = q) w w') (hn : OwnN .i64 w' base 65 (Value.slice s.aA s.aN s.aC) l') : OwnC w' base s { m with addrs := l' } :=
  ⟨h.t.but hk (fun k e e2 => own_apart h.t.own.1 h.a.1 (by decide) k e (by rw [e2]; exact hq)), h.r.but hk (fun k e e2 => own_apart h.r.own.1 h.a.1 (by decide) k e (by rw [e2]; exact hq)), hn, h.i.but hk (fun k e e2 => own_apart h.i.own.1 h.a.1 (by decide) k e (by rw [e2]; exact hq)), h.g.but hk (fun k e e2 => own_apart h.g.1 h.a.1 (by decide) k e (by rw [e2]; exact hq)), h.d.mono_via hk (fun k e e2 => own_apart h.d.1 h.a.1 (by decide) k e (by rw [e2]; exact hq)), h.o.but hk (fun k e e2 => own_apart h.o.1 h.a.1 (by decide) k e (by rw [e2]; exact hq))⟩
theorem OwnC.poked_i {w w' : World} {base q : Nat} {s : Sv} {m : Ck} {l' : List Nat} (h : OwnC w base s m) (hd : Dist s) (hq : (Value.slice s.iA s.iN s.iC).ownBlock = some q) (hk : KeepBut (· = q) w w') (hn : OB w' base (Value.slice s.iA s.iN s.iC) l') : OwnC w' base s { m with info := l' } :=
  ⟨h.t.but hk (fun k e e2 => hd.2.1 k e (by rw [e2]; exact hq)), h.r.but hk (fun k e e2 => hd.2.2 k e (by rw [e2]; exact hq)), h.a.mono_via hk (fun k e e2 => own_apart h.a.1 h.i.own.1 (by decide) k e (by rw [e2]; exact hq)), hn, h.g.but hk (fun k e e2 => own_apart h.g.1 h.i.own.1 (by decide) k e (by rw [e2]; exact hq)), h.d.mono_via hk (fun k e e2 => own_apart h.d.1 h.i.own.1 (by decide) k e (by rw [e2]; exact hq)), h.o.but hk (fun k e e2 => own_apart h.o.1 h.i.own.1 (by decide) k e (by rw [e2]; exact hq))⟩
theorem OwnC.poked_g {w w' : World} {base q : Nat} {s : Sv} {m : Ck} {l' : List (Int × Int)} (h : OwnC w base s m) (hd : Dist s) (hq : (Value.slice s.gA s.gN s.gC).ownBlock = some q) (hk : KeepBut (· = q) w w') (hn : OwnP 67 w' base (Value.slice s.gA s.gN s.gC) l') : OwnC w' base s { m with gaps := l' } :=
  ⟨h.t.but hk (fun k e e2 => own_apart h.t.own.1 h.g.1 (by decide) k e (by rw [e2]; exact hq)), h.r.but hk (fun k e e2 => own_apart h.r.own.1 h.g.1 (by decide) k e (by rw [e2]; exact hq)), h.a.mono_via hk (fun k e e2 => own_apart h.a.1 h.g.1 (by decide) k e (by rw [e2]; exact hq)), h.i.but hk (fun k e e2 => own_apart h.i.own.1 h.g.1 (by decide) k e (by rw [e2]; exact hq)), hn, h.d.mono_via hk (fun k e e2 => own_apart h.d.1 h.g.1 (by decide) k e (by rw [e2]; exact hq)), h.o.but hk (fun k e e2 => own_apart h.o.1 h.g.1 (by decide) k e (by rw [e2]; exact hq))⟩
theorem OwnC.poked_d {w w' : World} {base q : Nat} {s : Sv} {m : Ck} {l' : List Nat} (h : OwnC w base s m) (hd : Dist s) (hq : (Value.slice s.dA s.dN s.dC).ownBlock = some q) (hk : KeepBut (· = q) w w') (hn : OwnN .u32 w' base 22 (Value.slice s.dA s.dN s.dC) (ci l')) : OwnC w' base s { m with dups := l' } :=
  ⟨h.t.but hk (fun k e e2 => own_apart h.t.own.1 h.d.1 (by decide) k e (by rw [e2]; exact hq)), h.r.but hk (fun k e e2 => own_apart h.r.own.1 h.d.1 (by decide) k e (by rw [e2]; exact hq)), h.a.mono_via hk (fun k e e2 => own_apart h.a.1 h.d.1 (by decide) k e (by rw [e2]; exact hq)), h.i.but hk (fun k e e2 => own_apart h.i.own.1 h.d.1 (by decide) k e (by rw [e2]; exact hq)), h.g.but hk (fun k e e2 => own_apart h.g.1 h.d.1 (by decide) k e (by rw [e2]; exact hq)), hn, h.o.but hk (fun k e e2 => own_apart h.o.1 h.d.1 (by decide) k e (by rw [e2]; exact hq))⟩
theorem OwnC.poked_o {w w' : World} {base q : Nat} {s : Sv} {m : Ck} {l' : List (Int × Int)} (h : OwnC w base s m) (hd : Dist s) (hq : (Value.slice s.oA s.oN s.oC).ownBlock = some q) (hk : KeepBut (· = q) w w') (hn : OwnP 69 w' base (Value.slice s.oA s.oN s.oC) l') : OwnC w' base s { m with ops := l' } :=
  ⟨h.t.but hk (fun k e e2 => own_apart h.t.own.1 h.o.1 (by decide) k e (by rw [e2]; exact hq)), h.r.but hk (fun k e e2 => own_apart h.r.own.1 h.o.1 (by decide) k e (by rw [e2]; exact hq)), h.a.mono_via hk (fun k e e2 => own_apart h.a.1 h.o.1 (by decide) k e (by rw [e2]; exact hq)), h.i.but hk (fun k e e2 => own_apart h.i.own.1 h.o.1 (by decide) k e (by rw [e2]; exact hq)), h.g.but hk (fun k e e2 => own_apart h.g.1 h.o.1 (by decide) k e (by rw [e2]; exact hq)), h.d.mono_via hk (fun k e e2 => own_apart h.d.1 h.o.1 (by decide) k e (by rw [e2]; exact hq)), hn⟩
/-- What the loops over a copy keep: the copy's lists are as long as they were, all that lay ahead of it lies. -/
def CopySt (w5 wr : World) (g7 : Nat) (a : Ck) (s : Sv) : Prop := (∃ m, OwnC wr w5.heap.size s m ∧ LensEq m a) ∧ Blk wr g7 (CV a s) 38 ∧ Ext w5 wr
theorem CopySt.poked_t {w5 wr w' : World} {g7 q : Nat} {a m : Ck} {s : Sv} {l' : List Nat} (h : OwnC wr w5.heap.size s m) (hl : LensEq m a) (hb : Blk wr g7 (CV a s) 38) (he : Ext w5 wr) (hd : Dist s) (hq : (Value.slice s.tA s.tN s.tC).ownBlock = some q) (hk : KeepBut (· = q) wr w') (hn : OB w' w5.heap.size (Value.slice s.tA s.tN s.tC) l') (hlen : l'.length = m.text.length) : CopySt w5 w' g7 a s :=
  ⟨⟨_, h.poked_t hd hq hk hn, { hl with t := hlen.trans hl.t }⟩, hb.but hk (fun e => ownsRow_ne h.t.own.1 hb (by decide) _ hq e.symm), he.of_but hk (fun k e => by subst e; exact (h.t.lt hq).1)⟩
theorem CopySt.poked_r {w5 wr w' : World} {g7 q : Nat} {a m : Ck} {s : Sv} {l' : List Nat} (h : OwnC wr w5.heap.size s m) (hl : LensEq m a) (hb : Blk wr g7 (CV a s) 38) (he : Ext w5 wr) (hd : Dist s) (hq : (Value.slice s.rA s.rN s.rC).ownBlock = some q) (hk : KeepBut (· = q) wr w') (hn : OB w' w5.heap.size (Value.slice s.rA s.rN s.rC) l') (hlen : l'.length = m.rand.length) : CopySt w5 w' g7 a s :=
  ⟨⟨_, h.poked_r hd hq hk hn, { hl with r := hlen.trans hl.r }⟩, hb.but hk (fun e => ownsRow_ne h.r.own.1 hb (by decide) _ hq e.symm), he.of_but hk (fun k e => by subst e; exact (h.r.lt hq).1)⟩
theorem CopySt.poked_a {w5 wr w' : World} {g7 q : Nat} {a m : Ck} {s : Sv} {l' : List Int} (h : OwnC wr w5.heap.size s m) (hl : LensEq m a) (hb : Blk wr g7 (CV a s) 38) (he : Ext w5 wr) (hd : Dist s) (hq : (Value.slice s.aA s.aN s.aC).ownBlock = some q) (hk : KeepBut (· = q) wr w') (hn : OwnN .i64 w' w5.heap.size 65 (Value.slice s.aA s.aN s.aC) l') (hlen : l'.length = m.addrs.length) : CopySt w5 w' g7 a s :=
  ⟨⟨_, h.poked_a hd hq hk hn, { hl with a := hlen.trans hl.a }⟩, hb.but hk (fun e => ownsRow_ne h.a.1 hb (by decide) _ hq e.symm), he.of_but hk (fun k e => by subst e; exact (h.a.lt hq).1)⟩
theorem CopySt.poked_i {w5 wr w' : World} {g7 q : Nat} {a m : Ck} {s : Sv} {l' : List Nat} (h : OwnC wr w5.heap.size s m) (hl : LensEq m a) (hb : Blk wr g7 (CV a s) 38) (he : Ext w5 wr) (hd : Dist s) (hq : (Value.slice s.iA s.iN s.iC).ownBlock = some q) (hk : KeepBut (· = q) wr w') (hn : OB w' w5.heap.size (Value.slice s.iA s.iN s.iC) l') (hlen : l'.length = m.info.length) : CopySt w5 w' g7 a s :=
  ⟨⟨_, h.poked_i hd hq hk hn, { hl with i := hlen.trans hl.i }⟩, hb.but hk (fun e => ownsRow_ne h.i.own.1 hb (by decide) _ hq e.symm), he.of_but hk (fun k e => by subst e; exact (h.i.lt hq).1)⟩
theorem CopySt.poked_g {w5 wr w' : World} {g7 q : Nat} {a m : Ck} {s : Sv} {l' : List (Int × Int)} (h : OwnC wr w5.heap.size s m) (hl : LensEq m a) (hb : Blk wr g7 (CV a s) 38) (he : Ext w5 wr) (hd : Dist s) (hq : (Value.slice s.gA s.gN s.gC).ownBlock = some q) (hk : KeepBut (· = q) wr w') (hn : OwnP 67 w' w5.heap.size (Value.slice s.gA s.gN s.gC) l') (hlen : l'.length = m.gaps.length) : CopySt w5 w' g7 a s :=
  ⟨⟨_, h.poked_g hd hq hk hn, { hl with g := hlen.trans hl.g }⟩, hb.but hk (fun e => ownsRow_ne h.g.1 hb (by decide) _ hq e.symm), he.of_but hk (fun k e => by subst e; exact (OwnP.lt h.g hq).1)⟩
theorem CopySt.poked_d {w5 wr w' : World} {g7 q : Nat} {a m : Ck} {s : Sv} {l' : List Nat} (h : OwnC wr w5.heap.size s m) (hl : LensEq m a) (hb : Blk wr g7 (CV a s) 38) (he : Ext w5 wr) (hd : Dist s) (hq : (Value.slice s.dA s.dN s.dC).ownBlock = some q) (hk : KeepBut (· = q) wr w') (hn : OwnN .u32 w' w5.heap.size 22 (Value.slice s.dA s.dN s.dC) (ci l')) (hlen : l'.length = m.dups.length) : CopySt w5 w' g7 a s :=
  ⟨⟨_, h.poked_d hd hq hk hn, { hl with d := hlen.trans hl.d }⟩, hb.but hk (fun e => ownsRow_ne h.d.1 hb (by decide) _ hq e.symm), he.of_but hk (fun k e => by subst e; exact (h.d.lt hq).1)⟩
theorem CopySt.poked_o {w5 wr w' : World} {g7 q : Nat} {a m : Ck} {s : Sv} {l' : List (Int × Int)} (h : OwnC wr w5.heap.size s m) (hl : LensEq m a) (hb : Blk wr g7 (CV a s) 38) (he : Ext w5 wr) (hd : Dist s) (hq : (Value.slice s.oA s.oN s.oC).ownBlock = some q) (hk : KeepBut (· = q) wr w') (hn : OwnP 69 w' w5.heap.size (Value.slice s.oA s.oN s.oC) l') (hlen : l'.length = m.ops.length) : CopySt w5 w' g7 a s :=
  ⟨⟨_, h.poked_o hd hq hk hn, { hl with o := hlen.trans hl.o }⟩, hb.but hk (fun e => ownsRow_ne h.o.1 hb (by decide) _ hq e.symm), he.of_but hk (fun k e => by subst e; exact (OwnP.lt h.o hq).1)⟩
end Tlv
end Go.Proofs.Ytobkgaceallegaa

/- The chapter's example. No condition of its own. -/
namespace Go.Proofs.Ytobkgaceallegaa
namespace Tlv
open Go Go.RowKit
set_option linter.unusedVariables false
set_option linter.unusedSimpArgs false
set_option maxRecDepth 100000


theorem ckNil (w : World) (k : Int) : CkAt w sv0 (ck0 k) := (OwnC.nil w 0 k).at
theorem fit11 : Fit (ck0 11) := fit0 (k := 11) (by decide)
theorem good11 : goodB (ck0 11) = true := by decide
theorem exB11 : bytesB (ck0 11) = [11, 0, 0, 4] := by decide
theorem exS11 : strOf [11, 0, 0, 4] = ⟨#[11, 0, 0, 4]⟩ := by decide
theorem hdK11 : hdK [11, 0, 0, 4] = 11 := by decide
theorem bytes_lit (w : World) (l : List Nat) (n c : Nat) (hn : n = w.heap.size) (hl : c = l.length) (h1 : AllB l) (hm : l.length ≤ 1000) (C : Array Value) (hC : C = (cellsB l).toArray) : BytesAt (w.alloc (.cells C 5)) (.slice (some ⟨n, 0, none⟩) c c) l := by
  subst hl
  exact (OwnB.made (w := w) (base := 0) (e := 5) C l hn (Nat.zero_le _) rfl (by unfold maxLen; omega) h1 hC).bytes
set_option maxHeartbeats 4000000 in
theorem alive_any (w : World) : Calls Try.prog 7 #[] w fun e w' => e = .returned (.bool true) ∧ Ext w w' := by
  go_enter Try.func7, Try.ntmps7
  go_wp2_with (first
    | (go_at_call 10; refine (bytesC_any (c := ck0 11) (s := sv0) (ckNil _ _) fit11).mono ?_; rintro e w1 ⟨he1, ⟨hgf, rfl⟩ | ⟨hgt, az, nz, cz, rfl, hnz, hoz0⟩⟩
       · exact absurd (hgf.symm.trans good11) (by decide)
       have hoz : OB w1 w.heap.size (.slice az nz cz) [11, 0, 0, 4] := by rw [← exB11]; exact hoz0
       clear hnz hoz0)
    | (go_at_call 17; refine (readC_of (d := ck0 11) (bytes_lit w1 [11, 0, 0, 4] _ _ rfl rfl (by decide) (by decide) _ rfl) (by decide) (fun w0 w' q h => by rw [hdK11] at h; exact valueR_no h (by decide) (by decide) (by decide) (by decide) (by decide) (by decide) (by decide) (by decide) (by decide) (by decide) (by decide) (by decide) (by decide))).mono ?_; rintro e w2 ⟨he2, ⟨hg2, hb2, hf2, s2, rfl, hc2⟩ | ⟨hno, rfl⟩⟩
       rotate_left
       · exact absurd ⟨good11, exB11⟩ hno)
    | (refine wl_alloc rfl rfl zeroC ?_; intro w3 hb3 he3 hx; clear hx)
    | (refine wl_store (D := CV (ck0 11) s2) rfl rowC rfl rfl rfl hb3 rfl rfl (CV.one _ _) ?_; intro w4 hb4 hk4 hx; clear hx; have HE4 : Hid (Ext w w4) := ((he1.trans ((Ext.alloc _ _).trans he2)).trans he3).of_but hk4 (fun k e => by subst e; exact Nat.le_trans he1.size ((Ext.alloc _ _).trans he2).size); have c0 : w4.cell? ⟨w2.heap.size, 0, none⟩ = some (.int .i64 11) := cv0 hb4; have hs1 := run_string_bytes byteT strT w4 (.slice az nz cz) [11, 0, 0, 4] (bytes_but (hoz.bytes.ext (((Ext.alloc _ _).trans he2).trans he3)) hk4 (fun k hk e => by subst e; have h1 := (hoz.lt hk).2; have h2 := ((Ext.alloc w1 _).trans he2).size; omega)); rw [exS11] at hs1))
  go_ret
  exact ⟨rfl, HE4.out⟩
end Tlv
end Go.Proofs.Ytobkgaceallegaa
