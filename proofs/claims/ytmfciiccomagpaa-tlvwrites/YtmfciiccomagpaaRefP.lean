/- The parameters of bytes, as the document reads them. No condition of its own. -/
import Derived.Test.YtmfciiccomagpaaAlive6
import Derived.Test.YtmfciiccomagpaaStageL
namespace Go.Proofs.Ytmfciiccomagpaa
namespace Tlv
open Go Go.RowKit
set_option linter.unusedVariables false
set_option linter.unusedSimpArgs false
set_option maxRecDepth 100000


theorem parT2 : ParT 57 59 := ⟨Try.underlying57, by kernel_rfl, by decide⟩
/-- What the document's Params answers. -/
def RefParamsIs (w : World) (B : List Nat) (e : Ending) (w' : World) : Prop :=
  Ext w w' ∧ ((readAll B = none ∧ e = .returned (.tuple #[.slice none 0 0, .bool false])) ∨ ∃ L lv, readAll B = some L ∧ e = .returned (.tuple #[lv, .bool true]) ∧ OwnL 59 w' w.heap.size lv L)
/-- Six worlds. -/
def ws6 (a b c d e f : World) : Nat → World
  | 0 => a
  | 1 => b
  | 2 => c
  | 3 => d
  | 4 => e
  | _ => f
theorem ws6_ext {w a b c d e f : World} (h0 : Ext w a) (h1 : Ext w b) (h2 : Ext w c) (h3 : Ext w d) (h4 : Ext w e) (h5 : Ext w f) (k : Nat) : Ext w (ws6 a b c d e f k) := by
  match k with
  | 0 => exact h0
  | 1 => exact h1
  | 2 => exact h2
  | 3 => exact h3
  | 4 => exact h4
  | k + 5 => exact h5
theorem exec_runP {r : Operand → Value} {o : Oper} {s x : Operand} {t : TypeId} (ho : o.op = .call { callee := .builtin .append, args := #[s, x], argTypes := #[t, t] }) {w w' : World} {v u z : Value} (hs : r s = v) (hx : r x = u) (hr : (Builtin.append_ #[t, t] o.type #[v, u]).run Try.prog w = .ok z w') : (execOp r o).run Try.prog w = .ok (.value z) w' := by
  simp only [execOp, ho, resolve, invoke, builtin, Sem.run_bind, Sem.run_pure, Result.andThen_ok, List.map_toArray, List.map_cons, List.map_nil, hs, hx, hr]
theorem bytes_cell {w : World} {b off n c : Nat} {l : List Nat} (h : BytesAt w (.slice (some ⟨b, off, none⟩) n c) l) (j : Nat) (hj : j < l.length) : w.cell? ⟨b, off + j, none⟩ = some (.int .u8 (l.getD j 0 : Nat)) := by
  obtain ⟨a, cap, e, _, hc⟩ := h.form
  obtain ⟨b2, off2, e2, h2⟩ := hc j hj
  cases e
  cases e2
  exact h2
theorem bytes_some {w : World} {a : Option Addr} {n c : Nat} {l : List Nat} (h : BytesAt w (.slice a n c) l) (hl : 0 < l.length) : ∃ b off, a = some ⟨b, off, none⟩ := by
  obtain ⟨a2, cap, e, _, hc⟩ := h.form
  obtain ⟨b2, off2, e2, h2⟩ := hc 0 hl
  cases e
  exact ⟨b2, off2, e2⟩
theorem bytes_cap {w : World} {a : Option Addr} {n c : Nat} {l : List Nat} (h : BytesAt w (.slice a n c) l) : n = l.length ∧ n ≤ c := by
  obtain ⟨a2, cap, e, hc, _⟩ := h.form
  cases e
  exact ⟨rfl, hc.1⟩
theorem allZ_true {b : List Nat} {N A : Nat} (h : ∀ j, N ≤ j → j < A → b.getD j 0 = 0) : allZ ((b.take A).drop N) = true := by
  unfold allZ
  rw [List.all_eq_true]
  intro x hx
  obtain ⟨i, hi⟩ := List.getElem?_of_mem hx
  rw [List.getElem?_drop, List.getElem?_take] at hi
  split at hi
  · rename_i hlt
    have := h (N + i) (by omega) hlt
    rw [List.getD_eq_getElem?_getD, hi] at this
    simp at this
    simp [this]
  · cases hi
theorem allZ_false {b : List Nat} {N A k : Nat} (h1 : N ≤ k) (h2 : k < A) (hx : b.getD k 0 ≠ 0) : allZ ((b.take A).drop N) = false := by
  cases he : allZ ((b.take A).drop N) with
  | false => rfl
  | true =>
    refine absurd ?_ hx
    unfold allZ at he
    rw [List.all_eq_true] at he
    rcases Nat.lt_or_ge k b.length with hk | hk
    · have hm : b.getD k 0 ∈ (b.take A).drop N := by
        refine List.mem_of_getElem? (i := k - N) ?_
        rw [List.getElem?_drop, List.getElem?_take, if_pos (by omega), show N + (k - N) = k by omega, List.getD_eq_getElem?_getD, List.getElem?_eq_getElem hk]
        rfl
      simpa using he _ hm
    · rw [List.getD_eq_getElem?_getD, List.getElem?_eq_none hk]; rfl
theorem RdAt.bad {B : List Nat} {p : Nat} {L : List Par} (h : RdAt B (some p) L) (hp : p < B.length) (hk : okP (B.drop p) = false) : readAll B = none := by
  rcases h with ⟨h, _⟩ | ⟨a', e, h1, h2, h3, h4⟩
  · cases h
  · cases e
    rw [h4, readAll_bad (by intro e; have := congrArg List.length e; rw [List.length_drop] at this; simp at this; omega) hk]; rfl
theorem RdAt.all {B : List Nat} {p : Nat} {L : List Par} (h : RdAt B (some p) L) (hp : B.length ≤ p) : readAll B = some L := by
  rcases h with ⟨h, _⟩ | ⟨a', e, h1, h2, h3, h4⟩
  · cases h
  · cases e
    rw [h4, List.drop_eq_nil_of_le hp, readAll_nil]; simp
theorem RdAt.next {B : List Nat} {p : Nat} {L : List Par} (h : RdAt B (some p) L) (hp : p < B.length) (hk : okP (B.drop p) = true) : RdAt B (some (p + allP (B.drop p))) (L ++ [headP (B.drop p)]) := by
  have := h.step hp
  rwa [paramS_ok h.mod hk] at this
theorem okP_no {b : List Nat} (h : ¬ (4 ≤ b.length ∧ 4 ≤ lenP b ∧ lenP b ≤ 4004 ∧ allP b ≤ b.length ∧ allZ ((b.take (allP b)).drop (lenP b)) = true)) : okP b = false := by
  cases hk : okP b with
  | false => rfl
  | true => exact absurd ((okP_iff b).1 hk) h

set_option maxHeartbeats 4000000 in
theorem refParams_any {w : World} {v : Value} {B : List Nat} (hv : BytesAt w v B) (hB : B.length ≤ 100000) :
    Calls Try.prog 34 #[v] w (RefParamsIs w B) := by
  have HA : Hid (AllB B ∧ B.length ≤ 100000) := ⟨hv.1, hB⟩
  obtain ⟨a0, c0, rfl, _, _⟩ := hv.form
  rename_i z1 z2
  clear z1 z2
  obtain ⟨n0, hn0⟩ : ∃ n, n = B.length := ⟨_, rfl⟩
  rw [← hn0] at hv hB ⊢
  have HV : Hid (BytesAt w (.slice a0 n0 c0) B ∧ n0 = B.length) := ⟨hv, hn0⟩
  clear hv hn0
  go_enter Try.func34, Try.ntmps34
  go_wp2
  go_loopg [0, 4] n0 (fun gm x t wr => ∃ (p n : Nat) (a : Option Addr) (c : Nat) (oa : Option Addr) (on oc : Nat) (L : List Par), gm = n ∧ x = .slice a n c ∧ t = .slice oa on oc ∧ n ≤ 100000 ∧ Hid (n = B.length - p ∧ on = L.length ∧ RdAt B (some p) L ∧ BytesAt w (.slice a n c) (B.drop p) ∧ OwnL 59 wr w.heap.size (.slice oa on oc) L ∧ Ext w wr))
  case atStart => exact ⟨0, n0, _, _, none, 0, 0, [], rfl, rfl, rfl, hB, HV.out.2, rfl, RdAt.start B, HV.out.1, OwnL.nil _ _ _, Ext.refl _⟩
  case round =>
    obtain ⟨p, n, a, c, oa, on, oc, L, hgk, rfl, rfl, hn5, HR⟩ := hrel
    subst gk
    by_cases h0 : n = 0
    · have hd : decide ((n : Int) > 0) = false := decide_eq_false (by omega)
      have hdn : decide (0 < n) = false := decide_eq_false (by omega)
      have HF : Hid (readAll B = some L) := HR.out.2.2.1.all (by have := HR.out.1; omega)
      clear h0
      go_wp2
      go_ret2
      exact ⟨HR.out.2.2.2.2.2, .inr ⟨L, _, HF.out, rfl, HR.out.2.2.2.2.1⟩⟩
    · have hd : decide ((n : Int) > 0) = true := decide_eq_true (by omega)
      have hdn : decide (0 < n) = true := decide_eq_true (by omega)
      have hpos : 0 < n := by omega
      have HP : Hid (p < B.length ∧ (B.drop p).length = n) := ⟨by have := HR.out.1; omega, by rw [List.length_drop]; exact HR.out.1.symm⟩
      by_cases h4 : n < 4
      · have hd4 : decide ((n : Int) < 4) = true := decide_eq_true (by omega)
        have HF : Hid (readAll B = none) := HR.out.2.2.1.bad HP.out.1 (okP_no (fun h => by have := HP.out.2; omega))
        clear h0 h4
        go_wp2
        go_ret2
        exact ⟨HR.out.2.2.2.2.2, .inl ⟨HF.out, rfl⟩⟩
      · have hd4 : decide ((n : Int) < 4) = false := decide_eq_false (by omega)
        obtain ⟨b, off, rfl⟩ := bytes_some HR.out.2.2.2.1 (by rw [HP.out.2]; omega)
        have HBB : Hid (BytesAt w (.slice (some ⟨b, off, none⟩) n c) (B.drop p) ∧ n ≤ c) := ⟨HR.out.2.2.2.1, (bytes_cap HR.out.2.2.2.1).2⟩
        have HC : Hid (∀ j, j < n → w.cell? ⟨b, off + j, none⟩ = some (.int .u8 ((B.drop p).getD j 0 : Nat))) := fun j hj => bytes_cell HBB.out.1 j (by rw [HP.out.2]; exact hj)
        have hc2 := HR.out.2.2.2.2.2.cell (HC.out 2 (by omega))
        have hc3 := HR.out.2.2.2.2.2.cell (HC.out 3 (by omega))
        obtain ⟨D, hD⟩ : ∃ D, D = B.drop p := ⟨_, rfl⟩
        have HD : Hid (D = B.drop p ∧ AllB D ∧ D.length = n) := ⟨hD, by rw [hD]; exact HA.out.1.drop p, by rw [hD]; exact HP.out.2⟩
        rw [← hD] at HBB HC hc2 hc3
        clear hD
        have hx2 := HD.out.2.1.getD 2
        have hx3 := HD.out.2.1.getD 3
        obtain ⟨N, hN⟩ : ∃ N, N = lenP D := ⟨_, rfl⟩
        obtain ⟨AL, hAL⟩ : ∃ A, A = allP D := ⟨_, rfl⟩
        have hN0 : N = D.getD 2 0 * 256 + D.getD 3 0 := by rw [hN]; rfl
        have HN : Hid (N = lenP D ∧ AL = allP D) := ⟨hN, hAL⟩
        have hAN : AL = (N + 3) / 4 * 4 := by rw [hAL, hN]; rfl
        clear hN hAL
        generalize D.getD 2 0 = x2 at *
        generalize D.getD 3 0 = x3 at *
        obtain ⟨y2, hy2⟩ : ∃ y, y = x2 * 256 := ⟨_, rfl⟩
        obtain ⟨N3, hN3⟩ : ∃ y, y = N + 3 := ⟨_, rfl⟩
        obtain ⟨N4, hN4⟩ : ∃ y, y = N3 / 4 := ⟨_, rfl⟩
        have m1 : (x2 : Int) * 256 = (y2 : Int) := by omega
        have m2 : (y2 : Int) + (x3 : Int) = (N : Int) := by omega
        have m3 : (N : Int) + 3 = (N3 : Int) := by omega
        have m4 : (N3 : Int) / 4 = (N4 : Int) := by omega
        have m5 : (N4 : Int) * 4 = (AL : Int) := by omega
        have hN6 : N < 65536 := by omega
        have hNA : N ≤ AL := by omega
        have hAL6 : AL ≤ N + 3 := by omega
        have HX : Hid (AL % 4 = 0) := show _ = _ by omega
        clear hN0 hAN
        clear hy2 hN3 hN4
        go_wp2_with fail
        go_quiet (fail)
        have HW : Hid (Ext w (wr.drewN nq) ∧ OwnL 59 (wr.drewN nq) w.heap.size (.slice oa on oc) L) := ⟨HR.out.2.2.2.2.2.trans (Ext.drewN _ _), HR.out.2.2.2.2.1.ext (Ext.drewN _ _)⟩
        have HK : Hid (∀ (h : okP D = false), readAll B = none) := fun h => HR.out.2.2.1.bad HP.out.1 (by rw [← HD.out.1]; exact h)
        have HM : Hid (n = B.length - p ∧ on = L.length ∧ RdAt B (some p) L) := ⟨HR.out.1, HR.out.2.1, HR.out.2.2.1⟩
        clear HR
        clear hc2 hc3 m1 m2
        generalize wr.drewN nq = w1 at *
        by_cases hN4 : N < 4
        · have e1 : decide ((N : Int) < 4) = true := decide_eq_true (by omega)
          have HF : Hid (readAll B = none) := HK.out (okP_no (fun h => by have := HN.out.1; omega))
          go_wp2
          go_ret2
          exact ⟨HW.out.1, .inl ⟨HF.out, rfl⟩⟩
        have e1 : decide ((N : Int) < 4) = false := decide_eq_false (by omega)
        by_cases hN40 : 4004 < N
        · have e2 : decide ((N : Int) > 4004) = true := decide_eq_true (by omega)
          have HF : Hid (readAll B = none) := HK.out (okP_no (fun h => by have := HN.out.1; omega))
          go_wp2
          go_ret2
          exact ⟨HW.out.1, .inl ⟨HF.out, rfl⟩⟩
        have e2 : decide ((N : Int) > 4004) = false := decide_eq_false (by omega)
        by_cases hAn : n < AL
        · have e3 : decide ((AL : Int) > (n : Int)) = true := decide_eq_true (by omega)
          have e4 : decide (n < AL) = true := decide_eq_true (by omega)
          have HF : Hid (readAll B = none) := HK.out (okP_no (fun h => by have := HN.out.2; have := HD.out.2.2; omega))
          go_wp2
          go_ret2
          exact ⟨HW.out.1, .inl ⟨HF.out, rfl⟩⟩
        have e3 : decide ((AL : Int) > (n : Int)) = false := decide_eq_false (by omega)
        have e4 : decide (n < AL) = false := decide_eq_false (by omega)
        have e5 : AL ≤ n := by omega
        go_wp2
        clear m3 m4 m5 e1 e2 e3 e4 hAn
        go_loopg [7] (AL - N) (fun gm t wi => ∃ k : Nat, N ≤ k ∧ k ≤ AL ∧ gm = AL - k ∧ t = .int .i64 (k : Int) ∧ wi = w1 ∧ Hid (∀ j, N ≤ j → j < k → D.getD j 0 = 0))
        case atStart => exact ⟨N, Nat.le_refl _, hNA, rfl, rfl, rfl, fun j h1 h2 => by omega⟩
        case round =>
          obtain ⟨k, hk1, hk2, rfl, rfl, hw, HZ⟩ := hrel
          subst wr
          by_cases hlt : k < AL
          · have hdk : decide ((k : Int) < (AL : Int)) = true := decide_eq_true (by omega)
            have hdk2 : decide (k < AL) = true := decide_eq_true (by omega)
            have hck := HW.out.1.cell (HC.out k (by omega))
            have hkn : k < n := by omega
            have HXK : Hid (∀ j, j = k → D.getD j 0 = D.getD k 0) := fun j h => by rw [h]
            obtain ⟨xk, hxk⟩ : ∃ x, x = D.getD k 0 := ⟨_, rfl⟩
            rw [← hxk] at hck
            have HXK : Hid (xk = D.getD k 0) := hxk
            clear hxk
            by_cases hx0 : xk = 0
            · subst hx0
              go_wp2
              go_roundg (AL - (k + 1))
              case measure => omega
              case rel =>
                refine ⟨k + 1, by omega, by omega, rfl, by simp, rfl, fun j h1 h2 => ?_⟩
                by_cases hj : j = k
                · subst hj; exact HXK.out.symm
                · exact HZ.out j h1 (by omega)
            · have hxn : ((xk : Int) != 0) = true := by simp; omega
              have hxd : decide ((xk : Int) = 0) = false := decide_eq_false (by omega)
              have hxe : ((xk : Int) == 0) = false := beq_false_of_ne (by omega)
              have hxg : decide (xk = 0) = false := decide_eq_false hx0
              have HF : Hid (readAll B = none) := HK.out (okP_no (fun h => by
                have h1 := allZ_false (b := D) hk1 hlt (by rw [← HXK.out]; exact hx0)
                rw [HN.out.1, HN.out.2, h.2.2.2.2] at h1
                cases h1))
              go_wp2
              go_ret2
              exact ⟨HW.out.1, .inl ⟨HF.out, rfl⟩⟩
          · have hdk : decide ((k : Int) < (AL : Int)) = false := decide_eq_false (by omega)
            have hdk2 : decide (k < AL) = false := decide_eq_false (by omega)
            have HOK : Hid (okP D = true) := (okP_iff D).2 ⟨by have := HD.out.2.2; omega, by have := HN.out.1; omega, by have := HN.out.1; omega, by have := HN.out.2; have := HD.out.2.2; omega, by
              rw [← HN.out.1, ← HN.out.2]; exact allZ_true (fun j h1 h2 => HZ.out j h1 (by omega))⟩
            go_wp2_with fail
            have hc0 := HC.out 0 (by omega)
            have hc1 := HC.out 1 (by omega)
            rw [Nat.add_zero] at hc0
            have hx0 := HD.out.2.1.getD 0
            have hx1 := HD.out.2.1.getD 1
            have HH : Hid (headP D = (((D.getD 0 0 * 256 + D.getD 1 0 : Nat) : Int), (D.take N).drop 4)) := show _ = _ by rw [HN.out.1]; rfl
            generalize D.getD 0 0 = x0 at *
            generalize D.getD 1 0 = x1 at *
            obtain ⟨y0, hy0⟩ : ∃ y, y = x0 * 256 := ⟨_, rfl⟩
            obtain ⟨K, hK⟩ : ∃ K, K = x0 * 256 + x1 := ⟨_, rfl⟩
            have z0 : (x0 : Int) * 256 = (y0 : Int) := by omega
            have z1 : (y0 : Int) + (x1 : Int) = (K : Int) := by omega
            have zw0 : IntKind.i64.wrap (y0 : Int) = (y0 : Int) := by rw [IntKind.wrap_i64]; omega
            have zw1 : IntKind.i64.wrap (K : Int) = (K : Int) := by rw [IntKind.wrap_i64]; omega
            have cv0 : IntKind.i64.wrap (x0 : Int) = (x0 : Int) := by rw [IntKind.wrap_i64]; omega
            have cv1 : IntKind.i64.wrap (x1 : Int) = (x1 : Int) := by rw [IntKind.wrap_i64]; omega
            have L0 : (0 : Int) < (n : Int) := by omega
            have L1 : (1 : Int) < (n : Int) := by omega
            rw [← hK] at HH
            have HNC : Hid (N ≤ c) := show _ ≤ _ by have := HBB.out.2; omega
            have hNc : N ≤ c := HNC.out
            have hN44 : 4 ≤ N := by omega
            obtain ⟨sa, hsl0, _⟩ := sliced_form (some ⟨b, off, none⟩) 4 N c
            obtain ⟨sn, hsn⟩ : ∃ s, s = N - 4 := ⟨_, rfl⟩
            obtain ⟨sc, hsc⟩ : ∃ s, s = c - 4 := ⟨_, rfl⟩
            have hsl : sliced (some ⟨b, off, none⟩) 4 N c 1 = .slice sa sn sc := by rw [hsl0, hsn, hsc]
            have HS : BytesAt w (.slice sa sn sc) ((D.take N).drop 4) := by rw [← hsl]; exact HBB.out.1.sliced 4 N hN44 (by have := HD.out.2.2; omega)
            obtain ⟨M, hM⟩ : ∃ M, M = (D.take N).drop 4 := ⟨_, rfl⟩
            have hMl : M.length ≤ 5000 := by rw [hM, List.length_drop, List.length_take]; omega
            rw [← hM] at HS HH
            clear hsl0 hM
            obtain ⟨W0, hW0⟩ : ∃ W0, W0 = w1.drew := ⟨_, rfl⟩
            have hE0 : Ext w W0 := by rw [hW0]; exact HW.out.1.trans (Ext.drew _)
            have hL0 : OwnL 59 W0 w.heap.size (.slice oa on oc) L := by rw [hW0]; exact HW.out.2.ext (Ext.drew _)
            obtain ⟨W1, hW1⟩ : ∃ W1, W0.alloc (.cells #[] 5) = W1 := ⟨_, rfl⟩
            have hE1 : Ext W0 W1 := by rw [← hW1]; exact Ext.alloc _ _
            have hO1 : OB W1 w.heap.size (.slice (some ⟨W0.heap.size, 0, none⟩) 0 0) [] := by rw [← hW1]; exact OB.lit0 W0 _ _ rfl hE0.size
            obtain ⟨ba, bc, W2, hrun1, ho2, hk2, _⟩ := run_appB W1 w.heap.size 26 (.slice (some ⟨W0.heap.size, 0, none⟩) 0 0) (.slice sa sn sc) [] M hO1 (HS.ext (hE0.trans hE1)) (by simp; omega) (Nat.le_trans hE0.size hE1.size)
            rw [List.nil_append] at hrun1 ho2
            obtain ⟨bn, hbn⟩ : ∃ bn, bn = M.length := ⟨_, rfl⟩
            rw [← hbn] at hrun1 ho2
            have hE2 : Ext W0 W2 := hE1.of_but hk2 (fun k e => by cases e; exact Nat.le_refl _)
            obtain ⟨W3, hW3⟩ : ∃ W3, W2.alloc (.cells #[.int .i64 (K : Int), .slice ba bn bc] 59) = W3 := ⟨_, rfl⟩
            have hE3 : Ext W2 W3 := by rw [← hW3]; exact Ext.alloc _ _
            have hL3 := hL0.ext (hE2.trans hE3)
            have hLn : L.length ≤ 100000 := by have h1 := HM.out.2.2.len; have h2 := HA.out.2; omega
            obtain ⟨oa2, oc2, W4, hrun2, ho4, hk4, _⟩ := run_pushP parT2 W3 w.heap.size 57 W2.heap.size (.slice oa on oc) (.slice ba bn bc) L (K : Int) M hL3 (by rw [← hW3]; exact cellNew _ _ _ _ _ _ rfl) (by rw [← hW3]; exact cellNew _ _ _ _ _ _ rfl) (ho2.ext hE3) hLn (Nat.le_trans hE0.size (hE2.trans hE3).size)
            obtain ⟨on2, hon2⟩ : ∃ q, q = L.length + 1 := ⟨_, rfl⟩
            rw [← hon2] at hrun2 ho4
            have hE4 : Ext w W4 := (hE0.trans (hE2.trans hE3)).of_but hk4 (fun k e => (hL3.lt e).1)
            have HE := ws6_ext hE0 (hE0.trans hE1) (hE0.trans hE2) (hE0.trans hE2) (hE0.trans (hE2.trans hE3)) hE4
            have hs0 : ws6 W0 W1 W2 W2 W3 W4 0 = w1.drew := hW0
            refine wp_region_stagedL (fun t => bif Nat.ble 51 t && Nat.ble t 69 then some (t - 51) else none) 74 [11, 15, 16, 17, 18] (ws6 W0 W1 W2 W2 W3 W4)
              [(fun v => v = (.slice oa on oc)),
               (fun v => v = (.slice (some ⟨b, off, none⟩) n c)),
               (fun v => v = (.pointer (some ⟨b, off, none⟩))),
               (fun v => v = (.int .u8 (x0 : Int))),
               (fun v => v = (.int .i64 (x0 : Int))),
               (fun v => v = (.int .i64 (y0 : Int))),
               (fun v => v = (.slice (some ⟨b, off, none⟩) n c)),
               (fun v => v = (.pointer (some ⟨b, off + 1, none⟩))),
               (fun v => v = (.int .u8 (x1 : Int))),
               (fun v => v = (.int .i64 (x1 : Int))),
               (fun v => v = (.int .i64 (K : Int))),
               (fun v => v = (.slice (some ⟨W0.heap.size, 0, none⟩) 0 0)),
               (fun v => v = (.slice (some ⟨b, off, none⟩) n c)),
               (fun v => v = (.int .i64 (N : Int))),
               (fun v => v = (.slice sa sn sc)),
               (fun v => v = (.slice ba bn bc)),
               (fun v => v = (.agg #[.int .i64 (K : Int), .slice ba bn bc])),
               (fun v => v = (.slice (some ⟨W2.heap.size, 0, none⟩) 1 1)),
               (fun v => v = (.slice oa2 on2 oc2))]
              (by intro h; cases h) 69 18 4 rfl rfl rfl rfl (by kernel_rfl) (by kernel_rfl) rfl (by kernel_rfl) (by kernel_rfl) (by kernel_rfl) hs0 ?_ ?_
            · refine GoodSAll.reads rfl (fun k hk => ?_) ?_
              · intro r hx
                obtain ⟨h1, _⟩ := hx
                replace h1 : r (.tmp 4) = (.slice oa on oc) := h1
                exact give_move (.inl rfl) ⟨rfl, h1⟩
              refine GoodSAll.reads rfl (fun k hk => ?_) ?_
              · intro r hx
                obtain ⟨h1, _⟩ := hx
                replace h1 : r (.tmp 0) = (.slice (some ⟨b, off, none⟩) n c) := h1
                exact give_move (.inl rfl) ⟨rfl, h1⟩
              refine GoodSAll.reads rfl (fun k hk => ?_) ?_
              · intro r hx
                obtain ⟨h1, h2, _⟩ := hx
                replace h1 : r (.tmp 52) = (.slice (some ⟨b, off, none⟩) n c) := h1
                replace h2 : r (.const (.int .i64 0)) = .int .i64 0 := h2
                exact give_of (by simp [execOp, h1, h2, h0, L0, go_sem]) ⟨rfl, rfl⟩
              refine GoodSAll.reads rfl (fun k hk => ?_) ?_
              · intro r hx
                obtain ⟨h1, _⟩ := hx
                replace h1 : r (.tmp 53) = (.pointer (some ⟨b, off, none⟩)) := h1
                exact give_of (exec_get one5 rfl h1 ((HE k).cell hc0)) ⟨rfl, rfl⟩
              refine GoodSAll.reads rfl (fun k hk => ?_) ?_
              · intro r hx
                obtain ⟨h1, _⟩ := hx
                replace h1 : r (.tmp 54) = (.int .u8 (x0 : Int)) := h1
                exact give_of (by simp [execOp, h1, cv0, go_sem]) ⟨rfl, rfl⟩
              refine GoodSAll.reads rfl (fun k hk => ?_) ?_
              · intro r hx
                obtain ⟨h1, h2, _⟩ := hx
                replace h1 : r (.tmp 55) = (.int .i64 (x0 : Int)) := h1
                replace h2 : r (.const (.int .i64 256)) = .int .i64 256 := h2
                exact give_of (by simp [execOp, h1, h2, z0, zw0, go_sem]) ⟨rfl, rfl⟩
              refine GoodSAll.reads rfl (fun k hk => ?_) ?_
              · intro r hx
                obtain ⟨h1, _⟩ := hx
                replace h1 : r (.tmp 0) = (.slice (some ⟨b, off, none⟩) n c) := h1
                exact give_move (.inl rfl) ⟨rfl, h1⟩
              refine GoodSAll.reads rfl (fun k hk => ?_) ?_
              · intro r hx
                obtain ⟨h1, h2, _⟩ := hx
                replace h1 : r (.tmp 57) = (.slice (some ⟨b, off, none⟩) n c) := h1
                replace h2 : r (.const (.int .i64 1)) = .int .i64 1 := h2
                exact give_of (by simp [execOp, h1, h2, h0, L1, go_sem]) ⟨rfl, rfl⟩
              refine GoodSAll.reads rfl (fun k hk => ?_) ?_
              · intro r hx
                obtain ⟨h1, _⟩ := hx
                replace h1 : r (.tmp 58) = (.pointer (some ⟨b, off + 1, none⟩)) := h1
                exact give_of (exec_get one5 rfl h1 ((HE k).cell hc1)) ⟨rfl, rfl⟩
              refine GoodSAll.reads rfl (fun k hk => ?_) ?_
              · intro r hx
                obtain ⟨h1, _⟩ := hx
                replace h1 : r (.tmp 59) = (.int .u8 (x1 : Int)) := h1
                exact give_of (by simp [execOp, h1, cv1, go_sem]) ⟨rfl, rfl⟩
              refine GoodSAll.reads rfl (fun k hk => ?_) ?_
              · intro r hx
                obtain ⟨h1, h2, _⟩ := hx
                replace h1 : r (.tmp 56) = (.int .i64 (y0 : Int)) := h1
                replace h2 : r (.tmp 60) = (.int .i64 (x1 : Int)) := h2
                exact give_of (by simp [execOp, h1, h2, z1, zw1, go_sem]) ⟨rfl, rfl⟩
              refine GoodSAll.writes 0 rfl rfl ?_ ?_
              · intro r hx
                exact give_of (by simp [execOp, go_sem]; exact ⟨rfl, rfl⟩) ⟨hW1, rfl⟩
              refine GoodSAll.reads rfl (fun k hk => ?_) ?_
              · intro r hx
                obtain ⟨h1, _⟩ := hx
                replace h1 : r (.tmp 0) = (.slice (some ⟨b, off, none⟩) n c) := h1
                exact give_move (.inl rfl) ⟨rfl, h1⟩
              refine GoodSAll.reads rfl (fun k hk => ?_) ?_
              · intro r hx
                obtain ⟨h1, _⟩ := hx
                replace h1 : r (.tmp 5) = (.int .i64 (N : Int)) := h1
                exact give_move (.inl rfl) ⟨rfl, h1⟩
              refine GoodSAll.reads rfl (fun k hk => ?_) ?_
              · intro r hx
                obtain ⟨h1, h2, h3, _⟩ := hx
                replace h1 : r (.tmp 63) = (.slice (some ⟨b, off, none⟩) n c) := h1
                replace h2 : r (.const (.int .i64 4)) = .int .i64 4 := h2
                replace h3 : r (.tmp 64) = (.int .i64 (N : Int)) := h3
                exact give_of (by rw [← hsl]; exact exec_slice_lh byteT rfl _ _ n c 4 N .i64 .i64 h1 h2 h3 hN44 hNc) ⟨rfl, rfl⟩
              refine GoodSAll.writes 1 rfl rfl ?_ ?_
              · intro r hx
                obtain ⟨h1, h2, _⟩ := hx
                replace h1 : r (.tmp 62) = (.slice (some ⟨W0.heap.size, 0, none⟩) 0 0) := h1
                replace h2 : r (.tmp 65) = (.slice sa sn sc) := h2
                exact give_of (exec_run rfl h1 h2 hrun1) ⟨rfl, rfl⟩
              refine GoodSAll.writes 2 rfl rfl ?_ ?_
              · intro r hx
                obtain ⟨h1, h2, _⟩ := hx
                replace h1 : r (.tmp 61) = (.int .i64 (K : Int)) := h1
                replace h2 : r (.tmp 66) = (.slice ba bn bc) := h2
                exact give_of (by simp [execOp, h1, h2, go_sem]; rfl) ⟨rfl, rfl⟩
              refine GoodSAll.writes 3 rfl rfl ?_ ?_
              · intro r hx
                obtain ⟨h1, _⟩ := hx
                replace h1 : r (.tmp 67) = (.agg #[.int .i64 (K : Int), .slice ba bn bc]) := h1
                exact give_of (by simp [execOp, h1, go_sem]; exact ⟨rfl, rfl⟩) ⟨hW3, rfl⟩
              refine GoodSAll.writes 4 rfl rfl ?_ ?_
              · intro r hx
                obtain ⟨h1, h2, _⟩ := hx
                replace h1 : r (.tmp 51) = (.slice oa on oc) := h1
                replace h2 : r (.tmp 68) = (.slice (some ⟨W2.heap.size, 0, none⟩) 1 1) := h2
                exact give_of (exec_runP rfl h1 h2 hrun2) ⟨rfl, rfl⟩
              exact GoodSAll.nil
            · intro vs a' hold ha'
              have hv0 : vs 0 = (.slice oa on oc) := hold 0 (by simp)
              have hv1 : vs 1 = (.slice (some ⟨b, off, none⟩) n c) := hold 1 (by simp)
              have hv2 : vs 2 = (.pointer (some ⟨b, off, none⟩)) := hold 2 (by simp)
              have hv3 : vs 3 = (.int .u8 (x0 : Int)) := hold 3 (by simp)
              have hv4 : vs 4 = (.int .i64 (x0 : Int)) := hold 4 (by simp)
              have hv5 : vs 5 = (.int .i64 (y0 : Int)) := hold 5 (by simp)
              have hv6 : vs 6 = (.slice (some ⟨b, off, none⟩) n c) := hold 6 (by simp)
              have hv7 : vs 7 = (.pointer (some ⟨b, off + 1, none⟩)) := hold 7 (by simp)
              have hv8 : vs 8 = (.int .u8 (x1 : Int)) := hold 8 (by simp)
              have hv9 : vs 9 = (.int .i64 (x1 : Int)) := hold 9 (by simp)
              have hv10 : vs 10 = (.int .i64 (K : Int)) := hold 10 (by simp)
              have hv11 : vs 11 = (.slice (some ⟨W0.heap.size, 0, none⟩) 0 0) := hold 11 (by simp)
              have hv12 : vs 12 = (.slice (some ⟨b, off, none⟩) n c) := hold 12 (by simp)
              have hv13 : vs 13 = (.int .i64 (N : Int)) := hold 13 (by simp)
              have hv14 : vs 14 = (.slice sa sn sc) := hold 14 (by simp)
              have hv15 : vs 15 = (.slice ba bn bc) := hold 15 (by simp)
              have hv16 : vs 16 = (.agg #[.int .i64 (K : Int), .slice ba bn bc]) := hold 16 (by simp)
              have hv17 : vs 17 = (.slice (some ⟨W2.heap.size, 0, none⟩) 1 1) := hold 17 (by simp)
              have hv18 : vs 18 = (.slice oa2 on2 oc2) := hold 18 (by simp)
              simp only [List.dropLast_cons_cons, List.dropLast_singleton, putAll, Act.put, hv0, hv1, hv2, hv3, hv4, hv5, hv6, hv7, hv8, hv9, hv10, hv11, hv12, hv13, hv14, hv15, hv16, hv17, hv18, List.setIfInBounds_toArray, List.set_cons_succ, List.set_cons_zero] at ha'
              rw [hv18]
              subst ha'
              clear hold hv0 hv1 hv2 hv3 hv4 hv5 hv6 hv7 hv8 hv9 hv10 hv11 hv12 hv13 hv14 hv15 hv16 hv17 hv18
              rw [show ws6 W0 W1 W2 W2 W3 W4 [11, 15, 16, 17, 18].length = W4 from rfl]
              obtain ⟨sa2, hsl2, _⟩ := sliced_form (some ⟨b, off, none⟩) AL n c
              obtain ⟨sn2, hsn2⟩ : ∃ s, s = n - AL := ⟨_, rfl⟩
              obtain ⟨sc2, hsc2⟩ : ∃ s, s = c - AL := ⟨_, rfl⟩
              rw [← hsn2, ← hsc2] at hsl2
              have hS2 : BytesAt w (.slice sa2 sn2 sc2) (B.drop (p + AL)) := by
                have := HBB.out.1.sliced AL n e5 (by rw [HD.out.2.2]; exact Nat.le_refl _)
                rwa [hsl2, List.take_of_length_le (by rw [HD.out.2.2]; exact Nat.le_refl _), HD.out.1, List.drop_drop] at this
              have HQ : Hid (sn2 = n - AL ∧ sn2 = B.length - (p + AL) ∧ on2 = (L ++ [headP D]).length ∧ RdAt B (some (p + AL)) (L ++ [headP D]) ∧ BytesAt w (.slice sa2 sn2 sc2) (B.drop (p + AL)) ∧ OwnL 59 W4 w.heap.size (.slice oa2 on2 oc2) (L ++ [headP D]) ∧ Ext w W4) := by
                refine ⟨hsn2, ?_, by rw [hon2]; simp, ?_, hS2, by rw [HH.out]; exact ho4, hE4⟩
                · have := HM.out.1; omega
                · have := HM.out.2.2.next HP.out.1 (by rw [← HD.out.1]; exact HOK.out)
                  rwa [← HD.out.1, ← HN.out.2] at this
              have hsn5 : sn2 ≤ 100000 := by omega
              have hN40' : 4 ≤ AL := by omega
              clear hS2 hs0 HE hE4 hon2 hrun2 ho4 hk4 hLn hL3 hE3 hW3 hE2 hbn hrun1 ho2 hk2 hO1 hE1 hW1 hL0 hE0 hW0 HS hMl hsl hsn hsc hsn2 hsc2 L0 L1 cv0 cv1 zw0 zw1 z0 z1 hK hy0 hc0 hc1
              go_wp2_with (first
                | (refine wpList_of_run rfl (exec_slice_l byteT rfl _ (some ⟨b, off, none⟩) n c AL .i64 rfl rfl e5) ?_; rw [hsl2]))
              go_roundg sn2
              case measure => have := HQ.out.1; omega
              case rel => exact ⟨p + AL, sn2, _, _, _, _, _, _, rfl, rfl, rfl, hsn5, HQ.out.2⟩
end Tlv
end Go.Proofs.Ytmfciiccomagpaa
