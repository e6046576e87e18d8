/- The document's own tag: a digest's bytes, a key changed, the tag. Condition: the document's table holds what the text lays. -/
import Derived.Test.YtaklbnaaoebknaaDoorMac1
import Derived.Test.YtaklbnaaoebknaaDoorRef4
namespace Go.Proofs.YtaklbnaaoebknaaDoor
open Go Go.RowKit
set_option linter.unusedVariables false
set_option linter.unusedSimpArgs false
set_option maxRecDepth 100000


theorem own_b {w : World} {base : Nat} {v : Value} {l : List Nat} (h : OwnN .u8 w base 5 v (ci l)) (hl : Sha.AllB l) (hne : 0 < l.length) : OwnB w base 5 v l := by
  obtain ⟨g, c, rfl, hb, hlt⟩ := own_some h (by rw [ci_len]; exact hne)
  rw [ci_len] at h ⊢
  have e1 : (ci l).map (Value.int .u8) = cellsB l := by simp [ci, cellsB]
  obtain ⟨h1, h2⟩ := h
  rw [ci_len, e1] at h1
  refine ⟨hl, ⟨g, c, rfl, hb, hlt, ?_⟩, h1⟩
  rcases h1.2 with ⟨e2, _⟩ | ⟨g', cap', cur, e2, _, _, h5, h6, _⟩
  · simp at e2
  · simp only [Value.slice.injEq, Option.some.injEq, Addr.mk.injEq, and_true, true_and] at e2
    obtain ⟨_, rfl⟩ := e2
    exact ⟨h5, h6⟩
/-- One byte put behind. -/
theorem wl_pushB {wr : World} {ops : Array Oper} {rest : List Oper} {o : Oper} {a : Act} {Q : Exit → Act → World → Prop} (hgd : o.guard = none) {s x : Operand} (ho : o.op = .call { callee := .builtin .append, args := #[s, x], argTypes := #[22, 22] })
    {base b : Nat} {v : Value} {l : List Nat} {y : Nat} (hs : a.eval s = v) (hx : a.eval x = .slice (some ⟨b, 0, none⟩) 1 1) (hb : b = wr.heap.size) (hv : OwnN .u8 wr base 5 v (ci l)) (hl : l.length ≤ 100000) (hbase : base ≤ wr.heap.size)
    (h : ∀ ad cap w', OwnN .u8 w' base 5 (.slice ad (l.length + 1) cap) (ci (l ++ [y])) → KeepBut (fun k => base ≤ k) wr w' → wpList Tryd.prog ops Q rest (a.put o.dst (.slice ad (l.length + 1) cap)) w') : wpList Tryd.prog ops Q (o :: rest) a (wr.alloc (.cells #[.int .u8 (y : Int)] 5)) := by
  refine wpList_append_nums numT8 hgd s x ho base (ci l) [(y : Int)] (by rw [hs]; exact hv.ext (Ext.alloc _ _)) (by rw [hx]; exact NumsAt.one wr (y : Int) 5 b hb) (by rw [ci_len]; simp; omega) (by rw [ci_len]; simp; omega) (by simp; omega) ?_
  intro ad cap w' h1 h2 h3
  rw [show (ci l ++ [(y : Int)]).length = l.length + 1 by rw [List.length_append, ci_len]; rfl, ← ci_app] at h1
  rw [show (ci l ++ [(y : Int)]).length = l.length + 1 by rw [List.length_append, ci_len]; rfl]
  refine h ad cap w' h1 ?_
  rw [hs] at h2
  refine (KeepBut.ext (Ext.alloc _ _)).trans (KeepBut.grown h2 (fun r e => (hv.lt e).1))

set_option maxHeartbeats 2000000 in
theorem refBytes_any (D : List Nat) (w : World) (hl : D.length = 32) (hD : Sha.AllB D) :
    Calls Tryd.prog 22 #[.agg (bA D)] w fun e w' => ∃ v, e = .returned v ∧ OwnB w' w.heap.size 5 v D ∧ Ext w w' := by
  have HF : Hid (D.length = 32 ∧ Sha.AllB D) := ⟨hl, hD⟩
  clear hl hD
  go_enter Tryd.func22, Tryd.ntmps22
  go_wp2_with (first
    | (refine wl_box (C := bA D) rfl rfl rfl ?_; intro w1 hb1 he1 hx; clear hx))
  have HW : Hid (Blk w1 w.heap.size (bA D) 24 ∧ Ext w w1) := ⟨hb1, he1⟩
  have HSZ : Hid (w.heap.size < w1.heap.size) := hb1.lt
  clear hb1 he1
  go_loopg [3, 4] 32 (fun g s t wr => ∃ (k : Nat) (a : Option Addr) (cp : Nat), k ≤ 32 ∧ g = 32 - k ∧ s = .slice a k cp ∧ t = .int .i64 (k : Int) ∧ Hid (OwnN .u8 wr w1.heap.size 5 (.slice a k cp) (ci (D.take k)) ∧ Blk wr w.heap.size (bA D) 24 ∧ Ext w wr ∧ w1.heap.size ≤ wr.heap.size))
  case atStart => exact ⟨0, none, 0, by omega, rfl, rfl, rfl, OwnN.nil _ _ _ _, HW.out.1, HW.out.2, Nat.le_refl _⟩
  case round =>
    obtain ⟨k, a, cp, hk, rfl, rfl, rfl, HR⟩ := hrel
    by_cases hlt : k < 32
    · have hd : decide ((k : Int) < 32) = true := decide_eq_true (by omega)
      have hc := (HR.out.2.1.cell k).trans (bA_get D k (by rw [HF.out.1]; exact hlt))
      have HS : Hid (D.take (k + 1) = D.take k ++ [D.getD k 0]) := take_next D 0 k (by rw [HF.out.1]; exact hlt)
      have HTL : Hid ((D.take k).length = k) := show _ = _ by rw [List.length_take, HF.out.1]; omega
      generalize D.getD k 0 = x at *
      go_wp2_with (first
        | (at_builtin; refine wl_pushB (l := D.take k) (y := x) rfl rfl rfl rfl rfl HR.out.1 (by rw [HTL.out]; omega) HR.out.2.2.2 ?_; intro ad cap w2 ho2 hk2; rw [HTL.out] at ho2 ⊢; rw [← HS.out] at ho2))
      have := HSZ.out
      go_roundg (32 - (k + 1))
      case measure => omega
      case rel => exact ⟨k + 1, ad, cap, by omega, rfl, rfl, by simp, ho2, HR.out.2.1.but hk2 (by omega), HR.out.2.2.1.of_but hk2 (fun j e => by omega), Nat.le_trans HR.out.2.2.2 hk2.size⟩
    · have hd : decide ((k : Int) < 32) = false := decide_eq_false (by omega)
      obtain rfl : k = 32 := by omega
      rw [List.take_of_length_le (by rw [HF.out.1]; exact Nat.le_refl _)] at HR
      go_wp2
      go_ret
      have ho := own_b HR.out.1 HF.out.2 (by rw [HF.out.1]; decide)
      refine ⟨_, rfl, ⟨ho.1, ?_, ?_⟩, HR.out.2.2.1⟩
      · obtain ⟨_, ⟨g, c, e, h1, h2⟩, _⟩ := ho
        exact ⟨g, c, e, Nat.le_trans (Nat.le_of_lt HSZ.out) h1, h2⟩
      · obtain ⟨_, _, h1, h2 | ⟨g, c, cur, e, h3, h4⟩⟩ := ho
        · exact ⟨h1, .inl h2⟩
        · exact ⟨h1, .inr ⟨g, c, cur, e, Nat.le_trans (Nat.le_of_lt HSZ.out) h3, h4⟩⟩

set_option maxHeartbeats 2000000 in
theorem refPad_any (kv : Value) (K : List Nat) (c : Nat) (w : World) (hk : BytesAt w kv K) (hl : K.length ≤ 64) (hc : c < 256) :
    Calls Tryd.prog 24 #[kv, .int .u8 (c : Int)] w fun e w' => ∃ v, e = .returned v ∧ OwnB w' w.heap.size 5 v (Mac.chg (K ++ List.replicate (64 - K.length) 0) c) ∧ Ext w w' := by
  obtain ⟨F, hF⟩ : ∃ F, F = K ++ List.replicate (64 - K.length) 0 := ⟨_, rfl⟩
  have hFl : F.length = 64 := by rw [hF, List.length_append, List.length_replicate]; omega
  have hFa : Sha.AllB F := by rw [hF]; exact Sha.AllB.app hk.1 (Mac.noughts_all _)
  have HF : Hid (F.length = 64 ∧ Sha.AllB F ∧ c < 256) := ⟨hFl, hFa, hc⟩
  have HG : Hid ((∀ j, j < K.length → F.getD j 0 = K.getD j 0) ∧ ∀ j, K.length ≤ j → F.getD j 0 = 0) := ⟨fun j hj => by rw [hF, List.getD_eq_getElem?_getD, List.getElem?_append_left hj, ← List.getD_eq_getElem?_getD], fun j hj => by
    rw [hF, List.getD_eq_getElem?_getD, List.getElem?_append_right hj, List.getElem?_replicate]; split <;> rfl⟩
  rw [← hF]
  obtain ⟨a, cap0, rfl, _, hKc⟩ := hk.form
  have HK : Hid (∀ j, j < K.length → ∃ b off, a = some ⟨b, off, none⟩ ∧ w.cell? ⟨b, off + j, none⟩ = some (.int .u8 (K.getD j 0 : Nat))) := hKc
  rename_i z1
  clear z1 hk hKc hFl hFa hF
  go_enter Tryd.func24, Tryd.ntmps24
  go_wp2
  go_loopg [5, 6] 64 (fun g s t wr => ∃ (k : Nat) (a : Option Addr) (cp : Nat), k ≤ 64 ∧ g = 64 - k ∧ s = .slice a k cp ∧ t = .int .i64 (k : Int) ∧ Hid (OwnN .u8 wr w.heap.size 5 (.slice a k cp) (ci (Mac.chg (F.take k) c)) ∧ Ext w wr))
  case atStart => exact ⟨0, none, 0, by omega, rfl, rfl, rfl, OwnN.nil _ _ _ _, Ext.refl _⟩
  case round =>
    obtain ⟨k, a2, cp, hk, rfl, rfl, rfl, HR⟩ := hrel
    by_cases hlt : k < 64
    · have hd : decide ((k : Int) < 64) = true := decide_eq_true (by omega)
      have hkF : k < F.length := by rw [HF.out.1]; exact hlt
      have HS : Hid (Mac.chg (F.take (k + 1)) c = Mac.chg (F.take k) c ++ [F.getD k 0 ^^^ c]) := show _ = _ by rw [take_next F 0 k hkF]; simp [Mac.chg]
      have HTL : Hid ((Mac.chg (F.take k) c).length = k) := show _ = _ by rw [Mac.chg_len, List.length_take, HF.out.1]; omega
      have hx8 := Go.u8_xor_nat (F.getD k 0) c (HF.out.2.1.get k) hc
      by_cases hkK : k < K.length
      · have hd2 : decide ((k : Int) < (K.length : Int)) = true := decide_eq_true (by omega)
        obtain ⟨b, off, rfl, hcell⟩ := HK.out k hkK
        have hc2 := HR.out.2.cell hcell
        rw [← HG.out.1 k hkK] at hc2
        clear hcell hkF
        generalize F.getD k 0 = x at *
        generalize x ^^^ c = y at *
        go_wp2_with (first
          | (at_builtin; refine wl_pushB (l := Mac.chg (F.take k) c) (y := y) rfl rfl rfl rfl rfl HR.out.1 (by rw [HTL.out]; omega) HR.out.2.size ?_; intro ad cap w2 ho2 hk2; rw [HTL.out] at ho2 ⊢; rw [← HS.out] at ho2))
        go_roundg (64 - (k + 1))
        case measure => omega
        case rel => exact ⟨k + 1, ad, cap, by omega, rfl, rfl, by simp, ho2, HR.out.2.of_but hk2 (fun j e => e)⟩
      · have hd2 : decide ((k : Int) < (K.length : Int)) = false := decide_eq_false (by omega)
        rw [HG.out.2 k (by omega)] at hx8 HS
        clear hkF
        generalize hy : 0 ^^^ c = y at *
        have hx8' : bits .xor .u8 0 (c : Int) = (y : Int) := hx8
        clear hy
        go_wp2_with (first
          | (at_builtin; refine wl_pushB (l := Mac.chg (F.take k) c) (y := y) rfl rfl rfl rfl rfl HR.out.1 (by rw [HTL.out]; omega) HR.out.2.size ?_; intro ad cap w2 ho2 hk2; rw [HTL.out] at ho2 ⊢; rw [← HS.out] at ho2))
        go_roundg (64 - (k + 1))
        case measure => omega
        case rel => exact ⟨k + 1, ad, cap, by omega, rfl, rfl, by simp, ho2, HR.out.2.of_but hk2 (fun j e => e)⟩
    · have hd : decide ((k : Int) < 64) = false := decide_eq_false (by omega)
      obtain rfl : k = 64 := by omega
      rw [List.take_of_length_le (by rw [HF.out.1]; exact Nat.le_refl _)] at HR
      go_wp2
      go_ret
      exact ⟨_, rfl, own_b HR.out.1 (Mac.chg_all HF.out.2.1 hc) (by rw [Mac.chg_len, HF.out.1]; decide), HR.out.2⟩
end Go.Proofs.YtaklbnaaoebknaaDoor
