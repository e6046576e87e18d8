/- A number put. No condition of its own. -/
import Derived.Test.YtmfciiccomagpaaTlv1
namespace Go.Proofs.Ytmfciiccomagpaa
namespace Tlv
open Go Go.RowKit
set_option linter.unusedVariables false
set_option linter.unusedSimpArgs false
set_option maxRecDepth 100000


/-- Four worlds. -/
def ws4 (a b c d : World) : Nat → World
  | 0 => a
  | 1 => b
  | 2 => c
  | _ => d
/-- The bytes of a number that are put till k are left. -/
def dn (n S k : Nat) : List Nat := (be n S).take (S - k)
theorem be_get (n : Nat) : ∀ S i, i < S → (be n S).getD i 0 = n / 256 ^ (S - 1 - i) % 256
  | 0, i, h => by omega
  | S + 1, 0, _ => by rw [be, List.getD_cons_zero]; rfl
  | S + 1, i + 1, h => by
    rw [be, List.getD_cons_succ, be_get n S i (by omega)]
    congr 3; omega
theorem dn_start (n S : Nat) : dn n S S = [] := by simp [dn]
theorem dn_end (n S : Nat) : dn n S 0 = be n S := by unfold dn; rw [List.take_of_length_le (by rw [be_len]; omega)]
theorem dn_succ (n S j : Nat) (h : j < S) : dn n S j = dn n S (j + 1) ++ [n / 256 ^ j % 256] := by
  unfold dn
  rw [show S - j = (S - (j + 1)) + 1 by omega, take_next _ 0 _ (by rw [be_len]; omega), be_get n S _ (by omega)]
  congr 5; omega
theorem dn_len (n S k : Nat) : (dn n S k).length ≤ S := by unfold dn; rw [List.length_take, be_len]; omega
theorem pow_bytes (j : Nat) : (256 : Nat) ^ j = 2 ^ (8 * j) := by rw [Nat.pow_mul]

set_option maxHeartbeats 4000000 in
theorem outNum_loop {w : World} {base g : Nat} {v : Value} {l : List Nat} (h : OutAt w base g v l) (N S : Nat) (hS : S ≤ 8) (hsz : isSz (S : Int) = true) (hl : l.length ≤ 900000) (hbase : base ≤ w.heap.size) :
    Calls Try.prog 9 #[ptr g, .int .u64 (N : Int), .int .i64 (S : Int)] w fun e w' => (∃ y, e = .returned y) ∧ ∃ v', OutAt w' base g v' (l ++ be N S) ∧ Moved w w' g v v' := by
  have H : Hid (OutAt w base g v l ∧ l.length ≤ 900000 ∧ base ≤ w.heap.size ∧ S ≤ 8 ∧ g < w.heap.size) := ⟨h, hl, hbase, hS, h.blk.lt⟩
  have hS1 : 1 ≤ S := by rcases (isSz_iff _).1 hsz with e | e | e | e <;> omega
  have hw1 : IntKind.i64.wrap ((S : Int) - 1) = (S : Int) - 1 := by rw [IntKind.wrap_i64]; omega
  clear h hl hbase
  go_enter Try.func9, Try.ntmps9
  go_wp2_with (first
    | (go_at_call 35; refine (isSize_any _ _).mono ?_; rintro e w1 ⟨rfl, hw⟩; subst w1; rw [hsz]))
  go_loopg [6] S (fun gm s wr => ∃ (k : Nat) (v1 : Value), k ≤ S ∧ gm = k ∧ s = .int .i64 ((k : Int) - 1) ∧ Hid (OutAt wr base g v1 (l ++ dn N S k) ∧ Moved w wr g v v1))
  case atStart => exact ⟨S, v, Nat.le_refl _, rfl, by first | rfl | simp [hw1], by rw [dn_start, List.append_nil]; exact H.out.1, Moved.refl _ _ _⟩
  case round =>
    obtain ⟨k, v1, hk, hgk, rfl, HR⟩ := hrel
    subst gk
    cases k with
    | zero =>
      have hd : decide ((((0 : Nat) : Int) - 1) ≥ 0) = false := rfl
      go_wp2
      go_end0
      refine ⟨⟨_, rfl⟩, v1, ?_, HR.out.2⟩
      have := HR.out.1
      rwa [dn_end] at this
    | succ j =>
      have hj1 : ((j + 1 : Nat) : Int) - 1 = (j : Int) := by omega
      rw [hj1]
      have hd : decide ((j : Int) ≥ 0) = true := decide_eq_true (by omega)
      go_wp2_with fail
      have HJ : Hid (j < S ∧ S ≤ 8) := ⟨by omega, hS⟩
      obtain ⟨q, hq⟩ : ∃ q, q = 8 * j := ⟨_, rfl⟩
      obtain ⟨y, hy⟩ : ∃ y, y = N / 256 ^ j := ⟨_, rfl⟩
      obtain ⟨b, hb⟩ : ∃ b, b = y % 256 := ⟨_, rfl⟩
      have m8 : (8 : Int) * (j : Int) = (q : Int) := by omega
      have wq : IntKind.i64.wrap (q : Int) = (q : Int) := by rw [IntKind.wrap_i64]; omega
      have hq64 : (q : Int) ≤ 64 := by omega
      have my : (N : Int) / 2 ^ q = (y : Int) := by rw [hy, pow_bytes, ← hq]; simp
      have mb : (y : Int) % 256 = (b : Int) := by omega
      have mw : IntKind.u8.wrap (y : Int) = (b : Int) := by rw [IntKind.wrap_u8]; exact mb
      have HD : Hid (dn N S j = dn N S (j + 1) ++ [b]) := show _ = _ by rw [hb, hy]; exact dn_succ N S j HJ.out.1
      have hb8 : b < 256 := by omega
      obtain ⟨W0, hW0⟩ : ∃ W0, W0 = wr.drew := ⟨_, rfl⟩
      have HO0 : OutAt W0 base g v1 (l ++ dn N S (j + 1)) := by rw [hW0]; exact HR.out.1.ext (Ext.drew _)
      have hM0 : Moved w W0 g v v1 := by rw [hW0]; exact HR.out.2.trans (Moved.ext (Ext.drew _) _ _)
      obtain ⟨W1, hW1⟩ : ∃ W1, W0.alloc (.cells #[.int .u8 (b : Int)] 5) = W1 := ⟨_, rfl⟩
      have hE1 : Ext W0 W1 := by rw [← hW1]; exact Ext.alloc _ _
      have hN1 : BytesAt W1 (.slice (some ⟨W0.heap.size, 0, none⟩) 1 1) [b] := by
        rw [← hW1]
        exact bytes_of_nums (NumsAt.one W0 (b : Int) 5 _ rfl) (fun x hx => by simp at hx; omega)
      obtain ⟨ad, cap, W2, hrun1, ho2, hk2, hg2⟩ := run_appB W1 base 26 v1 (.slice (some ⟨W0.heap.size, 0, none⟩) 1 1) (l ++ dn N S (j + 1)) [b] (HO0.own.ext hE1) hN1 (by have := H.out; have := dn_len N S (j + 1); simp; omega) (Nat.le_trans H.out.2.2.1 (Nat.le_trans hM0.keep.size hE1.size))
      obtain ⟨nn, hnn⟩ : ∃ nn, nn = ((l ++ dn N S (j + 1)) ++ [b]).length := ⟨_, rfl⟩
      rw [← hnn] at hrun1 ho2 hg2
      have hB2 : Blk W2 g #[v1] 28 := (HO0.blk.ext hE1).but hk2 (fun e => HO0.ne _ e rfl)
      have hc0 : W0.cell? ⟨g, 0, none⟩ = some v1 := HO0.blk.cell 0
      have hc1 : W1.cell? ⟨g, 0, none⟩ = some v1 := (HO0.blk.ext hE1).cell 0
      obtain ⟨W3, hW3⟩ : ∃ W3, W2.setCell ⟨g, 0, none⟩ (.slice ad nn cap) = W3 := ⟨_, rfl⟩
      have hs0 : ws4 W0 W1 W2 W3 0 = wr.drew := hW0
      refine wp_region_chain (fun t => bif Nat.ble 20 t && Nat.ble t 33 then some (t - 20) else none) 34 [10, 11, 14] [3, 3, 3, 3, 1, 3, 3, 3, 3, 3, 3, 3, 3, 3, 3] (ws4 W0 W1 W2 W3)
        [(fun v => v = (.pointer (some ⟨g, 0, none⟩))),
         (fun v => v = (.pointer (some ⟨g, 0, none⟩))),
         (fun v => v = (.pointer (some ⟨g, 0, none⟩))),
         (fun v => v = (.pointer (some ⟨g, 0, none⟩))),
         (fun v => v = v1),
         (fun v => v = (.int .u64 (N : Int))),
         (fun v => v = (.int .i64 (j : Int))),
         (fun v => v = (.int .i64 (q : Int))),
         (fun v => v = (.int .u64 (y : Int))),
         (fun v => v = (.int .u8 (b : Int))),
         (fun v => v = (.slice (some ⟨W0.heap.size, 0, none⟩) 1 1)),
         (fun v => v = (.slice ad nn cap)),
         (fun v => v = (.pointer (some ⟨g, 0, none⟩))),
         (fun v => v = (.pointer (some ⟨g, 0, none⟩))),
         (fun v => v = undef)]
        rfl (by kernel_rfl) (by kernel_rfl) rfl (by kernel_rfl) (by kernel_rfl) (by kernel_rfl) hs0 ?_ ?_
      · refine GoodCAll.reads 3 rfl rfl (fun k hk => ?_) ?_
        · intro r hx
          obtain ⟨h1, _⟩ := hx
          replace h1 : r (.tmp 0) = (.pointer (some ⟨g, 0, none⟩)) := h1
          exact give_move (.inl rfl) ⟨rfl, h1⟩
        refine GoodCAll.reads 3 rfl rfl (fun k hk => ?_) ?_
        · intro r hx
          obtain ⟨h1, _⟩ := hx
          replace h1 : r (.tmp 0) = (.pointer (some ⟨g, 0, none⟩)) := h1
          exact give_move (.inl rfl) ⟨rfl, h1⟩
        refine GoodCAll.reads 3 rfl rfl (fun k hk => ?_) ?_
        · intro r hx
          obtain ⟨h1, _⟩ := hx
          replace h1 : r (.tmp 21) = (.pointer (some ⟨g, 0, none⟩)) := h1
          exact give_of (by simp [execOp, h1, go_sem]) ⟨rfl, rfl⟩
        refine GoodCAll.reads 3 rfl rfl (fun k hk => ?_) ?_
        · intro r hx
          obtain ⟨h1, _⟩ := hx
          replace h1 : r (.tmp 22) = (.pointer (some ⟨g, 0, none⟩)) := h1
          exact give_of (by simp [execOp, h1, go_sem]) ⟨rfl, rfl⟩
        refine GoodCAll.reads 1 rfl rfl (fun k hk => ?_) ?_
        · intro r hx
          obtain ⟨h1, _⟩ := hx
          replace h1 : r (.tmp 23) = (.pointer (some ⟨g, 0, none⟩)) := h1
          have hk2 : k = 0 ∨ k = 1 := by omega
          rcases hk2 with rfl | rfl
          · exact give_of (exec_get oneS rfl h1 hc0) ⟨rfl, rfl⟩
          · exact give_of (exec_get oneS rfl h1 hc1) ⟨rfl, rfl⟩
        refine GoodCAll.reads 3 rfl rfl (fun k hk => ?_) ?_
        · intro r hx
          obtain ⟨h1, _⟩ := hx
          replace h1 : r (.tmp 1) = (.int .u64 (N : Int)) := h1
          exact give_move (.inl rfl) ⟨rfl, h1⟩
        refine GoodCAll.reads 3 rfl rfl (fun k hk => ?_) ?_
        · intro r hx
          obtain ⟨h1, _⟩ := hx
          replace h1 : r (.tmp 6) = (.int .i64 (j : Int)) := h1
          exact give_move (.inl rfl) ⟨rfl, h1⟩
        refine GoodCAll.reads 3 rfl rfl (fun k hk => ?_) ?_
        · intro r hx
          obtain ⟨h1, h2, _⟩ := hx
          replace h1 : r (.const (.int .i64 8)) = .int .i64 8 := h1
          replace h2 : r (.tmp 26) = (.int .i64 (j : Int)) := h2
          exact give_of (by simp [execOp, h1, h2, m8, wq, go_sem]) ⟨rfl, rfl⟩
        refine GoodCAll.reads 3 rfl rfl (fun k hk => ?_) ?_
        · intro r hx
          obtain ⟨h1, h2, _⟩ := hx
          replace h1 : r (.tmp 25) = (.int .u64 (N : Int)) := h1
          replace h2 : r (.tmp 27) = (.int .i64 (q : Int)) := h2
          exact give_of (by simp [execOp, h1, h2, hq64, my, go_sem]) ⟨rfl, rfl⟩
        refine GoodCAll.reads 3 rfl rfl (fun k hk => ?_) ?_
        · intro r hx
          obtain ⟨h1, _⟩ := hx
          replace h1 : r (.tmp 28) = (.int .u64 (y : Int)) := h1
          exact give_of (by simp [execOp, h1, mb, mw, go_sem]) ⟨rfl, rfl⟩
        refine GoodCAll.writes 0 rfl rfl ?_ ?_
        · intro r hx
          obtain ⟨h1, _⟩ := hx
          replace h1 : r (.tmp 29) = (.int .u8 (b : Int)) := h1
          exact give_of (by simp [execOp, h1, go_sem]; exact ⟨rfl, rfl⟩) ⟨hW1, rfl⟩
        refine GoodCAll.writes 1 rfl rfl ?_ ?_
        · intro r hx
          obtain ⟨h1, h2, _⟩ := hx
          replace h1 : r (.tmp 24) = v1 := h1
          replace h2 : r (.tmp 30) = (.slice (some ⟨W0.heap.size, 0, none⟩) 1 1) := h2
          exact give_of (exec_run rfl h1 h2 hrun1) ⟨rfl, rfl⟩
        refine GoodCAll.reads 3 rfl rfl (fun k hk => ?_) ?_
        · intro r hx
          obtain ⟨h1, _⟩ := hx
          replace h1 : r (.tmp 20) = (.pointer (some ⟨g, 0, none⟩)) := h1
          exact give_of (by simp [execOp, h1, go_sem]) ⟨rfl, rfl⟩
        refine GoodCAll.reads 3 rfl rfl (fun k hk => ?_) ?_
        · intro r hx
          obtain ⟨h1, _⟩ := hx
          replace h1 : r (.tmp 32) = (.pointer (some ⟨g, 0, none⟩)) := h1
          exact give_of (by simp [execOp, h1, go_sem]) ⟨rfl, rfl⟩
        refine GoodCAll.writes 2 rfl rfl ?_ ?_
        · intro r hx
          obtain ⟨h1, h2, _⟩ := hx
          replace h1 : r (.tmp 33) = (.pointer (some ⟨g, 0, none⟩)) := h1
          replace h2 : r (.tmp 31) = (.slice ad nn cap) := h2
          exact give_skip (exec_set oneS rfl h1 h2 rfl rfl hB2 (by simp)) ⟨hW3, rfl⟩
        exact GoodCAll.nil
      · intro vs a' hold ha'
        have hv0 : vs 0 = (.pointer (some ⟨g, 0, none⟩)) := hold 0 (by simp)
        have hv1 : vs 1 = (.pointer (some ⟨g, 0, none⟩)) := hold 1 (by simp)
        have hv2 : vs 2 = (.pointer (some ⟨g, 0, none⟩)) := hold 2 (by simp)
        have hv3 : vs 3 = (.pointer (some ⟨g, 0, none⟩)) := hold 3 (by simp)
        have hv4 : vs 4 = v1 := hold 4 (by simp)
        have hv5 : vs 5 = (.int .u64 (N : Int)) := hold 5 (by simp)
        have hv6 : vs 6 = (.int .i64 (j : Int)) := hold 6 (by simp)
        have hv7 : vs 7 = (.int .i64 (q : Int)) := hold 7 (by simp)
        have hv8 : vs 8 = (.int .u64 (y : Int)) := hold 8 (by simp)
        have hv9 : vs 9 = (.int .u8 (b : Int)) := hold 9 (by simp)
        have hv10 : vs 10 = (.slice (some ⟨W0.heap.size, 0, none⟩) 1 1) := hold 10 (by simp)
        have hv11 : vs 11 = (.slice ad nn cap) := hold 11 (by simp)
        have hv12 : vs 12 = (.pointer (some ⟨g, 0, none⟩)) := hold 12 (by simp)
        have hv13 : vs 13 = (.pointer (some ⟨g, 0, none⟩)) := hold 13 (by simp)
        simp only [putAll, Act.put, hv0, hv1, hv2, hv3, hv4, hv5, hv6, hv7, hv8, hv9, hv10, hv11, hv12, hv13, List.setIfInBounds_toArray, List.set_cons_succ, List.set_cons_zero] at ha'
        subst ha'
        clear hold hv0 hv1 hv2 hv3 hv4 hv5 hv6 hv7 hv8 hv9 hv10 hv11 hv12 hv13
        have hst : Blk W3 g #[.slice ad nn cap] 28 := by rw [← hW3]; exact hB2.set 0 _
        have hp := (HO0.ext hE1).put ho2 hk2 hg2 hst (by rw [← hW3]; exact ⟨rfl, rfl, rfl, by simp, fun k _ hk => block_other hk 0 _⟩)
        have HP : Hid (OutAt W3 base g (.slice ad nn cap) (l ++ dn N S j) ∧ Moved w W3 g v (.slice ad nn cap)) := ⟨by rw [HD.out, ← List.append_assoc]; exact hp.1, hM0.trans ((Moved.ext hE1 _ _).trans hp.2)⟩
        have hw2 : IntKind.i64.wrap ((j : Int) - 1) = (j : Int) - 1 := by rw [IntKind.wrap_i64]; omega
        rw [show ws4 W0 W1 W2 W3 [10, 11, 14].length = W3 from rfl]
        clear hp hst hs0 hc0 hc1 hB2 hnn hrun1 ho2 hg2 hk2 hN1 hE1 hW1 hM0 HO0 hW0 hb8 mw mb my hq64 wq m8 hb hy hq hW3
        go_wp2
        go_roundg j
        case measure => omega
        case rel => exact ⟨j, _, by omega, rfl, by first | rfl | simp [hw2], HP.out.1, HP.out.2⟩
end Tlv
end Go.Proofs.Ytmfciiccomagpaa
