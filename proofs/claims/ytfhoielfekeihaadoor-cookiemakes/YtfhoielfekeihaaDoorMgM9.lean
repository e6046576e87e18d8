/- Texts of the seat, one behind the other. No condition of its own. -/
import Derived.Test.YtfhoielfekeihaaDoorMgM8
/- Cookies that are the same, by the document. No condition of its own. -/
namespace Go.Proofs.YtfhoielfekeihaaDoor
namespace Tlv
open Go Go.RowKit
set_option linter.unusedVariables false
set_option linter.unusedSimpArgs false
set_option maxRecDepth 100000


theorem exec_eqlS {r : Operand → Value} {o : Oper} {x y : Operand} {tt : TypeId} {w : World} {l m : List Nat} (ho : o.op = .binOp .eql 9 x y tt) (hx : r x = .string (strOf l)) (hy : r y = .string (strOf m)) (hl : ∀ x ∈ l, x < 256) (hm : ∀ x ∈ m, x < 256) :
    (execOp r o).run Tryd.prog w = .ok (.value (.bool (decide (l = m)))) w := by
  have := strOf_beq l m hl hm
  simp [execOp, ho, hx, hy, go_sem, this]
def chainD (c d : Co) : Bool := ((((((((((((((c.made : Int) == (d.made : Int)) && (((c.life : Int) == (d.life : Int)))) && ((((c.mine : Int) : Int) == ((d.mine : Int) : Int)))) && ((((c.peers : Int) : Int) == ((d.peers : Int) : Int)))) && ((((c.mtsn : Int) : Int) == ((d.mtsn : Int) : Int)))) && ((((c.ptsn : Int) : Int) == ((d.ptsn : Int) : Int)))) && (((c.win : Int) == (d.win : Int)))) && (((c.out : Int) == (d.out : Int)))) && (((c.inn : Int) == (d.inn : Int)))) && ((((c.tm : Int) : Int) == ((d.tm : Int) : Int)))) && ((((c.tp : Int) : Int) == ((d.tp : Int) : Int)))) && ((decide (c.mr = d.mr)))) && ((decide (c.pr = d.pr))))
abbrev rs_0 (c d : Co) : Bool := (((c.made : Int) == (d.made : Int)) && (((c.life : Int) == (d.life : Int))))
abbrev rs_1 (c d : Co) : Bool := ((rs_0 c d) && ((((c.mine : Int) : Int) == ((d.mine : Int) : Int))))
abbrev rs_2 (c d : Co) : Bool := ((rs_1 c d) && ((((c.peers : Int) : Int) == ((d.peers : Int) : Int))))
abbrev rs_3 (c d : Co) : Bool := ((rs_2 c d) && ((((c.mtsn : Int) : Int) == ((d.mtsn : Int) : Int))))
abbrev rs_4 (c d : Co) : Bool := ((rs_3 c d) && ((((c.ptsn : Int) : Int) == ((d.ptsn : Int) : Int))))
abbrev rs_5 (c d : Co) : Bool := ((rs_4 c d) && (((c.win : Int) == (d.win : Int))))
abbrev rs_6 (c d : Co) : Bool := ((rs_5 c d) && (((c.out : Int) == (d.out : Int))))
abbrev rs_7 (c d : Co) : Bool := ((rs_6 c d) && (((c.inn : Int) == (d.inn : Int))))
abbrev rs_8 (c d : Co) : Bool := ((rs_7 c d) && ((((c.tm : Int) : Int) == ((d.tm : Int) : Int))))
abbrev rs_9 (c d : Co) : Bool := ((rs_8 c d) && ((((c.tp : Int) : Int) == ((d.tp : Int) : Int))))
abbrev rs_10 (c d : Co) : Bool := ((rs_9 c d) && ((decide (c.mr = d.mr))))
abbrev rs_11 (c d : Co) : Bool := ((rs_10 c d) && ((decide (c.pr = d.pr))))
def sameD (c d : Co) : Bool := decide (c.addrs = d.addrs) && chainD c d
theorem sameD_eq (c d : Co) : sameD c d = sameK c d := by
  rw [Bool.eq_iff_iff, sameK_iff]
  unfold sameD chainD
  constructor
  · intro h
    simp only [Bool.and_eq_true, beq_iff_eq, decide_eq_true_eq, Int.ofNat_inj, Int.natCast_inj] at h
    cases c; cases d
    simp only at h
    simp only [Co.mk.injEq]
    refine ⟨?_, ?_, ?_, ?_, ?_, ?_, ?_, ?_, ?_, ?_, ?_, ?_, ?_, ?_⟩ <;> simp [h]
  · rintro rfl
    simp
set_option maxHeartbeats 8000000 in
theorem refSame_any {w : World} {c d : Co} {s u : So} (ha : CoAt w s c) (hb : CoAt w u d) :
    Calls Tryd.prog 13 #[.agg (KV c s), .agg (KV d u)] w fun e w' => e = .returned (.bool (sameD c d)) ∧ Ext w w' := by
  obtain ⟨aA, n, aC, mA, mN, mC, pA, pN, pC⟩ := s
  obtain ⟨aA', n', aC', mA', mN', mC', pA', pN', pC'⟩ := u
  have HN : Hid (n = c.addrs.length ∧ n' = d.addrs.length) := ⟨(nums_len ha.a).1, (nums_len hb.a).1⟩
  have hmx := (nums_len ha.a).2
  dsimp only at hmx
  unfold maxLen at hmx
  by_cases hn : n = n'
  case neg =>
    have hd : ((n : Int) != (n' : Int)) = true := by simp; omega
    have HF : Hid (sameD c d = false) := show _ = _ by unfold sameD; rw [decide_eq_false (fun e => hn (by rw [HN.out.1, HN.out.2, e]))]; rfl
    go_enter Tryd.func13, Tryd.ntmps13
    go_wp2_with (first
      | (have q := he1; clear q; refine wl_box (C := KV d _) rfl rfl rfl ?_; intro w2 hb2 he2 hx; clear hx; have x1 := kv9 (hb1.ext he2); have x2 := kv9 hb2; dsimp only at x1 x2)
      | (refine wl_box (C := KV c _) rfl rfl rfl ?_; intro w1 hb1 he1 hx; clear hx))
    go_ret
    exact ⟨by rw [HF.out]; rfl, he1.trans he2⟩
  subst hn
  have hd : ((n : Int) != (n : Int)) = false := by simp
  go_enter Tryd.func13, Tryd.ntmps13
  refine wp_seq_k (fun K hK => ?_)
  have HK := Stop.mk hK
  clear hK
  go_wp2_with (first
    | (have q := he1; clear q; refine wl_box (C := KV d ⟨aA', n, aC', mA', mN', mC', pA', pN', pC'⟩) rfl rfl rfl ?_; intro w2 hb2 he2 hx; clear hx; have hb1' := hb1.ext he2)
    | (refine wl_box (C := KV c ⟨aA, n, aC, mA, mN, mC, pA, pN, pC⟩) rfl rfl rfl ?_; intro w1 hb1 he1 hx; clear hx))
  refine HK.go _ _ ?_
  clear HK
  have HB : Hid (Blk w2 w.heap.size (KV c ⟨aA, n, aC, mA, mN, mC, pA, pN, pC⟩) 26 ∧ Blk w2 w1.heap.size (KV d ⟨aA', n, aC', mA', mN', mC', pA', pN', pC'⟩) 26 ∧ Ext w w2) := ⟨hb1', hb2, he1.trans he2⟩
  clear hb1 he1 hb2 he2 hb1'
  have HC : Hid (CoAt w2 ⟨aA, n, aC, mA, mN, mC, pA, pN, pC⟩ c ∧ CoAt w2 ⟨aA', n, aC', mA', mN', mC', pA', pN', pC'⟩ d) := ⟨ha.ext HB.out.2.2, hb.ext HB.out.2.2⟩
  clear ha hb
  refine wp_seq_k (fun K2 hK2 => ?_)
  have HK2 := Stop.mk hK2
  clear hK2
  have x1 := kv9 HB.out.1
  have x2 := kv9 HB.out.2.1
  dsimp only at x1 x2
  go_wp2
  refine HK2.go _ _ ?_
  clear HK2
  refine wp_seq_k (fun K3 hK3 => ?_)
  have HK3 := Stop.mk hK3
  clear hK3 x1 x2
  go_wp2
  go_loopg [5] n (fun gm t wr => ∃ k : Nat, k ≤ n ∧ gm = n - k ∧ t = .int .i64 (k : Int) ∧ Hid (Ext w2 wr ∧ ∀ j, j < k → c.addrs.getD j 0 = d.addrs.getD j 0))
  case atStart => exact ⟨0, Nat.zero_le _, rfl, rfl, Ext.refl _, fun j hj => by omega⟩
  case round =>
    obtain ⟨k, hk, rfl, rfl, HR⟩ := hrel
    have x1 := kv9 (HB.out.1.ext HR.out.1)
    have x2 := kv9 (HB.out.2.1.ext HR.out.1)
    dsimp only at x1 x2
    by_cases hlt : k < n
    · have hd2 : decide ((k : Int) < (n : Int)) = true := decide_eq_true (by omega)
      have hkn : (k : Int) < (n : Int) := by omega
      have hwk : IntKind.i64.wrap ((k : Int) + 1) = (k : Int) + 1 := by rw [IntKind.wrap_i64]; omega
      obtain ⟨b, off, rfl, hc⟩ := HC.out.1.a.cellAt k (by rw [← HN.out.1]; exact hlt)
      obtain ⟨b', off', rfl, hc'⟩ := HC.out.2.a.cellAt k (by rw [← HN.out.2]; exact hlt)
      replace hc := HR.out.1.cell hc
      replace hc' := HR.out.1.cell hc'
      obtain ⟨x, hx⟩ : ∃ x, x = c.addrs.getD k 0 := ⟨_, rfl⟩
      obtain ⟨y, hy⟩ : ∃ y, y = d.addrs.getD k 0 := ⟨_, rfl⟩
      rw [← hx] at hc
      rw [← hy] at hc'
      have HX : Hid (x = c.addrs.getD k 0 ∧ y = d.addrs.getD k 0) := ⟨hx, hy⟩
      clear hx hy
      by_cases hxy : x = y
      · subst hxy
        have HX2 : Hid (c.addrs.getD k 0 = d.addrs.getD k 0) := HX.out.1.symm.trans HX.out.2
        clear HX
        go_wp2_with fail
        go_quiet (fail)
        go_wp2
        go_roundg (n - (k + 1))
        case measure => omega
        case rel =>
          refine ⟨k + 1, by omega, rfl, by simp, HR.out.1.trans (Ext.drewN _ _), fun j hj => ?_⟩
          by_cases hjk : j = k
          · subst hjk; exact HX2.out
          · exact HR.out.2 j (by omega)
      · have hd2 : (x != y) = true := by simpa using hxy
        have hd3 : (x == y) = false := by simpa using hxy
        have hd4 : decide (x = y) = false := by simpa using hxy
        have HF : Hid (sameD c d = false) := show _ = _ by unfold sameD; rw [decide_eq_false (fun e => hxy (by rw [HX.out.1, HX.out.2, e]))]; rfl
        clear HX
        go_wp2_with fail
        go_quiet (fail)
        go_wp2
        go_ret
        exact ⟨by rw [HF.out]; rfl, HB.out.2.2.trans (HR.out.1.trans (Ext.drewN _ _))⟩
    · have hd2 : decide ((k : Int) < (n : Int)) = false := decide_eq_false (by omega)
      have HF : Hid (sameD c d = chainD c d) := show _ = _ by unfold sameD; rw [decide_eq_true (list_same 0 (by rw [← HN.out.1, ← HN.out.2]) (fun j hj => HR.out.2 j (by have := HN.out.1; omega)))]; rfl
      go_wp2
      refine HK3.go _ _ ?_
      clear HK3 x1 x2
      rw [HF.out]
      unfold chainD
      obtain ⟨s, hs⟩ : ∃ s : So, s = ⟨aA, n, aC, mA, mN, mC, pA, pN, pC⟩ := ⟨_, rfl⟩
      obtain ⟨u, hu⟩ : ∃ u : So, u = ⟨aA', n, aC', mA', mN', mC', pA', pN', pC'⟩ := ⟨_, rfl⟩
      have hB1 : Blk wr w.heap.size (KV c s) 26 := by rw [hs]; exact HB.out.1.ext HR.out.1
      have hB2 : Blk wr w1.heap.size (KV d u) 26 := by rw [hu]; exact HB.out.2.1.ext HR.out.1
      have HA : CoAt wr s c := by rw [hs]; exact HC.out.1.ext HR.out.1
      have HB' : CoAt wr u d := by rw [hu]; exact HC.out.2.ext HR.out.1
      have HEE : Hid (Ext w wr) := HB.out.2.2.trans HR.out.1
      clear HB hs hu HC HF
      rename CoAt wr u d => HB
      refine wp_seq_k (fun K4 hK4 => ?_)
      refine wp_line (fun t => bif Nat.ble 31 t && Nat.ble t 123 then some (t - 31) else bif Nat.beq t 4 then some 93 else none) 124 Ext
        [Is (.pointer (some ⟨w.heap.size, 0, none⟩)),
         Is (.int .i64 c.made),
         Is (.pointer (some ⟨w1.heap.size, 0, none⟩)),
         Is (.int .i64 d.made),
         Is (.bool ((c.made : Int) == (d.made : Int))),
         Is (.bool ((c.made : Int) == (d.made : Int))),
         Under ((((c.made : Int) == (d.made : Int)))) (.pointer (some ⟨w.heap.size, 1, none⟩)),
         Under ((((c.made : Int) == (d.made : Int)))) (.int .i64 c.life),
         Under ((((c.made : Int) == (d.made : Int)))) (.pointer (some ⟨w1.heap.size, 1, none⟩)),
         Under ((((c.made : Int) == (d.made : Int)))) (.int .i64 d.life),
         Under ((((c.made : Int) == (d.made : Int)))) (.bool ((c.life : Int) == (d.life : Int))),
         Is (.bool (rs_0 c d)),
         Is (.bool (rs_0 c d)),
         Under (((rs_0 c d))) (.pointer (some ⟨w.heap.size, 2, none⟩)),
         Under (((rs_0 c d))) (.int .u32 (c.mine : Int)),
         Under (((rs_0 c d))) (.pointer (some ⟨w1.heap.size, 2, none⟩)),
         Under (((rs_0 c d))) (.int .u32 (d.mine : Int)),
         Under (((rs_0 c d))) (.bool (((c.mine : Int) : Int) == ((d.mine : Int) : Int))),
         Is (.bool (rs_1 c d)),
         Is (.bool (rs_1 c d)),
         Under (((rs_1 c d))) (.pointer (some ⟨w.heap.size, 3, none⟩)),
         Under (((rs_1 c d))) (.int .u32 (c.peers : Int)),
         Under (((rs_1 c d))) (.pointer (some ⟨w1.heap.size, 3, none⟩)),
         Under (((rs_1 c d))) (.int .u32 (d.peers : Int)),
         Under (((rs_1 c d))) (.bool (((c.peers : Int) : Int) == ((d.peers : Int) : Int))),
         Is (.bool (rs_2 c d)),
         Is (.bool (rs_2 c d)),
         Under (((rs_2 c d))) (.pointer (some ⟨w.heap.size, 4, none⟩)),
         Under (((rs_2 c d))) (.int .u32 (c.mtsn : Int)),
         Under (((rs_2 c d))) (.pointer (some ⟨w1.heap.size, 4, none⟩)),
         Under (((rs_2 c d))) (.int .u32 (d.mtsn : Int)),
         Under (((rs_2 c d))) (.bool (((c.mtsn : Int) : Int) == ((d.mtsn : Int) : Int))),
         Is (.bool (rs_3 c d)),
         Is (.bool (rs_3 c d)),
         Under (((rs_3 c d))) (.pointer (some ⟨w.heap.size, 5, none⟩)),
         Under (((rs_3 c d))) (.int .u32 (c.ptsn : Int)),
         Under (((rs_3 c d))) (.pointer (some ⟨w1.heap.size, 5, none⟩)),
         Under (((rs_3 c d))) (.int .u32 (d.ptsn : Int)),
         Under (((rs_3 c d))) (.bool (((c.ptsn : Int) : Int) == ((d.ptsn : Int) : Int))),
         Is (.bool (rs_4 c d)),
         Is (.bool (rs_4 c d)),
         Under (((rs_4 c d))) (.pointer (some ⟨w.heap.size, 6, none⟩)),
         Under (((rs_4 c d))) (.int .i64 c.win),
         Under (((rs_4 c d))) (.pointer (some ⟨w1.heap.size, 6, none⟩)),
         Under (((rs_4 c d))) (.int .i64 d.win),
         Under (((rs_4 c d))) (.bool ((c.win : Int) == (d.win : Int))),
         Is (.bool (rs_5 c d)),
         Is (.bool (rs_5 c d)),
         Under (((rs_5 c d))) (.pointer (some ⟨w.heap.size, 7, none⟩)),
         Under (((rs_5 c d))) (.int .i64 c.out),
         Under (((rs_5 c d))) (.pointer (some ⟨w1.heap.size, 7, none⟩)),
         Under (((rs_5 c d))) (.int .i64 d.out),
         Under (((rs_5 c d))) (.bool ((c.out : Int) == (d.out : Int))),
         Is (.bool (rs_6 c d)),
         Is (.bool (rs_6 c d)),
         Under (((rs_6 c d))) (.pointer (some ⟨w.heap.size, 8, none⟩)),
         Under (((rs_6 c d))) (.int .i64 c.inn),
         Under (((rs_6 c d))) (.pointer (some ⟨w1.heap.size, 8, none⟩)),
         Under (((rs_6 c d))) (.int .i64 d.inn),
         Under (((rs_6 c d))) (.bool ((c.inn : Int) == (d.inn : Int))),
         Is (.bool (rs_7 c d)),
         Is (.bool (rs_7 c d)),
         Under (((rs_7 c d))) (.pointer (some ⟨w.heap.size, 12, none⟩)),
         Under (((rs_7 c d))) (.int .u32 (c.tm : Int)),
         Under (((rs_7 c d))) (.pointer (some ⟨w1.heap.size, 12, none⟩)),
         Under (((rs_7 c d))) (.int .u32 (d.tm : Int)),
         Under (((rs_7 c d))) (.bool (((c.tm : Int) : Int) == ((d.tm : Int) : Int))),
         Is (.bool (rs_8 c d)),
         Is (.bool (rs_8 c d)),
         Under (((rs_8 c d))) (.pointer (some ⟨w.heap.size, 13, none⟩)),
         Under (((rs_8 c d))) (.int .u32 (c.tp : Int)),
         Under (((rs_8 c d))) (.pointer (some ⟨w1.heap.size, 13, none⟩)),
         Under (((rs_8 c d))) (.int .u32 (d.tp : Int)),
         Under (((rs_8 c d))) (.bool (((c.tp : Int) : Int) == ((d.tp : Int) : Int))),
         Is (.bool (rs_9 c d)),
         Is (.bool (rs_9 c d)),
         Under (((rs_9 c d))) (.pointer (some ⟨w.heap.size, 10, none⟩)),
         Under (((rs_9 c d))) (.slice s.mA s.mN s.mC),
         Under (((rs_9 c d))) (.string (strOf c.mr)),
         Under (((rs_9 c d))) (.pointer (some ⟨w1.heap.size, 10, none⟩)),
         Under (((rs_9 c d))) (.slice u.mA u.mN u.mC),
         Under (((rs_9 c d))) (.string (strOf d.mr)),
         Under (((rs_9 c d))) (.bool (decide (c.mr = d.mr))),
         Is (.bool (rs_10 c d)),
         Is (.bool (rs_10 c d)),
         Under (((rs_10 c d))) (.pointer (some ⟨w.heap.size, 11, none⟩)),
         Under (((rs_10 c d))) (.slice s.pA s.pN s.pC),
         Under (((rs_10 c d))) (.string (strOf c.pr)),
         Under (((rs_10 c d))) (.pointer (some ⟨w1.heap.size, 11, none⟩)),
         Under (((rs_10 c d))) (.slice u.pA u.pN u.pC),
         Under (((rs_10 c d))) (.string (strOf d.pr)),
         Under (((rs_10 c d))) (.bool (decide (c.pr = d.pr))),
         Is (.bool (rs_11 c d)),
         Is (.bool (rs_11 c d))]
        rfl (by kernel_rfl) rfl Ext.refl (fun _ _ _ => Ext.trans) (KeepAll.is (KeepAll.is (KeepAll.is (KeepAll.is (KeepAll.is (KeepAll.is (KeepAll.under (KeepAll.under (KeepAll.under (KeepAll.under (KeepAll.under (KeepAll.is (KeepAll.is (KeepAll.under (KeepAll.under (KeepAll.under (KeepAll.under (KeepAll.under (KeepAll.is (KeepAll.is (KeepAll.under (KeepAll.under (KeepAll.under (KeepAll.under (KeepAll.under (KeepAll.is (KeepAll.is (KeepAll.under (KeepAll.under (KeepAll.under (KeepAll.under (KeepAll.under (KeepAll.is (KeepAll.is (KeepAll.under (KeepAll.under (KeepAll.under (KeepAll.under (KeepAll.under (KeepAll.is (KeepAll.is (KeepAll.under (KeepAll.under (KeepAll.under (KeepAll.under (KeepAll.under (KeepAll.is (KeepAll.is (KeepAll.under (KeepAll.under (KeepAll.under (KeepAll.under (KeepAll.under (KeepAll.is (KeepAll.is (KeepAll.under (KeepAll.under (KeepAll.under (KeepAll.under (KeepAll.under (KeepAll.is (KeepAll.is (KeepAll.under (KeepAll.under (KeepAll.under (KeepAll.under (KeepAll.under (KeepAll.is (KeepAll.is (KeepAll.under (KeepAll.under (KeepAll.under (KeepAll.under (KeepAll.under (KeepAll.is (KeepAll.is (KeepAll.under (KeepAll.under (KeepAll.under (KeepAll.under (KeepAll.under (KeepAll.under (KeepAll.under (KeepAll.is (KeepAll.is (KeepAll.under (KeepAll.under (KeepAll.under (KeepAll.under (KeepAll.under (KeepAll.under (KeepAll.under (KeepAll.is (KeepAll.is (KeepAll.nil))))))))))))))))))))))))))))))))))))))))))))))))))))))))))))))))))))))))))))))))))))))))))))))) ?_ ?_
      · refine GoodAll.cons ?_ ?_
        · intro r wx hR hx
          obtain ⟨h1, _⟩ := hx
          replace h1 : r (.tmp 2) = .pointer (some ⟨w.heap.size, 0, none⟩) := h1
          exact give_of (by simp [execOp, h1, go_sem]) ⟨Ext.refl _, rfl⟩
        refine GoodAll.cons ?_ ?_
        · intro r wx hR hx
          obtain ⟨h1, _⟩ := hx
          replace h1 : r (.tmp 31) = .pointer (some ⟨w.heap.size, 0, none⟩) := h1
          exact give_of (exec_get one3 rfl h1 (kv0 (hB1.ext hR))) ⟨Ext.refl _, rfl⟩
        refine GoodAll.cons ?_ ?_
        · intro r wx hR hx
          obtain ⟨h1, _⟩ := hx
          replace h1 : r (.tmp 3) = .pointer (some ⟨w1.heap.size, 0, none⟩) := h1
          exact give_of (by simp [execOp, h1, go_sem]) ⟨Ext.refl _, rfl⟩
        refine GoodAll.cons ?_ ?_
        · intro r wx hR hx
          obtain ⟨h1, _⟩ := hx
          replace h1 : r (.tmp 33) = .pointer (some ⟨w1.heap.size, 0, none⟩) := h1
          exact give_of (exec_get one3 rfl h1 (kv0 (hB2.ext hR))) ⟨Ext.refl _, rfl⟩
        refine GoodAll.cons ?_ ?_
        · intro r wx hR hx
          obtain ⟨h1, h2, _⟩ := hx
          replace h1 : r (.tmp 32) = .int .i64 c.made := h1
          replace h2 : r (.tmp 34) = .int .i64 d.made := h2
          exact give_of (by simp [execOp, h1, h2, go_sem]) ⟨Ext.refl _, rfl⟩
        refine GoodAll.cons ?_ ?_
        · intro r wx hR hx
          obtain ⟨h1, _⟩ := hx
          replace h1 : r (.tmp 35) = .bool ((c.made : Int) == (d.made : Int)) := h1
          exact give_move (.inl rfl) ⟨Ext.refl _, h1⟩
        refine GoodAll.cons ?_ ?_
        · intro r wx hR hx
          obtain ⟨h1, _⟩ := hx
          replace h1 : r (.tmp 2) = .pointer (some ⟨w.heap.size, 0, none⟩) := h1
          intro gb hgb
          refine guard_u (C := (((c.made : Int) == (d.made : Int)))) (b := ((c.made : Int) == (d.made : Int))) (want := true) hgb (want_t _) (fun hc => ?_) (fun hc => under_no hc)
          exact give_of (by simp [execOp, h1, go_sem]) ⟨Ext.refl _, under_yes hc⟩
        refine GoodAll.cons ?_ ?_
        · intro r wx hR hx
          obtain ⟨h1, _⟩ := hx
          replace h1 : Under ((((c.made : Int) == (d.made : Int)))) (.pointer (some ⟨w.heap.size, 1, none⟩)) wx (r (.tmp 37)) := h1
          intro gb hgb
          refine guard_u (C := (((c.made : Int) == (d.made : Int)))) (b := ((c.made : Int) == (d.made : Int))) (want := true) hgb (want_t _) (fun hc => ?_) (fun hc => under_no hc)
          replace h1 := h1.get hc
          exact give_of (exec_get one3 rfl h1 (kv1 (hB1.ext hR))) ⟨Ext.refl _, under_yes hc⟩
        refine GoodAll.cons ?_ ?_
        · intro r wx hR hx
          obtain ⟨h1, _⟩ := hx
          replace h1 : r (.tmp 3) = .pointer (some ⟨w1.heap.size, 0, none⟩) := h1
          intro gb hgb
          refine guard_u (C := (((c.made : Int) == (d.made : Int)))) (b := ((c.made : Int) == (d.made : Int))) (want := true) hgb (want_t _) (fun hc => ?_) (fun hc => under_no hc)
          exact give_of (by simp [execOp, h1, go_sem]) ⟨Ext.refl _, under_yes hc⟩
        refine GoodAll.cons ?_ ?_
        · intro r wx hR hx
          obtain ⟨h1, _⟩ := hx
          replace h1 : Under ((((c.made : Int) == (d.made : Int)))) (.pointer (some ⟨w1.heap.size, 1, none⟩)) wx (r (.tmp 39)) := h1
          intro gb hgb
          refine guard_u (C := (((c.made : Int) == (d.made : Int)))) (b := ((c.made : Int) == (d.made : Int))) (want := true) hgb (want_t _) (fun hc => ?_) (fun hc => under_no hc)
          replace h1 := h1.get hc
          exact give_of (exec_get one3 rfl h1 (kv1 (hB2.ext hR))) ⟨Ext.refl _, under_yes hc⟩
        refine GoodAll.cons ?_ ?_
        · intro r wx hR hx
          obtain ⟨h1, h2, _⟩ := hx
          replace h1 : Under ((((c.made : Int) == (d.made : Int)))) (.int .i64 c.life) wx (r (.tmp 38)) := h1
          replace h2 : Under ((((c.made : Int) == (d.made : Int)))) (.int .i64 d.life) wx (r (.tmp 40)) := h2
          intro gb hgb
          refine guard_u (C := (((c.made : Int) == (d.made : Int)))) (b := ((c.made : Int) == (d.made : Int))) (want := true) hgb (want_t _) (fun hc => ?_) (fun hc => under_no hc)
          replace h1 := h1.get hc
          replace h2 := h2.get hc
          exact give_of (by simp [execOp, h1, h2, go_sem]) ⟨Ext.refl _, under_yes hc⟩
        refine GoodAll.cons ?_ ?_
        · intro r wx hR hx
          obtain ⟨h1, h2, h3, _⟩ := hx
          replace h1 : r (.tmp 36) = .bool ((c.made : Int) == (d.made : Int)) := h1
          replace h2 : Under ((((c.made : Int) == (d.made : Int)))) (.bool ((c.life : Int) == (d.life : Int))) wx (r (.tmp 41)) := h2
          replace h3 : r (.const (.bool false)) = .bool false := h3
          exact give_and rfl h3 h1 (fun hb => h2.get (by first | exact hb | (rw [hc, hb]; rfl) | (rw [hb]; rfl))) ⟨Ext.refl _, rfl⟩
        refine GoodAll.cons ?_ ?_
        · intro r wx hR hx
          obtain ⟨h1, _⟩ := hx
          replace h1 : r (.tmp 42) = .bool (rs_0 c d) := h1
          exact give_move (.inl rfl) ⟨Ext.refl _, h1⟩
        refine GoodAll.cons ?_ ?_
        · intro r wx hR hx
          obtain ⟨h1, _⟩ := hx
          replace h1 : r (.tmp 2) = .pointer (some ⟨w.heap.size, 0, none⟩) := h1
          intro gb hgb
          refine guard_u (C := ((rs_0 c d))) (b := (rs_0 c d)) (want := true) hgb (want_t _) (fun hc => ?_) (fun hc => under_no hc)
          exact give_of (by simp [execOp, h1, go_sem]) ⟨Ext.refl _, under_yes hc⟩
        refine GoodAll.cons ?_ ?_
        · intro r wx hR hx
          obtain ⟨h1, _⟩ := hx
          replace h1 : Under (((rs_0 c d))) (.pointer (some ⟨w.heap.size, 2, none⟩)) wx (r (.tmp 44)) := h1
          intro gb hgb
          refine guard_u (C := ((rs_0 c d))) (b := (rs_0 c d)) (want := true) hgb (want_t _) (fun hc => ?_) (fun hc => under_no hc)
          replace h1 := h1.get hc
          exact give_of (exec_get one22 rfl h1 (kv2 (hB1.ext hR))) ⟨Ext.refl _, under_yes hc⟩
        refine GoodAll.cons ?_ ?_
        · intro r wx hR hx
          obtain ⟨h1, _⟩ := hx
          replace h1 : r (.tmp 3) = .pointer (some ⟨w1.heap.size, 0, none⟩) := h1
          intro gb hgb
          refine guard_u (C := ((rs_0 c d))) (b := (rs_0 c d)) (want := true) hgb (want_t _) (fun hc => ?_) (fun hc => under_no hc)
          exact give_of (by simp [execOp, h1, go_sem]) ⟨Ext.refl _, under_yes hc⟩
        refine GoodAll.cons ?_ ?_
        · intro r wx hR hx
          obtain ⟨h1, _⟩ := hx
          replace h1 : Under (((rs_0 c d))) (.pointer (some ⟨w1.heap.size, 2, none⟩)) wx (r (.tmp 46)) := h1
          intro gb hgb
          refine guard_u (C := ((rs_0 c d))) (b := (rs_0 c d)) (want := true) hgb (want_t _) (fun hc => ?_) (fun hc => under_no hc)
          replace h1 := h1.get hc
          exact give_of (exec_get one22 rfl h1 (kv2 (hB2.ext hR))) ⟨Ext.refl _, under_yes hc⟩
        refine GoodAll.cons ?_ ?_
        · intro r wx hR hx
          obtain ⟨h1, h2, _⟩ := hx
          replace h1 : Under (((rs_0 c d))) (.int .u32 (c.mine : Int)) wx (r (.tmp 45)) := h1
          replace h2 : Under (((rs_0 c d))) (.int .u32 (d.mine : Int)) wx (r (.tmp 47)) := h2
          intro gb hgb
          refine guard_u (C := ((rs_0 c d))) (b := (rs_0 c d)) (want := true) hgb (want_t _) (fun hc => ?_) (fun hc => under_no hc)
          replace h1 := h1.get hc
          replace h2 := h2.get hc
          exact give_of (by simp [execOp, h1, h2, go_sem]) ⟨Ext.refl _, under_yes hc⟩
        refine GoodAll.cons ?_ ?_
        · intro r wx hR hx
          obtain ⟨h1, h2, h3, _⟩ := hx
          replace h1 : r (.tmp 43) = .bool (rs_0 c d) := h1
          replace h2 : Under (((rs_0 c d))) (.bool (((c.mine : Int) : Int) == ((d.mine : Int) : Int))) wx (r (.tmp 48)) := h2
          replace h3 : r (.const (.bool false)) = .bool false := h3
          exact give_and rfl h3 h1 (fun hb => h2.get (by first | exact hb | (rw [hc, hb]; rfl) | (rw [hb]; rfl))) ⟨Ext.refl _, rfl⟩
        refine GoodAll.cons ?_ ?_
        · intro r wx hR hx
          obtain ⟨h1, _⟩ := hx
          replace h1 : r (.tmp 49) = .bool (rs_1 c d) := h1
          exact give_move (.inl rfl) ⟨Ext.refl _, h1⟩
        refine GoodAll.cons ?_ ?_
        · intro r wx hR hx
          obtain ⟨h1, _⟩ := hx
          replace h1 : r (.tmp 2) = .pointer (some ⟨w.heap.size, 0, none⟩) := h1
          intro gb hgb
          refine guard_u (C := ((rs_1 c d))) (b := (rs_1 c d)) (want := true) hgb (want_t _) (fun hc => ?_) (fun hc => under_no hc)
          exact give_of (by simp [execOp, h1, go_sem]) ⟨Ext.refl _, under_yes hc⟩
        refine GoodAll.cons ?_ ?_
        · intro r wx hR hx
          obtain ⟨h1, _⟩ := hx
          replace h1 : Under (((rs_1 c d))) (.pointer (some ⟨w.heap.size, 3, none⟩)) wx (r (.tmp 51)) := h1
          intro gb hgb
          refine guard_u (C := ((rs_1 c d))) (b := (rs_1 c d)) (want := true) hgb (want_t _) (fun hc => ?_) (fun hc => under_no hc)
          replace h1 := h1.get hc
          exact give_of (exec_get one22 rfl h1 (kv3 (hB1.ext hR))) ⟨Ext.refl _, under_yes hc⟩
        refine GoodAll.cons ?_ ?_
        · intro r wx hR hx
          obtain ⟨h1, _⟩ := hx
          replace h1 : r (.tmp 3) = .pointer (some ⟨w1.heap.size, 0, none⟩) := h1
          intro gb hgb
          refine guard_u (C := ((rs_1 c d))) (b := (rs_1 c d)) (want := true) hgb (want_t _) (fun hc => ?_) (fun hc => under_no hc)
          exact give_of (by simp [execOp, h1, go_sem]) ⟨Ext.refl _, under_yes hc⟩
        refine GoodAll.cons ?_ ?_
        · intro r wx hR hx
          obtain ⟨h1, _⟩ := hx
          replace h1 : Under (((rs_1 c d))) (.pointer (some ⟨w1.heap.size, 3, none⟩)) wx (r (.tmp 53)) := h1
          intro gb hgb
          refine guard_u (C := ((rs_1 c d))) (b := (rs_1 c d)) (want := true) hgb (want_t _) (fun hc => ?_) (fun hc => under_no hc)
          replace h1 := h1.get hc
          exact give_of (exec_get one22 rfl h1 (kv3 (hB2.ext hR))) ⟨Ext.refl _, under_yes hc⟩
        refine GoodAll.cons ?_ ?_
        · intro r wx hR hx
          obtain ⟨h1, h2, _⟩ := hx
          replace h1 : Under (((rs_1 c d))) (.int .u32 (c.peers : Int)) wx (r (.tmp 52)) := h1
          replace h2 : Under (((rs_1 c d))) (.int .u32 (d.peers : Int)) wx (r (.tmp 54)) := h2
          intro gb hgb
          refine guard_u (C := ((rs_1 c d))) (b := (rs_1 c d)) (want := true) hgb (want_t _) (fun hc => ?_) (fun hc => under_no hc)
          replace h1 := h1.get hc
          replace h2 := h2.get hc
          exact give_of (by simp [execOp, h1, h2, go_sem]) ⟨Ext.refl _, under_yes hc⟩
        refine GoodAll.cons ?_ ?_
        · intro r wx hR hx
          obtain ⟨h1, h2, h3, _⟩ := hx
          replace h1 : r (.tmp 50) = .bool (rs_1 c d) := h1
          replace h2 : Under (((rs_1 c d))) (.bool (((c.peers : Int) : Int) == ((d.peers : Int) : Int))) wx (r (.tmp 55)) := h2
          replace h3 : r (.const (.bool false)) = .bool false := h3
          exact give_and rfl h3 h1 (fun hb => h2.get (by first | exact hb | (rw [hc, hb]; rfl) | (rw [hb]; rfl))) ⟨Ext.refl _, rfl⟩
        refine GoodAll.cons ?_ ?_
        · intro r wx hR hx
          obtain ⟨h1, _⟩ := hx
          replace h1 : r (.tmp 56) = .bool (rs_2 c d) := h1
          exact give_move (.inl rfl) ⟨Ext.refl _, h1⟩
        refine GoodAll.cons ?_ ?_
        · intro r wx hR hx
          obtain ⟨h1, _⟩ := hx
          replace h1 : r (.tmp 2) = .pointer (some ⟨w.heap.size, 0, none⟩) := h1
          intro gb hgb
          refine guard_u (C := ((rs_2 c d))) (b := (rs_2 c d)) (want := true) hgb (want_t _) (fun hc => ?_) (fun hc => under_no hc)
          exact give_of (by simp [execOp, h1, go_sem]) ⟨Ext.refl _, under_yes hc⟩
        refine GoodAll.cons ?_ ?_
        · intro r wx hR hx
          obtain ⟨h1, _⟩ := hx
          replace h1 : Under (((rs_2 c d))) (.pointer (some ⟨w.heap.size, 4, none⟩)) wx (r (.tmp 58)) := h1
          intro gb hgb
          refine guard_u (C := ((rs_2 c d))) (b := (rs_2 c d)) (want := true) hgb (want_t _) (fun hc => ?_) (fun hc => under_no hc)
          replace h1 := h1.get hc
          exact give_of (exec_get one22 rfl h1 (kv4 (hB1.ext hR))) ⟨Ext.refl _, under_yes hc⟩
        refine GoodAll.cons ?_ ?_
        · intro r wx hR hx
          obtain ⟨h1, _⟩ := hx
          replace h1 : r (.tmp 3) = .pointer (some ⟨w1.heap.size, 0, none⟩) := h1
          intro gb hgb
          refine guard_u (C := ((rs_2 c d))) (b := (rs_2 c d)) (want := true) hgb (want_t _) (fun hc => ?_) (fun hc => under_no hc)
          exact give_of (by simp [execOp, h1, go_sem]) ⟨Ext.refl _, under_yes hc⟩
        refine GoodAll.cons ?_ ?_
        · intro r wx hR hx
          obtain ⟨h1, _⟩ := hx
          replace h1 : Under (((rs_2 c d))) (.pointer (some ⟨w1.heap.size, 4, none⟩)) wx (r (.tmp 60)) := h1
          intro gb hgb
          refine guard_u (C := ((rs_2 c d))) (b := (rs_2 c d)) (want := true) hgb (want_t _) (fun hc => ?_) (fun hc => under_no hc)
          replace h1 := h1.get hc
          exact give_of (exec_get one22 rfl h1 (kv4 (hB2.ext hR))) ⟨Ext.refl _, under_yes hc⟩
        refine GoodAll.cons ?_ ?_
        · intro r wx hR hx
          obtain ⟨h1, h2, _⟩ := hx
          replace h1 : Under (((rs_2 c d))) (.int .u32 (c.mtsn : Int)) wx (r (.tmp 59)) := h1
          replace h2 : Under (((rs_2 c d))) (.int .u32 (d.mtsn : Int)) wx (r (.tmp 61)) := h2
          intro gb hgb
          refine guard_u (C := ((rs_2 c d))) (b := (rs_2 c d)) (want := true) hgb (want_t _) (fun hc => ?_) (fun hc => under_no hc)
          replace h1 := h1.get hc
          replace h2 := h2.get hc
          exact give_of (by simp [execOp, h1, h2, go_sem]) ⟨Ext.refl _, under_yes hc⟩
        refine GoodAll.cons ?_ ?_
        · intro r wx hR hx
          obtain ⟨h1, h2, h3, _⟩ := hx
          replace h1 : r (.tmp 57) = .bool (rs_2 c d) := h1
          replace h2 : Under (((rs_2 c d))) (.bool (((c.mtsn : Int) : Int) == ((d.mtsn : Int) : Int))) wx (r (.tmp 62)) := h2
          replace h3 : r (.const (.bool false)) = .bool false := h3
          exact give_and rfl h3 h1 (fun hb => h2.get (by first | exact hb | (rw [hc, hb]; rfl) | (rw [hb]; rfl))) ⟨Ext.refl _, rfl⟩
        refine GoodAll.cons ?_ ?_
        · intro r wx hR hx
          obtain ⟨h1, _⟩ := hx
          replace h1 : r (.tmp 63) = .bool (rs_3 c d) := h1
          exact give_move (.inl rfl) ⟨Ext.refl _, h1⟩
        refine GoodAll.cons ?_ ?_
        · intro r wx hR hx
          obtain ⟨h1, _⟩ := hx
          replace h1 : r (.tmp 2) = .pointer (some ⟨w.heap.size, 0, none⟩) := h1
          intro gb hgb
          refine guard_u (C := ((rs_3 c d))) (b := (rs_3 c d)) (want := true) hgb (want_t _) (fun hc => ?_) (fun hc => under_no hc)
          exact give_of (by simp [execOp, h1, go_sem]) ⟨Ext.refl _, under_yes hc⟩
        refine GoodAll.cons ?_ ?_
        · intro r wx hR hx
          obtain ⟨h1, _⟩ := hx
          replace h1 : Under (((rs_3 c d))) (.pointer (some ⟨w.heap.size, 5, none⟩)) wx (r (.tmp 65)) := h1
          intro gb hgb
          refine guard_u (C := ((rs_3 c d))) (b := (rs_3 c d)) (want := true) hgb (want_t _) (fun hc => ?_) (fun hc => under_no hc)
          replace h1 := h1.get hc
          exact give_of (exec_get one22 rfl h1 (kv5 (hB1.ext hR))) ⟨Ext.refl _, under_yes hc⟩
        refine GoodAll.cons ?_ ?_
        · intro r wx hR hx
          obtain ⟨h1, _⟩ := hx
          replace h1 : r (.tmp 3) = .pointer (some ⟨w1.heap.size, 0, none⟩) := h1
          intro gb hgb
          refine guard_u (C := ((rs_3 c d))) (b := (rs_3 c d)) (want := true) hgb (want_t _) (fun hc => ?_) (fun hc => under_no hc)
          exact give_of (by simp [execOp, h1, go_sem]) ⟨Ext.refl _, under_yes hc⟩
        refine GoodAll.cons ?_ ?_
        · intro r wx hR hx
          obtain ⟨h1, _⟩ := hx
          replace h1 : Under (((rs_3 c d))) (.pointer (some ⟨w1.heap.size, 5, none⟩)) wx (r (.tmp 67)) := h1
          intro gb hgb
          refine guard_u (C := ((rs_3 c d))) (b := (rs_3 c d)) (want := true) hgb (want_t _) (fun hc => ?_) (fun hc => under_no hc)
          replace h1 := h1.get hc
          exact give_of (exec_get one22 rfl h1 (kv5 (hB2.ext hR))) ⟨Ext.refl _, under_yes hc⟩
        refine GoodAll.cons ?_ ?_
        · intro r wx hR hx
          obtain ⟨h1, h2, _⟩ := hx
          replace h1 : Under (((rs_3 c d))) (.int .u32 (c.ptsn : Int)) wx (r (.tmp 66)) := h1
          replace h2 : Under (((rs_3 c d))) (.int .u32 (d.ptsn : Int)) wx (r (.tmp 68)) := h2
          intro gb hgb
          refine guard_u (C := ((rs_3 c d))) (b := (rs_3 c d)) (want := true) hgb (want_t _) (fun hc => ?_) (fun hc => under_no hc)
          replace h1 := h1.get hc
          replace h2 := h2.get hc
          exact give_of (by simp [execOp, h1, h2, go_sem]) ⟨Ext.refl _, under_yes hc⟩
        refine GoodAll.cons ?_ ?_
        · intro r wx hR hx
          obtain ⟨h1, h2, h3, _⟩ := hx
          replace h1 : r (.tmp 64) = .bool (rs_3 c d) := h1
          replace h2 : Under (((rs_3 c d))) (.bool (((c.ptsn : Int) : Int) == ((d.ptsn : Int) : Int))) wx (r (.tmp 69)) := h2
          replace h3 : r (.const (.bool false)) = .bool false := h3
          exact give_and rfl h3 h1 (fun hb => h2.get (by first | exact hb | (rw [hc, hb]; rfl) | (rw [hb]; rfl))) ⟨Ext.refl _, rfl⟩
        refine GoodAll.cons ?_ ?_
        · intro r wx hR hx
          obtain ⟨h1, _⟩ := hx
          replace h1 : r (.tmp 70) = .bool (rs_4 c d) := h1
          exact give_move (.inl rfl) ⟨Ext.refl _, h1⟩
        refine GoodAll.cons ?_ ?_
        · intro r wx hR hx
          obtain ⟨h1, _⟩ := hx
          replace h1 : r (.tmp 2) = .pointer (some ⟨w.heap.size, 0, none⟩) := h1
          intro gb hgb
          refine guard_u (C := ((rs_4 c d))) (b := (rs_4 c d)) (want := true) hgb (want_t _) (fun hc => ?_) (fun hc => under_no hc)
          exact give_of (by simp [execOp, h1, go_sem]) ⟨Ext.refl _, under_yes hc⟩
        refine GoodAll.cons ?_ ?_
        · intro r wx hR hx
          obtain ⟨h1, _⟩ := hx
          replace h1 : Under (((rs_4 c d))) (.pointer (some ⟨w.heap.size, 6, none⟩)) wx (r (.tmp 72)) := h1
          intro gb hgb
          refine guard_u (C := ((rs_4 c d))) (b := (rs_4 c d)) (want := true) hgb (want_t _) (fun hc => ?_) (fun hc => under_no hc)
          replace h1 := h1.get hc
          exact give_of (exec_get one3 rfl h1 (kv6 (hB1.ext hR))) ⟨Ext.refl _, under_yes hc⟩
        refine GoodAll.cons ?_ ?_
        · intro r wx hR hx
          obtain ⟨h1, _⟩ := hx
          replace h1 : r (.tmp 3) = .pointer (some ⟨w1.heap.size, 0, none⟩) := h1
          intro gb hgb
          refine guard_u (C := ((rs_4 c d))) (b := (rs_4 c d)) (want := true) hgb (want_t _) (fun hc => ?_) (fun hc => under_no hc)
          exact give_of (by simp [execOp, h1, go_sem]) ⟨Ext.refl _, under_yes hc⟩
        refine GoodAll.cons ?_ ?_
        · intro r wx hR hx
          obtain ⟨h1, _⟩ := hx
          replace h1 : Under (((rs_4 c d))) (.pointer (some ⟨w1.heap.size, 6, none⟩)) wx (r (.tmp 74)) := h1
          intro gb hgb
          refine guard_u (C := ((rs_4 c d))) (b := (rs_4 c d)) (want := true) hgb (want_t _) (fun hc => ?_) (fun hc => under_no hc)
          replace h1 := h1.get hc
          exact give_of (exec_get one3 rfl h1 (kv6 (hB2.ext hR))) ⟨Ext.refl _, under_yes hc⟩
        refine GoodAll.cons ?_ ?_
        · intro r wx hR hx
          obtain ⟨h1, h2, _⟩ := hx
          replace h1 : Under (((rs_4 c d))) (.int .i64 c.win) wx (r (.tmp 73)) := h1
          replace h2 : Under (((rs_4 c d))) (.int .i64 d.win) wx (r (.tmp 75)) := h2
          intro gb hgb
          refine guard_u (C := ((rs_4 c d))) (b := (rs_4 c d)) (want := true) hgb (want_t _) (fun hc => ?_) (fun hc => under_no hc)
          replace h1 := h1.get hc
          replace h2 := h2.get hc
          exact give_of (by simp [execOp, h1, h2, go_sem]) ⟨Ext.refl _, under_yes hc⟩
        refine GoodAll.cons ?_ ?_
        · intro r wx hR hx
          obtain ⟨h1, h2, h3, _⟩ := hx
          replace h1 : r (.tmp 71) = .bool (rs_4 c d) := h1
          replace h2 : Under (((rs_4 c d))) (.bool ((c.win : Int) == (d.win : Int))) wx (r (.tmp 76)) := h2
          replace h3 : r (.const (.bool false)) = .bool false := h3
          exact give_and rfl h3 h1 (fun hb => h2.get (by first | exact hb | (rw [hc, hb]; rfl) | (rw [hb]; rfl))) ⟨Ext.refl _, rfl⟩
        refine GoodAll.cons ?_ ?_
        · intro r wx hR hx
          obtain ⟨h1, _⟩ := hx
          replace h1 : r (.tmp 77) = .bool (rs_5 c d) := h1
          exact give_move (.inl rfl) ⟨Ext.refl _, h1⟩
        refine GoodAll.cons ?_ ?_
        · intro r wx hR hx
          obtain ⟨h1, _⟩ := hx
          replace h1 : r (.tmp 2) = .pointer (some ⟨w.heap.size, 0, none⟩) := h1
          intro gb hgb
          refine guard_u (C := ((rs_5 c d))) (b := (rs_5 c d)) (want := true) hgb (want_t _) (fun hc => ?_) (fun hc => under_no hc)
          exact give_of (by simp [execOp, h1, go_sem]) ⟨Ext.refl _, under_yes hc⟩
        refine GoodAll.cons ?_ ?_
        · intro r wx hR hx
          obtain ⟨h1, _⟩ := hx
          replace h1 : Under (((rs_5 c d))) (.pointer (some ⟨w.heap.size, 7, none⟩)) wx (r (.tmp 79)) := h1
          intro gb hgb
          refine guard_u (C := ((rs_5 c d))) (b := (rs_5 c d)) (want := true) hgb (want_t _) (fun hc => ?_) (fun hc => under_no hc)
          replace h1 := h1.get hc
          exact give_of (exec_get one3 rfl h1 (kv7 (hB1.ext hR))) ⟨Ext.refl _, under_yes hc⟩
        refine GoodAll.cons ?_ ?_
        · intro r wx hR hx
          obtain ⟨h1, _⟩ := hx
          replace h1 : r (.tmp 3) = .pointer (some ⟨w1.heap.size, 0, none⟩) := h1
          intro gb hgb
          refine guard_u (C := ((rs_5 c d))) (b := (rs_5 c d)) (want := true) hgb (want_t _) (fun hc => ?_) (fun hc => under_no hc)
          exact give_of (by simp [execOp, h1, go_sem]) ⟨Ext.refl _, under_yes hc⟩
        refine GoodAll.cons ?_ ?_
        · intro r wx hR hx
          obtain ⟨h1, _⟩ := hx
          replace h1 : Under (((rs_5 c d))) (.pointer (some ⟨w1.heap.size, 7, none⟩)) wx (r (.tmp 81)) := h1
          intro gb hgb
          refine guard_u (C := ((rs_5 c d))) (b := (rs_5 c d)) (want := true) hgb (want_t _) (fun hc => ?_) (fun hc => under_no hc)
          replace h1 := h1.get hc
          exact give_of (exec_get one3 rfl h1 (kv7 (hB2.ext hR))) ⟨Ext.refl _, under_yes hc⟩
        refine GoodAll.cons ?_ ?_
        · intro r wx hR hx
          obtain ⟨h1, h2, _⟩ := hx
          replace h1 : Under (((rs_5 c d))) (.int .i64 c.out) wx (r (.tmp 80)) := h1
          replace h2 : Under (((rs_5 c d))) (.int .i64 d.out) wx (r (.tmp 82)) := h2
          intro gb hgb
          refine guard_u (C := ((rs_5 c d))) (b := (rs_5 c d)) (want := true) hgb (want_t _) (fun hc => ?_) (fun hc => under_no hc)
          replace h1 := h1.get hc
          replace h2 := h2.get hc
          exact give_of (by simp [execOp, h1, h2, go_sem]) ⟨Ext.refl _, under_yes hc⟩
        refine GoodAll.cons ?_ ?_
        · intro r wx hR hx
          obtain ⟨h1, h2, h3, _⟩ := hx
          replace h1 : r (.tmp 78) = .bool (rs_5 c d) := h1
          replace h2 : Under (((rs_5 c d))) (.bool ((c.out : Int) == (d.out : Int))) wx (r (.tmp 83)) := h2
          replace h3 : r (.const (.bool false)) = .bool false := h3
          exact give_and rfl h3 h1 (fun hb => h2.get (by first | exact hb | (rw [hc, hb]; rfl) | (rw [hb]; rfl))) ⟨Ext.refl _, rfl⟩
        refine GoodAll.cons ?_ ?_
        · intro r wx hR hx
          obtain ⟨h1, _⟩ := hx
          replace h1 : r (.tmp 84) = .bool (rs_6 c d) := h1
          exact give_move (.inl rfl) ⟨Ext.refl _, h1⟩
        refine GoodAll.cons ?_ ?_
        · intro r wx hR hx
          obtain ⟨h1, _⟩ := hx
          replace h1 : r (.tmp 2) = .pointer (some ⟨w.heap.size, 0, none⟩) := h1
          intro gb hgb
          refine guard_u (C := ((rs_6 c d))) (b := (rs_6 c d)) (want := true) hgb (want_t _) (fun hc => ?_) (fun hc => under_no hc)
          exact give_of (by simp [execOp, h1, go_sem]) ⟨Ext.refl _, under_yes hc⟩
        refine GoodAll.cons ?_ ?_
        · intro r wx hR hx
          obtain ⟨h1, _⟩ := hx
          replace h1 : Under (((rs_6 c d))) (.pointer (some ⟨w.heap.size, 8, none⟩)) wx (r (.tmp 86)) := h1
          intro gb hgb
          refine guard_u (C := ((rs_6 c d))) (b := (rs_6 c d)) (want := true) hgb (want_t _) (fun hc => ?_) (fun hc => under_no hc)
          replace h1 := h1.get hc
          exact give_of (exec_get one3 rfl h1 (kv8 (hB1.ext hR))) ⟨Ext.refl _, under_yes hc⟩
        refine GoodAll.cons ?_ ?_
        · intro r wx hR hx
          obtain ⟨h1, _⟩ := hx
          replace h1 : r (.tmp 3) = .pointer (some ⟨w1.heap.size, 0, none⟩) := h1
          intro gb hgb
          refine guard_u (C := ((rs_6 c d))) (b := (rs_6 c d)) (want := true) hgb (want_t _) (fun hc => ?_) (fun hc => under_no hc)
          exact give_of (by simp [execOp, h1, go_sem]) ⟨Ext.refl _, under_yes hc⟩
        refine GoodAll.cons ?_ ?_
        · intro r wx hR hx
          obtain ⟨h1, _⟩ := hx
          replace h1 : Under (((rs_6 c d))) (.pointer (some ⟨w1.heap.size, 8, none⟩)) wx (r (.tmp 88)) := h1
          intro gb hgb
          refine guard_u (C := ((rs_6 c d))) (b := (rs_6 c d)) (want := true) hgb (want_t _) (fun hc => ?_) (fun hc => under_no hc)
          replace h1 := h1.get hc
          exact give_of (exec_get one3 rfl h1 (kv8 (hB2.ext hR))) ⟨Ext.refl _, under_yes hc⟩
        refine GoodAll.cons ?_ ?_
        · intro r wx hR hx
          obtain ⟨h1, h2, _⟩ := hx
          replace h1 : Under (((rs_6 c d))) (.int .i64 c.inn) wx (r (.tmp 87)) := h1
          replace h2 : Under (((rs_6 c d))) (.int .i64 d.inn) wx (r (.tmp 89)) := h2
          intro gb hgb
          refine guard_u (C := ((rs_6 c d))) (b := (rs_6 c d)) (want := true) hgb (want_t _) (fun hc => ?_) (fun hc => under_no hc)
          replace h1 := h1.get hc
          replace h2 := h2.get hc
          exact give_of (by simp [execOp, h1, h2, go_sem]) ⟨Ext.refl _, under_yes hc⟩
        refine GoodAll.cons ?_ ?_
        · intro r wx hR hx
          obtain ⟨h1, h2, h3, _⟩ := hx
          replace h1 : r (.tmp 85) = .bool (rs_6 c d) := h1
          replace h2 : Under (((rs_6 c d))) (.bool ((c.inn : Int) == (d.inn : Int))) wx (r (.tmp 90)) := h2
          replace h3 : r (.const (.bool false)) = .bool false := h3
          exact give_and rfl h3 h1 (fun hb => h2.get (by first | exact hb | (rw [hc, hb]; rfl) | (rw [hb]; rfl))) ⟨Ext.refl _, rfl⟩
        refine GoodAll.cons ?_ ?_
        · intro r wx hR hx
          obtain ⟨h1, _⟩ := hx
          replace h1 : r (.tmp 91) = .bool (rs_7 c d) := h1
          exact give_move (.inl rfl) ⟨Ext.refl _, h1⟩
        refine GoodAll.cons ?_ ?_
        · intro r wx hR hx
          obtain ⟨h1, _⟩ := hx
          replace h1 : r (.tmp 2) = .pointer (some ⟨w.heap.size, 0, none⟩) := h1
          intro gb hgb
          refine guard_u (C := ((rs_7 c d))) (b := (rs_7 c d)) (want := true) hgb (want_t _) (fun hc => ?_) (fun hc => under_no hc)
          exact give_of (by simp [execOp, h1, go_sem]) ⟨Ext.refl _, under_yes hc⟩
        refine GoodAll.cons ?_ ?_
        · intro r wx hR hx
          obtain ⟨h1, _⟩ := hx
          replace h1 : Under (((rs_7 c d))) (.pointer (some ⟨w.heap.size, 12, none⟩)) wx (r (.tmp 93)) := h1
          intro gb hgb
          refine guard_u (C := ((rs_7 c d))) (b := (rs_7 c d)) (want := true) hgb (want_t _) (fun hc => ?_) (fun hc => under_no hc)
          replace h1 := h1.get hc
          exact give_of (exec_get one22 rfl h1 (kv12 (hB1.ext hR))) ⟨Ext.refl _, under_yes hc⟩
        refine GoodAll.cons ?_ ?_
        · intro r wx hR hx
          obtain ⟨h1, _⟩ := hx
          replace h1 : r (.tmp 3) = .pointer (some ⟨w1.heap.size, 0, none⟩) := h1
          intro gb hgb
          refine guard_u (C := ((rs_7 c d))) (b := (rs_7 c d)) (want := true) hgb (want_t _) (fun hc => ?_) (fun hc => under_no hc)
          exact give_of (by simp [execOp, h1, go_sem]) ⟨Ext.refl _, under_yes hc⟩
        refine GoodAll.cons ?_ ?_
        · intro r wx hR hx
          obtain ⟨h1, _⟩ := hx
          replace h1 : Under (((rs_7 c d))) (.pointer (some ⟨w1.heap.size, 12, none⟩)) wx (r (.tmp 95)) := h1
          intro gb hgb
          refine guard_u (C := ((rs_7 c d))) (b := (rs_7 c d)) (want := true) hgb (want_t _) (fun hc => ?_) (fun hc => under_no hc)
          replace h1 := h1.get hc
          exact give_of (exec_get one22 rfl h1 (kv12 (hB2.ext hR))) ⟨Ext.refl _, under_yes hc⟩
        refine GoodAll.cons ?_ ?_
        · intro r wx hR hx
          obtain ⟨h1, h2, _⟩ := hx
          replace h1 : Under (((rs_7 c d))) (.int .u32 (c.tm : Int)) wx (r (.tmp 94)) := h1
          replace h2 : Under (((rs_7 c d))) (.int .u32 (d.tm : Int)) wx (r (.tmp 96)) := h2
          intro gb hgb
          refine guard_u (C := ((rs_7 c d))) (b := (rs_7 c d)) (want := true) hgb (want_t _) (fun hc => ?_) (fun hc => under_no hc)
          replace h1 := h1.get hc
          replace h2 := h2.get hc
          exact give_of (by simp [execOp, h1, h2, go_sem]) ⟨Ext.refl _, under_yes hc⟩
        refine GoodAll.cons ?_ ?_
        · intro r wx hR hx
          obtain ⟨h1, h2, h3, _⟩ := hx
          replace h1 : r (.tmp 92) = .bool (rs_7 c d) := h1
          replace h2 : Under (((rs_7 c d))) (.bool (((c.tm : Int) : Int) == ((d.tm : Int) : Int))) wx (r (.tmp 97)) := h2
          replace h3 : r (.const (.bool false)) = .bool false := h3
          exact give_and rfl h3 h1 (fun hb => h2.get (by first | exact hb | (rw [hc, hb]; rfl) | (rw [hb]; rfl))) ⟨Ext.refl _, rfl⟩
        refine GoodAll.cons ?_ ?_
        · intro r wx hR hx
          obtain ⟨h1, _⟩ := hx
          replace h1 : r (.tmp 98) = .bool (rs_8 c d) := h1
          exact give_move (.inl rfl) ⟨Ext.refl _, h1⟩
        refine GoodAll.cons ?_ ?_
        · intro r wx hR hx
          obtain ⟨h1, _⟩ := hx
          replace h1 : r (.tmp 2) = .pointer (some ⟨w.heap.size, 0, none⟩) := h1
          intro gb hgb
          refine guard_u (C := ((rs_8 c d))) (b := (rs_8 c d)) (want := true) hgb (want_t _) (fun hc => ?_) (fun hc => under_no hc)
          exact give_of (by simp [execOp, h1, go_sem]) ⟨Ext.refl _, under_yes hc⟩
        refine GoodAll.cons ?_ ?_
        · intro r wx hR hx
          obtain ⟨h1, _⟩ := hx
          replace h1 : Under (((rs_8 c d))) (.pointer (some ⟨w.heap.size, 13, none⟩)) wx (r (.tmp 100)) := h1
          intro gb hgb
          refine guard_u (C := ((rs_8 c d))) (b := (rs_8 c d)) (want := true) hgb (want_t _) (fun hc => ?_) (fun hc => under_no hc)
          replace h1 := h1.get hc
          exact give_of (exec_get one22 rfl h1 (kv13 (hB1.ext hR))) ⟨Ext.refl _, under_yes hc⟩
        refine GoodAll.cons ?_ ?_
        · intro r wx hR hx
          obtain ⟨h1, _⟩ := hx
          replace h1 : r (.tmp 3) = .pointer (some ⟨w1.heap.size, 0, none⟩) := h1
          intro gb hgb
          refine guard_u (C := ((rs_8 c d))) (b := (rs_8 c d)) (want := true) hgb (want_t _) (fun hc => ?_) (fun hc => under_no hc)
          exact give_of (by simp [execOp, h1, go_sem]) ⟨Ext.refl _, under_yes hc⟩
        refine GoodAll.cons ?_ ?_
        · intro r wx hR hx
          obtain ⟨h1, _⟩ := hx
          replace h1 : Under (((rs_8 c d))) (.pointer (some ⟨w1.heap.size, 13, none⟩)) wx (r (.tmp 102)) := h1
          intro gb hgb
          refine guard_u (C := ((rs_8 c d))) (b := (rs_8 c d)) (want := true) hgb (want_t _) (fun hc => ?_) (fun hc => under_no hc)
          replace h1 := h1.get hc
          exact give_of (exec_get one22 rfl h1 (kv13 (hB2.ext hR))) ⟨Ext.refl _, under_yes hc⟩
        refine GoodAll.cons ?_ ?_
        · intro r wx hR hx
          obtain ⟨h1, h2, _⟩ := hx
          replace h1 : Under (((rs_8 c d))) (.int .u32 (c.tp : Int)) wx (r (.tmp 101)) := h1
          replace h2 : Under (((rs_8 c d))) (.int .u32 (d.tp : Int)) wx (r (.tmp 103)) := h2
          intro gb hgb
          refine guard_u (C := ((rs_8 c d))) (b := (rs_8 c d)) (want := true) hgb (want_t _) (fun hc => ?_) (fun hc => under_no hc)
          replace h1 := h1.get hc
          replace h2 := h2.get hc
          exact give_of (by simp [execOp, h1, h2, go_sem]) ⟨Ext.refl _, under_yes hc⟩
        refine GoodAll.cons ?_ ?_
        · intro r wx hR hx
          obtain ⟨h1, h2, h3, _⟩ := hx
          replace h1 : r (.tmp 99) = .bool (rs_8 c d) := h1
          replace h2 : Under (((rs_8 c d))) (.bool (((c.tp : Int) : Int) == ((d.tp : Int) : Int))) wx (r (.tmp 104)) := h2
          replace h3 : r (.const (.bool false)) = .bool false := h3
          exact give_and rfl h3 h1 (fun hb => h2.get (by first | exact hb | (rw [hc, hb]; rfl) | (rw [hb]; rfl))) ⟨Ext.refl _, rfl⟩
        refine GoodAll.cons ?_ ?_
        · intro r wx hR hx
          obtain ⟨h1, _⟩ := hx
          replace h1 : r (.tmp 105) = .bool (rs_9 c d) := h1
          exact give_move (.inl rfl) ⟨Ext.refl _, h1⟩
        refine GoodAll.cons ?_ ?_
        · intro r wx hR hx
          obtain ⟨h1, _⟩ := hx
          replace h1 : r (.tmp 2) = .pointer (some ⟨w.heap.size, 0, none⟩) := h1
          intro gb hgb
          refine guard_u (C := ((rs_9 c d))) (b := (rs_9 c d)) (want := true) hgb (want_t _) (fun hc => ?_) (fun hc => under_no hc)
          exact give_of (by simp [execOp, h1, go_sem]) ⟨Ext.refl _, under_yes hc⟩
        refine GoodAll.cons ?_ ?_
        · intro r wx hR hx
          obtain ⟨h1, _⟩ := hx
          replace h1 : Under (((rs_9 c d))) (.pointer (some ⟨w.heap.size, 10, none⟩)) wx (r (.tmp 107)) := h1
          intro gb hgb
          refine guard_u (C := ((rs_9 c d))) (b := (rs_9 c d)) (want := true) hgb (want_t _) (fun hc => ?_) (fun hc => under_no hc)
          replace h1 := h1.get hc
          exact give_of (exec_get oneS rfl h1 (kv10 (hB1.ext hR))) ⟨Ext.refl _, under_yes hc⟩
        refine GoodAll.cons ?_ ?_
        · intro r wx hR hx
          obtain ⟨h1, _⟩ := hx
          replace h1 : Under (((rs_9 c d))) (.slice s.mA s.mN s.mC) wx (r (.tmp 108)) := h1
          intro gb hgb
          refine guard_u (C := ((rs_9 c d))) (b := (rs_9 c d)) (want := true) hgb (want_t _) (fun hc => ?_) (fun hc => under_no hc)
          replace h1 := h1.get hc
          exact give_of (exec_string byteT strT rfl wx _ (by rw [h1]; exact HA.m.ext hR)) ⟨Ext.refl _, under_yes hc⟩
        refine GoodAll.cons ?_ ?_
        · intro r wx hR hx
          obtain ⟨h1, _⟩ := hx
          replace h1 : r (.tmp 3) = .pointer (some ⟨w1.heap.size, 0, none⟩) := h1
          intro gb hgb
          refine guard_u (C := ((rs_9 c d))) (b := (rs_9 c d)) (want := true) hgb (want_t _) (fun hc => ?_) (fun hc => under_no hc)
          exact give_of (by simp [execOp, h1, go_sem]) ⟨Ext.refl _, under_yes hc⟩
        refine GoodAll.cons ?_ ?_
        · intro r wx hR hx
          obtain ⟨h1, _⟩ := hx
          replace h1 : Under (((rs_9 c d))) (.pointer (some ⟨w1.heap.size, 10, none⟩)) wx (r (.tmp 110)) := h1
          intro gb hgb
          refine guard_u (C := ((rs_9 c d))) (b := (rs_9 c d)) (want := true) hgb (want_t _) (fun hc => ?_) (fun hc => under_no hc)
          replace h1 := h1.get hc
          exact give_of (exec_get oneS rfl h1 (kv10 (hB2.ext hR))) ⟨Ext.refl _, under_yes hc⟩
        refine GoodAll.cons ?_ ?_
        · intro r wx hR hx
          obtain ⟨h1, _⟩ := hx
          replace h1 : Under (((rs_9 c d))) (.slice u.mA u.mN u.mC) wx (r (.tmp 111)) := h1
          intro gb hgb
          refine guard_u (C := ((rs_9 c d))) (b := (rs_9 c d)) (want := true) hgb (want_t _) (fun hc => ?_) (fun hc => under_no hc)
          replace h1 := h1.get hc
          exact give_of (exec_string byteT strT rfl wx _ (by rw [h1]; exact HB.m.ext hR)) ⟨Ext.refl _, under_yes hc⟩
        refine GoodAll.cons ?_ ?_
        · intro r wx hR hx
          obtain ⟨h1, h2, _⟩ := hx
          replace h1 : Under (((rs_9 c d))) (.string (strOf c.mr)) wx (r (.tmp 109)) := h1
          replace h2 : Under (((rs_9 c d))) (.string (strOf d.mr)) wx (r (.tmp 112)) := h2
          intro gb hgb
          refine guard_u (C := ((rs_9 c d))) (b := (rs_9 c d)) (want := true) hgb (want_t _) (fun hc => ?_) (fun hc => under_no hc)
          replace h1 := h1.get hc
          replace h2 := h2.get hc
          exact give_of (exec_eqlS rfl h1 h2 HA.m.1 HB.m.1) ⟨Ext.refl _, under_yes hc⟩
        refine GoodAll.cons ?_ ?_
        · intro r wx hR hx
          obtain ⟨h1, h2, h3, _⟩ := hx
          replace h1 : r (.tmp 106) = .bool (rs_9 c d) := h1
          replace h2 : Under (((rs_9 c d))) (.bool (decide (c.mr = d.mr))) wx (r (.tmp 113)) := h2
          replace h3 : r (.const (.bool false)) = .bool false := h3
          exact give_and rfl h3 h1 (fun hb => h2.get (by first | exact hb | (rw [hc, hb]; rfl) | (rw [hb]; rfl))) ⟨Ext.refl _, rfl⟩
        refine GoodAll.cons ?_ ?_
        · intro r wx hR hx
          obtain ⟨h1, _⟩ := hx
          replace h1 : r (.tmp 114) = .bool (rs_10 c d) := h1
          exact give_move (.inl rfl) ⟨Ext.refl _, h1⟩
        refine GoodAll.cons ?_ ?_
        · intro r wx hR hx
          obtain ⟨h1, _⟩ := hx
          replace h1 : r (.tmp 2) = .pointer (some ⟨w.heap.size, 0, none⟩) := h1
          intro gb hgb
          refine guard_u (C := ((rs_10 c d))) (b := (rs_10 c d)) (want := true) hgb (want_t _) (fun hc => ?_) (fun hc => under_no hc)
          exact give_of (by simp [execOp, h1, go_sem]) ⟨Ext.refl _, under_yes hc⟩
        refine GoodAll.cons ?_ ?_
        · intro r wx hR hx
          obtain ⟨h1, _⟩ := hx
          replace h1 : Under (((rs_10 c d))) (.pointer (some ⟨w.heap.size, 11, none⟩)) wx (r (.tmp 116)) := h1
          intro gb hgb
          refine guard_u (C := ((rs_10 c d))) (b := (rs_10 c d)) (want := true) hgb (want_t _) (fun hc => ?_) (fun hc => under_no hc)
          replace h1 := h1.get hc
          exact give_of (exec_get oneS rfl h1 (kv11 (hB1.ext hR))) ⟨Ext.refl _, under_yes hc⟩
        refine GoodAll.cons ?_ ?_
        · intro r wx hR hx
          obtain ⟨h1, _⟩ := hx
          replace h1 : Under (((rs_10 c d))) (.slice s.pA s.pN s.pC) wx (r (.tmp 117)) := h1
          intro gb hgb
          refine guard_u (C := ((rs_10 c d))) (b := (rs_10 c d)) (want := true) hgb (want_t _) (fun hc => ?_) (fun hc => under_no hc)
          replace h1 := h1.get hc
          exact give_of (exec_string byteT strT rfl wx _ (by rw [h1]; exact HA.p.ext hR)) ⟨Ext.refl _, under_yes hc⟩
        refine GoodAll.cons ?_ ?_
        · intro r wx hR hx
          obtain ⟨h1, _⟩ := hx
          replace h1 : r (.tmp 3) = .pointer (some ⟨w1.heap.size, 0, none⟩) := h1
          intro gb hgb
          refine guard_u (C := ((rs_10 c d))) (b := (rs_10 c d)) (want := true) hgb (want_t _) (fun hc => ?_) (fun hc => under_no hc)
          exact give_of (by simp [execOp, h1, go_sem]) ⟨Ext.refl _, under_yes hc⟩
        refine GoodAll.cons ?_ ?_
        · intro r wx hR hx
          obtain ⟨h1, _⟩ := hx
          replace h1 : Under (((rs_10 c d))) (.pointer (some ⟨w1.heap.size, 11, none⟩)) wx (r (.tmp 119)) := h1
          intro gb hgb
          refine guard_u (C := ((rs_10 c d))) (b := (rs_10 c d)) (want := true) hgb (want_t _) (fun hc => ?_) (fun hc => under_no hc)
          replace h1 := h1.get hc
          exact give_of (exec_get oneS rfl h1 (kv11 (hB2.ext hR))) ⟨Ext.refl _, under_yes hc⟩
        refine GoodAll.cons ?_ ?_
        · intro r wx hR hx
          obtain ⟨h1, _⟩ := hx
          replace h1 : Under (((rs_10 c d))) (.slice u.pA u.pN u.pC) wx (r (.tmp 120)) := h1
          intro gb hgb
          refine guard_u (C := ((rs_10 c d))) (b := (rs_10 c d)) (want := true) hgb (want_t _) (fun hc => ?_) (fun hc => under_no hc)
          replace h1 := h1.get hc
          exact give_of (exec_string byteT strT rfl wx _ (by rw [h1]; exact HB.p.ext hR)) ⟨Ext.refl _, under_yes hc⟩
        refine GoodAll.cons ?_ ?_
        · intro r wx hR hx
          obtain ⟨h1, h2, _⟩ := hx
          replace h1 : Under (((rs_10 c d))) (.string (strOf c.pr)) wx (r (.tmp 118)) := h1
          replace h2 : Under (((rs_10 c d))) (.string (strOf d.pr)) wx (r (.tmp 121)) := h2
          intro gb hgb
          refine guard_u (C := ((rs_10 c d))) (b := (rs_10 c d)) (want := true) hgb (want_t _) (fun hc => ?_) (fun hc => under_no hc)
          replace h1 := h1.get hc
          replace h2 := h2.get hc
          exact give_of (exec_eqlS rfl h1 h2 HA.p.1 HB.p.1) ⟨Ext.refl _, under_yes hc⟩
        refine GoodAll.cons ?_ ?_
        · intro r wx hR hx
          obtain ⟨h1, h2, h3, _⟩ := hx
          replace h1 : r (.tmp 115) = .bool (rs_10 c d) := h1
          replace h2 : Under (((rs_10 c d))) (.bool (decide (c.pr = d.pr))) wx (r (.tmp 122)) := h2
          replace h3 : r (.const (.bool false)) = .bool false := h3
          exact give_and rfl h3 h1 (fun hb => h2.get (by first | exact hb | (rw [hc, hb]; rfl) | (rw [hb]; rfl))) ⟨Ext.refl _, rfl⟩
        refine GoodAll.cons ?_ ?_
        · intro r wx hR hx
          obtain ⟨h1, _⟩ := hx
          replace h1 : r (.tmp 123) = .bool (rs_11 c d) := h1
          exact give_move (.inr rfl) ⟨Ext.refl _, h1⟩
        exact GoodAll.nil
      · intro vs wE aE hR hold haE
        have hv : vs 93 = .bool (rs_11 c d) := hold.at 93
        refine ‹∀ (a : Act) (w : World), Code.wp Tryd.prog Code.ret _ a w → _› _ _ ?_
        refine wp_ret ?_
        have hs : aE.tmps[4]? = some (.bool (rs_11 c d)) := by rw [haE, ← hv]; kernel_rfl
        have hdf : aE.defers = [] := by rw [haE]; exact putAll_defers _ _ _ _
        clear haE
        refine bodyPost_ret (v := .bool (rs_11 c d)) ?_ hdf ⟨rfl, HEE.out.trans hR⟩
        simp [results, Tryd.results13, go_sem, hs]
end Tlv
end Go.Proofs.YtfhoielfekeihaaDoor

/- Which cookies are good, by the document. No condition of its own. -/
namespace Go.Proofs.YtfhoielfekeihaaDoor
namespace Tlv
open Go Go.RowKit
set_option linter.unusedVariables false
set_option linter.unusedSimpArgs false
set_option maxRecDepth 100000


def badN (c : Co) : Bool := ((((((((decide ((c.made : Int) < (0 : Int))) || ((decide ((c.made : Int) > (4611686018427387904 : Int))))) || ((decide ((c.life : Int) < (1 : Int))))) || ((decide ((c.life : Int) > (2147483648 : Int))))) || ((((c.mine : Int) : Int) == (0 : Int)))) || ((((c.peers : Int) : Int) == (0 : Int)))) || ((decide ((c.win : Int) < (0 : Int))))) || ((decide ((c.win : Int) > (2147483647 : Int)))))
def badL (c : Co) : Bool := ((((((((((decide ((c.out : Int) < (1 : Int))) || ((decide ((c.out : Int) > (8 : Int))))) || ((decide ((c.inn : Int) < (1 : Int))))) || ((decide ((c.inn : Int) > (8 : Int))))) || ((decide (((c.addrs.length : Int) : Int) < (1 : Int))))) || ((decide (((c.addrs.length : Int) : Int) > (4 : Int))))) || ((decide (((c.mr.length : Int) : Int) < (1 : Int))))) || ((decide (((c.mr.length : Int) : Int) > (64 : Int))))) || ((decide (((c.pr.length : Int) : Int) < (1 : Int))))) || ((decide (((c.pr.length : Int) : Int) > (64 : Int)))))
abbrev rga_0 (c : Co) : Bool := ((decide ((c.made : Int) < (0 : Int))) || ((decide ((c.made : Int) > (4611686018427387904 : Int)))))
abbrev rga_1 (c : Co) : Bool := ((rga_0 c) || ((decide ((c.life : Int) < (1 : Int)))))
abbrev rga_2 (c : Co) : Bool := ((rga_1 c) || ((decide ((c.life : Int) > (2147483648 : Int)))))
abbrev rga_3 (c : Co) : Bool := ((rga_2 c) || ((((c.mine : Int) : Int) == (0 : Int))))
abbrev rga_4 (c : Co) : Bool := ((rga_3 c) || ((((c.peers : Int) : Int) == (0 : Int))))
abbrev rga_5 (c : Co) : Bool := ((rga_4 c) || ((decide ((c.win : Int) < (0 : Int)))))
abbrev rga_6 (c : Co) : Bool := ((rga_5 c) || ((decide ((c.win : Int) > (2147483647 : Int)))))
abbrev rgb_0 (c : Co) (s : So) : Bool := ((decide ((c.out : Int) < (1 : Int))) || ((decide ((c.out : Int) > (8 : Int)))))
abbrev rgb_1 (c : Co) (s : So) : Bool := ((rgb_0 c s) || ((decide ((c.inn : Int) < (1 : Int)))))
abbrev rgb_2 (c : Co) (s : So) : Bool := ((rgb_1 c s) || ((decide ((c.inn : Int) > (8 : Int)))))
abbrev rgb_3 (c : Co) (s : So) : Bool := ((rgb_2 c s) || ((decide (((s.aN : Int) : Int) < (1 : Int)))))
abbrev rgb_4 (c : Co) (s : So) : Bool := ((rgb_3 c s) || ((decide (((s.aN : Int) : Int) > (4 : Int)))))
abbrev rgb_5 (c : Co) (s : So) : Bool := ((rgb_4 c s) || ((decide (((s.mN : Int) : Int) < (1 : Int)))))
abbrev rgb_6 (c : Co) (s : So) : Bool := ((rgb_5 c s) || ((decide (((s.mN : Int) : Int) > (64 : Int)))))
abbrev rgb_7 (c : Co) (s : So) : Bool := ((rgb_6 c s) || ((decide (((s.pN : Int) : Int) < (1 : Int)))))
abbrev rgb_8 (c : Co) (s : So) : Bool := ((rgb_7 c s) || ((decide (((s.pN : Int) : Int) > (64 : Int)))))
theorem goodK_split (c : Co) : goodK c = (!badN c && (!badL c && adsB c.addrs)) := by
  rw [Bool.eq_iff_iff]
  unfold goodK badN badL addrsB randB
  simp only [Bool.and_eq_true, Bool.not_eq_true', Bool.or_eq_false_iff, decide_eq_false_iff_not, inB_iff, bne_iff_ne, ne_eq, beq_eq_false_iff_ne]
  constructor
  · rintro ⟨⟨⟨⟨⟨⟨⟨⟨⟨h1, h2⟩, h3⟩, h4⟩, h5⟩, h6⟩, h7⟩, h8, h9⟩, h10⟩, h11⟩
    refine ⟨by (try simp only [h3, h4, not_false_eq_true, and_true]); omega, by omega, h9⟩
  · rintro ⟨h1, h2, h3⟩
    refine ⟨⟨⟨⟨⟨⟨⟨⟨⟨?_, ?_⟩, ?_⟩, ?_⟩, ?_⟩, ?_⟩, ?_⟩, ?_, h3⟩, ?_⟩, ?_⟩ <;> omega
set_option maxHeartbeats 8000000 in
theorem refGood_any {w : World} {c : Co} {s : So} (ha : CoAt w s c) :
    Calls Tryd.prog 11 #[.agg (KV c s)] w fun e w' => e = .returned (.bool (goodK c)) ∧ Ext w w' := by
  have HNs : Hid (s.aN = c.addrs.length ∧ s.mN = c.mr.length ∧ s.pN = c.pr.length) := ⟨(nums_len ha.a).1, (bytes_len ha.m).1, (bytes_len ha.p).1⟩
  have HG := goodK_split c
  have hmx := (nums_len ha.a).2
  unfold maxLen at hmx
  rw [HNs.out.1] at hmx
  go_enter Tryd.func11, Tryd.ntmps11
  refine wp_seq_k (fun K hK => ?_)
  have HK := Stop.mk hK
  clear hK
  go_wp2_with (first
    | (refine wl_box (C := KV c s) rfl rfl rfl ?_; intro w1 hb1 he1 hx; clear hx))
  refine HK.go _ _ ?_
  refine wp_seq_k (fun K2 hK2 => ?_)
  have HK2 := Stop.mk hK2
  clear hK2
  refine wp_seq_k (fun K3 hK3 => ?_)
  have HK3 := Stop.mk hK3
  clear hK3
  refine wp_line (fun t => bif Nat.ble 4 t && Nat.ble t 41 then some (t - 4) else none) 117 Ext
    [Is (.pointer (some ⟨w.heap.size, 0, none⟩)),
     Is (.int .i64 c.made),
     Is (.bool (decide ((c.made : Int) < (0 : Int)))),
     Is (.bool (decide ((c.made : Int) < (0 : Int)))),
     Under ((!((decide ((c.made : Int) < (0 : Int)))))) (.pointer (some ⟨w.heap.size, 0, none⟩)),
     Under ((!((decide ((c.made : Int) < (0 : Int)))))) (.int .i64 c.made),
     Under ((!((decide ((c.made : Int) < (0 : Int)))))) (.bool (decide ((c.made : Int) > (4611686018427387904 : Int)))),
     Is (.bool (rga_0 c)),
     Is (.bool (rga_0 c)),
     Under ((!((rga_0 c)))) (.pointer (some ⟨w.heap.size, 1, none⟩)),
     Under ((!((rga_0 c)))) (.int .i64 c.life),
     Under ((!((rga_0 c)))) (.bool (decide ((c.life : Int) < (1 : Int)))),
     Is (.bool (rga_1 c)),
     Is (.bool (rga_1 c)),
     Under ((!((rga_1 c)))) (.pointer (some ⟨w.heap.size, 1, none⟩)),
     Under ((!((rga_1 c)))) (.int .i64 c.life),
     Under ((!((rga_1 c)))) (.bool (decide ((c.life : Int) > (2147483648 : Int)))),
     Is (.bool (rga_2 c)),
     Is (.bool (rga_2 c)),
     Under ((!((rga_2 c)))) (.pointer (some ⟨w.heap.size, 2, none⟩)),
     Under ((!((rga_2 c)))) (.int .u32 (c.mine : Int)),
     Under ((!((rga_2 c)))) (.bool (((c.mine : Int) : Int) == (0 : Int))),
     Is (.bool (rga_3 c)),
     Is (.bool (rga_3 c)),
     Under ((!((rga_3 c)))) (.pointer (some ⟨w.heap.size, 3, none⟩)),
     Under ((!((rga_3 c)))) (.int .u32 (c.peers : Int)),
     Under ((!((rga_3 c)))) (.bool (((c.peers : Int) : Int) == (0 : Int))),
     Is (.bool (rga_4 c)),
     Is (.bool (rga_4 c)),
     Under ((!((rga_4 c)))) (.pointer (some ⟨w.heap.size, 6, none⟩)),
     Under ((!((rga_4 c)))) (.int .i64 c.win),
     Under ((!((rga_4 c)))) (.bool (decide ((c.win : Int) < (0 : Int)))),
     Is (.bool (rga_5 c)),
     Is (.bool (rga_5 c)),
     Under ((!((rga_5 c)))) (.pointer (some ⟨w.heap.size, 6, none⟩)),
     Under ((!((rga_5 c)))) (.int .i64 c.win),
     Under ((!((rga_5 c)))) (.bool (decide ((c.win : Int) > (2147483647 : Int)))),
     Is (.bool (rga_6 c))]
    rfl (by kernel_rfl) rfl Ext.refl (fun _ _ _ => Ext.trans) (KeepAll.is (KeepAll.is (KeepAll.is (KeepAll.is (KeepAll.under (KeepAll.under (KeepAll.under (KeepAll.is (KeepAll.is (KeepAll.under (KeepAll.under (KeepAll.under (KeepAll.is (KeepAll.is (KeepAll.under (KeepAll.under (KeepAll.under (KeepAll.is (KeepAll.is (KeepAll.under (KeepAll.under (KeepAll.under (KeepAll.is (KeepAll.is (KeepAll.under (KeepAll.under (KeepAll.under (KeepAll.is (KeepAll.is (KeepAll.under (KeepAll.under (KeepAll.under (KeepAll.is (KeepAll.is (KeepAll.under (KeepAll.under (KeepAll.under (KeepAll.is (KeepAll.nil))))))))))))))))))))))))))))))))))))))) ?_ ?_
  · refine GoodAll.cons ?_ ?_
    · intro r wx hR hx
      obtain ⟨h1, _⟩ := hx
      replace h1 : r (.tmp 1) = .pointer (some ⟨w.heap.size, 0, none⟩) := h1
      exact give_of (by simp [execOp, h1, go_sem]) ⟨Ext.refl _, rfl⟩
    refine GoodAll.cons ?_ ?_
    · intro r wx hR hx
      obtain ⟨h1, _⟩ := hx
      replace h1 : r (.tmp 4) = .pointer (some ⟨w.heap.size, 0, none⟩) := h1
      exact give_of (exec_get one3 rfl h1 (kv0 (hb1.ext hR))) ⟨Ext.refl _, rfl⟩
    refine GoodAll.cons ?_ ?_
    · intro r wx hR hx
      obtain ⟨h1, h2, _⟩ := hx
      replace h1 : r (.tmp 5) = .int .i64 c.made := h1
      replace h2 : r (.const (.int .i64 0)) = .int .i64 0 := h2
      exact give_of (by simp [execOp, h1, h2, go_sem]) ⟨Ext.refl _, rfl⟩
    refine GoodAll.cons ?_ ?_
    · intro r wx hR hx
      obtain ⟨h1, _⟩ := hx
      replace h1 : r (.tmp 6) = .bool (decide ((c.made : Int) < (0 : Int))) := h1
      exact give_move (.inl rfl) ⟨Ext.refl _, h1⟩
    refine GoodAll.cons ?_ ?_
    · intro r wx hR hx
      obtain ⟨h1, _⟩ := hx
      replace h1 : r (.tmp 1) = .pointer (some ⟨w.heap.size, 0, none⟩) := h1
      intro gb hgb
      refine guard_u (C := (!((decide ((c.made : Int) < (0 : Int)))))) (b := (decide ((c.made : Int) < (0 : Int)))) (want := false) hgb (want_f _) (fun hc => ?_) (fun hc => under_no hc)
      exact give_of (by simp [execOp, h1, go_sem]) ⟨Ext.refl _, under_yes hc⟩
    refine GoodAll.cons ?_ ?_
    · intro r wx hR hx
      obtain ⟨h1, _⟩ := hx
      replace h1 : Under ((!((decide ((c.made : Int) < (0 : Int)))))) (.pointer (some ⟨w.heap.size, 0, none⟩)) wx (r (.tmp 8)) := h1
      intro gb hgb
      refine guard_u (C := (!((decide ((c.made : Int) < (0 : Int)))))) (b := (decide ((c.made : Int) < (0 : Int)))) (want := false) hgb (want_f _) (fun hc => ?_) (fun hc => under_no hc)
      replace h1 := h1.get hc
      exact give_of (exec_get one3 rfl h1 (kv0 (hb1.ext hR))) ⟨Ext.refl _, under_yes hc⟩
    refine GoodAll.cons ?_ ?_
    · intro r wx hR hx
      obtain ⟨h1, h2, _⟩ := hx
      replace h1 : Under ((!((decide ((c.made : Int) < (0 : Int)))))) (.int .i64 c.made) wx (r (.tmp 9)) := h1
      replace h2 : r (.const (.int .i64 4611686018427387904)) = .int .i64 4611686018427387904 := h2
      intro gb hgb
      refine guard_u (C := (!((decide ((c.made : Int) < (0 : Int)))))) (b := (decide ((c.made : Int) < (0 : Int)))) (want := false) hgb (want_f _) (fun hc => ?_) (fun hc => under_no hc)
      replace h1 := h1.get hc
      exact give_of (by simp [execOp, h1, h2, go_sem]) ⟨Ext.refl _, under_yes hc⟩
    refine GoodAll.cons ?_ ?_
    · intro r wx hR hx
      obtain ⟨h1, h2, h3, _⟩ := hx
      replace h1 : r (.tmp 7) = .bool (decide ((c.made : Int) < (0 : Int))) := h1
      replace h2 : r (.const (.bool true)) = .bool true := h2
      replace h3 : Under ((!((decide ((c.made : Int) < (0 : Int)))))) (.bool (decide ((c.made : Int) > (4611686018427387904 : Int)))) wx (r (.tmp 10)) := h3
      exact give_or rfl h2 h1 (fun hb => h3.get (by first | (rw [hb]; rfl) | (rw [hc, hb]; rfl))) ⟨Ext.refl _, rfl⟩
    refine GoodAll.cons ?_ ?_
    · intro r wx hR hx
      obtain ⟨h1, _⟩ := hx
      replace h1 : r (.tmp 11) = .bool (rga_0 c) := h1
      exact give_move (.inl rfl) ⟨Ext.refl _, h1⟩
    refine GoodAll.cons ?_ ?_
    · intro r wx hR hx
      obtain ⟨h1, _⟩ := hx
      replace h1 : r (.tmp 1) = .pointer (some ⟨w.heap.size, 0, none⟩) := h1
      intro gb hgb
      refine guard_u (C := (!((rga_0 c)))) (b := (rga_0 c)) (want := false) hgb (want_f _) (fun hc => ?_) (fun hc => under_no hc)
      exact give_of (by simp [execOp, h1, go_sem]) ⟨Ext.refl _, under_yes hc⟩
    refine GoodAll.cons ?_ ?_
    · intro r wx hR hx
      obtain ⟨h1, _⟩ := hx
      replace h1 : Under ((!((rga_0 c)))) (.pointer (some ⟨w.heap.size, 1, none⟩)) wx (r (.tmp 13)) := h1
      intro gb hgb
      refine guard_u (C := (!((rga_0 c)))) (b := (rga_0 c)) (want := false) hgb (want_f _) (fun hc => ?_) (fun hc => under_no hc)
      replace h1 := h1.get hc
      exact give_of (exec_get one3 rfl h1 (kv1 (hb1.ext hR))) ⟨Ext.refl _, under_yes hc⟩
    refine GoodAll.cons ?_ ?_
    · intro r wx hR hx
      obtain ⟨h1, h2, _⟩ := hx
      replace h1 : Under ((!((rga_0 c)))) (.int .i64 c.life) wx (r (.tmp 14)) := h1
      replace h2 : r (.const (.int .i64 1)) = .int .i64 1 := h2
      intro gb hgb
      refine guard_u (C := (!((rga_0 c)))) (b := (rga_0 c)) (want := false) hgb (want_f _) (fun hc => ?_) (fun hc => under_no hc)
      replace h1 := h1.get hc
      exact give_of (by simp [execOp, h1, h2, go_sem]) ⟨Ext.refl _, under_yes hc⟩
    refine GoodAll.cons ?_ ?_
    · intro r wx hR hx
      obtain ⟨h1, h2, h3, _⟩ := hx
      replace h1 : r (.tmp 12) = .bool (rga_0 c) := h1
      replace h2 : r (.const (.bool true)) = .bool true := h2
      replace h3 : Under ((!((rga_0 c)))) (.bool (decide ((c.life : Int) < (1 : Int)))) wx (r (.tmp 15)) := h3
      exact give_or rfl h2 h1 (fun hb => h3.get (by first | (rw [hb]; rfl) | (rw [hc, hb]; rfl))) ⟨Ext.refl _, rfl⟩
    refine GoodAll.cons ?_ ?_
    · intro r wx hR hx
      obtain ⟨h1, _⟩ := hx
      replace h1 : r (.tmp 16) = .bool (rga_1 c) := h1
      exact give_move (.inl rfl) ⟨Ext.refl _, h1⟩
    refine GoodAll.cons ?_ ?_
    · intro r wx hR hx
      obtain ⟨h1, _⟩ := hx
      replace h1 : r (.tmp 1) = .pointer (some ⟨w.heap.size, 0, none⟩) := h1
      intro gb hgb
      refine guard_u (C := (!((rga_1 c)))) (b := (rga_1 c)) (want := false) hgb (want_f _) (fun hc => ?_) (fun hc => under_no hc)
      exact give_of (by simp [execOp, h1, go_sem]) ⟨Ext.refl _, under_yes hc⟩
    refine GoodAll.cons ?_ ?_
    · intro r wx hR hx
      obtain ⟨h1, _⟩ := hx
      replace h1 : Under ((!((rga_1 c)))) (.pointer (some ⟨w.heap.size, 1, none⟩)) wx (r (.tmp 18)) := h1
      intro gb hgb
      refine guard_u (C := (!((rga_1 c)))) (b := (rga_1 c)) (want := false) hgb (want_f _) (fun hc => ?_) (fun hc => under_no hc)
      replace h1 := h1.get hc
      exact give_of (exec_get one3 rfl h1 (kv1 (hb1.ext hR))) ⟨Ext.refl _, under_yes hc⟩
    refine GoodAll.cons ?_ ?_
    · intro r wx hR hx
      obtain ⟨h1, h2, _⟩ := hx
      replace h1 : Under ((!((rga_1 c)))) (.int .i64 c.life) wx (r (.tmp 19)) := h1
      replace h2 : r (.const (.int .i64 2147483648)) = .int .i64 2147483648 := h2
      intro gb hgb
      refine guard_u (C := (!((rga_1 c)))) (b := (rga_1 c)) (want := false) hgb (want_f _) (fun hc => ?_) (fun hc => under_no hc)
      replace h1 := h1.get hc
      exact give_of (by simp [execOp, h1, h2, go_sem]) ⟨Ext.refl _, under_yes hc⟩
    refine GoodAll.cons ?_ ?_
    · intro r wx hR hx
      obtain ⟨h1, h2, h3, _⟩ := hx
      replace h1 : r (.tmp 17) = .bool (rga_1 c) := h1
      replace h2 : r (.const (.bool true)) = .bool true := h2
      replace h3 : Under ((!((rga_1 c)))) (.bool (decide ((c.life : Int) > (2147483648 : Int)))) wx (r (.tmp 20)) := h3
      exact give_or rfl h2 h1 (fun hb => h3.get (by first | (rw [hb]; rfl) | (rw [hc, hb]; rfl))) ⟨Ext.refl _, rfl⟩
    refine GoodAll.cons ?_ ?_
    · intro r wx hR hx
      obtain ⟨h1, _⟩ := hx
      replace h1 : r (.tmp 21) = .bool (rga_2 c) := h1
      exact give_move (.inl rfl) ⟨Ext.refl _, h1⟩
    refine GoodAll.cons ?_ ?_
    · intro r wx hR hx
      obtain ⟨h1, _⟩ := hx
      replace h1 : r (.tmp 1) = .pointer (some ⟨w.heap.size, 0, none⟩) := h1
      intro gb hgb
      refine guard_u (C := (!((rga_2 c)))) (b := (rga_2 c)) (want := false) hgb (want_f _) (fun hc => ?_) (fun hc => under_no hc)
      exact give_of (by simp [execOp, h1, go_sem]) ⟨Ext.refl _, under_yes hc⟩
    refine GoodAll.cons ?_ ?_
    · intro r wx hR hx
      obtain ⟨h1, _⟩ := hx
      replace h1 : Under ((!((rga_2 c)))) (.pointer (some ⟨w.heap.size, 2, none⟩)) wx (r (.tmp 23)) := h1
      intro gb hgb
      refine guard_u (C := (!((rga_2 c)))) (b := (rga_2 c)) (want := false) hgb (want_f _) (fun hc => ?_) (fun hc => under_no hc)
      replace h1 := h1.get hc
      exact give_of (exec_get one22 rfl h1 (kv2 (hb1.ext hR))) ⟨Ext.refl _, under_yes hc⟩
    refine GoodAll.cons ?_ ?_
    · intro r wx hR hx
      obtain ⟨h1, h2, _⟩ := hx
      replace h1 : Under ((!((rga_2 c)))) (.int .u32 (c.mine : Int)) wx (r (.tmp 24)) := h1
      replace h2 : r (.const (.int .u32 0)) = .int .u32 0 := h2
      intro gb hgb
      refine guard_u (C := (!((rga_2 c)))) (b := (rga_2 c)) (want := false) hgb (want_f _) (fun hc => ?_) (fun hc => under_no hc)
      replace h1 := h1.get hc
      exact give_of (by simp [execOp, h1, h2, go_sem]) ⟨Ext.refl _, under_yes hc⟩
    refine GoodAll.cons ?_ ?_
    · intro r wx hR hx
      obtain ⟨h1, h2, h3, _⟩ := hx
      replace h1 : r (.tmp 22) = .bool (rga_2 c) := h1
      replace h2 : r (.const (.bool true)) = .bool true := h2
      replace h3 : Under ((!((rga_2 c)))) (.bool (((c.mine : Int) : Int) == (0 : Int))) wx (r (.tmp 25)) := h3
      exact give_or rfl h2 h1 (fun hb => h3.get (by first | (rw [hb]; rfl) | (rw [hc, hb]; rfl))) ⟨Ext.refl _, rfl⟩
    refine GoodAll.cons ?_ ?_
    · intro r wx hR hx
      obtain ⟨h1, _⟩ := hx
      replace h1 : r (.tmp 26) = .bool (rga_3 c) := h1
      exact give_move (.inl rfl) ⟨Ext.refl _, h1⟩
    refine GoodAll.cons ?_ ?_
    · intro r wx hR hx
      obtain ⟨h1, _⟩ := hx
      replace h1 : r (.tmp 1) = .pointer (some ⟨w.heap.size, 0, none⟩) := h1
      intro gb hgb
      refine guard_u (C := (!((rga_3 c)))) (b := (rga_3 c)) (want := false) hgb (want_f _) (fun hc => ?_) (fun hc => under_no hc)
      exact give_of (by simp [execOp, h1, go_sem]) ⟨Ext.refl _, under_yes hc⟩
    refine GoodAll.cons ?_ ?_
    · intro r wx hR hx
      obtain ⟨h1, _⟩ := hx
      replace h1 : Under ((!((rga_3 c)))) (.pointer (some ⟨w.heap.size, 3, none⟩)) wx (r (.tmp 28)) := h1
      intro gb hgb
      refine guard_u (C := (!((rga_3 c)))) (b := (rga_3 c)) (want := false) hgb (want_f _) (fun hc => ?_) (fun hc => under_no hc)
      replace h1 := h1.get hc
      exact give_of (exec_get one22 rfl h1 (kv3 (hb1.ext hR))) ⟨Ext.refl _, under_yes hc⟩
    refine GoodAll.cons ?_ ?_
    · intro r wx hR hx
      obtain ⟨h1, h2, _⟩ := hx
      replace h1 : Under ((!((rga_3 c)))) (.int .u32 (c.peers : Int)) wx (r (.tmp 29)) := h1
      replace h2 : r (.const (.int .u32 0)) = .int .u32 0 := h2
      intro gb hgb
      refine guard_u (C := (!((rga_3 c)))) (b := (rga_3 c)) (want := false) hgb (want_f _) (fun hc => ?_) (fun hc => under_no hc)
      replace h1 := h1.get hc
      exact give_of (by simp [execOp, h1, h2, go_sem]) ⟨Ext.refl _, under_yes hc⟩
    refine GoodAll.cons ?_ ?_
    · intro r wx hR hx
      obtain ⟨h1, h2, h3, _⟩ := hx
      replace h1 : r (.tmp 27) = .bool (rga_3 c) := h1
      replace h2 : r (.const (.bool true)) = .bool true := h2
      replace h3 : Under ((!((rga_3 c)))) (.bool (((c.peers : Int) : Int) == (0 : Int))) wx (r (.tmp 30)) := h3
      exact give_or rfl h2 h1 (fun hb => h3.get (by first | (rw [hb]; rfl) | (rw [hc, hb]; rfl))) ⟨Ext.refl _, rfl⟩
    refine GoodAll.cons ?_ ?_
    · intro r wx hR hx
      obtain ⟨h1, _⟩ := hx
      replace h1 : r (.tmp 31) = .bool (rga_4 c) := h1
      exact give_move (.inl rfl) ⟨Ext.refl _, h1⟩
    refine GoodAll.cons ?_ ?_
    · intro r wx hR hx
      obtain ⟨h1, _⟩ := hx
      replace h1 : r (.tmp 1) = .pointer (some ⟨w.heap.size, 0, none⟩) := h1
      intro gb hgb
      refine guard_u (C := (!((rga_4 c)))) (b := (rga_4 c)) (want := false) hgb (want_f _) (fun hc => ?_) (fun hc => under_no hc)
      exact give_of (by simp [execOp, h1, go_sem]) ⟨Ext.refl _, under_yes hc⟩
    refine GoodAll.cons ?_ ?_
    · intro r wx hR hx
      obtain ⟨h1, _⟩ := hx
      replace h1 : Under ((!((rga_4 c)))) (.pointer (some ⟨w.heap.size, 6, none⟩)) wx (r (.tmp 33)) := h1
      intro gb hgb
      refine guard_u (C := (!((rga_4 c)))) (b := (rga_4 c)) (want := false) hgb (want_f _) (fun hc => ?_) (fun hc => under_no hc)
      replace h1 := h1.get hc
      exact give_of (exec_get one3 rfl h1 (kv6 (hb1.ext hR))) ⟨Ext.refl _, under_yes hc⟩
    refine GoodAll.cons ?_ ?_
    · intro r wx hR hx
      obtain ⟨h1, h2, _⟩ := hx
      replace h1 : Under ((!((rga_4 c)))) (.int .i64 c.win) wx (r (.tmp 34)) := h1
      replace h2 : r (.const (.int .i64 0)) = .int .i64 0 := h2
      intro gb hgb
      refine guard_u (C := (!((rga_4 c)))) (b := (rga_4 c)) (want := false) hgb (want_f _) (fun hc => ?_) (fun hc => under_no hc)
      replace h1 := h1.get hc
      exact give_of (by simp [execOp, h1, h2, go_sem]) ⟨Ext.refl _, under_yes hc⟩
    refine GoodAll.cons ?_ ?_
    · intro r wx hR hx
      obtain ⟨h1, h2, h3, _⟩ := hx
      replace h1 : r (.tmp 32) = .bool (rga_4 c) := h1
      replace h2 : r (.const (.bool true)) = .bool true := h2
      replace h3 : Under ((!((rga_4 c)))) (.bool (decide ((c.win : Int) < (0 : Int)))) wx (r (.tmp 35)) := h3
      exact give_or rfl h2 h1 (fun hb => h3.get (by first | (rw [hb]; rfl) | (rw [hc, hb]; rfl))) ⟨Ext.refl _, rfl⟩
    refine GoodAll.cons ?_ ?_
    · intro r wx hR hx
      obtain ⟨h1, _⟩ := hx
      replace h1 : r (.tmp 36) = .bool (rga_5 c) := h1
      exact give_move (.inl rfl) ⟨Ext.refl _, h1⟩
    refine GoodAll.cons ?_ ?_
    · intro r wx hR hx
      obtain ⟨h1, _⟩ := hx
      replace h1 : r (.tmp 1) = .pointer (some ⟨w.heap.size, 0, none⟩) := h1
      intro gb hgb
      refine guard_u (C := (!((rga_5 c)))) (b := (rga_5 c)) (want := false) hgb (want_f _) (fun hc => ?_) (fun hc => under_no hc)
      exact give_of (by simp [execOp, h1, go_sem]) ⟨Ext.refl _, under_yes hc⟩
    refine GoodAll.cons ?_ ?_
    · intro r wx hR hx
      obtain ⟨h1, _⟩ := hx
      replace h1 : Under ((!((rga_5 c)))) (.pointer (some ⟨w.heap.size, 6, none⟩)) wx (r (.tmp 38)) := h1
      intro gb hgb
      refine guard_u (C := (!((rga_5 c)))) (b := (rga_5 c)) (want := false) hgb (want_f _) (fun hc => ?_) (fun hc => under_no hc)
      replace h1 := h1.get hc
      exact give_of (exec_get one3 rfl h1 (kv6 (hb1.ext hR))) ⟨Ext.refl _, under_yes hc⟩
    refine GoodAll.cons ?_ ?_
    · intro r wx hR hx
      obtain ⟨h1, h2, _⟩ := hx
      replace h1 : Under ((!((rga_5 c)))) (.int .i64 c.win) wx (r (.tmp 39)) := h1
      replace h2 : r (.const (.int .i64 2147483647)) = .int .i64 2147483647 := h2
      intro gb hgb
      refine guard_u (C := (!((rga_5 c)))) (b := (rga_5 c)) (want := false) hgb (want_f _) (fun hc => ?_) (fun hc => under_no hc)
      replace h1 := h1.get hc
      exact give_of (by simp [execOp, h1, h2, go_sem]) ⟨Ext.refl _, under_yes hc⟩
    refine GoodAll.cons ?_ ?_
    · intro r wx hR hx
      obtain ⟨h1, h2, h3, _⟩ := hx
      replace h1 : r (.tmp 37) = .bool (rga_5 c) := h1
      replace h2 : r (.const (.bool true)) = .bool true := h2
      replace h3 : Under ((!((rga_5 c)))) (.bool (decide ((c.win : Int) > (2147483647 : Int)))) wx (r (.tmp 40)) := h3
      exact give_or rfl h2 h1 (fun hb => h3.get (by first | (rw [hb]; rfl) | (rw [hc, hb]; rfl))) ⟨Ext.refl _, rfl⟩
    exact GoodAll.nil
  · intro vs w3 a3 hR hold ha3
    have hv : vs 37 = .bool (badN c) := hold.at 37
    clear hold
    simp only [putAll, Act.put, hv, List.setIfInBounds_toArray, List.set_cons_succ, List.set_cons_zero] at ha3
    subst ha3
    refine HK3.go _ _ ?_
    have HE : Hid (Ext w w3) := he1.trans hR
    cases hdn : badN c with
    | true =>
      go_wp2
      go_ret
      exact ⟨by rw [HG, hdn]; rfl, HE.out⟩
    | false =>
      go_wp2_with fail
      refine HK2.go _ _ ?_
      clear HK HK2 HK3
      have hbC := hb1.ext hR
      have HEC : Hid (Ext w w3) := HE.out
      refine wp_seq_k (fun K4 hK4 => ?_)
      have HK4 := Stop.mk hK4
      clear hK4
      refine wp_seq_k (fun K5 hK5 => ?_)
      have HK5 := Stop.mk hK5
      clear hK5
      refine wp_line (fun t => bif Nat.ble 42 t && Nat.ble t 95 then some (t - 42) else none) 117 Ext
        [Is (.pointer (some ⟨w.heap.size, 7, none⟩)),
         Is (.int .i64 c.out),
         Is (.bool (decide ((c.out : Int) < (1 : Int)))),
         Is (.bool (decide ((c.out : Int) < (1 : Int)))),
         Under ((!((decide ((c.out : Int) < (1 : Int)))))) (.pointer (some ⟨w.heap.size, 7, none⟩)),
         Under ((!((decide ((c.out : Int) < (1 : Int)))))) (.int .i64 c.out),
         Under ((!((decide ((c.out : Int) < (1 : Int)))))) (.bool (decide ((c.out : Int) > (8 : Int)))),
         Is (.bool (rgb_0 c s)),
         Is (.bool (rgb_0 c s)),
         Under ((!((rgb_0 c s)))) (.pointer (some ⟨w.heap.size, 8, none⟩)),
         Under ((!((rgb_0 c s)))) (.int .i64 c.inn),
         Under ((!((rgb_0 c s)))) (.bool (decide ((c.inn : Int) < (1 : Int)))),
         Is (.bool (rgb_1 c s)),
         Is (.bool (rgb_1 c s)),
         Under ((!((rgb_1 c s)))) (.pointer (some ⟨w.heap.size, 8, none⟩)),
         Under ((!((rgb_1 c s)))) (.int .i64 c.inn),
         Under ((!((rgb_1 c s)))) (.bool (decide ((c.inn : Int) > (8 : Int)))),
         Is (.bool (rgb_2 c s)),
         Is (.bool (rgb_2 c s)),
         Under ((!((rgb_2 c s)))) (.pointer (some ⟨w.heap.size, 9, none⟩)),
         Under ((!((rgb_2 c s)))) (.slice s.aA s.aN s.aC),
         Under ((!((rgb_2 c s)))) (.int .i64 (s.aN : Int)),
         Under ((!((rgb_2 c s)))) (.bool (decide (((s.aN : Int) : Int) < (1 : Int)))),
         Is (.bool (rgb_3 c s)),
         Is (.bool (rgb_3 c s)),
         Under ((!((rgb_3 c s)))) (.pointer (some ⟨w.heap.size, 9, none⟩)),
         Under ((!((rgb_3 c s)))) (.slice s.aA s.aN s.aC),
         Under ((!((rgb_3 c s)))) (.int .i64 (s.aN : Int)),
         Under ((!((rgb_3 c s)))) (.bool (decide (((s.aN : Int) : Int) > (4 : Int)))),
         Is (.bool (rgb_4 c s)),
         Is (.bool (rgb_4 c s)),
         Under ((!((rgb_4 c s)))) (.pointer (some ⟨w.heap.size, 10, none⟩)),
         Under ((!((rgb_4 c s)))) (.slice s.mA s.mN s.mC),
         Under ((!((rgb_4 c s)))) (.int .i64 (s.mN : Int)),
         Under ((!((rgb_4 c s)))) (.bool (decide (((s.mN : Int) : Int) < (1 : Int)))),
         Is (.bool (rgb_5 c s)),
         Is (.bool (rgb_5 c s)),
         Under ((!((rgb_5 c s)))) (.pointer (some ⟨w.heap.size, 10, none⟩)),
         Under ((!((rgb_5 c s)))) (.slice s.mA s.mN s.mC),
         Under ((!((rgb_5 c s)))) (.int .i64 (s.mN : Int)),
         Under ((!((rgb_5 c s)))) (.bool (decide (((s.mN : Int) : Int) > (64 : Int)))),
         Is (.bool (rgb_6 c s)),
         Is (.bool (rgb_6 c s)),
         Under ((!((rgb_6 c s)))) (.pointer (some ⟨w.heap.size, 11, none⟩)),
         Under ((!((rgb_6 c s)))) (.slice s.pA s.pN s.pC),
         Under ((!((rgb_6 c s)))) (.int .i64 (s.pN : Int)),
         Under ((!((rgb_6 c s)))) (.bool (decide (((s.pN : Int) : Int) < (1 : Int)))),
         Is (.bool (rgb_7 c s)),
         Is (.bool (rgb_7 c s)),
         Under ((!((rgb_7 c s)))) (.pointer (some ⟨w.heap.size, 11, none⟩)),
         Under ((!((rgb_7 c s)))) (.slice s.pA s.pN s.pC),
         Under ((!((rgb_7 c s)))) (.int .i64 (s.pN : Int)),
         Under ((!((rgb_7 c s)))) (.bool (decide (((s.pN : Int) : Int) > (64 : Int)))),
         Is (.bool (rgb_8 c s))]
        rfl (by kernel_rfl) rfl Ext.refl (fun _ _ _ => Ext.trans) (KeepAll.is (KeepAll.is (KeepAll.is (KeepAll.is (KeepAll.under (KeepAll.under (KeepAll.under (KeepAll.is (KeepAll.is (KeepAll.under (KeepAll.under (KeepAll.under (KeepAll.is (KeepAll.is (KeepAll.under (KeepAll.under (KeepAll.under (KeepAll.is (KeepAll.is (KeepAll.under (KeepAll.under (KeepAll.under (KeepAll.under (KeepAll.is (KeepAll.is (KeepAll.under (KeepAll.under (KeepAll.under (KeepAll.under (KeepAll.is (KeepAll.is (KeepAll.under (KeepAll.under (KeepAll.under (KeepAll.under (KeepAll.is (KeepAll.is (KeepAll.under (KeepAll.under (KeepAll.under (KeepAll.under (KeepAll.is (KeepAll.is (KeepAll.under (KeepAll.under (KeepAll.under (KeepAll.under (KeepAll.is (KeepAll.is (KeepAll.under (KeepAll.under (KeepAll.under (KeepAll.under (KeepAll.is (KeepAll.nil))))))))))))))))))))))))))))))))))))))))))))))))))))))) ?_ ?_
      · refine GoodAll.cons ?_ ?_
        · intro r wx hR hx
          obtain ⟨h1, _⟩ := hx
          replace h1 : r (.tmp 1) = .pointer (some ⟨w.heap.size, 0, none⟩) := h1
          exact give_of (by simp [execOp, h1, go_sem]) ⟨Ext.refl _, rfl⟩
        refine GoodAll.cons ?_ ?_
        · intro r wx hR hx
          obtain ⟨h1, _⟩ := hx
          replace h1 : r (.tmp 42) = .pointer (some ⟨w.heap.size, 7, none⟩) := h1
          exact give_of (exec_get one3 rfl h1 (kv7 (hbC.ext hR))) ⟨Ext.refl _, rfl⟩
        refine GoodAll.cons ?_ ?_
        · intro r wx hR hx
          obtain ⟨h1, h2, _⟩ := hx
          replace h1 : r (.tmp 43) = .int .i64 c.out := h1
          replace h2 : r (.const (.int .i64 1)) = .int .i64 1 := h2
          exact give_of (by simp [execOp, h1, h2, go_sem]) ⟨Ext.refl _, rfl⟩
        refine GoodAll.cons ?_ ?_
        · intro r wx hR hx
          obtain ⟨h1, _⟩ := hx
          replace h1 : r (.tmp 44) = .bool (decide ((c.out : Int) < (1 : Int))) := h1
          exact give_move (.inl rfl) ⟨Ext.refl _, h1⟩
        refine GoodAll.cons ?_ ?_
        · intro r wx hR hx
          obtain ⟨h1, _⟩ := hx
          replace h1 : r (.tmp 1) = .pointer (some ⟨w.heap.size, 0, none⟩) := h1
          intro gb hgb
          refine guard_u (C := (!((decide ((c.out : Int) < (1 : Int)))))) (b := (decide ((c.out : Int) < (1 : Int)))) (want := false) hgb (want_f _) (fun hc => ?_) (fun hc => under_no hc)
          exact give_of (by simp [execOp, h1, go_sem]) ⟨Ext.refl _, under_yes hc⟩
        refine GoodAll.cons ?_ ?_
        · intro r wx hR hx
          obtain ⟨h1, _⟩ := hx
          replace h1 : Under ((!((decide ((c.out : Int) < (1 : Int)))))) (.pointer (some ⟨w.heap.size, 7, none⟩)) wx (r (.tmp 46)) := h1
          intro gb hgb
          refine guard_u (C := (!((decide ((c.out : Int) < (1 : Int)))))) (b := (decide ((c.out : Int) < (1 : Int)))) (want := false) hgb (want_f _) (fun hc => ?_) (fun hc => under_no hc)
          replace h1 := h1.get hc
          exact give_of (exec_get one3 rfl h1 (kv7 (hbC.ext hR))) ⟨Ext.refl _, under_yes hc⟩
        refine GoodAll.cons ?_ ?_
        · intro r wx hR hx
          obtain ⟨h1, h2, _⟩ := hx
          replace h1 : Under ((!((decide ((c.out : Int) < (1 : Int)))))) (.int .i64 c.out) wx (r (.tmp 47)) := h1
          replace h2 : r (.const (.int .i64 8)) = .int .i64 8 := h2
          intro gb hgb
          refine guard_u (C := (!((decide ((c.out : Int) < (1 : Int)))))) (b := (decide ((c.out : Int) < (1 : Int)))) (want := false) hgb (want_f _) (fun hc => ?_) (fun hc => under_no hc)
          replace h1 := h1.get hc
          exact give_of (by simp [execOp, h1, h2, go_sem]) ⟨Ext.refl _, under_yes hc⟩
        refine GoodAll.cons ?_ ?_
        · intro r wx hR hx
          obtain ⟨h1, h2, h3, _⟩ := hx
          replace h1 : r (.tmp 45) = .bool (decide ((c.out : Int) < (1 : Int))) := h1
          replace h2 : r (.const (.bool true)) = .bool true := h2
          replace h3 : Under ((!((decide ((c.out : Int) < (1 : Int)))))) (.bool (decide ((c.out : Int) > (8 : Int)))) wx (r (.tmp 48)) := h3
          exact give_or rfl h2 h1 (fun hb => h3.get (by first | (rw [hb]; rfl) | (rw [hc, hb]; rfl))) ⟨Ext.refl _, rfl⟩
        refine GoodAll.cons ?_ ?_
        · intro r wx hR hx
          obtain ⟨h1, _⟩ := hx
          replace h1 : r (.tmp 49) = .bool (rgb_0 c s) := h1
          exact give_move (.inl rfl) ⟨Ext.refl _, h1⟩
        refine GoodAll.cons ?_ ?_
        · intro r wx hR hx
          obtain ⟨h1, _⟩ := hx
          replace h1 : r (.tmp 1) = .pointer (some ⟨w.heap.size, 0, none⟩) := h1
          intro gb hgb
          refine guard_u (C := (!((rgb_0 c s)))) (b := (rgb_0 c s)) (want := false) hgb (want_f _) (fun hc => ?_) (fun hc => under_no hc)
          exact give_of (by simp [execOp, h1, go_sem]) ⟨Ext.refl _, under_yes hc⟩
        refine GoodAll.cons ?_ ?_
        · intro r wx hR hx
          obtain ⟨h1, _⟩ := hx
          replace h1 : Under ((!((rgb_0 c s)))) (.pointer (some ⟨w.heap.size, 8, none⟩)) wx (r (.tmp 51)) := h1
          intro gb hgb
          refine guard_u (C := (!((rgb_0 c s)))) (b := (rgb_0 c s)) (want := false) hgb (want_f _) (fun hc => ?_) (fun hc => under_no hc)
          replace h1 := h1.get hc
          exact give_of (exec_get one3 rfl h1 (kv8 (hbC.ext hR))) ⟨Ext.refl _, under_yes hc⟩
        refine GoodAll.cons ?_ ?_
        · intro r wx hR hx
          obtain ⟨h1, h2, _⟩ := hx
          replace h1 : Under ((!((rgb_0 c s)))) (.int .i64 c.inn) wx (r (.tmp 52)) := h1
          replace h2 : r (.const (.int .i64 1)) = .int .i64 1 := h2
          intro gb hgb
          refine guard_u (C := (!((rgb_0 c s)))) (b := (rgb_0 c s)) (want := false) hgb (want_f _) (fun hc => ?_) (fun hc => under_no hc)
          replace h1 := h1.get hc
          exact give_of (by simp [execOp, h1, h2, go_sem]) ⟨Ext.refl _, under_yes hc⟩
        refine GoodAll.cons ?_ ?_
        · intro r wx hR hx
          obtain ⟨h1, h2, h3, _⟩ := hx
          replace h1 : r (.tmp 50) = .bool (rgb_0 c s) := h1
          replace h2 : r (.const (.bool true)) = .bool true := h2
          replace h3 : Under ((!((rgb_0 c s)))) (.bool (decide ((c.inn : Int) < (1 : Int)))) wx (r (.tmp 53)) := h3
          exact give_or rfl h2 h1 (fun hb => h3.get (by first | (rw [hb]; rfl) | (rw [hc, hb]; rfl))) ⟨Ext.refl _, rfl⟩
        refine GoodAll.cons ?_ ?_
        · intro r wx hR hx
          obtain ⟨h1, _⟩ := hx
          replace h1 : r (.tmp 54) = .bool (rgb_1 c s) := h1
          exact give_move (.inl rfl) ⟨Ext.refl _, h1⟩
        refine GoodAll.cons ?_ ?_
        · intro r wx hR hx
          obtain ⟨h1, _⟩ := hx
          replace h1 : r (.tmp 1) = .pointer (some ⟨w.heap.size, 0, none⟩) := h1
          intro gb hgb
          refine guard_u (C := (!((rgb_1 c s)))) (b := (rgb_1 c s)) (want := false) hgb (want_f _) (fun hc => ?_) (fun hc => under_no hc)
          exact give_of (by simp [execOp, h1, go_sem]) ⟨Ext.refl _, under_yes hc⟩
        refine GoodAll.cons ?_ ?_
        · intro r wx hR hx
          obtain ⟨h1, _⟩ := hx
          replace h1 : Under ((!((rgb_1 c s)))) (.pointer (some ⟨w.heap.size, 8, none⟩)) wx (r (.tmp 56)) := h1
          intro gb hgb
          refine guard_u (C := (!((rgb_1 c s)))) (b := (rgb_1 c s)) (want := false) hgb (want_f _) (fun hc => ?_) (fun hc => under_no hc)
          replace h1 := h1.get hc
          exact give_of (exec_get one3 rfl h1 (kv8 (hbC.ext hR))) ⟨Ext.refl _, under_yes hc⟩
        refine GoodAll.cons ?_ ?_
        · intro r wx hR hx
          obtain ⟨h1, h2, _⟩ := hx
          replace h1 : Under ((!((rgb_1 c s)))) (.int .i64 c.inn) wx (r (.tmp 57)) := h1
          replace h2 : r (.const (.int .i64 8)) = .int .i64 8 := h2
          intro gb hgb
          refine guard_u (C := (!((rgb_1 c s)))) (b := (rgb_1 c s)) (want := false) hgb (want_f _) (fun hc => ?_) (fun hc => under_no hc)
          replace h1 := h1.get hc
          exact give_of (by simp [execOp, h1, h2, go_sem]) ⟨Ext.refl _, under_yes hc⟩
        refine GoodAll.cons ?_ ?_
        · intro r wx hR hx
          obtain ⟨h1, h2, h3, _⟩ := hx
          replace h1 : r (.tmp 55) = .bool (rgb_1 c s) := h1
          replace h2 : r (.const (.bool true)) = .bool true := h2
          replace h3 : Under ((!((rgb_1 c s)))) (.bool (decide ((c.inn : Int) > (8 : Int)))) wx (r (.tmp 58)) := h3
          exact give_or rfl h2 h1 (fun hb => h3.get (by first | (rw [hb]; rfl) | (rw [hc, hb]; rfl))) ⟨Ext.refl _, rfl⟩
        refine GoodAll.cons ?_ ?_
        · intro r wx hR hx
          obtain ⟨h1, _⟩ := hx
          replace h1 : r (.tmp 59) = .bool (rgb_2 c s) := h1
          exact give_move (.inl rfl) ⟨Ext.refl _, h1⟩
        refine GoodAll.cons ?_ ?_
        · intro r wx hR hx
          obtain ⟨h1, _⟩ := hx
          replace h1 : r (.tmp 1) = .pointer (some ⟨w.heap.size, 0, none⟩) := h1
          intro gb hgb
          refine guard_u (C := (!((rgb_2 c s)))) (b := (rgb_2 c s)) (want := false) hgb (want_f _) (fun hc => ?_) (fun hc => under_no hc)
          exact give_of (by simp [execOp, h1, go_sem]) ⟨Ext.refl _, under_yes hc⟩
        refine GoodAll.cons ?_ ?_
        · intro r wx hR hx
          obtain ⟨h1, _⟩ := hx
          replace h1 : Under ((!((rgb_2 c s)))) (.pointer (some ⟨w.heap.size, 9, none⟩)) wx (r (.tmp 61)) := h1
          intro gb hgb
          refine guard_u (C := (!((rgb_2 c s)))) (b := (rgb_2 c s)) (want := false) hgb (want_f _) (fun hc => ?_) (fun hc => under_no hc)
          replace h1 := h1.get hc
          exact give_of (exec_get oneSA rfl h1 (kv9 (hbC.ext hR))) ⟨Ext.refl _, under_yes hc⟩
        refine GoodAll.cons ?_ ?_
        · intro r wx hR hx
          obtain ⟨h1, _⟩ := hx
          replace h1 : Under ((!((rgb_2 c s)))) (.slice s.aA s.aN s.aC) wx (r (.tmp 62)) := h1
          intro gb hgb
          refine guard_u (C := (!((rgb_2 c s)))) (b := (rgb_2 c s)) (want := false) hgb (want_f _) (fun hc => ?_) (fun hc => under_no hc)
          replace h1 := h1.get hc
          exact give_of (by simp [execOp, h1, go_sem]) ⟨Ext.refl _, under_yes hc⟩
        refine GoodAll.cons ?_ ?_
        · intro r wx hR hx
          obtain ⟨h1, h2, _⟩ := hx
          replace h1 : Under ((!((rgb_2 c s)))) (.int .i64 (s.aN : Int)) wx (r (.tmp 63)) := h1
          replace h2 : r (.const (.int .i64 1)) = .int .i64 1 := h2
          intro gb hgb
          refine guard_u (C := (!((rgb_2 c s)))) (b := (rgb_2 c s)) (want := false) hgb (want_f _) (fun hc => ?_) (fun hc => under_no hc)
          replace h1 := h1.get hc
          exact give_of (by simp [execOp, h1, h2, go_sem]) ⟨Ext.refl _, under_yes hc⟩
        refine GoodAll.cons ?_ ?_
        · intro r wx hR hx
          obtain ⟨h1, h2, h3, _⟩ := hx
          replace h1 : r (.tmp 60) = .bool (rgb_2 c s) := h1
          replace h2 : r (.const (.bool true)) = .bool true := h2
          replace h3 : Under ((!((rgb_2 c s)))) (.bool (decide (((s.aN : Int) : Int) < (1 : Int)))) wx (r (.tmp 64)) := h3
          exact give_or rfl h2 h1 (fun hb => h3.get (by first | (rw [hb]; rfl) | (rw [hc, hb]; rfl))) ⟨Ext.refl _, rfl⟩
        refine GoodAll.cons ?_ ?_
        · intro r wx hR hx
          obtain ⟨h1, _⟩ := hx
          replace h1 : r (.tmp 65) = .bool (rgb_3 c s) := h1
          exact give_move (.inl rfl) ⟨Ext.refl _, h1⟩
        refine GoodAll.cons ?_ ?_
        · intro r wx hR hx
          obtain ⟨h1, _⟩ := hx
          replace h1 : r (.tmp 1) = .pointer (some ⟨w.heap.size, 0, none⟩) := h1
          intro gb hgb
          refine guard_u (C := (!((rgb_3 c s)))) (b := (rgb_3 c s)) (want := false) hgb (want_f _) (fun hc => ?_) (fun hc => under_no hc)
          exact give_of (by simp [execOp, h1, go_sem]) ⟨Ext.refl _, under_yes hc⟩
        refine GoodAll.cons ?_ ?_
        · intro r wx hR hx
          obtain ⟨h1, _⟩ := hx
          replace h1 : Under ((!((rgb_3 c s)))) (.pointer (some ⟨w.heap.size, 9, none⟩)) wx (r (.tmp 67)) := h1
          intro gb hgb
          refine guard_u (C := (!((rgb_3 c s)))) (b := (rgb_3 c s)) (want := false) hgb (want_f _) (fun hc => ?_) (fun hc => under_no hc)
          replace h1 := h1.get hc
          exact give_of (exec_get oneSA rfl h1 (kv9 (hbC.ext hR))) ⟨Ext.refl _, under_yes hc⟩
        refine GoodAll.cons ?_ ?_
        · intro r wx hR hx
          obtain ⟨h1, _⟩ := hx
          replace h1 : Under ((!((rgb_3 c s)))) (.slice s.aA s.aN s.aC) wx (r (.tmp 68)) := h1
          intro gb hgb
          refine guard_u (C := (!((rgb_3 c s)))) (b := (rgb_3 c s)) (want := false) hgb (want_f _) (fun hc => ?_) (fun hc => under_no hc)
          replace h1 := h1.get hc
          exact give_of (by simp [execOp, h1, go_sem]) ⟨Ext.refl _, under_yes hc⟩
        refine GoodAll.cons ?_ ?_
        · intro r wx hR hx
          obtain ⟨h1, h2, _⟩ := hx
          replace h1 : Under ((!((rgb_3 c s)))) (.int .i64 (s.aN : Int)) wx (r (.tmp 69)) := h1
          replace h2 : r (.const (.int .i64 4)) = .int .i64 4 := h2
          intro gb hgb
          refine guard_u (C := (!((rgb_3 c s)))) (b := (rgb_3 c s)) (want := false) hgb (want_f _) (fun hc => ?_) (fun hc => under_no hc)
          replace h1 := h1.get hc
          exact give_of (by simp [execOp, h1, h2, go_sem]) ⟨Ext.refl _, under_yes hc⟩
        refine GoodAll.cons ?_ ?_
        · intro r wx hR hx
          obtain ⟨h1, h2, h3, _⟩ := hx
          replace h1 : r (.tmp 66) = .bool (rgb_3 c s) := h1
          replace h2 : r (.const (.bool true)) = .bool true := h2
          replace h3 : Under ((!((rgb_3 c s)))) (.bool (decide (((s.aN : Int) : Int) > (4 : Int)))) wx (r (.tmp 70)) := h3
          exact give_or rfl h2 h1 (fun hb => h3.get (by first | (rw [hb]; rfl) | (rw [hc, hb]; rfl))) ⟨Ext.refl _, rfl⟩
        refine GoodAll.cons ?_ ?_
        · intro r wx hR hx
          obtain ⟨h1, _⟩ := hx
          replace h1 : r (.tmp 71) = .bool (rgb_4 c s) := h1
          exact give_move (.inl rfl) ⟨Ext.refl _, h1⟩
        refine GoodAll.cons ?_ ?_
        · intro r wx hR hx
          obtain ⟨h1, _⟩ := hx
          replace h1 : r (.tmp 1) = .pointer (some ⟨w.heap.size, 0, none⟩) := h1
          intro gb hgb
          refine guard_u (C := (!((rgb_4 c s)))) (b := (rgb_4 c s)) (want := false) hgb (want_f _) (fun hc => ?_) (fun hc => under_no hc)
          exact give_of (by simp [execOp, h1, go_sem]) ⟨Ext.refl _, under_yes hc⟩
        refine GoodAll.cons ?_ ?_
        · intro r wx hR hx
          obtain ⟨h1, _⟩ := hx
          replace h1 : Under ((!((rgb_4 c s)))) (.pointer (some ⟨w.heap.size, 10, none⟩)) wx (r (.tmp 73)) := h1
          intro gb hgb
          refine guard_u (C := (!((rgb_4 c s)))) (b := (rgb_4 c s)) (want := false) hgb (want_f _) (fun hc => ?_) (fun hc => under_no hc)
          replace h1 := h1.get hc
          exact give_of (exec_get oneS rfl h1 (kv10 (hbC.ext hR))) ⟨Ext.refl _, under_yes hc⟩
        refine GoodAll.cons ?_ ?_
        · intro r wx hR hx
          obtain ⟨h1, _⟩ := hx
          replace h1 : Under ((!((rgb_4 c s)))) (.slice s.mA s.mN s.mC) wx (r (.tmp 74)) := h1
          intro gb hgb
          refine guard_u (C := (!((rgb_4 c s)))) (b := (rgb_4 c s)) (want := false) hgb (want_f _) (fun hc => ?_) (fun hc => under_no hc)
          replace h1 := h1.get hc
          exact give_of (by simp [execOp, h1, go_sem]) ⟨Ext.refl _, under_yes hc⟩
        refine GoodAll.cons ?_ ?_
        · intro r wx hR hx
          obtain ⟨h1, h2, _⟩ := hx
          replace h1 : Under ((!((rgb_4 c s)))) (.int .i64 (s.mN : Int)) wx (r (.tmp 75)) := h1
          replace h2 : r (.const (.int .i64 1)) = .int .i64 1 := h2
          intro gb hgb
          refine guard_u (C := (!((rgb_4 c s)))) (b := (rgb_4 c s)) (want := false) hgb (want_f _) (fun hc => ?_) (fun hc => under_no hc)
          replace h1 := h1.get hc
          exact give_of (by simp [execOp, h1, h2, go_sem]) ⟨Ext.refl _, under_yes hc⟩
        refine GoodAll.cons ?_ ?_
        · intro r wx hR hx
          obtain ⟨h1, h2, h3, _⟩ := hx
          replace h1 : r (.tmp 72) = .bool (rgb_4 c s) := h1
          replace h2 : r (.const (.bool true)) = .bool true := h2
          replace h3 : Under ((!((rgb_4 c s)))) (.bool (decide (((s.mN : Int) : Int) < (1 : Int)))) wx (r (.tmp 76)) := h3
          exact give_or rfl h2 h1 (fun hb => h3.get (by first | (rw [hb]; rfl) | (rw [hc, hb]; rfl))) ⟨Ext.refl _, rfl⟩
        refine GoodAll.cons ?_ ?_
        · intro r wx hR hx
          obtain ⟨h1, _⟩ := hx
          replace h1 : r (.tmp 77) = .bool (rgb_5 c s) := h1
          exact give_move (.inl rfl) ⟨Ext.refl _, h1⟩
        refine GoodAll.cons ?_ ?_
        · intro r wx hR hx
          obtain ⟨h1, _⟩ := hx
          replace h1 : r (.tmp 1) = .pointer (some ⟨w.heap.size, 0, none⟩) := h1
          intro gb hgb
          refine guard_u (C := (!((rgb_5 c s)))) (b := (rgb_5 c s)) (want := false) hgb (want_f _) (fun hc => ?_) (fun hc => under_no hc)
          exact give_of (by simp [execOp, h1, go_sem]) ⟨Ext.refl _, under_yes hc⟩
        refine GoodAll.cons ?_ ?_
        · intro r wx hR hx
          obtain ⟨h1, _⟩ := hx
          replace h1 : Under ((!((rgb_5 c s)))) (.pointer (some ⟨w.heap.size, 10, none⟩)) wx (r (.tmp 79)) := h1
          intro gb hgb
          refine guard_u (C := (!((rgb_5 c s)))) (b := (rgb_5 c s)) (want := false) hgb (want_f _) (fun hc => ?_) (fun hc => under_no hc)
          replace h1 := h1.get hc
          exact give_of (exec_get oneS rfl h1 (kv10 (hbC.ext hR))) ⟨Ext.refl _, under_yes hc⟩
        refine GoodAll.cons ?_ ?_
        · intro r wx hR hx
          obtain ⟨h1, _⟩ := hx
          replace h1 : Under ((!((rgb_5 c s)))) (.slice s.mA s.mN s.mC) wx (r (.tmp 80)) := h1
          intro gb hgb
          refine guard_u (C := (!((rgb_5 c s)))) (b := (rgb_5 c s)) (want := false) hgb (want_f _) (fun hc => ?_) (fun hc => under_no hc)
          replace h1 := h1.get hc
          exact give_of (by simp [execOp, h1, go_sem]) ⟨Ext.refl _, under_yes hc⟩
        refine GoodAll.cons ?_ ?_
        · intro r wx hR hx
          obtain ⟨h1, h2, _⟩ := hx
          replace h1 : Under ((!((rgb_5 c s)))) (.int .i64 (s.mN : Int)) wx (r (.tmp 81)) := h1
          replace h2 : r (.const (.int .i64 64)) = .int .i64 64 := h2
          intro gb hgb
          refine guard_u (C := (!((rgb_5 c s)))) (b := (rgb_5 c s)) (want := false) hgb (want_f _) (fun hc => ?_) (fun hc => under_no hc)
          replace h1 := h1.get hc
          exact give_of (by simp [execOp, h1, h2, go_sem]) ⟨Ext.refl _, under_yes hc⟩
        refine GoodAll.cons ?_ ?_
        · intro r wx hR hx
          obtain ⟨h1, h2, h3, _⟩ := hx
          replace h1 : r (.tmp 78) = .bool (rgb_5 c s) := h1
          replace h2 : r (.const (.bool true)) = .bool true := h2
          replace h3 : Under ((!((rgb_5 c s)))) (.bool (decide (((s.mN : Int) : Int) > (64 : Int)))) wx (r (.tmp 82)) := h3
          exact give_or rfl h2 h1 (fun hb => h3.get (by first | (rw [hb]; rfl) | (rw [hc, hb]; rfl))) ⟨Ext.refl _, rfl⟩
        refine GoodAll.cons ?_ ?_
        · intro r wx hR hx
          obtain ⟨h1, _⟩ := hx
          replace h1 : r (.tmp 83) = .bool (rgb_6 c s) := h1
          exact give_move (.inl rfl) ⟨Ext.refl _, h1⟩
        refine GoodAll.cons ?_ ?_
        · intro r wx hR hx
          obtain ⟨h1, _⟩ := hx
          replace h1 : r (.tmp 1) = .pointer (some ⟨w.heap.size, 0, none⟩) := h1
          intro gb hgb
          refine guard_u (C := (!((rgb_6 c s)))) (b := (rgb_6 c s)) (want := false) hgb (want_f _) (fun hc => ?_) (fun hc => under_no hc)
          exact give_of (by simp [execOp, h1, go_sem]) ⟨Ext.refl _, under_yes hc⟩
        refine GoodAll.cons ?_ ?_
        · intro r wx hR hx
          obtain ⟨h1, _⟩ := hx
          replace h1 : Under ((!((rgb_6 c s)))) (.pointer (some ⟨w.heap.size, 11, none⟩)) wx (r (.tmp 85)) := h1
          intro gb hgb
          refine guard_u (C := (!((rgb_6 c s)))) (b := (rgb_6 c s)) (want := false) hgb (want_f _) (fun hc => ?_) (fun hc => under_no hc)
          replace h1 := h1.get hc
          exact give_of (exec_get oneS rfl h1 (kv11 (hbC.ext hR))) ⟨Ext.refl _, under_yes hc⟩
        refine GoodAll.cons ?_ ?_
        · intro r wx hR hx
          obtain ⟨h1, _⟩ := hx
          replace h1 : Under ((!((rgb_6 c s)))) (.slice s.pA s.pN s.pC) wx (r (.tmp 86)) := h1
          intro gb hgb
          refine guard_u (C := (!((rgb_6 c s)))) (b := (rgb_6 c s)) (want := false) hgb (want_f _) (fun hc => ?_) (fun hc => under_no hc)
          replace h1 := h1.get hc
          exact give_of (by simp [execOp, h1, go_sem]) ⟨Ext.refl _, under_yes hc⟩
        refine GoodAll.cons ?_ ?_
        · intro r wx hR hx
          obtain ⟨h1, h2, _⟩ := hx
          replace h1 : Under ((!((rgb_6 c s)))) (.int .i64 (s.pN : Int)) wx (r (.tmp 87)) := h1
          replace h2 : r (.const (.int .i64 1)) = .int .i64 1 := h2
          intro gb hgb
          refine guard_u (C := (!((rgb_6 c s)))) (b := (rgb_6 c s)) (want := false) hgb (want_f _) (fun hc => ?_) (fun hc => under_no hc)
          replace h1 := h1.get hc
          exact give_of (by simp [execOp, h1, h2, go_sem]) ⟨Ext.refl _, under_yes hc⟩
        refine GoodAll.cons ?_ ?_
        · intro r wx hR hx
          obtain ⟨h1, h2, h3, _⟩ := hx
          replace h1 : r (.tmp 84) = .bool (rgb_6 c s) := h1
          replace h2 : r (.const (.bool true)) = .bool true := h2
          replace h3 : Under ((!((rgb_6 c s)))) (.bool (decide (((s.pN : Int) : Int) < (1 : Int)))) wx (r (.tmp 88)) := h3
          exact give_or rfl h2 h1 (fun hb => h3.get (by first | (rw [hb]; rfl) | (rw [hc, hb]; rfl))) ⟨Ext.refl _, rfl⟩
        refine GoodAll.cons ?_ ?_
        · intro r wx hR hx
          obtain ⟨h1, _⟩ := hx
          replace h1 : r (.tmp 89) = .bool (rgb_7 c s) := h1
          exact give_move (.inl rfl) ⟨Ext.refl _, h1⟩
        refine GoodAll.cons ?_ ?_
        · intro r wx hR hx
          obtain ⟨h1, _⟩ := hx
          replace h1 : r (.tmp 1) = .pointer (some ⟨w.heap.size, 0, none⟩) := h1
          intro gb hgb
          refine guard_u (C := (!((rgb_7 c s)))) (b := (rgb_7 c s)) (want := false) hgb (want_f _) (fun hc => ?_) (fun hc => under_no hc)
          exact give_of (by simp [execOp, h1, go_sem]) ⟨Ext.refl _, under_yes hc⟩
        refine GoodAll.cons ?_ ?_
        · intro r wx hR hx
          obtain ⟨h1, _⟩ := hx
          replace h1 : Under ((!((rgb_7 c s)))) (.pointer (some ⟨w.heap.size, 11, none⟩)) wx (r (.tmp 91)) := h1
          intro gb hgb
          refine guard_u (C := (!((rgb_7 c s)))) (b := (rgb_7 c s)) (want := false) hgb (want_f _) (fun hc => ?_) (fun hc => under_no hc)
          replace h1 := h1.get hc
          exact give_of (exec_get oneS rfl h1 (kv11 (hbC.ext hR))) ⟨Ext.refl _, under_yes hc⟩
        refine GoodAll.cons ?_ ?_
        · intro r wx hR hx
          obtain ⟨h1, _⟩ := hx
          replace h1 : Under ((!((rgb_7 c s)))) (.slice s.pA s.pN s.pC) wx (r (.tmp 92)) := h1
          intro gb hgb
          refine guard_u (C := (!((rgb_7 c s)))) (b := (rgb_7 c s)) (want := false) hgb (want_f _) (fun hc => ?_) (fun hc => under_no hc)
          replace h1 := h1.get hc
          exact give_of (by simp [execOp, h1, go_sem]) ⟨Ext.refl _, under_yes hc⟩
        refine GoodAll.cons ?_ ?_
        · intro r wx hR hx
          obtain ⟨h1, h2, _⟩ := hx
          replace h1 : Under ((!((rgb_7 c s)))) (.int .i64 (s.pN : Int)) wx (r (.tmp 93)) := h1
          replace h2 : r (.const (.int .i64 64)) = .int .i64 64 := h2
          intro gb hgb
          refine guard_u (C := (!((rgb_7 c s)))) (b := (rgb_7 c s)) (want := false) hgb (want_f _) (fun hc => ?_) (fun hc => under_no hc)
          replace h1 := h1.get hc
          exact give_of (by simp [execOp, h1, h2, go_sem]) ⟨Ext.refl _, under_yes hc⟩
        refine GoodAll.cons ?_ ?_
        · intro r wx hR hx
          obtain ⟨h1, h2, h3, _⟩ := hx
          replace h1 : r (.tmp 90) = .bool (rgb_7 c s) := h1
          replace h2 : r (.const (.bool true)) = .bool true := h2
          replace h3 : Under ((!((rgb_7 c s)))) (.bool (decide (((s.pN : Int) : Int) > (64 : Int)))) wx (r (.tmp 94)) := h3
          exact give_or rfl h2 h1 (fun hb => h3.get (by first | (rw [hb]; rfl) | (rw [hc, hb]; rfl))) ⟨Ext.refl _, rfl⟩
        exact GoodAll.nil
      · intro vs' w4 a4 hR4 hold4 ha4
        have hv4 : vs' 53 = .bool (badL c) := by
          have := hold4.at 53
          have e : (Is (.bool (((((((((((decide ((c.out : Int) < (1 : Int))) || ((decide ((c.out : Int) > (8 : Int))))) || ((decide ((c.inn : Int) < (1 : Int))))) || ((decide ((c.inn : Int) > (8 : Int))))) || ((decide (((s.aN : Int) : Int) < (1 : Int))))) || ((decide (((s.aN : Int) : Int) > (4 : Int))))) || ((decide (((s.mN : Int) : Int) < (1 : Int))))) || ((decide (((s.mN : Int) : Int) > (64 : Int))))) || ((decide (((s.pN : Int) : Int) < (1 : Int))))) || ((decide (((s.pN : Int) : Int) > (64 : Int))))))) : Fact) w4 (vs' 53) := this
          rw [show vs' 53 = _ from e]
          unfold badL
          rw [HNs.out.1, HNs.out.2.1, HNs.out.2.2]
        clear hold4
        simp only [putAll, Act.put, hv4, List.setIfInBounds_toArray, List.set_cons_succ, List.set_cons_zero] at ha4
        subst ha4
        refine HK5.go _ _ ?_
        have HE4 : Hid (Ext w w4) := HEC.out.trans hR4
        have HB4 : Hid (Blk w4 w.heap.size (KV c s) 26) := hbC.ext hR4
        cases hdl : badL c with
        | true =>
          go_wp2
          go_ret
          exact ⟨by rw [HG, hdn, hdl]; rfl, HE4.out⟩
        | false =>
          go_wp2_with fail
          refine HK4.go _ _ ?_
          clear HK4 HK5
          have HG2 : Hid (goodK c = adsB c.addrs) := show _ = _ by rw [HG, hdn, hdl]; rfl
          have HAt : Hid (CoAt w4 s c) := ha.ext HE4.out
          clear HG hdn hdl hv hv4 hbC hb1 HE HEC ha
          obtain ⟨aA, n, aC, mA, mN, mC, pA, pN, pC⟩ := s
          have hn : n = c.addrs.length := HNs.out.1
          have HN : Hid (n = c.addrs.length) := hn
          rw [← hn] at hmx
          clear hn HNs
          go_wp2
          go_loopg [3] n (fun gm t wr => ∃ k : Nat, k ≤ n ∧ gm = n - k ∧ t = .int .i64 (k : Int) ∧ Hid (Ext w4 wr ∧ ∀ j, j < k → adB (c.addrs.getD j 0) = true))
          case atStart => exact ⟨0, Nat.zero_le _, rfl, rfl, Ext.refl _, fun j hj => by omega⟩
          case round =>
            obtain ⟨k, hk, rfl, rfl, HR⟩ := hrel
            have x1 := kv9 (HB4.out.ext HR.out.1)
            dsimp only at x1
            by_cases hlt : k < n
            · have hd2 : decide ((k : Int) < (n : Int)) = true := decide_eq_true (by omega)
              have hkn : (k : Int) < (n : Int) := by omega
              have hwk : IntKind.i64.wrap ((k : Int) + 1) = (k : Int) + 1 := by rw [IntKind.wrap_i64]; omega
              have HKL : Hid (k < c.addrs.length) := by rw [← HN.out]; exact hlt
              obtain ⟨b, off, rfl, hc⟩ := HAt.out.a.cellAt k HKL.out
              replace hc := HR.out.1.cell hc
              obtain ⟨x, hx⟩ : ∃ x, x = c.addrs.getD k 0 := ⟨_, rfl⟩
              rw [← hx] at hc
              have HX : Hid (x = c.addrs.getD k 0) := hx
              clear hx
              by_cases h1 : x < 1
              · have d1 : decide (x < 1) = true := decide_eq_true h1
                have HF : Hid (adsB c.addrs = false) := not_all_at 0 HKL.out (by rw [← HX.out]; unfold adB inB; rw [decide_eq_false (by omega)]; rfl)
                go_wp2
                go_ret
                exact ⟨by rw [HG2.out, HF.out]; rfl, HE4.out.trans HR.out.1⟩
              · have d1 : decide (x < 1) = false := decide_eq_false h1
                by_cases h2 : x > 2147483647
                · have d2 : decide (x > 2147483647) = true := decide_eq_true h2
                  have d3 : decide (2147483647 < x) = true := decide_eq_true h2
                  have HF : Hid (adsB c.addrs = false) := not_all_at 0 HKL.out (by rw [← HX.out]; unfold adB inB; rw [decide_eq_false (p := x ≤ 2147483647) (by omega), Bool.and_false])
                  go_wp2
                  go_ret
                  exact ⟨by rw [HG2.out, HF.out]; rfl, HE4.out.trans HR.out.1⟩
                · have d2 : decide (x > 2147483647) = false := decide_eq_false h2
                  have d3 : decide (2147483647 < x) = false := decide_eq_false h2
                  have HT : Hid (adB (c.addrs.getD k 0) = true) := show _ = _ by rw [← HX.out]; unfold adB; rw [inB_iff]; omega
                  go_wp2
                  go_roundg (n - (k + 1))
                  case measure => omega
                  case rel =>
                    refine ⟨k + 1, by omega, rfl, by simp, HR.out.1, fun j hj => ?_⟩
                    by_cases hjk : j = k
                    · subst hjk; exact HT.out
                    · exact HR.out.2 j (by omega)
            · have hd2 : decide ((k : Int) < (n : Int)) = false := decide_eq_false (by omega)
              have HF : Hid (adsB c.addrs = true) := all_at 0 (fun j hj => HR.out.2 j (by have := HN.out; omega))
              go_wp2
              go_ret
              exact ⟨by rw [HG2.out, HF.out]; rfl, HE4.out.trans HR.out.1⟩
end Tlv
end Go.Proofs.YtfhoielfekeihaaDoor
