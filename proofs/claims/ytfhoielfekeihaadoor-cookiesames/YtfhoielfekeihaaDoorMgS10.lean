/- Texts of the seat, one behind the other. No condition of its own. -/
import Derived.Test.YtfhoielfekeihaaDoorMgS9
/- Cookies that are the same, by the document. No condition of its own. -/
namespace Go.Proofs.YtfhoielfekeihaaDoor
namespace Tlv
open Go Go.RowKit
set_option linter.unusedVariables false
set_option linter.unusedSimpArgs false
set_option maxRecDepth 100000


theorem exec_eqlS {r : Operand → Value} {o : Oper} {x y : Operand} {tt : TypeId} {w : World} {l m : List Nat} (ho : o.op = .binOp .eql 9 x y tt) (hx : r x = .string (strOf l)) (hy : r y = .string (strOf m)) (hl : ∀ x ∈ l, x < 256) (hm : ∀ x ∈ m, x < 256) :
    (execOp r o).run Tryd.prog w = .ok (.value (.bool (decide (l = m)))) w := by
  have := strOf_beq l m hl hm
  simp [execOp, ho, hx, hy, go_sem, this]
def chainD (c d : Co) : Bool := ((((((((((((((c.made : Int) == (d.made : Int)) && (((c.life : Int) == (d.life : Int)))) && ((((c.mine : Int) : Int) == ((d.mine : Int) : Int)))) && ((((c.peers : Int) : Int) == ((d.peers : Int) : Int)))) && ((((c.mtsn : Int) : Int) == ((d.mtsn : Int) : Int)))) && ((((c.ptsn : Int) : Int) == ((d.ptsn : Int) : Int)))) && (((c.win : Int) == (d.win : Int)))) && (((c.out : Int) == (d.out : Int)))) && (((c.inn : Int) == (d.inn : Int)))) && ((((c.tm : Int) : Int) == ((d.tm : Int) : Int)))) && ((((c.tp : Int) : Int) == ((d.tp : Int) : Int)))) && ((decide (c.mr = d.mr)))) && ((decide (c.pr = d.pr))))
def sameD (c d : Co) : Bool := decide (c.addrs = d.addrs) && chainD c d
theorem sameD_eq (c d : Co) : sameD c d = sameK c d := by
  rw [Bool.eq_iff_iff, sameK_iff]
  unfold sameD chainD
  constructor
  · intro h
    simp only [Bool.and_eq_true, beq_iff_eq, decide_eq_true_eq, Int.ofNat_inj, Int.natCast_inj] at h
    cases c; cases d
    simp only at h
    simp only [Co.mk.injEq]
    refine ⟨?_, ?_, ?_, ?_, ?_, ?_, ?_, ?_, ?_, ?_, ?_, ?_, ?_, ?_⟩ <;> simp [h]
  · rintro rfl
    simp
set_option maxHeartbeats 8000000 in
theorem refSame_any {w : World} {c d : Co} {s u : So} (ha : CoAt w s c) (hb : CoAt w u d) :
    Calls Tryd.prog 13 #[.agg (KV c s), .agg (KV d u)] w fun e w' => e = .returned (.bool (sameD c d)) ∧ Ext w w' := by
  obtain ⟨aA, n, aC, mA, mN, mC, pA, pN, pC⟩ := s
  obtain ⟨aA', n', aC', mA', mN', mC', pA', pN', pC'⟩ := u
  have HN : Hid (n = c.addrs.length ∧ n' = d.addrs.length) := ⟨(nums_len ha.a).1, (nums_len hb.a).1⟩
  have hmx := (nums_len ha.a).2
  dsimp only at hmx
  unfold maxLen at hmx
  by_cases hn : n = n'
  case neg =>
    have hd : ((n : Int) != (n' : Int)) = true := by simp; omega
    have HF : Hid (sameD c d = false) := show _ = _ by unfold sameD; rw [decide_eq_false (fun e => hn (by rw [HN.out.1, HN.out.2, e]))]; rfl
    go_enter Tryd.func13, Tryd.ntmps13
    go_wp2_with (first
      | (have q := he1; clear q; refine wl_box (C := KV d _) rfl rfl rfl ?_; intro w2 hb2 he2 hx; clear hx; have x1 := kv9 (hb1.ext he2); have x2 := kv9 hb2; dsimp only at x1 x2)
      | (refine wl_box (C := KV c _) rfl rfl rfl ?_; intro w1 hb1 he1 hx; clear hx))
    go_ret
    exact ⟨by rw [HF.out]; rfl, he1.trans he2⟩
  subst hn
  have hd : ((n : Int) != (n : Int)) = false := by simp
  go_enter Tryd.func13, Tryd.ntmps13
  refine wp_seq_k (fun K hK => ?_)
  have HK := Stop.mk hK
  clear hK
  go_wp2_with (first
    | (have q := he1; clear q; refine wl_box (C := KV d ⟨aA', n, aC', mA', mN', mC', pA', pN', pC'⟩) rfl rfl rfl ?_; intro w2 hb2 he2 hx; clear hx; have hb1' := hb1.ext he2)
    | (refine wl_box (C := KV c ⟨aA, n, aC, mA, mN, mC, pA, pN, pC⟩) rfl rfl rfl ?_; intro w1 hb1 he1 hx; clear hx))
  refine HK.go _ _ ?_
  clear HK
  have HB : Hid (Blk w2 w.heap.size (KV c ⟨aA, n, aC, mA, mN, mC, pA, pN, pC⟩) 26 ∧ Blk w2 w1.heap.size (KV d ⟨aA', n, aC', mA', mN', mC', pA', pN', pC'⟩) 26 ∧ Ext w w2) := ⟨hb1', hb2, he1.trans he2⟩
  clear hb1 he1 hb2 he2 hb1'
  have HC : Hid (CoAt w2 ⟨aA, n, aC, mA, mN, mC, pA, pN, pC⟩ c ∧ CoAt w2 ⟨aA', n, aC', mA', mN', mC', pA', pN', pC'⟩ d) := ⟨ha.ext HB.out.2.2, hb.ext HB.out.2.2⟩
  clear ha hb
  refine wp_seq_k (fun K2 hK2 => ?_)
  have HK2 := Stop.mk hK2
  clear hK2
  have x1 := kv9 HB.out.1
  have x2 := kv9 HB.out.2.1
  dsimp only at x1 x2
  go_wp2
  refine HK2.go _ _ ?_
  clear HK2
  refine wp_seq_k (fun K3 hK3 => ?_)
  have HK3 := Stop.mk hK3
  clear hK3 x1 x2
  go_wp2
  go_loopg [5] n (fun gm t wr => ∃ k : Nat, k ≤ n ∧ gm = n - k ∧ t = .int .i64 (k : Int) ∧ Hid (Ext w2 wr ∧ ∀ j, j < k → c.addrs.getD j 0 = d.addrs.getD j 0))
  case atStart => exact ⟨0, Nat.zero_le _, rfl, rfl, Ext.refl _, fun j hj => by omega⟩
  case round =>
    obtain ⟨k, hk, rfl, rfl, HR⟩ := hrel
    have x1 := kv9 (HB.out.1.ext HR.out.1)
    have x2 := kv9 (HB.out.2.1.ext HR.out.1)
    dsimp only at x1 x2
    by_cases hlt : k < n
    · have hd2 : decide ((k : Int) < (n : Int)) = true := decide_eq_true (by omega)
      have hkn : (k : Int) < (n : Int) := by omega
      have hwk : IntKind.i64.wrap ((k : Int) + 1) = (k : Int) + 1 := by rw [IntKind.wrap_i64]; omega
      obtain ⟨b, off, rfl, hc⟩ := HC.out.1.a.cellAt k (by rw [← HN.out.1]; exact hlt)
      obtain ⟨b', off', rfl, hc'⟩ := HC.out.2.a.cellAt k (by rw [← HN.out.2]; exact hlt)
      replace hc := HR.out.1.cell hc
      replace hc' := HR.out.1.cell hc'
      obtain ⟨x, hx⟩ : ∃ x, x = c.addrs.getD k 0 := ⟨_, rfl⟩
      obtain ⟨y, hy⟩ : ∃ y, y = d.addrs.getD k 0 := ⟨_, rfl⟩
      rw [← hx] at hc
      rw [← hy] at hc'
      have HX : Hid (x = c.addrs.getD k 0 ∧ y = d.addrs.getD k 0) := ⟨hx, hy⟩
      clear hx hy
      by_cases hxy : x = y
      · subst hxy
        have HX2 : Hid (c.addrs.getD k 0 = d.addrs.getD k 0) := HX.out.1.symm.trans HX.out.2
        clear HX
        go_wp2_with fail
        go_quiet (fail)
        go_wp2
        go_roundg (n - (k + 1))
        case measure => omega
        case rel =>
          refine ⟨k + 1, by omega, rfl, by simp, HR.out.1.trans (Ext.drewN _ _), fun j hj => ?_⟩
          by_cases hjk : j = k
          · subst hjk; exact HX2.out
          · exact HR.out.2 j (by omega)
      · have hd2 : (x != y) = true := by simpa using hxy
        have hd3 : (x == y) = false := by simpa using hxy
        have hd4 : decide (x = y) = false := by simpa using hxy
        have HF : Hid (sameD c d = false) := show _ = _ by unfold sameD; rw [decide_eq_false (fun e => hxy (by rw [HX.out.1, HX.out.2, e]))]; rfl
        clear HX
        go_wp2_with fail
        go_quiet (fail)
        go_wp2
        go_ret
        exact ⟨by rw [HF.out]; rfl, HB.out.2.2.trans (HR.out.1.trans (Ext.drewN _ _))⟩
    · have hd2 : decide ((k : Int) < (n : Int)) = false := decide_eq_false (by omega)
      have HF : Hid (sameD c d = chainD c d) := show _ = _ by unfold sameD; rw [decide_eq_true (list_same 0 (by rw [← HN.out.1, ← HN.out.2]) (fun j hj => HR.out.2 j (by have := HN.out.1; omega)))]; rfl
      go_wp2
      refine HK3.go _ _ ?_
      clear HK3 x1 x2
      rw [HF.out]
      unfold chainD
      obtain ⟨s, hs⟩ : ∃ s : So, s = ⟨aA, n, aC, mA, mN, mC, pA, pN, pC⟩ := ⟨_, rfl⟩
      obtain ⟨u, hu⟩ : ∃ u : So, u = ⟨aA', n, aC', mA', mN', mC', pA', pN', pC'⟩ := ⟨_, rfl⟩
      have hB1 : Blk wr w.heap.size (KV c s) 26 := by rw [hs]; exact HB.out.1.ext HR.out.1
      have hB2 : Blk wr w1.heap.size (KV d u) 26 := by rw [hu]; exact HB.out.2.1.ext HR.out.1
      have HA : CoAt wr s c := by rw [hs]; exact HC.out.1.ext HR.out.1
      have HB' : CoAt wr u d := by rw [hu]; exact HC.out.2.ext HR.out.1
      have HEE : Hid (Ext w wr) := HB.out.2.2.trans HR.out.1
      clear HB hs hu HC HF
      rename CoAt wr u d => HB
      refine wp_seq_k (fun K4 hK4 => ?_)
      refine wp_line (fun t => bif Nat.ble 31 t && Nat.ble t 123 then some (t - 31) else bif Nat.beq t 4 then some 93 else none) 124 Ext
        [Is (.pointer (some ⟨w.heap.size, 0, none⟩)),
         Is (.int .i64 c.made),
         Is (.pointer (some ⟨w1.heap.size, 0, none⟩)),
         Is (.int .i64 d.made),
         Is (.bool ((c.made : Int) == (d.made : Int))),
         Is (.bool ((c.made : Int) == (d.made : Int))),
         Under ((((c.made : Int) == (d.made : Int)))) (.pointer (some ⟨w.heap.size, 1, none⟩)),
         Under ((((c.made : Int) == (d.made : Int)))) (.int .i64 c.life),
         Under ((((c.made : Int) == (d.made : Int)))) (.pointer (some ⟨w1.heap.size, 1, none⟩)),
         Under ((((c.made : Int) == (d.made : Int)))) (.int .i64 d.life),
         Under ((((c.made : Int) == (d.made : Int)))) (.bool ((c.life : Int) == (d.life : Int))),
         Is (.bool (((c.made : Int) == (d.made : Int)) && (((c.life : Int) == (d.life : Int))))),
         Is (.bool (((c.made : Int) == (d.made : Int)) && (((c.life : Int) == (d.life : Int))))),
         Under (((((c.made : Int) == (d.made : Int)) && (((c.life : Int) == (d.life : Int)))))) (.pointer (some ⟨w.heap.size, 2, none⟩)),
         Under (((((c.made : Int) == (d.made : Int)) && (((c.life : Int) == (d.life : Int)))))) (.int .u32 (c.mine : Int)),
         Under (((((c.made : Int) == (d.made : Int)) && (((c.life : Int) == (d.life : Int)))))) (.pointer (some ⟨w1.heap.size, 2, none⟩)),
         Under (((((c.made : Int) == (d.made : Int)) && (((c.life : Int) == (d.life : Int)))))) (.int .u32 (d.mine : Int)),
         Under (((((c.made : Int) == (d.made : Int)) && (((c.life : Int) == (d.life : Int)))))) (.bool (((c.mine : Int) : Int) == ((d.mine : Int) : Int))),
         Is (.bool ((((c.made : Int) == (d.made : Int)) && (((c.life : Int) == (d.life : Int)))) && ((((c.mine : Int) : Int) == ((d.mine : Int) : Int))))),
         Is (.bool ((((c.made : Int) == (d.made : Int)) && (((c.life : Int) == (d.life : Int)))) && ((((c.mine : Int) : Int) == ((d.mine : Int) : Int))))),
         Under ((((((c.made : Int) == (d.made : Int)) && (((c.life : Int) == (d.life : Int)))) && ((((c.mine : Int) : Int) == ((d.mine : Int) : Int)))))) (.pointer (some ⟨w.heap.size, 3, none⟩)),
         Under ((((((c.made : Int) == (d.made : Int)) && (((c.life : Int) == (d.life : Int)))) && ((((c.mine : Int) : Int) == ((d.mine : Int) : Int)))))) (.int .u32 (c.peers : Int)),
         Under ((((((c.made : Int) == (d.made : Int)) && (((c.life : Int) == (d.life : Int)))) && ((((c.mine : Int) : Int) == ((d.mine : Int) : Int)))))) (.pointer (some ⟨w1.heap.size, 3, none⟩)),
         Under ((((((c.made : Int) == (d.made : Int)) && (((c.life : Int) == (d.life : Int)))) && ((((c.mine : Int) : Int) == ((d.mine : Int) : Int)))))) (.int .u32 (d.peers : Int)),
         Under ((((((c.made : Int) == (d.made : Int)) && (((c.life : Int) == (d.life : Int)))) && ((((c.mine : Int) : Int) == ((d.mine : Int) : Int)))))) (.bool (((c.peers : Int) : Int) == ((d.peers : Int) : Int))),
         Is (.bool (((((c.made : Int) == (d.made : Int)) && (((c.life : Int) == (d.life : Int)))) && ((((c.mine : Int) : Int) == ((d.mine : Int) : Int)))) && ((((c.peers : Int) : Int) == ((d.peers : Int) : Int))))),
         Is (.bool (((((c.made : Int) == (d.made : Int)) && (((c.life : Int) == (d.life : Int)))) && ((((c.mine : Int) : Int) == ((d.mine : Int) : Int)))) && ((((c.peers : Int) : Int) == ((d.peers : Int) : Int))))),
         Under (((((((c.made : Int) == (d.made : Int)) && (((c.life : Int) == (d.life : Int)))) && ((((c.mine : Int) : Int) == ((d.mine : Int) : Int)))) && ((((c.peers : Int) : Int) == ((d.peers : Int) : Int)))))) (.pointer (some ⟨w.heap.size, 4, none⟩)),
         Under (((((((c.made : Int) == (d.made : Int)) && (((c.life : Int) == (d.life : Int)))) && ((((c.mine : Int) : Int) == ((d.mine : Int) : Int)))) && ((((c.peers : Int) : Int) == ((d.peers : Int) : Int)))))) (.int .u32 (c.mtsn : Int)),
         Under (((((((c.made : Int) == (d.made : Int)) && (((c.life : Int) == (d.life : Int)))) && ((((c.mine : Int) : Int) == ((d.mine : Int) : Int)))) && ((((c.peers : Int) : Int) == ((d.peers : Int) : Int)))))) (.pointer (some ⟨w1.heap.size, 4, none⟩)),
         Under (((((((c.made : Int) == (d.made : Int)) && (((c.life : Int) == (d.life : Int)))) && ((((c.mine : Int) : Int) == ((d.mine : Int) : Int)))) && ((((c.peers : Int) : Int) == ((d.peers : Int) : Int)))))) (.int .u32 (d.mtsn : Int)),
         Under (((((((c.made : Int) == (d.made : Int)) && (((c.life : Int) == (d.life : Int)))) && ((((c.mine : Int) : Int) == ((d.mine : Int) : Int)))) && ((((c.peers : Int) : Int) == ((d.peers : Int) : Int)))))) (.bool (((c.mtsn : Int) : Int) == ((d.mtsn : Int) : Int))),
         Is (.bool ((((((c.made : Int) == (d.made : Int)) && (((c.life : Int) == (d.life : Int)))) && ((((c.mine : Int) : Int) == ((d.mine : Int) : Int)))) && ((((c.peers : Int) : Int) == ((d.peers : Int) : Int)))) && ((((c.mtsn : Int) : Int) == ((d.mtsn : Int) : Int))))),
         Is (.bool ((((((c.made : Int) == (d.made : Int)) && (((c.life : Int) == (d.life : Int)))) && ((((c.mine : Int) : Int) == ((d.mine : Int) : Int)))) && ((((c.peers : Int) : Int) == ((d.peers : Int) : Int)))) && ((((c.mtsn : Int) : Int) == ((d.mtsn : Int) : Int))))),
         Under ((((((((c.made : Int) == (d.made : Int)) && (((c.life : Int) == (d.life : Int)))) && ((((c.mine : Int) : Int) == ((d.mine : Int) : Int)))) && ((((c.peers : Int) : Int) == ((d.peers : Int) : Int)))) && ((((c.mtsn : Int) : Int) == ((d.mtsn : Int) : Int)))))) (.pointer (some ⟨w.heap.size, 5, none⟩)),
         Under ((((((((c.made : Int) == (d.made : Int)) && (((c.life : Int) == (d.life : Int)))) && ((((c.mine : Int) : Int) == ((d.mine : Int) : Int)))) && ((((c.peers : Int) : Int) == ((d.peers : Int) : Int)))) && ((((c.mtsn : Int) : Int) == ((d.mtsn : Int) : Int)))))) (.int .u32 (c.ptsn : Int)),
         Under ((((((((c.made : Int) == (d.made : Int)) && (((c.life : Int) == (d.life : Int)))) && ((((c.mine : Int) : Int) == ((d.mine : Int) : Int)))) && ((((c.peers : Int) : Int) == ((d.peers : Int) : Int)))) && ((((c.mtsn : Int) : Int) == ((d.mtsn : Int) : Int)))))) (.pointer (some ⟨w1.heap.size, 5, none⟩)),
         Under ((((((((c.made : Int) == (d.made : Int)) && (((c.life : Int) == (d.life : Int)))) && ((((c.mine : Int) : Int) == ((d.mine : Int) : Int)))) && ((((c.peers : Int) : Int) == ((d.peers : Int) : Int)))) && ((((c.mtsn : Int) : Int) == ((d.mtsn : Int) : Int)))))) (.int .u32 (d.ptsn : Int)),
         Under ((((((((c.made : Int) == (d.made : Int)) && (((c.life : Int) == (d.life : Int)))) && ((((c.mine : Int) : Int) == ((d.mine : Int) : Int)))) && ((((c.peers : Int) : Int) == ((d.peers : Int) : Int)))) && ((((c.mtsn : Int) : Int) == ((d.mtsn : Int) : Int)))))) (.bool (((c.ptsn : Int) : Int) == ((d.ptsn : Int) : Int))),
         Is (.bool (((((((c.made : Int) == (d.made : Int)) && (((c.life : Int) == (d.life : Int)))) && ((((c.mine : Int) : Int) == ((d.mine : Int) : Int)))) && ((((c.peers : Int) : Int) == ((d.peers : Int) : Int)))) && ((((c.mtsn : Int) : Int) == ((d.mtsn : Int) : Int)))) && ((((c.ptsn : Int) : Int) == ((d.ptsn : Int) : Int))))),
         Is (.bool (((((((c.made : Int) == (d.made : Int)) && (((c.life : Int) == (d.life : Int)))) && ((((c.mine : Int) : Int) == ((d.mine : Int) : Int)))) && ((((c.peers : Int) : Int) == ((d.peers : Int) : Int)))) && ((((c.mtsn : Int) : Int) == ((d.mtsn : Int) : Int)))) && ((((c.ptsn : Int) : Int) == ((d.ptsn : Int) : Int))))),
         Under (((((((((c.made : Int) == (d.made : Int)) && (((c.life : Int) == (d.life : Int)))) && ((((c.mine : Int) : Int) == ((d.mine : Int) : Int)))) && ((((c.peers : Int) : Int) == ((d.peers : Int) : Int)))) && ((((c.mtsn : Int) : Int) == ((d.mtsn : Int) : Int)))) && ((((c.ptsn : Int) : Int) == ((d.ptsn : Int) : Int)))))) (.pointer (some ⟨w.heap.size, 6, none⟩)),
         Under (((((((((c.made : Int) == (d.made : Int)) && (((c.life : Int) == (d.life : Int)))) && ((((c.mine : Int) : Int) == ((d.mine : Int) : Int)))) && ((((c.peers : Int) : Int) == ((d.peers : Int) : Int)))) && ((((c.mtsn : Int) : Int) == ((d.mtsn : Int) : Int)))) && ((((c.ptsn : Int) : Int) == ((d.ptsn : Int) : Int)))))) (.int .i64 c.win),
         Under (((((((((c.made : Int) == (d.made : Int)) && (((c.life : Int) == (d.life : Int)))) && ((((c.mine : Int) : Int) == ((d.mine : Int) : Int)))) && ((((c.peers : Int) : Int) == ((d.peers : Int) : Int)))) && ((((c.mtsn : Int) : Int) == ((d.mtsn : Int) : Int)))) && ((((c.ptsn : Int) : Int) == ((d.ptsn : Int) : Int)))))) (.pointer (some ⟨w1.heap.size, 6, none⟩)),
         Under (((((((((c.made : Int) == (d.made : Int)) && (((c.life : Int) == (d.life : Int)))) && ((((c.mine : Int) : Int) == ((d.mine : Int) : Int)))) && ((((c.peers : Int) : Int) == ((d.peers : Int) : Int)))) && ((((c.mtsn : Int) : Int) == ((d.mtsn : Int) : Int)))) && ((((c.ptsn : Int) : Int) == ((d.ptsn : Int) : Int)))))) (.int .i64 d.win),
         Under (((((((((c.made : Int) == (d.made : Int)) && (((c.life : Int) == (d.life : Int)))) && ((((c.mine : Int) : Int) == ((d.mine : Int) : Int)))) && ((((c.peers : Int) : Int) == ((d.peers : Int) : Int)))) && ((((c.mtsn : Int) : Int) == ((d.mtsn : Int) : Int)))) && ((((c.ptsn : Int) : Int) == ((d.ptsn : Int) : Int)))))) (.bool ((c.win : Int) == (d.win : Int))),
         Is (.bool ((((((((c.made : Int) == (d.made : Int)) && (((c.life : Int) == (d.life : Int)))) && ((((c.mine : Int) : Int) == ((d.mine : Int) : Int)))) && ((((c.peers : Int) : Int) == ((d.peers : Int) : Int)))) && ((((c.mtsn : Int) : Int) == ((d.mtsn : Int) : Int)))) && ((((c.ptsn : Int) : Int) == ((d.ptsn : Int) : Int)))) && (((c.win : Int) == (d.win : Int))))),
         Is (.bool ((((((((c.made : Int) == (d.made : Int)) && (((c.life : Int) == (d.life : Int)))) && ((((c.mine : Int) : Int) == ((d.mine : Int) : Int)))) && ((((c.peers : Int) : Int) == ((d.peers : Int) : Int)))) && ((((c.mtsn : Int) : Int) == ((d.mtsn : Int) : Int)))) && ((((c.ptsn : Int) : Int) == ((d.ptsn : Int) : Int)))) && (((c.win : Int) == (d.win : Int))))),
         Under ((((((((((c.made : Int) == (d.made : Int)) && (((c.life : Int) == (d.life : Int)))) && ((((c.mine : Int) : Int) == ((d.mine : Int) : Int)))) && ((((c.peers : Int) : Int) == ((d.peers : Int) : Int)))) && ((((c.mtsn : Int) : Int) == ((d.mtsn : Int) : Int)))) && ((((c.ptsn : Int) : Int) == ((d.ptsn : Int) : Int)))) && (((c.win : Int) == (d.win : Int)))))) (.pointer (some ⟨w.heap.size, 7, none⟩)),
         Under ((((((((((c.made : Int) == (d.made : Int)) && (((c.life : Int) == (d.life : Int)))) && ((((c.mine : Int) : Int) == ((d.mine : Int) : Int)))) && ((((c.peers : Int) : Int) == ((d.peers : Int) : Int)))) && ((((c.mtsn : Int) : Int) == ((d.mtsn : Int) : Int)))) && ((((c.ptsn : Int) : Int) == ((d.ptsn : Int) : Int)))) && (((c.win : Int) == (d.win : Int)))))) (.int .i64 c.out),
         Under ((((((((((c.made : Int) == (d.made : Int)) && (((c.life : Int) == (d.life : Int)))) && ((((c.mine : Int) : Int) == ((d.mine : Int) : Int)))) && ((((c.peers : Int) : Int) == ((d.peers : Int) : Int)))) && ((((c.mtsn : Int) : Int) == ((d.mtsn : Int) : Int)))) && ((((c.ptsn : Int) : Int) == ((d.ptsn : Int) : Int)))) && (((c.win : Int) == (d.win : Int)))))) (.pointer (some ⟨w1.heap.size, 7, none⟩)),
         Under ((((((((((c.made : Int) == (d.made : Int)) && (((c.life : Int) == (d.life : Int)))) && ((((c.mine : Int) : Int) == ((d.mine : Int) : Int)))) && ((((c.peers : Int) : Int) == ((d.peers : Int) : Int)))) && ((((c.mtsn : Int) : Int) == ((d.mtsn : Int) : Int)))) && ((((c.ptsn : Int) : Int) == ((d.ptsn : Int) : Int)))) && (((c.win : Int) == (d.win : Int)))))) (.int .i64 d.out),
         Under ((((((((((c.made : Int) == (d.made : Int)) && (((c.life : Int) == (d.life : Int)))) && ((((c.mine : Int) : Int) == ((d.mine : Int) : Int)))) && ((((c.peers : Int) : Int) == ((d.peers : Int) : Int)))) && ((((c.mtsn : Int) : Int) == ((d.mtsn : Int) : Int)))) && ((((c.ptsn : Int) : Int) == ((d.ptsn : Int) : Int)))) && (((c.win : Int) == (d.win : Int)))))) (.bool ((c.out : Int) == (d.out : Int))),
         Is (.bool (((((((((c.made : Int) == (d.made : Int)) && (((c.life : Int) == (d.life : Int)))) && ((((c.mine : Int) : Int) == ((d.mine : Int) : Int)))) && ((((c.peers : Int) : Int) == ((d.peers : Int) : Int)))) && ((((c.mtsn : Int) : Int) == ((d.mtsn : Int) : Int)))) && ((((c.ptsn : Int) : Int) == ((d.ptsn : Int) : Int)))) && (((c.win : Int) == (d.win : Int)))) && (((c.out : Int) == (d.out : Int))))),
         Is (.bool (((((((((c.made : Int) == (d.made : Int)) && (((c.life : Int) == (d.life : Int)))) && ((((c.mine : Int) : Int) == ((d.mine : Int) : Int)))) && ((((c.peers : Int) : Int) == ((d.peers : Int) : Int)))) && ((((c.mtsn : Int) : Int) == ((d.mtsn : Int) : Int)))) && ((((c.ptsn : Int) : Int) == ((d.ptsn : Int) : Int)))) && (((c.win : Int) == (d.win : Int)))) && (((c.out : Int) == (d.out : Int))))),
         Under (((((((((((c.made : Int) == (d.made : Int)) && (((c.life : Int) == (d.life : Int)))) && ((((c.mine : Int) : Int) == ((d.mine : Int) : Int)))) && ((((c.peers : Int) : Int) == ((d.peers : Int) : Int)))) && ((((c.mtsn : Int) : Int) == ((d.mtsn : Int) : Int)))) && ((((c.ptsn : Int) : Int) == ((d.ptsn : Int) : Int)))) && (((c.win : Int) == (d.win : Int)))) && (((c.out : Int) == (d.out : Int)))))) (.pointer (some ⟨w.heap.size, 8, none⟩)),
         Under (((((((((((c.made : Int) == (d.made : Int)) && (((c.life : Int) == (d.life : Int)))) && ((((c.mine : Int) : Int) == ((d.mine : Int) : Int)))) && ((((c.peers : Int) : Int) == ((d.peers : Int) : Int)))) && ((((c.mtsn : Int) : Int) == ((d.mtsn : Int) : Int)))) && ((((c.ptsn : Int) : Int) == ((d.ptsn : Int) : Int)))) && (((c.win : Int) == (d.win : Int)))) && (((c.out : Int) == (d.out : Int)))))) (.int .i64 c.inn),
         Under (((((((((((c.made : Int) == (d.made : Int)) && (((c.life : Int) == (d.life : Int)))) && ((((c.mine : Int) : Int) == ((d.mine : Int) : Int)))) && ((((c.peers : Int) : Int) == ((d.peers : Int) : Int)))) && ((((c.mtsn : Int) : Int) == ((d.mtsn : Int) : Int)))) && ((((c.ptsn : Int) : Int) == ((d.ptsn : Int) : Int)))) && (((c.win : Int) == (d.win : Int)))) && (((c.out : Int) == (d.out : Int)))))) (.pointer (some ⟨w1.heap.size, 8, none⟩)),
         Under (((((((((((c.made : Int) == (d.made : Int)) && (((c.life : Int) == (d.life : Int)))) && ((((c.mine : Int) : Int) == ((d.mine : Int) : Int)))) && ((((c.peers : Int) : Int) == ((d.peers : Int) : Int)))) && ((((c.mtsn : Int) : Int) == ((d.mtsn : Int) : Int)))) && ((((c.ptsn : Int) : Int) == ((d.ptsn : Int) : Int)))) && (((c.win : Int) == (d.win : Int)))) && (((c.out : Int) == (d.out : Int)))))) (.int .i64 d.inn),
         Under (((((((((((c.made : Int) == (d.made : Int)) && (((c.life : Int) == (d.life : Int)))) && ((((c.mine : Int) : Int) == ((d.mine : Int) : Int)))) && ((((c.peers : Int) : Int) == ((d.peers : Int) : Int)))) && ((((c.mtsn : Int) : Int) == ((d.mtsn : Int) : Int)))) && ((((c.ptsn : Int) : Int) == ((d.ptsn : Int) : Int)))) && (((c.win : Int) == (d.win : Int)))) && (((c.out : Int) == (d.out : Int)))))) (.bool ((c.inn : Int) == (d.inn : Int))),
         Is (.bool ((((((((((c.made : Int) == (d.made : Int)) && (((c.life : Int) == (d.life : Int)))) && ((((c.mine : Int) : Int) == ((d.mine : Int) : Int)))) && ((((c.peers : Int) : Int) == ((d.peers : Int) : Int)))) && ((((c.mtsn : Int) : Int) == ((d.mtsn : Int) : Int)))) && ((((c.ptsn : Int) : Int) == ((d.ptsn : Int) : Int)))) && (((c.win : Int) == (d.win : Int)))) && (((c.out : Int) == (d.out : Int)))) && (((c.inn : Int) == (d.inn : Int))))),
         Is (.bool ((((((((((c.made : Int) == (d.made : Int)) && (((c.life : Int) == (d.life : Int)))) && ((((c.mine : Int) : Int) == ((d.mine : Int) : Int)))) && ((((c.peers : Int) : Int) == ((d.peers : Int) : Int)))) && ((((c.mtsn : Int) : Int) == ((d.mtsn : Int) : Int)))) && ((((c.ptsn : Int) : Int) == ((d.ptsn : Int) : Int)))) && (((c.win : Int) == (d.win : Int)))) && (((c.out : Int) == (d.out : Int)))) && (((c.inn : Int) == (d.inn : Int))))),
         Under ((((((((((((c.made : Int) == (d.made : Int)) && (((c.life : Int) == (d.life : Int)))) && ((((c.mine : Int) : Int) == ((d.mine : Int) : Int)))) && ((((c.peers : Int) : Int) == ((d.peers : Int) : Int)))) && ((((c.mtsn : Int) : Int) == ((d.mtsn : Int) : Int)))) && ((((c.ptsn : Int) : Int) == ((d.ptsn : Int) : Int)))) && (((c.win : Int) == (d.win : Int)))) && (((c.out : Int) == (d.out : Int)))) && (((c.inn : Int) == (d.inn : Int)))))) (.pointer (some ⟨w.heap.size, 12, none⟩)),
         Under ((((((((((((c.made : Int) == (d.made : Int)) && (((c.life : Int) == (d.life : Int)))) && ((((c.mine : Int) : Int) == ((d.mine : Int) : Int)))) && ((((c.peers : Int) : Int) == ((d.peers : Int) : Int)))) && ((((c.mtsn : Int) : Int) == ((d.mtsn : Int) : Int)))) && ((((c.ptsn : Int) : Int) == ((d.ptsn : Int) : Int)))) && (((c.win : Int) == (d.win : Int)))) && (((c.out : Int) == (d.out : Int)))) && (((c.inn : Int) == (d.inn : Int)))))) (.int .u32 (c.tm : Int)),
         Under ((((((((((((c.made : Int) == (d.made : Int)) && (((c.life : Int) == (d.life : Int)))) && ((((c.mine : Int) : Int) == ((d.mine : Int) : Int)))) && ((((c.peers : Int) : Int) == ((d.peers : Int) : Int)))) && ((((c.mtsn : Int) : Int) == ((d.mtsn : Int) : Int)))) && ((((c.ptsn : Int) : Int) == ((d.ptsn : Int) : Int)))) && (((c.win : Int) == (d.win : Int)))) && (((c.out : Int) == (d.out : Int)))) && (((c.inn : Int) == (d.inn : Int)))))) (.pointer (some ⟨w1.heap.size, 12, none⟩)),
         Under ((((((((((((c.made : Int) == (d.made : Int)) && (((c.life : Int) == (d.life : Int)))) && ((((c.mine : Int) : Int) == ((d.mine : Int) : Int)))) && ((((c.peers : Int) : Int) == ((d.peers : Int) : Int)))) && ((((c.mtsn : Int) : Int) == ((d.mtsn : Int) : Int)))) && ((((c.ptsn : Int) : Int) == ((d.ptsn : Int) : Int)))) && (((c.win : Int) == (d.win : Int)))) && (((c.out : Int) == (d.out : Int)))) && (((c.inn : Int) == (d.inn : Int)))))) (.int .u32 (d.tm : Int)),
         Under ((((((((((((c.made : Int) == (d.made : Int)) && (((c.life : Int) == (d.life : Int)))) && ((((c.mine : Int) : Int) == ((d.mine : Int) : Int)))) && ((((c.peers : Int) : Int) == ((d.peers : Int) : Int)))) && ((((c.mtsn : Int) : Int) == ((d.mtsn : Int) : Int)))) && ((((c.ptsn : Int) : Int) == ((d.ptsn : Int) : Int)))) && (((c.win : Int) == (d.win : Int)))) && (((c.out : Int) == (d.out : Int)))) && (((c.inn : Int) == (d.inn : Int)))))) (.bool (((c.tm : Int) : Int) == ((d.tm : Int) : Int))),
         Is (.bool (((((((((((c.made : Int) == (d.made : Int)) && (((c.life : Int) == (d.life : Int)))) && ((((c.mine : Int) : Int) == ((d.mine : Int) : Int)))) && ((((c.peers : Int) : Int) == ((d.peers : Int) : Int)))) && ((((c.mtsn : Int) : Int) == ((d.mtsn : Int) : Int)))) && ((((c.ptsn : Int) : Int) == ((d.ptsn : Int) : Int)))) && (((c.win : Int) == (d.win : Int)))) && (((c.out : Int) == (d.out : Int)))) && (((c.inn : Int) == (d.inn : Int)))) && ((((c.tm : Int) : Int) == ((d.tm : Int) : Int))))),
         Is (.bool (((((((((((c.made : Int) == (d.made : Int)) && (((c.life : Int) == (d.life : Int)))) && ((((c.mine : Int) : Int) == ((d.mine : Int) : Int)))) && ((((c.peers : Int) : Int) == ((d.peers : Int) : Int)))) && ((((c.mtsn : Int) : Int) == ((d.mtsn : Int) : Int)))) && ((((c.ptsn : Int) : Int) == ((d.ptsn : Int) : Int)))) && (((c.win : Int) == (d.win : Int)))) && (((c.out : Int) == (d.out : Int)))) && (((c.inn : Int) == (d.inn : Int)))) && ((((c.tm : Int) : Int) == ((d.tm : Int) : Int))))),
         Under (((((((((((((c.made : Int) == (d.made : Int)) && (((c.life : Int) == (d.life : Int)))) && ((((c.mine : Int) : Int) == ((d.mine : Int) : Int)))) && ((((c.peers : Int) : Int) == ((d.peers : Int) : Int)))) && ((((c.mtsn : Int) : Int) == ((d.mtsn : Int) : Int)))) && ((((c.ptsn : Int) : Int) == ((d.ptsn : Int) : Int)))) && (((c.win : Int) == (d.win : Int)))) && (((c.out : Int) == (d.out : Int)))) && (((c.inn : Int) == (d.inn : Int)))) && ((((c.tm : Int) : Int) == ((d.tm : Int) : Int)))))) (.pointer (some ⟨w.heap.size, 13, none⟩)),
         Under (((((((((((((c.made : Int) == (d.made : Int)) && (((c.life : Int) == (d.life : Int)))) && ((((c.mine : Int) : Int) == ((d.mine : Int) : Int)))) && ((((c.peers : Int) : Int) == ((d.peers : Int) : Int)))) && ((((c.mtsn : Int) : Int) == ((d.mtsn : Int) : Int)))) && ((((c.ptsn : Int) : Int) == ((d.ptsn : Int) : Int)))) && (((c.win : Int) == (d.win : Int)))) && (((c.out : Int) == (d.out : Int)))) && (((c.inn : Int) == (d.inn : Int)))) && ((((c.tm : Int) : Int) == ((d.tm : Int) : Int)))))) (.int .u32 (c.tp : Int)),
         Under (((((((((((((c.made : Int) == (d.made : Int)) && (((c.life : Int) == (d.life : Int)))) && ((((c.mine : Int) : Int) == ((d.mine : Int) : Int)))) && ((((c.peers : Int) : Int) == ((d.peers : Int) : Int)))) && ((((c.mtsn : Int) : Int) == ((d.mtsn : Int) : Int)))) && ((((c.ptsn : Int) : Int) == ((d.ptsn : Int) : Int)))) && (((c.win : Int) == (d.win : Int)))) && (((c.out : Int) == (d.out : Int)))) && (((c.inn : Int) == (d.inn : Int)))) && ((((c.tm : Int) : Int) == ((d.tm : Int) : Int)))))) (.pointer (some ⟨w1.heap.size, 13, none⟩)),
         Under (((((((((((((c.made : Int) == (d.made : Int)) && (((c.life : Int) == (d.life : Int)))) && ((((c.mine : Int) : Int) == ((d.mine : Int) : Int)))) && ((((c.peers : Int) : Int) == ((d.peers : Int) : Int)))) && ((((c.mtsn : Int) : Int) == ((d.mtsn : Int) : Int)))) && ((((c.ptsn : Int) : Int) == ((d.ptsn : Int) : Int)))) && (((c.win : Int) == (d.win : Int)))) && (((c.out : Int) == (d.out : Int)))) && (((c.inn : Int) == (d.inn : Int)))) && ((((c.tm : Int) : Int) == ((d.tm : Int) : Int)))))) (.int .u32 (d.tp : Int)),
         Under (((((((((((((c.made : Int) == (d.made : Int)) && (((c.life : Int) == (d.life : Int)))) && ((((c.mine : Int) : Int) == ((d.mine : Int) : Int)))) && ((((c.peers : Int) : Int) == ((d.peers : Int) : Int)))) && ((((c.mtsn : Int) : Int) == ((d.mtsn : Int) : Int)))) && ((((c.ptsn : Int) : Int) == ((d.ptsn : Int) : Int)))) && (((c.win : Int) == (d.win : Int)))) && (((c.out : Int) == (d.out : Int)))) && (((c.inn : Int) == (d.inn : Int)))) && ((((c.tm : Int) : Int) == ((d.tm : Int) : Int)))))) (.bool (((c.tp : Int) : Int) == ((d.tp : Int) : Int))),
         Is (.bool ((((((((((((c.made : Int) == (d.made : Int)) && (((c.life : Int) == (d.life : Int)))) && ((((c.mine : Int) : Int) == ((d.mine : Int) : Int)))) && ((((c.peers : Int) : Int) == ((d.peers : Int) : Int)))) && ((((c.mtsn : Int) : Int) == ((d.mtsn : Int) : Int)))) && ((((c.ptsn : Int) : Int) == ((d.ptsn : Int) : Int)))) && (((c.win : Int) == (d.win : Int)))) && (((c.out : Int) == (d.out : Int)))) && (((c.inn : Int) == (d.inn : Int)))) && ((((c.tm : Int) : Int) == ((d.tm : Int) : Int)))) && ((((c.tp : Int) : Int) == ((d.tp : Int) : Int))))),
         Is (.bool ((((((((((((c.made : Int) == (d.made : Int)) && (((c.life : Int) == (d.life : Int)))) && ((((c.mine : Int) : Int) == ((d.mine : Int) : Int)))) && ((((c.peers : Int) : Int) == ((d.peers : Int) : Int)))) && ((((c.mtsn : Int) : Int) == ((d.mtsn : Int) : Int)))) && ((((c.ptsn : Int) : Int) == ((d.ptsn : Int) : Int)))) && (((c.win : Int) == (d.win : Int)))) && (((c.out : Int) == (d.out : Int)))) && (((c.inn : Int) == (d.inn : Int)))) && ((((c.tm : Int) : Int) == ((d.tm : Int) : Int)))) && ((((c.tp : Int) : Int) == ((d.tp : Int) : Int))))),
         Under ((((((((((((((c.made : Int) == (d.made : Int)) && (((c.life : Int) == (d.life : Int)))) && ((((c.mine : Int) : Int) == ((d.mine : Int) : Int)))) && ((((c.peers : Int) : Int) == ((d.peers : Int) : Int)))) && ((((c.mtsn : Int) : Int) == ((d.mtsn : Int) : Int)))) && ((((c.ptsn : Int) : Int) == ((d.ptsn : Int) : Int)))) && (((c.win : Int) == (d.win : Int)))) && (((c.out : Int) == (d.out : Int)))) && (((c.inn : Int) == (d.inn : Int)))) && ((((c.tm : Int) : Int) == ((d.tm : Int) : Int)))) && ((((c.tp : Int) : Int) == ((d.tp : Int) : Int)))))) (.pointer (some ⟨w.heap.size, 10, none⟩)),
         Under ((((((((((((((c.made : Int) == (d.made : Int)) && (((c.life : Int) == (d.life : Int)))) && ((((c.mine : Int) : Int) == ((d.mine : Int) : Int)))) && ((((c.peers : Int) : Int) == ((d.peers : Int) : Int)))) && ((((c.mtsn : Int) : Int) == ((d.mtsn : Int) : Int)))) && ((((c.ptsn : Int) : Int) == ((d.ptsn : Int) : Int)))) && (((c.win : Int) == (d.win : Int)))) && (((c.out : Int) == (d.out : Int)))) && (((c.inn : Int) == (d.inn : Int)))) && ((((c.tm : Int) : Int) == ((d.tm : Int) : Int)))) && ((((c.tp : Int) : Int) == ((d.tp : Int) : Int)))))) (.slice s.mA s.mN s.mC),
         Under ((((((((((((((c.made : Int) == (d.made : Int)) && (((c.life : Int) == (d.life : Int)))) && ((((c.mine : Int) : Int) == ((d.mine : Int) : Int)))) && ((((c.peers : Int) : Int) == ((d.peers : Int) : Int)))) && ((((c.mtsn : Int) : Int) == ((d.mtsn : Int) : Int)))) && ((((c.ptsn : Int) : Int) == ((d.ptsn : Int) : Int)))) && (((c.win : Int) == (d.win : Int)))) && (((c.out : Int) == (d.out : Int)))) && (((c.inn : Int) == (d.inn : Int)))) && ((((c.tm : Int) : Int) == ((d.tm : Int) : Int)))) && ((((c.tp : Int) : Int) == ((d.tp : Int) : Int)))))) (.string (strOf c.mr)),
         Under ((((((((((((((c.made : Int) == (d.made : Int)) && (((c.life : Int) == (d.life : Int)))) && ((((c.mine : Int) : Int) == ((d.mine : Int) : Int)))) && ((((c.peers : Int) : Int) == ((d.peers : Int) : Int)))) && ((((c.mtsn : Int) : Int) == ((d.mtsn : Int) : Int)))) && ((((c.ptsn : Int) : Int) == ((d.ptsn : Int) : Int)))) && (((c.win : Int) == (d.win : Int)))) && (((c.out : Int) == (d.out : Int)))) && (((c.inn : Int) == (d.inn : Int)))) && ((((c.tm : Int) : Int) == ((d.tm : Int) : Int)))) && ((((c.tp : Int) : Int) == ((d.tp : Int) : Int)))))) (.pointer (some ⟨w1.heap.size, 10, none⟩)),
         Under ((((((((((((((c.made : Int) == (d.made : Int)) && (((c.life : Int) == (d.life : Int)))) && ((((c.mine : Int) : Int) == ((d.mine : Int) : Int)))) && ((((c.peers : Int) : Int) == ((d.peers : Int) : Int)))) && ((((c.mtsn : Int) : Int) == ((d.mtsn : Int) : Int)))) && ((((c.ptsn : Int) : Int) == ((d.ptsn : Int) : Int)))) && (((c.win : Int) == (d.win : Int)))) && (((c.out : Int) == (d.out : Int)))) && (((c.inn : Int) == (d.inn : Int)))) && ((((c.tm : Int) : Int) == ((d.tm : Int) : Int)))) && ((((c.tp : Int) : Int) == ((d.tp : Int) : Int)))))) (.slice u.mA u.mN u.mC),
         Under ((((((((((((((c.made : Int) == (d.made : Int)) && (((c.life : Int) == (d.life : Int)))) && ((((c.mine : Int) : Int) == ((d.mine : Int) : Int)))) && ((((c.peers : Int) : Int) == ((d.peers : Int) : Int)))) && ((((c.mtsn : Int) : Int) == ((d.mtsn : Int) : Int)))) && ((((c.ptsn : Int) : Int) == ((d.ptsn : Int) : Int)))) && (((c.win : Int) == (d.win : Int)))) && (((c.out : Int) == (d.out : Int)))) && (((c.inn : Int) == (d.inn : Int)))) && ((((c.tm : Int) : Int) == ((d.tm : Int) : Int)))) && ((((c.tp : Int) : Int) == ((d.tp : Int) : Int)))))) (.string (strOf d.mr)),
         Under ((((((((((((((c.made : Int) == (d.made : Int)) && (((c.life : Int) == (d.life : Int)))) && ((((c.mine : Int) : Int) == ((d.mine : Int) : Int)))) && ((((c.peers : Int) : Int) == ((d.peers : Int) : Int)))) && ((((c.mtsn : Int) : Int) == ((d.mtsn : Int) : Int)))) && ((((c.ptsn : Int) : Int) == ((d.ptsn : Int) : Int)))) && (((c.win : Int) == (d.win : Int)))) && (((c.out : Int) == (d.out : Int)))) && (((c.inn : Int) == (d.inn : Int)))) && ((((c.tm : Int) : Int) == ((d.tm : Int) : Int)))) && ((((c.tp : Int) : Int) == ((d.tp : Int) : Int)))))) (.bool (decide (c.mr = d.mr))),
         Is (.bool (((((((((((((c.made : Int) == (d.made : Int)) && (((c.life : Int) == (d.life : Int)))) && ((((c.mine : Int) : Int) == ((d.mine : Int) : Int)))) && ((((c.peers : Int) : Int) == ((d.peers : Int) : Int)))) && ((((c.mtsn : Int) : Int) == ((d.mtsn : Int) : Int)))) && ((((c.ptsn : Int) : Int) == ((d.ptsn : Int) : Int)))) && (((c.win : Int) == (d.win : Int)))) && (((c.out : Int) == (d.out : Int)))) && (((c.inn : Int) == (d.inn : Int)))) && ((((c.tm : Int) : Int) == ((d.tm : Int) : Int)))) && ((((c.tp : Int) : Int) == ((d.tp : Int) : Int)))) && ((decide (c.mr = d.mr))))),
         Is (.bool (((((((((((((c.made : Int) == (d.made : Int)) && (((c.life : Int) == (d.life : Int)))) && ((((c.mine : Int) : Int) == ((d.mine : Int) : Int)))) && ((((c.peers : Int) : Int) == ((d.peers : Int) : Int)))) && ((((c.mtsn : Int) : Int) == ((d.mtsn : Int) : Int)))) && ((((c.ptsn : Int) : Int) == ((d.ptsn : Int) : Int)))) && (((c.win : Int) == (d.win : Int)))) && (((c.out : Int) == (d.out : Int)))) && (((c.inn : Int) == (d.inn : Int)))) && ((((c.tm : Int) : Int) == ((d.tm : Int) : Int)))) && ((((c.tp : Int) : Int) == ((d.tp : Int) : Int)))) && ((decide (c.mr = d.mr))))),
         Under (((((((((((((((c.made : Int) == (d.made : Int)) && (((c.life : Int) == (d.life : Int)))) && ((((c.mine : Int) : Int) == ((d.mine : Int) : Int)))) && ((((c.peers : Int) : Int) == ((d.peers : Int) : Int)))) && ((((c.mtsn : Int) : Int) == ((d.mtsn : Int) : Int)))) && ((((c.ptsn : Int) : Int) == ((d.ptsn : Int) : Int)))) && (((c.win : Int) == (d.win : Int)))) && (((c.out : Int) == (d.out : Int)))) && (((c.inn : Int) == (d.inn : Int)))) && ((((c.tm : Int) : Int) == ((d.tm : Int) : Int)))) && ((((c.tp : Int) : Int) == ((d.tp : Int) : Int)))) && ((decide (c.mr = d.mr)))))) (.pointer (some ⟨w.heap.size, 11, none⟩)),
         Under (((((((((((((((c.made : Int) == (d.made : Int)) && (((c.life : Int) == (d.life : Int)))) && ((((c.mine : Int) : Int) == ((d.mine : Int) : Int)))) && ((((c.peers : Int) : Int) == ((d.peers : Int) : Int)))) && ((((c.mtsn : Int) : Int) == ((d.mtsn : Int) : Int)))) && ((((c.ptsn : Int) : Int) == ((d.ptsn : Int) : Int)))) && (((c.win : Int) == (d.win : Int)))) && (((c.out : Int) == (d.out : Int)))) && (((c.inn : Int) == (d.inn : Int)))) && ((((c.tm : Int) : Int) == ((d.tm : Int) : Int)))) && ((((c.tp : Int) : Int) == ((d.tp : Int) : Int)))) && ((decide (c.mr = d.mr)))))) (.slice s.pA s.pN s.pC),
         Under (((((((((((((((c.made : Int) == (d.made : Int)) && (((c.life : Int) == (d.life : Int)))) && ((((c.mine : Int) : Int) == ((d.mine : Int) : Int)))) && ((((c.peers : Int) : Int) == ((d.peers : Int) : Int)))) && ((((c.mtsn : Int) : Int) == ((d.mtsn : Int) : Int)))) && ((((c.ptsn : Int) : Int) == ((d.ptsn : Int) : Int)))) && (((c.win : Int) == (d.win : Int)))) && (((c.out : Int) == (d.out : Int)))) && (((c.inn : Int) == (d.inn : Int)))) && ((((c.tm : Int) : Int) == ((d.tm : Int) : Int)))) && ((((c.tp : Int) : Int) == ((d.tp : Int) : Int)))) && ((decide (c.mr = d.mr)))))) (.string (strOf c.pr)),
         Under (((((((((((((((c.made : Int) == (d.made : Int)) && (((c.life : Int) == (d.life : Int)))) && ((((c.mine : Int) : Int) == ((d.mine : Int) : Int)))) && ((((c.peers : Int) : Int) == ((d.peers : Int) : Int)))) && ((((c.mtsn : Int) : Int) == ((d.mtsn : Int) : Int)))) && ((((c.ptsn : Int) : Int) == ((d.ptsn : Int) : Int)))) && (((c.win : Int) == (d.win : Int)))) && (((c.out : Int) == (d.out : Int)))) && (((c.inn : Int) == (d.inn : Int)))) && ((((c.tm : Int) : Int) == ((d.tm : Int) : Int)))) && ((((c.tp : Int) : Int) == ((d.tp : Int) : Int)))) && ((decide (c.mr = d.mr)))))) (.pointer (some ⟨w1.heap.size, 11, none⟩)),
         Under (((((((((((((((c.made : Int) == (d.made : Int)) && (((c.life : Int) == (d.life : Int)))) && ((((c.mine : Int) : Int) == ((d.mine : Int) : Int)))) && ((((c.peers : Int) : Int) == ((d.peers : Int) : Int)))) && ((((c.mtsn : Int) : Int) == ((d.mtsn : Int) : Int)))) && ((((c.ptsn : Int) : Int) == ((d.ptsn : Int) : Int)))) && (((c.win : Int) == (d.win : Int)))) && (((c.out : Int) == (d.out : Int)))) && (((c.inn : Int) == (d.inn : Int)))) && ((((c.tm : Int) : Int) == ((d.tm : Int) : Int)))) && ((((c.tp : Int) : Int) == ((d.tp : Int) : Int)))) && ((decide (c.mr = d.mr)))))) (.slice u.pA u.pN u.pC),
         Under (((((((((((((((c.made : Int) == (d.made : Int)) && (((c.life : Int) == (d.life : Int)))) && ((((c.mine : Int) : Int) == ((d.mine : Int) : Int)))) && ((((c.peers : Int) : Int) == ((d.peers : Int) : Int)))) && ((((c.mtsn : Int) : Int) == ((d.mtsn : Int) : Int)))) && ((((c.ptsn : Int) : Int) == ((d.ptsn : Int) : Int)))) && (((c.win : Int) == (d.win : Int)))) && (((c.out : Int) == (d.out : Int)))) && (((c.inn : Int) == (d.inn : Int)))) && ((((c.tm : Int) : Int) == ((d.tm : Int) : Int)))) && ((((c.tp : Int) : Int) == ((d.tp : Int) : Int)))) && ((decide (c.mr = d.mr)))))) (.string (strOf d.pr)),
         Under (((((((((((((((c.made : Int) == (d.made : Int)) && (((c.life : Int) == (d.life : Int)))) && ((((c.mine : Int) : Int) == ((d.mine : Int) : Int)))) && ((((c.peers : Int) : Int) == ((d.peers : Int) : Int)))) && ((((c.mtsn : Int) : Int) == ((d.mtsn : Int) : Int)))) && ((((c.ptsn : Int) : Int) == ((d.ptsn : Int) : Int)))) && (((c.win : Int) == (d.win : Int)))) && (((c.out : Int) == (d.out : Int)))) && (((c.inn : Int) == (d.inn : Int)))) && ((((c.tm : Int) : Int) == ((d.tm : Int) : Int)))) && ((((c.tp : Int) : Int) == ((d.tp : Int) : Int)))) && ((decide (c.mr = d.mr)))))) (.bool (decide (c.pr = d.pr))),
         Is (.bool ((((((((((((((c.made : Int) == (d.made : Int)) && (((c.life : Int) == (d.life : Int)))) && ((((c.mine : Int) : Int) == ((d.mine : Int) : Int)))) && ((((c.peers : Int) : Int) == ((d.peers : Int) : Int)))) && ((((c.mtsn : Int) : Int) == ((d.mtsn : Int) : Int)))) && ((((c.ptsn : Int) : Int) == ((d.ptsn : Int) : Int)))) && (((c.win : Int) == (d.win : Int)))) && (((c.out : Int) == (d.out : Int)))) && (((c.inn : Int) == (d.inn : Int)))) && ((((c.tm : Int) : Int) == ((d.tm : Int) : Int)))) && ((((c.tp : Int) : Int) == ((d.tp : Int) : Int)))) && ((decide (c.mr = d.mr)))) && ((decide (c.pr = d.pr))))),
         Is (.bool ((((((((((((((c.made : Int) == (d.made : Int)) && (((c.life : Int) == (d.life : Int)))) && ((((c.mine : Int) : Int) == ((d.mine : Int) : Int)))) && ((((c.peers : Int) : Int) == ((d.peers : Int) : Int)))) && ((((c.mtsn : Int) : Int) == ((d.mtsn : Int) : Int)))) && ((((c.ptsn : Int) : Int) == ((d.ptsn : Int) : Int)))) && (((c.win : Int) == (d.win : Int)))) && (((c.out : Int) == (d.out : Int)))) && (((c.inn : Int) == (d.inn : Int)))) && ((((c.tm : Int) : Int) == ((d.tm : Int) : Int)))) && ((((c.tp : Int) : Int) == ((d.tp : Int) : Int)))) && ((decide (c.mr = d.mr)))) && ((decide (c.pr = d.pr)))))]
        rfl (by kernel_rfl) rfl Ext.refl (fun _ _ _ => Ext.trans) (KeepAll.is (KeepAll.is (KeepAll.is (KeepAll.is (KeepAll.is (KeepAll.is (KeepAll.under (KeepAll.under (KeepAll.under (KeepAll.under (KeepAll.under (KeepAll.is (KeepAll.is (KeepAll.under (KeepAll.under (KeepAll.under (KeepAll.under (KeepAll.under (KeepAll.is (KeepAll.is (KeepAll.under (KeepAll.under (KeepAll.under (KeepAll.under (KeepAll.under (KeepAll.is (KeepAll.is (KeepAll.under (KeepAll.under (KeepAll.under (KeepAll.under (KeepAll.under (KeepAll.is (KeepAll.is (KeepAll.under (KeepAll.under (KeepAll.under (KeepAll.under (KeepAll.under (KeepAll.is (KeepAll.is (KeepAll.under (KeepAll.under (KeepAll.under (KeepAll.under (KeepAll.under (KeepAll.is (KeepAll.is (KeepAll.under (KeepAll.under (KeepAll.under (KeepAll.under (KeepAll.under (KeepAll.is (KeepAll.is (KeepAll.under (KeepAll.under (KeepAll.under (KeepAll.under (KeepAll.under (KeepAll.is (KeepAll.is (KeepAll.under (KeepAll.under (KeepAll.under (KeepAll.under (KeepAll.under (KeepAll.is (KeepAll.is (KeepAll.under (KeepAll.under (KeepAll.under (KeepAll.under (KeepAll.under (KeepAll.is (KeepAll.is (KeepAll.under (KeepAll.under (KeepAll.under (KeepAll.under (KeepAll.under (KeepAll.under (KeepAll.under (KeepAll.is (KeepAll.is (KeepAll.under (KeepAll.under (KeepAll.under (KeepAll.under (KeepAll.under (KeepAll.under (KeepAll.under (KeepAll.is (KeepAll.is (KeepAll.nil))))))))))))))))))))))))))))))))))))))))))))))))))))))))))))))))))))))))))))))))))))))))))))))) ?_ ?_
      · refine GoodAll.cons ?_ ?_
        · intro r wx hR hx
          obtain ⟨h1, _⟩ := hx
          replace h1 : r (.tmp 2) = .pointer (some ⟨w.heap.size, 0, none⟩) := h1
          exact give_of (by simp [execOp, h1, go_sem]) ⟨Ext.refl _, rfl⟩
        refine GoodAll.cons ?_ ?_
        · intro r wx hR hx
          obtain ⟨h1, _⟩ := hx
          replace h1 : r (.tmp 31) = .pointer (some ⟨w.heap.size, 0, none⟩) := h1
          exact give_of (exec_get one3 rfl h1 (kv0 (hB1.ext hR))) ⟨Ext.refl _, rfl⟩
        refine GoodAll.cons ?_ ?_
        · intro r wx hR hx
          obtain ⟨h1, _⟩ := hx
          replace h1 : r (.tmp 3) = .pointer (some ⟨w1.heap.size, 0, none⟩) := h1
          exact give_of (by simp [execOp, h1, go_sem]) ⟨Ext.refl _, rfl⟩
        refine GoodAll.cons ?_ ?_
        · intro r wx hR hx
          obtain ⟨h1, _⟩ := hx
          replace h1 : r (.tmp 33) = .pointer (some ⟨w1.heap.size, 0, none⟩) := h1
          exact give_of (exec_get one3 rfl h1 (kv0 (hB2.ext hR))) ⟨Ext.refl _, rfl⟩
        refine GoodAll.cons ?_ ?_
        · intro r wx hR hx
          obtain ⟨h1, h2, _⟩ := hx
          replace h1 : r (.tmp 32) = .int .i64 c.made := h1
          replace h2 : r (.tmp 34) = .int .i64 d.made := h2
          exact give_of (by simp [execOp, h1, h2, go_sem]) ⟨Ext.refl _, rfl⟩
        refine GoodAll.cons ?_ ?_
        · intro r wx hR hx
          obtain ⟨h1, _⟩ := hx
          replace h1 : r (.tmp 35) = .bool ((c.made : Int) == (d.made : Int)) := h1
          exact give_move (.inl rfl) ⟨Ext.refl _, h1⟩
        refine GoodAll.cons ?_ ?_
        · intro r wx hR hx
          obtain ⟨h1, _⟩ := hx
          replace h1 : r (.tmp 2) = .pointer (some ⟨w.heap.size, 0, none⟩) := h1
          intro gb hgb
          refine guard_u (C := (((c.made : Int) == (d.made : Int)))) (b := ((c.made : Int) == (d.made : Int))) (want := true) hgb (want_t _) (fun hc => ?_) (fun hc => under_no hc)
          exact give_of (by simp [execOp, h1, go_sem]) ⟨Ext.refl _, under_yes hc⟩
        refine GoodAll.cons ?_ ?_
        · intro r wx hR hx
          obtain ⟨h1, _⟩ := hx
          replace h1 : Under ((((c.made : Int) == (d.made : Int)))) (.pointer (some ⟨w.heap.size, 1, none⟩)) wx (r (.tmp 37)) := h1
          intro gb hgb
          refine guard_u (C := (((c.made : Int) == (d.made : Int)))) (b := ((c.made : Int) == (d.made : Int))) (want := true) hgb (want_t _) (fun hc => ?_) (fun hc => under_no hc)
          replace h1 := h1.get hc
          exact give_of (exec_get one3 rfl h1 (kv1 (hB1.ext hR))) ⟨Ext.refl _, under_yes hc⟩
        refine GoodAll.cons ?_ ?_
        · intro r wx hR hx
          obtain ⟨h1, _⟩ := hx
          replace h1 : r (.tmp 3) = .pointer (some ⟨w1.heap.size, 0, none⟩) := h1
          intro gb hgb
          refine guard_u (C := (((c.made : Int) == (d.made : Int)))) (b := ((c.made : Int) == (d.made : Int))) (want := true) hgb (want_t _) (fun hc => ?_) (fun hc => under_no hc)
          exact give_of (by simp [execOp, h1, go_sem]) ⟨Ext.refl _, under_yes hc⟩
        refine GoodAll.cons ?_ ?_
        · intro r wx hR hx
          obtain ⟨h1, _⟩ := hx
          replace h1 : Under ((((c.made : Int) == (d.made : Int)))) (.pointer (some ⟨w1.heap.size, 1, none⟩)) wx (r (.tmp 39)) := h1
          intro gb hgb
          refine guard_u (C := (((c.made : Int) == (d.made : Int)))) (b := ((c.made : Int) == (d.made : Int))) (want := true) hgb (want_t _) (fun hc => ?_) (fun hc => under_no hc)
          replace h1 := h1.get hc
          exact give_of (exec_get one3 rfl h1 (kv1 (hB2.ext hR))) ⟨Ext.refl _, under_yes hc⟩
        refine GoodAll.cons ?_ ?_
        · intro r wx hR hx
          obtain ⟨h1, h2, _⟩ := hx
          replace h1 : Under ((((c.made : Int) == (d.made : Int)))) (.int .i64 c.life) wx (r (.tmp 38)) := h1
          replace h2 : Under ((((c.made : Int) == (d.made : Int)))) (.int .i64 d.life) wx (r (.tmp 40)) := h2
          intro gb hgb
          refine guard_u (C := (((c.made : Int) == (d.made : Int)))) (b := ((c.made : Int) == (d.made : Int))) (want := true) hgb (want_t _) (fun hc => ?_) (fun hc => under_no hc)
          replace h1 := h1.get hc
          replace h2 := h2.get hc
          exact give_of (by simp [execOp, h1, h2, go_sem]) ⟨Ext.refl _, under_yes hc⟩
        refine GoodAll.cons ?_ ?_
        · intro r wx hR hx
          obtain ⟨h1, h2, h3, _⟩ := hx
          replace h1 : r (.tmp 36) = .bool ((c.made : Int) == (d.made : Int)) := h1
          replace h2 : Under ((((c.made : Int) == (d.made : Int)))) (.bool ((c.life : Int) == (d.life : Int))) wx (r (.tmp 41)) := h2
          replace h3 : r (.const (.bool false)) = .bool false := h3
          exact give_and rfl h3 h1 (fun hb => h2.get (by first | exact hb | (rw [hc, hb]; rfl) | (rw [hb]; rfl))) ⟨Ext.refl _, rfl⟩
        refine GoodAll.cons ?_ ?_
        · intro r wx hR hx
          obtain ⟨h1, _⟩ := hx
          replace h1 : r (.tmp 42) = .bool (((c.made : Int) == (d.made : Int)) && (((c.life : Int) == (d.life : Int)))) := h1
          exact give_move (.inl rfl) ⟨Ext.refl _, h1⟩
        refine GoodAll.cons ?_ ?_
        · intro r wx hR hx
          obtain ⟨h1, _⟩ := hx
          replace h1 : r (.tmp 2) = .pointer (some ⟨w.heap.size, 0, none⟩) := h1
          intro gb hgb
          refine guard_u (C := ((((c.made : Int) == (d.made : Int)) && (((c.life : Int) == (d.life : Int)))))) (b := (((c.made : Int) == (d.made : Int)) && (((c.life : Int) == (d.life : Int))))) (want := true) hgb (want_t _) (fun hc => ?_) (fun hc => under_no hc)
          exact give_of (by simp [execOp, h1, go_sem]) ⟨Ext.refl _, under_yes hc⟩
        refine GoodAll.cons ?_ ?_
        · intro r wx hR hx
          obtain ⟨h1, _⟩ := hx
          replace h1 : Under (((((c.made : Int) == (d.made : Int)) && (((c.life : Int) == (d.life : Int)))))) (.pointer (some ⟨w.heap.size, 2, none⟩)) wx (r (.tmp 44)) := h1
          intro gb hgb
          refine guard_u (C := ((((c.made : Int) == (d.made : Int)) && (((c.life : Int) == (d.life : Int)))))) (b := (((c.made : Int) == (d.made : Int)) && (((c.life : Int) == (d.life : Int))))) (want := true) hgb (want_t _) (fun hc => ?_) (fun hc => under_no hc)
          replace h1 := h1.get hc
          exact give_of (exec_get one22 rfl h1 (kv2 (hB1.ext hR))) ⟨Ext.refl _, under_yes hc⟩
        refine GoodAll.cons ?_ ?_
        · intro r wx hR hx
          obtain ⟨h1, _⟩ := hx
          replace h1 : r (.tmp 3) = .pointer (some ⟨w1.heap.size, 0, none⟩) := h1
          intro gb hgb
          refine guard_u (C := ((((c.made : Int) == (d.made : Int)) && (((c.life : Int) == (d.life : Int)))))) (b := (((c.made : Int) == (d.made : Int)) && (((c.life : Int) == (d.life : Int))))) (want := true) hgb (want_t _) (fun hc => ?_) (fun hc => under_no hc)
          exact give_of (by simp [execOp, h1, go_sem]) ⟨Ext.refl _, under_yes hc⟩
        refine GoodAll.cons ?_ ?_
        · intro r wx hR hx
          obtain ⟨h1, _⟩ := hx
          replace h1 : Under (((((c.made : Int) == (d.made : Int)) && (((c.life : Int) == (d.life : Int)))))) (.pointer (some ⟨w1.heap.size, 2, none⟩)) wx (r (.tmp 46)) := h1
          intro gb hgb
          refine guard_u (C := ((((c.made : Int) == (d.made : Int)) && (((c.life : Int) == (d.life : Int)))))) (b := (((c.made : Int) == (d.made : Int)) && (((c.life : Int) == (d.life : Int))))) (want := true) hgb (want_t _) (fun hc => ?_) (fun hc => under_no hc)
          replace h1 := h1.get hc
          exact give_of (exec_get one22 rfl h1 (kv2 (hB2.ext hR))) ⟨Ext.refl _, under_yes hc⟩
        refine GoodAll.cons ?_ ?_
        · intro r wx hR hx
          obtain ⟨h1, h2, _⟩ := hx
          replace h1 : Under (((((c.made : Int) == (d.made : Int)) && (((c.life : Int) == (d.life : Int)))))) (.int .u32 (c.mine : Int)) wx (r (.tmp 45)) := h1
          replace h2 : Under (((((c.made : Int) == (d.made : Int)) && (((c.life : Int) == (d.life : Int)))))) (.int .u32 (d.mine : Int)) wx (r (.tmp 47)) := h2
          intro gb hgb
          refine guard_u (C := ((((c.made : Int) == (d.made : Int)) && (((c.life : Int) == (d.life : Int)))))) (b := (((c.made : Int) == (d.made : Int)) && (((c.life : Int) == (d.life : Int))))) (want := true) hgb (want_t _) (fun hc => ?_) (fun hc => under_no hc)
          replace h1 := h1.get hc
          replace h2 := h2.get hc
          exact give_of (by simp [execOp, h1, h2, go_sem]) ⟨Ext.refl _, under_yes hc⟩
        refine GoodAll.cons ?_ ?_
        · intro r wx hR hx
          obtain ⟨h1, h2, h3, _⟩ := hx
          replace h1 : r (.tmp 43) = .bool (((c.made : Int) == (d.made : Int)) && (((c.life : Int) == (d.life : Int)))) := h1
          replace h2 : Under (((((c.made : Int) == (d.made : Int)) && (((c.life : Int) == (d.life : Int)))))) (.bool (((c.mine : Int) : Int) == ((d.mine : Int) : Int))) wx (r (.tmp 48)) := h2
          replace h3 : r (.const (.bool false)) = .bool false := h3
          exact give_and rfl h3 h1 (fun hb => h2.get (by first | exact hb | (rw [hc, hb]; rfl) | (rw [hb]; rfl))) ⟨Ext.refl _, rfl⟩
        refine GoodAll.cons ?_ ?_
        · intro r wx hR hx
          obtain ⟨h1, _⟩ := hx
          replace h1 : r (.tmp 49) = .bool ((((c.made : Int) == (d.made : Int)) && (((c.life : Int) == (d.life : Int)))) && ((((c.mine : Int) : Int) == ((d.mine : Int) : Int)))) := h1
          exact give_move (.inl rfl) ⟨Ext.refl _, h1⟩
        refine GoodAll.cons ?_ ?_
        · intro r wx hR hx
          obtain ⟨h1, _⟩ := hx
          replace h1 : r (.tmp 2) = .pointer (some ⟨w.heap.size, 0, none⟩) := h1
          intro gb hgb
          refine guard_u (C := (((((c.made : Int) == (d.made : Int)) && (((c.life : Int) == (d.life : Int)))) && ((((c.mine : Int) : Int) == ((d.mine : Int) : Int)))))) (b := ((((c.made : Int) == (d.made : Int)) && (((c.life : Int) == (d.life : Int)))) && ((((c.mine : Int) : Int) == ((d.mine : Int) : Int))))) (want := true) hgb (want_t _) (fun hc => ?_) (fun hc => under_no hc)
          exact give_of (by simp [execOp, h1, go_sem]) ⟨Ext.refl _, under_yes hc⟩
        refine GoodAll.cons ?_ ?_
        · intro r wx hR hx
          obtain ⟨h1, _⟩ := hx
          replace h1 : Under ((((((c.made : Int) == (d.made : Int)) && (((c.life : Int) == (d.life : Int)))) && ((((c.mine : Int) : Int) == ((d.mine : Int) : Int)))))) (.pointer (some ⟨w.heap.size, 3, none⟩)) wx (r (.tmp 51)) := h1
          intro gb hgb
          refine guard_u (C := (((((c.made : Int) == (d.made : Int)) && (((c.life : Int) == (d.life : Int)))) && ((((c.mine : Int) : Int) == ((d.mine : Int) : Int)))))) (b := ((((c.made : Int) == (d.made : Int)) && (((c.life : Int) == (d.life : Int)))) && ((((c.mine : Int) : Int) == ((d.mine : Int) : Int))))) (want := true) hgb (want_t _) (fun hc => ?_) (fun hc => under_no hc)
          replace h1 := h1.get hc
          exact give_of (exec_get one22 rfl h1 (kv3 (hB1.ext hR))) ⟨Ext.refl _, under_yes hc⟩
        refine GoodAll.cons ?_ ?_
        · intro r wx hR hx
          obtain ⟨h1, _⟩ := hx
          replace h1 : r (.tmp 3) = .pointer (some ⟨w1.heap.size, 0, none⟩) := h1
          intro gb hgb
          refine guard_u (C := (((((c.made : Int) == (d.made : Int)) && (((c.life : Int) == (d.life : Int)))) && ((((c.mine : Int) : Int) == ((d.mine : Int) : Int)))))) (b := ((((c.made : Int) == (d.made : Int)) && (((c.life : Int) == (d.life : Int)))) && ((((c.mine : Int) : Int) == ((d.mine : Int) : Int))))) (want := true) hgb (want_t _) (fun hc => ?_) (fun hc => under_no hc)
          exact give_of (by simp [execOp, h1, go_sem]) ⟨Ext.refl _, under_yes hc⟩
        refine GoodAll.cons ?_ ?_
        · intro r wx hR hx
          obtain ⟨h1, _⟩ := hx
          replace h1 : Under ((((((c.made : Int) == (d.made : Int)) && (((c.life : Int) == (d.life : Int)))) && ((((c.mine : Int) : Int) == ((d.mine : Int) : Int)))))) (.pointer (some ⟨w1.heap.size, 3, none⟩)) wx (r (.tmp 53)) := h1
          intro gb hgb
          refine guard_u (C := (((((c.made : Int) == (d.made : Int)) && (((c.life : Int) == (d.life : Int)))) && ((((c.mine : Int) : Int) == ((d.mine : Int) : Int)))))) (b := ((((c.made : Int) == (d.made : Int)) && (((c.life : Int) == (d.life : Int)))) && ((((c.mine : Int) : Int) == ((d.mine : Int) : Int))))) (want := true) hgb (want_t _) (fun hc => ?_) (fun hc => under_no hc)
          replace h1 := h1.get hc
          exact give_of (exec_get one22 rfl h1 (kv3 (hB2.ext hR))) ⟨Ext.refl _, under_yes hc⟩
        refine GoodAll.cons ?_ ?_
        · intro r wx hR hx
          obtain ⟨h1, h2, _⟩ := hx
          replace h1 : Under ((((((c.made : Int) == (d.made : Int)) && (((c.life : Int) == (d.life : Int)))) && ((((c.mine : Int) : Int) == ((d.mine : Int) : Int)))))) (.int .u32 (c.peers : Int)) wx (r (.tmp 52)) := h1
          replace h2 : Under ((((((c.made : Int) == (d.made : Int)) && (((c.life : Int) == (d.life : Int)))) && ((((c.mine : Int) : Int) == ((d.mine : Int) : Int)))))) (.int .u32 (d.peers : Int)) wx (r (.tmp 54)) := h2
          intro gb hgb
          refine guard_u (C := (((((c.made : Int) == (d.made : Int)) && (((c.life : Int) == (d.life : Int)))) && ((((c.mine : Int) : Int) == ((d.mine : Int) : Int)))))) (b := ((((c.made : Int) == (d.made : Int)) && (((c.life : Int) == (d.life : Int)))) && ((((c.mine : Int) : Int) == ((d.mine : Int) : Int))))) (want := true) hgb (want_t _) (fun hc => ?_) (fun hc => under_no hc)
          replace h1 := h1.get hc
          replace h2 := h2.get hc
          exact give_of (by simp [execOp, h1, h2, go_sem]) ⟨Ext.refl _, under_yes hc⟩
        refine GoodAll.cons ?_ ?_
        · intro r wx hR hx
          obtain ⟨h1, h2, h3, _⟩ := hx
          replace h1 : r (.tmp 50) = .bool ((((c.made : Int) == (d.made : Int)) && (((c.life : Int) == (d.life : Int)))) && ((((c.mine : Int) : Int) == ((d.mine : Int) : Int)))) := h1
          replace h2 : Under ((((((c.made : Int) == (d.made : Int)) && (((c.life : Int) == (d.life : Int)))) && ((((c.mine : Int) : Int) == ((d.mine : Int) : Int)))))) (.bool (((c.peers : Int) : Int) == ((d.peers : Int) : Int))) wx (r (.tmp 55)) := h2
          replace h3 : r (.const (.bool false)) = .bool false := h3
          exact give_and rfl h3 h1 (fun hb => h2.get (by first | exact hb | (rw [hc, hb]; rfl) | (rw [hb]; rfl))) ⟨Ext.refl _, rfl⟩
        refine GoodAll.cons ?_ ?_
        · intro r wx hR hx
          obtain ⟨h1, _⟩ := hx
          replace h1 : r (.tmp 56) = .bool (((((c.made : Int) == (d.made : Int)) && (((c.life : Int) == (d.life : Int)))) && ((((c.mine : Int) : Int) == ((d.mine : Int) : Int)))) && ((((c.peers : Int) : Int) == ((d.peers : Int) : Int)))) := h1
          exact give_move (.inl rfl) ⟨Ext.refl _, h1⟩
        refine GoodAll.cons ?_ ?_
        · intro r wx hR hx
          obtain ⟨h1, _⟩ := hx
          replace h1 : r (.tmp 2) = .pointer (some ⟨w.heap.size, 0, none⟩) := h1
          intro gb hgb
          refine guard_u (C := ((((((c.made : Int) == (d.made : Int)) && (((c.life : Int) == (d.life : Int)))) && ((((c.mine : Int) : Int) == ((d.mine : Int) : Int)))) && ((((c.peers : Int) : Int) == ((d.peers : Int) : Int)))))) (b := (((((c.made : Int) == (d.made : Int)) && (((c.life : Int) == (d.life : Int)))) && ((((c.mine : Int) : Int) == ((d.mine : Int) : Int)))) && ((((c.peers : Int) : Int) == ((d.peers : Int) : Int))))) (want := true) hgb (want_t _) (fun hc => ?_) (fun hc => under_no hc)
          exact give_of (by simp [execOp, h1, go_sem]) ⟨Ext.refl _, under_yes hc⟩
        refine GoodAll.cons ?_ ?_
        · intro r wx hR hx
          obtain ⟨h1, _⟩ := hx
          replace h1 : Under (((((((c.made : Int) == (d.made : Int)) && (((c.life : Int) == (d.life : Int)))) && ((((c.mine : Int) : Int) == ((d.mine : Int) : Int)))) && ((((c.peers : Int) : Int) == ((d.peers : Int) : Int)))))) (.pointer (some ⟨w.heap.size, 4, none⟩)) wx (r (.tmp 58)) := h1
          intro gb hgb
          refine guard_u (C := ((((((c.made : Int) == (d.made : Int)) && (((c.life : Int) == (d.life : Int)))) && ((((c.mine : Int) : Int) == ((d.mine : Int) : Int)))) && ((((c.peers : Int) : Int) == ((d.peers : Int) : Int)))))) (b := (((((c.made : Int) == (d.made : Int)) && (((c.life : Int) == (d.life : Int)))) && ((((c.mine : Int) : Int) == ((d.mine : Int) : Int)))) && ((((c.peers : Int) : Int) == ((d.peers : Int) : Int))))) (want := true) hgb (want_t _) (fun hc => ?_) (fun hc => under_no hc)
          replace h1 := h1.get hc
          exact give_of (exec_get one22 rfl h1 (kv4 (hB1.ext hR))) ⟨Ext.refl _, under_yes hc⟩
        refine GoodAll.cons ?_ ?_
        · intro r wx hR hx
          obtain ⟨h1, _⟩ := hx
          replace h1 : r (.tmp 3) = .pointer (some ⟨w1.heap.size, 0, none⟩) := h1
          intro gb hgb
          refine guard_u (C := ((((((c.made : Int) == (d.made : Int)) && (((c.life : Int) == (d.life : Int)))) && ((((c.mine : Int) : Int) == ((d.mine : Int) : Int)))) && ((((c.peers : Int) : Int) == ((d.peers : Int) : Int)))))) (b := (((((c.made : Int) == (d.made : Int)) && (((c.life : Int) == (d.life : Int)))) && ((((c.mine : Int) : Int) == ((d.mine : Int) : Int)))) && ((((c.peers : Int) : Int) == ((d.peers : Int) : Int))))) (want := true) hgb (want_t _) (fun hc => ?_) (fun hc => under_no hc)
          exact give_of (by simp [execOp, h1, go_sem]) ⟨Ext.refl _, under_yes hc⟩
        refine GoodAll.cons ?_ ?_
        · intro r wx hR hx
          obtain ⟨h1, _⟩ := hx
          replace h1 : Under (((((((c.made : Int) == (d.made : Int)) && (((c.life : Int) == (d.life : Int)))) && ((((c.mine : Int) : Int) == ((d.mine : Int) : Int)))) && ((((c.peers : Int) : Int) == ((d.peers : Int) : Int)))))) (.pointer (some ⟨w1.heap.size, 4, none⟩)) wx (r (.tmp 60)) := h1
          intro gb hgb
          refine guard_u (C := ((((((c.made : Int) == (d.made : Int)) && (((c.life : Int) == (d.life : Int)))) && ((((c.mine : Int) : Int) == ((d.mine : Int) : Int)))) && ((((c.peers : Int) : Int) == ((d.peers : Int) : Int)))))) (b := (((((c.made : Int) == (d.made : Int)) && (((c.life : Int) == (d.life : Int)))) && ((((c.mine : Int) : Int) == ((d.mine : Int) : Int)))) && ((((c.peers : Int) : Int) == ((d.peers : Int) : Int))))) (want := true) hgb (want_t _) (fun hc => ?_) (fun hc => under_no hc)
          replace h1 := h1.get hc
          exact give_of (exec_get one22 rfl h1 (kv4 (hB2.ext hR))) ⟨Ext.refl _, under_yes hc⟩
        refine GoodAll.cons ?_ ?_
        · intro r wx hR hx
          obtain ⟨h1, h2, _⟩ := hx
          replace h1 : Under (((((((c.made : Int) == (d.made : Int)) && (((c.life : Int) == (d.life : Int)))) && ((((c.mine : Int) : Int) == ((d.mine : Int) : Int)))) && ((((c.peers : Int) : Int) == ((d.peers : Int) : Int)))))) (.int .u32 (c.mtsn : Int)) wx (r (.tmp 59)) := h1
          replace h2 : Under (((((((c.made : Int) == (d.made : Int)) && (((c.life : Int) == (d.life : Int)))) && ((((c.mine : Int) : Int) == ((d.mine : Int) : Int)))) && ((((c.peers : Int) : Int) == ((d.peers : Int) : Int)))))) (.int .u32 (d.mtsn : Int)) wx (r (.tmp 61)) := h2
          intro gb hgb
          refine guard_u (C := ((((((c.made : Int) == (d.made : Int)) && (((c.life : Int) == (d.life : Int)))) && ((((c.mine : Int) : Int) == ((d.mine : Int) : Int)))) && ((((c.peers : Int) : Int) == ((d.peers : Int) : Int)))))) (b := (((((c.made : Int) == (d.made : Int)) && (((c.life : Int) == (d.life : Int)))) && ((((c.mine : Int) : Int) == ((d.mine : Int) : Int)))) && ((((c.peers : Int) : Int) == ((d.peers : Int) : Int))))) (want := true) hgb (want_t _) (fun hc => ?_) (fun hc => under_no hc)
          replace h1 := h1.get hc
          replace h2 := h2.get hc
          exact give_of (by simp [execOp, h1, h2, go_sem]) ⟨Ext.refl _, under_yes hc⟩
        refine GoodAll.cons ?_ ?_
        · intro r wx hR hx
          obtain ⟨h1, h2, h3, _⟩ := hx
          replace h1 : r (.tmp 57) = .bool (((((c.made : Int) == (d.made : Int)) && (((c.life : Int) == (d.life : Int)))) && ((((c.mine : Int) : Int) == ((d.mine : Int) : Int)))) && ((((c.peers : Int) : Int) == ((d.peers : Int) : Int)))) := h1
          replace h2 : Under (((((((c.made : Int) == (d.made : Int)) && (((c.life : Int) == (d.life : Int)))) && ((((c.mine : Int) : Int) == ((d.mine : Int) : Int)))) && ((((c.peers : Int) : Int) == ((d.peers : Int) : Int)))))) (.bool (((c.mtsn : Int) : Int) == ((d.mtsn : Int) : Int))) wx (r (.tmp 62)) := h2
          replace h3 : r (.const (.bool false)) = .bool false := h3
          exact give_and rfl h3 h1 (fun hb => h2.get (by first | exact hb | (rw [hc, hb]; rfl) | (rw [hb]; rfl))) ⟨Ext.refl _, rfl⟩
        refine GoodAll.cons ?_ ?_
        · intro r wx hR hx
          obtain ⟨h1, _⟩ := hx
          replace h1 : r (.tmp 63) = .bool ((((((c.made : Int) == (d.made : Int)) && (((c.life : Int) == (d.life : Int)))) && ((((c.mine : Int) : Int) == ((d.mine : Int) : Int)))) && ((((c.peers : Int) : Int) == ((d.peers : Int) : Int)))) && ((((c.mtsn : Int) : Int) == ((d.mtsn : Int) : Int)))) := h1
          exact give_move (.inl rfl) ⟨Ext.refl _, h1⟩
        refine GoodAll.cons ?_ ?_
        · intro r wx hR hx
          obtain ⟨h1, _⟩ := hx
          replace h1 : r (.tmp 2) = .pointer (some ⟨w.heap.size, 0, none⟩) := h1
          intro gb hgb
          refine guard_u (C := (((((((c.made : Int) == (d.made : Int)) && (((c.life : Int) == (d.life : Int)))) && ((((c.mine : Int) : Int) == ((d.mine : Int) : Int)))) && ((((c.peers : Int) : Int) == ((d.peers : Int) : Int)))) && ((((c.mtsn : Int) : Int) == ((d.mtsn : Int) : Int)))))) (b := ((((((c.made : Int) == (d.made : Int)) && (((c.life : Int) == (d.life : Int)))) && ((((c.mine : Int) : Int) == ((d.mine : Int) : Int)))) && ((((c.peers : Int) : Int) == ((d.peers : Int) : Int)))) && ((((c.mtsn : Int) : Int) == ((d.mtsn : Int) : Int))))) (want := true) hgb (want_t _) (fun hc => ?_) (fun hc => under_no hc)
          exact give_of (by simp [execOp, h1, go_sem]) ⟨Ext.refl _, under_yes hc⟩
        refine GoodAll.cons ?_ ?_
        · intro r wx hR hx
          obtain ⟨h1, _⟩ := hx
          replace h1 : Under ((((((((c.made : Int) == (d.made : Int)) && (((c.life : Int) == (d.life : Int)))) && ((((c.mine : Int) : Int) == ((d.mine : Int) : Int)))) && ((((c.peers : Int) : Int) == ((d.peers : Int) : Int)))) && ((((c.mtsn : Int) : Int) == ((d.mtsn : Int) : Int)))))) (.pointer (some ⟨w.heap.size, 5, none⟩)) wx (r (.tmp 65)) := h1
          intro gb hgb
          refine guard_u (C := (((((((c.made : Int) == (d.made : Int)) && (((c.life : Int) == (d.life : Int)))) && ((((c.mine : Int) : Int) == ((d.mine : Int) : Int)))) && ((((c.peers : Int) : Int) == ((d.peers : Int) : Int)))) && ((((c.mtsn : Int) : Int) == ((d.mtsn : Int) : Int)))))) (b := ((((((c.made : Int) == (d.made : Int)) && (((c.life : Int) == (d.life : Int)))) && ((((c.mine : Int) : Int) == ((d.mine : Int) : Int)))) && ((((c.peers : Int) : Int) == ((d.peers : Int) : Int)))) && ((((c.mtsn : Int) : Int) == ((d.mtsn : Int) : Int))))) (want := true) hgb (want_t _) (fun hc => ?_) (fun hc => under_no hc)
          replace h1 := h1.get hc
          exact give_of (exec_get one22 rfl h1 (kv5 (hB1.ext hR))) ⟨Ext.refl _, under_yes hc⟩
        refine GoodAll.cons ?_ ?_
        · intro r wx hR hx
          obtain ⟨h1, _⟩ := hx
          replace h1 : r (.tmp 3) = .pointer (some ⟨w1.heap.size, 0, none⟩) := h1
          intro gb hgb
          refine guard_u (C := (((((((c.made : Int) == (d.made : Int)) && (((c.life : Int) == (d.life : Int)))) && ((((c.mine : Int) : Int) == ((d.mine : Int) : Int)))) && ((((c.peers : Int) : Int) == ((d.peers : Int) : Int)))) && ((((c.mtsn : Int) : Int) == ((d.mtsn : Int) : Int)))))) (b := ((((((c.made : Int) == (d.made : Int)) && (((c.life : Int) == (d.life : Int)))) && ((((c.mine : Int) : Int) == ((d.mine : Int) : Int)))) && ((((c.peers : Int) : Int) == ((d.peers : Int) : Int)))) && ((((c.mtsn : Int) : Int) == ((d.mtsn : Int) : Int))))) (want := true) hgb (want_t _) (fun hc => ?_) (fun hc => under_no hc)
          exact give_of (by simp [execOp, h1, go_sem]) ⟨Ext.refl _, under_yes hc⟩
        refine GoodAll.cons ?_ ?_
        · intro r wx hR hx
          obtain ⟨h1, _⟩ := hx
          replace h1 : Under ((((((((c.made : Int) == (d.made : Int)) && (((c.life : Int) == (d.life : Int)))) && ((((c.mine : Int) : Int) == ((d.mine : Int) : Int)))) && ((((c.peers : Int) : Int) == ((d.peers : Int) : Int)))) && ((((c.mtsn : Int) : Int) == ((d.mtsn : Int) : Int)))))) (.pointer (some ⟨w1.heap.size, 5, none⟩)) wx (r (.tmp 67)) := h1
          intro gb hgb
          refine guard_u (C := (((((((c.made : Int) == (d.made : Int)) && (((c.life : Int) == (d.life : Int)))) && ((((c.mine : Int) : Int) == ((d.mine : Int) : Int)))) && ((((c.peers : Int) : Int) == ((d.peers : Int) : Int)))) && ((((c.mtsn : Int) : Int) == ((d.mtsn : Int) : Int)))))) (b := ((((((c.made : Int) == (d.made : Int)) && (((c.life : Int) == (d.life : Int)))) && ((((c.mine : Int) : Int) == ((d.mine : Int) : Int)))) && ((((c.peers : Int) : Int) == ((d.peers : Int) : Int)))) && ((((c.mtsn : Int) : Int) == ((d.mtsn : Int) : Int))))) (want := true) hgb (want_t _) (fun hc => ?_) (fun hc => under_no hc)
          replace h1 := h1.get hc
          exact give_of (exec_get one22 rfl h1 (kv5 (hB2.ext hR))) ⟨Ext.refl _, under_yes hc⟩
        refine GoodAll.cons ?_ ?_
        · intro r wx hR hx
          obtain ⟨h1, h2, _⟩ := hx
          replace h1 : Under ((((((((c.made : Int) == (d.made : Int)) && (((c.life : Int) == (d.life : Int)))) && ((((c.mine : Int) : Int) == ((d.mine : Int) : Int)))) && ((((c.peers : Int) : Int) == ((d.peers : Int) : Int)))) && ((((c.mtsn : Int) : Int) == ((d.mtsn : Int) : Int)))))) (.int .u32 (c.ptsn : Int)) wx (r (.tmp 66)) := h1
          replace h2 : Under ((((((((c.made : Int) == (d.made : Int)) && (((c.life : Int) == (d.life : Int)))) && ((((c.mine : Int) : Int) == ((d.mine : Int) : Int)))) && ((((c.peers : Int) : Int) == ((d.peers : Int) : Int)))) && ((((c.mtsn : Int) : Int) == ((d.mtsn : Int) : Int)))))) (.int .u32 (d.ptsn : Int)) wx (r (.tmp 68)) := h2
          intro gb hgb
          refine guard_u (C := (((((((c.made : Int) == (d.made : Int)) && (((c.life : Int) == (d.life : Int)))) && ((((c.mine : Int) : Int) == ((d.mine : Int) : Int)))) && ((((c.peers : Int) : Int) == ((d.peers : Int) : Int)))) && ((((c.mtsn : Int) : Int) == ((d.mtsn : Int) : Int)))))) (b := ((((((c.made : Int) == (d.made : Int)) && (((c.life : Int) == (d.life : Int)))) && ((((c.mine : Int) : Int) == ((d.mine : Int) : Int)))) && ((((c.peers : Int) : Int) == ((d.peers : Int) : Int)))) && ((((c.mtsn : Int) : Int) == ((d.mtsn : Int) : Int))))) (want := true) hgb (want_t _) (fun hc => ?_) (fun hc => under_no hc)
          replace h1 := h1.get hc
          replace h2 := h2.get hc
          exact give_of (by simp [execOp, h1, h2, go_sem]) ⟨Ext.refl _, under_yes hc⟩
        refine GoodAll.cons ?_ ?_
        · intro r wx hR hx
          obtain ⟨h1, h2, h3, _⟩ := hx
          replace h1 : r (.tmp 64) = .bool ((((((c.made : Int) == (d.made : Int)) && (((c.life : Int) == (d.life : Int)))) && ((((c.mine : Int) : Int) == ((d.mine : Int) : Int)))) && ((((c.peers : Int) : Int) == ((d.peers : Int) : Int)))) && ((((c.mtsn : Int) : Int) == ((d.mtsn : Int) : Int)))) := h1
          replace h2 : Under ((((((((c.made : Int) == (d.made : Int)) && (((c.life : Int) == (d.life : Int)))) && ((((c.mine : Int) : Int) == ((d.mine : Int) : Int)))) && ((((c.peers : Int) : Int) == ((d.peers : Int) : Int)))) && ((((c.mtsn : Int) : Int) == ((d.mtsn : Int) : Int)))))) (.bool (((c.ptsn : Int) : Int) == ((d.ptsn : Int) : Int))) wx (r (.tmp 69)) := h2
          replace h3 : r (.const (.bool false)) = .bool false := h3
          exact give_and rfl h3 h1 (fun hb => h2.get (by first | exact hb | (rw [hc, hb]; rfl) | (rw [hb]; rfl))) ⟨Ext.refl _, rfl⟩
        refine GoodAll.cons ?_ ?_
        · intro r wx hR hx
          obtain ⟨h1, _⟩ := hx
          replace h1 : r (.tmp 70) = .bool (((((((c.made : Int) == (d.made : Int)) && (((c.life : Int) == (d.life : Int)))) && ((((c.mine : Int) : Int) == ((d.mine : Int) : Int)))) && ((((c.peers : Int) : Int) == ((d.peers : Int) : Int)))) && ((((c.mtsn : Int) : Int) == ((d.mtsn : Int) : Int)))) && ((((c.ptsn : Int) : Int) == ((d.ptsn : Int) : Int)))) := h1
          exact give_move (.inl rfl) ⟨Ext.refl _, h1⟩
        refine GoodAll.cons ?_ ?_
        · intro r wx hR hx
          obtain ⟨h1, _⟩ := hx
          replace h1 : r (.tmp 2) = .pointer (some ⟨w.heap.size, 0, none⟩) := h1
          intro gb hgb
          refine guard_u (C := ((((((((c.made : Int) == (d.made : Int)) && (((c.life : Int) == (d.life : Int)))) && ((((c.mine : Int) : Int) == ((d.mine : Int) : Int)))) && ((((c.peers : Int) : Int) == ((d.peers : Int) : Int)))) && ((((c.mtsn : Int) : Int) == ((d.mtsn : Int) : Int)))) && ((((c.ptsn : Int) : Int) == ((d.ptsn : Int) : Int)))))) (b := (((((((c.made : Int) == (d.made : Int)) && (((c.life : Int) == (d.life : Int)))) && ((((c.mine : Int) : Int) == ((d.mine : Int) : Int)))) && ((((c.peers : Int) : Int) == ((d.peers : Int) : Int)))) && ((((c.mtsn : Int) : Int) == ((d.mtsn : Int) : Int)))) && ((((c.ptsn : Int) : Int) == ((d.ptsn : Int) : Int))))) (want := true) hgb (want_t _) (fun hc => ?_) (fun hc => under_no hc)
          exact give_of (by simp [execOp, h1, go_sem]) ⟨Ext.refl _, under_yes hc⟩
        refine GoodAll.cons ?_ ?_
        · intro r wx hR hx
          obtain ⟨h1, _⟩ := hx
          replace h1 : Under (((((((((c.made : Int) == (d.made : Int)) && (((c.life : Int) == (d.life : Int)))) && ((((c.mine : Int) : Int) == ((d.mine : Int) : Int)))) && ((((c.peers : Int) : Int) == ((d.peers : Int) : Int)))) && ((((c.mtsn : Int) : Int) == ((d.mtsn : Int) : Int)))) && ((((c.ptsn : Int) : Int) == ((d.ptsn : Int) : Int)))))) (.pointer (some ⟨w.heap.size, 6, none⟩)) wx (r (.tmp 72)) := h1
          intro gb hgb
          refine guard_u (C := ((((((((c.made : Int) == (d.made : Int)) && (((c.life : Int) == (d.life : Int)))) && ((((c.mine : Int) : Int) == ((d.mine : Int) : Int)))) && ((((c.peers : Int) : Int) == ((d.peers : Int) : Int)))) && ((((c.mtsn : Int) : Int) == ((d.mtsn : Int) : Int)))) && ((((c.ptsn : Int) : Int) == ((d.ptsn : Int) : Int)))))) (b := (((((((c.made : Int) == (d.made : Int)) && (((c.life : Int) == (d.life : Int)))) && ((((c.mine : Int) : Int) == ((d.mine : Int) : Int)))) && ((((c.peers : Int) : Int) == ((d.peers : Int) : Int)))) && ((((c.mtsn : Int) : Int) == ((d.mtsn : Int) : Int)))) && ((((c.ptsn : Int) : Int) == ((d.ptsn : Int) : Int))))) (want := true) hgb (want_t _) (fun hc => ?_) (fun hc => under_no hc)
          replace h1 := h1.get hc
          exact give_of (exec_get one3 rfl h1 (kv6 (hB1.ext hR))) ⟨Ext.refl _, under_yes hc⟩
        refine GoodAll.cons ?_ ?_
        · intro r wx hR hx
          obtain ⟨h1, _⟩ := hx
          replace h1 : r (.tmp 3) = .pointer (some ⟨w1.heap.size, 0, none⟩) := h1
          intro gb hgb
          refine guard_u (C := ((((((((c.made : Int) == (d.made : Int)) && (((c.life : Int) == (d.life : Int)))) && ((((c.mine : Int) : Int) == ((d.mine : Int) : Int)))) && ((((c.peers : Int) : Int) == ((d.peers : Int) : Int)))) && ((((c.mtsn : Int) : Int) == ((d.mtsn : Int) : Int)))) && ((((c.ptsn : Int) : Int) == ((d.ptsn : Int) : Int)))))) (b := (((((((c.made : Int) == (d.made : Int)) && (((c.life : Int) == (d.life : Int)))) && ((((c.mine : Int) : Int) == ((d.mine : Int) : Int)))) && ((((c.peers : Int) : Int) == ((d.peers : Int) : Int)))) && ((((c.mtsn : Int) : Int) == ((d.mtsn : Int) : Int)))) && ((((c.ptsn : Int) : Int) == ((d.ptsn : Int) : Int))))) (want := true) hgb (want_t _) (fun hc => ?_) (fun hc => under_no hc)
          exact give_of (by simp [execOp, h1, go_sem]) ⟨Ext.refl _, under_yes hc⟩
        refine GoodAll.cons ?_ ?_
        · intro r wx hR hx
          obtain ⟨h1, _⟩ := hx
          replace h1 : Under (((((((((c.made : Int) == (d.made : Int)) && (((c.life : Int) == (d.life : Int)))) && ((((c.mine : Int) : Int) == ((d.mine : Int) : Int)))) && ((((c.peers : Int) : Int) == ((d.peers : Int) : Int)))) && ((((c.mtsn : Int) : Int) == ((d.mtsn : Int) : Int)))) && ((((c.ptsn : Int) : Int) == ((d.ptsn : Int) : Int)))))) (.pointer (some ⟨w1.heap.size, 6, none⟩)) wx (r (.tmp 74)) := h1
          intro gb hgb
          refine guard_u (C := ((((((((c.made : Int) == (d.made : Int)) && (((c.life : Int) == (d.life : Int)))) && ((((c.mine : Int) : Int) == ((d.mine : Int) : Int)))) && ((((c.peers : Int) : Int) == ((d.peers : Int) : Int)))) && ((((c.mtsn : Int) : Int) == ((d.mtsn : Int) : Int)))) && ((((c.ptsn : Int) : Int) == ((d.ptsn : Int) : Int)))))) (b := (((((((c.made : Int) == (d.made : Int)) && (((c.life : Int) == (d.life : Int)))) && ((((c.mine : Int) : Int) == ((d.mine : Int) : Int)))) && ((((c.peers : Int) : Int) == ((d.peers : Int) : Int)))) && ((((c.mtsn : Int) : Int) == ((d.mtsn : Int) : Int)))) && ((((c.ptsn : Int) : Int) == ((d.ptsn : Int) : Int))))) (want := true) hgb (want_t _) (fun hc => ?_) (fun hc => under_no hc)
          replace h1 := h1.get hc
          exact give_of (exec_get one3 rfl h1 (kv6 (hB2.ext hR))) ⟨Ext.refl _, under_yes hc⟩
        refine GoodAll.cons ?_ ?_
        · intro r wx hR hx
          obtain ⟨h1, h2, _⟩ := hx
          replace h1 : Under (((((((((c.made : Int) == (d.made : Int)) && (((c.life : Int) == (d.life : Int)))) && ((((c.mine : Int) : Int) == ((d.mine : Int) : Int)))) && ((((c.peers : Int) : Int) == ((d.peers : Int) : Int)))) && ((((c.mtsn : Int) : Int) == ((d.mtsn : Int) : Int)))) && ((((c.ptsn : Int) : Int) == ((d.ptsn : Int) : Int)))))) (.int .i64 c.win) wx (r (.tmp 73)) := h1
          replace h2 : Under (((((((((c.made : Int) == (d.made : Int)) && (((c.life : Int) == (d.life : Int)))) && ((((c.mine : Int) : Int) == ((d.mine : Int) : Int)))) && ((((c.peers : Int) : Int) == ((d.peers : Int) : Int)))) && ((((c.mtsn : Int) : Int) == ((d.mtsn : Int) : Int)))) && ((((c.ptsn : Int) : Int) == ((d.ptsn : Int) : Int)))))) (.int .i64 d.win) wx (r (.tmp 75)) := h2
          intro gb hgb
          refine guard_u (C := ((((((((c.made : Int) == (d.made : Int)) && (((c.life : Int) == (d.life : Int)))) && ((((c.mine : Int) : Int) == ((d.mine : Int) : Int)))) && ((((c.peers : Int) : Int) == ((d.peers : Int) : Int)))) && ((((c.mtsn : Int) : Int) == ((d.mtsn : Int) : Int)))) && ((((c.ptsn : Int) : Int) == ((d.ptsn : Int) : Int)))))) (b := (((((((c.made : Int) == (d.made : Int)) && (((c.life : Int) == (d.life : Int)))) && ((((c.mine : Int) : Int) == ((d.mine : Int) : Int)))) && ((((c.peers : Int) : Int) == ((d.peers : Int) : Int)))) && ((((c.mtsn : Int) : Int) == ((d.mtsn : Int) : Int)))) && ((((c.ptsn : Int) : Int) == ((d.ptsn : Int) : Int))))) (want := true) hgb (want_t _) (fun hc => ?_) (fun hc => under_no hc)
          replace h1 := h1.get hc
          replace h2 := h2.get hc
          exact give_of (by simp [execOp, h1, h2, go_sem]) ⟨Ext.refl _, under_yes hc⟩
        refine GoodAll.cons ?_ ?_
        · intro r wx hR hx
          obtain ⟨h1, h2, h3, _⟩ := hx
          replace h1 : r (.tmp 71) = .bool (((((((c.made : Int) == (d.made : Int)) && (((c.life : Int) == (d.life : Int)))) && ((((c.mine : Int) : Int) == ((d.mine : Int) : Int)))) && ((((c.peers : Int) : Int) == ((d.peers : Int) : Int)))) && ((((c.mtsn : Int) : Int) == ((d.mtsn : Int) : Int)))) && ((((c.ptsn : Int) : Int) == ((d.ptsn : Int) : Int)))) := h1
          replace h2 : Under (((((((((c.made : Int) == (d.made : Int)) && (((c.life : Int) == (d.life : Int)))) && ((((c.mine : Int) : Int) == ((d.mine : Int) : Int)))) && ((((c.peers : Int) : Int) == ((d.peers : Int) : Int)))) && ((((c.mtsn : Int) : Int) == ((d.mtsn : Int) : Int)))) && ((((c.ptsn : Int) : Int) == ((d.ptsn : Int) : Int)))))) (.bool ((c.win : Int) == (d.win : Int))) wx (r (.tmp 76)) := h2
          replace h3 : r (.const (.bool false)) = .bool false := h3
          exact give_and rfl h3 h1 (fun hb => h2.get (by first | exact hb | (rw [hc, hb]; rfl) | (rw [hb]; rfl))) ⟨Ext.refl _, rfl⟩
        refine GoodAll.cons ?_ ?_
        · intro r wx hR hx
          obtain ⟨h1, _⟩ := hx
          replace h1 : r (.tmp 77) = .bool ((((((((c.made : Int) == (d.made : Int)) && (((c.life : Int) == (d.life : Int)))) && ((((c.mine : Int) : Int) == ((d.mine : Int) : Int)))) && ((((c.peers : Int) : Int) == ((d.peers : Int) : Int)))) && ((((c.mtsn : Int) : Int) == ((d.mtsn : Int) : Int)))) && ((((c.ptsn : Int) : Int) == ((d.ptsn : Int) : Int)))) && (((c.win : Int) == (d.win : Int)))) := h1
          exact give_move (.inl rfl) ⟨Ext.refl _, h1⟩
        refine GoodAll.cons ?_ ?_
        · intro r wx hR hx
          obtain ⟨h1, _⟩ := hx
          replace h1 : r (.tmp 2) = .pointer (some ⟨w.heap.size, 0, none⟩) := h1
          intro gb hgb
          refine guard_u (C := (((((((((c.made : Int) == (d.made : Int)) && (((c.life : Int) == (d.life : Int)))) && ((((c.mine : Int) : Int) == ((d.mine : Int) : Int)))) && ((((c.peers : Int) : Int) == ((d.peers : Int) : Int)))) && ((((c.mtsn : Int) : Int) == ((d.mtsn : Int) : Int)))) && ((((c.ptsn : Int) : Int) == ((d.ptsn : Int) : Int)))) && (((c.win : Int) == (d.win : Int)))))) (b := ((((((((c.made : Int) == (d.made : Int)) && (((c.life : Int) == (d.life : Int)))) && ((((c.mine : Int) : Int) == ((d.mine : Int) : Int)))) && ((((c.peers : Int) : Int) == ((d.peers : Int) : Int)))) && ((((c.mtsn : Int) : Int) == ((d.mtsn : Int) : Int)))) && ((((c.ptsn : Int) : Int) == ((d.ptsn : Int) : Int)))) && (((c.win : Int) == (d.win : Int))))) (want := true) hgb (want_t _) (fun hc => ?_) (fun hc => under_no hc)
          exact give_of (by simp [execOp, h1, go_sem]) ⟨Ext.refl _, under_yes hc⟩
        refine GoodAll.cons ?_ ?_
        · intro r wx hR hx
          obtain ⟨h1, _⟩ := hx
          replace h1 : Under ((((((((((c.made : Int) == (d.made : Int)) && (((c.life : Int) == (d.life : Int)))) && ((((c.mine : Int) : Int) == ((d.mine : Int) : Int)))) && ((((c.peers : Int) : Int) == ((d.peers : Int) : Int)))) && ((((c.mtsn : Int) : Int) == ((d.mtsn : Int) : Int)))) && ((((c.ptsn : Int) : Int) == ((d.ptsn : Int) : Int)))) && (((c.win : Int) == (d.win : Int)))))) (.pointer (some ⟨w.heap.size, 7, none⟩)) wx (r (.tmp 79)) := h1
          intro gb hgb
          refine guard_u (C := (((((((((c.made : Int) == (d.made : Int)) && (((c.life : Int) == (d.life : Int)))) && ((((c.mine : Int) : Int) == ((d.mine : Int) : Int)))) && ((((c.peers : Int) : Int) == ((d.peers : Int) : Int)))) && ((((c.mtsn : Int) : Int) == ((d.mtsn : Int) : Int)))) && ((((c.ptsn : Int) : Int) == ((d.ptsn : Int) : Int)))) && (((c.win : Int) == (d.win : Int)))))) (b := ((((((((c.made : Int) == (d.made : Int)) && (((c.life : Int) == (d.life : Int)))) && ((((c.mine : Int) : Int) == ((d.mine : Int) : Int)))) && ((((c.peers : Int) : Int) == ((d.peers : Int) : Int)))) && ((((c.mtsn : Int) : Int) == ((d.mtsn : Int) : Int)))) && ((((c.ptsn : Int) : Int) == ((d.ptsn : Int) : Int)))) && (((c.win : Int) == (d.win : Int))))) (want := true) hgb (want_t _) (fun hc => ?_) (fun hc => under_no hc)
          replace h1 := h1.get hc
          exact give_of (exec_get one3 rfl h1 (kv7 (hB1.ext hR))) ⟨Ext.refl _, under_yes hc⟩
        refine GoodAll.cons ?_ ?_
        · intro r wx hR hx
          obtain ⟨h1, _⟩ := hx
          replace h1 : r (.tmp 3) = .pointer (some ⟨w1.heap.size, 0, none⟩) := h1
          intro gb hgb
          refine guard_u (C := (((((((((c.made : Int) == (d.made : Int)) && (((c.life : Int) == (d.life : Int)))) && ((((c.mine : Int) : Int) == ((d.mine : Int) : Int)))) && ((((c.peers : Int) : Int) == ((d.peers : Int) : Int)))) && ((((c.mtsn : Int) : Int) == ((d.mtsn : Int) : Int)))) && ((((c.ptsn : Int) : Int) == ((d.ptsn : Int) : Int)))) && (((c.win : Int) == (d.win : Int)))))) (b := ((((((((c.made : Int) == (d.made : Int)) && (((c.life : Int) == (d.life : Int)))) && ((((c.mine : Int) : Int) == ((d.mine : Int) : Int)))) && ((((c.peers : Int) : Int) == ((d.peers : Int) : Int)))) && ((((c.mtsn : Int) : Int) == ((d.mtsn : Int) : Int)))) && ((((c.ptsn : Int) : Int) == ((d.ptsn : Int) : Int)))) && (((c.win : Int) == (d.win : Int))))) (want := true) hgb (want_t _) (fun hc => ?_) (fun hc => under_no hc)
          exact give_of (by simp [execOp, h1, go_sem]) ⟨Ext.refl _, under_yes hc⟩
        refine GoodAll.cons ?_ ?_
        · intro r wx hR hx
          obtain ⟨h1, _⟩ := hx
          replace h1 : Under ((((((((((c.made : Int) == (d.made : Int)) && (((c.life : Int) == (d.life : Int)))) && ((((c.mine : Int) : Int) == ((d.mine : Int) : Int)))) && ((((c.peers : Int) : Int) == ((d.peers : Int) : Int)))) && ((((c.mtsn : Int) : Int) == ((d.mtsn : Int) : Int)))) && ((((c.ptsn : Int) : Int) == ((d.ptsn : Int) : Int)))) && (((c.win : Int) == (d.win : Int)))))) (.pointer (some ⟨w1.heap.size, 7, none⟩)) wx (r (.tmp 81)) := h1
          intro gb hgb
          refine guard_u (C := (((((((((c.made : Int) == (d.made : Int)) && (((c.life : Int) == (d.life : Int)))) && ((((c.mine : Int) : Int) == ((d.mine : Int) : Int)))) && ((((c.peers : Int) : Int) == ((d.peers : Int) : Int)))) && ((((c.mtsn : Int) : Int) == ((d.mtsn : Int) : Int)))) && ((((c.ptsn : Int) : Int) == ((d.ptsn : Int) : Int)))) && (((c.win : Int) == (d.win : Int)))))) (b := ((((((((c.made : Int) == (d.made : Int)) && (((c.life : Int) == (d.life : Int)))) && ((((c.mine : Int) : Int) == ((d.mine : Int) : Int)))) && ((((c.peers : Int) : Int) == ((d.peers : Int) : Int)))) && ((((c.mtsn : Int) : Int) == ((d.mtsn : Int) : Int)))) && ((((c.ptsn : Int) : Int) == ((d.ptsn : Int) : Int)))) && (((c.win : Int) == (d.win : Int))))) (want := true) hgb (want_t _) (fun hc => ?_) (fun hc => under_no hc)
          replace h1 := h1.get hc
          exact give_of (exec_get one3 rfl h1 (kv7 (hB2.ext hR))) ⟨Ext.refl _, under_yes hc⟩
        refine GoodAll.cons ?_ ?_
        · intro r wx hR hx
          obtain ⟨h1, h2, _⟩ := hx
          replace h1 : Under ((((((((((c.made : Int) == (d.made : Int)) && (((c.life : Int) == (d.life : Int)))) && ((((c.mine : Int) : Int) == ((d.mine : Int) : Int)))) && ((((c.peers : Int) : Int) == ((d.peers : Int) : Int)))) && ((((c.mtsn : Int) : Int) == ((d.mtsn : Int) : Int)))) && ((((c.ptsn : Int) : Int) == ((d.ptsn : Int) : Int)))) && (((c.win : Int) == (d.win : Int)))))) (.int .i64 c.out) wx (r (.tmp 80)) := h1
          replace h2 : Under ((((((((((c.made : Int) == (d.made : Int)) && (((c.life : Int) == (d.life : Int)))) && ((((c.mine : Int) : Int) == ((d.mine : Int) : Int)))) && ((((c.peers : Int) : Int) == ((d.peers : Int) : Int)))) && ((((c.mtsn : Int) : Int) == ((d.mtsn : Int) : Int)))) && ((((c.ptsn : Int) : Int) == ((d.ptsn : Int) : Int)))) && (((c.win : Int) == (d.win : Int)))))) (.int .i64 d.out) wx (r (.tmp 82)) := h2
          intro gb hgb
          refine guard_u (C := (((((((((c.made : Int) == (d.made : Int)) && (((c.life : Int) == (d.life : Int)))) && ((((c.mine : Int) : Int) == ((d.mine : Int) : Int)))) && ((((c.peers : Int) : Int) == ((d.peers : Int) : Int)))) && ((((c.mtsn : Int) : Int) == ((d.mtsn : Int) : Int)))) && ((((c.ptsn : Int) : Int) == ((d.ptsn : Int) : Int)))) && (((c.win : Int) == (d.win : Int)))))) (b := ((((((((c.made : Int) == (d.made : Int)) && (((c.life : Int) == (d.life : Int)))) && ((((c.mine : Int) : Int) == ((d.mine : Int) : Int)))) && ((((c.peers : Int) : Int) == ((d.peers : Int) : Int)))) && ((((c.mtsn : Int) : Int) == ((d.mtsn : Int) : Int)))) && ((((c.ptsn : Int) : Int) == ((d.ptsn : Int) : Int)))) && (((c.win : Int) == (d.win : Int))))) (want := true) hgb (want_t _) (fun hc => ?_) (fun hc => under_no hc)
          replace h1 := h1.get hc
          replace h2 := h2.get hc
          exact give_of (by simp [execOp, h1, h2, go_sem]) ⟨Ext.refl _, under_yes hc⟩
        refine GoodAll.cons ?_ ?_
        · intro r wx hR hx
          obtain ⟨h1, h2, h3, _⟩ := hx
          replace h1 : r (.tmp 78) = .bool ((((((((c.made : Int) == (d.made : Int)) && (((c.life : Int) == (d.life : Int)))) && ((((c.mine : Int) : Int) == ((d.mine : Int) : Int)))) && ((((c.peers : Int) : Int) == ((d.peers : Int) : Int)))) && ((((c.mtsn : Int) : Int) == ((d.mtsn : Int) : Int)))) && ((((c.ptsn : Int) : Int) == ((d.ptsn : Int) : Int)))) && (((c.win : Int) == (d.win : Int)))) := h1
          replace h2 : Under ((((((((((c.made : Int) == (d.made : Int)) && (((c.life : Int) == (d.life : Int)))) && ((((c.mine : Int) : Int) == ((d.mine : Int) : Int)))) && ((((c.peers : Int) : Int) == ((d.peers : Int) : Int)))) && ((((c.mtsn : Int) : Int) == ((d.mtsn : Int) : Int)))) && ((((c.ptsn : Int) : Int) == ((d.ptsn : Int) : Int)))) && (((c.win : Int) == (d.win : Int)))))) (.bool ((c.out : Int) == (d.out : Int))) wx (r (.tmp 83)) := h2
          replace h3 : r (.const (.bool false)) = .bool false := h3
          exact give_and rfl h3 h1 (fun hb => h2.get (by first | exact hb | (rw [hc, hb]; rfl) | (rw [hb]; rfl))) ⟨Ext.refl _, rfl⟩
        refine GoodAll.cons ?_ ?_
        · intro r wx hR hx
          obtain ⟨h1, _⟩ := hx
          replace h1 : r (.tmp 84) = .bool (((((((((c.made : Int) == (d.made : Int)) && (((c.life : Int) == (d.life : Int)))) && ((((c.mine : Int) : Int) == ((d.mine : Int) : Int)))) && ((((c.peers : Int) : Int) == ((d.peers : Int) : Int)))) && ((((c.mtsn : Int) : Int) == ((d.mtsn : Int) : Int)))) && ((((c.ptsn : Int) : Int) == ((d.ptsn : Int) : Int)))) && (((c.win : Int) == (d.win : Int)))) && (((c.out : Int) == (d.out : Int)))) := h1
          exact give_move (.inl rfl) ⟨Ext.refl _, h1⟩
        refine GoodAll.cons ?_ ?_
        · intro r wx hR hx
          obtain ⟨h1, _⟩ := hx
          replace h1 : r (.tmp 2) = .pointer (some ⟨w.heap.size, 0, none⟩) := h1
          intro gb hgb
          refine guard_u (C := ((((((((((c.made : Int) == (d.made : Int)) && (((c.life : Int) == (d.life : Int)))) && ((((c.mine : Int) : Int) == ((d.mine : Int) : Int)))) && ((((c.peers : Int) : Int) == ((d.peers : Int) : Int)))) && ((((c.mtsn : Int) : Int) == ((d.mtsn : Int) : Int)))) && ((((c.ptsn : Int) : Int) == ((d.ptsn : Int) : Int)))) && (((c.win : Int) == (d.win : Int)))) && (((c.out : Int) == (d.out : Int)))))) (b := (((((((((c.made : Int) == (d.made : Int)) && (((c.life : Int) == (d.life : Int)))) && ((((c.mine : Int) : Int) == ((d.mine : Int) : Int)))) && ((((c.peers : Int) : Int) == ((d.peers : Int) : Int)))) && ((((c.mtsn : Int) : Int) == ((d.mtsn : Int) : Int)))) && ((((c.ptsn : Int) : Int) == ((d.ptsn : Int) : Int)))) && (((c.win : Int) == (d.win : Int)))) && (((c.out : Int) == (d.out : Int))))) (want := true) hgb (want_t _) (fun hc => ?_) (fun hc => under_no hc)
          exact give_of (by simp [execOp, h1, go_sem]) ⟨Ext.refl _, under_yes hc⟩
        refine GoodAll.cons ?_ ?_
        · intro r wx hR hx
          obtain ⟨h1, _⟩ := hx
          replace h1 : Under (((((((((((c.made : Int) == (d.made : Int)) && (((c.life : Int) == (d.life : Int)))) && ((((c.mine : Int) : Int) == ((d.mine : Int) : Int)))) && ((((c.peers : Int) : Int) == ((d.peers : Int) : Int)))) && ((((c.mtsn : Int) : Int) == ((d.mtsn : Int) : Int)))) && ((((c.ptsn : Int) : Int) == ((d.ptsn : Int) : Int)))) && (((c.win : Int) == (d.win : Int)))) && (((c.out : Int) == (d.out : Int)))))) (.pointer (some ⟨w.heap.size, 8, none⟩)) wx (r (.tmp 86)) := h1
          intro gb hgb
          refine guard_u (C := ((((((((((c.made : Int) == (d.made : Int)) && (((c.life : Int) == (d.life : Int)))) && ((((c.mine : Int) : Int) == ((d.mine : Int) : Int)))) && ((((c.peers : Int) : Int) == ((d.peers : Int) : Int)))) && ((((c.mtsn : Int) : Int) == ((d.mtsn : Int) : Int)))) && ((((c.ptsn : Int) : Int) == ((d.ptsn : Int) : Int)))) && (((c.win : Int) == (d.win : Int)))) && (((c.out : Int) == (d.out : Int)))))) (b := (((((((((c.made : Int) == (d.made : Int)) && (((c.life : Int) == (d.life : Int)))) && ((((c.mine : Int) : Int) == ((d.mine : Int) : Int)))) && ((((c.peers : Int) : Int) == ((d.peers : Int) : Int)))) && ((((c.mtsn : Int) : Int) == ((d.mtsn : Int) : Int)))) && ((((c.ptsn : Int) : Int) == ((d.ptsn : Int) : Int)))) && (((c.win : Int) == (d.win : Int)))) && (((c.out : Int) == (d.out : Int))))) (want := true) hgb (want_t _) (fun hc => ?_) (fun hc => under_no hc)
          replace h1 := h1.get hc
          exact give_of (exec_get one3 rfl h1 (kv8 (hB1.ext hR))) ⟨Ext.refl _, under_yes hc⟩
        refine GoodAll.cons ?_ ?_
        · intro r wx hR hx
          obtain ⟨h1, _⟩ := hx
          replace h1 : r (.tmp 3) = .pointer (some ⟨w1.heap.size, 0, none⟩) := h1
          intro gb hgb
          refine guard_u (C := ((((((((((c.made : Int) == (d.made : Int)) && (((c.life : Int) == (d.life : Int)))) && ((((c.mine : Int) : Int) == ((d.mine : Int) : Int)))) && ((((c.peers : Int) : Int) == ((d.peers : Int) : Int)))) && ((((c.mtsn : Int) : Int) == ((d.mtsn : Int) : Int)))) && ((((c.ptsn : Int) : Int) == ((d.ptsn : Int) : Int)))) && (((c.win : Int) == (d.win : Int)))) && (((c.out : Int) == (d.out : Int)))))) (b := (((((((((c.made : Int) == (d.made : Int)) && (((c.life : Int) == (d.life : Int)))) && ((((c.mine : Int) : Int) == ((d.mine : Int) : Int)))) && ((((c.peers : Int) : Int) == ((d.peers : Int) : Int)))) && ((((c.mtsn : Int) : Int) == ((d.mtsn : Int) : Int)))) && ((((c.ptsn : Int) : Int) == ((d.ptsn : Int) : Int)))) && (((c.win : Int) == (d.win : Int)))) && (((c.out : Int) == (d.out : Int))))) (want := true) hgb (want_t _) (fun hc => ?_) (fun hc => under_no hc)
          exact give_of (by simp [execOp, h1, go_sem]) ⟨Ext.refl _, under_yes hc⟩
        refine GoodAll.cons ?_ ?_
        · intro r wx hR hx
          obtain ⟨h1, _⟩ := hx
          replace h1 : Under (((((((((((c.made : Int) == (d.made : Int)) && (((c.life : Int) == (d.life : Int)))) && ((((c.mine : Int) : Int) == ((d.mine : Int) : Int)))) && ((((c.peers : Int) : Int) == ((d.peers : Int) : Int)))) && ((((c.mtsn : Int) : Int) == ((d.mtsn : Int) : Int)))) && ((((c.ptsn : Int) : Int) == ((d.ptsn : Int) : Int)))) && (((c.win : Int) == (d.win : Int)))) && (((c.out : Int) == (d.out : Int)))))) (.pointer (some ⟨w1.heap.size, 8, none⟩)) wx (r (.tmp 88)) := h1
          intro gb hgb
          refine guard_u (C := ((((((((((c.made : Int) == (d.made : Int)) && (((c.life : Int) == (d.life : Int)))) && ((((c.mine : Int) : Int) == ((d.mine : Int) : Int)))) && ((((c.peers : Int) : Int) == ((d.peers : Int) : Int)))) && ((((c.mtsn : Int) : Int) == ((d.mtsn : Int) : Int)))) && ((((c.ptsn : Int) : Int) == ((d.ptsn : Int) : Int)))) && (((c.win : Int) == (d.win : Int)))) && (((c.out : Int) == (d.out : Int)))))) (b := (((((((((c.made : Int) == (d.made : Int)) && (((c.life : Int) == (d.life : Int)))) && ((((c.mine : Int) : Int) == ((d.mine : Int) : Int)))) && ((((c.peers : Int) : Int) == ((d.peers : Int) : Int)))) && ((((c.mtsn : Int) : Int) == ((d.mtsn : Int) : Int)))) && ((((c.ptsn : Int) : Int) == ((d.ptsn : Int) : Int)))) && (((c.win : Int) == (d.win : Int)))) && (((c.out : Int) == (d.out : Int))))) (want := true) hgb (want_t _) (fun hc => ?_) (fun hc => under_no hc)
          replace h1 := h1.get hc
          exact give_of (exec_get one3 rfl h1 (kv8 (hB2.ext hR))) ⟨Ext.refl _, under_yes hc⟩
        refine GoodAll.cons ?_ ?_
        · intro r wx hR hx
          obtain ⟨h1, h2, _⟩ := hx
          replace h1 : Under (((((((((((c.made : Int) == (d.made : Int)) && (((c.life : Int) == (d.life : Int)))) && ((((c.mine : Int) : Int) == ((d.mine : Int) : Int)))) && ((((c.peers : Int) : Int) == ((d.peers : Int) : Int)))) && ((((c.mtsn : Int) : Int) == ((d.mtsn : Int) : Int)))) && ((((c.ptsn : Int) : Int) == ((d.ptsn : Int) : Int)))) && (((c.win : Int) == (d.win : Int)))) && (((c.out : Int) == (d.out : Int)))))) (.int .i64 c.inn) wx (r (.tmp 87)) := h1
          replace h2 : Under (((((((((((c.made : Int) == (d.made : Int)) && (((c.life : Int) == (d.life : Int)))) && ((((c.mine : Int) : Int) == ((d.mine : Int) : Int)))) && ((((c.peers : Int) : Int) == ((d.peers : Int) : Int)))) && ((((c.mtsn : Int) : Int) == ((d.mtsn : Int) : Int)))) && ((((c.ptsn : Int) : Int) == ((d.ptsn : Int) : Int)))) && (((c.win : Int) == (d.win : Int)))) && (((c.out : Int) == (d.out : Int)))))) (.int .i64 d.inn) wx (r (.tmp 89)) := h2
          intro gb hgb
          refine guard_u (C := ((((((((((c.made : Int) == (d.made : Int)) && (((c.life : Int) == (d.life : Int)))) && ((((c.mine : Int) : Int) == ((d.mine : Int) : Int)))) && ((((c.peers : Int) : Int) == ((d.peers : Int) : Int)))) && ((((c.mtsn : Int) : Int) == ((d.mtsn : Int) : Int)))) && ((((c.ptsn : Int) : Int) == ((d.ptsn : Int) : Int)))) && (((c.win : Int) == (d.win : Int)))) && (((c.out : Int) == (d.out : Int)))))) (b := (((((((((c.made : Int) == (d.made : Int)) && (((c.life : Int) == (d.life : Int)))) && ((((c.mine : Int) : Int) == ((d.mine : Int) : Int)))) && ((((c.peers : Int) : Int) == ((d.peers : Int) : Int)))) && ((((c.mtsn : Int) : Int) == ((d.mtsn : Int) : Int)))) && ((((c.ptsn : Int) : Int) == ((d.ptsn : Int) : Int)))) && (((c.win : Int) == (d.win : Int)))) && (((c.out : Int) == (d.out : Int))))) (want := true) hgb (want_t _) (fun hc => ?_) (fun hc => under_no hc)
          replace h1 := h1.get hc
          replace h2 := h2.get hc
          exact give_of (by simp [execOp, h1, h2, go_sem]) ⟨Ext.refl _, under_yes hc⟩
        refine GoodAll.cons ?_ ?_
        · intro r wx hR hx
          obtain ⟨h1, h2, h3, _⟩ := hx
          replace h1 : r (.tmp 85) = .bool (((((((((c.made : Int) == (d.made : Int)) && (((c.life : Int) == (d.life : Int)))) && ((((c.mine : Int) : Int) == ((d.mine : Int) : Int)))) && ((((c.peers : Int) : Int) == ((d.peers : Int) : Int)))) && ((((c.mtsn : Int) : Int) == ((d.mtsn : Int) : Int)))) && ((((c.ptsn : Int) : Int) == ((d.ptsn : Int) : Int)))) && (((c.win : Int) == (d.win : Int)))) && (((c.out : Int) == (d.out : Int)))) := h1
          replace h2 : Under (((((((((((c.made : Int) == (d.made : Int)) && (((c.life : Int) == (d.life : Int)))) && ((((c.mine : Int) : Int) == ((d.mine : Int) : Int)))) && ((((c.peers : Int) : Int) == ((d.peers : Int) : Int)))) && ((((c.mtsn : Int) : Int) == ((d.mtsn : Int) : Int)))) && ((((c.ptsn : Int) : Int) == ((d.ptsn : Int) : Int)))) && (((c.win : Int) == (d.win : Int)))) && (((c.out : Int) == (d.out : Int)))))) (.bool ((c.inn : Int) == (d.inn : Int))) wx (r (.tmp 90)) := h2
          replace h3 : r (.const (.bool false)) = .bool false := h3
          exact give_and rfl h3 h1 (fun hb => h2.get (by first | exact hb | (rw [hc, hb]; rfl) | (rw [hb]; rfl))) ⟨Ext.refl _, rfl⟩
        refine GoodAll.cons ?_ ?_
        · intro r wx hR hx
          obtain ⟨h1, _⟩ := hx
          replace h1 : r (.tmp 91) = .bool ((((((((((c.made : Int) == (d.made : Int)) && (((c.life : Int) == (d.life : Int)))) && ((((c.mine : Int) : Int) == ((d.mine : Int) : Int)))) && ((((c.peers : Int) : Int) == ((d.peers : Int) : Int)))) && ((((c.mtsn : Int) : Int) == ((d.mtsn : Int) : Int)))) && ((((c.ptsn : Int) : Int) == ((d.ptsn : Int) : Int)))) && (((c.win : Int) == (d.win : Int)))) && (((c.out : Int) == (d.out : Int)))) && (((c.inn : Int) == (d.inn : Int)))) := h1
          exact give_move (.inl rfl) ⟨Ext.refl _, h1⟩
        refine GoodAll.cons ?_ ?_
        · intro r wx hR hx
          obtain ⟨h1, _⟩ := hx
          replace h1 : r (.tmp 2) = .pointer (some ⟨w.heap.size, 0, none⟩) := h1
          intro gb hgb
          refine guard_u (C := (((((((((((c.made : Int) == (d.made : Int)) && (((c.life : Int) == (d.life : Int)))) && ((((c.mine : Int) : Int) == ((d.mine : Int) : Int)))) && ((((c.peers : Int) : Int) == ((d.peers : Int) : Int)))) && ((((c.mtsn : Int) : Int) == ((d.mtsn : Int) : Int)))) && ((((c.ptsn : Int) : Int) == ((d.ptsn : Int) : Int)))) && (((c.win : Int) == (d.win : Int)))) && (((c.out : Int) == (d.out : Int)))) && (((c.inn : Int) == (d.inn : Int)))))) (b := ((((((((((c.made : Int) == (d.made : Int)) && (((c.life : Int) == (d.life : Int)))) && ((((c.mine : Int) : Int) == ((d.mine : Int) : Int)))) && ((((c.peers : Int) : Int) == ((d.peers : Int) : Int)))) && ((((c.mtsn : Int) : Int) == ((d.mtsn : Int) : Int)))) && ((((c.ptsn : Int) : Int) == ((d.ptsn : Int) : Int)))) && (((c.win : Int) == (d.win : Int)))) && (((c.out : Int) == (d.out : Int)))) && (((c.inn : Int) == (d.inn : Int))))) (want := true) hgb (want_t _) (fun hc => ?_) (fun hc => under_no hc)
          exact give_of (by simp [execOp, h1, go_sem]) ⟨Ext.refl _, under_yes hc⟩
        refine GoodAll.cons ?_ ?_
        · intro r wx hR hx
          obtain ⟨h1, _⟩ := hx
          replace h1 : Under ((((((((((((c.made : Int) == (d.made : Int)) && (((c.life : Int) == (d.life : Int)))) && ((((c.mine : Int) : Int) == ((d.mine : Int) : Int)))) && ((((c.peers : Int) : Int) == ((d.peers : Int) : Int)))) && ((((c.mtsn : Int) : Int) == ((d.mtsn : Int) : Int)))) && ((((c.ptsn : Int) : Int) == ((d.ptsn : Int) : Int)))) && (((c.win : Int) == (d.win : Int)))) && (((c.out : Int) == (d.out : Int)))) && (((c.inn : Int) == (d.inn : Int)))))) (.pointer (some ⟨w.heap.size, 12, none⟩)) wx (r (.tmp 93)) := h1
          intro gb hgb
          refine guard_u (C := (((((((((((c.made : Int) == (d.made : Int)) && (((c.life : Int) == (d.life : Int)))) && ((((c.mine : Int) : Int) == ((d.mine : Int) : Int)))) && ((((c.peers : Int) : Int) == ((d.peers : Int) : Int)))) && ((((c.mtsn : Int) : Int) == ((d.mtsn : Int) : Int)))) && ((((c.ptsn : Int) : Int) == ((d.ptsn : Int) : Int)))) && (((c.win : Int) == (d.win : Int)))) && (((c.out : Int) == (d.out : Int)))) && (((c.inn : Int) == (d.inn : Int)))))) (b := ((((((((((c.made : Int) == (d.made : Int)) && (((c.life : Int) == (d.life : Int)))) && ((((c.mine : Int) : Int) == ((d.mine : Int) : Int)))) && ((((c.peers : Int) : Int) == ((d.peers : Int) : Int)))) && ((((c.mtsn : Int) : Int) == ((d.mtsn : Int) : Int)))) && ((((c.ptsn : Int) : Int) == ((d.ptsn : Int) : Int)))) && (((c.win : Int) == (d.win : Int)))) && (((c.out : Int) == (d.out : Int)))) && (((c.inn : Int) == (d.inn : Int))))) (want := true) hgb (want_t _) (fun hc => ?_) (fun hc => under_no hc)
          replace h1 := h1.get hc
          exact give_of (exec_get one22 rfl h1 (kv12 (hB1.ext hR))) ⟨Ext.refl _, under_yes hc⟩
        refine GoodAll.cons ?_ ?_
        · intro r wx hR hx
          obtain ⟨h1, _⟩ := hx
          replace h1 : r (.tmp 3) = .pointer (some ⟨w1.heap.size, 0, none⟩) := h1
          intro gb hgb
          refine guard_u (C := (((((((((((c.made : Int) == (d.made : Int)) && (((c.life : Int) == (d.life : Int)))) && ((((c.mine : Int) : Int) == ((d.mine : Int) : Int)))) && ((((c.peers : Int) : Int) == ((d.peers : Int) : Int)))) && ((((c.mtsn : Int) : Int) == ((d.mtsn : Int) : Int)))) && ((((c.ptsn : Int) : Int) == ((d.ptsn : Int) : Int)))) && (((c.win : Int) == (d.win : Int)))) && (((c.out : Int) == (d.out : Int)))) && (((c.inn : Int) == (d.inn : Int)))))) (b := ((((((((((c.made : Int) == (d.made : Int)) && (((c.life : Int) == (d.life : Int)))) && ((((c.mine : Int) : Int) == ((d.mine : Int) : Int)))) && ((((c.peers : Int) : Int) == ((d.peers : Int) : Int)))) && ((((c.mtsn : Int) : Int) == ((d.mtsn : Int) : Int)))) && ((((c.ptsn : Int) : Int) == ((d.ptsn : Int) : Int)))) && (((c.win : Int) == (d.win : Int)))) && (((c.out : Int) == (d.out : Int)))) && (((c.inn : Int) == (d.inn : Int))))) (want := true) hgb (want_t _) (fun hc => ?_) (fun hc => under_no hc)
          exact give_of (by simp [execOp, h1, go_sem]) ⟨Ext.refl _, under_yes hc⟩
        refine GoodAll.cons ?_ ?_
        · intro r wx hR hx
          obtain ⟨h1, _⟩ := hx
          replace h1 : Under ((((((((((((c.made : Int) == (d.made : Int)) && (((c.life : Int) == (d.life : Int)))) && ((((c.mine : Int) : Int) == ((d.mine : Int) : Int)))) && ((((c.peers : Int) : Int) == ((d.peers : Int) : Int)))) && ((((c.mtsn : Int) : Int) == ((d.mtsn : Int) : Int)))) && ((((c.ptsn : Int) : Int) == ((d.ptsn : Int) : Int)))) && (((c.win : Int) == (d.win : Int)))) && (((c.out : Int) == (d.out : Int)))) && (((c.inn : Int) == (d.inn : Int)))))) (.pointer (some ⟨w1.heap.size, 12, none⟩)) wx (r (.tmp 95)) := h1
          intro gb hgb
          refine guard_u (C := (((((((((((c.made : Int) == (d.made : Int)) && (((c.life : Int) == (d.life : Int)))) && ((((c.mine : Int) : Int) == ((d.mine : Int) : Int)))) && ((((c.peers : Int) : Int) == ((d.peers : Int) : Int)))) && ((((c.mtsn : Int) : Int) == ((d.mtsn : Int) : Int)))) && ((((c.ptsn : Int) : Int) == ((d.ptsn : Int) : Int)))) && (((c.win : Int) == (d.win : Int)))) && (((c.out : Int) == (d.out : Int)))) && (((c.inn : Int) == (d.inn : Int)))))) (b := ((((((((((c.made : Int) == (d.made : Int)) && (((c.life : Int) == (d.life : Int)))) && ((((c.mine : Int) : Int) == ((d.mine : Int) : Int)))) && ((((c.peers : Int) : Int) == ((d.peers : Int) : Int)))) && ((((c.mtsn : Int) : Int) == ((d.mtsn : Int) : Int)))) && ((((c.ptsn : Int) : Int) == ((d.ptsn : Int) : Int)))) && (((c.win : Int) == (d.win : Int)))) && (((c.out : Int) == (d.out : Int)))) && (((c.inn : Int) == (d.inn : Int))))) (want := true) hgb (want_t _) (fun hc => ?_) (fun hc => under_no hc)
          replace h1 := h1.get hc
          exact give_of (exec_get one22 rfl h1 (kv12 (hB2.ext hR))) ⟨Ext.refl _, under_yes hc⟩
        refine GoodAll.cons ?_ ?_
        · intro r wx hR hx
          obtain ⟨h1, h2, _⟩ := hx
          replace h1 : Under ((((((((((((c.made : Int) == (d.made : Int)) && (((c.life : Int) == (d.life : Int)))) && ((((c.mine : Int) : Int) == ((d.mine : Int) : Int)))) && ((((c.peers : Int) : Int) == ((d.peers : Int) : Int)))) && ((((c.mtsn : Int) : Int) == ((d.mtsn : Int) : Int)))) && ((((c.ptsn : Int) : Int) == ((d.ptsn : Int) : Int)))) && (((c.win : Int) == (d.win : Int)))) && (((c.out : Int) == (d.out : Int)))) && (((c.inn : Int) == (d.inn : Int)))))) (.int .u32 (c.tm : Int)) wx (r (.tmp 94)) := h1
          replace h2 : Under ((((((((((((c.made : Int) == (d.made : Int)) && (((c.life : Int) == (d.life : Int)))) && ((((c.mine : Int) : Int) == ((d.mine : Int) : Int)))) && ((((c.peers : Int) : Int) == ((d.peers : Int) : Int)))) && ((((c.mtsn : Int) : Int) == ((d.mtsn : Int) : Int)))) && ((((c.ptsn : Int) : Int) == ((d.ptsn : Int) : Int)))) && (((c.win : Int) == (d.win : Int)))) && (((c.out : Int) == (d.out : Int)))) && (((c.inn : Int) == (d.inn : Int)))))) (.int .u32 (d.tm : Int)) wx (r (.tmp 96)) := h2
          intro gb hgb
          refine guard_u (C := (((((((((((c.made : Int) == (d.made : Int)) && (((c.life : Int) == (d.life : Int)))) && ((((c.mine : Int) : Int) == ((d.mine : Int) : Int)))) && ((((c.peers : Int) : Int) == ((d.peers : Int) : Int)))) && ((((c.mtsn : Int) : Int) == ((d.mtsn : Int) : Int)))) && ((((c.ptsn : Int) : Int) == ((d.ptsn : Int) : Int)))) && (((c.win : Int) == (d.win : Int)))) && (((c.out : Int) == (d.out : Int)))) && (((c.inn : Int) == (d.inn : Int)))))) (b := ((((((((((c.made : Int) == (d.made : Int)) && (((c.life : Int) == (d.life : Int)))) && ((((c.mine : Int) : Int) == ((d.mine : Int) : Int)))) && ((((c.peers : Int) : Int) == ((d.peers : Int) : Int)))) && ((((c.mtsn : Int) : Int) == ((d.mtsn : Int) : Int)))) && ((((c.ptsn : Int) : Int) == ((d.ptsn : Int) : Int)))) && (((c.win : Int) == (d.win : Int)))) && (((c.out : Int) == (d.out : Int)))) && (((c.inn : Int) == (d.inn : Int))))) (want := true) hgb (want_t _) (fun hc => ?_) (fun hc => under_no hc)
          replace h1 := h1.get hc
          replace h2 := h2.get hc
          exact give_of (by simp [execOp, h1, h2, go_sem]) ⟨Ext.refl _, under_yes hc⟩
        refine GoodAll.cons ?_ ?_
        · intro r wx hR hx
          obtain ⟨h1, h2, h3, _⟩ := hx
          replace h1 : r (.tmp 92) = .bool ((((((((((c.made : Int) == (d.made : Int)) && (((c.life : Int) == (d.life : Int)))) && ((((c.mine : Int) : Int) == ((d.mine : Int) : Int)))) && ((((c.peers : Int) : Int) == ((d.peers : Int) : Int)))) && ((((c.mtsn : Int) : Int) == ((d.mtsn : Int) : Int)))) && ((((c.ptsn : Int) : Int) == ((d.ptsn : Int) : Int)))) && (((c.win : Int) == (d.win : Int)))) && (((c.out : Int) == (d.out : Int)))) && (((c.inn : Int) == (d.inn : Int)))) := h1
          replace h2 : Under ((((((((((((c.made : Int) == (d.made : Int)) && (((c.life : Int) == (d.life : Int)))) && ((((c.mine : Int) : Int) == ((d.mine : Int) : Int)))) && ((((c.peers : Int) : Int) == ((d.peers : Int) : Int)))) && ((((c.mtsn : Int) : Int) == ((d.mtsn : Int) : Int)))) && ((((c.ptsn : Int) : Int) == ((d.ptsn : Int) : Int)))) && (((c.win : Int) == (d.win : Int)))) && (((c.out : Int) == (d.out : Int)))) && (((c.inn : Int) == (d.inn : Int)))))) (.bool (((c.tm : Int) : Int) == ((d.tm : Int) : Int))) wx (r (.tmp 97)) := h2
          replace h3 : r (.const (.bool false)) = .bool false := h3
          exact give_and rfl h3 h1 (fun hb => h2.get (by first | exact hb | (rw [hc, hb]; rfl) | (rw [hb]; rfl))) ⟨Ext.refl _, rfl⟩
        refine GoodAll.cons ?_ ?_
        · intro r wx hR hx
          obtain ⟨h1, _⟩ := hx
          replace h1 : r (.tmp 98) = .bool (((((((((((c.made : Int) == (d.made : Int)) && (((c.life : Int) == (d.life : Int)))) && ((((c.mine : Int) : Int) == ((d.mine : Int) : Int)))) && ((((c.peers : Int) : Int) == ((d.peers : Int) : Int)))) && ((((c.mtsn : Int) : Int) == ((d.mtsn : Int) : Int)))) && ((((c.ptsn : Int) : Int) == ((d.ptsn : Int) : Int)))) && (((c.win : Int) == (d.win : Int)))) && (((c.out : Int) == (d.out : Int)))) && (((c.inn : Int) == (d.inn : Int)))) && ((((c.tm : Int) : Int) == ((d.tm : Int) : Int)))) := h1
          exact give_move (.inl rfl) ⟨Ext.refl _, h1⟩
        refine GoodAll.cons ?_ ?_
        · intro r wx hR hx
          obtain ⟨h1, _⟩ := hx
          replace h1 : r (.tmp 2) = .pointer (some ⟨w.heap.size, 0, none⟩) := h1
          intro gb hgb
          refine guard_u (C := ((((((((((((c.made : Int) == (d.made : Int)) && (((c.life : Int) == (d.life : Int)))) && ((((c.mine : Int) : Int) == ((d.mine : Int) : Int)))) && ((((c.peers : Int) : Int) == ((d.peers : Int) : Int)))) && ((((c.mtsn : Int) : Int) == ((d.mtsn : Int) : Int)))) && ((((c.ptsn : Int) : Int) == ((d.ptsn : Int) : Int)))) && (((c.win : Int) == (d.win : Int)))) && (((c.out : Int) == (d.out : Int)))) && (((c.inn : Int) == (d.inn : Int)))) && ((((c.tm : Int) : Int) == ((d.tm : Int) : Int)))))) (b := (((((((((((c.made : Int) == (d.made : Int)) && (((c.life : Int) == (d.life : Int)))) && ((((c.mine : Int) : Int) == ((d.mine : Int) : Int)))) && ((((c.peers : Int) : Int) == ((d.peers : Int) : Int)))) && ((((c.mtsn : Int) : Int) == ((d.mtsn : Int) : Int)))) && ((((c.ptsn : Int) : Int) == ((d.ptsn : Int) : Int)))) && (((c.win : Int) == (d.win : Int)))) && (((c.out : Int) == (d.out : Int)))) && (((c.inn : Int) == (d.inn : Int)))) && ((((c.tm : Int) : Int) == ((d.tm : Int) : Int))))) (want := true) hgb (want_t _) (fun hc => ?_) (fun hc => under_no hc)
          exact give_of (by simp [execOp, h1, go_sem]) ⟨Ext.refl _, under_yes hc⟩
        refine GoodAll.cons ?_ ?_
        · intro r wx hR hx
          obtain ⟨h1, _⟩ := hx
          replace h1 : Under (((((((((((((c.made : Int) == (d.made : Int)) && (((c.life : Int) == (d.life : Int)))) && ((((c.mine : Int) : Int) == ((d.mine : Int) : Int)))) && ((((c.peers : Int) : Int) == ((d.peers : Int) : Int)))) && ((((c.mtsn : Int) : Int) == ((d.mtsn : Int) : Int)))) && ((((c.ptsn : Int) : Int) == ((d.ptsn : Int) : Int)))) && (((c.win : Int) == (d.win : Int)))) && (((c.out : Int) == (d.out : Int)))) && (((c.inn : Int) == (d.inn : Int)))) && ((((c.tm : Int) : Int) == ((d.tm : Int) : Int)))))) (.pointer (some ⟨w.heap.size, 13, none⟩)) wx (r (.tmp 100)) := h1
          intro gb hgb
          refine guard_u (C := ((((((((((((c.made : Int) == (d.made : Int)) && (((c.life : Int) == (d.life : Int)))) && ((((c.mine : Int) : Int) == ((d.mine : Int) : Int)))) && ((((c.peers : Int) : Int) == ((d.peers : Int) : Int)))) && ((((c.mtsn : Int) : Int) == ((d.mtsn : Int) : Int)))) && ((((c.ptsn : Int) : Int) == ((d.ptsn : Int) : Int)))) && (((c.win : Int) == (d.win : Int)))) && (((c.out : Int) == (d.out : Int)))) && (((c.inn : Int) == (d.inn : Int)))) && ((((c.tm : Int) : Int) == ((d.tm : Int) : Int)))))) (b := (((((((((((c.made : Int) == (d.made : Int)) && (((c.life : Int) == (d.life : Int)))) && ((((c.mine : Int) : Int) == ((d.mine : Int) : Int)))) && ((((c.peers : Int) : Int) == ((d.peers : Int) : Int)))) && ((((c.mtsn : Int) : Int) == ((d.mtsn : Int) : Int)))) && ((((c.ptsn : Int) : Int) == ((d.ptsn : Int) : Int)))) && (((c.win : Int) == (d.win : Int)))) && (((c.out : Int) == (d.out : Int)))) && (((c.inn : Int) == (d.inn : Int)))) && ((((c.tm : Int) : Int) == ((d.tm : Int) : Int))))) (want := true) hgb (want_t _) (fun hc => ?_) (fun hc => under_no hc)
          replace h1 := h1.get hc
          exact give_of (exec_get one22 rfl h1 (kv13 (hB1.ext hR))) ⟨Ext.refl _, under_yes hc⟩
        refine GoodAll.cons ?_ ?_
        · intro r wx hR hx
          obtain ⟨h1, _⟩ := hx
          replace h1 : r (.tmp 3) = .pointer (some ⟨w1.heap.size, 0, none⟩) := h1
          intro gb hgb
          refine guard_u (C := ((((((((((((c.made : Int) == (d.made : Int)) && (((c.life : Int) == (d.life : Int)))) && ((((c.mine : Int) : Int) == ((d.mine : Int) : Int)))) && ((((c.peers : Int) : Int) == ((d.peers : Int) : Int)))) && ((((c.mtsn : Int) : Int) == ((d.mtsn : Int) : Int)))) && ((((c.ptsn : Int) : Int) == ((d.ptsn : Int) : Int)))) && (((c.win : Int) == (d.win : Int)))) && (((c.out : Int) == (d.out : Int)))) && (((c.inn : Int) == (d.inn : Int)))) && ((((c.tm : Int) : Int) == ((d.tm : Int) : Int)))))) (b := (((((((((((c.made : Int) == (d.made : Int)) && (((c.life : Int) == (d.life : Int)))) && ((((c.mine : Int) : Int) == ((d.mine : Int) : Int)))) && ((((c.peers : Int) : Int) == ((d.peers : Int) : Int)))) && ((((c.mtsn : Int) : Int) == ((d.mtsn : Int) : Int)))) && ((((c.ptsn : Int) : Int) == ((d.ptsn : Int) : Int)))) && (((c.win : Int) == (d.win : Int)))) && (((c.out : Int) == (d.out : Int)))) && (((c.inn : Int) == (d.inn : Int)))) && ((((c.tm : Int) : Int) == ((d.tm : Int) : Int))))) (want := true) hgb (want_t _) (fun hc => ?_) (fun hc => under_no hc)
          exact give_of (by simp [execOp, h1, go_sem]) ⟨Ext.refl _, under_yes hc⟩
        refine GoodAll.cons ?_ ?_
        · intro r wx hR hx
          obtain ⟨h1, _⟩ := hx
          replace h1 : Under (((((((((((((c.made : Int) == (d.made : Int)) && (((c.life : Int) == (d.life : Int)))) && ((((c.mine : Int) : Int) == ((d.mine : Int) : Int)))) && ((((c.peers : Int) : Int) == ((d.peers : Int) : Int)))) && ((((c.mtsn : Int) : Int) == ((d.mtsn : Int) : Int)))) && ((((c.ptsn : Int) : Int) == ((d.ptsn : Int) : Int)))) && (((c.win : Int) == (d.win : Int)))) && (((c.out : Int) == (d.out : Int)))) && (((c.inn : Int) == (d.inn : Int)))) && ((((c.tm : Int) : Int) == ((d.tm : Int) : Int)))))) (.pointer (some ⟨w1.heap.size, 13, none⟩)) wx (r (.tmp 102)) := h1
          intro gb hgb
          refine guard_u (C := ((((((((((((c.made : Int) == (d.made : Int)) && (((c.life : Int) == (d.life : Int)))) && ((((c.mine : Int) : Int) == ((d.mine : Int) : Int)))) && ((((c.peers : Int) : Int) == ((d.peers : Int) : Int)))) && ((((c.mtsn : Int) : Int) == ((d.mtsn : Int) : Int)))) && ((((c.ptsn : Int) : Int) == ((d.ptsn : Int) : Int)))) && (((c.win : Int) == (d.win : Int)))) && (((c.out : Int) == (d.out : Int)))) && (((c.inn : Int) == (d.inn : Int)))) && ((((c.tm : Int) : Int) == ((d.tm : Int) : Int)))))) (b := (((((((((((c.made : Int) == (d.made : Int)) && (((c.life : Int) == (d.life : Int)))) && ((((c.mine : Int) : Int) == ((d.mine : Int) : Int)))) && ((((c.peers : Int) : Int) == ((d.peers : Int) : Int)))) && ((((c.mtsn : Int) : Int) == ((d.mtsn : Int) : Int)))) && ((((c.ptsn : Int) : Int) == ((d.ptsn : Int) : Int)))) && (((c.win : Int) == (d.win : Int)))) && (((c.out : Int) == (d.out : Int)))) && (((c.inn : Int) == (d.inn : Int)))) && ((((c.tm : Int) : Int) == ((d.tm : Int) : Int))))) (want := true) hgb (want_t _) (fun hc => ?_) (fun hc => under_no hc)
          replace h1 := h1.get hc
          exact give_of (exec_get one22 rfl h1 (kv13 (hB2.ext hR))) ⟨Ext.refl _, under_yes hc⟩
        refine GoodAll.cons ?_ ?_
        · intro r wx hR hx
          obtain ⟨h1, h2, _⟩ := hx
          replace h1 : Under (((((((((((((c.made : Int) == (d.made : Int)) && (((c.life : Int) == (d.life : Int)))) && ((((c.mine : Int) : Int) == ((d.mine : Int) : Int)))) && ((((c.peers : Int) : Int) == ((d.peers : Int) : Int)))) && ((((c.mtsn : Int) : Int) == ((d.mtsn : Int) : Int)))) && ((((c.ptsn : Int) : Int) == ((d.ptsn : Int) : Int)))) && (((c.win : Int) == (d.win : Int)))) && (((c.out : Int) == (d.out : Int)))) && (((c.inn : Int) == (d.inn : Int)))) && ((((c.tm : Int) : Int) == ((d.tm : Int) : Int)))))) (.int .u32 (c.tp : Int)) wx (r (.tmp 101)) := h1
          replace h2 : Under (((((((((((((c.made : Int) == (d.made : Int)) && (((c.life : Int) == (d.life : Int)))) && ((((c.mine : Int) : Int) == ((d.mine : Int) : Int)))) && ((((c.peers : Int) : Int) == ((d.peers : Int) : Int)))) && ((((c.mtsn : Int) : Int) == ((d.mtsn : Int) : Int)))) && ((((c.ptsn : Int) : Int) == ((d.ptsn : Int) : Int)))) && (((c.win : Int) == (d.win : Int)))) && (((c.out : Int) == (d.out : Int)))) && (((c.inn : Int) == (d.inn : Int)))) && ((((c.tm : Int) : Int) == ((d.tm : Int) : Int)))))) (.int .u32 (d.tp : Int)) wx (r (.tmp 103)) := h2
          intro gb hgb
          refine guard_u (C := ((((((((((((c.made : Int) == (d.made : Int)) && (((c.life : Int) == (d.life : Int)))) && ((((c.mine : Int) : Int) == ((d.mine : Int) : Int)))) && ((((c.peers : Int) : Int) == ((d.peers : Int) : Int)))) && ((((c.mtsn : Int) : Int) == ((d.mtsn : Int) : Int)))) && ((((c.ptsn : Int) : Int) == ((d.ptsn : Int) : Int)))) && (((c.win : Int) == (d.win : Int)))) && (((c.out : Int) == (d.out : Int)))) && (((c.inn : Int) == (d.inn : Int)))) && ((((c.tm : Int) : Int) == ((d.tm : Int) : Int)))))) (b := (((((((((((c.made : Int) == (d.made : Int)) && (((c.life : Int) == (d.life : Int)))) && ((((c.mine : Int) : Int) == ((d.mine : Int) : Int)))) && ((((c.peers : Int) : Int) == ((d.peers : Int) : Int)))) && ((((c.mtsn : Int) : Int) == ((d.mtsn : Int) : Int)))) && ((((c.ptsn : Int) : Int) == ((d.ptsn : Int) : Int)))) && (((c.win : Int) == (d.win : Int)))) && (((c.out : Int) == (d.out : Int)))) && (((c.inn : Int) == (d.inn : Int)))) && ((((c.tm : Int) : Int) == ((d.tm : Int) : Int))))) (want := true) hgb (want_t _) (fun hc => ?_) (fun hc => under_no hc)
          replace h1 := h1.get hc
          replace h2 := h2.get hc
          exact give_of (by simp [execOp, h1, h2, go_sem]) ⟨Ext.refl _, under_yes hc⟩
        refine GoodAll.cons ?_ ?_
        · intro r wx hR hx
          obtain ⟨h1, h2, h3, _⟩ := hx
          replace h1 : r (.tmp 99) = .bool (((((((((((c.made : Int) == (d.made : Int)) && (((c.life : Int) == (d.life : Int)))) && ((((c.mine : Int) : Int) == ((d.mine : Int) : Int)))) && ((((c.peers : Int) : Int) == ((d.peers : Int) : Int)))) && ((((c.mtsn : Int) : Int) == ((d.mtsn : Int) : Int)))) && ((((c.ptsn : Int) : Int) == ((d.ptsn : Int) : Int)))) && (((c.win : Int) == (d.win : Int)))) && (((c.out : Int) == (d.out : Int)))) && (((c.inn : Int) == (d.inn : Int)))) && ((((c.tm : Int) : Int) == ((d.tm : Int) : Int)))) := h1
          replace h2 : Under (((((((((((((c.made : Int) == (d.made : Int)) && (((c.life : Int) == (d.life : Int)))) && ((((c.mine : Int) : Int) == ((d.mine : Int) : Int)))) && ((((c.peers : Int) : Int) == ((d.peers : Int) : Int)))) && ((((c.mtsn : Int) : Int) == ((d.mtsn : Int) : Int)))) && ((((c.ptsn : Int) : Int) == ((d.ptsn : Int) : Int)))) && (((c.win : Int) == (d.win : Int)))) && (((c.out : Int) == (d.out : Int)))) && (((c.inn : Int) == (d.inn : Int)))) && ((((c.tm : Int) : Int) == ((d.tm : Int) : Int)))))) (.bool (((c.tp : Int) : Int) == ((d.tp : Int) : Int))) wx (r (.tmp 104)) := h2
          replace h3 : r (.const (.bool false)) = .bool false := h3
          exact give_and rfl h3 h1 (fun hb => h2.get (by first | exact hb | (rw [hc, hb]; rfl) | (rw [hb]; rfl))) ⟨Ext.refl _, rfl⟩
        refine GoodAll.cons ?_ ?_
        · intro r wx hR hx
          obtain ⟨h1, _⟩ := hx
          replace h1 : r (.tmp 105) = .bool ((((((((((((c.made : Int) == (d.made : Int)) && (((c.life : Int) == (d.life : Int)))) && ((((c.mine : Int) : Int) == ((d.mine : Int) : Int)))) && ((((c.peers : Int) : Int) == ((d.peers : Int) : Int)))) && ((((c.mtsn : Int) : Int) == ((d.mtsn : Int) : Int)))) && ((((c.ptsn : Int) : Int) == ((d.ptsn : Int) : Int)))) && (((c.win : Int) == (d.win : Int)))) && (((c.out : Int) == (d.out : Int)))) && (((c.inn : Int) == (d.inn : Int)))) && ((((c.tm : Int) : Int) == ((d.tm : Int) : Int)))) && ((((c.tp : Int) : Int) == ((d.tp : Int) : Int)))) := h1
          exact give_move (.inl rfl) ⟨Ext.refl _, h1⟩
        refine GoodAll.cons ?_ ?_
        · intro r wx hR hx
          obtain ⟨h1, _⟩ := hx
          replace h1 : r (.tmp 2) = .pointer (some ⟨w.heap.size, 0, none⟩) := h1
          intro gb hgb
          refine guard_u (C := (((((((((((((c.made : Int) == (d.made : Int)) && (((c.life : Int) == (d.life : Int)))) && ((((c.mine : Int) : Int) == ((d.mine : Int) : Int)))) && ((((c.peers : Int) : Int) == ((d.peers : Int) : Int)))) && ((((c.mtsn : Int) : Int) == ((d.mtsn : Int) : Int)))) && ((((c.ptsn : Int) : Int) == ((d.ptsn : Int) : Int)))) && (((c.win : Int) == (d.win : Int)))) && (((c.out : Int) == (d.out : Int)))) && (((c.inn : Int) == (d.inn : Int)))) && ((((c.tm : Int) : Int) == ((d.tm : Int) : Int)))) && ((((c.tp : Int) : Int) == ((d.tp : Int) : Int)))))) (b := ((((((((((((c.made : Int) == (d.made : Int)) && (((c.life : Int) == (d.life : Int)))) && ((((c.mine : Int) : Int) == ((d.mine : Int) : Int)))) && ((((c.peers : Int) : Int) == ((d.peers : Int) : Int)))) && ((((c.mtsn : Int) : Int) == ((d.mtsn : Int) : Int)))) && ((((c.ptsn : Int) : Int) == ((d.ptsn : Int) : Int)))) && (((c.win : Int) == (d.win : Int)))) && (((c.out : Int) == (d.out : Int)))) && (((c.inn : Int) == (d.inn : Int)))) && ((((c.tm : Int) : Int) == ((d.tm : Int) : Int)))) && ((((c.tp : Int) : Int) == ((d.tp : Int) : Int))))) (want := true) hgb (want_t _) (fun hc => ?_) (fun hc => under_no hc)
          exact give_of (by simp [execOp, h1, go_sem]) ⟨Ext.refl _, under_yes hc⟩
        refine GoodAll.cons ?_ ?_
        · intro r wx hR hx
          obtain ⟨h1, _⟩ := hx
          replace h1 : Under ((((((((((((((c.made : Int) == (d.made : Int)) && (((c.life : Int) == (d.life : Int)))) && ((((c.mine : Int) : Int) == ((d.mine : Int) : Int)))) && ((((c.peers : Int) : Int) == ((d.peers : Int) : Int)))) && ((((c.mtsn : Int) : Int) == ((d.mtsn : Int) : Int)))) && ((((c.ptsn : Int) : Int) == ((d.ptsn : Int) : Int)))) && (((c.win : Int) == (d.win : Int)))) && (((c.out : Int) == (d.out : Int)))) && (((c.inn : Int) == (d.inn : Int)))) && ((((c.tm : Int) : Int) == ((d.tm : Int) : Int)))) && ((((c.tp : Int) : Int) == ((d.tp : Int) : Int)))))) (.pointer (some ⟨w.heap.size, 10, none⟩)) wx (r (.tmp 107)) := h1
          intro gb hgb
          refine guard_u (C := (((((((((((((c.made : Int) == (d.made : Int)) && (((c.life : Int) == (d.life : Int)))) && ((((c.mine : Int) : Int) == ((d.mine : Int) : Int)))) && ((((c.peers : Int) : Int) == ((d.peers : Int) : Int)))) && ((((c.mtsn : Int) : Int) == ((d.mtsn : Int) : Int)))) && ((((c.ptsn : Int) : Int) == ((d.ptsn : Int) : Int)))) && (((c.win : Int) == (d.win : Int)))) && (((c.out : Int) == (d.out : Int)))) && (((c.inn : Int) == (d.inn : Int)))) && ((((c.tm : Int) : Int) == ((d.tm : Int) : Int)))) && ((((c.tp : Int) : Int) == ((d.tp : Int) : Int)))))) (b := ((((((((((((c.made : Int) == (d.made : Int)) && (((c.life : Int) == (d.life : Int)))) && ((((c.mine : Int) : Int) == ((d.mine : Int) : Int)))) && ((((c.peers : Int) : Int) == ((d.peers : Int) : Int)))) && ((((c.mtsn : Int) : Int) == ((d.mtsn : Int) : Int)))) && ((((c.ptsn : Int) : Int) == ((d.ptsn : Int) : Int)))) && (((c.win : Int) == (d.win : Int)))) && (((c.out : Int) == (d.out : Int)))) && (((c.inn : Int) == (d.inn : Int)))) && ((((c.tm : Int) : Int) == ((d.tm : Int) : Int)))) && ((((c.tp : Int) : Int) == ((d.tp : Int) : Int))))) (want := true) hgb (want_t _) (fun hc => ?_) (fun hc => under_no hc)
          replace h1 := h1.get hc
          exact give_of (exec_get oneS rfl h1 (kv10 (hB1.ext hR))) ⟨Ext.refl _, under_yes hc⟩
        refine GoodAll.cons ?_ ?_
        · intro r wx hR hx
          obtain ⟨h1, _⟩ := hx
          replace h1 : Under ((((((((((((((c.made : Int) == (d.made : Int)) && (((c.life : Int) == (d.life : Int)))) && ((((c.mine : Int) : Int) == ((d.mine : Int) : Int)))) && ((((c.peers : Int) : Int) == ((d.peers : Int) : Int)))) && ((((c.mtsn : Int) : Int) == ((d.mtsn : Int) : Int)))) && ((((c.ptsn : Int) : Int) == ((d.ptsn : Int) : Int)))) && (((c.win : Int) == (d.win : Int)))) && (((c.out : Int) == (d.out : Int)))) && (((c.inn : Int) == (d.inn : Int)))) && ((((c.tm : Int) : Int) == ((d.tm : Int) : Int)))) && ((((c.tp : Int) : Int) == ((d.tp : Int) : Int)))))) (.slice s.mA s.mN s.mC) wx (r (.tmp 108)) := h1
          intro gb hgb
          refine guard_u (C := (((((((((((((c.made : Int) == (d.made : Int)) && (((c.life : Int) == (d.life : Int)))) && ((((c.mine : Int) : Int) == ((d.mine : Int) : Int)))) && ((((c.peers : Int) : Int) == ((d.peers : Int) : Int)))) && ((((c.mtsn : Int) : Int) == ((d.mtsn : Int) : Int)))) && ((((c.ptsn : Int) : Int) == ((d.ptsn : Int) : Int)))) && (((c.win : Int) == (d.win : Int)))) && (((c.out : Int) == (d.out : Int)))) && (((c.inn : Int) == (d.inn : Int)))) && ((((c.tm : Int) : Int) == ((d.tm : Int) : Int)))) && ((((c.tp : Int) : Int) == ((d.tp : Int) : Int)))))) (b := ((((((((((((c.made : Int) == (d.made : Int)) && (((c.life : Int) == (d.life : Int)))) && ((((c.mine : Int) : Int) == ((d.mine : Int) : Int)))) && ((((c.peers : Int) : Int) == ((d.peers : Int) : Int)))) && ((((c.mtsn : Int) : Int) == ((d.mtsn : Int) : Int)))) && ((((c.ptsn : Int) : Int) == ((d.ptsn : Int) : Int)))) && (((c.win : Int) == (d.win : Int)))) && (((c.out : Int) == (d.out : Int)))) && (((c.inn : Int) == (d.inn : Int)))) && ((((c.tm : Int) : Int) == ((d.tm : Int) : Int)))) && ((((c.tp : Int) : Int) == ((d.tp : Int) : Int))))) (want := true) hgb (want_t _) (fun hc => ?_) (fun hc => under_no hc)
          replace h1 := h1.get hc
          exact give_of (exec_string byteT strT rfl wx _ (by rw [h1]; exact HA.m.ext hR)) ⟨Ext.refl _, under_yes hc⟩
        refine GoodAll.cons ?_ ?_
        · intro r wx hR hx
          obtain ⟨h1, _⟩ := hx
          replace h1 : r (.tmp 3) = .pointer (some ⟨w1.heap.size, 0, none⟩) := h1
          intro gb hgb
          refine guard_u (C := (((((((((((((c.made : Int) == (d.made : Int)) && (((c.life : Int) == (d.life : Int)))) && ((((c.mine : Int) : Int) == ((d.mine : Int) : Int)))) && ((((c.peers : Int) : Int) == ((d.peers : Int) : Int)))) && ((((c.mtsn : Int) : Int) == ((d.mtsn : Int) : Int)))) && ((((c.ptsn : Int) : Int) == ((d.ptsn : Int) : Int)))) && (((c.win : Int) == (d.win : Int)))) && (((c.out : Int) == (d.out : Int)))) && (((c.inn : Int) == (d.inn : Int)))) && ((((c.tm : Int) : Int) == ((d.tm : Int) : Int)))) && ((((c.tp : Int) : Int) == ((d.tp : Int) : Int)))))) (b := ((((((((((((c.made : Int) == (d.made : Int)) && (((c.life : Int) == (d.life : Int)))) && ((((c.mine : Int) : Int) == ((d.mine : Int) : Int)))) && ((((c.peers : Int) : Int) == ((d.peers : Int) : Int)))) && ((((c.mtsn : Int) : Int) == ((d.mtsn : Int) : Int)))) && ((((c.ptsn : Int) : Int) == ((d.ptsn : Int) : Int)))) && (((c.win : Int) == (d.win : Int)))) && (((c.out : Int) == (d.out : Int)))) && (((c.inn : Int) == (d.inn : Int)))) && ((((c.tm : Int) : Int) == ((d.tm : Int) : Int)))) && ((((c.tp : Int) : Int) == ((d.tp : Int) : Int))))) (want := true) hgb (want_t _) (fun hc => ?_) (fun hc => under_no hc)
          exact give_of (by simp [execOp, h1, go_sem]) ⟨Ext.refl _, under_yes hc⟩
        refine GoodAll.cons ?_ ?_
        · intro r wx hR hx
          obtain ⟨h1, _⟩ := hx
          replace h1 : Under ((((((((((((((c.made : Int) == (d.made : Int)) && (((c.life : Int) == (d.life : Int)))) && ((((c.mine : Int) : Int) == ((d.mine : Int) : Int)))) && ((((c.peers : Int) : Int) == ((d.peers : Int) : Int)))) && ((((c.mtsn : Int) : Int) == ((d.mtsn : Int) : Int)))) && ((((c.ptsn : Int) : Int) == ((d.ptsn : Int) : Int)))) && (((c.win : Int) == (d.win : Int)))) && (((c.out : Int) == (d.out : Int)))) && (((c.inn : Int) == (d.inn : Int)))) && ((((c.tm : Int) : Int) == ((d.tm : Int) : Int)))) && ((((c.tp : Int) : Int) == ((d.tp : Int) : Int)))))) (.pointer (some ⟨w1.heap.size, 10, none⟩)) wx (r (.tmp 110)) := h1
          intro gb hgb
          refine guard_u (C := (((((((((((((c.made : Int) == (d.made : Int)) && (((c.life : Int) == (d.life : Int)))) && ((((c.mine : Int) : Int) == ((d.mine : Int) : Int)))) && ((((c.peers : Int) : Int) == ((d.peers : Int) : Int)))) && ((((c.mtsn : Int) : Int) == ((d.mtsn : Int) : Int)))) && ((((c.ptsn : Int) : Int) == ((d.ptsn : Int) : Int)))) && (((c.win : Int) == (d.win : Int)))) && (((c.out : Int) == (d.out : Int)))) && (((c.inn : Int) == (d.inn : Int)))) && ((((c.tm : Int) : Int) == ((d.tm : Int) : Int)))) && ((((c.tp : Int) : Int) == ((d.tp : Int) : Int)))))) (b := ((((((((((((c.made : Int) == (d.made : Int)) && (((c.life : Int) == (d.life : Int)))) && ((((c.mine : Int) : Int) == ((d.mine : Int) : Int)))) && ((((c.peers : Int) : Int) == ((d.peers : Int) : Int)))) && ((((c.mtsn : Int) : Int) == ((d.mtsn : Int) : Int)))) && ((((c.ptsn : Int) : Int) == ((d.ptsn : Int) : Int)))) && (((c.win : Int) == (d.win : Int)))) && (((c.out : Int) == (d.out : Int)))) && (((c.inn : Int) == (d.inn : Int)))) && ((((c.tm : Int) : Int) == ((d.tm : Int) : Int)))) && ((((c.tp : Int) : Int) == ((d.tp : Int) : Int))))) (want := true) hgb (want_t _) (fun hc => ?_) (fun hc => under_no hc)
          replace h1 := h1.get hc
          exact give_of (exec_get oneS rfl h1 (kv10 (hB2.ext hR))) ⟨Ext.refl _, under_yes hc⟩
        refine GoodAll.cons ?_ ?_
        · intro r wx hR hx
          obtain ⟨h1, _⟩ := hx
          replace h1 : Under ((((((((((((((c.made : Int) == (d.made : Int)) && (((c.life : Int) == (d.life : Int)))) && ((((c.mine : Int) : Int) == ((d.mine : Int) : Int)))) && ((((c.peers : Int) : Int) == ((d.peers : Int) : Int)))) && ((((c.mtsn : Int) : Int) == ((d.mtsn : Int) : Int)))) && ((((c.ptsn : Int) : Int) == ((d.ptsn : Int) : Int)))) && (((c.win : Int) == (d.win : Int)))) && (((c.out : Int) == (d.out : Int)))) && (((c.inn : Int) == (d.inn : Int)))) && ((((c.tm : Int) : Int) == ((d.tm : Int) : Int)))) && ((((c.tp : Int) : Int) == ((d.tp : Int) : Int)))))) (.slice u.mA u.mN u.mC) wx (r (.tmp 111)) := h1
          intro gb hgb
          refine guard_u (C := (((((((((((((c.made : Int) == (d.made : Int)) && (((c.life : Int) == (d.life : Int)))) && ((((c.mine : Int) : Int) == ((d.mine : Int) : Int)))) && ((((c.peers : Int) : Int) == ((d.peers : Int) : Int)))) && ((((c.mtsn : Int) : Int) == ((d.mtsn : Int) : Int)))) && ((((c.ptsn : Int) : Int) == ((d.ptsn : Int) : Int)))) && (((c.win : Int) == (d.win : Int)))) && (((c.out : Int) == (d.out : Int)))) && (((c.inn : Int) == (d.inn : Int)))) && ((((c.tm : Int) : Int) == ((d.tm : Int) : Int)))) && ((((c.tp : Int) : Int) == ((d.tp : Int) : Int)))))) (b := ((((((((((((c.made : Int) == (d.made : Int)) && (((c.life : Int) == (d.life : Int)))) && ((((c.mine : Int) : Int) == ((d.mine : Int) : Int)))) && ((((c.peers : Int) : Int) == ((d.peers : Int) : Int)))) && ((((c.mtsn : Int) : Int) == ((d.mtsn : Int) : Int)))) && ((((c.ptsn : Int) : Int) == ((d.ptsn : Int) : Int)))) && (((c.win : Int) == (d.win : Int)))) && (((c.out : Int) == (d.out : Int)))) && (((c.inn : Int) == (d.inn : Int)))) && ((((c.tm : Int) : Int) == ((d.tm : Int) : Int)))) && ((((c.tp : Int) : Int) == ((d.tp : Int) : Int))))) (want := true) hgb (want_t _) (fun hc => ?_) (fun hc => under_no hc)
          replace h1 := h1.get hc
          exact give_of (exec_string byteT strT rfl wx _ (by rw [h1]; exact HB.m.ext hR)) ⟨Ext.refl _, under_yes hc⟩
        refine GoodAll.cons ?_ ?_
        · intro r wx hR hx
          obtain ⟨h1, h2, _⟩ := hx
          replace h1 : Under ((((((((((((((c.made : Int) == (d.made : Int)) && (((c.life : Int) == (d.life : Int)))) && ((((c.mine : Int) : Int) == ((d.mine : Int) : Int)))) && ((((c.peers : Int) : Int) == ((d.peers : Int) : Int)))) && ((((c.mtsn : Int) : Int) == ((d.mtsn : Int) : Int)))) && ((((c.ptsn : Int) : Int) == ((d.ptsn : Int) : Int)))) && (((c.win : Int) == (d.win : Int)))) && (((c.out : Int) == (d.out : Int)))) && (((c.inn : Int) == (d.inn : Int)))) && ((((c.tm : Int) : Int) == ((d.tm : Int) : Int)))) && ((((c.tp : Int) : Int) == ((d.tp : Int) : Int)))))) (.string (strOf c.mr)) wx (r (.tmp 109)) := h1
          replace h2 : Under ((((((((((((((c.made : Int) == (d.made : Int)) && (((c.life : Int) == (d.life : Int)))) && ((((c.mine : Int) : Int) == ((d.mine : Int) : Int)))) && ((((c.peers : Int) : Int) == ((d.peers : Int) : Int)))) && ((((c.mtsn : Int) : Int) == ((d.mtsn : Int) : Int)))) && ((((c.ptsn : Int) : Int) == ((d.ptsn : Int) : Int)))) && (((c.win : Int) == (d.win : Int)))) && (((c.out : Int) == (d.out : Int)))) && (((c.inn : Int) == (d.inn : Int)))) && ((((c.tm : Int) : Int) == ((d.tm : Int) : Int)))) && ((((c.tp : Int) : Int) == ((d.tp : Int) : Int)))))) (.string (strOf d.mr)) wx (r (.tmp 112)) := h2
          intro gb hgb
          refine guard_u (C := (((((((((((((c.made : Int) == (d.made : Int)) && (((c.life : Int) == (d.life : Int)))) && ((((c.mine : Int) : Int) == ((d.mine : Int) : Int)))) && ((((c.peers : Int) : Int) == ((d.peers : Int) : Int)))) && ((((c.mtsn : Int) : Int) == ((d.mtsn : Int) : Int)))) && ((((c.ptsn : Int) : Int) == ((d.ptsn : Int) : Int)))) && (((c.win : Int) == (d.win : Int)))) && (((c.out : Int) == (d.out : Int)))) && (((c.inn : Int) == (d.inn : Int)))) && ((((c.tm : Int) : Int) == ((d.tm : Int) : Int)))) && ((((c.tp : Int) : Int) == ((d.tp : Int) : Int)))))) (b := ((((((((((((c.made : Int) == (d.made : Int)) && (((c.life : Int) == (d.life : Int)))) && ((((c.mine : Int) : Int) == ((d.mine : Int) : Int)))) && ((((c.peers : Int) : Int) == ((d.peers : Int) : Int)))) && ((((c.mtsn : Int) : Int) == ((d.mtsn : Int) : Int)))) && ((((c.ptsn : Int) : Int) == ((d.ptsn : Int) : Int)))) && (((c.win : Int) == (d.win : Int)))) && (((c.out : Int) == (d.out : Int)))) && (((c.inn : Int) == (d.inn : Int)))) && ((((c.tm : Int) : Int) == ((d.tm : Int) : Int)))) && ((((c.tp : Int) : Int) == ((d.tp : Int) : Int))))) (want := true) hgb (want_t _) (fun hc => ?_) (fun hc => under_no hc)
          replace h1 := h1.get hc
          replace h2 := h2.get hc
          exact give_of (exec_eqlS rfl h1 h2 HA.m.1 HB.m.1) ⟨Ext.refl _, under_yes hc⟩
        refine GoodAll.cons ?_ ?_
        · intro r wx hR hx
          obtain ⟨h1, h2, h3, _⟩ := hx
          replace h1 : r (.tmp 106) = .bool ((((((((((((c.made : Int) == (d.made : Int)) && (((c.life : Int) == (d.life : Int)))) && ((((c.mine : Int) : Int) == ((d.mine : Int) : Int)))) && ((((c.peers : Int) : Int) == ((d.peers : Int) : Int)))) && ((((c.mtsn : Int) : Int) == ((d.mtsn : Int) : Int)))) && ((((c.ptsn : Int) : Int) == ((d.ptsn : Int) : Int)))) && (((c.win : Int) == (d.win : Int)))) && (((c.out : Int) == (d.out : Int)))) && (((c.inn : Int) == (d.inn : Int)))) && ((((c.tm : Int) : Int) == ((d.tm : Int) : Int)))) && ((((c.tp : Int) : Int) == ((d.tp : Int) : Int)))) := h1
          replace h2 : Under ((((((((((((((c.made : Int) == (d.made : Int)) && (((c.life : Int) == (d.life : Int)))) && ((((c.mine : Int) : Int) == ((d.mine : Int) : Int)))) && ((((c.peers : Int) : Int) == ((d.peers : Int) : Int)))) && ((((c.mtsn : Int) : Int) == ((d.mtsn : Int) : Int)))) && ((((c.ptsn : Int) : Int) == ((d.ptsn : Int) : Int)))) && (((c.win : Int) == (d.win : Int)))) && (((c.out : Int) == (d.out : Int)))) && (((c.inn : Int) == (d.inn : Int)))) && ((((c.tm : Int) : Int) == ((d.tm : Int) : Int)))) && ((((c.tp : Int) : Int) == ((d.tp : Int) : Int)))))) (.bool (decide (c.mr = d.mr))) wx (r (.tmp 113)) := h2
          replace h3 : r (.const (.bool false)) = .bool false := h3
          exact give_and rfl h3 h1 (fun hb => h2.get (by first | exact hb | (rw [hc, hb]; rfl) | (rw [hb]; rfl))) ⟨Ext.refl _, rfl⟩
        refine GoodAll.cons ?_ ?_
        · intro r wx hR hx
          obtain ⟨h1, _⟩ := hx
          replace h1 : r (.tmp 114) = .bool (((((((((((((c.made : Int) == (d.made : Int)) && (((c.life : Int) == (d.life : Int)))) && ((((c.mine : Int) : Int) == ((d.mine : Int) : Int)))) && ((((c.peers : Int) : Int) == ((d.peers : Int) : Int)))) && ((((c.mtsn : Int) : Int) == ((d.mtsn : Int) : Int)))) && ((((c.ptsn : Int) : Int) == ((d.ptsn : Int) : Int)))) && (((c.win : Int) == (d.win : Int)))) && (((c.out : Int) == (d.out : Int)))) && (((c.inn : Int) == (d.inn : Int)))) && ((((c.tm : Int) : Int) == ((d.tm : Int) : Int)))) && ((((c.tp : Int) : Int) == ((d.tp : Int) : Int)))) && ((decide (c.mr = d.mr)))) := h1
          exact give_move (.inl rfl) ⟨Ext.refl _, h1⟩
        refine GoodAll.cons ?_ ?_
        · intro r wx hR hx
          obtain ⟨h1, _⟩ := hx
          replace h1 : r (.tmp 2) = .pointer (some ⟨w.heap.size, 0, none⟩) := h1
          intro gb hgb
          refine guard_u (C := ((((((((((((((c.made : Int) == (d.made : Int)) && (((c.life : Int) == (d.life : Int)))) && ((((c.mine : Int) : Int) == ((d.mine : Int) : Int)))) && ((((c.peers : Int) : Int) == ((d.peers : Int) : Int)))) && ((((c.mtsn : Int) : Int) == ((d.mtsn : Int) : Int)))) && ((((c.ptsn : Int) : Int) == ((d.ptsn : Int) : Int)))) && (((c.win : Int) == (d.win : Int)))) && (((c.out : Int) == (d.out : Int)))) && (((c.inn : Int) == (d.inn : Int)))) && ((((c.tm : Int) : Int) == ((d.tm : Int) : Int)))) && ((((c.tp : Int) : Int) == ((d.tp : Int) : Int)))) && ((decide (c.mr = d.mr)))))) (b := (((((((((((((c.made : Int) == (d.made : Int)) && (((c.life : Int) == (d.life : Int)))) && ((((c.mine : Int) : Int) == ((d.mine : Int) : Int)))) && ((((c.peers : Int) : Int) == ((d.peers : Int) : Int)))) && ((((c.mtsn : Int) : Int) == ((d.mtsn : Int) : Int)))) && ((((c.ptsn : Int) : Int) == ((d.ptsn : Int) : Int)))) && (((c.win : Int) == (d.win : Int)))) && (((c.out : Int) == (d.out : Int)))) && (((c.inn : Int) == (d.inn : Int)))) && ((((c.tm : Int) : Int) == ((d.tm : Int) : Int)))) && ((((c.tp : Int) : Int) == ((d.tp : Int) : Int)))) && ((decide (c.mr = d.mr))))) (want := true) hgb (want_t _) (fun hc => ?_) (fun hc => under_no hc)
          exact give_of (by simp [execOp, h1, go_sem]) ⟨Ext.refl _, under_yes hc⟩
        refine GoodAll.cons ?_ ?_
        · intro r wx hR hx
          obtain ⟨h1, _⟩ := hx
          replace h1 : Under (((((((((((((((c.made : Int) == (d.made : Int)) && (((c.life : Int) == (d.life : Int)))) && ((((c.mine : Int) : Int) == ((d.mine : Int) : Int)))) && ((((c.peers : Int) : Int) == ((d.peers : Int) : Int)))) && ((((c.mtsn : Int) : Int) == ((d.mtsn : Int) : Int)))) && ((((c.ptsn : Int) : Int) == ((d.ptsn : Int) : Int)))) && (((c.win : Int) == (d.win : Int)))) && (((c.out : Int) == (d.out : Int)))) && (((c.inn : Int) == (d.inn : Int)))) && ((((c.tm : Int) : Int) == ((d.tm : Int) : Int)))) && ((((c.tp : Int) : Int) == ((d.tp : Int) : Int)))) && ((decide (c.mr = d.mr)))))) (.pointer (some ⟨w.heap.size, 11, none⟩)) wx (r (.tmp 116)) := h1
          intro gb hgb
          refine guard_u (C := ((((((((((((((c.made : Int) == (d.made : Int)) && (((c.life : Int) == (d.life : Int)))) && ((((c.mine : Int) : Int) == ((d.mine : Int) : Int)))) && ((((c.peers : Int) : Int) == ((d.peers : Int) : Int)))) && ((((c.mtsn : Int) : Int) == ((d.mtsn : Int) : Int)))) && ((((c.ptsn : Int) : Int) == ((d.ptsn : Int) : Int)))) && (((c.win : Int) == (d.win : Int)))) && (((c.out : Int) == (d.out : Int)))) && (((c.inn : Int) == (d.inn : Int)))) && ((((c.tm : Int) : Int) == ((d.tm : Int) : Int)))) && ((((c.tp : Int) : Int) == ((d.tp : Int) : Int)))) && ((decide (c.mr = d.mr)))))) (b := (((((((((((((c.made : Int) == (d.made : Int)) && (((c.life : Int) == (d.life : Int)))) && ((((c.mine : Int) : Int) == ((d.mine : Int) : Int)))) && ((((c.peers : Int) : Int) == ((d.peers : Int) : Int)))) && ((((c.mtsn : Int) : Int) == ((d.mtsn : Int) : Int)))) && ((((c.ptsn : Int) : Int) == ((d.ptsn : Int) : Int)))) && (((c.win : Int) == (d.win : Int)))) && (((c.out : Int) == (d.out : Int)))) && (((c.inn : Int) == (d.inn : Int)))) && ((((c.tm : Int) : Int) == ((d.tm : Int) : Int)))) && ((((c.tp : Int) : Int) == ((d.tp : Int) : Int)))) && ((decide (c.mr = d.mr))))) (want := true) hgb (want_t _) (fun hc => ?_) (fun hc => under_no hc)
          replace h1 := h1.get hc
          exact give_of (exec_get oneS rfl h1 (kv11 (hB1.ext hR))) ⟨Ext.refl _, under_yes hc⟩
        refine GoodAll.cons ?_ ?_
        · intro r wx hR hx
          obtain ⟨h1, _⟩ := hx
          replace h1 : Under (((((((((((((((c.made : Int) == (d.made : Int)) && (((c.life : Int) == (d.life : Int)))) && ((((c.mine : Int) : Int) == ((d.mine : Int) : Int)))) && ((((c.peers : Int) : Int) == ((d.peers : Int) : Int)))) && ((((c.mtsn : Int) : Int) == ((d.mtsn : Int) : Int)))) && ((((c.ptsn : Int) : Int) == ((d.ptsn : Int) : Int)))) && (((c.win : Int) == (d.win : Int)))) && (((c.out : Int) == (d.out : Int)))) && (((c.inn : Int) == (d.inn : Int)))) && ((((c.tm : Int) : Int) == ((d.tm : Int) : Int)))) && ((((c.tp : Int) : Int) == ((d.tp : Int) : Int)))) && ((decide (c.mr = d.mr)))))) (.slice s.pA s.pN s.pC) wx (r (.tmp 117)) := h1
          intro gb hgb
          refine guard_u (C := ((((((((((((((c.made : Int) == (d.made : Int)) && (((c.life : Int) == (d.life : Int)))) && ((((c.mine : Int) : Int) == ((d.mine : Int) : Int)))) && ((((c.peers : Int) : Int) == ((d.peers : Int) : Int)))) && ((((c.mtsn : Int) : Int) == ((d.mtsn : Int) : Int)))) && ((((c.ptsn : Int) : Int) == ((d.ptsn : Int) : Int)))) && (((c.win : Int) == (d.win : Int)))) && (((c.out : Int) == (d.out : Int)))) && (((c.inn : Int) == (d.inn : Int)))) && ((((c.tm : Int) : Int) == ((d.tm : Int) : Int)))) && ((((c.tp : Int) : Int) == ((d.tp : Int) : Int)))) && ((decide (c.mr = d.mr)))))) (b := (((((((((((((c.made : Int) == (d.made : Int)) && (((c.life : Int) == (d.life : Int)))) && ((((c.mine : Int) : Int) == ((d.mine : Int) : Int)))) && ((((c.peers : Int) : Int) == ((d.peers : Int) : Int)))) && ((((c.mtsn : Int) : Int) == ((d.mtsn : Int) : Int)))) && ((((c.ptsn : Int) : Int) == ((d.ptsn : Int) : Int)))) && (((c.win : Int) == (d.win : Int)))) && (((c.out : Int) == (d.out : Int)))) && (((c.inn : Int) == (d.inn : Int)))) && ((((c.tm : Int) : Int) == ((d.tm : Int) : Int)))) && ((((c.tp : Int) : Int) == ((d.tp : Int) : Int)))) && ((decide (c.mr = d.mr))))) (want := true) hgb (want_t _) (fun hc => ?_) (fun hc => under_no hc)
          replace h1 := h1.get hc
          exact give_of (exec_string byteT strT rfl wx _ (by rw [h1]; exact HA.p.ext hR)) ⟨Ext.refl _, under_yes hc⟩
        refine GoodAll.cons ?_ ?_
        · intro r wx hR hx
          obtain ⟨h1, _⟩ := hx
          replace h1 : r (.tmp 3) = .pointer (some ⟨w1.heap.size, 0, none⟩) := h1
          intro gb hgb
          refine guard_u (C := ((((((((((((((c.made : Int) == (d.made : Int)) && (((c.life : Int) == (d.life : Int)))) && ((((c.mine : Int) : Int) == ((d.mine : Int) : Int)))) && ((((c.peers : Int) : Int) == ((d.peers : Int) : Int)))) && ((((c.mtsn : Int) : Int) == ((d.mtsn : Int) : Int)))) && ((((c.ptsn : Int) : Int) == ((d.ptsn : Int) : Int)))) && (((c.win : Int) == (d.win : Int)))) && (((c.out : Int) == (d.out : Int)))) && (((c.inn : Int) == (d.inn : Int)))) && ((((c.tm : Int) : Int) == ((d.tm : Int) : Int)))) && ((((c.tp : Int) : Int) == ((d.tp : Int) : Int)))) && ((decide (c.mr = d.mr)))))) (b := (((((((((((((c.made : Int) == (d.made : Int)) && (((c.life : Int) == (d.life : Int)))) && ((((c.mine : Int) : Int) == ((d.mine : Int) : Int)))) && ((((c.peers : Int) : Int) == ((d.peers : Int) : Int)))) && ((((c.mtsn : Int) : Int) == ((d.mtsn : Int) : Int)))) && ((((c.ptsn : Int) : Int) == ((d.ptsn : Int) : Int)))) && (((c.win : Int) == (d.win : Int)))) && (((c.out : Int) == (d.out : Int)))) && (((c.inn : Int) == (d.inn : Int)))) && ((((c.tm : Int) : Int) == ((d.tm : Int) : Int)))) && ((((c.tp : Int) : Int) == ((d.tp : Int) : Int)))) && ((decide (c.mr = d.mr))))) (want := true) hgb (want_t _) (fun hc => ?_) (fun hc => under_no hc)
          exact give_of (by simp [execOp, h1, go_sem]) ⟨Ext.refl _, under_yes hc⟩
        refine GoodAll.cons ?_ ?_
        · intro r wx hR hx
          obtain ⟨h1, _⟩ := hx
          replace h1 : Under (((((((((((((((c.made : Int) == (d.made : Int)) && (((c.life : Int) == (d.life : Int)))) && ((((c.mine : Int) : Int) == ((d.mine : Int) : Int)))) && ((((c.peers : Int) : Int) == ((d.peers : Int) : Int)))) && ((((c.mtsn : Int) : Int) == ((d.mtsn : Int) : Int)))) && ((((c.ptsn : Int) : Int) == ((d.ptsn : Int) : Int)))) && (((c.win : Int) == (d.win : Int)))) && (((c.out : Int) == (d.out : Int)))) && (((c.inn : Int) == (d.inn : Int)))) && ((((c.tm : Int) : Int) == ((d.tm : Int) : Int)))) && ((((c.tp : Int) : Int) == ((d.tp : Int) : Int)))) && ((decide (c.mr = d.mr)))))) (.pointer (some ⟨w1.heap.size, 11, none⟩)) wx (r (.tmp 119)) := h1
          intro gb hgb
          refine guard_u (C := ((((((((((((((c.made : Int) == (d.made : Int)) && (((c.life : Int) == (d.life : Int)))) && ((((c.mine : Int) : Int) == ((d.mine : Int) : Int)))) && ((((c.peers : Int) : Int) == ((d.peers : Int) : Int)))) && ((((c.mtsn : Int) : Int) == ((d.mtsn : Int) : Int)))) && ((((c.ptsn : Int) : Int) == ((d.ptsn : Int) : Int)))) && (((c.win : Int) == (d.win : Int)))) && (((c.out : Int) == (d.out : Int)))) && (((c.inn : Int) == (d.inn : Int)))) && ((((c.tm : Int) : Int) == ((d.tm : Int) : Int)))) && ((((c.tp : Int) : Int) == ((d.tp : Int) : Int)))) && ((decide (c.mr = d.mr)))))) (b := (((((((((((((c.made : Int) == (d.made : Int)) && (((c.life : Int) == (d.life : Int)))) && ((((c.mine : Int) : Int) == ((d.mine : Int) : Int)))) && ((((c.peers : Int) : Int) == ((d.peers : Int) : Int)))) && ((((c.mtsn : Int) : Int) == ((d.mtsn : Int) : Int)))) && ((((c.ptsn : Int) : Int) == ((d.ptsn : Int) : Int)))) && (((c.win : Int) == (d.win : Int)))) && (((c.out : Int) == (d.out : Int)))) && (((c.inn : Int) == (d.inn : Int)))) && ((((c.tm : Int) : Int) == ((d.tm : Int) : Int)))) && ((((c.tp : Int) : Int) == ((d.tp : Int) : Int)))) && ((decide (c.mr = d.mr))))) (want := true) hgb (want_t _) (fun hc => ?_) (fun hc => under_no hc)
          replace h1 := h1.get hc
          exact give_of (exec_get oneS rfl h1 (kv11 (hB2.ext hR))) ⟨Ext.refl _, under_yes hc⟩
        refine GoodAll.cons ?_ ?_
        · intro r wx hR hx
          obtain ⟨h1, _⟩ := hx
          replace h1 : Under (((((((((((((((c.made : Int) == (d.made : Int)) && (((c.life : Int) == (d.life : Int)))) && ((((c.mine : Int) : Int) == ((d.mine : Int) : Int)))) && ((((c.peers : Int) : Int) == ((d.peers : Int) : Int)))) && ((((c.mtsn : Int) : Int) == ((d.mtsn : Int) : Int)))) && ((((c.ptsn : Int) : Int) == ((d.ptsn : Int) : Int)))) && (((c.win : Int) == (d.win : Int)))) && (((c.out : Int) == (d.out : Int)))) && (((c.inn : Int) == (d.inn : Int)))) && ((((c.tm : Int) : Int) == ((d.tm : Int) : Int)))) && ((((c.tp : Int) : Int) == ((d.tp : Int) : Int)))) && ((decide (c.mr = d.mr)))))) (.slice u.pA u.pN u.pC) wx (r (.tmp 120)) := h1
          intro gb hgb
          refine guard_u (C := ((((((((((((((c.made : Int) == (d.made : Int)) && (((c.life : Int) == (d.life : Int)))) && ((((c.mine : Int) : Int) == ((d.mine : Int) : Int)))) && ((((c.peers : Int) : Int) == ((d.peers : Int) : Int)))) && ((((c.mtsn : Int) : Int) == ((d.mtsn : Int) : Int)))) && ((((c.ptsn : Int) : Int) == ((d.ptsn : Int) : Int)))) && (((c.win : Int) == (d.win : Int)))) && (((c.out : Int) == (d.out : Int)))) && (((c.inn : Int) == (d.inn : Int)))) && ((((c.tm : Int) : Int) == ((d.tm : Int) : Int)))) && ((((c.tp : Int) : Int) == ((d.tp : Int) : Int)))) && ((decide (c.mr = d.mr)))))) (b := (((((((((((((c.made : Int) == (d.made : Int)) && (((c.life : Int) == (d.life : Int)))) && ((((c.mine : Int) : Int) == ((d.mine : Int) : Int)))) && ((((c.peers : Int) : Int) == ((d.peers : Int) : Int)))) && ((((c.mtsn : Int) : Int) == ((d.mtsn : Int) : Int)))) && ((((c.ptsn : Int) : Int) == ((d.ptsn : Int) : Int)))) && (((c.win : Int) == (d.win : Int)))) && (((c.out : Int) == (d.out : Int)))) && (((c.inn : Int) == (d.inn : Int)))) && ((((c.tm : Int) : Int) == ((d.tm : Int) : Int)))) && ((((c.tp : Int) : Int) == ((d.tp : Int) : Int)))) && ((decide (c.mr = d.mr))))) (want := true) hgb (want_t _) (fun hc => ?_) (fun hc => under_no hc)
          replace h1 := h1.get hc
          exact give_of (exec_string byteT strT rfl wx _ (by rw [h1]; exact HB.p.ext hR)) ⟨Ext.refl _, under_yes hc⟩
        refine GoodAll.cons ?_ ?_
        · intro r wx hR hx
          obtain ⟨h1, h2, _⟩ := hx
          replace h1 : Under (((((((((((((((c.made : Int) == (d.made : Int)) && (((c.life : Int) == (d.life : Int)))) && ((((c.mine : Int) : Int) == ((d.mine : Int) : Int)))) && ((((c.peers : Int) : Int) == ((d.peers : Int) : Int)))) && ((((c.mtsn : Int) : Int) == ((d.mtsn : Int) : Int)))) && ((((c.ptsn : Int) : Int) == ((d.ptsn : Int) : Int)))) && (((c.win : Int) == (d.win : Int)))) && (((c.out : Int) == (d.out : Int)))) && (((c.inn : Int) == (d.inn : Int)))) && ((((c.tm : Int) : Int) == ((d.tm : Int) : Int)))) && ((((c.tp : Int) : Int) == ((d.tp : Int) : Int)))) && ((decide (c.mr = d.mr)))))) (.string (strOf c.pr)) wx (r (.tmp 118)) := h1
          replace h2 : Under (((((((((((((((c.made : Int) == (d.made : Int)) && (((c.life : Int) == (d.life : Int)))) && ((((c.mine : Int) : Int) == ((d.mine : Int) : Int)))) && ((((c.peers : Int) : Int) == ((d.peers : Int) : Int)))) && ((((c.mtsn : Int) : Int) == ((d.mtsn : Int) : Int)))) && ((((c.ptsn : Int) : Int) == ((d.ptsn : Int) : Int)))) && (((c.win : Int) == (d.win : Int)))) && (((c.out : Int) == (d.out : Int)))) && (((c.inn : Int) == (d.inn : Int)))) && ((((c.tm : Int) : Int) == ((d.tm : Int) : Int)))) && ((((c.tp : Int) : Int) == ((d.tp : Int) : Int)))) && ((decide (c.mr = d.mr)))))) (.string (strOf d.pr)) wx (r (.tmp 121)) := h2
          intro gb hgb
          refine guard_u (C := ((((((((((((((c.made : Int) == (d.made : Int)) && (((c.life : Int) == (d.life : Int)))) && ((((c.mine : Int) : Int) == ((d.mine : Int) : Int)))) && ((((c.peers : Int) : Int) == ((d.peers : Int) : Int)))) && ((((c.mtsn : Int) : Int) == ((d.mtsn : Int) : Int)))) && ((((c.ptsn : Int) : Int) == ((d.ptsn : Int) : Int)))) && (((c.win : Int) == (d.win : Int)))) && (((c.out : Int) == (d.out : Int)))) && (((c.inn : Int) == (d.inn : Int)))) && ((((c.tm : Int) : Int) == ((d.tm : Int) : Int)))) && ((((c.tp : Int) : Int) == ((d.tp : Int) : Int)))) && ((decide (c.mr = d.mr)))))) (b := (((((((((((((c.made : Int) == (d.made : Int)) && (((c.life : Int) == (d.life : Int)))) && ((((c.mine : Int) : Int) == ((d.mine : Int) : Int)))) && ((((c.peers : Int) : Int) == ((d.peers : Int) : Int)))) && ((((c.mtsn : Int) : Int) == ((d.mtsn : Int) : Int)))) && ((((c.ptsn : Int) : Int) == ((d.ptsn : Int) : Int)))) && (((c.win : Int) == (d.win : Int)))) && (((c.out : Int) == (d.out : Int)))) && (((c.inn : Int) == (d.inn : Int)))) && ((((c.tm : Int) : Int) == ((d.tm : Int) : Int)))) && ((((c.tp : Int) : Int) == ((d.tp : Int) : Int)))) && ((decide (c.mr = d.mr))))) (want := true) hgb (want_t _) (fun hc => ?_) (fun hc => under_no hc)
          replace h1 := h1.get hc
          replace h2 := h2.get hc
          exact give_of (exec_eqlS rfl h1 h2 HA.p.1 HB.p.1) ⟨Ext.refl _, under_yes hc⟩
        refine GoodAll.cons ?_ ?_
        · intro r wx hR hx
          obtain ⟨h1, h2, h3, _⟩ := hx
          replace h1 : r (.tmp 115) = .bool (((((((((((((c.made : Int) == (d.made : Int)) && (((c.life : Int) == (d.life : Int)))) && ((((c.mine : Int) : Int) == ((d.mine : Int) : Int)))) && ((((c.peers : Int) : Int) == ((d.peers : Int) : Int)))) && ((((c.mtsn : Int) : Int) == ((d.mtsn : Int) : Int)))) && ((((c.ptsn : Int) : Int) == ((d.ptsn : Int) : Int)))) && (((c.win : Int) == (d.win : Int)))) && (((c.out : Int) == (d.out : Int)))) && (((c.inn : Int) == (d.inn : Int)))) && ((((c.tm : Int) : Int) == ((d.tm : Int) : Int)))) && ((((c.tp : Int) : Int) == ((d.tp : Int) : Int)))) && ((decide (c.mr = d.mr)))) := h1
          replace h2 : Under (((((((((((((((c.made : Int) == (d.made : Int)) && (((c.life : Int) == (d.life : Int)))) && ((((c.mine : Int) : Int) == ((d.mine : Int) : Int)))) && ((((c.peers : Int) : Int) == ((d.peers : Int) : Int)))) && ((((c.mtsn : Int) : Int) == ((d.mtsn : Int) : Int)))) && ((((c.ptsn : Int) : Int) == ((d.ptsn : Int) : Int)))) && (((c.win : Int) == (d.win : Int)))) && (((c.out : Int) == (d.out : Int)))) && (((c.inn : Int) == (d.inn : Int)))) && ((((c.tm : Int) : Int) == ((d.tm : Int) : Int)))) && ((((c.tp : Int) : Int) == ((d.tp : Int) : Int)))) && ((decide (c.mr = d.mr)))))) (.bool (decide (c.pr = d.pr))) wx (r (.tmp 122)) := h2
          replace h3 : r (.const (.bool false)) = .bool false := h3
          exact give_and rfl h3 h1 (fun hb => h2.get (by first | exact hb | (rw [hc, hb]; rfl) | (rw [hb]; rfl))) ⟨Ext.refl _, rfl⟩
        refine GoodAll.cons ?_ ?_
        · intro r wx hR hx
          obtain ⟨h1, _⟩ := hx
          replace h1 : r (.tmp 123) = .bool ((((((((((((((c.made : Int) == (d.made : Int)) && (((c.life : Int) == (d.life : Int)))) && ((((c.mine : Int) : Int) == ((d.mine : Int) : Int)))) && ((((c.peers : Int) : Int) == ((d.peers : Int) : Int)))) && ((((c.mtsn : Int) : Int) == ((d.mtsn : Int) : Int)))) && ((((c.ptsn : Int) : Int) == ((d.ptsn : Int) : Int)))) && (((c.win : Int) == (d.win : Int)))) && (((c.out : Int) == (d.out : Int)))) && (((c.inn : Int) == (d.inn : Int)))) && ((((c.tm : Int) : Int) == ((d.tm : Int) : Int)))) && ((((c.tp : Int) : Int) == ((d.tp : Int) : Int)))) && ((decide (c.mr = d.mr)))) && ((decide (c.pr = d.pr)))) := h1
          exact give_move (.inr rfl) ⟨Ext.refl _, h1⟩
        exact GoodAll.nil
      · intro vs wE aE hR hold haE
        have hv : vs 93 = .bool ((((((((((((((c.made : Int) == (d.made : Int)) && (((c.life : Int) == (d.life : Int)))) && ((((c.mine : Int) : Int) == ((d.mine : Int) : Int)))) && ((((c.peers : Int) : Int) == ((d.peers : Int) : Int)))) && ((((c.mtsn : Int) : Int) == ((d.mtsn : Int) : Int)))) && ((((c.ptsn : Int) : Int) == ((d.ptsn : Int) : Int)))) && (((c.win : Int) == (d.win : Int)))) && (((c.out : Int) == (d.out : Int)))) && (((c.inn : Int) == (d.inn : Int)))) && ((((c.tm : Int) : Int) == ((d.tm : Int) : Int)))) && ((((c.tp : Int) : Int) == ((d.tp : Int) : Int)))) && ((decide (c.mr = d.mr)))) && ((decide (c.pr = d.pr)))) := hold.at 93
        refine ‹∀ (a : Act) (w : World), Code.wp Tryd.prog Code.ret _ a w → _› _ _ ?_
        refine wp_ret ?_
        have hs : aE.tmps[4]? = some (.bool ((((((((((((((c.made : Int) == (d.made : Int)) && (((c.life : Int) == (d.life : Int)))) && ((((c.mine : Int) : Int) == ((d.mine : Int) : Int)))) && ((((c.peers : Int) : Int) == ((d.peers : Int) : Int)))) && ((((c.mtsn : Int) : Int) == ((d.mtsn : Int) : Int)))) && ((((c.ptsn : Int) : Int) == ((d.ptsn : Int) : Int)))) && (((c.win : Int) == (d.win : Int)))) && (((c.out : Int) == (d.out : Int)))) && (((c.inn : Int) == (d.inn : Int)))) && ((((c.tm : Int) : Int) == ((d.tm : Int) : Int)))) && ((((c.tp : Int) : Int) == ((d.tp : Int) : Int)))) && ((decide (c.mr = d.mr)))) && ((decide (c.pr = d.pr))))) := by rw [haE, ← hv]; kernel_rfl
        have hdf : aE.defers = [] := by rw [haE]; exact putAll_defers _ _ _ _
        clear haE
        refine bodyPost_ret (v := .bool ((((((((((((((c.made : Int) == (d.made : Int)) && (((c.life : Int) == (d.life : Int)))) && ((((c.mine : Int) : Int) == ((d.mine : Int) : Int)))) && ((((c.peers : Int) : Int) == ((d.peers : Int) : Int)))) && ((((c.mtsn : Int) : Int) == ((d.mtsn : Int) : Int)))) && ((((c.ptsn : Int) : Int) == ((d.ptsn : Int) : Int)))) && (((c.win : Int) == (d.win : Int)))) && (((c.out : Int) == (d.out : Int)))) && (((c.inn : Int) == (d.inn : Int)))) && ((((c.tm : Int) : Int) == ((d.tm : Int) : Int)))) && ((((c.tp : Int) : Int) == ((d.tp : Int) : Int)))) && ((decide (c.mr = d.mr)))) && ((decide (c.pr = d.pr))))) ?_ hdf ⟨rfl, HEE.out.trans hR⟩
        simp [results, Tryd.results13, go_sem, hs]
end Tlv
end Go.Proofs.YtfhoielfekeihaaDoor
