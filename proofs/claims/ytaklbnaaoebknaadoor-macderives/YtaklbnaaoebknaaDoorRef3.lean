/- The document's own filling: what this function answers. No condition of its own. -/
import Derived.Test.YtaklbnaaoebknaaDoorRef2
namespace Go.Proofs.YtaklbnaaoebknaaDoor
open Go Go.RowKit
set_option linter.unusedVariables false
set_option linter.unusedSimpArgs false
set_option maxRecDepth 100000

set_option maxHeartbeats 8000000 in
theorem filled_any (v : Value) (T : List Nat) (w : World) (hv : BytesAt w v T) (hT : T.length ≤ 20000) :
    Calls Tryd.prog 30 #[v] w fun e w' => ∃ u, e = .returned u ∧ OwnB w' w.heap.size 5 u (T ++ Sha.fill T.length) ∧ Ext w w' := by
  have HV : Hid (BytesAt w v T) := hv
  obtain ⟨a, cap, rfl, _, _⟩ := hv.form
  clear hv
  rename_i y1 y2
  clear y1 y2
  obtain ⟨z, hz⟩ : ∃ z, z = Sha.nz T.length := ⟨_, rfl⟩
  have HF : Hid (Sha.fill T.length = 128 :: (List.replicate z 0 ++ Sha.be8 (8 * T.length))) := show _ = _ by rw [hz]; rfl
  have HZ : Hid (z = (119 - T.length % 64) % 64 ∧ T.length ≤ 20000) := ⟨hz, hT⟩
  obtain ⟨m, hm⟩ : ∃ m, m = 8 * T.length := ⟨_, rfl⟩
  rw [← hm] at HF
  have hm1 : (8 : Int) * (T.length : Int) = (m : Int) := by omega
  have hm2 : IntKind.u64.wrap (m : Int) = (m : Int) := by rw [IntKind.wrap_u64]; omega
  have hm3 : IntKind.i64.wrap (m : Int) = (m : Int) := by rw [IntKind.wrap_i64]; omega
  have hml : m ≤ 160000 := by omega
  clear hm hz
  go_enter Tryd.func30, Tryd.ntmps30
  go_wp2_with (first
    | (at_builtin; refine wpList_append_bytes byteT rfl _ _ rfl w.heap.size T [128] ho1 (OwnB.bytes (base := 0) (e := 5) (OwnB.made (base := 0) (e := 5) _ [128] rfl (Nat.zero_le _) rfl (by simp [maxLen]) (by simp) rfl)) (by have := HZ.out; simp; omega) ?_; intro g2 c2 w2 ho2 hb2)
    | (at_builtin; refine wpList_append_bytes byteT rfl _ _ rfl w.heap.size [] T (OwnB.made #[] [] rfl (Nat.le_refl _) rfl (by simp) (by simp) rfl) (HV.out.ext (Ext.alloc _ _)) (by have := HZ.out; simp; omega) ?_; intro g1 c1 w1 ho1' hb1; simp only [List.nil_append] at ho1' ⊢; have ho1 := ho1'.ext (Ext.alloc _ (.cells #[.int .u8 128] 5)))
  )
  have HE2 : Hid (Ext w w2) := Below.trans (Below.trans (Ext.alloc w (.cells #[] 5)) hb1) (Below.trans (Ext.of_grown (World.grownBy_alloc w1 (.cells #[.int .u8 128] 5) none) |>.mono (by have := hb1.size; simp at this; omega)) hb2)
  have HO2 : Hid (OwnB w2 w.heap.size 5 (.slice (some ⟨g2, 0, none⟩) (T ++ [128]).length c2) (T ++ [128])) := ho2
  clear ho1 ho1' ho2 hb1 hb2
  go_loopg [3] 64 (fun g s wr => ∃ (k ga len cp : Nat), k ≤ z ∧ g = 64 - k ∧ len = T.length + 1 + k ∧ s = .slice (some ⟨ga, 0, none⟩) len cp ∧ Hid (OwnB wr w.heap.size 5 (.slice (some ⟨ga, 0, none⟩) len cp) (T ++ 128 :: List.replicate k 0) ∧ Ext w wr))
  case atStart => exact ⟨0, g2, _, c2, Nat.zero_le _, rfl, by simp, rfl, by simpa using HO2.out, HE2.out⟩
  case round =>
    obtain ⟨k, ga, len, cp, hk, rfl, hlen, rfl, HR⟩ := hrel
    have HLEN : Hid (len = T.length + 1 + k ∧ k ≤ z) := ⟨hlen, hk⟩
    have hll : len ≤ 30000 := by have := HZ.out; omega
    obtain ⟨r, hr⟩ : ∃ r, r = len % 64 := ⟨_, rfl⟩
    have hrem : ((len : Int)).tmod 64 = (r : Int) := by rw [Int.tmod_eq_emod_of_nonneg (by omega)]; omega
    have HRR : Hid (r = len % 64) := hr
    clear hlen hr hk
    by_cases hlt : k < z
    · have hd : ((r : Int) != 56) = true := by
        have := HZ.out; have := HLEN.out; have := HRR.out
        rw [bne_iff_ne]; omega
      go_wp2_with (first
        | (at_builtin; refine wpList_append_bytes byteT rfl _ _ rfl w.heap.size _ [0] (HR.out.1.ext (Ext.alloc _ _)) (OwnB.bytes (base := 0) (e := 5) (OwnB.made (base := 0) (e := 5) _ [0] rfl (Nat.zero_le _) rfl (by simp [maxLen]) (by simp) rfl)) (by have := HZ.out; have := HLEN.out; simp; omega) ?_; intro g3 c3 w3 ho3 hb3))
      go_roundg (64 - (k + 1))
      case measure => have := HZ.out; omega
      case rel =>
        refine ⟨k + 1, g3, _, c3, by omega, rfl, ?_, rfl, ?_, ?_⟩
        · have := HLEN.out; first | omega | (simp; omega)
        · have e : T ++ 128 :: List.replicate (k + 1) 0 = T ++ 128 :: List.replicate k 0 ++ [0] := by rw [List.replicate_succ']; simp
          rw [e]; simpa using ho3
        · exact Below.trans (HR.out.2.trans (Ext.alloc _ _)) hb3
    · have hd : ((r : Int) != 56) = false := by
        have := HZ.out; have := HLEN.out; have := HRR.out
        rw [bne_eq_false_iff_eq]; omega
      obtain rfl : k = z := by have := HLEN.out; omega
      go_wp2_with fail
      go_loopg [3, 5] 8 (fun g s t wr => ∃ k2 : Nat, k2 ≤ 8 ∧ g = 8 - k2 ∧ t = .int .i64 (56 - 8 * (k2 : Int)) ∧ ∃ gb len cap, s = .slice (some ⟨gb, 0, none⟩) len cap ∧ Hid (OwnB wr w.heap.size 5 (.slice (some ⟨gb, 0, none⟩) len cap) (T ++ 128 :: List.replicate k 0 ++ (Sha.be8 m).take k2) ∧ Ext w wr))
      case atStart => exact ⟨0, by omega, rfl, rfl, _, _, _, rfl, by simpa using HR.out.1, HR.out.2⟩
      case round =>
        obtain ⟨k2, hk2, rfl, rfl, gb, len2, cap2, rfl, HR2⟩ := hrel
        have hcs : k2 = 0 ∨ k2 = 1 ∨ k2 = 2 ∨ k2 = 3 ∨ k2 = 4 ∨ k2 = 5 ∨ k2 = 6 ∨ k2 = 7 ∨ k2 = 8 := by omega
        rcases hcs with rfl | rfl | rfl | rfl | rfl | rfl | rfl | rfl | rfl
        · obtain ⟨b, hb⟩ : ∃ x, x = m / 72057594037927936 % 256 := ⟨_, rfl⟩
          have q1 : (m : Int) / 72057594037927936 % 256 = (b : Int) := by omega
          have q2 : IntKind.u8.wrap ((m : Int) / 72057594037927936) = (b : Int) := by rw [IntKind.wrap_u8]; exact q1
          have HT2 : Hid ((Sha.be8 m).take (0 + 1) = (Sha.be8 m).take 0 ++ [b]) := show _ = _ by rw [be8_take m 0 (by decide), hb]
          have hbl : b < 256 := by omega
          clear hb
          go_wp2_with (first
            | (at_builtin; refine wpList_append_bytes byteT rfl _ _ rfl w.heap.size _ [b] (HR2.out.1.ext (Ext.alloc _ _)) (OwnB.bytes (base := 0) (e := 5) (OwnB.made (base := 0) (e := 5) _ [b] rfl (Nat.zero_le _) rfl (by simp [maxLen]) (by simp; omega) (by simp [cellsB, q1, q2]))) (by have := HZ.out; have := HLEN.out; simp [Sha.be8]; omega) ?_; intro g4 c4 w4 ho4 hb4))
          go_roundg (8 - (0 + 1))
          case measure => omega
          case rel =>
            refine ⟨0 + 1, by omega, rfl, by simp, g4, _, c4, rfl, ?_, ?_⟩
            · rw [HT2.out, ← List.append_assoc]; simpa using ho4
            · exact Below.trans (HR2.out.2.trans (Ext.alloc _ _)) hb4
        · obtain ⟨b, hb⟩ : ∃ x, x = m / 281474976710656 % 256 := ⟨_, rfl⟩
          have q1 : (m : Int) / 281474976710656 % 256 = (b : Int) := by omega
          have q2 : IntKind.u8.wrap ((m : Int) / 281474976710656) = (b : Int) := by rw [IntKind.wrap_u8]; exact q1
          have HT2 : Hid ((Sha.be8 m).take (1 + 1) = (Sha.be8 m).take 1 ++ [b]) := show _ = _ by rw [be8_take m 1 (by decide), hb]
          have hbl : b < 256 := by omega
          clear hb
          go_wp2_with (first
            | (at_builtin; refine wpList_append_bytes byteT rfl _ _ rfl w.heap.size _ [b] (HR2.out.1.ext (Ext.alloc _ _)) (OwnB.bytes (base := 0) (e := 5) (OwnB.made (base := 0) (e := 5) _ [b] rfl (Nat.zero_le _) rfl (by simp [maxLen]) (by simp; omega) (by simp [cellsB, q1, q2]))) (by have := HZ.out; have := HLEN.out; simp [Sha.be8]; omega) ?_; intro g4 c4 w4 ho4 hb4))
          go_roundg (8 - (1 + 1))
          case measure => omega
          case rel =>
            refine ⟨1 + 1, by omega, rfl, by simp, g4, _, c4, rfl, ?_, ?_⟩
            · rw [HT2.out, ← List.append_assoc]; simpa using ho4
            · exact Below.trans (HR2.out.2.trans (Ext.alloc _ _)) hb4
        · obtain ⟨b, hb⟩ : ∃ x, x = m / 1099511627776 % 256 := ⟨_, rfl⟩
          have q1 : (m : Int) / 1099511627776 % 256 = (b : Int) := by omega
          have q2 : IntKind.u8.wrap ((m : Int) / 1099511627776) = (b : Int) := by rw [IntKind.wrap_u8]; exact q1
          have HT2 : Hid ((Sha.be8 m).take (2 + 1) = (Sha.be8 m).take 2 ++ [b]) := show _ = _ by rw [be8_take m 2 (by decide), hb]
          have hbl : b < 256 := by omega
          clear hb
          go_wp2_with (first
            | (at_builtin; refine wpList_append_bytes byteT rfl _ _ rfl w.heap.size _ [b] (HR2.out.1.ext (Ext.alloc _ _)) (OwnB.bytes (base := 0) (e := 5) (OwnB.made (base := 0) (e := 5) _ [b] rfl (Nat.zero_le _) rfl (by simp [maxLen]) (by simp; omega) (by simp [cellsB, q1, q2]))) (by have := HZ.out; have := HLEN.out; simp [Sha.be8]; omega) ?_; intro g4 c4 w4 ho4 hb4))
          go_roundg (8 - (2 + 1))
          case measure => omega
          case rel =>
            refine ⟨2 + 1, by omega, rfl, by simp, g4, _, c4, rfl, ?_, ?_⟩
            · rw [HT2.out, ← List.append_assoc]; simpa using ho4
            · exact Below.trans (HR2.out.2.trans (Ext.alloc _ _)) hb4
        · obtain ⟨b, hb⟩ : ∃ x, x = m / 4294967296 % 256 := ⟨_, rfl⟩
          have q1 : (m : Int) / 4294967296 % 256 = (b : Int) := by omega
          have q2 : IntKind.u8.wrap ((m : Int) / 4294967296) = (b : Int) := by rw [IntKind.wrap_u8]; exact q1
          have HT2 : Hid ((Sha.be8 m).take (3 + 1) = (Sha.be8 m).take 3 ++ [b]) := show _ = _ by rw [be8_take m 3 (by decide), hb]
          have hbl : b < 256 := by omega
          clear hb
          go_wp2_with (first
            | (at_builtin; refine wpList_append_bytes byteT rfl _ _ rfl w.heap.size _ [b] (HR2.out.1.ext (Ext.alloc _ _)) (OwnB.bytes (base := 0) (e := 5) (OwnB.made (base := 0) (e := 5) _ [b] rfl (Nat.zero_le _) rfl (by simp [maxLen]) (by simp; omega) (by simp [cellsB, q1, q2]))) (by have := HZ.out; have := HLEN.out; simp [Sha.be8]; omega) ?_; intro g4 c4 w4 ho4 hb4))
          go_roundg (8 - (3 + 1))
          case measure => omega
          case rel =>
            refine ⟨3 + 1, by omega, rfl, by simp, g4, _, c4, rfl, ?_, ?_⟩
            · rw [HT2.out, ← List.append_assoc]; simpa using ho4
            · exact Below.trans (HR2.out.2.trans (Ext.alloc _ _)) hb4
        · obtain ⟨b, hb⟩ : ∃ x, x = m / 16777216 % 256 := ⟨_, rfl⟩
          have q1 : (m : Int) / 16777216 % 256 = (b : Int) := by omega
          have q2 : IntKind.u8.wrap ((m : Int) / 16777216) = (b : Int) := by rw [IntKind.wrap_u8]; exact q1
          have HT2 : Hid ((Sha.be8 m).take (4 + 1) = (Sha.be8 m).take 4 ++ [b]) := show _ = _ by rw [be8_take m 4 (by decide), hb]
          have hbl : b < 256 := by omega
          clear hb
          go_wp2_with (first
            | (at_builtin; refine wpList_append_bytes byteT rfl _ _ rfl w.heap.size _ [b] (HR2.out.1.ext (Ext.alloc _ _)) (OwnB.bytes (base := 0) (e := 5) (OwnB.made (base := 0) (e := 5) _ [b] rfl (Nat.zero_le _) rfl (by simp [maxLen]) (by simp; omega) (by simp [cellsB, q1, q2]))) (by have := HZ.out; have := HLEN.out; simp [Sha.be8]; omega) ?_; intro g4 c4 w4 ho4 hb4))
          go_roundg (8 - (4 + 1))
          case measure => omega
          case rel =>
            refine ⟨4 + 1, by omega, rfl, by simp, g4, _, c4, rfl, ?_, ?_⟩
            · rw [HT2.out, ← List.append_assoc]; simpa using ho4
            · exact Below.trans (HR2.out.2.trans (Ext.alloc _ _)) hb4
        · obtain ⟨b, hb⟩ : ∃ x, x = m / 65536 % 256 := ⟨_, rfl⟩
          have q1 : (m : Int) / 65536 % 256 = (b : Int) := by omega
          have q2 : IntKind.u8.wrap ((m : Int) / 65536) = (b : Int) := by rw [IntKind.wrap_u8]; exact q1
          have HT2 : Hid ((Sha.be8 m).take (5 + 1) = (Sha.be8 m).take 5 ++ [b]) := show _ = _ by rw [be8_take m 5 (by decide), hb]
          have hbl : b < 256 := by omega
          clear hb
          go_wp2_with (first
            | (at_builtin; refine wpList_append_bytes byteT rfl _ _ rfl w.heap.size _ [b] (HR2.out.1.ext (Ext.alloc _ _)) (OwnB.bytes (base := 0) (e := 5) (OwnB.made (base := 0) (e := 5) _ [b] rfl (Nat.zero_le _) rfl (by simp [maxLen]) (by simp; omega) (by simp [cellsB, q1, q2]))) (by have := HZ.out; have := HLEN.out; simp [Sha.be8]; omega) ?_; intro g4 c4 w4 ho4 hb4))
          go_roundg (8 - (5 + 1))
          case measure => omega
          case rel =>
            refine ⟨5 + 1, by omega, rfl, by simp, g4, _, c4, rfl, ?_, ?_⟩
            · rw [HT2.out, ← List.append_assoc]; simpa using ho4
            · exact Below.trans (HR2.out.2.trans (Ext.alloc _ _)) hb4
        · obtain ⟨b, hb⟩ : ∃ x, x = m / 256 % 256 := ⟨_, rfl⟩
          have q1 : (m : Int) / 256 % 256 = (b : Int) := by omega
          have q2 : IntKind.u8.wrap ((m : Int) / 256) = (b : Int) := by rw [IntKind.wrap_u8]; exact q1
          have HT2 : Hid ((Sha.be8 m).take (6 + 1) = (Sha.be8 m).take 6 ++ [b]) := show _ = _ by rw [be8_take m 6 (by decide), hb]
          have hbl : b < 256 := by omega
          clear hb
          go_wp2_with (first
            | (at_builtin; refine wpList_append_bytes byteT rfl _ _ rfl w.heap.size _ [b] (HR2.out.1.ext (Ext.alloc _ _)) (OwnB.bytes (base := 0) (e := 5) (OwnB.made (base := 0) (e := 5) _ [b] rfl (Nat.zero_le _) rfl (by simp [maxLen]) (by simp; omega) (by simp [cellsB, q1, q2]))) (by have := HZ.out; have := HLEN.out; simp [Sha.be8]; omega) ?_; intro g4 c4 w4 ho4 hb4))
          go_roundg (8 - (6 + 1))
          case measure => omega
          case rel =>
            refine ⟨6 + 1, by omega, rfl, by simp, g4, _, c4, rfl, ?_, ?_⟩
            · rw [HT2.out, ← List.append_assoc]; simpa using ho4
            · exact Below.trans (HR2.out.2.trans (Ext.alloc _ _)) hb4
        · obtain ⟨b, hb⟩ : ∃ x, x = m / 1 % 256 := ⟨_, rfl⟩
          have q1 : (m : Int) / 1 % 256 = (b : Int) := by omega
          have q2 : IntKind.u8.wrap ((m : Int) / 1) = (b : Int) := by rw [IntKind.wrap_u8]; exact q1
          have q3 : (m : Int) % 256 = (b : Int) := by omega
          have q4 : IntKind.u8.wrap (m : Int) = (b : Int) := by rw [IntKind.wrap_u8]; exact q3
          have HT2 : Hid ((Sha.be8 m).take (7 + 1) = (Sha.be8 m).take 7 ++ [b]) := show _ = _ by rw [be8_take m 7 (by decide), hb]
          have hbl : b < 256 := by omega
          clear hb
          go_wp2_with (first
            | (at_builtin; refine wpList_append_bytes byteT rfl _ _ rfl w.heap.size _ [b] (HR2.out.1.ext (Ext.alloc _ _)) (OwnB.bytes (base := 0) (e := 5) (OwnB.made (base := 0) (e := 5) _ [b] rfl (Nat.zero_le _) rfl (by simp [maxLen]) (by simp; omega) (by simp [cellsB, q1, q2, q3, q4]))) (by have := HZ.out; have := HLEN.out; simp [Sha.be8]; omega) ?_; intro g4 c4 w4 ho4 hb4))
          go_roundg (8 - (7 + 1))
          case measure => omega
          case rel =>
            refine ⟨7 + 1, by omega, rfl, by simp, g4, _, c4, rfl, ?_, ?_⟩
            · rw [HT2.out, ← List.append_assoc]; simpa using ho4
            · exact Below.trans (HR2.out.2.trans (Ext.alloc _ _)) hb4
        · go_wp2
          go_ret
          refine ⟨_, rfl, ?_, HR2.out.2⟩
          have := HR2.out.1
          rw [List.take_of_length_le (by simp [Sha.be8])] at this
          rw [HF.out]; simpa using this
end Go.Proofs.YtaklbnaaoebknaaDoor
