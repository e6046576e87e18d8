/- What Put, Get, Close and Fits of package crc answer, and the document's own Sum, Bytes, Close and Fits beside them, each as a contract over the translated program. Conditions: the table fourBits holds what the program's text lays. -/
import Derived.Test.YtofjfnmhhldniaaDoorWalks
import Derived.Laws.MakeOwn
import Derived.Laws.CopyRow
namespace Go.Proofs.YtofjfnmhhldniaaDoor
open Go.RowKit
set_option linter.unusedVariables false
set_option linter.unusedSimpArgs false

theorem or32 (x y i : Nat) (hx : x < 2 ^ i) (hy : y % 2 ^ i = 0) (hx2 : x < 4294967296) (hy2 : y < 4294967296) : bits .or .u32 (x : Int) (y : Int) = ((x + y : Nat) : Int) := by
  rw [u32_or _ _ (by omega) (by omega) (by omega) (by omega)]
  simp only [Int.toNat_natCast]
  have hq : y = 2 ^ i * (y / 2 ^ i) := by
    have := Nat.div_add_mod y (2 ^ i)
    omega
  rw [Nat.or_comm, hq, ← Nat.two_pow_add_eq_or_of_lt hx (y / 2 ^ i), Nat.add_comm]

def arr4 (a b c d : Nat) : Value := .agg #[.int .u8 (a : Nat), .int .u8 (b : Nat), .int .u8 (c : Nat), .int .u8 (d : Nat)]

theorem put_any (s : Nat) (w : World) (hs : s < 4294967296) :
    Calls Tryd.prog 8 #[.int .u32 (s : Int)] w fun e w' => e = .returned (arr4 (s % 256) (s / 256 % 256) (s / 65536 % 256) (s / 16777216)) ∧ Ext w w' := by
  go_enter Tryd.func8, Tryd.ntmps8
  go_wp2
  refine bodyPost_ret (v := arr4 (s % 256) (s / 256 % 256) (s / 65536 % 256) (s / 16777216)) (by simp [results, Tryd.results8, go_sem, arr4]) rfl ⟨rfl, Ext.alloc _ _⟩

theorem get_any (a b c d : Nat) (w : World) (ha : a < 256) (hb : b < 256) (hc : c < 256) (hd : d < 256) :
    Calls Tryd.prog 11 #[arr4 a b c d] w fun e w' => e = .returned (.int .u32 (Crc.val4 a b c d : Nat)) ∧ Ext w w' := by
  unfold arr4
  have h1 : bits .or .u32 (a : Int) ((b : Int) * 256) = ((a + b * 256 : Nat) : Int) := by
    have := or32 a (b * 256) 8 ha (by omega) (by omega) (by omega)
    simpa using this
  have h2 : bits .or .u32 ((a : Int) + (b : Int) * 256) ((c : Int) * 65536) = ((a + b * 256 + c * 65536 : Nat) : Int) := by
    have := or32 (a + b * 256) (c * 65536) 16 (by omega) (by omega) (by omega) (by omega)
    simpa using this
  have h3 : bits .or .u32 ((a : Int) + (b : Int) * 256 + (c : Int) * 65536) ((d : Int) * 16777216) = ((Crc.val4 a b c d : Nat) : Int) := by
    have := or32 (a + b * 256 + c * 65536) (d * 16777216) 24 (by omega) (by omega) (by omega) (by omega)
    unfold Crc.val4
    simpa using this
  go_enter Tryd.func11, Tryd.ntmps11
  go_wp2
  go_ret
  refine ⟨ret_int ?_, Ext.alloc _ _⟩
  simp

theorem bytes_any (s : Nat) (w : World) (hs : s < 4294967296) :
    Calls Tryd.prog 10 #[.int .u32 (s : Int)] w fun e w' => ∃ v, e = .returned v ∧ BytesAt w' v (Crc.le4 s) ∧ Ext w w' := by
  go_enter Tryd.func10, Tryd.ntmps10
  go_wp2
  go_ret
  refine ⟨_, rfl, ?_, Ext.alloc _ _⟩
  refine (OwnB.made (base := 0) _ (Crc.le4 s) rfl (by omega) rfl (by simp [Crc.le4, maxLen]) (Crc.le4_lt hs) ?_).bytes
  simp [cellsB, Crc.le4]

set_option maxHeartbeats 1000000 in
theorem refsum_any (v : Value) (l : List Nat) (w : World) (hv : BytesAt w v l) :
    Calls Tryd.prog 7 #[v] w fun e w' => e = .returned (.int .u32 (Crc.sum l : Nat)) ∧ w' = w := by
  obtain ⟨a, c, rfl, _, hc⟩ := hv.form
  have HB : Hid (∀ x ∈ l, x < 256) := hv.1
  have HC : Hid (∀ j, j < l.length → ∃ b off, a = some ⟨b, off, none⟩ ∧ w.cell? ⟨b, off + j, none⟩ = some (.int .u8 (l.getD j 0 : Nat))) := hc
  have hm := hv.2.1
  unfold maxLen at hm
  clear hv hc
  go_enter Tryd.func7, Tryd.ntmps7
  go_wp2
  go_loopg [3, 4] l.length (fun g s i wx => wx = w ∧ ∃ j : Nat, j ≤ l.length ∧ g = l.length - j ∧ i = .int .i64 (j : Int) ∧ s = .int .u32 (Crc.reg 4294967295 (l.take j) : Nat))
  case atStart => exact ⟨rfl, 0, by omega, rfl, rfl, rfl⟩
  case round =>
    obtain ⟨rfl, j, hj, rfl, rfl, rfl⟩ := hrel
    have hs : Crc.reg 4294967295 (l.take j) < 4294967296 := Crc.reg_lt _ (by omega) fun x hx => HB.out x (List.mem_of_mem_take hx)
    by_cases hjl : j < l.length
    · obtain ⟨b, off, rfl, hcell⟩ := HC.out j hjl
      have hbb : l.getD j 0 < 256 := HB.out _ (getD_mem l 0 j hjl)
      have HS : Hid (Crc.reg 4294967295 (l.take (j + 1)) = Crc.shn 8 (Crc.reg 4294967295 (l.take j) ^^^ l.getD j 0)) := by
        show _ = _
        rw [take_next l 0 j hjl, Crc.reg_snoc, Crc.ch_eq]
      have hx := xorN _ (l.getD j 0) hs (by omega)
      have hxl := Crc.lt_xor hs (show l.getD j 0 < 4294967296 by omega)
      generalize Crc.reg 4294967295 (l.take j) = s at *
      generalize l.getD j 0 = x at *
      generalize s ^^^ x = y at *
      go_wp2
      go_loopg [3, 5] 8 (fun g c i wx => wx = wr ∧ ∃ k : Nat, k ≤ 8 ∧ g = 8 - k ∧ i = .int .i64 (k : Int) ∧ c = .int .u32 (Crc.shn k y : Nat))
      case atStart => exact ⟨rfl, 0, by omega, rfl, rfl, by simp [Crc.shn]⟩
      case round =>
        obtain ⟨rfl, k, hk, rfl, rfl, rfl⟩ := hrel
        have hr := Crc.shn_lt k hxl
        by_cases hk8 : k < 8
        · have HN : Hid (Crc.shn (k + 1) y = Crc.sh (Crc.shn k y)) := Crc.shn_succ k y
          generalize Crc.shn k y = r at *
          have h2 : bits .xor .u32 ((r : Int) / 2) 2197175160 = ((r / 2 ^^^ 2197175160 : Nat) : Int) := by
            have := xorP (r / 2) (by omega)
            simpa using this
          by_cases hp : r % 2 = 1
          · have hb : ((r : Int) % 2 == 1) = true := by simp; omega
            have H1 : Hid (bits .xor .u32 ((r : Int) / 2) 2197175160 = ((r / 2 ^^^ 2197175160 : Nat) : Int)) := h2
            clear h2
            go_wp2
            go_roundg (8 - (k + 1))
            case measure => omega
            case rel => exact ⟨rfl, k + 1, by omega, rfl, by go_num, by rw [HN.out, H1.out]; unfold Crc.sh; rw [if_pos hp]⟩
          · have hb : ((r : Int) % 2 == 1) = false := by simp; omega
            clear h2
            go_wp2
            go_roundg (8 - (k + 1))
            case measure => omega
            case rel => exact ⟨rfl, k + 1, by omega, rfl, by go_num, by rw [HN.out]; unfold Crc.sh; rw [if_neg hp]; simp⟩
        · obtain rfl : k = 8 := by omega
          have HE : Hid (Crc.shn 8 y = Crc.reg 4294967295 (l.take (j + 1))) := HS.out.symm
          generalize Crc.shn 8 y = r at *
          go_wp2
          go_roundg (l.length - (j + 1))
          case measure => omega
          case rel => exact ⟨rfl, j + 1, by omega, rfl, by go_num, by rw [HE.out]⟩
    · have HE : Hid (4294967295 - Crc.reg 4294967295 (l.take j) = Crc.sum l) := by
        show _ = _
        rw [← Crc.xor_all hs, List.take_of_length_le (by omega)]; rfl
      generalize Crc.reg 4294967295 (l.take j) = r at *
      go_wp2
      go_ret
      exact ⟨ret_int (by rw [← HE.out]; omega), rfl⟩
end Go.Proofs.YtofjfnmhhldniaaDoor
