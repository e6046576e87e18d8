/- What the functions of package crc answer, each as a contract over the translated program: changed, shifted, product, Join and Sum. Conditions: the table fourBits holds what the program's text lays. -/
import Derived.Test.YtofjfnmhhldniaaDoorRows
import Derived.Test.YtofjfnmhhldniaaDoorMath
import Derived.Test.YtofjfnmhhldniaaDoorKit
import Derived.Lib.SlBytesConst
import Derived.WalkKit
import Derived.ProofKit
import Derived.OpenShut
import Derived.ShutString
import Derived.ChangeOld
import Derived.Below
import Derived.Laws.BitsAllLaws
import Derived.Deep.LoopGhost
namespace Go.Proofs.YtofjfnmhhldniaaDoor
open Go.RowKit

theorem byteT : ByteT Tryd.prog 22 5 := ⟨Tryd.underlying22, Tryd.underlying5, by kernel_rfl, by kernel_rfl⟩

/-- The table, as the program's text lays it. -/
def Tab (w : World) : Prop := ∀ k, k < 16 → w.cell? ⟨0, k, none⟩ = some (.int .u32 (Crc.tab k : Nat))

theorem and1 (r : Nat) (h : r < 4294967296) : bits .and .u32 (r : Int) 1 = ((r % 2 : Nat) : Int) := by
  rw [u32_and _ _ (by omega) (by omega) (by omega) (by omega)]
  simp [Nat.and_one_is_mod]
theorem and15 (r : Nat) (h : r < 4294967296) : bits .and .u32 (r : Int) 15 = ((r % 16 : Nat) : Int) := by
  rw [u32_and _ _ (by omega) (by omega) (by omega) (by omega)]
  simp only [Int.toNat_natCast]
  rw [show (15 : Int).toNat = 2 ^ 4 - 1 from rfl, Nat.and_two_pow_sub_one_eq_mod]
theorem and1i (k : Nat) (h : k < 9223372036854775808) : bits .and .i64 (k : Int) 1 = ((k % 2 : Nat) : Int) := by
  have := bits_mask .i64 63 (by decide) (fun n h0 h1 => by rw [IntKind.wrap_i64]; omega) 1 (by decide) (k : Int) (by omega) (by omega)
  rw [show ((2 : Int) ^ 1 - 1) = 1 from rfl] at this
  rw [this]; simp
theorem xorN (r s : Nat) (hr : r < 4294967296) (hs : s < 4294967296) : bits .xor .u32 (r : Int) (s : Int) = ((r ^^^ s : Nat) : Int) := by
  rw [u32_xor _ _ (by omega) (by omega) (by omega) (by omega)]
  simp
theorem xorP (r : Nat) (hr : r < 4294967296) : bits .xor .u32 (r : Int) 2197175160 = ((r ^^^ 2197175160 : Nat) : Int) := xorN r 2197175160 hr (by omega)

set_option maxHeartbeats 400000 in
theorem shifted_any (r : Nat) (w : World) (h : r < 4294967296) :
    Calls Tryd.prog 19 #[.int .u32 (r : Int)] w fun e w' => e = .returned (.int .u32 (Crc.sh r : Nat)) ∧ w' = w := by
  have h1 := and1 r h
  have h2 : bits .xor .u32 ((r : Int) / 2) 2197175160 = ((r / 2 ^^^ 2197175160 : Nat) : Int) := by
    have := xorP (r / 2) (by omega)
    simpa using this
  by_cases hp : r % 2 = 1
  · have hb : (bits .and .u32 (r : Int) 1 == 1) = true := by rw [h1, hp]; rfl
    have H1 : Hid (bits .xor .u32 ((r : Int) / 2) 2197175160 = ((r / 2 ^^^ 2197175160 : Nat) : Int)) := h2
    clear h1 h2
    go_enter Tryd.func19, Tryd.ntmps19
    go_wp2
    go_ret
    exact ⟨ret_int (by rw [H1.out]; unfold Crc.sh; rw [if_pos hp]), rfl⟩
  · have hb : (bits .and .u32 (r : Int) 1 == 1) = false := by
      rw [h1, show r % 2 = 0 by omega]; rfl
    clear h1 h2
    go_enter Tryd.func19, Tryd.ntmps19
    go_wp2
    go_ret
    exact ⟨ret_int (by unfold Crc.sh; rw [if_neg hp]; simp), rfl⟩

set_option maxHeartbeats 400000 in
theorem changed_any (r b : Nat) (w : World) (hT : Tab w) (h : r < 4294967296) (hb : b < 256) :
    Calls Tryd.prog 17 #[.int .u32 (r : Int), .int .u8 (b : Int)] w fun e w' => e = .returned (.int .u32 (Crc.ch r b : Nat)) ∧ w' = w := by
  have hx := xorN r b h (by omega)
  have hxl := Crc.lt_xor h (show b < 4294967296 by omega)
  generalize hx0 : r ^^^ b = x at *
  have h1 := and15 x hxl
  have hc1 := hT (x % 16) (Nat.mod_lt _ (by decide))
  have t1 := Crc.tab_lt (x % 16)
  generalize hi0 : x % 16 = i at *
  have hi1 : i < 16 := by omega
  have h2 : bits .xor .u32 ((x : Int) / 16) (Crc.tab i : Nat) = ((Crc.half x : Nat) : Int) := by
    have := xorN (x / 16) (Crc.tab i) (by omega) t1
    rw [Crc.half, hi0, ← this]; simp
  have hyl : Crc.half x < 4294967296 := by rw [Crc.half_eq]; exact Crc.shn_lt 4 hxl
  generalize ht1 : Crc.tab i = t at *
  generalize hy0 : Crc.half x = y at *
  have h3 := and15 y hyl
  have hc2 := hT (y % 16) (Nat.mod_lt _ (by decide))
  have t2 := Crc.tab_lt (y % 16)
  generalize hj0 : y % 16 = j at *
  have hj1 : j < 16 := by omega
  have h4 : bits .xor .u32 ((y : Int) / 16) (Crc.tab j : Nat) = ((Crc.half y : Nat) : Int) := by
    have := xorN (y / 16) (Crc.tab j) (by omega) t2
    rw [Crc.half, hj0, ← this]; simp
  have hz : Crc.ch r b = Crc.half y := by rw [Crc.ch, hx0, hy0]
  have HZ : Hid (Crc.ch r b = Crc.half y) := hz
  generalize ht2 : Crc.tab j = t' at *
  clear hz hx0 hi0 hy0 hj0 ht1 ht2 hT
  go_enter Tryd.func17, Tryd.ntmps17
  go_wp2
  go_ret
  exact ⟨ret_int (by rw [HZ.out]), rfl⟩

set_option maxHeartbeats 400000 in
theorem product_any (a b : Nat) (w : World) (ha : a < 4294967296) (hb : b < 4294967296) :
    Calls Tryd.prog 18 #[.int .u32 (a : Int), .int .u32 (b : Int)] w fun e w' => e = .returned (.int .u32 (Crc.prod a b : Nat)) ∧ w' = w := by
  go_enter Tryd.func18, Tryd.ntmps18
  go_wp2
  go_loopg [0, 1, 5] 32 (fun g x y s wr => wr = w ∧ ∃ k : Nat, k ≤ 32 ∧ g = 32 - k ∧ x = .int .u32 ((a * 2 ^ k % 4294967296 : Nat) : Int) ∧ y = .int .u32 (Crc.shn k b : Nat) ∧ s = .int .u32 (Crc.acc a b k : Nat))
  case atStart => exact ⟨rfl, 0, by omega, rfl, by rw [Nat.pow_zero, Nat.mul_one, Nat.mod_eq_of_lt ha], rfl, rfl⟩
  case round =>
    obtain ⟨rfl, k, hk, rfl, rfl, rfl, rfl⟩ := hrel
    have hx : a * 2 ^ k % 4294967296 < 4294967296 := Nat.mod_lt _ (by decide)
    have hy := Crc.shn_lt k hb
    have hs := Crc.acc_lt a hb k
    by_cases h0 : a * 2 ^ k % 4294967296 = 0
    · have HR : Hid (Crc.acc a b k = Crc.prod a b) := by
        have := Crc.acc_rest a b k (32 - k) h0 (by omega)
        rw [show k + (32 - k) = 32 by omega] at this
        exact this.symm
      have hz : (((a * 2 ^ k % 4294967296 : Nat) : Int) != 0) = false := by rw [h0]; rfl
      generalize a * 2 ^ k % 4294967296 = x at *
      go_wp2
      go_ret
      exact ⟨ret_int (by rw [HR.out]), rfl⟩
    · have hk31 : k ≤ 31 := by
        rcases Nat.lt_or_ge k 32 with h | h
        · omega
        · obtain rfl : k = 32 := by omega
          exfalso; apply h0
          rw [show (2 : Nat) ^ 32 = 4294967296 by decide, Nat.mul_mod_left]
      have ht := Crc.top_bit a k hk31
      have HN : Hid (a * 2 ^ (k + 1) % 4294967296 = (a * 2 ^ k % 4294967296) * 2 % 4294967296) := by rw [Nat.pow_succ, ← Nat.mul_assoc, Nat.mod_mul_mod]; rfl
      have hxor := xorN _ _ hs hy
      have HS : Hid (Crc.shn (k + 1) b = Crc.sh (Crc.shn k b)) := Crc.shn_succ k b
      have HA : Hid (Crc.acc a b (k + 1) = if a.testBit (31 - k) then Crc.acc a b k ^^^ Crc.shn k b else Crc.acc a b k) := Crc.acc_succ a b k
      generalize a * 2 ^ k % 4294967296 = x at *
      have hz : ((x : Int) != 0) = true := bne_iff_ne.2 (by omega)
      generalize Crc.shn k b = y at *
      generalize Crc.acc a b k = s at *
      by_cases hbit : a.testBit (31 - k) = true
      · have h31 : ((x : Int) / 2147483648 == 1) = true := by
          have : x / 2147483648 = 1 := by rw [ht, if_pos hbit]
          simp; omega
        clear ht h0
        go_wp2_with (go_at_call 19; refine (shifted_any _ _ hy).mono ?_; rintro e w' ⟨rfl, rfl⟩)
        go_roundg (32 - (k + 1))
        case measure => omega
        case rel => exact ⟨rfl, k + 1, by omega, rfl, by rw [HN.out]; simp, by rw [HS.out], by rw [HA.out, if_pos hbit]⟩
      · have h31 : ((x : Int) / 2147483648 == 1) = false := by
          have : x / 2147483648 = 0 := by rw [ht, if_neg hbit]
          simp; omega
        clear ht h0 hxor
        go_wp2_with (go_at_call 19; refine (shifted_any _ _ hy).mono ?_; rintro e w' ⟨rfl, rfl⟩)
        go_roundg (32 - (k + 1))
        case measure => omega
        case rel => exact ⟨rfl, k + 1, by omega, rfl, by rw [HN.out]; simp, by rw [HS.out], by rw [HA.out, if_neg hbit]⟩

theorem halves (q k : Nat) : q * k = 2 * q * (k / 2) + q * (k % 2) := by
  conv => lhs; rw [← Nat.div_add_mod k 2]
  rw [Nat.mul_add, Nat.mul_comm 2 q, Nat.mul_assoc]
theorem half_odd {c q k n : Nat} (h : c + q * k = n) (hk : k % 2 = 1) : c + q + 2 * q * (k / 2) = n := by
  have := halves q k
  rw [hk, Nat.mul_one] at this
  omega
theorem half_even {c q k n : Nat} (h : c + q * k = n) (hk : k % 2 = 0) : c + 2 * q * (k / 2) = n := by
  have := halves q k
  rw [hk, Nat.mul_zero] at this
  omega
set_option maxHeartbeats 400000 in
theorem join_any (a b n : Nat) (w : World) (ha : a < 4294967296) (hb : b < 4294967296) (hn : n < 9223372036854775808) :
    Calls Tryd.prog 16 #[.int .u32 (a : Int), .int .u32 (b : Int), .int .i64 (n : Int)] w fun e w' => e = .returned (.int .u32 (Crc.join a b n : Nat)) ∧ w' = w := by
  go_enter Tryd.func16, Tryd.ntmps16
  go_wp2
  go_loopg [0, 2, 7] n (fun g x m p wr => wr = w ∧ ∃ c q k : Nat, g = k ∧ m = .int .i64 (k : Int) ∧ k ≤ n ∧ c + q * k = n ∧ x = .int .u32 (Crc.shn (8 * c) a : Nat) ∧ p = .int .u32 (Crc.shn (8 * q) 2147483648 : Nat))
  case atStart => exact ⟨rfl, 0, 1, n, rfl, rfl, by omega, by omega, rfl, rfl⟩
  case round =>
    obtain ⟨rfl, c, q, k, rfl, rfl, hkn, hc, rfl, rfl⟩ := hrel
    have hx := Crc.shn_lt (8 * c) ha
    have hp := Crc.shn_lt (8 * q) (show 2147483648 < 4294967296 by omega)
    have hpp := Crc.prod_shn (Crc.shn (8 * q) 2147483648) (8 * q) hp
    rw [← Crc.shn_add] at hpp
    have hxp := Crc.prod_shn (Crc.shn (8 * c) a) (8 * q) hx
    rw [← Crc.shn_add] at hxp
    have hb1 := and1i gk (by omega)
    by_cases h0 : gk = 0
    · subst h0
      have HC : Hid (c = n) := by show c = n; simpa using hc
      clear hpp hxp hc
      have hxr := xorN _ _ hx hb
      have HJ : Hid (Crc.shn (8 * c) a ^^^ b = Crc.join a b n) := by rw [← HC.out]; rfl
      generalize Crc.shn (8 * c) a = x at *
      go_wp2
      go_ret
      exact ⟨ret_int (by rw [HJ.out]), rfl⟩
    · have hpos : (0 : Int) < (gk : Int) := by omega
      have HPP : Hid (Crc.prod (Crc.shn (8 * q) 2147483648) (Crc.shn (8 * q) 2147483648) = Crc.shn (8 * (2 * q)) 2147483648) := by
        rw [hpp, show 8 * (2 * q) = 8 * q + 8 * q by omega]; rfl
      have HXP : Hid (Crc.prod (Crc.shn (8 * c) a) (Crc.shn (8 * q) 2147483648) = Crc.shn (8 * (c + q)) a) := by
        rw [hxp, show 8 * (c + q) = 8 * q + 8 * c by omega]; rfl
      have hpl := Crc.prod_lt (Crc.shn (8 * q) 2147483648) hp
      have hxl := Crc.prod_lt (Crc.shn (8 * c) a) hp
      have HCC : Hid (c + q * gk = n) := hc
      clear hpp hxp hc
      generalize hxx : Crc.shn (8 * c) a = x at *
      generalize hyy : Crc.shn (8 * q) 2147483648 = y at *
      have HX : Hid (Crc.shn (8 * c) a = x) := hxx
      clear hxx hyy
      by_cases hodd : gk % 2 = 1
      · have hb2 : (bits .and .i64 (gk : Int) 1 == 1) = true := by rw [hb1, hodd]; rfl
        clear hb1
        go_wp2_with fail
        refine (product_any x y _ hx hp).mono ?_
        rintro e w' ⟨rfl, rfl⟩
        go_wp2_with fail
        refine (product_any y y _ hp hp).mono ?_
        rintro e w' ⟨rfl, rfl⟩
        go_wp2_with fail
        go_roundg (gk / 2)
        case measure => omega
        case rel => exact ⟨rfl, c + q, 2 * q, gk / 2, rfl, by simp, by omega, half_odd HCC.out hodd, by rw [HXP.out], by rw [HPP.out]⟩
      · have hb2 : (bits .and .i64 (gk : Int) 1 == 1) = false := by rw [hb1, show gk % 2 = 0 by omega]; rfl
        clear hb1
        go_wp2_with fail
        refine (product_any y y _ hp hp).mono ?_
        rintro e w' ⟨rfl, rfl⟩
        go_wp2_with fail
        go_roundg (gk / 2)
        case measure => omega
        case rel => exact ⟨rfl, c, 2 * q, gk / 2, rfl, by simp, by omega, half_even HCC.out (by omega), by rw [HX.out], by rw [HPP.out]⟩

theorem reg_take_flat_lt (ls : List (List Nat)) (h : ∀ l ∈ ls, ∀ x ∈ l, x < 256) (i : Nat) : Crc.reg 4294967295 (ls.take i).flatten < 4294967296 := by
  refine Crc.reg_lt _ (by omega) fun x hx => ?_
  obtain ⟨l, hl, hx⟩ := List.mem_flatten.1 hx
  exact h l (List.mem_of_mem_take hl) x hx

set_option maxHeartbeats 1000000 in
theorem sum_any (v : Value) (ls : List (List Nat)) (w : World) (hT : Tab w) (hP : PartsAt w v ls) :
    Calls Tryd.prog 9 #[v] w fun e w' => e = .returned (.int .u32 (Crc.sum ls.flatten : Nat)) ∧ w' = w := by
  obtain ⟨hlen, b, off, cap, rfl, hcells⟩ := hP
  have hby : ∀ l ∈ ls, ∀ x ∈ l, x < 256 := by
    intro l hl
    obtain ⟨i, hi, rfl⟩ := List.getElem_of_mem hl
    obtain ⟨u, _, hu, _⟩ := hcells i hi
    simpa [List.getD_eq_getElem?_getD, hi] using hu
  have HT : Hid (Tab w) := hT
  have HC : Hid (∀ i, i < ls.length → ∃ u, w.cell? ⟨b, off + i, none⟩ = some u ∧ BytesAt w u (ls.getD i [])) := hcells
  have HB : Hid (∀ l ∈ ls, ∀ x ∈ l, x < 256) := hby
  clear hT hcells hby
  go_enter Tryd.func9, Tryd.ntmps9
  go_wp2
  go_loopg [3, 10] ls.length (fun g r i wr => wr = w ∧ ∃ k : Nat, k ≤ ls.length ∧ g = ls.length - k ∧ i = .int .i64 (k : Int) ∧ r = .int .u32 (Crc.reg 4294967295 (ls.take k).flatten : Nat))
  case atStart => exact ⟨rfl, 0, by omega, rfl, rfl, rfl⟩
  case round =>
    obtain ⟨rfl, k, hk, rfl, rfl, rfl⟩ := hrel
    have hr := reg_take_flat_lt ls HB.out k
    by_cases hlt : k < ls.length
    · obtain ⟨u, hu, hba⟩ := HC.out k hlt
      have hbs := hba.1
      have hml := hba.2.1
      obtain ⟨a, c, rfl, _, hcl⟩ := hba.form
      have HN : Hid (Crc.reg 4294967295 (ls.take (k + 1)).flatten = Crc.reg (Crc.reg 4294967295 (ls.take k).flatten) (ls.getD k [])) := by
        show _ = _
        rw [take_next ls [] k hlt, List.flatten_append, Crc.reg_append]; simp
      generalize Crc.reg 4294967295 (ls.take k).flatten = r at *
      clear hba
      have HBS : Hid (∀ x ∈ ls.getD k [], x < 256) := hbs
      have HC1 : Hid (∀ j, j < (ls.getD k []).length → ∃ b1 off1, a = some ⟨b1, off1, none⟩ ∧ wr.cell? ⟨b1, off1 + j, none⟩ = some (.int .u8 ((ls.getD k []).getD j 0 : Nat))) := hcl
      clear hbs hcl
      generalize ls.getD k [] = l at *
      unfold maxLen at hml
      go_wp2
      go_loopg [3, 16] l.length (fun g s i wx => wx = wr ∧ ∃ j : Nat, j ≤ l.length ∧ g = l.length - j ∧ i = .int .i64 (j : Int) ∧ s = .int .u32 (Crc.reg r (l.take j) : Nat))
      case atStart => exact ⟨rfl, 0, by omega, rfl, rfl, rfl⟩
      case round =>
        obtain ⟨rfl, j, hj, rfl, rfl, rfl⟩ := hrel
        have hs : Crc.reg r (l.take j) < 4294967296 := Crc.reg_lt _ hr fun x hx => HBS.out x (List.mem_of_mem_take hx)
        by_cases hjl : j < l.length
        · obtain ⟨b1, off1, rfl, hcell⟩ := HC1.out j hjl
          have hbb : l.getD j 0 < 256 := HBS.out _ (getD_mem l 0 j hjl)
          have HS : Hid (Crc.reg r (l.take (j + 1)) = Crc.ch (Crc.reg r (l.take j)) (l.getD j 0)) := by
            show _ = _
            rw [take_next l 0 j hjl, Crc.reg_snoc]
          generalize Crc.reg r (l.take j) = s at *
          generalize l.getD j 0 = x at *
          go_wp2_with (go_at_call 17; refine (changed_any _ _ _ HT.out hs hbb).mono ?_; rintro e w' ⟨rfl, rfl⟩)
          go_roundg (l.length - (j + 1))
          case measure => omega
          case rel => exact ⟨rfl, j + 1, by omega, rfl, by go_num, by rw [HS.out]⟩
        · have HE : Hid (Crc.reg r (l.take j) = Crc.reg 4294967295 (ls.take (k + 1)).flatten) := by
            show _ = _
            rw [List.take_of_length_le (by omega), HN.out]
          generalize Crc.reg r (l.take j) = s at *
          go_wp2
          go_roundg (ls.length - (k + 1))
          case measure => omega
          case rel => exact ⟨rfl, k + 1, by omega, rfl, by go_num, by rw [HE.out]⟩
    · have HE : Hid (4294967295 ^^^ Crc.reg 4294967295 (ls.take k).flatten = Crc.sum ls.flatten) := by
        show _ = _
        rw [List.take_of_length_le (by omega)]; rfl
      have hx := xorN 4294967295 _ (by omega) hr
      generalize Crc.reg 4294967295 (ls.take k).flatten = r at *
      go_wp2
      go_ret
      exact ⟨ret_int (by rw [← HE.out]; exact hx), rfl⟩

theorem Tab.below {w w' : World} (h : Tab w) (hb : Below w.heap.size w w') : Tab w' := by
  intro k hk
  have h1 := h k hk
  have h0 : 0 < w.heap.size := by
    rcases Nat.eq_zero_or_pos w.heap.size with h0 | h0
    · simp [World.cell?, h0] at h1
    · exact h0
  rw [hb.cell (p := ⟨0, k, none⟩) h0]; exact h1

theorem Tab.ext {w w' : World} (h : Tab w) (hb : Ext w w') : Tab w' := h.below hb
set_option maxHeartbeats 400000 in
theorem alive_any (w : World) (hT : Tab w) :
    Calls Tryd.prog 6 #[] w fun e w' => e = .returned (.bool true) ∧ Below w.heap.size w w' := by
  have HT : Hid (Tab w) := hT
  clear hT
  have kc : ∀ (w : World) (C : Array Value) (n c m : Nat), m = w.heap.size → (convert 22 22 (.slice (some ⟨m, 0, none⟩) n c)).run Tryd.prog (w.alloc (.cells C 5)) = .ok (.slice (some ⟨m, 0, none⟩) n c) (w.alloc (.cells C 5 (C.size, C.size + 1))) := fun w C n c m hm => by
    subst hm; exact Lib.run_convert_bytes_const (P := Tryd.prog) w 22 5 C n c Tryd.underlying22 Tryd.underlying5
  go_enter Tryd.func6, Tryd.ntmps6
  go_wp2_with fail
  have hB : ∀ x y z, Below w.heap.size w (((w.alloc x).alloc y).alloc z) := fun x y z => (((Below.refl _ _).alloc (Nat.le_refl _) x).alloc (by simp) y).alloc (by simp; omega) z
  refine (sum_any _ [[49, 50, 51, 52], [53, 54, 55, 56, 57]] _ (HT.out.below (hB _ _ _)) ?_).mono ?_
  · clear kc
    refine ⟨by simp, _, _, _, rfl, ?_⟩
    intro i hi
    match i, hi with
    | 0, _ =>
      refine ⟨_, cellNew _ _ _ _ _ _ (by simp), by simp, by simp [maxLen], .inr ⟨⟨_, _, none⟩, _, rfl, by simp, by simp [maxLen], ?_⟩⟩
      intro j hj
      rw [add_plain, Nat.zero_add]
      rw [cellOld _ _ _ _ (by simp; omega), cellOld _ _ _ _ (by simp), cellNew _ _ _ _ _ _ rfl]
      match j, hj with
      | 0, _ => rfl
      | 1, _ => rfl
      | 2, _ => rfl
      | 3, _ => rfl
    | 1, _ =>
      refine ⟨_, cellNew _ _ _ _ _ _ (by simp), by simp, by simp [maxLen], .inr ⟨⟨_, _, none⟩, _, rfl, by simp, by simp [maxLen], ?_⟩⟩
      intro j hj
      rw [add_plain, Nat.zero_add]
      rw [cellOld _ _ _ _ (by simp), cellNew _ _ _ _ _ _ (by simp)]
      match j, hj with
      | 0, _ => rfl
      | 1, _ => rfl
      | 2, _ => rfl
      | 3, _ => rfl
      | 4, _ => rfl
  rintro e w' ⟨rfl, rfl⟩
  have hk : (((Crc.sum [[49, 50, 51, 52], [53, 54, 55, 56, 57]].flatten : Nat) : Int) == 3808858755) = true := by
    have := Crc.known
    simp [this]
  go_wp2
  go_ret
  exact ⟨rfl, hB _ _ _⟩
end Go.Proofs.YtofjfnmhhldniaaDoor
