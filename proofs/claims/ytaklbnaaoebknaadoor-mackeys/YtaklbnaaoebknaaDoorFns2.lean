/- The place of a register's name, a block's own words: what these functions answer. No condition of its own. -/
import Derived.Test.YtaklbnaaoebknaaDoorFns
namespace Go.Proofs.YtaklbnaaoebknaaDoor
open Go Go.RowKit
set_option linter.unusedVariables false
set_option linter.unusedSimpArgs false
set_option maxRecDepth 100000

theorem and7 : ∀ n : Fin 71, bits .and .i64 ((n.1 : Int) - 63) 7 = (((n.1 + 1) % 8 : Nat) : Int) := by decide
theorem and7k (k i : Nat) (hk : k < 8) (hi : i < 64) : bits .and .i64 ((k : Int) - (i : Int)) 7 = (Sha.pl k i : Nat) := by
  have := and7 ⟨k + 63 - i, by omega⟩
  rw [show ((k : Int) - (i : Int)) = (((k + 63 - i : Nat) : Int) - 63) by omega, this]
  unfold Sha.pl
  rw [show k + 63 - i + 1 = k + 64 - i by omega]
theorem and15i (k : Nat) (h : k < 9223372036854775808) : bits .and .i64 (k : Int) 15 = ((k % 16 : Nat) : Int) := by
  have := bits_mask .i64 63 (by decide) (fun n h0 h1 => by rw [IntKind.wrap_i64]; omega) 4 (by decide) (k : Int) (by omega) (by omega)
  rw [show ((2 : Int) ^ 4 - 1) = 15 from rfl] at this
  rw [this]; simp

set_option maxHeartbeats 400000 in
theorem place_any (k i b : Nat) (w : World) (hk : k < 8) (hi : i < 64) (hB : Boxed w b 3 (.int .i64 (i : Int))) :
    Calls Tryd.prog 43 #[.int .i32 (112 + (k : Int)), .pointer (some ⟨b, 0, none⟩)] w fun e w' => e = .returned (.int .i64 (Sha.pl k i : Nat)) ∧ w' = w := by
  have hc := hB.cell
  have h7 := and7k k i hk hi
  have e1 : (112 + (k : Int) - 112) = (k : Int) := by omega
  clear hB
  go_enter Tryd.func43, Tryd.ntmps43
  go_wp2
  go_ret
  exact ⟨rfl, rfl⟩

theorem word_or (a b c d : Nat) (ha : a < 256) (hb : b < 256) (hc : c < 256) (hd : d < 256) : ((a * 16777216 ||| b * 65536) ||| c * 256) ||| d = ((a * 256 + b) * 256 + c) * 256 + d := by
  rw [show a * 16777216 = 2 ^ 24 * a by omega, ← Nat.two_pow_add_eq_or_of_lt (i := 24) (by omega),
    show 2 ^ 24 * a + b * 65536 = 2 ^ 16 * (a * 256 + b) by omega, ← Nat.two_pow_add_eq_or_of_lt (i := 16) (by omega),
    show 2 ^ 16 * (a * 256 + b) + c * 256 = 2 ^ 8 * ((a * 256 + b) * 256 + c) by omega, ← Nat.two_pow_add_eq_or_of_lt (i := 8) (by omega)]
  omega

set_option maxHeartbeats 1000000 in
theorem wordAt_any (B : List Nat) (i : Nat) (w : World) (hl : B.length = 64) (hB : Sha.AllB B) (hi : i < 16) :
    Calls Tryd.prog 41 #[.agg (bA B), .int .i64 (i : Int)] w fun e w' => e = .returned (.int .u32 (Sha.word B i : Nat)) ∧ Ext w w' := by
  have ha := hB.get (4 * i)
  have hb := hB.get (4 * i + 1)
  have hc := hB.get (4 * i + 2)
  have hd := hB.get (4 * i + 3)
  have hw : Hid (Sha.word B i = ((B.getD (4 * i) 0 * 256 + B.getD (4 * i + 1) 0) * 256 + B.getD (4 * i + 2) 0) * 256 + B.getD (4 * i + 3) 0) := rfl
  have g0 := bA_get B (4 * i) (by omega)
  have g1 := bA_get B (4 * i + 1) (by omega)
  have g2 := bA_get B (4 * i + 2) (by omega)
  have g3 := bA_get B (4 * i + 3) (by omega)
  generalize B.getD (4 * i) 0 = a at *
  generalize B.getD (4 * i + 1) 0 = b at *
  generalize B.getD (4 * i + 2) 0 = c at *
  generalize B.getD (4 * i + 3) 0 = d at *
  clear hB
  go_enter Tryd.func41, Tryd.ntmps41
  go_wp2_with (first | (refine wl_box rfl rfl rfl ?_; intro w1 hb1 he1 hs1))
  have c0 := (hb1.cell (4 * i)).trans g0
  have c1 := (hb1.cell (4 * i + 1)).trans g1
  have c2 := (hb1.cell (4 * i + 2)).trans g2
  have c3 := (hb1.cell (4 * i + 3)).trans g3
  go_quiet (fail)
  go_wp2
  go_ret
  refine ⟨ret_int ?_, he1.trans (Ext.drewN _ _)⟩
  have l1 : a * 16777216 ||| b * 65536 < 4294967296 := Nat.or_lt_two_pow (n := 32) (by omega) (by omega)
  have l2 : (a * 16777216 ||| b * 65536) ||| c * 256 < 4294967296 := Nat.or_lt_two_pow (n := 32) l1 (by omega)
  rw [show (a : Int) * 16777216 = ((a * 16777216 : Nat) : Int) by omega, show (b : Int) * 65536 = ((b * 65536 : Nat) : Int) by omega, show (c : Int) * 256 = ((c * 256 : Nat) : Int) by omega,
    orN _ _ (by omega) (by omega), orN _ _ l1 (by omega), orN _ _ l2 (by omega), word_or a b c d ha hb hc hd, hw.out]
end Go.Proofs.YtaklbnaaoebknaaDoor
