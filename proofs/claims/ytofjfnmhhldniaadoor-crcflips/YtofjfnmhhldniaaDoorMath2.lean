/- Which bits turned the check sum finds: a text that fits doesn't fit any more when one, two or three of its bits are turned. Condition: at most 16388 bytes. -/
import Derived.Test.YtofjfnmhhldniaaDoorMath
namespace Go.Proofs.YtofjfnmhhldniaaDoor.Crc

theorem pw0 : shn (2 ^ 0) 2147483648 = 1073741824 := by decide
theorem pw1 : shn (2 ^ 1) 2147483648 = 536870912 := by
  rw [show 2 ^ 1 = 2 ^ 0 + 2 ^ 0 by decide, shn_add, ← prod_shn _ _ (by rw [pw0]; decide), pw0]
  decide +kernel
theorem pw2 : shn (2 ^ 2) 2147483648 = 134217728 := by
  rw [show 2 ^ 2 = 2 ^ 1 + 2 ^ 1 by decide, shn_add, ← prod_shn _ _ (by rw [pw1]; decide), pw1]
  decide +kernel
theorem pw3 : shn (2 ^ 3) 2147483648 = 8388608 := by
  rw [show 2 ^ 3 = 2 ^ 2 + 2 ^ 2 by decide, shn_add, ← prod_shn _ _ (by rw [pw2]; decide), pw2]
  decide +kernel
theorem pw4 : shn (2 ^ 4) 2147483648 = 32768 := by
  rw [show 2 ^ 4 = 2 ^ 3 + 2 ^ 3 by decide, shn_add, ← prod_shn _ _ (by rw [pw3]; decide), pw3]
  decide +kernel
theorem pw5 : shn (2 ^ 5) 2147483648 = 2197175160 := by
  rw [show 2 ^ 5 = 2 ^ 4 + 2 ^ 4 by decide, shn_add, ← prod_shn _ _ (by rw [pw4]; decide), pw4]
  decide +kernel
theorem pw6 : shn (2 ^ 6) 2147483648 = 1856165212 := by
  rw [show 2 ^ 6 = 2 ^ 5 + 2 ^ 5 by decide, shn_add, ← prod_shn _ _ (by rw [pw5]; decide), pw5]
  decide +kernel
theorem pw7 : shn (2 ^ 7) 2147483648 = 414771736 := by
  rw [show 2 ^ 7 = 2 ^ 6 + 2 ^ 6 by decide, shn_add, ← prod_shn _ _ (by rw [pw6]; decide), pw6]
  decide +kernel
theorem pw8 : shn (2 ^ 8) 2147483648 = 1359660442 := by
  rw [show 2 ^ 8 = 2 ^ 7 + 2 ^ 7 by decide, shn_add, ← prod_shn _ _ (by rw [pw7]; decide), pw7]
  decide +kernel
theorem pw9 : shn (2 ^ 9) 2147483648 = 3089885525 := by
  rw [show 2 ^ 9 = 2 ^ 8 + 2 ^ 8 by decide, shn_add, ← prod_shn _ _ (by rw [pw8]; decide), pw8]
  decide +kernel
theorem pw10 : shn (2 ^ 10) 2147483648 = 3103633895 := by
  rw [show 2 ^ 10 = 2 ^ 9 + 2 ^ 9 by decide, shn_add, ← prod_shn _ _ (by rw [pw9]; decide), pw9]
  decide +kernel
theorem pw11 : shn (2 ^ 11) 2147483648 = 2296737650 := by
  rw [show 2 ^ 11 = 2 ^ 10 + 2 ^ 10 by decide, shn_add, ← prod_shn _ _ (by rw [pw10]; decide), pw10]
  decide +kernel
theorem pw12 : shn (2 ^ 12) 2147483648 = 1958961316 := by
  rw [show 2 ^ 12 = 2 ^ 11 + 2 ^ 11 by decide, shn_add, ← prod_shn _ _ (by rw [pw11]; decide), pw11]
  decide +kernel
theorem pw13 : shn (2 ^ 13) 2147483648 = 3826723606 := by
  rw [show 2 ^ 13 = 2 ^ 12 + 2 ^ 12 by decide, shn_add, ← prod_shn _ _ (by rw [pw12]; decide), pw12]
  decide +kernel
theorem pw14 : shn (2 ^ 14) 2147483648 = 224753194 := by
  rw [show 2 ^ 14 = 2 ^ 13 + 2 ^ 13 by decide, shn_add, ← prod_shn _ _ (by rw [pw13]; decide), pw13]
  decide +kernel
theorem pw15 : shn (2 ^ 15) 2147483648 = 903297634 := by
  rw [show 2 ^ 15 = 2 ^ 14 + 2 ^ 14 by decide, shn_add, ← prod_shn _ _ (by rw [pw14]; decide), pw14]
  decide +kernel
theorem pw16 : shn (2 ^ 16) 2147483648 = 675681636 := by
  rw [show 2 ^ 16 = 2 ^ 15 + 2 ^ 15 by decide, shn_add, ← prod_shn _ _ (by rw [pw15]; decide), pw15]
  decide +kernel
theorem pw17 : shn (2 ^ 17) 2147483648 = 3208991337 := by
  rw [show 2 ^ 17 = 2 ^ 16 + 2 ^ 16 by decide, shn_add, ← prod_shn _ _ (by rw [pw16]; decide), pw16]
  decide +kernel
theorem pw18 : shn (2 ^ 18) 2147483648 = 3806999260 := by
  rw [show 2 ^ 18 = 2 ^ 17 + 2 ^ 17 by decide, shn_add, ← prod_shn _ _ (by rw [pw17]; decide), pw17]
  decide +kernel
theorem pw19 : shn (2 ^ 19) 2147483648 = 4269228262 := by
  rw [show 2 ^ 19 = 2 ^ 18 + 2 ^ 18 by decide, shn_add, ← prod_shn _ _ (by rw [pw18]; decide), pw18]
  decide +kernel
theorem pw20 : shn (2 ^ 20) 2147483648 = 4182139147 := by
  rw [show 2 ^ 20 = 2 ^ 19 + 2 ^ 19 by decide, shn_add, ← prod_shn _ _ (by rw [pw19]; decide), pw19]
  decide +kernel
theorem pw21 : shn (2 ^ 21) 2147483648 = 1008750479 := by
  rw [show 2 ^ 21 = 2 ^ 20 + 2 ^ 20 by decide, shn_add, ← prod_shn _ _ (by rw [pw20]; decide), pw20]
  decide +kernel
theorem pw22 : shn (2 ^ 22) 2147483648 = 1401259747 := by
  rw [show 2 ^ 22 = 2 ^ 21 + 2 ^ 21 by decide, shn_add, ← prod_shn _ _ (by rw [pw21]; decide), pw21]
  decide +kernel
theorem pw23 : shn (2 ^ 23) 2147483648 = 1500670229 := by
  rw [show 2 ^ 23 = 2 ^ 22 + 2 ^ 22 by decide, shn_add, ← prod_shn _ _ (by rw [pw22]; decide), pw22]
  decide +kernel
theorem pw24 : shn (2 ^ 24) 2147483648 = 1934447369 := by
  rw [show 2 ^ 24 = 2 ^ 23 + 2 ^ 23 by decide, shn_add, ← prod_shn _ _ (by rw [pw23]; decide), pw23]
  decide +kernel
theorem pw25 : shn (2 ^ 25) 2147483648 = 3155871587 := by
  rw [show 2 ^ 25 = 2 ^ 24 + 2 ^ 24 by decide, shn_add, ← prod_shn _ _ (by rw [pw24]; decide), pw24]
  decide +kernel
theorem pw26 : shn (2 ^ 26) 2147483648 = 2097619660 := by
  rw [show 2 ^ 26 = 2 ^ 25 + 2 ^ 25 by decide, shn_add, ← prod_shn _ _ (by rw [pw25]; decide), pw25]
  decide +kernel
theorem pw27 : shn (2 ^ 27) 2147483648 = 3532245694 := by
  rw [show 2 ^ 27 = 2 ^ 26 + 2 ^ 26 by decide, shn_add, ← prod_shn _ _ (by rw [pw26]; decide), pw26]
  decide +kernel
theorem pw28 : shn (2 ^ 28) 2147483648 = 3914115516 := by
  rw [show 2 ^ 28 = 2 ^ 27 + 2 ^ 27 by decide, shn_add, ← prod_shn _ _ (by rw [pw27]; decide), pw27]
  decide +kernel
theorem pw29 : shn (2 ^ 29) 2147483648 = 95899455 := by
  rw [show 2 ^ 29 = 2 ^ 28 + 2 ^ 28 by decide, shn_add, ← prod_shn _ _ (by rw [pw28]; decide), pw28]
  decide +kernel
theorem pw30 : shn (2 ^ 30) 2147483648 = 2770214722 := by
  rw [show 2 ^ 30 = 2 ^ 29 + 2 ^ 29 by decide, shn_add, ← prod_shn _ _ (by rw [pw29]; decide), pw29]
  decide +kernel
theorem pw31 : shn (2 ^ 31) 2147483648 = 1073741824 := by
  rw [show 2 ^ 31 = 2 ^ 30 + 2 ^ 30 by decide, shn_add, ← prod_shn _ _ (by rw [pw30]; decide), pw30]
  decide +kernel

theorem xor_zero {a b : Nat} (h : a ^^^ b = 0) : a = b := by
  have := congrArg (fun x => x ^^^ b) h
  simpa [Nat.xor_assoc] using this
theorem sh_zero {x : Nat} (hx : x < 4294967296) (h : sh x = 0) : x = 0 := by
  unfold sh at h
  split at h
  · have h1 : x / 2 = 2197175160 := xor_zero h
    omega
  · omega
theorem shn_zero' : ∀ (n : Nat) {x : Nat}, x < 4294967296 → shn n x = 0 → x = 0
  | 0, _, _, h => h
  | n + 1, _, hx, h => sh_zero hx (shn_zero' n (sh_lt hx) h)
theorem shn_inj (n : Nat) {x y : Nat} (hx : x < 4294967296) (hy : y < 4294967296) (h : shn n x = shn n y) : x = y := by
  have h1 : shn n (x ^^^ y) = 0 := by rw [shn_xor, h, Nat.xor_self]
  have h2 := shn_zero' n (lt_xor hx hy) h1
  exact xor_zero h2

/-- The shift's order at the highest bit. -/
theorem order : shn 2147483647 2147483648 = 2147483648 := by
  have h1 : shn (1 + 2147483647) 2147483648 = shn 1 2147483648 := by
    have e1 := pw31
    have e2 := pw0
    rw [show 2 ^ 31 = 1 + 2147483647 by decide] at e1
    rw [e1]
    rw [show 2 ^ 0 = 1 by decide] at e2
    rw [e2]
  rw [shn_add] at h1
  exact shn_inj 1 (shn_lt _ (by omega)) (by omega) h1

theorem shn_mul (m : Nat) (x : Nat) (h : shn m x = x) : ∀ k, shn (m * k) x = x
  | 0 => rfl
  | k + 1 => by rw [Nat.mul_succ, shn_add, h]; exact shn_mul m x h k
theorem shn_mod {m n x : Nat} (hm : shn m x = x) (hn : shn n x = x) : shn (n % m) x = x := by
  have h := Nat.div_add_mod n m
  rw [← h, Nat.add_comm, shn_add, shn_mul m x hm] at hn
  exact hn
theorem shn_gcd (x : Nat) : ∀ (f m n : Nat), m ≤ f → shn m x = x → shn n x = x → shn (Nat.gcd m n) x = x
  | 0, m, n, hf, _, hn => by
    obtain rfl : m = 0 := by omega
    rw [Nat.gcd_zero_left]; exact hn
  | f + 1, m, n, hf, hm, hn => by
    by_cases h0 : m = 0
    · subst h0; rw [Nat.gcd_zero_left]; exact hn
    · rw [Nat.gcd_rec]
      have := Nat.mod_lt n (show m > 0 by omega)
      exact shn_gcd x f (n % m) m (by omega) (shn_mod hm hn) hm

def noDiv (lo : Nat) : Nat → Bool
  | 0 => !(Nat.beq (2147483647 % lo) 0)
  | k + 1 => noDiv lo k && noDiv (lo + 2 ^ k) k
theorem noDiv_spec : ∀ (k lo j : Nat), noDiv lo k = true → lo ≤ j → j < lo + 2 ^ k → 2147483647 % j ≠ 0
  | 0, lo, j, h, h1, h2 => by
    obtain rfl : j = lo := by simp at h2; omega
    intro e
    simp [noDiv, e] at h
  | k + 1, lo, j, h, h1, h2 => by
    simp only [noDiv, Bool.and_eq_true] at h
    rw [Nat.pow_succ] at h2
    by_cases hj : j < lo + 2 ^ k
    · exact noDiv_spec k lo j h.1 h1 hj
    · exact noDiv_spec k (lo + 2 ^ k) j h.2 (by omega) (by omega)
set_option maxRecDepth 100000 in
theorem noDivs : noDiv 2 16 = true := by decide +kernel

theorem no_order (d : Nat) (h0 : 0 < d) (hd : d < 131105) : shn d 2147483648 ≠ 2147483648 := by
  intro h
  have hg := shn_gcd 2147483648 d d 2147483647 (Nat.le_refl _) h order
  have hdv : Nat.gcd d 2147483647 ∣ 2147483647 := Nat.gcd_dvd_right _ _
  have hle : Nat.gcd d 2147483647 ≤ d := Nat.gcd_le_left _ h0
  have hpos : 0 < Nat.gcd d 2147483647 := Nat.gcd_pos_of_pos_left _ h0
  generalize Nat.gcd d 2147483647 = g at *
  by_cases h1 : g = 1
  · subst h1
    revert hg; decide
  · by_cases hs : g < 65538
    · exact noDiv_spec 16 2 g noDivs (by omega) (by omega) (Nat.mod_eq_zero_of_dvd hdv)
    · obtain ⟨q, hq⟩ := hdv
      have hq1 : q < 65538 := by
        rcases Nat.lt_or_ge q 65538 with h2 | h2
        · exact h2
        · have := Nat.mul_le_mul (show 65538 ≤ g by omega) h2
          omega
      have hq2 : 2 ≤ q := by
        rcases Nat.lt_or_ge q 2 with h2 | h2
        · have : g * q ≤ 131105 * 1 := Nat.mul_le_mul (by omega) (by omega)
          omega
        · exact h2
      refine noDiv_spec 16 2 q noDivs hq2 (by omega) (Nat.mod_eq_zero_of_dvd ⟨g, ?_⟩)
      rw [hq, Nat.mul_comm]

theorem one_top : shn 31 2147483648 = 1 := by decide
theorem two_apart (m d : Nat) (h0 : 0 < d) (hd : d < 131105) : shn (m + d) 1 ≠ shn m 1 := by
  intro h
  rw [← one_top, ← shn_add, ← shn_add] at h
  rw [show m + d + 31 = (m + 31) + d by omega, shn_add] at h
  have h2 : shn d 2147483648 = 2147483648 := shn_inj (m + 31) (shn_lt _ (by omega)) (by omega) h
  exact no_order d h0 hd h2

/-! ### parity -/
def par : Nat → Nat → Bool
  | 0, _ => false
  | n + 1, r => (r % 2 == 1) ^^ par n (r / 2)
theorem par_xor : ∀ (n a b : Nat), par n (a ^^^ b) = (par n a ^^ par n b)
  | 0, _, _ => rfl
  | n + 1, a, b => by
    simp only [par]
    have h1 : (a ^^^ b) % 2 = (a + b) % 2 := by
      have := @Nat.xor_mod_two_eq_one a b
      omega
    have h2 : (a ^^^ b) / 2 = a / 2 ^^^ b / 2 := Nat.xor_div_two
    rw [h1, h2, par_xor n]
    have e : ((a + b) % 2 == 1) = ((a % 2 == 1) ^^ (b % 2 == 1)) := by
      rcases Nat.mod_two_eq_zero_or_one a with ha | ha <;> rcases Nat.mod_two_eq_zero_or_one b with hb | hb <;> simp [ha, hb, Nat.add_mod]
    rw [e]
    cases (a % 2 == 1) <;> cases (b % 2 == 1) <;> cases par n (a / 2) <;> cases par n (b / 2) <;> rfl
theorem par_zero : ∀ n, par n 0 = false
  | 0 => rfl
  | n + 1 => by simp [par, par_zero n]
theorem par_more : ∀ (n r : Nat), r < 2 ^ n → par (n + 1) r = par n r
  | 0, r, h => by
    obtain rfl : r = 0 := by simpa using h
    rfl
  | n + 1, r, h => by
    rw [par, par_more n (r / 2) (by rw [Nat.pow_succ] at h; omega)]
    rfl
theorem par_sh {r : Nat} (h : r < 4294967296) : par 32 (sh r) = par 32 r := by
  have h1 : par 32 r = ((r % 2 == 1) ^^ par 32 (r / 2)) := by
    rw [par_more 31 (r / 2) (by omega)]
    rfl
  rw [h1]
  unfold sh
  split
  · rename_i hp
    have hc : par 32 2197175160 = true := by decide
    rw [par_xor, hc, hp]
    cases par 32 (r / 2) <;> rfl
  · rename_i hp
    have e : (r % 2 == 1) = false := by simp; omega
    rw [e]
    simp
theorem par_shn : ∀ (n : Nat) {r : Nat}, r < 4294967296 → par 32 (shn n r) = par 32 r
  | 0, _, _ => rfl
  | n + 1, r, h => by rw [shn, par_shn n (sh_lt h), par_sh h]

/-! ### what turned bits do to the register -/
def spot (n k : Nat) : Nat := shn (n - k) 1
theorem par_spot (n k : Nat) : par 32 (spot n k) = true := by
  unfold spot
  rw [par_shn _ (by omega)]
  decide

def flip (l : List Nat) (k : Nat) : List Nat := l.modify (k / 8) (fun b => b ^^^ 2 ^ (k % 8))
theorem flip_length (l : List Nat) (k : Nat) : (flip l k).length = l.length := by simp [flip]
theorem pow_lt (k : Nat) : 2 ^ (k % 8) < 256 := by
  have : 2 ^ (k % 8) ≤ 2 ^ 7 := Nat.pow_le_pow_right (by decide) (by omega)
  omega
theorem flip_lt {l : List Nat} (h : ∀ x ∈ l, x < 256) (k : Nat) : ∀ x ∈ flip l k, x < 256 := by
  intro x hx
  unfold flip at hx
  obtain ⟨i, hi, rfl⟩ := List.getElem_of_mem hx
  rw [List.getElem_modify]
  have hl : i < l.length := by simpa using hi
  split
  · exact Nat.xor_lt_two_pow (n := 8) (h _ (List.getElem_mem hl)) (pow_lt k)
  · exact h _ (List.getElem_mem hl)

theorem shn_pow : ∀ i, i < 8 → shn 8 (2 ^ i) = shn (8 - i) 1 := by decide

theorem reg_flip (l : List Nat) (r k : Nat) (hk : k < 8 * l.length) : reg r (flip l k) = reg r l ^^^ spot (8 * l.length) k := by
  have hi : k / 8 < l.length := by omega
  have hl : l = l.take (k / 8) ++ l[k / 8] :: l.drop (k / 8 + 1) := by simp
  have hf : flip l k = l.take (k / 8) ++ (l[k / 8] ^^^ 2 ^ (k % 8)) :: l.drop (k / 8 + 1) := by
    unfold flip
    rw [List.modify_eq_take_cons_drop hi]
  have hlen : (l.drop (k / 8 + 1)).length = l.length - (k / 8 + 1) := List.length_drop
  conv => lhs; rw [hf, reg_append]
  conv => rhs; rw [hl]
  rw [reg_append]
  generalize reg r (l.take (k / 8)) = q
  show reg (ch q (l[k / 8] ^^^ 2 ^ (k % 8))) _ = reg (ch q l[k / 8]) _ ^^^ _
  rw [ch_eq, ch_eq, ← Nat.xor_assoc, shn_xor, Nat.xor_comm, reg_xor, Nat.xor_comm, hlen]
  congr 1
  rw [shn_pow _ (Nat.mod_lt _ (by decide)), ← shn_add]
  unfold spot
  congr 1
  have h1 : (l.take (k / 8) ++ l[k / 8] :: l.drop (k / 8 + 1)).length = l.length := by rw [← hl]
  rw [h1]
  omega

theorem flip_set (l : List Nat) (k : Nat) (h : k / 8 < l.length) : flip l k = l.set (k / 8) (l.getD (k / 8) 0 ^^^ 2 ^ (k % 8)) := by
  unfold flip
  apply List.ext_getElem
  · simp
  · intro i h1 h2
    rw [List.getElem_modify, List.getElem_set]
    split
    · rename_i e
      subst e
      simp [List.getD_eq_getElem?_getD, h]
    · rfl

/-- Several bits turned, one behind the other. -/
def flips (l : List Nat) (ks : List Nat) : List Nat := ks.foldl flip l
theorem flips_length : ∀ (ks l : List Nat), (flips l ks).length = l.length
  | [], _ => rfl
  | k :: ks, l => by
    show (flips (flip l k) ks).length = _
    rw [flips_length ks, flip_length]
theorem flips_lt : ∀ (ks : List Nat) {l : List Nat}, (∀ x ∈ l, x < 256) → ∀ x ∈ flips l ks, x < 256
  | [], _, h => h
  | k :: ks, _, h => flips_lt ks (flip_lt h k)
theorem flips_snoc (l ks : List Nat) (k : Nat) : flips l (ks ++ [k]) = flip (flips l ks) k := by simp [flips]
def spots (n : Nat) : List Nat → Nat
  | [] => 0
  | k :: ks => spot n k ^^^ spots n ks
theorem reg_flips : ∀ (ks l : List Nat) (r : Nat), (∀ k ∈ ks, k < 8 * l.length) → reg r (flips l ks) = reg r l ^^^ spots (8 * l.length) ks
  | [], l, r, _ => by simp [flips, spots]
  | k :: ks, l, r, h => by
    show reg r (flips (flip l k) ks) = _
    rw [reg_flips ks (flip l k) r (by rw [flip_length]; exact fun x hx => h x (by simp [hx])), reg_flip l r k (h k (by simp)), flip_length]
    simp [spots, Nat.xor_assoc]

theorem spot_lt (n k : Nat) : spot n k < 4294967296 := shn_lt _ (by omega)

theorem two_spots {n k1 k2 : Nat} (h1 : k1 < n) (h2 : k2 < n) (hne : k1 ≠ k2) (hn : n < 131105) : spot n k1 ^^^ spot n k2 ≠ 0 := by
  intro h
  have e := xor_zero h
  unfold spot at e
  rcases Nat.lt_or_gt_of_ne hne with hlt | hlt
  · rw [show n - k1 = (n - k2) + (k2 - k1) by omega] at e
    exact two_apart _ _ (by omega) (by omega) e
  · rw [show n - k2 = (n - k1) + (k1 - k2) by omega] at e
    exact two_apart _ _ (by omega) (by omega) e.symm

theorem spots_ne {n : Nat} {ks : List Nat} (hn : n < 131105) (hk : ∀ k ∈ ks, k < n) (hd : ks.Nodup) (h1 : 1 ≤ ks.length) (h3 : ks.length ≤ 3) : spots n ks ≠ 0 := by
  match ks, h1, h3, hk, hd with
  | [a], _, _, _, _ =>
    intro h
    have := par_spot n a
    simp only [spots, Nat.xor_zero] at h
    rw [h] at this
    revert this; decide
  | [a, b], _, _, hk, hd =>
    simp only [spots, Nat.xor_zero]
    exact two_spots (hk a (by simp)) (hk b (by simp)) (by simp at hd; exact hd) hn
  | [a, b, c], _, _, _, _ =>
    intro h
    have e : par 32 (spots n [a, b, c]) = true := by
      simp only [spots, Nat.xor_zero, par_xor, par_spot]; rfl
    rw [h] at e
    revert e; decide

/-- The register behind a text that fits. -/
theorem reg_four (r a b c d : Nat) : reg r [a, b, c, d] = shn 32 (r ^^^ (a ^^^ (256 * b ^^^ (65536 * c ^^^ 16777216 * d)))) := by
  have h8 : ∀ q, shn 8 (256 * q) = q := fun q => by
    rw [show 256 * q = 16 * (16 * q) by omega, show (8 : Nat) = 4 + 4 from rfl, shn_add, shn4, shn4]
  have e1 : shn 8 (65536 * c) = 256 * c := by rw [show 65536 * c = 256 * (256 * c) by omega, h8]
  have e2 : shn 8 (16777216 * d) = 65536 * d := by rw [show 16777216 * d = 256 * (65536 * d) by omega, h8]
  have e3 : shn 8 (65536 * d) = 256 * d := by rw [show 65536 * d = 256 * (256 * d) by omega, h8]
  have s1 : shn 8 (r ^^^ (a ^^^ (256 * b ^^^ (65536 * c ^^^ 16777216 * d)))) = shn 8 (r ^^^ a) ^^^ (b ^^^ (256 * c ^^^ 65536 * d)) := by
    rw [← Nat.xor_assoc, shn_xor 8 (r ^^^ a), shn_xor 8 (256 * b), shn_xor 8 (65536 * c), h8, e1, e2]
  have s2 : ∀ q, shn 8 (q ^^^ (b ^^^ (256 * c ^^^ 65536 * d))) = shn 8 (q ^^^ b) ^^^ (c ^^^ 256 * d) := fun q => by
    rw [← Nat.xor_assoc, shn_xor 8 (q ^^^ b), shn_xor 8 (256 * c), h8, e3]
  have s3 : ∀ q, shn 8 (q ^^^ (c ^^^ 256 * d)) = shn 8 (q ^^^ c) ^^^ d := fun q => by
    rw [← Nat.xor_assoc, shn_xor 8 (q ^^^ c), h8]
  have s0 : ∀ q, shn 32 q = shn 8 (shn 8 (shn 8 (shn 8 q))) := fun q => by
    rw [← shn_add, ← shn_add, ← shn_add]
  have s5 : reg r [a, b, c, d] = shn 8 (shn 8 (shn 8 (shn 8 (r ^^^ a) ^^^ b) ^^^ c) ^^^ d) := by
    rw [← ch_eq, ← ch_eq, ← ch_eq, ← ch_eq]; rfl
  rw [s5, s0, s1, s2, s3]

theorem xor_add (x y i : Nat) (hx : x < 2 ^ i) : x ^^^ 2 ^ i * y = x + 2 ^ i * y := by
  apply Nat.eq_of_testBit_eq
  intro j
  rw [Nat.testBit_xor, Nat.add_comm x, Nat.testBit_two_pow_mul_add _ hx, show 2 ^ i * y = 2 ^ i * y + 0 from rfl, Nat.testBit_two_pow_mul_add _ (Nat.two_pow_pos i)]
  by_cases hj : j < i
  · simp [hj]
  · have : x.testBit j = false := Nat.testBit_lt_two_pow (Nat.lt_of_lt_of_le hx (Nat.pow_le_pow_right (by decide) (by omega)))
    simp [hj, this]
theorem le4_xor (s : Nat) : s % 256 ^^^ (256 * (s / 256 % 256) ^^^ (65536 * (s / 65536 % 256) ^^^ 16777216 * (s / 16777216))) = s := by
  rw [show 65536 * (s / 65536 % 256) ^^^ 16777216 * (s / 16777216) = 65536 * (s / 65536) by
    have := xor_add (65536 * (s / 65536 % 256)) (s / 16777216) 24 (by omega)
    rw [show (2 : Nat) ^ 24 = 16777216 by decide] at this
    rw [this]; omega]
  rw [show 256 * (s / 256 % 256) ^^^ 65536 * (s / 65536) = 256 * (s / 256) by
    have := xor_add (256 * (s / 256 % 256)) (s / 65536) 16 (by omega)
    rw [show (2 : Nat) ^ 16 = 65536 by decide] at this
    rw [this]; omega]
  have := xor_add (s % 256) (s / 256) 8 (by omega)
  rw [show (2 : Nat) ^ 8 = 256 by decide] at this
  rw [this]; omega

theorem reg_fits {l : List Nat} (h : fits l = true) : reg 4294967295 l = shn 32 4294967295 := by
  unfold fits at h
  simp only [decide_eq_true_eq] at h
  obtain ⟨hl, hd⟩ := h
  conv => lhs; rw [← List.take_append_drop (l.length - 4) l]
  rw [reg_append, hd]
  unfold le4
  rw [reg_four, le4_xor]
  unfold sum
  generalize reg 4294967295 (l.take (l.length - 4)) = q
  rw [Nat.xor_comm 4294967295 q, ← Nat.xor_assoc, Nat.xor_self, Nat.zero_xor]

theorem fits_close (l : List Nat) : fits (close l) = true := by
  unfold fits close
  simp only [decide_eq_true_eq]
  have hlen : (l ++ le4 (sum l)).length - 4 = l.length := by simp [le4]
  rw [hlen]
  exact ⟨by simp [le4], by rw [List.drop_left, List.take_left]⟩

/-- THE POINT: with one to three bits turned a text that fits doesn't. -/
theorem fits_flips {l ks : List Nat} (h : fits l = true) (hl : l.length ≤ 16388) (hk : ∀ k ∈ ks, k < 8 * l.length) (hd : ks.Nodup) (h1 : 1 ≤ ks.length) (h3 : ks.length ≤ 3) : fits (flips l ks) = false := by
  cases hf : fits (flips l ks) with
  | false => rfl
  | true =>
    exfalso
    have e1 := reg_fits h
    have e2 := reg_fits hf
    rw [reg_flips ks l _ hk, e1] at e2
    have e3 : spots (8 * l.length) ks = 0 := by
      have := congrArg (fun x => shn 32 4294967295 ^^^ x) e2
      simp only [← Nat.xor_assoc, Nat.xor_self, Nat.zero_xor] at this
      exact this
    exact spots_ne (by omega) hk hd h1 h3 e3
end Go.Proofs.YtofjfnmhhldniaaDoor.Crc
