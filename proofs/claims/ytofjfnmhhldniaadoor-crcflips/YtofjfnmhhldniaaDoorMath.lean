/- The plain arithmetic of the check sum: the register as a number, its shift is linear, products are powers of the shift. No condition. -/
namespace Go.Proofs.YtofjfnmhhldniaaDoor.Crc

def sh (r : Nat) : Nat := if r % 2 = 1 then (r / 2) ^^^ 2197175160 else r / 2
def shn : Nat → Nat → Nat
  | 0, r => r
  | n + 1, r => shn n (sh r)
def tab (i : Nat) : Nat := [0, 274646895, 549293790, 820201905, 1098587580, 1361435347, 1640403810, 1905808397, 2197175160, 2460548119, 2722870694, 2987750089, 3280807620, 3553878443, 3811616794, 4084100981].getD i 0
def half (r : Nat) : Nat := (r / 16) ^^^ tab (r % 16)
def ch (r b : Nat) : Nat := half (half (r ^^^ b))
def reg (r : Nat) (l : List Nat) : Nat := l.foldl ch r
def sum (l : List Nat) : Nat := 4294967295 ^^^ reg 4294967295 l

theorem lt_xor {a b : Nat} (ha : a < 4294967296) (hb : b < 4294967296) : a ^^^ b < 4294967296 := Nat.xor_lt_two_pow (n := 32) ha hb

theorem sh_lt {r : Nat} (h : r < 4294967296) : sh r < 4294967296 := by
  unfold sh
  split
  · exact lt_xor (by omega) (by omega)
  · omega
theorem shn_lt : ∀ (n : Nat) {r : Nat}, r < 4294967296 → shn n r < 4294967296
  | 0, _, h => h
  | n + 1, _, h => shn_lt n (sh_lt h)

theorem sh_xor (a b : Nat) : sh (a ^^^ b) = sh a ^^^ sh b := by
  have h1 : (a ^^^ b) % 2 = (a + b) % 2 := by
    have := @Nat.xor_mod_two_eq_one a b
    omega
  have h2 : (a ^^^ b) / 2 = a / 2 ^^^ b / 2 := Nat.xor_div_two
  unfold sh
  rw [h1, h2]
  rcases Nat.mod_two_eq_zero_or_one a with ha | ha <;> rcases Nat.mod_two_eq_zero_or_one b with hb | hb
  · rw [if_neg (by omega), if_neg (by omega), if_neg (by omega)]
  · rw [if_pos (by omega), if_neg (by omega), if_pos (by omega), Nat.xor_assoc]
  · rw [if_pos (by omega), if_pos (by omega), if_neg (by omega), Nat.xor_assoc, Nat.xor_assoc, Nat.xor_comm (b / 2)]
  · rw [if_neg (by omega), if_pos (by omega), if_pos (by omega)]
    rw [Nat.xor_assoc, Nat.xor_comm (b / 2), ← Nat.xor_assoc 2197175160, Nat.xor_self, Nat.zero_xor]

theorem shn_xor : ∀ (n a b : Nat), shn n (a ^^^ b) = shn n a ^^^ shn n b
  | 0, _, _ => rfl
  | n + 1, a, b => by rw [shn, sh_xor, shn_xor n]; rfl
theorem shn_add : ∀ (m n r : Nat), shn (m + n) r = shn m (shn n r)
  | m, 0, r => rfl
  | m, n + 1, r => by rw [← Nat.add_assoc, shn, shn_add m n]; rfl
theorem shn_zero : ∀ n, shn n 0 = 0
  | 0 => rfl
  | n + 1 => by rw [shn, show sh 0 = 0 from rfl, shn_zero n]

theorem sh_two (q : Nat) : sh (2 * q) = q := by
  unfold sh
  rw [if_neg (by omega)]
  omega
theorem shn4 (q : Nat) : shn 4 (16 * q) = q := by
  show sh (sh (sh (sh (16 * q)))) = q
  rw [show 16 * q = 2 * (2 * (2 * (2 * q))) by omega, sh_two, sh_two, sh_two, sh_two]

theorem part16 (r : Nat) : r = (16 * (r / 16)) ^^^ (r % 16) := by
  apply Nat.eq_of_testBit_eq
  intro j
  rw [Nat.testBit_xor]
  have hlt : r % 16 < 2 ^ 4 := Nat.mod_lt _ (by decide)
  have h1 : r = 2 ^ 4 * (r / 16) + r % 16 := by omega
  have h2 : 16 * (r / 16) = 2 ^ 4 * (r / 16) + 0 := by omega
  rw [h2, Nat.testBit_two_pow_mul_add _ (by decide : 0 < 2 ^ 4)]
  conv => lhs; rw [h1, Nat.testBit_two_pow_mul_add _ hlt]
  by_cases hj : j < 4
  · simp [hj]
  · have : (r % 16).testBit j = false := Nat.testBit_lt_two_pow (Nat.lt_of_lt_of_le hlt (Nat.pow_le_pow_right (by decide) (by omega)))
    simp [hj, this]

theorem tab_eq : ∀ k, k < 16 → shn 4 k = tab k := by decide

theorem half_eq (r : Nat) : half r = shn 4 r := by
  conv => rhs; rw [part16 r, shn_xor, shn4, tab_eq _ (Nat.mod_lt _ (by decide))]
  rfl
theorem ch_eq (r b : Nat) : ch r b = shn 8 (r ^^^ b) := by
  unfold ch
  rw [half_eq, half_eq, ← shn_add]
theorem tab_lt (k : Nat) : tab k < 4294967296 := by
  by_cases h : k < 16
  · rw [← tab_eq k h]; exact shn_lt 4 (by omega)
  · unfold tab; rw [List.getD_eq_getElem?_getD, List.getElem?_eq_none (by simp; omega)]; simp
theorem ch_lt {r b : Nat} (hr : r < 4294967296) (hb : b < 256) : ch r b < 4294967296 := by
  rw [ch_eq]; exact shn_lt 8 (lt_xor hr (by omega))
theorem reg_lt : ∀ (l : List Nat) {r : Nat}, r < 4294967296 → (∀ b ∈ l, b < 256) → reg r l < 4294967296
  | [], _, h, _ => h
  | b :: l, r, h, hb => by
    show reg (ch r b) l < _
    exact reg_lt l (ch_lt h (hb b (by simp))) (fun x hx => hb x (by simp [hx]))
theorem sum_lt (l : List Nat) (h : ∀ b ∈ l, b < 256) : sum l < 4294967296 := lt_xor (by omega) (reg_lt l (by omega) h)
theorem reg_append (r : Nat) (a b : List Nat) : reg r (a ++ b) = reg (reg r a) b := by simp [reg]
theorem reg_snoc (r : Nat) (a : List Nat) (b : Nat) : reg r (a ++ [b]) = ch (reg r a) b := by simp [reg]

/-- The register is linear. -/
theorem reg_xor : ∀ (l : List Nat) (r s : Nat), reg (r ^^^ s) l = shn (8 * l.length) r ^^^ reg s l
  | [], _, _ => rfl
  | b :: l, r, s => by
    show reg (ch (r ^^^ s) b) l = _ ^^^ reg (ch s b) l
    rw [ch_eq, ch_eq, Nat.xor_assoc, shn_xor, reg_xor l, ← shn_add]
    simp [Nat.mul_add]

/-- What product reckons: of a's bits from the top, k of them. -/
def acc (a b : Nat) : Nat → Nat
  | 0 => 0
  | k + 1 => if a.testBit (31 - k) then acc a b k ^^^ shn k b else acc a b k
theorem acc_succ (a b k : Nat) : acc a b (k + 1) = if a.testBit (31 - k) then acc a b k ^^^ shn k b else acc a b k := rfl
theorem shn_succ (k b : Nat) : shn (k + 1) b = sh (shn k b) := by
  rw [Nat.add_comm]; exact shn_add 1 k b
def prod (a b : Nat) : Nat := acc a b 32

theorem acc_lt (a : Nat) {b : Nat} (hb : b < 4294967296) : ∀ k, acc a b k < 4294967296
  | 0 => by show 0 < _; omega
  | k + 1 => by
    unfold acc
    split
    · exact lt_xor (acc_lt a hb k) (shn_lt k hb)
    · exact acc_lt a hb k
theorem prod_lt (a : Nat) {b : Nat} (hb : b < 4294967296) : prod a b < 4294967296 := acc_lt a hb 32

theorem acc_shn (a b m : Nat) : ∀ k, acc a (shn m b) k = shn m (acc a b k)
  | 0 => (shn_zero m).symm
  | k + 1 => by
    unfold acc
    rw [acc_shn a b m k]
    split
    · rw [shn_xor, ← shn_add, ← shn_add, Nat.add_comm]
    · rfl

theorem shn_top : ∀ k, k ≤ 31 → shn k 2147483648 = 2 ^ (31 - k) := by decide

theorem acc_top (a : Nat) (ha : a < 4294967296) : ∀ k, k ≤ 32 → ∀ j, (acc a 2147483648 k).testBit j = (decide (32 - k ≤ j) && a.testBit j)
  | 0, _, j => by
    have : a.testBit j = (decide (j < 32) && a.testBit j) := by
      by_cases h : j < 32
      · simp [h]
      · have : a.testBit j = false := Nat.testBit_lt_two_pow (Nat.lt_of_lt_of_le ha (by
          have : 2 ^ 32 ≤ 2 ^ j := Nat.pow_le_pow_right (by decide) (by omega)
          simpa using this))
        simp [this]
    rw [this]
    simp [acc]
    intro h1 h2
    omega
  | k + 1, hk, j => by
    have ih := acc_top a ha k (by omega) j
    unfold acc
    split
    · rename_i hb
      rw [Nat.testBit_xor, ih, shn_top k (by omega), Nat.testBit_two_pow]
      by_cases h : 31 - k = j
      · subst h
        have h1 : ¬ (32 - k ≤ 31 - k) := by omega
        simp [h1, hb]
      · have h1 : (32 - (k + 1) ≤ j) ↔ (32 - k ≤ j) := by omega
        have h2 : decide (32 - (k + 1) ≤ j) = decide (32 - k ≤ j) := decide_eq_decide.2 h1
        rw [h2]
        simp [h]
    · rename_i hb
      rw [ih]
      by_cases h : 31 - k = j
      · subst h
        simp at hb
        simp [hb]
      · have h1 : (32 - (k + 1) ≤ j) ↔ (32 - k ≤ j) := by omega
        have h2 : decide (32 - (k + 1) ≤ j) = decide (32 - k ≤ j) := decide_eq_decide.2 h1
        rw [h2]

theorem acc_all (a : Nat) (ha : a < 4294967296) : acc a 2147483648 32 = a := by
  apply Nat.eq_of_testBit_eq
  intro j
  rw [acc_top a ha 32 (by omega) j]
  simp

/-- A product with a power of the shift is that power of the shift. -/
theorem prod_shn (a m : Nat) (ha : a < 4294967296) : prod a (shn m 2147483648) = shn m a := by
  unfold prod
  rw [acc_shn, acc_all a ha]

/-- Where no bit is left the rest adds nothing. -/
theorem acc_rest (a b k : Nat) : ∀ m, (a * 2 ^ k) % 4294967296 = 0 → k + m ≤ 32 → acc a b (k + m) = acc a b k
  | 0, _, _ => rfl
  | m + 1, h, hk => by
    rw [← Nat.add_assoc, acc]
    have hb : a.testBit (31 - (k + m)) = false := by
      have h1 : (a * 2 ^ k).testBit (31 - m) = false := by
        have h2 : ((a * 2 ^ k) % 2 ^ 32).testBit (31 - m) = false := by
          rw [show (2 : Nat) ^ 32 = 4294967296 by decide, h]; simp
        rw [Nat.testBit_mod_two_pow] at h2
        simpa [show 31 - m < 32 by omega] using h2
      rw [Nat.testBit_mul_two_pow] at h1
      simpa [show k ≤ 31 - m by omega, show 31 - m - k = 31 - (k + m) by omega] using h1
    rw [hb]
    exact acc_rest a b k m h (by omega)

theorem top_bit (a k : Nat) (hk : k ≤ 31) : ((a * 2 ^ k) % 4294967296) / 2147483648 = if a.testBit (31 - k) then 1 else 0 := by
  have h1 : ((a * 2 ^ k) % 2 ^ 32).testBit 31 = a.testBit (31 - k) := by
    rw [Nat.testBit_mod_two_pow, Nat.testBit_mul_two_pow]
    simp [hk]
  have h2 : (a * 2 ^ k) % 4294967296 < 4294967296 := Nat.mod_lt _ (by decide)
  rw [show (2 : Nat) ^ 32 = 4294967296 by decide] at h1
  generalize (a * 2 ^ k) % 4294967296 = x at *
  rw [← h1, Nat.testBit, Nat.shiftRight_eq_div_pow, show (2 : Nat) ^ 31 = 2147483648 by decide]
  have h3 : x / 2147483648 = 0 ∨ x / 2147483648 = 1 := by omega
  rcases h3 with h3 | h3 <;> simp [h3]

def join (a b n : Nat) : Nat := shn (8 * n) a ^^^ b

/-- The sum of two texts, one behind the other. -/
theorem join_sum (a b : List Nat) : join (sum a) (sum b) b.length = sum (a ++ b) := by
  unfold join sum
  rw [reg_append, shn_xor]
  have h1 := reg_xor b 4294967295 0
  have h2 := reg_xor b (reg 4294967295 a) 0
  rw [Nat.xor_zero] at h1 h2
  rw [h1, h2]
  generalize shn (8 * b.length) 4294967295 = x
  generalize shn (8 * b.length) (reg 4294967295 a) = y
  generalize reg 0 b = z
  rw [Nat.xor_comm x y, Nat.xor_assoc, ← Nat.xor_assoc x, Nat.xor_comm x, Nat.xor_assoc, ← Nat.xor_assoc x, Nat.xor_self, Nat.zero_xor, ← Nat.xor_assoc, Nat.xor_comm y, Nat.xor_assoc]

def le4 (s : Nat) : List Nat := [s % 256, s / 256 % 256, s / 65536 % 256, s / 16777216]
def val4 (a b c d : Nat) : Nat := a + b * 256 + c * 65536 + d * 16777216
theorem le4_val (a b c d : Nat) (ha : a < 256) (hb : b < 256) (hc : c < 256) (_hd : d < 256) : le4 (val4 a b c d) = [a, b, c, d] := by
  unfold le4 val4
  simp only [List.cons.injEq, and_true]
  omega
theorem val_le4 (s : Nat) : val4 (s % 256) (s / 256 % 256) (s / 65536 % 256) (s / 16777216) = s := by
  unfold val4
  omega
theorem le4_lt {s : Nat} (h : s < 4294967296) : ∀ x ∈ le4 s, x < 256 := by
  intro x hx
  simp [le4] at hx
  omega
theorem le4_length (s : Nat) : (le4 s).length = 4 := rfl
def close (l : List Nat) : List Nat := l ++ le4 (sum l)
def fits (l : List Nat) : Bool := decide (4 ≤ l.length ∧ l.drop (l.length - 4) = le4 (sum (l.take (l.length - 4))))
theorem fits_short {l : List Nat} (h : l.length < 4) : fits l = false := by
  unfold fits; rw [decide_eq_false_iff_not]; omega
theorem four (l : List Nat) (h : 4 ≤ l.length) : ∃ a b c d, l.drop (l.length - 4) = [a, b, c, d] := by
  have hl : (l.drop (l.length - 4)).length = 4 := by rw [List.length_drop]; omega
  match l.drop (l.length - 4), hl with
  | [a, b, c, d], _ => exact ⟨a, b, c, d, rfl⟩
theorem fits_val {l : List Nat} {a b c d : Nat} (h : 4 ≤ l.length) (hd : l.drop (l.length - 4) = [a, b, c, d]) (hb : ∀ x ∈ l, x < 256) : fits l = decide (val4 a b c d = sum (l.take (l.length - 4))) := by
  have hx : ∀ x ∈ [a, b, c, d], x < 256 := by rw [← hd]; exact fun x hx => hb x (List.mem_of_mem_drop hx)
  have ha := hx a (by simp)
  have hb' := hx b (by simp)
  have hc := hx c (by simp)
  have hdd := hx d (by simp)
  unfold fits
  rw [hd]
  congr 1
  apply propext
  constructor
  · rintro ⟨_, h2⟩
    unfold le4 at h2
    simp only [List.cons.injEq, and_true] at h2
    obtain ⟨rfl, rfl, rfl, rfl⟩ := h2
    exact val_le4 _
  · intro h2
    refine ⟨h, ?_⟩
    rw [← h2, le4_val a b c d ha hb' hc hdd]
theorem xor_all {r : Nat} (h : r < 4294967296) : 4294967295 ^^^ r = 4294967295 - r := by
  have h1 := BitVec.toNat_not (x := BitVec.ofNat 32 r)
  have h2 : (~~~ (BitVec.ofNat 32 r)).toNat = 4294967295 ^^^ r := by
    rw [← BitVec.allOnes_xor, BitVec.toNat_xor, BitVec.toNat_allOnes, BitVec.toNat_ofNat, Nat.mod_eq_of_lt (by omega)]
  rw [h2] at h1
  rw [h1, BitVec.toNat_ofNat, Nat.mod_eq_of_lt (by omega)]

theorem known : sum [49, 50, 51, 52, 53, 54, 55, 56, 57] = 3808858755 := by decide
end Go.Proofs.YtofjfnmhhldniaaDoor.Crc
