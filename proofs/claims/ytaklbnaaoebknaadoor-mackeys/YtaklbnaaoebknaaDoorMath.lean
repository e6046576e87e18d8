/- Digests over plain numbers: what the program's functions answer, and what they come to. No condition of its own. -/
namespace Go.Proofs.YtaklbnaaoebknaaDoor
set_option linter.unusedVariables false
set_option linter.unusedSimpArgs false
namespace Sha

def rot (x n : Nat) : Nat := x / 2 ^ n + x * 2 ^ (32 - n) % 4294967296
def spr (x a b c : Nat) : Nat := (rot x a ^^^ rot x b) ^^^ x / 2 ^ c
def all3 (x a b c : Nat) : Nat := (rot x a ^^^ rot x b) ^^^ rot x c
def word (B : List Nat) (i : Nat) : Nat := ((B.getD (4 * i) 0 * 256 + B.getD (4 * i + 1) 0) * 256 + B.getD (4 * i + 2) 0) * 256 + B.getD (4 * i + 3) 0
def nx (a b c d : Nat) : Nat := (a + spr b 7 18 3 + c + spr d 17 19 10) % 4294967296
def nxt (l : List Nat) (n : Nat) : Nat := nx (l.getD (n - 16) 0) (l.getD (n - 15) 0) (l.getD (n - 7) 0) (l.getD (n - 2) 0)
def sch (B : List Nat) : Nat → List Nat
  | 0 => []
  | n + 1 => sch B n ++ [if n < 16 then word B n else nxt (sch B n) n]
def mw (B : List Nat) (i : Nat) : Nat := (sch B (i + 1)).getD i 0
def cub : List Nat := [1116352408, 1899447441, 3049323471, 3921009573, 961987163, 1508970993, 2453635748, 2870763221, 3624381080, 310598401, 607225278, 1426881987, 1925078388, 2162078206, 2614888103, 3248222580, 3835390401, 4022224774, 264347078, 604807628, 770255983, 1249150122, 1555081692, 1996064986, 2554220882, 2821834349, 2952996808, 3210313671, 3336571891, 3584528711, 113926993, 338241895, 666307205, 773529912, 1294757372, 1396182291, 1695183700, 1986661051, 2177026350, 2456956037, 2730485921, 2820302411, 3259730800, 3345764771, 3516065817, 3600352804, 4094571909, 275423344, 430227734, 506948616, 659060556, 883997877, 958139571, 1322822218, 1537002063, 1747873779, 1955562222, 2024104815, 2227730452, 2361852424, 2428436474, 2756734187, 3204031479, 3329325298]
def sqr : List Nat := [1779033703, 3144134277, 1013904242, 2773480762, 1359893119, 2600822924, 528734635, 1541459225]
/-- The place of a name at a time. -/
def pl (k i : Nat) : Nat := (k + 64 - i) % 8
def choose (t u v : Nat) : Nat := (t &&& u) ^^^ ((4294967295 - t) &&& v)
def most (p q r : Nat) : Nat := ((p &&& q) ^^^ (p &&& r)) ^^^ (q &&& r)
def xOf (t u v w c m : Nat) : Nat := (w + all3 t 6 11 25 + choose t u v + c + m) % 4294967296
def yOf (p q r : Nat) : Nat := (all3 p 2 13 22 + most p q r) % 4294967296
def chg (i : Nat) (L : List Nat) (m : Nat) : List Nat :=
  (L.set (pl 3 i) ((L.getD (pl 3 i) 0 + xOf (L.getD (pl 4 i) 0) (L.getD (pl 5 i) 0) (L.getD (pl 6 i) 0) (L.getD (pl 7 i) 0) (cub.getD i 0) m) % 4294967296)).set (pl 7 i)
    ((xOf (L.getD (pl 4 i) 0) (L.getD (pl 5 i) 0) (L.getD (pl 6 i) 0) (L.getD (pl 7 i) 0) (cub.getD i 0) m + yOf (L.getD (pl 0 i) 0) (L.getD (pl 1 i) 0) (L.getD (pl 2 i) 0)) % 4294967296)
def cp (R B : List Nat) : Nat → List Nat
  | 0 => R
  | i + 1 => chg i (cp R B i) (mw B i)
def add8 (R S : List Nat) : List Nat := List.zipWith (fun a b => (a + b) % 4294967296) R S
def work (R B : List Nat) : List Nat := add8 R (cp R B 64)
def four (r : Nat) : List Nat := [r / 16777216 % 256, r / 65536 % 256, r / 256 % 256, r % 256]
def dig (R : List Nat) : List Nat := R.flatMap four
def be8 (v : Nat) : List Nat := [v / 2 ^ 56 % 256, v / 2 ^ 48 % 256, v / 2 ^ 40 % 256, v / 2 ^ 32 % 256, v / 2 ^ 24 % 256, v / 2 ^ 16 % 256, v / 2 ^ 8 % 256, v / 2 ^ 0 % 256]
def nz (n : Nat) : Nat := (119 - n % 64) % 64
def fill (n : Nat) : List Nat := 128 :: (List.replicate (nz n) 0 ++ be8 (8 * n))
def regs (T : List Nat) : Nat → List Nat
  | 0 => sqr
  | k + 1 => work (regs T k) ((T.drop (64 * k)).take 64)
/-- The registers behind a text. -/
def regsOf (T : List Nat) : List Nat := regs T (T.length / 64)
/-- What lies behind the last whole block, with noughts up to a block. -/
def tail (T : List Nat) : List Nat := T.drop (64 * (T.length / 64)) ++ List.replicate (64 - T.length % 64) 0
def dgst (T : List Nat) : List Nat := dig (regsOf (T ++ fill T.length))

abbrev U32 (x : Nat) : Prop := x < 4294967296
def AllU (L : List Nat) : Prop := ∀ x ∈ L, x < 4294967296
def AllB (L : List Nat) : Prop := ∀ x ∈ L, x < 256
theorem AllU.get {L : List Nat} (h : AllU L) (j : Nat) : L.getD j 0 < 4294967296 := by
  rw [List.getD_eq_getElem?_getD]
  cases hq : L[j]? with
  | none => simp
  | some x => exact h x (List.mem_of_getElem? hq)
theorem AllB.get {L : List Nat} (h : AllB L) (j : Nat) : L.getD j 0 < 256 := by
  rw [List.getD_eq_getElem?_getD]
  cases hq : L[j]? with
  | none => simp
  | some x => exact h x (List.mem_of_getElem? hq)
theorem AllU.set {L : List Nat} (h : AllU L) (j : Nat) {x : Nat} (hx : x < 4294967296) : AllU (L.set j x) := by
  intro y hy
  rcases List.mem_or_eq_of_mem_set hy with h1 | h1
  · exact h y h1
  · omega

theorem xor_lt {a b : Nat} (ha : a < 4294967296) (hb : b < 4294967296) : a ^^^ b < 4294967296 := Nat.xor_lt_two_pow (n := 32) ha hb
theorem and_lt {a b : Nat} (ha : a < 4294967296) : a &&& b < 4294967296 := Nat.lt_of_le_of_lt Nat.and_le_left ha

theorem rot_parts (x n : Nat) (hx : x < 4294967296) (hn : n ≤ 32) : x / 2 ^ n < 2 ^ (32 - n) ∧ x * 2 ^ (32 - n) % 4294967296 = (x % 2 ^ n) * 2 ^ (32 - n) := by
  have e : (4294967296 : Nat) = 2 ^ n * 2 ^ (32 - n) := by rw [← Nat.pow_add, show n + (32 - n) = 32 by omega]
  constructor
  · rw [Nat.div_lt_iff_lt_mul (Nat.two_pow_pos n), Nat.mul_comm, ← e]; exact hx
  · rw [e, Nat.mul_mod_mul_right]
theorem rot_lt {x n : Nat} (hx : x < 4294967296) (hn : n ≤ 32) : rot x n < 4294967296 := by
  obtain ⟨h1, h2⟩ := rot_parts x n hx hn
  unfold rot
  rw [h2]
  have e : (4294967296 : Nat) = 2 ^ n * 2 ^ (32 - n) := by rw [← Nat.pow_add, show n + (32 - n) = 32 by omega]
  have h3 : x % 2 ^ n + 1 ≤ 2 ^ n := Nat.mod_lt _ (Nat.two_pow_pos n)
  have h4 := Nat.mul_le_mul_right (2 ^ (32 - n)) h3
  rw [Nat.add_mul, ← e] at h4
  omega
theorem rot_or {x n : Nat} (hx : x < 4294967296) (hn : n ≤ 32) : x * 2 ^ (32 - n) % 4294967296 ||| x / 2 ^ n = rot x n := by
  obtain ⟨h1, h2⟩ := rot_parts x n hx hn
  unfold rot
  rw [h2, Nat.mul_comm, ← Nat.two_pow_add_eq_or_of_lt h1, Nat.add_comm]
theorem spr_lt {x a b c : Nat} (hx : x < 4294967296) (ha : a ≤ 32) (hb : b ≤ 32) : spr x a b c < 4294967296 :=
  xor_lt (xor_lt (rot_lt hx ha) (rot_lt hx hb)) (Nat.lt_of_le_of_lt (Nat.div_le_self _ _) hx)
theorem all3_lt {x a b c : Nat} (hx : x < 4294967296) (ha : a ≤ 32) (hb : b ≤ 32) (hc : c ≤ 32) : all3 x a b c < 4294967296 :=
  xor_lt (xor_lt (rot_lt hx ha) (rot_lt hx hb)) (rot_lt hx hc)
theorem word_lt {B : List Nat} (h : AllB B) (i : Nat) : word B i < 4294967296 := by
  unfold word
  have := h.get (4 * i); have := h.get (4 * i + 1); have := h.get (4 * i + 2); have := h.get (4 * i + 3)
  omega
theorem nx_lt (a b c d : Nat) : nx a b c d < 4294967296 := Nat.mod_lt _ (by decide)
theorem sch_len (B : List Nat) : ∀ n, (sch B n).length = n
  | 0 => rfl
  | n + 1 => by simp [sch, sch_len B n]
theorem sch_get (B : List Nat) : ∀ (n i : Nat), i < n → (sch B n).getD i 0 = mw B i
  | 0, i, h => by omega
  | n + 1, i, h => by
    by_cases e : i = n
    · subst e; rfl
    · have hl := sch_len B n
      have : i < n := by omega
      rw [sch, List.getD_eq_getElem?_getD, List.getElem?_append_left (by omega), ← List.getD_eq_getElem?_getD]
      exact sch_get B n i this
theorem mw_small {B : List Nat} {i : Nat} (h : i < 16) : mw B i = word B i := by
  have hl := sch_len B i
  unfold mw
  rw [sch, if_pos h, List.getD_eq_getElem?_getD, List.getElem?_append_right (by omega)]
  simp [hl]
theorem last_get (l : List Nat) (x n : Nat) (h : l.length = n) : (l ++ [x]).getD n 0 = x := by
  subst h
  rw [List.getD_eq_getElem?_getD, List.getElem?_append_right (Nat.le_refl _)]
  simp
theorem mw_nxt {B : List Nat} {i : Nat} (h : 16 ≤ i) : mw B i = nxt (sch B i) i := by
  have e : sch B (i + 1) = sch B i ++ [nxt (sch B i) i] := by
    rw [sch, if_neg (Nat.not_lt.2 h)]
  unfold mw
  rw [e]
  exact last_get _ _ _ (sch_len B i)
theorem nxt_of (l : List Nat) (n a b c d : Nat) (h1 : l.getD (n - 16) 0 = a) (h2 : l.getD (n - 15) 0 = b) (h3 : l.getD (n - 7) 0 = c) (h4 : l.getD (n - 2) 0 = d) : nxt l n = nx a b c d := by
  subst h1 h2 h3 h4; rfl
theorem mw_big {B : List Nat} {i : Nat} (h : 16 ≤ i) : mw B i = nx (mw B (i - 16)) (mw B (i - 15)) (mw B (i - 7)) (mw B (i - 2)) :=
  (mw_nxt h).trans (nxt_of _ _ _ _ _ _ (sch_get B i _ (by omega)) (sch_get B i _ (by omega)) (sch_get B i _ (by omega)) (sch_get B i _ (by omega)))
theorem mw_lt {B : List Nat} (hB : AllB B) (i : Nat) : mw B i < 4294967296 := by
  by_cases h : i < 16
  · rw [mw_small h]; exact word_lt hB i
  · rw [mw_big (by omega)]; exact nx_lt _ _ _ _

/-- The sixteen words that are kept at a time. -/
def ring (B : List Nat) : Nat → List Nat
  | 0 => List.replicate 16 0
  | i + 1 => (ring B i).set (i % 16) (mw B i)
theorem ring_len (B : List Nat) : ∀ i, (ring B i).length = 16
  | 0 => rfl
  | i + 1 => by simp [ring, ring_len B i]
theorem ring_get (B : List Nat) : ∀ (i k : Nat), k < i → i ≤ k + 16 → (ring B i).getD (k % 16) 0 = mw B k
  | 0, k, h, _ => by omega
  | i + 1, k, h, h2 => by
    have hl := ring_len B i
    rw [ring]
    by_cases e : k = i
    · subst e
      have : k % 16 < 16 := Nat.mod_lt _ (by decide)
      simp [List.getD_eq_getElem?_getD, List.getElem?_set, hl, this]
    · rw [List.getD_eq_getElem?_getD, List.getElem?_set_ne (by omega), ← List.getD_eq_getElem?_getD]
      exact ring_get B i k (by omega) (by omega)
theorem ring_all {B : List Nat} (hB : AllB B) : ∀ i, AllU (ring B i)
  | 0 => by intro x hx; simp [ring] at hx; omega
  | i + 1 => (ring_all hB i).set _ (mw_lt hB i)

theorem choose_lt {t u v : Nat} (ht : t < 4294967296) : choose t u v < 4294967296 := xor_lt (and_lt ht) (and_lt (by omega))
theorem most_lt {p q r : Nat} (hp : p < 4294967296) (hq : q < 4294967296) : most p q r < 4294967296 := xor_lt (xor_lt (and_lt hp) (and_lt hp)) (and_lt hq)
theorem chg_all {i : Nat} {L : List Nat} {m : Nat} (h : AllU L) : AllU (chg i L m) := (h.set _ (Nat.mod_lt _ (by decide))).set _ (Nat.mod_lt _ (by decide))
theorem chg_len (i : Nat) (L : List Nat) (m : Nat) : (chg i L m).length = L.length := by simp [chg]
theorem cp_all {R B : List Nat} (h : AllU R) : ∀ i, AllU (cp R B i)
  | 0 => h
  | i + 1 => chg_all (cp_all h i)
theorem cp_len (R B : List Nat) : ∀ i, (cp R B i).length = R.length
  | 0 => rfl
  | i + 1 => by rw [cp, chg_len, cp_len R B i]
theorem work_len {R B : List Nat} : (work R B).length = R.length := by simp [work, add8, cp_len]
theorem add8_all (R S : List Nat) : AllU (add8 R S) := by
  intro x hx
  unfold add8 at hx
  rw [List.mem_iff_getElem] at hx
  obtain ⟨i, hi, rfl⟩ := hx
  simp only [List.getElem_zipWith]
  exact Nat.mod_lt _ (by decide)
theorem work_all {R B : List Nat} : AllU (work R B) := add8_all _ _
theorem sqr_all : AllU sqr := by unfold AllU sqr; decide
theorem regs_all (T : List Nat) : ∀ k, AllU (regs T k)
  | 0 => sqr_all
  | k + 1 => work_all
theorem regs_len (T : List Nat) : ∀ k, (regs T k).length = 8
  | 0 => rfl
  | k + 1 => by rw [regs, work_len, regs_len T k]
theorem regs_app (T l : List Nat) : ∀ k, 64 * k ≤ T.length → regs (T ++ l) k = regs T k
  | 0, _ => rfl
  | k + 1, h => by
    rw [regs, regs, regs_app T l k (by omega), List.drop_append_of_le_length (by omega), List.take_append_of_le_length (by simp; omega)]
theorem tail_len (T : List Nat) : (tail T).length = 64 := by simp [tail]; omega
theorem tail_all {T : List Nat} (h : AllB T) : AllB (tail T) := by
  intro x hx
  unfold tail at hx
  rcases List.mem_append.1 hx with h1 | h1
  · exact h x (List.mem_of_mem_drop h1)
  · simp at h1; omega
/-- More is taken, not up to a block's end. -/
theorem more_part {T l : List Nat} (h : T.length % 64 + l.length < 64) : regsOf (T ++ l) = regsOf T ∧ tail (T ++ l) = (tail T).take (T.length % 64) ++ l ++ (tail T).drop (T.length % 64 + l.length) := by
  have hq : (T ++ l).length / 64 = T.length / 64 := by simp; omega
  have hm : (T ++ l).length % 64 = T.length % 64 + l.length := by simp; omega
  refine ⟨?_, ?_⟩
  · unfold regsOf
    rw [hq, regs_app T l _ (by omega)]
  · unfold tail
    rw [hq, hm, List.drop_append_of_le_length (by omega)]
    have hd : (T.drop (64 * (T.length / 64))).length = T.length % 64 := by simp; omega
    rw [List.take_append_of_le_length (by omega), List.take_of_length_le (by omega), List.append_assoc, List.append_assoc]
    congr 2
    rw [List.drop_append, List.drop_eq_nil_of_le (by omega)]
    simp only [List.nil_append, hd]
    rw [List.drop_replicate]
    congr 1
    omega
/-- More is taken, up to a block's end. -/
theorem more_full {T l : List Nat} (h : T.length % 64 + l.length = 64) : regsOf (T ++ l) = work (regsOf T) ((tail T).take (T.length % 64) ++ l) ∧ tail (T ++ l) = List.replicate 64 0 := by
  have hq : (T ++ l).length / 64 = T.length / 64 + 1 := by simp; omega
  have hm : (T ++ l).length % 64 = 0 := by simp; omega
  have hd : (T.drop (64 * (T.length / 64))).length = T.length % 64 := by simp; omega
  refine ⟨?_, ?_⟩
  · unfold regsOf
    rw [hq, regs, regs_app T l _ (by omega), List.drop_append_of_le_length (by omega), List.take_of_length_le (by simp; omega)]
    congr 2
    unfold tail
    rw [List.take_append_of_le_length (by omega), List.take_of_length_le (by omega)]
  · unfold tail
    rw [hq, hm, List.drop_eq_nil_of_le (by simp; omega)]
    simp
theorem fill_all (n : Nat) : AllB (fill n) := by
  intro x hx
  unfold fill at hx
  simp only [List.mem_cons, List.mem_append, List.mem_replicate, be8, List.not_mem_nil, or_false] at hx
  omega
theorem dig_all (R : List Nat) : AllB (dig R) := by
  intro x hx
  unfold dig at hx
  obtain ⟨r, _, h2⟩ := List.mem_flatMap.1 hx
  simp only [four, List.mem_cons, List.not_mem_nil, or_false] at h2
  omega
theorem dig_len (R : List Nat) : (dig R).length = 4 * R.length := by
  unfold dig
  induction R with
  | nil => rfl
  | cons a t ih => simp [List.flatMap_cons, four] at ih ⊢; omega
theorem dig_app (R S : List Nat) : dig (R ++ S) = dig R ++ dig S := by simp [dig]
theorem pl_lt (k i : Nat) : pl k i < 8 := Nat.mod_lt _ (by decide)
theorem AllB.app {a b : List Nat} (h : AllB a) (k : AllB b) : AllB (a ++ b) := by
  intro x hx
  rcases List.mem_append.1 hx with h1 | h1
  · exact h x h1
  · exact k x h1
end Sha
end Go.Proofs.YtaklbnaaoebknaaDoor
