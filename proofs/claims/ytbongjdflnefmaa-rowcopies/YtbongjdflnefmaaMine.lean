/- A row whose memory is all new: what the calls make of it, and that all else stays. No condition of its own. -/
import Derived.Test.YtbongjdflnefmaaAlive
import Derived.Deep.LoopGhost
namespace Go.Proofs.Ytbongjdflnefmaa
open Go.RowKit
set_option linter.unusedVariables false
set_option linter.unusedSimpArgs false
set_option maxRecDepth 100000

/-- A row in block b, all of it at or behind block B. -/
def Mine (B : Nat) (w : World) (b : Nat) (f m : Int) (l : List Int) : Prop := ∃ v, RowAt w b v f m l ∧ B ≤ b ∧ ∀ g, v.ownBlock = some g → B ≤ g
theorem Moves.below {B b : Nat} {v v' : Value} {w1 w2 : World} (h : Moves b v v' w1 w2) (hb : B ≤ b) (hv : ∀ g, v.ownBlock = some g → B ≤ g) (hlt : B ≤ w1.heap.size) : Below B w1 w2 :=
  ⟨h.keep.os, h.keep.tape, h.keep.output, h.keep.size, fun k hk => h.keep.block k (by omega) (by
    rintro (rfl | h2)
    · omega
    · have := hv k h2; omega)⟩
theorem Mine.row {B : Nat} {w : World} {b : Nat} {f m : Int} {l : List Int} (h : Mine B w b f m l) : ∃ v, RowAt w b v f m l := ⟨_, h.choose_spec.1⟩
theorem Mine.hm {B : Nat} {w : World} {b : Nat} {f m : Int} {l : List Int} (h : Mine B w b f m l) : 1 ≤ m ∧ m ≤ 1024 := h.choose_spec.1.hm
theorem Mine.hl {B : Nat} {w : World} {b : Nat} {f m : Int} {l : List Int} (h : Mine B w b f m l) : (l.length : Int) ≤ m := h.choose_spec.1.hl
theorem Mine.lt {B : Nat} {w : World} {b : Nat} {f m : Int} {l : List Int} (h : Mine B w b f m l) : B ≤ w.heap.size := by have := h.choose_spec.1.lt; have := h.choose_spec.2.1; omega
theorem Mine.step {B b : Nat} {v v' : Value} {w w' : World} {f' m : Int} {l' : List Int} (hr : RowAt w' b v' f' m l') (hm : Moves b v v' w w') (hb : B ≤ b) (hv : ∀ g, v.ownBlock = some g → B ≤ g) (hlt : B ≤ w.heap.size) : Mine B w' b f' m l' ∧ Below B w w' := by
  refine ⟨⟨v', hr, hb, fun g hg => ?_⟩, hm.below hb hv hlt⟩
  rcases hm.own g hg with h | h
  · exact hv g h
  · omega
theorem Mine.ext {B : Nat} {w w' : World} {b : Nat} {f m : Int} {l : List Int} (h : Mine B w b f m l) (he : Ext w w') : Mine B w' b f m l := by
  obtain ⟨v, h1, h2⟩ := h
  exact ⟨v, h1.ext he, h2⟩
theorem Ext.below_of {B : Nat} {w w' : World} (h : Ext w w') (hB : B ≤ w.heap.size) : Below B w w' := Below.mono h hB

section
variable {B : Nat} {w : World} {b : Nat} {f m : Int} {l : List Int}

theorem Mine.from_ (h : Mine B w b f m l) : Calls Try.prog 15 #[rowP b] w fun e w' => e = .returned (.int .u32 f) ∧ w' = w := by
  obtain ⟨v, h1, _⟩ := h; exact from_any h1
theorem Mine.len (h : Mine B w b f m l) : Calls Try.prog 18 #[rowP b] w fun e w' => e = .returned (.int .i64 l.length) ∧ w' = w := by
  obtain ⟨v, h1, _⟩ := h; exact len_any h1
theorem Mine.next (h : Mine B w b f m l) : Calls Try.prog 17 #[rowP b] w fun e w' => e = .returned (.int .u32 (Ser.step f l.length)) ∧ w' = w := by
  obtain ⟨v, h1, _⟩ := h; exact next_any h1
theorem Mine.at_ (h : Mine B w b f m l) (n : Int) (hn : Of 4294967296 n) : Calls Try.prog 23 #[rowP b, .int .u32 n] w fun e w' => e = .returned (.tuple #[.int .i64 (rowGet f n l), .bool (decide (Ser.far f n < l.length))]) ∧ ∃ q, w' = w.drewN q := by
  obtain ⟨v, h1, _⟩ := h; exact at_any h1 n hn
theorem Mine.push (h : Mine B w b f m l) (x : Int) (hx : W64 x) (hroom : (l.length : Int) < m) : Calls Try.prog 13 #[rowP b, .int .i64 x] w fun e w' => e = .returned (.tuple #[.int .u32 (Ser.step f l.length), .nilIface]) ∧ Mine B w' b f m (l ++ [x]) ∧ Below B w w' := by
  have hlt := h.lt
  obtain ⟨v, h1, h2, h3⟩ := h
  refine (push_any h1 x hx hroom).mono ?_
  rintro e w' ⟨rfl, v', h4, h5⟩
  exact ⟨rfl, Mine.step h4 h5 h2 h3 hlt⟩
theorem Mine.push_full (h : Mine B w b f m l) (x : Int) (hx : W64 x) (hfull : (l.length : Int) = m) : Calls Try.prog 13 #[rowP b, .int .i64 x] w fun e w' => e = .returned (.tuple #[.int .u32 0, .iface 33 (.int .i64 3)]) ∧ Mine B w' b f m l ∧ Below B w w' := by
  have hlt := h.lt
  have H := h
  obtain ⟨v, h1, h2, h3⟩ := h
  refine (Go.Proofs.Ytbongjdflnefmaa.push_full h1 x hx hfull).mono ?_
  rintro e w' ⟨rfl, q, rfl⟩
  exact ⟨rfl, H.ext (Ext.drewN _ _), (Ext.drewN _ _).below_of hlt⟩
/-- Pushed as far as there is room. -/
def pushed (m : Int) (l : List Int) (x : Int) : List Int := (l ++ [x]).take m.toNat
theorem Mine.push_any (h : Mine B w b f m l) (x : Int) (hx : W64 x) : Calls Try.prog 13 #[rowP b, .int .i64 x] w fun e w' => ∃ n i, e = .returned (.tuple #[.int .u32 n, i]) ∧ Mine B w' b f m (pushed m l x) ∧ Below B w w' := by
  have hl := h.hl
  have hm := h.hm
  unfold pushed
  by_cases hroom : (l.length : Int) < m
  · rw [List.take_of_length_le (by simp; omega)]
    refine (h.push x hx hroom).mono ?_
    rintro e w' ⟨rfl, h1⟩
    exact ⟨_, _, rfl, h1⟩
  · rw [List.take_append_of_le_length (by omega), List.take_of_length_le (by omega)]
    refine (h.push_full x hx (by omega)).mono ?_
    rintro e w' ⟨rfl, h1⟩
    exact ⟨_, _, rfl, h1⟩
theorem Mine.set (h : Mine B w b f m l) (n x : Int) (k : Nat) (hn : Of 4294967296 n) (hx : W64 x) (hk : Ser.far f n = k) (hin : k < l.length) : Calls Try.prog 24 #[rowP b, .int .u32 n, .int .i64 x] w fun e w' => e = .returned .nilIface ∧ Mine B w' b f m (l.set k x) ∧ Below B w w' := by
  have hlt := h.lt
  obtain ⟨v, h1, h2, h3⟩ := h
  refine (set_any h1 n x k hn hx hk hin).mono ?_
  rintro e w' ⟨rfl, h4, h5⟩
  exact ⟨rfl, Mine.step h4 h5 h2 h3 hlt⟩
theorem Mine.set_none (h : Mine B w b f m l) (n x : Int) (hn : Of 4294967296 n) (hx : W64 x) (hout : ¬ Ser.far f n < l.length) : Calls Try.prog 24 #[rowP b, .int .u32 n, .int .i64 x] w fun e w' => e = .returned (.iface 33 (.int .i64 4)) ∧ w' = w := by
  obtain ⟨v, h1, _⟩ := h; exact Go.Proofs.Ytbongjdflnefmaa.set_none h1 n x hn hx hout
theorem Mine.pop {x : Int} (h : Mine B w b f m (x :: l)) : Calls Try.prog 14 #[rowP b] w fun e w' => e = .returned (.tuple #[.int .i64 x, .nilIface]) ∧ Mine B w' b (Ser.step f 1) m l ∧ Below B w w' := by
  have hlt := h.lt
  obtain ⟨v, h1, h2, h3⟩ := h
  refine (pop_any h1).mono ?_
  rintro e w' ⟨rfl, v', h4, h5⟩
  exact ⟨rfl, Mine.step h4 h5 h2 h3 hlt⟩
theorem Mine.cut (h : Mine B w b f m l) (n : Int) (k : Nat) (hn : Of 4294967296 n) (hk : Ser.far f n = k) (hin : k ≤ l.length) : Calls Try.prog 16 #[rowP b, .int .u32 n] w fun e w' => ∃ u, e = .returned (.tuple #[u, .nilIface]) ∧ OwnN .i64 w' w.heap.size 3 u (l.take k) ∧ Mine B w' b n m (l.drop k) ∧ Below B w w' := by
  have hlt := h.lt
  obtain ⟨v, h1, h2, h3⟩ := h
  refine (cut_any h1 n k hn hk hin).mono ?_
  rintro e w' ⟨u, v', rfl, h4, h5, h6, _⟩
  exact ⟨u, rfl, h4, Mine.step h5 h6 h2 h3 hlt⟩
end

theorem new_mine (f m : Int) (w : World) (hf : Of 4294967296 f) (hm : 1 ≤ m ∧ m ≤ 1024) : Calls Try.prog 9 #[.int .u32 f, .int .i64 m] w fun e w' => e = .returned (.tuple #[rowP w.heap.size, .nilIface]) ∧ Mine w.heap.size w' w.heap.size f m [] ∧ Ext w w' :=
  (new_any f m w hf hm).mono fun e w' h => ⟨h.1, ⟨_, h.2.1, Nat.le_refl _, fun g hg => by cases hg⟩, h.2.2⟩

/-- What is in a row behind pushes of all of a list's first ones. -/
theorem pushed_take (m : Int) (l : List Int) (i : Nat) (hi : i < l.length) : pushed m ((l.take i).take m.toNat) (l.getD i 0) = (l.take (i + 1)).take m.toNat := by
  unfold pushed
  rw [take_next l 0 i hi]
  rcases Nat.lt_or_ge i m.toNat with h | h
  · rw [List.take_take, Nat.min_eq_right (by omega)]
  · have hl : (l.take i).length = i := by simp; omega
    have hl2 : ((l.take i).take m.toNat).length = m.toNat := by simp; omega
    rw [List.take_append_of_le_length (by omega), List.take_append_of_le_length (by omega), List.take_take, Nat.min_self]
theorem NumsAt.cellAt {k : IntKind} {w : World} {a : Option Addr} {n c : Nat} {l : List Int} (h : NumsAt k w (.slice a n c) l) (j : Nat) (hj : j < l.length) : ∃ b off, a = some ⟨b, off, none⟩ ∧ w.cell? ⟨b, off + j, none⟩ = some (.int k (l.getD j 0)) := by
  obtain ⟨a', c', e, _, hc⟩ := h.form
  cases e
  exact hc j hj
theorem pick_lt (k0 : Int) (n : Nat) (h1 : 1 ≤ n) (h2 : n ≤ 1025) : ∃ k : Nat, k < n ∧ wrap64 ((IntKind.u64.wrap k0).tmod n) = k ∧ (IntKind.u64.wrap k0).tmod n = k := by
  have e1 : IntKind.u64.wrap k0 = k0 % 18446744073709551616 := IntKind.wrap_u64 k0
  have e2 : (k0 % 18446744073709551616).tmod n = k0 % 18446744073709551616 % n := Int.tmod_eq_emod_of_nonneg (Int.emod_nonneg _ (by omega))
  have h3 := Int.emod_lt_of_pos (k0 % 18446744073709551616) (b := (n : Int)) (by omega)
  have h4 := Int.emod_nonneg (k0 % 18446744073709551616) (b := (n : Int)) (by omega)
  refine ⟨(k0 % 18446744073709551616 % n).toNat, by omega, ?_, ?_⟩
  · rw [e1, e2, Int.toNat_of_nonneg h4]
    unfold wrap64; omega
  · rw [e1, e2, Int.toNat_of_nonneg h4]
theorem mod32 (n : Int) : Of 4294967296 (n % 4294967296) := ⟨Int.emod_nonneg _ (by omega), Int.emod_lt_of_pos _ (by omega)⟩
theorem far_step {f : Int} (hf : Of 4294967296 f) (k : Nat) (hk : k < 4294967296) : Ser.far f ((f + k) % 4294967296) = k := by
  unfold Ser.far; obtain ⟨h1, h2⟩ := hf; omega
theorem rowGet_step {f : Int} (hf : Of 4294967296 f) (L : List Int) (i : Nat) (hi : i < L.length) (h : L.length ≤ 1024) : rowGet f ((f + i) % 4294967296) L = L.getD i 0 := by
  unfold rowGet
  rw [far_step hf i (by omega), if_pos (by omega), Int.toNat_natCast]
theorem getD_set (L : List Int) (k i : Nat) (x : Int) (hi : i < L.length) : (L.set k x).getD i 0 = if i = k then x else L.getD i 0 := by
  simp only [List.getD_eq_getElem?_getD, List.getElem?_set]
  by_cases h : k = i
  · subst h; simp [hi]
  · rw [if_neg h, if_neg (Ne.symm h)]
theorem getD_take (l : List Int) (n i : Nat) (hi : i < (l.take n).length) : (l.take n).getD i 0 = l.getD i 0 := by
  have h1 : i < n := by simp at hi; omega
  rw [List.getD_eq_getElem?_getD, List.getD_eq_getElem?_getD, List.getElem?_take_of_lt h1]
theorem Mine.at_in {B : Nat} {w : World} {b : Nat} {f m : Int} {l : List Int} (h : Mine B w b f m l) (hf : Of 4294967296 f) (i : Nat) (hi : i < l.length) {x : Int} (hx : l.getD i 0 = x) : Calls Try.prog 23 #[rowP b, .int .u32 ((f + i) % 4294967296)] w fun e w' => e = .returned (.tuple #[.int .i64 x, .bool true]) ∧ ∃ q, w' = w.drewN q := by
  have hl : l.length ≤ 1024 := by have := h.hl; have := h.hm; omega
  have h1 := h.at_ _ (mod32 (f + i))
  rw [rowGet_step hf l i hi hl, far_step hf i (by omega), decide_eq_true (by omega), hx] at h1
  exact h1

set_option maxHeartbeats 1000000 in
theorem ints_same (v1 v2 : Value) (l : List Int) (w : World) (h1 : NumsAt .i64 w v1 l) (h2 : NumsAt .i64 w v2 l) :
    Calls Try.prog 19 #[v1, v2] w fun e w' => e = .returned (.bool true) ∧ ∃ q, w' = w.drewN q := by
  obtain ⟨a1, c1, rfl, ⟨hc1, hm1⟩, hcell1⟩ := h1.form
  obtain ⟨a2, c2, rfl, ⟨hc2, hm2⟩, hcell2⟩ := h2.form
  have H1 : Hid (∀ j, j < l.length → ∃ b off, a1 = some ⟨b, off, none⟩ ∧ w.cell? ⟨b, off + j, none⟩ = some (.int .i64 (l.getD j 0))) := hcell1
  have H2 : Hid (∀ j, j < l.length → ∃ b off, a2 = some ⟨b, off, none⟩ ∧ w.cell? ⟨b, off + j, none⟩ = some (.int .i64 (l.getD j 0))) := hcell2
  have hmx : l.length ≤ 9223372036854775807 := by unfold maxLen at hm1; omega
  clear h1 h2 hcell1 hcell2 hm1 hm2
  go_enter Try.func19, Try.ntmps19
  go_wp2
  go_loopg [13] l.length (fun g s wr => (∃ q, wr = w.drewN q) ∧ ∃ i : Nat, i ≤ l.length ∧ g = l.length - i ∧ s = .int .i64 (i : Int))
  case atStart => exact ⟨⟨0, rfl⟩, 0, by omega, rfl, rfl⟩
  case round =>
    obtain ⟨⟨q, rfl⟩, i, hi, rfl, rfl⟩ := hrel
    by_cases hlt : i < l.length
    · obtain ⟨b1, o1, rfl, e1⟩ := H1.out i hlt
      obtain ⟨b2, o2, rfl, e2⟩ := H2.out i hlt
      generalize l.getD i 0 = x at *
      have hlt' : (i : Int) < (l.length : Int) := by omega
      go_wp2_with fail
      go_quiet (fail)
      go_wp2
      go_roundg (l.length - (i + 1))
      case measure => omega
      case rel => exact ⟨⟨_, rfl⟩, i + 1, by omega, rfl, by simp⟩
    · have hd : decide ((i : Int) < (l.length : Int)) = false := decide_eq_false (by omega)
      go_wp2
      go_ret
      exact ⟨rfl, _, rfl⟩
end Go.Proofs.Ytbongjdflnefmaa
