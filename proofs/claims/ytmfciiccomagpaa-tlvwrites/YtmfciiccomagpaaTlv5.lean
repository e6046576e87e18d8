/- Numbers, bytes and noughts read; a reader made, and its end. No condition of its own. -/
import Derived.Test.YtmfciiccomagpaaTlv4
namespace Go.Proofs.Ytmfciiccomagpaa
namespace Tlv
open Go Go.RowKit
set_option linter.unusedVariables false
set_option linter.unusedSimpArgs false
set_option maxRecDepth 100000


theorem bytes_but {S : Nat → Prop} {w w' : World} {v : Value} {l : List Nat} (h : BytesAt w v l) (hk : KeepBut S w w') (hn : ∀ k, blockOf v = some k → ¬ S k) : BytesAt w' v l :=
  bytes_of_nums ((nums_of_bytes h).via fun b hb hlt => hk.block b hlt (hn b hb)) h.1
theorem takeS_8 {B : List Nat} {s : Option Nat} {n : Int} (h : n ≤ 8) : (takeS B s n).2.length ≤ 8 := by
  unfold takeS
  cases s with
  | none => simp
  | some a =>
    simp only
    split
    · rw [List.length_take]; omega
    · simp
theorem or_byte (x b : Nat) (hx : x * 256 < 18446744073709551616) (hb : b < 256) : bits .or .u64 ((x * 256 : Nat) : Int) (b : Int) = ((256 * x + b : Nat) : Int) := by
  rw [u64_or_nat _ _ hx (by omega)]
  congr 1
  have := Nat.two_pow_add_eq_or_of_lt (i := 8) (by simpa using hb) x
  rw [show (2 : Nat) ^ 8 = 256 from rfl] at this
  rw [Nat.mul_comm x 256, ← this]
theorem val_take {l : List Nat} (h : AllB l) (hl : l.length ≤ 8) {k : Nat} (hk : k < l.length) : val (l.take k) * 256 < 18446744073709551616 := by
  have := val_lt (h.take k) 7 (by rw [List.length_take]; omega)
  simp at this
  omega

set_option maxHeartbeats 2000000 in
theorem inNum_any {w : World} {base g : Nat} {bv : Value} {B : List Nat} {s : Option Nat} (h : InAt w base g bv B s) (hB : B.length ≤ 1000000) (n : Int) :
    Calls Try.prog 17 #[ptr g, .int .i64 n] w fun e w' => e = .returned (.int .u64 ((numS B s n).2 : Nat)) ∧ InAt w' base g bv B (numS B s n).1 ∧ KeepBut (· = g) w w' := by
  have H : Hid (InAt w base g bv B s ∧ B.length ≤ 1000000) := ⟨h, hB⟩
  cases hs : isSz n with
  | false =>
    have e : numS B s n = (none, 0) := by unfold numS; rw [hs]; rfl
    rw [e]
    clear h hB e
    go_enter Try.func17, Try.ntmps17
    go_wp2_with (first
      | (go_at_call 35; refine (isSize_any _ _).mono ?_; rintro e w1 ⟨rfl, hw⟩; subst w1; rw [hs])
      | (go_at_call 38; refine (fail_any H.out.1).mono ?_; rintro e w2 ⟨⟨y, rfl⟩, hi2, hk2⟩))
    go_ret
    exact ⟨rfl, hi2, hk2⟩
  | true =>
    have e : numS B s n = ((takeS B s n).1, val (takeS B s n).2) := by unfold numS; rw [hs]; rfl
    rw [e]
    have HA : Hid (AllB (takeS B s n).2 ∧ (takeS B s n).2.length ≤ 8) := ⟨takeS_all h.own.all s n, takeS_8 (by rcases (isSz_iff n).1 hs with e | e | e | e <;> omega)⟩
    have HX : Hid (Calls Try.prog 39 #[ptr g, .int .i64 n] w (NextIs w base g bv B (takeS B s n))) := next_any h hB n
    clear h hB e H
    generalize takeS B s n = r at *
    go_enter Try.func17, Try.ntmps17
    go_wp2_with (first
      | (go_at_call 35; refine (isSize_any _ _).mono ?_; rintro e w1 ⟨rfl, hw⟩; subst w1; rw [hs])
      | (go_at_call 39; refine HX.out.mono ?_; rintro e w2 ⟨sa, sn, sc, rfl, hsn, hb2, hbl2, hi2, hk2⟩; have HN : Hid (sn = r.2.length) := hsn; clear hsn hbl2))
    obtain ⟨_, _, e3, _, hcell⟩ := hb2.form
    have HL : Hid (∀ j, j < sn → ∃ b off, sa = some ⟨b, off, none⟩ ∧ w2.cell? ⟨b, off + j, none⟩ = some (.int .u8 (r.2.getD j 0 : Nat))) := fun j hj => by
      cases e3
      exact hcell j (by rw [← HN.out]; exact hj)
    have hsn8 : sn ≤ 8 := by rw [HN.out]; exact HA.out.2
    have HI : Hid (InAt w2 base g bv B r.1 ∧ KeepBut (· = g) w w2) := ⟨hi2, hk2⟩
    clear e3 hcell hb2 hi2 hk2
    go_loopg [5, 17] sn (fun gm x t wr => ∃ k : Nat, k ≤ sn ∧ gm = sn - k ∧ x = .int .u64 (val (r.2.take k) : Nat) ∧ t = .int .i64 (k : Int) ∧ wr = w2)
    case atStart => exact ⟨0, Nat.zero_le _, rfl, rfl, rfl, rfl⟩
    case round =>
      obtain ⟨k, hk, rfl, rfl, rfl, hw⟩ := hrel
      subst wr
      by_cases hlt : k < sn
      · have hd : decide ((k : Int) < (sn : Int)) = true := decide_eq_true (by omega)
        obtain ⟨b, off, rfl, hc⟩ := HL.out k hlt
        have hkr : k < r.2.length := by rw [← HN.out]; exact hlt
        have HV : Hid (val (r.2.take (k + 1)) = 256 * val (r.2.take k) + r.2.getD k 0) := show _ = _ by rw [take_next r.2 0 k hkr, val_snoc]
        have hk8 : k < 8 := by omega
        have hx := val_take HA.out.1 HA.out.2 hkr
        have hb8 := HA.out.1.getD k
        generalize r.2.getD k 0 = b8 at *
        generalize val (r.2.take k) = x at *
        obtain ⟨q, hq⟩ : ∃ q, q = 256 * x + b8 := ⟨_, rfl⟩
        obtain ⟨p, hp⟩ : ∃ p, p = x * 256 := ⟨_, rfl⟩
        have ho : bits .or .u64 (p : Int) (b8 : Int) = (q : Int) := by rw [hp, hq]; exact or_byte x b8 hx hb8
        have hw1 : IntKind.u64.wrap (p : Int) = (p : Int) := by rw [IntKind.wrap_u64]; omega
        have hw2 : (p : Int) % 18446744073709551616 = (p : Int) := by omega
        have hw3 : (x : Int) * 256 = (p : Int) := by omega
        rw [← hq] at HV
        clear hp hq hx
        clear hkr
        go_wp2
        go_roundg (sn - (k + 1))
        case measure => omega
        case rel => exact ⟨k + 1, by omega, rfl, by rw [HV.out], by simp, rfl⟩
      · have hd : decide ((k : Int) < (sn : Int)) = false := decide_eq_false (by omega)
        obtain rfl : k = sn := by omega
        have HT : Hid (r.2.take k = r.2) := List.take_of_length_le (by rw [HN.out]; exact Nat.le_refl _)
        go_wp2
        go_ret
        exact ⟨by rw [HT.out]; rfl, HI.out.1, HI.out.2⟩
theorem next_nil (n : Int) (hn : 0 ≤ n) (w : World) : Calls Try.prog 39 #[.pointer none, .int .i64 n] w fun e w' => e = .returned (.slice none 0 0) ∧ w' = w := by
  have hd : decide (n < 0) = false := decide_eq_false (by omega)
  by_cases h : n = 0
  · have hd1 : decide (n > 0) = false := decide_eq_false (by omega)
    go_enter Try.func39, Try.ntmps39
    go_wp2_with (first
      | (go_at_call 22; refine (left_nil _).mono ?_; rintro e w1 ⟨rfl, hw⟩; subst w1))
    go_ret
    exact ⟨rfl, rfl⟩
  · have hd1 : decide (n > 0) = true := decide_eq_true (by omega)
    go_enter Try.func39, Try.ntmps39
    go_wp2_with (first
      | (go_at_call 22; refine (left_nil _).mono ?_; rintro e w1 ⟨rfl, hw⟩; subst w1)
      | (go_at_call 38; refine (fail_nil _).mono ?_; rintro e w2 ⟨⟨y, rfl⟩, hw⟩; subst w2))
    go_ret
    exact ⟨rfl, rfl⟩
set_option maxHeartbeats 1000000 in
theorem inNum_nil (w : World) : Calls Try.prog 17 #[.pointer none, .int .i64 1] w fun e w' => e = .returned (.int .u64 0) ∧ w' = w := by
  go_enter Try.func17, Try.ntmps17
  have hs : isSz 1 = true := rfl
  go_wp2_with (first
    | (go_at_call 35; refine (isSize_any _ _).mono ?_; rintro e w1 ⟨rfl, hw⟩; subst w1; rw [hs])
    | (go_at_call 39; refine (next_nil 1 (by decide) _).mono ?_; rintro e w2 ⟨rfl, hw⟩; subst w2))
  go_loopg [5, 17] 0 (fun gm x t wr => gm = 0 ∧ x = .int .u64 0 ∧ t = .int .i64 0 ∧ wr = w)
  case atStart => exact ⟨rfl, rfl, rfl, rfl⟩
  case round =>
    obtain ⟨rfl, rfl, rfl, hw⟩ := hrel
    subst wr
    go_wp2
    go_ret
    exact ⟨rfl, rfl⟩
set_option maxHeartbeats 1000000 in
theorem inTake_any {w : World} {base g : Nat} {bv : Value} {B : List Nat} {s : Option Nat} (h : InAt w base g bv B s) (hB : B.length ≤ 1000000) (n : Int) :
    Calls Try.prog 19 #[ptr g, .int .i64 n] w fun e w' => ∃ a m c, e = .returned (.slice a m c) ∧ m = (takeS B s n).2.length ∧ OB w' w.heap.size (.slice a m c) (takeS B s n).2 ∧ InAt w' base g bv B (takeS B s n).1 ∧ KeepBut (· = g) w w' := by
  have H : Hid (InAt w base g bv B s ∧ B.length ≤ 1000000) := ⟨h, hB⟩
  have HL : Hid ((takeS B s n).2.length ≤ B.length) := takeS_len B s n
  have HX : Hid (Calls Try.prog 39 #[ptr g, .int .i64 n] w (NextIs w base g bv B (takeS B s n))) := next_any h hB n
  clear h hB
  generalize takeS B s n = r at *
  go_enter Try.func19, Try.ntmps19
  go_wp2_with (first
    | (go_at_call 39; refine HX.out.mono ?_; rintro e w2 ⟨sa, sn, sc, rfl, hsn, hb2, hbl2, hi2, hk2⟩; have HN : Hid (sn = r.2.length) := hsn; clear hsn hbl2)
    | (go_at_call 37; refine (copied_any hb2 (Nat.le_trans HL.out H.out.2)).mono ?_; rintro e w3 ⟨a, m, c, rfl, hm, ho3, he3⟩; have HM : Hid (m = r.2.length) := hm; clear hm))
  go_ret
  exact ⟨_, _, _, rfl, HM.out, ho3.base hk2.size, hi2.ext he3, hk2.trans (KeepBut.ext he3)⟩
set_option maxHeartbeats 1000000 in
theorem inTake_nil (w : World) : Calls Try.prog 19 #[.pointer none, .int .i64 1] w fun e w' => ∃ a c, e = .returned (.slice a 0 c) ∧ Ext w w' := by
  go_enter Try.func19, Try.ntmps19
  go_wp2_with (first
    | (go_at_call 39; refine (next_nil 1 (by decide) _).mono ?_; rintro e w2 ⟨rfl, hw⟩; subst w2)
    | (go_at_call 37; refine (copied_any (BytesAt.none _) (by simp)).mono ?_; rintro e w3 ⟨a, m, c, rfl, hm, ho3, he3⟩; have hm0 : m = 0 := hm; subst hm0; clear hm))
  go_ret
  exact ⟨_, _, rfl, he3⟩
end Tlv
end Go.Proofs.Ytmfciiccomagpaa
