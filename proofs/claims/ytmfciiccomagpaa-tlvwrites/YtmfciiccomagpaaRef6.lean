/- The document's numbers and noughts; lists of things. No condition of its own. -/
import Derived.Test.YtmfciiccomagpaaAlive6
namespace Go.Proofs.Ytmfciiccomagpaa
namespace Tlv
open Go Go.RowKit
set_option linter.unusedVariables false
set_option linter.unusedSimpArgs false
set_option maxRecDepth 100000


/-- One byte put behind. -/
theorem wl_push {wr : World} {ops : Array Oper} {rest : List Oper} {o : Oper} {a : Act} {Q : Exit → Act → World → Prop} {C : Array Value} (hgd : o.guard = none) {s x : Operand} (ho : o.op = .call { callee := .builtin .append, args := #[s, x], argTypes := #[26, 26] })
    {base b : Nat} {v : Value} {l : List Nat} {y : Nat} (hC : C = #[.int .u8 (y : Int)]) (hy : y < 256) (hs : a.eval s = v) (hx : a.eval x = .slice (some ⟨b, 0, none⟩) 1 1) (hb : b = wr.heap.size) (hv : OB wr base v l) (hl : l.length ≤ 900000) (hbase : base ≤ wr.heap.size)
    (h : ∀ ad n cap w', Hid (n = l.length + 1) → OB w' base (.slice ad n cap) (l ++ [y]) → KeepBut (fun k => v.ownBlock = some k) wr w' → wpList Try.prog ops Q rest (a.put o.dst (.slice ad n cap)) w') : wpList Try.prog ops Q (o :: rest) a (wr.alloc (.cells C 5)) := by
  subst hC hb
  have he : Ext wr (wr.alloc (.cells #[.int .u8 (y : Int)] 5)) := Ext.alloc _ _
  refine wl_app hgd ho hs hx (hv.ext he) (bytes_of_nums (l := [y]) (NumsAt.one wr (y : Int) 5 _ rfl) (fun x hx => by simp at hx; omega)) (by simp; omega) (Nat.le_trans hbase he.size) ?_
  intro ad n cap w' hn ho' hk _
  exact h ad n cap w' (show _ = _ by rw [hn.out]; simp) ho' ((KeepBut.ext he).trans hk)

set_option maxHeartbeats 4000000 in
theorem refNum_1 (N : Nat) (w : World) :
    Calls Try.prog 10 #[.int .u64 (N : Int), .int .i64 1] w fun e w' => ∃ a n c, e = .returned (.slice a n c) ∧ n = (be N 1).length ∧ OB w' w.heap.size (.slice a n c) (be N 1) ∧ Ext w w' := by
  go_enter Try.func10, Try.ntmps10
  go_wp2
  go_loopg [5, 6] 1 (fun gm x t wr => ∃ (k : Nat) (a : Option Addr) (n c : Nat), k ≤ 1 ∧ gm = k ∧ x = .slice a n c ∧ t = .int .i64 ((k : Int) - 1) ∧ Hid (n = 1 - k ∧ OB wr w.heap.size (.slice a n c) (dn N 1 k) ∧ Ext w wr))
  case atStart => exact ⟨1, none, 0, 0, by decide, rfl, rfl, rfl, rfl, OB.nil _ _, Ext.refl _⟩
  case round =>
    obtain ⟨k, a, n, c, hk, hgk, rfl, rfl, HR⟩ := hrel
    subst gk
    cases k with
    | zero =>
      have hd : decide ((((0 : Nat) : Int) - 1) ≥ 0) = false := rfl
      go_wp2
      go_ret
      refine ⟨_, _, _, rfl, by rw [HR.out.1, be_len], ?_, HR.out.2.2⟩
      have := HR.out.2.1
      rwa [dn_end] at this
    | succ j =>
      have hj1 : ((j + 1 : Nat) : Int) - 1 = (j : Int) := by omega
      rw [hj1]
      have hd : decide ((j : Int) ≥ 0) = true := decide_eq_true (by omega)
      obtain ⟨q, hq⟩ : ∃ q, q = 8 * j := ⟨_, rfl⟩
      obtain ⟨y, hy⟩ : ∃ y, y = N / 256 ^ j := ⟨_, rfl⟩
      obtain ⟨b, hb⟩ : ∃ b, b = y % 256 := ⟨_, rfl⟩
      have m8 : (8 : Int) * (j : Int) = (q : Int) := by omega
      have hqs : q < 1000000 := by omega
      have hq64 : (q : Int) ≤ 64 := by omega
      have my : (N : Int) / 2 ^ q = (y : Int) := by rw [hy, pow_bytes, ← hq]; simp
      have mb : (y : Int) % 256 = (b : Int) := by omega
      have mw : IntKind.u8.wrap (y : Int) = (b : Int) := by rw [IntKind.wrap_u8]; exact mb
      have hb8 : b < 256 := by omega
      have HD : Hid (dn N 1 j = dn N 1 (j + 1) ++ [b]) := show _ = _ by rw [hb, hy]; exact dn_succ N 1 j (by omega)
      have HLn : Hid ((dn N 1 (j + 1)).length ≤ 8) := Nat.le_trans (dn_len N 1 (j + 1)) (by decide)
      have HJ : Hid (j + 1 ≤ 1) := hk
      have hj8 : j < 8 := by omega
      have wq := (wrapM q hqs).1
      have wq2 := (wrapM q hqs).2.1
      have wq3 := (wrapM q hqs).2.2.1
      have wq4 := (wrapM q hqs).2.2.2
      clear hb hy hq
      go_wp2_with (first
        | (at_builtin; refine wl_push (l := dn N 1 (j + 1)) (y := b) (v := .slice a n c) rfl rfl (by first | rfl | go_simp | simp [mb, mw]) hb8 rfl rfl rfl HR.out.2.1 (by have := HLn.out; omega) HR.out.2.2.size ?_; intro ad n2 cap w2 hn2 ho2 hk2; rw [← HD.out] at ho2))
      go_roundg j
      case measure => omega
      case rel => exact ⟨j, ad, n2, cap, by omega, rfl, rfl, by first | rfl | simp, by have h1 := hn2.out; have h2 := HR.out.2.1.form; obtain ⟨_, _, e⟩ := h2; simp only [Value.slice.injEq] at e; have h3 := HR.out.1; have := HJ.out; omega, ho2, HR.out.2.2.of_but hk2 (fun k e => (HR.out.2.1.lt e).1)⟩
set_option maxHeartbeats 4000000 in
theorem refNum_2 (N : Nat) (w : World) :
    Calls Try.prog 10 #[.int .u64 (N : Int), .int .i64 2] w fun e w' => ∃ a n c, e = .returned (.slice a n c) ∧ n = (be N 2).length ∧ OB w' w.heap.size (.slice a n c) (be N 2) ∧ Ext w w' := by
  go_enter Try.func10, Try.ntmps10
  go_wp2
  go_loopg [5, 6] 2 (fun gm x t wr => ∃ (k : Nat) (a : Option Addr) (n c : Nat), k ≤ 2 ∧ gm = k ∧ x = .slice a n c ∧ t = .int .i64 ((k : Int) - 1) ∧ Hid (n = 2 - k ∧ OB wr w.heap.size (.slice a n c) (dn N 2 k) ∧ Ext w wr))
  case atStart => exact ⟨2, none, 0, 0, by decide, rfl, rfl, rfl, rfl, OB.nil _ _, Ext.refl _⟩
  case round =>
    obtain ⟨k, a, n, c, hk, hgk, rfl, rfl, HR⟩ := hrel
    subst gk
    cases k with
    | zero =>
      have hd : decide ((((0 : Nat) : Int) - 1) ≥ 0) = false := rfl
      go_wp2
      go_ret
      refine ⟨_, _, _, rfl, by rw [HR.out.1, be_len], ?_, HR.out.2.2⟩
      have := HR.out.2.1
      rwa [dn_end] at this
    | succ j =>
      have hj1 : ((j + 1 : Nat) : Int) - 1 = (j : Int) := by omega
      rw [hj1]
      have hd : decide ((j : Int) ≥ 0) = true := decide_eq_true (by omega)
      obtain ⟨q, hq⟩ : ∃ q, q = 8 * j := ⟨_, rfl⟩
      obtain ⟨y, hy⟩ : ∃ y, y = N / 256 ^ j := ⟨_, rfl⟩
      obtain ⟨b, hb⟩ : ∃ b, b = y % 256 := ⟨_, rfl⟩
      have m8 : (8 : Int) * (j : Int) = (q : Int) := by omega
      have hqs : q < 1000000 := by omega
      have hq64 : (q : Int) ≤ 64 := by omega
      have my : (N : Int) / 2 ^ q = (y : Int) := by rw [hy, pow_bytes, ← hq]; simp
      have mb : (y : Int) % 256 = (b : Int) := by omega
      have mw : IntKind.u8.wrap (y : Int) = (b : Int) := by rw [IntKind.wrap_u8]; exact mb
      have hb8 : b < 256 := by omega
      have HD : Hid (dn N 2 j = dn N 2 (j + 1) ++ [b]) := show _ = _ by rw [hb, hy]; exact dn_succ N 2 j (by omega)
      have HLn : Hid ((dn N 2 (j + 1)).length ≤ 8) := Nat.le_trans (dn_len N 2 (j + 1)) (by decide)
      have HJ : Hid (j + 1 ≤ 2) := hk
      have hj8 : j < 8 := by omega
      have wq := (wrapM q hqs).1
      have wq2 := (wrapM q hqs).2.1
      have wq3 := (wrapM q hqs).2.2.1
      have wq4 := (wrapM q hqs).2.2.2
      clear hb hy hq
      go_wp2_with (first
        | (at_builtin; refine wl_push (l := dn N 2 (j + 1)) (y := b) (v := .slice a n c) rfl rfl (by first | rfl | go_simp | simp [mb, mw]) hb8 rfl rfl rfl HR.out.2.1 (by have := HLn.out; omega) HR.out.2.2.size ?_; intro ad n2 cap w2 hn2 ho2 hk2; rw [← HD.out] at ho2))
      go_roundg j
      case measure => omega
      case rel => exact ⟨j, ad, n2, cap, by omega, rfl, rfl, by first | rfl | simp, by have h1 := hn2.out; have h2 := HR.out.2.1.form; obtain ⟨_, _, e⟩ := h2; simp only [Value.slice.injEq] at e; have h3 := HR.out.1; have := HJ.out; omega, ho2, HR.out.2.2.of_but hk2 (fun k e => (HR.out.2.1.lt e).1)⟩
set_option maxHeartbeats 4000000 in
theorem refNum_4 (N : Nat) (w : World) :
    Calls Try.prog 10 #[.int .u64 (N : Int), .int .i64 4] w fun e w' => ∃ a n c, e = .returned (.slice a n c) ∧ n = (be N 4).length ∧ OB w' w.heap.size (.slice a n c) (be N 4) ∧ Ext w w' := by
  go_enter Try.func10, Try.ntmps10
  go_wp2
  go_loopg [5, 6] 4 (fun gm x t wr => ∃ (k : Nat) (a : Option Addr) (n c : Nat), k ≤ 4 ∧ gm = k ∧ x = .slice a n c ∧ t = .int .i64 ((k : Int) - 1) ∧ Hid (n = 4 - k ∧ OB wr w.heap.size (.slice a n c) (dn N 4 k) ∧ Ext w wr))
  case atStart => exact ⟨4, none, 0, 0, by decide, rfl, rfl, rfl, rfl, OB.nil _ _, Ext.refl _⟩
  case round =>
    obtain ⟨k, a, n, c, hk, hgk, rfl, rfl, HR⟩ := hrel
    subst gk
    cases k with
    | zero =>
      have hd : decide ((((0 : Nat) : Int) - 1) ≥ 0) = false := rfl
      go_wp2
      go_ret
      refine ⟨_, _, _, rfl, by rw [HR.out.1, be_len], ?_, HR.out.2.2⟩
      have := HR.out.2.1
      rwa [dn_end] at this
    | succ j =>
      have hj1 : ((j + 1 : Nat) : Int) - 1 = (j : Int) := by omega
      rw [hj1]
      have hd : decide ((j : Int) ≥ 0) = true := decide_eq_true (by omega)
      obtain ⟨q, hq⟩ : ∃ q, q = 8 * j := ⟨_, rfl⟩
      obtain ⟨y, hy⟩ : ∃ y, y = N / 256 ^ j := ⟨_, rfl⟩
      obtain ⟨b, hb⟩ : ∃ b, b = y % 256 := ⟨_, rfl⟩
      have m8 : (8 : Int) * (j : Int) = (q : Int) := by omega
      have hqs : q < 1000000 := by omega
      have hq64 : (q : Int) ≤ 64 := by omega
      have my : (N : Int) / 2 ^ q = (y : Int) := by rw [hy, pow_bytes, ← hq]; simp
      have mb : (y : Int) % 256 = (b : Int) := by omega
      have mw : IntKind.u8.wrap (y : Int) = (b : Int) := by rw [IntKind.wrap_u8]; exact mb
      have hb8 : b < 256 := by omega
      have HD : Hid (dn N 4 j = dn N 4 (j + 1) ++ [b]) := show _ = _ by rw [hb, hy]; exact dn_succ N 4 j (by omega)
      have HLn : Hid ((dn N 4 (j + 1)).length ≤ 8) := Nat.le_trans (dn_len N 4 (j + 1)) (by decide)
      have HJ : Hid (j + 1 ≤ 4) := hk
      have hj8 : j < 8 := by omega
      have wq := (wrapM q hqs).1
      have wq2 := (wrapM q hqs).2.1
      have wq3 := (wrapM q hqs).2.2.1
      have wq4 := (wrapM q hqs).2.2.2
      clear hb hy hq
      go_wp2_with (first
        | (at_builtin; refine wl_push (l := dn N 4 (j + 1)) (y := b) (v := .slice a n c) rfl rfl (by first | rfl | go_simp | simp [mb, mw]) hb8 rfl rfl rfl HR.out.2.1 (by have := HLn.out; omega) HR.out.2.2.size ?_; intro ad n2 cap w2 hn2 ho2 hk2; rw [← HD.out] at ho2))
      go_roundg j
      case measure => omega
      case rel => exact ⟨j, ad, n2, cap, by omega, rfl, rfl, by first | rfl | simp, by have h1 := hn2.out; have h2 := HR.out.2.1.form; obtain ⟨_, _, e⟩ := h2; simp only [Value.slice.injEq] at e; have h3 := HR.out.1; have := HJ.out; omega, ho2, HR.out.2.2.of_but hk2 (fun k e => (HR.out.2.1.lt e).1)⟩
set_option maxHeartbeats 4000000 in
theorem refNum_8 (N : Nat) (w : World) :
    Calls Try.prog 10 #[.int .u64 (N : Int), .int .i64 8] w fun e w' => ∃ a n c, e = .returned (.slice a n c) ∧ n = (be N 8).length ∧ OB w' w.heap.size (.slice a n c) (be N 8) ∧ Ext w w' := by
  go_enter Try.func10, Try.ntmps10
  go_wp2
  go_loopg [5, 6] 8 (fun gm x t wr => ∃ (k : Nat) (a : Option Addr) (n c : Nat), k ≤ 8 ∧ gm = k ∧ x = .slice a n c ∧ t = .int .i64 ((k : Int) - 1) ∧ Hid (n = 8 - k ∧ OB wr w.heap.size (.slice a n c) (dn N 8 k) ∧ Ext w wr))
  case atStart => exact ⟨8, none, 0, 0, by decide, rfl, rfl, rfl, rfl, OB.nil _ _, Ext.refl _⟩
  case round =>
    obtain ⟨k, a, n, c, hk, hgk, rfl, rfl, HR⟩ := hrel
    subst gk
    cases k with
    | zero =>
      have hd : decide ((((0 : Nat) : Int) - 1) ≥ 0) = false := rfl
      go_wp2
      go_ret
      refine ⟨_, _, _, rfl, by rw [HR.out.1, be_len], ?_, HR.out.2.2⟩
      have := HR.out.2.1
      rwa [dn_end] at this
    | succ j =>
      have hj1 : ((j + 1 : Nat) : Int) - 1 = (j : Int) := by omega
      rw [hj1]
      have hd : decide ((j : Int) ≥ 0) = true := decide_eq_true (by omega)
      obtain ⟨q, hq⟩ : ∃ q, q = 8 * j := ⟨_, rfl⟩
      obtain ⟨y, hy⟩ : ∃ y, y = N / 256 ^ j := ⟨_, rfl⟩
      obtain ⟨b, hb⟩ : ∃ b, b = y % 256 := ⟨_, rfl⟩
      have m8 : (8 : Int) * (j : Int) = (q : Int) := by omega
      have hqs : q < 1000000 := by omega
      have hq64 : (q : Int) ≤ 64 := by omega
      have my : (N : Int) / 2 ^ q = (y : Int) := by rw [hy, pow_bytes, ← hq]; simp
      have mb : (y : Int) % 256 = (b : Int) := by omega
      have mw : IntKind.u8.wrap (y : Int) = (b : Int) := by rw [IntKind.wrap_u8]; exact mb
      have hb8 : b < 256 := by omega
      have HD : Hid (dn N 8 j = dn N 8 (j + 1) ++ [b]) := show _ = _ by rw [hb, hy]; exact dn_succ N 8 j (by omega)
      have HLn : Hid ((dn N 8 (j + 1)).length ≤ 8) := Nat.le_trans (dn_len N 8 (j + 1)) (by decide)
      have HJ : Hid (j + 1 ≤ 8) := hk
      have hj8 : j < 8 := by omega
      have wq := (wrapM q hqs).1
      have wq2 := (wrapM q hqs).2.1
      have wq3 := (wrapM q hqs).2.2.1
      have wq4 := (wrapM q hqs).2.2.2
      clear hb hy hq
      go_wp2_with (first
        | (at_builtin; refine wl_push (l := dn N 8 (j + 1)) (y := b) (v := .slice a n c) rfl rfl (by first | rfl | go_simp | simp [mb, mw]) hb8 rfl rfl rfl HR.out.2.1 (by have := HLn.out; omega) HR.out.2.2.size ?_; intro ad n2 cap w2 hn2 ho2 hk2; rw [← HD.out] at ho2))
      go_roundg j
      case measure => omega
      case rel => exact ⟨j, ad, n2, cap, by omega, rfl, rfl, by first | rfl | simp, by have h1 := hn2.out; have h2 := HR.out.2.1.form; obtain ⟨_, _, e⟩ := h2; simp only [Value.slice.injEq] at e; have h3 := HR.out.1; have := HJ.out; omega, ho2, HR.out.2.2.of_but hk2 (fun k e => (HR.out.2.1.lt e).1)⟩
set_option maxHeartbeats 1000000 in
theorem refNum_any (N : Nat) (n : Int) (w : World) :
    Calls Try.prog 10 #[.int .u64 (N : Int), .int .i64 n] w fun e w' => ∃ a m c, e = .returned (.slice a m c) ∧ m = (numB N n).length ∧ OB w' w.heap.size (.slice a m c) (numB N n) ∧ Ext w w' := by
  cases hs : isSz n with
  | true =>
    rcases (isSz_iff n).1 hs with rfl | rfl | rfl | rfl
    · exact refNum_1 N w
    · exact refNum_2 N w
    · exact refNum_4 N w
    · exact refNum_8 N w
  | false =>
    have e : numB N n = [] := by unfold numB; rw [hs]; rfl
    rw [e]
    have hn : ¬ (n = 1 ∨ n = 2 ∨ n = 4 ∨ n = 8) := fun h => by rw [(isSz_iff n).2 h] at hs; cases hs
    have e1 : decide (n = 1) = false := decide_eq_false (by omega)
    have e2 : decide (n = 2) = false := decide_eq_false (by omega)
    have e3 : decide (n = 4) = false := decide_eq_false (by omega)
    have e4 : decide (n = 8) = false := decide_eq_false (by omega)
    have f1 : n ≠ 1 := by omega
    have f2 : n ≠ 2 := by omega
    have f3 : n ≠ 4 := by omega
    have f4 : n ≠ 8 := by omega
    have g1 : (n == 1) = false := beq_false_of_ne f1
    have g2 : (n == 2) = false := beq_false_of_ne f2
    have g3 : (n == 4) = false := beq_false_of_ne f3
    have g4 : (n == 8) = false := beq_false_of_ne f4
    have k1 : (n != 1) = true := by simp [f1]
    have k2 : (n != 2) = true := by simp [f2]
    have k3 : (n != 4) = true := by simp [f3]
    have k4 : (n != 8) = true := by simp [f4]
    clear hn hs e f1 f2 f3 f4
    go_enter Try.func10, Try.ntmps10
    go_wp2
    go_ret
    exact ⟨_, _, _, rfl, rfl, OB.nil _ _, Ext.refl _⟩
end Tlv
end Go.Proofs.Ytmfciiccomagpaa
