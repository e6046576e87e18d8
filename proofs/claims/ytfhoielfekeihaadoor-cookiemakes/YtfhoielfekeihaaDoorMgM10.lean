/- Texts of the seat, one behind the other. No condition of its own. -/
import Derived.Test.YtfhoielfekeihaaDoorMgM9
import Derived.Laws.ResultCell
/- The document's numbers and noughts; lists of things. No condition of its own. -/
namespace Go.Proofs.YtfhoielfekeihaaDoor
namespace Tlv
open Go Go.RowKit
set_option linter.unusedVariables false
set_option linter.unusedSimpArgs false
set_option maxRecDepth 100000


/-- One byte put behind. -/
theorem wl_push {wr : World} {ops : Array Oper} {rest : List Oper} {o : Oper} {a : Act} {Q : Exit → Act → World → Prop} {C : Array Value} (hgd : o.guard = none) {s x : Operand} (ho : o.op = .call { callee := .builtin .append, args := #[s, x], argTypes := #[22, 22] })
    {base b : Nat} {v : Value} {l : List Nat} {y : Nat} (hC : C = #[.int .u8 (y : Int)]) (hy : y < 256) (hs : a.eval s = v) (hx : a.eval x = .slice (some ⟨b, 0, none⟩) 1 1) (hb : b = wr.heap.size) (hv : OB wr base v l) (hl : l.length ≤ 900000) (hbase : base ≤ wr.heap.size)
    (h : ∀ ad n cap w', Hid (n = l.length + 1) → OB w' base (.slice ad n cap) (l ++ [y]) → KeepBut (fun k => v.ownBlock = some k) wr w' → wpList Tryd.prog ops Q rest (a.put o.dst (.slice ad n cap)) w') : wpList Tryd.prog ops Q (o :: rest) a (wr.alloc (.cells C 5)) := by
  subst hC hb
  have he : Ext wr (wr.alloc (.cells #[.int .u8 (y : Int)] 5)) := Ext.alloc _ _
  refine wl_app hgd ho hs hx (hv.ext he) (bytes_of_nums (l := [y]) (NumsAt.one wr (y : Int) 5 _ rfl) (fun x hx => by simp at hx; omega)) (by simp; omega) (Nat.le_trans hbase he.size) ?_
  intro ad n cap w' hn ho' hk _
  exact h ad n cap w' (show _ = _ by rw [hn.out]; simp) ho' ((KeepBut.ext he).trans hk)

set_option maxHeartbeats 4000000 in
theorem refNum_1 (N : Nat) (w : World) :
    Calls Tryd.prog 49 #[.int .u64 (N : Int), .int .i64 1] w fun e w' => ∃ a n c, e = .returned (.slice a n c) ∧ n = (be N 1).length ∧ OB w' w.heap.size (.slice a n c) (be N 1) ∧ Ext w w' := by
  go_enter Tryd.func49, Tryd.ntmps49
  go_wp2
  go_loopg [5, 6] 1 (fun gm x t wr => ∃ (k : Nat) (a : Option Addr) (n c : Nat), k ≤ 1 ∧ gm = k ∧ x = .slice a n c ∧ t = .int .i64 ((k : Int) - 1) ∧ Hid (n = 1 - k ∧ OB wr w.heap.size (.slice a n c) (dn N 1 k) ∧ Ext w wr))
  case atStart => exact ⟨1, none, 0, 0, by decide, rfl, rfl, rfl, rfl, OB.nil _ _, Ext.refl _⟩
  case round =>
    obtain ⟨k, a, n, c, hk, hgk, rfl, rfl, HR⟩ := hrel
    subst gk
    cases k with
    | zero =>
      have hd : decide ((((0 : Nat) : Int) - 1) ≥ 0) = false := rfl
      go_wp2
      go_ret
      refine ⟨_, _, _, rfl, by rw [HR.out.1, be_len], ?_, HR.out.2.2⟩
      have := HR.out.2.1
      rwa [dn_end] at this
    | succ j =>
      have hj1 : ((j + 1 : Nat) : Int) - 1 = (j : Int) := by omega
      rw [hj1]
      have hd : decide ((j : Int) ≥ 0) = true := decide_eq_true (by omega)
      obtain ⟨q, hq⟩ : ∃ q, q = 8 * j := ⟨_, rfl⟩
      obtain ⟨y, hy⟩ : ∃ y, y = N / 256 ^ j := ⟨_, rfl⟩
      obtain ⟨b, hb⟩ : ∃ b, b = y % 256 := ⟨_, rfl⟩
      have m8 : (8 : Int) * (j : Int) = (q : Int) := by omega
      have hqs : q < 1000000 := by omega
      have hq64 : (q : Int) ≤ 64 := by omega
      have my : (N : Int) / 2 ^ q = (y : Int) := by rw [hy, pow_bytes, ← hq]; simp
      have mb : (y : Int) % 256 = (b : Int) := by omega
      have mw : IntKind.u8.wrap (y : Int) = (b : Int) := by rw [IntKind.wrap_u8]; exact mb
      have hb8 : b < 256 := by omega
      have HD : Hid (dn N 1 j = dn N 1 (j + 1) ++ [b]) := show _ = _ by rw [hb, hy]; exact dn_succ N 1 j (by omega)
      have HLn : Hid ((dn N 1 (j + 1)).length ≤ 8) := Nat.le_trans (dn_len N 1 (j + 1)) (by decide)
      have HJ : Hid (j + 1 ≤ 1) := hk
      have hj8 : j < 8 := by omega
      have wq := (wrapM q hqs).1
      have wq2 := (wrapM q hqs).2.1
      have wq3 := (wrapM q hqs).2.2.1
      have wq4 := (wrapM q hqs).2.2.2
      clear hb hy hq
      go_wp2_with (first
        | (at_builtin; refine wl_push (l := dn N 1 (j + 1)) (y := b) (v := .slice a n c) rfl rfl (by first | rfl | go_simp | simp [mb, mw]) hb8 rfl rfl rfl HR.out.2.1 (by have := HLn.out; omega) HR.out.2.2.size ?_; intro ad n2 cap w2 hn2 ho2 hk2; rw [← HD.out] at ho2))
      go_roundg j
      case measure => omega
      case rel => exact ⟨j, ad, n2, cap, by omega, rfl, rfl, by first | rfl | simp, by have h1 := hn2.out; have h2 := HR.out.2.1.form; obtain ⟨_, _, e⟩ := h2; simp only [Value.slice.injEq] at e; have h3 := HR.out.1; have := HJ.out; omega, ho2, HR.out.2.2.of_but hk2 (fun k e => (HR.out.2.1.lt e).1)⟩
set_option maxHeartbeats 4000000 in
theorem refNum_2 (N : Nat) (w : World) :
    Calls Tryd.prog 49 #[.int .u64 (N : Int), .int .i64 2] w fun e w' => ∃ a n c, e = .returned (.slice a n c) ∧ n = (be N 2).length ∧ OB w' w.heap.size (.slice a n c) (be N 2) ∧ Ext w w' := by
  go_enter Tryd.func49, Tryd.ntmps49
  go_wp2
  go_loopg [5, 6] 2 (fun gm x t wr => ∃ (k : Nat) (a : Option Addr) (n c : Nat), k ≤ 2 ∧ gm = k ∧ x = .slice a n c ∧ t = .int .i64 ((k : Int) - 1) ∧ Hid (n = 2 - k ∧ OB wr w.heap.size (.slice a n c) (dn N 2 k) ∧ Ext w wr))
  case atStart => exact ⟨2, none, 0, 0, by decide, rfl, rfl, rfl, rfl, OB.nil _ _, Ext.refl _⟩
  case round =>
    obtain ⟨k, a, n, c, hk, hgk, rfl, rfl, HR⟩ := hrel
    subst gk
    cases k with
    | zero =>
      have hd : decide ((((0 : Nat) : Int) - 1) ≥ 0) = false := rfl
      go_wp2
      go_ret
      refine ⟨_, _, _, rfl, by rw [HR.out.1, be_len], ?_, HR.out.2.2⟩
      have := HR.out.2.1
      rwa [dn_end] at this
    | succ j =>
      have hj1 : ((j + 1 : Nat) : Int) - 1 = (j : Int) := by omega
      rw [hj1]
      have hd : decide ((j : Int) ≥ 0) = true := decide_eq_true (by omega)
      obtain ⟨q, hq⟩ : ∃ q, q = 8 * j := ⟨_, rfl⟩
      obtain ⟨y, hy⟩ : ∃ y, y = N / 256 ^ j := ⟨_, rfl⟩
      obtain ⟨b, hb⟩ : ∃ b, b = y % 256 := ⟨_, rfl⟩
      have m8 : (8 : Int) * (j : Int) = (q : Int) := by omega
      have hqs : q < 1000000 := by omega
      have hq64 : (q : Int) ≤ 64 := by omega
      have my : (N : Int) / 2 ^ q = (y : Int) := by rw [hy, pow_bytes, ← hq]; simp
      have mb : (y : Int) % 256 = (b : Int) := by omega
      have mw : IntKind.u8.wrap (y : Int) = (b : Int) := by rw [IntKind.wrap_u8]; exact mb
      have hb8 : b < 256 := by omega
      have HD : Hid (dn N 2 j = dn N 2 (j + 1) ++ [b]) := show _ = _ by rw [hb, hy]; exact dn_succ N 2 j (by omega)
      have HLn : Hid ((dn N 2 (j + 1)).length ≤ 8) := Nat.le_trans (dn_len N 2 (j + 1)) (by decide)
      have HJ : Hid (j + 1 ≤ 2) := hk
      have hj8 : j < 8 := by omega
      have wq := (wrapM q hqs).1
      have wq2 := (wrapM q hqs).2.1
      have wq3 := (wrapM q hqs).2.2.1
      have wq4 := (wrapM q hqs).2.2.2
      clear hb hy hq
      go_wp2_with (first
        | (at_builtin; refine wl_push (l := dn N 2 (j + 1)) (y := b) (v := .slice a n c) rfl rfl (by first | rfl | go_simp | simp [mb, mw]) hb8 rfl rfl rfl HR.out.2.1 (by have := HLn.out; omega) HR.out.2.2.size ?_; intro ad n2 cap w2 hn2 ho2 hk2; rw [← HD.out] at ho2))
      go_roundg j
      case measure => omega
      case rel => exact ⟨j, ad, n2, cap, by omega, rfl, rfl, by first | rfl | simp, by have h1 := hn2.out; have h2 := HR.out.2.1.form; obtain ⟨_, _, e⟩ := h2; simp only [Value.slice.injEq] at e; have h3 := HR.out.1; have := HJ.out; omega, ho2, HR.out.2.2.of_but hk2 (fun k e => (HR.out.2.1.lt e).1)⟩
set_option maxHeartbeats 4000000 in
theorem refNum_4 (N : Nat) (w : World) :
    Calls Tryd.prog 49 #[.int .u64 (N : Int), .int .i64 4] w fun e w' => ∃ a n c, e = .returned (.slice a n c) ∧ n = (be N 4).length ∧ OB w' w.heap.size (.slice a n c) (be N 4) ∧ Ext w w' := by
  go_enter Tryd.func49, Tryd.ntmps49
  go_wp2
  go_loopg [5, 6] 4 (fun gm x t wr => ∃ (k : Nat) (a : Option Addr) (n c : Nat), k ≤ 4 ∧ gm = k ∧ x = .slice a n c ∧ t = .int .i64 ((k : Int) - 1) ∧ Hid (n = 4 - k ∧ OB wr w.heap.size (.slice a n c) (dn N 4 k) ∧ Ext w wr))
  case atStart => exact ⟨4, none, 0, 0, by decide, rfl, rfl, rfl, rfl, OB.nil _ _, Ext.refl _⟩
  case round =>
    obtain ⟨k, a, n, c, hk, hgk, rfl, rfl, HR⟩ := hrel
    subst gk
    cases k with
    | zero =>
      have hd : decide ((((0 : Nat) : Int) - 1) ≥ 0) = false := rfl
      go_wp2
      go_ret
      refine ⟨_, _, _, rfl, by rw [HR.out.1, be_len], ?_, HR.out.2.2⟩
      have := HR.out.2.1
      rwa [dn_end] at this
    | succ j =>
      have hj1 : ((j + 1 : Nat) : Int) - 1 = (j : Int) := by omega
      rw [hj1]
      have hd : decide ((j : Int) ≥ 0) = true := decide_eq_true (by omega)
      obtain ⟨q, hq⟩ : ∃ q, q = 8 * j := ⟨_, rfl⟩
      obtain ⟨y, hy⟩ : ∃ y, y = N / 256 ^ j := ⟨_, rfl⟩
      obtain ⟨b, hb⟩ : ∃ b, b = y % 256 := ⟨_, rfl⟩
      have m8 : (8 : Int) * (j : Int) = (q : Int) := by omega
      have hqs : q < 1000000 := by omega
      have hq64 : (q : Int) ≤ 64 := by omega
      have my : (N : Int) / 2 ^ q = (y : Int) := by rw [hy, pow_bytes, ← hq]; simp
      have mb : (y : Int) % 256 = (b : Int) := by omega
      have mw : IntKind.u8.wrap (y : Int) = (b : Int) := by rw [IntKind.wrap_u8]; exact mb
      have hb8 : b < 256 := by omega
      have HD : Hid (dn N 4 j = dn N 4 (j + 1) ++ [b]) := show _ = _ by rw [hb, hy]; exact dn_succ N 4 j (by omega)
      have HLn : Hid ((dn N 4 (j + 1)).length ≤ 8) := Nat.le_trans (dn_len N 4 (j + 1)) (by decide)
      have HJ : Hid (j + 1 ≤ 4) := hk
      have hj8 : j < 8 := by omega
      have wq := (wrapM q hqs).1
      have wq2 := (wrapM q hqs).2.1
      have wq3 := (wrapM q hqs).2.2.1
      have wq4 := (wrapM q hqs).2.2.2
      clear hb hy hq
      go_wp2_with (first
        | (at_builtin; refine wl_push (l := dn N 4 (j + 1)) (y := b) (v := .slice a n c) rfl rfl (by first | rfl | go_simp | simp [mb, mw]) hb8 rfl rfl rfl HR.out.2.1 (by have := HLn.out; omega) HR.out.2.2.size ?_; intro ad n2 cap w2 hn2 ho2 hk2; rw [← HD.out] at ho2))
      go_roundg j
      case measure => omega
      case rel => exact ⟨j, ad, n2, cap, by omega, rfl, rfl, by first | rfl | simp, by have h1 := hn2.out; have h2 := HR.out.2.1.form; obtain ⟨_, _, e⟩ := h2; simp only [Value.slice.injEq] at e; have h3 := HR.out.1; have := HJ.out; omega, ho2, HR.out.2.2.of_but hk2 (fun k e => (HR.out.2.1.lt e).1)⟩
set_option maxHeartbeats 4000000 in
theorem refNum_8 (N : Nat) (w : World) :
    Calls Tryd.prog 49 #[.int .u64 (N : Int), .int .i64 8] w fun e w' => ∃ a n c, e = .returned (.slice a n c) ∧ n = (be N 8).length ∧ OB w' w.heap.size (.slice a n c) (be N 8) ∧ Ext w w' := by
  go_enter Tryd.func49, Tryd.ntmps49
  go_wp2
  go_loopg [5, 6] 8 (fun gm x t wr => ∃ (k : Nat) (a : Option Addr) (n c : Nat), k ≤ 8 ∧ gm = k ∧ x = .slice a n c ∧ t = .int .i64 ((k : Int) - 1) ∧ Hid (n = 8 - k ∧ OB wr w.heap.size (.slice a n c) (dn N 8 k) ∧ Ext w wr))
  case atStart => exact ⟨8, none, 0, 0, by decide, rfl, rfl, rfl, rfl, OB.nil _ _, Ext.refl _⟩
  case round =>
    obtain ⟨k, a, n, c, hk, hgk, rfl, rfl, HR⟩ := hrel
    subst gk
    cases k with
    | zero =>
      have hd : decide ((((0 : Nat) : Int) - 1) ≥ 0) = false := rfl
      go_wp2
      go_ret
      refine ⟨_, _, _, rfl, by rw [HR.out.1, be_len], ?_, HR.out.2.2⟩
      have := HR.out.2.1
      rwa [dn_end] at this
    | succ j =>
      have hj1 : ((j + 1 : Nat) : Int) - 1 = (j : Int) := by omega
      rw [hj1]
      have hd : decide ((j : Int) ≥ 0) = true := decide_eq_true (by omega)
      obtain ⟨q, hq⟩ : ∃ q, q = 8 * j := ⟨_, rfl⟩
      obtain ⟨y, hy⟩ : ∃ y, y = N / 256 ^ j := ⟨_, rfl⟩
      obtain ⟨b, hb⟩ : ∃ b, b = y % 256 := ⟨_, rfl⟩
      have m8 : (8 : Int) * (j : Int) = (q : Int) := by omega
      have hqs : q < 1000000 := by omega
      have hq64 : (q : Int) ≤ 64 := by omega
      have my : (N : Int) / 2 ^ q = (y : Int) := by rw [hy, pow_bytes, ← hq]; simp
      have mb : (y : Int) % 256 = (b : Int) := by omega
      have mw : IntKind.u8.wrap (y : Int) = (b : Int) := by rw [IntKind.wrap_u8]; exact mb
      have hb8 : b < 256 := by omega
      have HD : Hid (dn N 8 j = dn N 8 (j + 1) ++ [b]) := show _ = _ by rw [hb, hy]; exact dn_succ N 8 j (by omega)
      have HLn : Hid ((dn N 8 (j + 1)).length ≤ 8) := Nat.le_trans (dn_len N 8 (j + 1)) (by decide)
      have HJ : Hid (j + 1 ≤ 8) := hk
      have hj8 : j < 8 := by omega
      have wq := (wrapM q hqs).1
      have wq2 := (wrapM q hqs).2.1
      have wq3 := (wrapM q hqs).2.2.1
      have wq4 := (wrapM q hqs).2.2.2
      clear hb hy hq
      go_wp2_with (first
        | (at_builtin; refine wl_push (l := dn N 8 (j + 1)) (y := b) (v := .slice a n c) rfl rfl (by first | rfl | go_simp | simp [mb, mw]) hb8 rfl rfl rfl HR.out.2.1 (by have := HLn.out; omega) HR.out.2.2.size ?_; intro ad n2 cap w2 hn2 ho2 hk2; rw [← HD.out] at ho2))
      go_roundg j
      case measure => omega
      case rel => exact ⟨j, ad, n2, cap, by omega, rfl, rfl, by first | rfl | simp, by have h1 := hn2.out; have h2 := HR.out.2.1.form; obtain ⟨_, _, e⟩ := h2; simp only [Value.slice.injEq] at e; have h3 := HR.out.1; have := HJ.out; omega, ho2, HR.out.2.2.of_but hk2 (fun k e => (HR.out.2.1.lt e).1)⟩
set_option maxHeartbeats 1000000 in
theorem refNum_any (N : Nat) (n : Int) (w : World) :
    Calls Tryd.prog 49 #[.int .u64 (N : Int), .int .i64 n] w fun e w' => ∃ a m c, e = .returned (.slice a m c) ∧ m = (numB N n).length ∧ OB w' w.heap.size (.slice a m c) (numB N n) ∧ Ext w w' := by
  cases hs : isSz n with
  | true =>
    rcases (isSz_iff n).1 hs with rfl | rfl | rfl | rfl
    · exact refNum_1 N w
    · exact refNum_2 N w
    · exact refNum_4 N w
    · exact refNum_8 N w
  | false =>
    have e : numB N n = [] := by unfold numB; rw [hs]; rfl
    rw [e]
    have hn : ¬ (n = 1 ∨ n = 2 ∨ n = 4 ∨ n = 8) := fun h => by rw [(isSz_iff n).2 h] at hs; cases hs
    have e1 : decide (n = 1) = false := decide_eq_false (by omega)
    have e2 : decide (n = 2) = false := decide_eq_false (by omega)
    have e3 : decide (n = 4) = false := decide_eq_false (by omega)
    have e4 : decide (n = 8) = false := decide_eq_false (by omega)
    have f1 : n ≠ 1 := by omega
    have f2 : n ≠ 2 := by omega
    have f3 : n ≠ 4 := by omega
    have f4 : n ≠ 8 := by omega
    have g1 : (n == 1) = false := beq_false_of_ne f1
    have g2 : (n == 2) = false := beq_false_of_ne f2
    have g3 : (n == 4) = false := beq_false_of_ne f3
    have g4 : (n == 8) = false := beq_false_of_ne f4
    have k1 : (n != 1) = true := by simp [f1]
    have k2 : (n != 2) = true := by simp [f2]
    have k3 : (n != 4) = true := by simp [f3]
    have k4 : (n != 8) = true := by simp [f4]
    clear hn hs e f1 f2 f3 f4
    go_enter Tryd.func49, Tryd.ntmps49
    go_wp2
    go_ret
    exact ⟨_, _, _, rfl, rfl, OB.nil _ _, Ext.refl _⟩
end Tlv
end Go.Proofs.YtfhoielfekeihaaDoor

/- The document's noughts; lists of things. No condition of its own. -/
namespace Go.Proofs.YtfhoielfekeihaaDoor
namespace Tlv
open Go Go.RowKit
set_option linter.unusedVariables false
set_option linter.unusedSimpArgs false
set_option maxRecDepth 100000


theorem rep_snoc (k : Nat) : List.replicate (k + 1) 0 = List.replicate k 0 ++ [0] := List.replicate_succ'
/-- A thing: its kind, its size, its number, its bytes. -/
structure Th where
  kind : Int
  size : Int
  n : Nat
  b : List Nat
def ThingsAt (w : World) (v : Value) (T : List Th) : Prop :=
  T.length ≤ maxLen ∧ ∃ a cap, v = .slice a T.length cap ∧ ∀ i t, T[i]? = some t → ∃ b off u, a = some ⟨b, off, none⟩ ∧ w.cell? ⟨b, off + i * 4, none⟩ = some (.int .i64 t.kind) ∧ w.cell? ⟨b, off + i * 4 + 1, none⟩ = some (.int .i64 t.size) ∧ w.cell? ⟨b, off + i * 4 + 2, none⟩ = some (.int .u64 (t.n : Int)) ∧ w.cell? ⟨b, off + i * 4 + 3, none⟩ = some u ∧ BytesAt w u t.b
theorem ThingsAt.ext {w w' : World} {v : Value} {T : List Th} (h : ThingsAt w v T) (he : Ext w w') : ThingsAt w' v T := by
  obtain ⟨h1, a, cap, rfl, hc⟩ := h
  refine ⟨h1, a, cap, rfl, fun i p hp => ?_⟩
  obtain ⟨b, off, u, e, h2, h3, h4, h5, h6⟩ := hc i p hp
  exact ⟨b, off, u, e, he.cell h2, he.cell h3, he.cell h4, he.cell h5, h6.ext he⟩
/-- A thing loaded. -/
theorem wl_load4 {w : World} {ops : Array Oper} {rest : List Oper} {o : Oper} {a : Act} {Q : Exit → Act → World → Prop} (hgd : o.guard = none) {t : TypeId} (hT : RowT Tryd.prog t 4) {x : Operand} {b off : Nat} {v0 v1 v2 v3 : Value} (ho : o.op = .load t x) (hx : a.eval x = .pointer (some ⟨b, off, none⟩)) (h0 : w.cell? ⟨b, off, none⟩ = some v0) (h1 : w.cell? ⟨b, off + 1, none⟩ = some v1) (h2 : w.cell? ⟨b, off + 2, none⟩ = some v2) (h3 : w.cell? ⟨b, off + 3, none⟩ = some v3)
    (h : wpList Tryd.prog ops Q rest (a.put o.dst (.agg #[v0, v1, v2, v3])) w) : wpList Tryd.prog ops Q (o :: rest) a w :=
  wpList_of_run hgd (exec_loadC hT ho hx [v0, v1, v2, v3] (fun j v hv => by
    match j with
    | 0 => simp at hv; subst hv; exact h0
    | 1 => simp at hv; subst hv; exact h1
    | 2 => simp at hv; subst hv; exact h2
    | 3 => simp at hv; subst hv; exact h3
    | j + 4 => simp at hv) rfl) h
theorem one_th (k s : Int) (n : Int) (u : Value) (hu : u.oneCell' = true) : ∀ v ∈ (#[Value.int .i64 k, .int .i64 s, .int .u64 n, u] : Array Value).toList, v.oneCell' = true := by
  intro v hv
  simp at hv
  rcases hv with rfl | rfl | rfl | rfl
  · rfl
  · rfl
  · rfl
  · exact hu
def bsum (T : List Th) : Nat := (T.map (fun t => t.b.length)).sum
theorem bsum_snoc (T : List Th) (t : Th) : bsum (T ++ [t]) = bsum T + t.b.length := by simp [bsum]
theorem take_th {L : List Th} {i : Nat} {p : Th} (h : L[i]? = some p) : L.take (i + 1) = L.take i ++ [p] := by
  have hi := (List.getElem?_eq_some_iff.1 h)
  rw [List.take_succ_eq_append_getElem hi.1, hi.2]

/-- What 'long' answers. -/
def longB (T : List Th) : Bool := !(decide (T.length ≤ 41) && decide (bsum T ≤ 3000))
theorem longB_true {T : List Th} (h : 41 < T.length ∨ 3000 < bsum T) : longB T = true := by
  unfold longB
  rcases h with h | h
  · rw [decide_eq_false (by omega)]; rfl
  · rw [decide_eq_false (by omega : ¬ bsum T ≤ 3000)]; simp
theorem longB_false {T : List Th} (h1 : T.length ≤ 41) (h2 : bsum T ≤ 3000) : longB T = false := by unfold longB; simp [h1, h2]
theorem longB_of {T : List Th} (h : longB T = false) : T.length ≤ 41 ∧ bsum T ≤ 3000 := by
  unfold longB at h; simpa using h
theorem bsum_take (T : List Th) (i : Nat) : bsum (T.take i) ≤ bsum T := by
  have e : bsum T = bsum (T.take i) + bsum (T.drop i) := by
    unfold bsum
    rw [← List.sum_append, ← List.map_append, List.take_append_drop]
  omega
def LongIs (w : World) (T : List Th) (e : Ending) (w' : World) : Prop := Ext w w' ∧ e = .returned (.bool (longB T))
end Tlv
end Go.Proofs.YtfhoielfekeihaaDoor

/- The document's reader. No condition of its own. -/
namespace Go.Proofs.YtfhoielfekeihaaDoor
namespace Tlv
open Go Go.RowKit
set_option linter.unusedVariables false
set_option linter.unusedSimpArgs false
set_option maxRecDepth 100000


theorem rowI : RowT Tryd.prog 76 3 := ⟨⟨_, Tryd.underlying76, rfl⟩, by kernel_rfl⟩
theorem zeroI : (Tryd.prog.info? 76).bind (·.zero) = some (.agg #[.slice none 0 0, .int .i64 0, .bool false]) := by kernel_rfl
/-- A reader by value. -/
def rv (bv : Value) (a : Nat) (b : Bool) : Array Value := #[bv, .int .i64 (a : Int), .bool b]
def RefV (v bv : Value) (B : List Nat) (s : Option Nat) : Prop := ∃ (a : Nat) (b : Bool), v = .agg #[bv, .int .i64 (a : Int), .bool b] ∧ a ≤ B.length ∧ s = (if b = true then none else some a)
theorem one_in (u : Value) (a : Int) (b : Bool) (hu : u.oneCell' = true) : ∀ v ∈ (#[u, .int .i64 a, .bool b] : Array Value).toList, v.oneCell' = true := by
  intro v hv
  simp at hv
  rcases hv with rfl | rfl | rfl
  · exact hu
  · rfl
  · rfl
theorem res_two {fn : Func} {p u : Tmp} {ty g t : Nat} {cs : Array Value} {fs : Array Field} {x : Value} (h : fn.results = #[.cell p ty, .tmp u]) (tmps : Array Value) (w : World) (hp : tmps.getD p undef = .pointer (some ⟨g, 0, none⟩)) (hx : tmps.getD u undef = x) (hg : Blk w g cs t) (hu : Tryd.prog.underlying ty = some (.struct fs)) (hi : (Tryd.prog.info? ty).map (·.size) = some cs.size) :
    (results fn tmps).run Tryd.prog w = .ok (.tuple #[.agg cs, x]) w := by
  rw [results_cell_tmp h, hp, hx]
  have := run_loadVar_row (P := Tryd.prog) w g t ty cs (0, 0) _ hg hu rfl hi
  simp [asAddr, this]

set_option maxHeartbeats 1000000 in
theorem refLeft_any {w : World} {v bv : Value} {B : List Nat} {s : Option Nat} (hv : RefV v bv B s) (hb : BytesAt w bv B) (hB : B.length ≤ 1000000) :
    Calls Tryd.prog 58 #[v] w fun e w' => e = .returned (.int .i64 (leftS B s : Nat)) ∧ Ext w w' := by
  obtain ⟨ba, bc, rfl, _, _⟩ := hb.form
  rename_i z1 z2
  clear z1 z2 hb
  obtain ⟨a, b, rfl, ha, rfl⟩ := hv
  cases b with
  | true =>
    go_enter Tryd.func58, Tryd.ntmps58
    go_wp2_with (first
      | (refine wl_box (C := #[.slice ba B.length bc, .int .i64 (a : Int), .bool true]) rfl rfl rfl ?_; intro w1 hb1 he1 hx; clear hx; have c0 := hb1.cell 0; have c1 := hb1.cell 1; have c2 := hb1.cell 2; clear hb1))
    go_ret
    exact ⟨rfl, he1⟩
  | false =>
    have hsub : IntKind.i64.wrap ((B.length : Int) - (a : Int)) = ((B.length - a : Nat) : Int) := by rw [IntKind.wrap_i64]; omega
    have hsub2 : (B.length : Int) - (a : Int) = ((B.length - a : Nat) : Int) := by omega
    have HE : Hid (leftS B (if false = true then none else some a) = B.length - a) := rfl
    go_enter Tryd.func58, Tryd.ntmps58
    go_wp2_with (first
      | (refine wl_box (C := #[.slice ba B.length bc, .int .i64 (a : Int), .bool false]) rfl rfl rfl ?_; intro w1 hb1 he1 hx; clear hx; have c0 := hb1.cell 0; have c1 := hb1.cell 1; have c2 := hb1.cell 2; clear hb1))
    go_ret
    exact ⟨ret_int rfl, he1⟩
/-- What Take leaves. -/
def TakeIs (w : World) (bv : Value) (B : List Nat) (r : Option Nat × List Nat) (e : Ending) (w' : World) : Prop :=
  ∃ v' a n c, e = .returned (.tuple #[v', .slice a n c]) ∧ RefV v' bv B r.1 ∧ n = r.2.length ∧ OB w' w.heap.size (.slice a n c) r.2 ∧ Ext w w'

set_option maxHeartbeats 4000000 in
theorem refTake_any {w : World} {v bv : Value} {B : List Nat} {s : Option Nat} (hv : RefV v bv B s) (hb : BytesAt w bv B) (hB : B.length ≤ 1000000) (n : Int) :
    Calls Tryd.prog 57 #[v, .int .i64 n] w (TakeIs w bv B (takeS B s n)) := by
  obtain ⟨ba, bc, rfl, hbc, _⟩ := hb.form
  rename_i z2
  have HBC : Hid (B.length ≤ bc ∧ bc ≤ maxLen) := hbc
  have HB : Hid (BytesAt w (.slice ba B.length bc) B) := hb
  have HL : Hid (B.length ≤ 1000000) := hB
  clear z2 hb hbc
  obtain ⟨a, b, rfl, ha, rfl⟩ := hv
  cases b with
  | true =>
    rw [show takeS B (if true = true then none else some a) n = (none, []) from rfl]
    go_enter Tryd.func57, Tryd.ntmps57
    go_wp2_with (first
      | (refine wl_box (C := #[.slice ba B.length bc, .int .i64 (a : Int), .bool true]) rfl rfl rfl ?_; intro w1 hb1 he1 hx; clear hx)
      | (refine wl_alloc rfl rfl zeroI ?_; intro w2 hb2 he2 hx; clear hx; have hb1' := hb1.ext he2; have c0 := hb1'.cell 0; have c1 := hb1'.cell 1; have c2 := hb1'.cell 2)
      | (refine wl_set (v := .bool true) rfl one4 rfl rfl rfl rfl rfl hb1' (by simp) ?_; intro w4 hb4 hk4 hx; clear hx)
      | (have q := hk4; clear q; refine wl_load rfl rowI rfl rfl hb4 rfl ?_)
      | (refine wl_store (D := #[.slice ba B.length bc, .int .i64 (a : Int), .bool true]) rfl rowI rfl rfl rfl (hb2.but hk4 (show ¬ _ = _ by have := hb1.lt; omega)) rfl rfl (one_in _ _ _ rfl) ?_; intro w5 hb5 hk5 hx; clear hx))
    refine bodyPost_ret (res_two (fn := Tryd.f57) (p := 4) (u := 5) rfl _ _ rfl rfl hb5 Tryd.underlying76 (by kernel_rfl)) rfl ?_
    exact ⟨_, none, 0, 0, rfl, ⟨a, true, rfl, ha, rfl⟩, rfl, OB.nil _ _, ((he1.trans he2).of_but hk4 (fun k e => by subst e; exact Nat.le_refl _)).of_but hk5 (fun k e => by subst e; exact he1.size)⟩
  | false =>
  rw [show (if false = true then (none : Option Nat) else some a) = some a from rfl]
  by_cases h0 : n < 0
  · have hd : decide (n < 0) = true := decide_eq_true h0
    rw [takeS_no (by omega)]
    go_enter Tryd.func57, Tryd.ntmps57
    go_wp2_with (first
      | (refine wl_box (C := #[.slice ba B.length bc, .int .i64 (a : Int), .bool false]) rfl rfl rfl ?_; intro w1 hb1 he1 hx; clear hx)
      | (refine wl_alloc rfl rfl zeroI ?_; intro w2 hb2 he2 hx; clear hx; have hb1' := hb1.ext he2; have c0 := hb1'.cell 0; have c1 := hb1'.cell 1; have c2 := hb1'.cell 2)
      | (refine wl_set (v := .bool true) rfl one4 rfl rfl rfl rfl rfl hb1' (by simp) ?_; intro w4 hb4 hk4 hx; clear hx)
      | (have q := hk4; clear q; refine wl_load rfl rowI rfl rfl hb4 rfl ?_)
      | (refine wl_store (D := #[.slice ba B.length bc, .int .i64 (a : Int), .bool true]) rfl rowI rfl rfl rfl (hb2.but hk4 (show ¬ _ = _ by have := hb1.lt; omega)) rfl rfl (one_in _ _ _ rfl) ?_; intro w5 hb5 hk5 hx; clear hx))
    refine bodyPost_ret (res_two (fn := Tryd.f57) (p := 4) (u := 5) rfl _ _ rfl rfl hb5 Tryd.underlying76 (by kernel_rfl)) rfl ?_
    exact ⟨_, none, 0, 0, rfl, ⟨a, true, rfl, ha, rfl⟩, rfl, OB.nil _ _, ((he1.trans he2).of_but hk4 (fun k e => by subst e; exact Nat.le_refl _)).of_but hk5 (fun k e => by subst e; exact he1.size)⟩
  have hd : decide (n < 0) = false := decide_eq_false h0
  obtain ⟨L, hLf⟩ : ∃ L, leftS B (if false = true then none else some a) = L := ⟨_, rfl⟩
  have hLv : L = B.length - a := hLf.symm
  by_cases h1 : (L : Int) < n
  · have hd1 : decide (n > (L : Int)) = true := decide_eq_true h1
    rw [takeS_no (by omega)]
    have HLv : Hid (L = B.length - a) := hLv
    clear hLv
    go_enter Tryd.func57, Tryd.ntmps57
    go_wp2_with (first
      | (refine wl_box (C := #[.slice ba B.length bc, .int .i64 (a : Int), .bool false]) rfl rfl rfl ?_; intro w1 hb1 he1 hx; clear hx)
      | (refine wl_alloc rfl rfl zeroI ?_; intro w2 hb2 he2 hx; clear hx; have hb1' := hb1.ext he2; have c0 := hb1'.cell 0; have c1 := hb1'.cell 1; have c2 := hb1'.cell 2)
      | (go_at_call 58; refine (refLeft_any ⟨a, false, rfl, ha, rfl⟩ (HB.out.ext (he1.trans he2)) HL.out).mono ?_; rintro e w3 ⟨rfl, he3⟩; rw [hLf]; have d0 := (hb1'.ext he3).cell 0; have d1 := (hb1'.ext he3).cell 1; have d2 := (hb1'.ext he3).cell 2)
      | (refine wl_set (v := .bool true) rfl one4 rfl rfl rfl rfl rfl (hb1'.ext he3) (by simp) ?_; intro w4 hb4 hk4 hx; clear hx)
      | (have q := hk4; clear q; refine wl_load rfl rowI rfl rfl hb4 rfl ?_)
      | (refine wl_store (D := #[.slice ba B.length bc, .int .i64 (a : Int), .bool true]) rfl rowI rfl rfl rfl ((hb2.ext he3).but hk4 (show ¬ _ = _ by have := hb1.lt; omega)) rfl rfl (one_in _ _ _ rfl) ?_; intro w5 hb5 hk5 hx; clear hx))
    refine bodyPost_ret (res_two (fn := Tryd.f57) (p := 4) (u := 5) rfl _ _ rfl rfl hb5 Tryd.underlying76 (by kernel_rfl)) rfl ?_
    exact ⟨_, none, 0, 0, rfl, ⟨a, true, rfl, ha, rfl⟩, rfl, OB.nil _ _, (((he1.trans he2).trans he3).of_but hk4 (fun k e => by subst e; exact Nat.le_refl _)).of_but hk5 (fun k e => by subst e; exact he1.size)⟩
  have hd1 : decide (n > (L : Int)) = false := decide_eq_false h1
  obtain ⟨m, rfl⟩ : ∃ m : Nat, n = (m : Int) := ⟨n.toNat, by omega⟩
  rw [takeS_yes (by omega) (by omega), Int.toNat_natCast]
  obtain ⟨a2, ha2⟩ : ∃ a2, a2 = a + m := ⟨_, rfl⟩
  have hadd3 : wrap64 (a2 : Int) = (a2 : Int) := by unfold wrap64; omega
  have hadd2 : (a : Int) + (m : Int) = (a2 : Int) := by omega
  have ha12 : a ≤ a2 := by omega
  have ha2B : a2 ≤ B.length := by omega
  have ha2c : a2 ≤ bc := by have := HBC.out; omega
  have HA2 : Hid (a2 = a + m) := ha2
  have hmL : m ≤ L := by omega
  have hmL2 : (m : Int) ≤ (L : Int) := by omega
  have hmL3 : decide (L < m) = false := decide_eq_false (by omega)
  rw [← ha2]
  clear hLv ha2 h0 h1
  obtain ⟨sa, hsf, hsb⟩ := sliced_form ba a a2 bc
  have HSF : Hid (sliced ba a a2 bc 1 = .slice sa (a2 - a) (bc - a)) := hsf
  clear hsf hsb
  go_enter Tryd.func57, Tryd.ntmps57
  go_wp2_with (first
    | (refine wl_box (C := #[.slice ba B.length bc, .int .i64 (a : Int), .bool false]) rfl rfl rfl ?_; intro w1 hb1 he1 hx; clear hx)
    | (refine wl_alloc rfl rfl zeroI ?_; intro w2 hb2 he2 hx; clear hx; have hb1' := hb1.ext he2; have c0 := hb1'.cell 0; have c1 := hb1'.cell 1; have c2 := hb1'.cell 2)
    | (go_at_call 58; refine (refLeft_any ⟨a, false, rfl, ha, rfl⟩ (HB.out.ext (he1.trans he2)) HL.out).mono ?_; rintro e w3 ⟨rfl, he3⟩; rw [hLf]; have HB3 : Hid (Blk (w3.alloc (.cells #[] 5)) w.heap.size #[.slice ba B.length bc, .int .i64 (a : Int), .bool false] 76) := (hb1'.ext he3).ext (Ext.alloc _ _); have d0 := HB3.out.cell 0; have d1 := HB3.out.cell 1)
    | (refine wpList_of_run rfl (exec_slice_lh byteT rfl _ ba B.length bc a a2 .i64 .i64 rfl rfl (by first | rfl | go_simp) ha12 ha2c) ?_; rw [HSF.out])
    | (at_builtin; refine wl_app (l := []) (m := (B.drop a).take m) (v := .slice (some ⟨w3.heap.size, 0, none⟩) 0 0) (u := .slice sa (a2 - a) (bc - a)) (base := w3.heap.size) rfl rfl rfl rfl (OB.lit0 w3 _ _ rfl (Nat.le_refl _)) (by have := (HB.out.ext ((he1.trans he2).trans (he3.trans (Ext.alloc w3 (.cells #[] 5))))).sliced a a2 ha12 ha2B; rw [HSF.out, List.drop_take, show a2 - a = m by have := HA2.out; omega] at this; rwa [show a2 - a = m by have := HA2.out; omega]) (by have := HL.out; simp; omega) (by simp) ?_; intro oa on oc w4 hn4 ho4 hk4 hg4; rw [List.nil_append] at ho4; have HE4 : Hid (Ext w3 w4) := (Ext.alloc _ _).of_but hk4 (fun k e => by cases e; exact Nat.le_refl _); have hb4 := (hb1'.ext he3).ext HE4.out; have f1 := hb4.cell 1; have HB4 : Hid (Blk w4 w.heap.size #[.slice ba B.length bc, .int .i64 (a : Int), .bool false] 76) := hb4; clear hb4)
    | (refine wl_set (v := .int .i64 (a2 : Int)) rfl one3 rfl rfl (by first | rfl | go_simp | simp [go_sem, hadd2, hadd3]) rfl rfl HB4.out (by simp) ?_; intro w5 hb5 hk5 hx; clear hx)
    | (have q := hk5; clear q; refine wl_load rfl rowI rfl rfl hb5 rfl ?_)
    | (refine wl_store (D := #[.slice ba B.length bc, .int .i64 (a2 : Int), .bool false]) rfl rowI rfl rfl rfl (((hb2.ext he3).ext HE4.out).but hk5 (show ¬ _ = _ by have := hb1.lt; omega)) rfl rfl (one_in _ _ _ rfl) ?_; intro w6 hb6 hk6 hx; clear hx))
  refine bodyPost_ret (res_two (fn := Tryd.f57) (p := 4) (u := 5) rfl _ _ rfl rfl hb6 Tryd.underlying76 (by kernel_rfl)) rfl ?_
  have hw13 : w.heap.size ≤ w3.heap.size := Nat.le_trans he1.size (Nat.le_trans he2.size he3.size)
  have o5 := ho4.but hk5 (fun k e e2 => by have := (ho4.lt e).1; have := hb1.lt; have := he2.size; have := he3.size; omega)
  have o6 := o5.but hk6 (fun k e e2 => by have := (ho4.lt e).1; have := hb2.lt; have := he3.size; omega)
  exact ⟨_, oa, on, oc, rfl, ⟨a2, false, rfl, ha2B, rfl⟩, by rw [hn4.out]; simp, o6.base hw13, ((((he1.trans he2).trans he3).trans HE4.out).of_but hk5 (fun k e => by subst e; exact Nat.le_refl _)).of_but hk6 (fun k e => by subst e; exact he1.size)⟩
end Tlv
end Go.Proofs.YtfhoielfekeihaaDoor

/- Numbers that the document's reader reads. No condition of its own. -/
namespace Go.Proofs.YtfhoielfekeihaaDoor
namespace Tlv
open Go Go.RowKit
set_option linter.unusedVariables false
set_option linter.unusedSimpArgs false
set_option maxRecDepth 100000


theorem mul_byte (x b : Nat) (hx : x * 256 < 18446744073709551616) (hb : b < 256) : 256 * x + b < 18446744073709551616 := by omega
/-- What ReadNum leaves. -/
def NumIs (w : World) (bv : Value) (B : List Nat) (r : Option Nat × Nat) (e : Ending) (w' : World) : Prop :=
  ∃ v', e = .returned (.tuple #[v', .int .u64 (r.2 : Nat)]) ∧ RefV v' bv B r.1 ∧ Ext w w'

set_option maxHeartbeats 4000000 in
theorem refReadNum_any {w : World} {v bv : Value} {B : List Nat} {s : Option Nat} (hv : RefV v bv B s) (hb : BytesAt w bv B) (hB : B.length ≤ 1000000) (n : Int) :
    Calls Tryd.prog 56 #[v, .int .i64 n] w (NumIs w bv B (numS B s n)) := by
  have HT : Hid (∀ (x : Value) (w' : World), x = v → Ext w w' → Calls Tryd.prog 57 #[x, .int .i64 n] w' (TakeIs w' bv B (takeS B s n))) := fun x w' hx he => by subst hx; exact refTake_any hv (hb.ext he) hB n
  obtain ⟨a0, b0, hv0, ha0, hs0⟩ := hv
  have HA : Hid (AllB B) := hb.1
  obtain ⟨ba, bc, rfl, _, _⟩ := hb.form
  rename_i z1 z2
  clear z1 z2
  have hbv1 : (Value.slice ba B.length bc).oneCell' = true := rfl
  clear hb
  subst hv0
  cases hs : isSz n with
  | false =>
    have e : numS B s n = (none, 0) := by unfold numS; rw [hs]; rfl
    have hlen : (numB 0 n).length = 0 := (numB_nil 0 n).2 hs
    rw [e]
    clear e HT hs0
    go_enter Tryd.func56, Tryd.ntmps56
    go_wp2_with (first
      | (refine wl_box (C := #[.slice ba B.length bc, .int .i64 (a0 : Int), .bool b0]) rfl rfl rfl ?_; intro w1 hb1 he1 hx; clear hx)
      | (refine wl_alloc rfl rfl zeroI ?_; intro w2 hb2 he2 hx; clear hx)
      | (go_at_call 49; refine (refNum_any 0 n _).mono ?_; rintro e w3 ⟨na, nn, nc, rfl, hnn, ho3, he3⟩; rw [hlen] at hnn; subst hnn)
      | (refine wl_set (v := .bool true) rfl one4 rfl rfl rfl rfl rfl ((hb1.ext he2).ext he3) (by simp) ?_; intro w4 hb4 hk4 hx; clear hx)
      | (have q := hk4; clear q; refine wl_load rfl rowI rfl rfl hb4 rfl ?_)
      | (refine wl_store (D := #[.slice ba B.length bc, .int .i64 (a0 : Int), .bool true]) rfl rowI rfl rfl rfl ((hb2.ext he3).but hk4 (show ¬ _ = _ by have := hb1.lt; omega)) rfl rfl (one_in _ _ _ hbv1) ?_; intro w5 hb5 hk5 hx; clear hx))
    refine bodyPost_ret (res_two (fn := Tryd.f56) (p := 4) (u := 5) rfl _ _ rfl rfl hb5 Tryd.underlying76 (by kernel_rfl)) rfl ?_
    exact ⟨_, rfl, ⟨a0, true, rfl, ha0, rfl⟩, (((he1.trans he2).trans he3).of_but hk4 (fun k e => by subst e; exact Nat.le_refl _)).of_but hk5 (fun k e => by subst e; exact he1.size)⟩
  | true =>
    have e : numS B s n = ((takeS B s n).1, val (takeS B s n).2) := by unfold numS; rw [hs]; rfl
    have hlen : (numB 0 n).length ≠ 0 := fun h => by rw [(numB_nil 0 n).1 h] at hs; cases hs
    rw [e]
    have HR : Hid (AllB (takeS B s n).2 ∧ (takeS B s n).2.length ≤ 8) := ⟨takeS_all HA.out s n, takeS_8 (by rcases (isSz_iff n).1 hs with e | e | e | e <;> omega)⟩
    clear e hs0 HA
    obtain ⟨q0, hq0⟩ : ∃ q0, q0 = (numB 0 n).length := ⟨_, rfl⟩
    have hq1 : q0 ≠ 0 := by rw [hq0]; exact hlen
    have HQ0 : Hid (q0 = (numB 0 n).length) := hq0
    have hq2 : ((q0 : Int) == 0) = false := beq_false_of_ne (by omega)
    have hq3 : decide ((q0 : Int) = 0) = false := decide_eq_false (by omega)
    have hq4 : decide (q0 = 0) = false := decide_eq_false hq1
    clear hlen hq0
    generalize takeS B s n = r at *
    go_enter Tryd.func56, Tryd.ntmps56
    go_wp2_with (first
      | (refine wl_box (C := #[.slice ba B.length bc, .int .i64 (a0 : Int), .bool b0]) rfl rfl rfl ?_; intro w1 hb1 he1 hx; clear hx)
      | (refine wl_alloc rfl rfl zeroI ?_; intro w2 hb2 he2 hx; clear hx)
      | (go_at_call 49; refine (refNum_any 0 n _).mono ?_; rintro e w3 ⟨na, nn, nc, rfl, hnn, ho3, he3⟩; rw [← HQ0.out] at hnn; subst hnn)
      | (refine wl_load rfl rowI rfl rfl ((hb1.ext he2).ext he3) rfl ?_)
      | (go_at_call 57; refine (HT.out _ _ rfl ((he1.trans he2).trans he3)).mono ?_; rintro e w4 ⟨v4, oa, on, oc, rfl, ⟨a4, b4, rfl, ha4, hs4⟩, hon, ho4, he4⟩; have HN : Hid (on = r.2.length ∧ r.1 = (if b4 = true then none else some a4)) := ⟨hon, hs4⟩; clear hon hs4)
      | (refine wl_store (D := #[.slice ba B.length bc, .int .i64 (a4 : Int), .bool b4]) rfl rowI rfl rfl rfl (((hb1.ext he2).ext he3).ext he4) rfl rfl (one_in _ _ _ hbv1) ?_; intro w5 hb5 hk5 hx; clear hx))
    have HW : Hid (Blk w5 w.heap.size #[.slice ba B.length bc, .int .i64 (a4 : Int), .bool b4] 76 ∧ Blk w5 w1.heap.size #[.slice none 0 0, .int .i64 0, .bool false] 76 ∧ Ext w w5 ∧ w.heap.size ≤ w1.heap.size ∧ w.heap.size < w1.heap.size ∧ BytesAt w5 (.slice oa on oc) r.2) := ⟨hb5, ((hb2.ext he3).ext he4).but hk5 (show ¬ _ = _ by have := hb1.lt; omega), (((he1.trans he2).trans he3).trans he4).of_but hk5 (fun k e => by subst e; exact Nat.le_refl _), he1.size, hb1.lt, (ho4.but hk5 (fun k e e2 => by have := (ho4.lt e).1; have := hb1.lt; have := he2.size; have := he3.size; omega)).bytes⟩
    have hsn8 : on ≤ 8 := by rw [HN.out.1]; exact HR.out.2
    clear hb1 he1 hb2 he2 ho3 he3 ho4 he4 hb5 hk5
    obtain ⟨_, _, e3, _, hcell⟩ := HW.out.2.2.2.2.2.form
    have HL : Hid (∀ j, j < on → ∃ b off, oa = some ⟨b, off, none⟩ ∧ w5.cell? ⟨b, off + j, none⟩ = some (.int .u8 (r.2.getD j 0 : Nat))) := fun j hj => by
      cases e3
      exact hcell j (by rw [← HN.out.1]; exact hj)
    clear e3 hcell
    go_loopg [7, 8] on (fun gm x t wr => ∃ k : Nat, k ≤ on ∧ gm = on - k ∧ x = .int .u64 (val (r.2.take k) : Nat) ∧ t = .int .i64 (k : Int) ∧ wr = w5)
    case atStart => exact ⟨0, Nat.zero_le _, rfl, rfl, rfl, rfl⟩
    case round =>
      obtain ⟨k, hk, rfl, rfl, rfl, hw⟩ := hrel
      subst wr
      by_cases hlt : k < on
      · have hd : decide ((k : Int) < (on : Int)) = true := decide_eq_true (by omega)
        obtain ⟨b, off, rfl, hc⟩ := HL.out k hlt
        have hkr : k < r.2.length := by rw [← HN.out.1]; exact hlt
        have HV : Hid (val (r.2.take (k + 1)) = 256 * val (r.2.take k) + r.2.getD k 0) := show _ = _ by rw [take_next r.2 0 k hkr, val_snoc]
        have hk8 : k < 8 := by omega
        have hx := val_take HR.out.1 HR.out.2 hkr
        have hb8 := HR.out.1.getD k
        generalize r.2.getD k 0 = b8 at *
        generalize val (r.2.take k) = x at *
        obtain ⟨q, hq⟩ : ∃ q, q = 256 * x + b8 := ⟨_, rfl⟩
        obtain ⟨p, hp⟩ : ∃ p, p = x * 256 := ⟨_, rfl⟩
        have hq64 : q < 18446744073709551616 := by rw [hq]; exact mul_byte x b8 hx hb8
        have hw0 : (256 : Int) * (x : Int) = (p : Int) := by omega
        have hw4 : (p : Int) + (b8 : Int) = (q : Int) := by omega
        have hw1 : IntKind.u64.wrap (p : Int) = (p : Int) := by rw [IntKind.wrap_u64]; exact Int.emod_eq_of_lt (by omega) (by omega)
        have hw2 : (p : Int) % 18446744073709551616 = (p : Int) := Int.emod_eq_of_lt (by omega) (by omega)
        have hw5 : IntKind.u64.wrap (q : Int) = (q : Int) := by rw [IntKind.wrap_u64]; exact Int.emod_eq_of_lt (by omega) (by omega)
        have hw6 : (q : Int) % 18446744073709551616 = (q : Int) := Int.emod_eq_of_lt (by omega) (by omega)
        rw [← hq] at HV
        clear hp hq hx hkr hq64
        go_wp2
        go_roundg (on - (k + 1))
        case measure => omega
        case rel => exact ⟨k + 1, by omega, rfl, by rw [HV.out], by simp, rfl⟩
      · have hd : decide ((k : Int) < (on : Int)) = false := decide_eq_false (by omega)
        obtain rfl : k = on := by omega
        have HT2 : Hid (r.2.take k = r.2) := List.take_of_length_le (by rw [HN.out.1]; exact Nat.le_refl _)
        rw [HT2.out]
        go_wp2_with (first
          | (refine wl_load rfl rowI rfl rfl HW.out.1 rfl ?_)
          | (refine wl_store (D := #[.slice ba B.length bc, .int .i64 (a4 : Int), .bool b4]) rfl rowI rfl rfl rfl HW.out.2.1 rfl rfl (one_in _ _ _ hbv1) ?_; intro w6 hb6 hk6 hx; clear hx))
        refine bodyPost_ret (res_two (fn := Tryd.f56) (p := 4) (u := 5) rfl _ _ rfl rfl hb6 Tryd.underlying76 (by kernel_rfl)) rfl ?_
        exact ⟨_, rfl, ⟨a4, b4, rfl, ha4, HN.out.2⟩, HW.out.2.2.1.of_but hk6 (fun k e => by subst e; exact HW.out.2.2.2.1)⟩
end Tlv
end Go.Proofs.YtfhoielfekeihaaDoor

/- Noughts that the document's reader passes over, and its end. No condition of its own. -/
namespace Go.Proofs.YtfhoielfekeihaaDoor
namespace Tlv
open Go Go.RowKit
set_option linter.unusedVariables false
set_option linter.unusedSimpArgs false
set_option maxRecDepth 100000


theorem numS1_yes {B : List Nat} {a : Nat} (h : a < B.length) : numS B (some a) 1 = (some (a + 1), B.getD a 0) := by
  unfold numS
  rw [if_pos (by decide), takeS_yes (by decide) (by omega), drop_next h]
  show (some (a + 1), val [B.getD a 0]) = _
  simp [val]
theorem numS1_no {B : List Nat} {a : Nat} (h : B.length ≤ a) : numS B (some a) 1 = (none, 0) := by
  unfold numS
  rw [if_pos (by decide), takeS_no (by omega)]
  rfl
set_option maxHeartbeats 1000000 in
theorem refEnd_any {w : World} {v bv : Value} {B : List Nat} {s : Option Nat} (hv : RefV v bv B s) (hb : BytesAt w bv B) (hB : B.length ≤ 1000000) :
    Calls Tryd.prog 36 #[v] w fun e w' => e = .returned (.bool (endS B s)) ∧ Ext w w' := by
  have HX : Hid (∀ (x : Value) (w' : World), x = v → Ext w w' → Calls Tryd.prog 58 #[x] w' fun e w'' => e = .returned (.int .i64 (leftS B s : Nat)) ∧ Ext w' w'') := fun x w' hx he => by subst hx; exact refLeft_any hv (hb.ext he) hB
  obtain ⟨ba, bc, rfl, _, _⟩ := hb.form
  rename_i z1 z2
  clear z1 z2 hb
  obtain ⟨a, b, rfl, ha, rfl⟩ := hv
  cases b with
  | true =>
    clear HX
    go_enter Tryd.func36, Tryd.ntmps36
    go_wp2_with (first
      | (refine wl_box (C := #[.slice ba B.length bc, .int .i64 (a : Int), .bool true]) rfl rfl rfl ?_; intro w1 hb1 he1 hx; clear hx; have c0 := hb1.cell 0; have c1 := hb1.cell 1; have c2 := hb1.cell 2; clear hb1))
    go_ret
    exact ⟨rfl, he1⟩
  | false =>
    have he : endS B (if false = true then none else some a) = (leftS B (if false = true then none else some a) == 0) := rfl
    rw [he]
    clear he
    generalize leftS B (if false = true then none else some a) = L at *
    by_cases hL : L = 0
    · subst hL
      go_enter Tryd.func36, Tryd.ntmps36
      go_wp2_with (first
        | (refine wl_box (C := #[.slice ba B.length bc, .int .i64 (a : Int), .bool false]) rfl rfl rfl ?_; intro w1 hb1 he1 hx; clear hx; have c0 := hb1.cell 0; have c1 := hb1.cell 1; have c2 := hb1.cell 2; clear hb1)
        | (go_at_call 58; refine (HX.out _ _ rfl he1).mono ?_; rintro e w2 ⟨rfl, he2⟩))
      go_ret
      exact ⟨rfl, he1.trans he2⟩
    · have hL2 : ((L : Int) == 0) = false := beq_false_of_ne (by omega)
      have hL3 : decide ((L : Int) = 0) = false := decide_eq_false (by omega)
      have HL : Hid ((L == 0) = false) := beq_false_of_ne hL
      go_enter Tryd.func36, Tryd.ntmps36
      go_wp2_with (first
        | (refine wl_box (C := #[.slice ba B.length bc, .int .i64 (a : Int), .bool false]) rfl rfl rfl ?_; intro w1 hb1 he1 hx; clear hx; have c0 := hb1.cell 0; have c1 := hb1.cell 1; have c2 := hb1.cell 2; clear hb1)
        | (go_at_call 58; refine (HX.out _ _ rfl he1).mono ?_; rintro e w2 ⟨rfl, he2⟩))
      go_ret
      exact ⟨by rw [HL.out]; first | rfl | simp [hL], he1.trans he2⟩
end Tlv
end Go.Proofs.YtfhoielfekeihaaDoor

/- The document's own turn and step: what these functions answer. No condition of its own. -/
namespace Go.Proofs.YtfhoielfekeihaaDoor
open Go Go.RowKit
set_option linter.unusedVariables false
set_option linter.unusedSimpArgs false
set_option maxRecDepth 100000

theorem turn_2 (x : Nat) (w : World) (h : x < 4294967296) :
    Calls Tryd.prog 73 #[.int .u32 (x : Int), .int .u64 2] w fun e w' => e = .returned (.int .u32 (Sha.rot x 2 : Nat)) ∧ w' = w := by
  have hl := Sha.rot_lt h (n := 2) (by decide)
  have he : Sha.rot x 2 = x / 4 + x * 1073741824 % 4294967296 := rfl
  go_enter Tryd.func73, Tryd.ntmps73
  go_wp2
  go_ret
  refine ⟨ret_int ?_, rfl⟩
  rw [he] at hl ⊢
  omega

theorem turn_6 (x : Nat) (w : World) (h : x < 4294967296) :
    Calls Tryd.prog 73 #[.int .u32 (x : Int), .int .u64 6] w fun e w' => e = .returned (.int .u32 (Sha.rot x 6 : Nat)) ∧ w' = w := by
  have hl := Sha.rot_lt h (n := 6) (by decide)
  have he : Sha.rot x 6 = x / 64 + x * 67108864 % 4294967296 := rfl
  go_enter Tryd.func73, Tryd.ntmps73
  go_wp2
  go_ret
  refine ⟨ret_int ?_, rfl⟩
  rw [he] at hl ⊢
  omega

theorem turn_7 (x : Nat) (w : World) (h : x < 4294967296) :
    Calls Tryd.prog 73 #[.int .u32 (x : Int), .int .u64 7] w fun e w' => e = .returned (.int .u32 (Sha.rot x 7 : Nat)) ∧ w' = w := by
  have hl := Sha.rot_lt h (n := 7) (by decide)
  have he : Sha.rot x 7 = x / 128 + x * 33554432 % 4294967296 := rfl
  go_enter Tryd.func73, Tryd.ntmps73
  go_wp2
  go_ret
  refine ⟨ret_int ?_, rfl⟩
  rw [he] at hl ⊢
  omega

theorem turn_11 (x : Nat) (w : World) (h : x < 4294967296) :
    Calls Tryd.prog 73 #[.int .u32 (x : Int), .int .u64 11] w fun e w' => e = .returned (.int .u32 (Sha.rot x 11 : Nat)) ∧ w' = w := by
  have hl := Sha.rot_lt h (n := 11) (by decide)
  have he : Sha.rot x 11 = x / 2048 + x * 2097152 % 4294967296 := rfl
  go_enter Tryd.func73, Tryd.ntmps73
  go_wp2
  go_ret
  refine ⟨ret_int ?_, rfl⟩
  rw [he] at hl ⊢
  omega

theorem turn_13 (x : Nat) (w : World) (h : x < 4294967296) :
    Calls Tryd.prog 73 #[.int .u32 (x : Int), .int .u64 13] w fun e w' => e = .returned (.int .u32 (Sha.rot x 13 : Nat)) ∧ w' = w := by
  have hl := Sha.rot_lt h (n := 13) (by decide)
  have he : Sha.rot x 13 = x / 8192 + x * 524288 % 4294967296 := rfl
  go_enter Tryd.func73, Tryd.ntmps73
  go_wp2
  go_ret
  refine ⟨ret_int ?_, rfl⟩
  rw [he] at hl ⊢
  omega

theorem turn_17 (x : Nat) (w : World) (h : x < 4294967296) :
    Calls Tryd.prog 73 #[.int .u32 (x : Int), .int .u64 17] w fun e w' => e = .returned (.int .u32 (Sha.rot x 17 : Nat)) ∧ w' = w := by
  have hl := Sha.rot_lt h (n := 17) (by decide)
  have he : Sha.rot x 17 = x / 131072 + x * 32768 % 4294967296 := rfl
  go_enter Tryd.func73, Tryd.ntmps73
  go_wp2
  go_ret
  refine ⟨ret_int ?_, rfl⟩
  rw [he] at hl ⊢
  omega

theorem turn_18 (x : Nat) (w : World) (h : x < 4294967296) :
    Calls Tryd.prog 73 #[.int .u32 (x : Int), .int .u64 18] w fun e w' => e = .returned (.int .u32 (Sha.rot x 18 : Nat)) ∧ w' = w := by
  have hl := Sha.rot_lt h (n := 18) (by decide)
  have he : Sha.rot x 18 = x / 262144 + x * 16384 % 4294967296 := rfl
  go_enter Tryd.func73, Tryd.ntmps73
  go_wp2
  go_ret
  refine ⟨ret_int ?_, rfl⟩
  rw [he] at hl ⊢
  omega

theorem turn_19 (x : Nat) (w : World) (h : x < 4294967296) :
    Calls Tryd.prog 73 #[.int .u32 (x : Int), .int .u64 19] w fun e w' => e = .returned (.int .u32 (Sha.rot x 19 : Nat)) ∧ w' = w := by
  have hl := Sha.rot_lt h (n := 19) (by decide)
  have he : Sha.rot x 19 = x / 524288 + x * 8192 % 4294967296 := rfl
  go_enter Tryd.func73, Tryd.ntmps73
  go_wp2
  go_ret
  refine ⟨ret_int ?_, rfl⟩
  rw [he] at hl ⊢
  omega

theorem turn_22 (x : Nat) (w : World) (h : x < 4294967296) :
    Calls Tryd.prog 73 #[.int .u32 (x : Int), .int .u64 22] w fun e w' => e = .returned (.int .u32 (Sha.rot x 22 : Nat)) ∧ w' = w := by
  have hl := Sha.rot_lt h (n := 22) (by decide)
  have he : Sha.rot x 22 = x / 4194304 + x * 1024 % 4294967296 := rfl
  go_enter Tryd.func73, Tryd.ntmps73
  go_wp2
  go_ret
  refine ⟨ret_int ?_, rfl⟩
  rw [he] at hl ⊢
  omega

theorem turn_25 (x : Nat) (w : World) (h : x < 4294967296) :
    Calls Tryd.prog 73 #[.int .u32 (x : Int), .int .u64 25] w fun e w' => e = .returned (.int .u32 (Sha.rot x 25 : Nat)) ∧ w' = w := by
  have hl := Sha.rot_lt h (n := 25) (by decide)
  have he : Sha.rot x 25 = x / 33554432 + x * 128 % 4294967296 := rfl
  go_enter Tryd.func73, Tryd.ntmps73
  go_wp2
  go_ret
  refine ⟨ret_int ?_, rfl⟩
  rw [he] at hl ⊢
  omega

namespace Sha
/-- A step of the document's. -/
def stp (r : List Nat) (c m : Nat) : List Nat :=
  [(xOf (r.getD 4 0) (r.getD 5 0) (r.getD 6 0) (r.getD 7 0) c m + yOf (r.getD 0 0) (r.getD 1 0) (r.getD 2 0)) % 4294967296, r.getD 0 0, r.getD 1 0, r.getD 2 0,
    (r.getD 3 0 + xOf (r.getD 4 0) (r.getD 5 0) (r.getD 6 0) (r.getD 7 0) c m) % 4294967296, r.getD 4 0, r.getD 5 0, r.getD 6 0]
end Sha
theorem row38 : RowT Tryd.prog 118 8 := ⟨⟨_, Tryd.underlying118, rfl⟩, by kernel_rfl⟩
theorem zero38 : (Tryd.prog.info? 118).bind (·.zero) = some (.agg (uA (List.replicate 8 0))) := by kernel_rfl
theorem run_sub_u32 (t : Nat) (h : t < 4294967296) : (4294967295 - (t : Int)) % 4294967296 = ((4294967295 - t : Nat) : Int) := by omega

set_option maxHeartbeats 4000000 in
theorem step_any (p q r s t u v x c m : Nat) (w : World) (hU : Sha.AllU [p, q, r, s, t, u, v, x]) (hc : c < 4294967296) (hm : m < 4294967296) :
    Calls Tryd.prog 65 #[.agg (uA [p, q, r, s, t, u, v, x]), .int .u32 (c : Int), .int .u32 (m : Int)] w fun e w' => e = .returned (.agg (uA (Sha.stp [p, q, r, s, t, u, v, x] c m))) ∧ Ext w w' := by
  have hp : p < 4294967296 := hU p (by simp)
  have hq : q < 4294967296 := hU q (by simp)
  have hr : r < 4294967296 := hU r (by simp)
  have hs : s < 4294967296 := hU s (by simp)
  have ht : t < 4294967296 := hU t (by simp)
  have hu : u < 4294967296 := hU u (by simp)
  have hv : v < 4294967296 := hU v (by simp)
  have hx : x < 4294967296 := hU x (by simp)
  have a1 := andN t u ht hu
  have a3 := andN p q hp hq
  have a4 := andN p r hp hr
  have a5 := andN q r hq hr
  have n1 := run_sub_u32 t ht
  have n2 : IntKind.u32.wrap (4294967295 - (t : Int)) = ((4294967295 - t : Nat) : Int) := by rw [IntKind.wrap_u32]; exact n1
  have n3 : (4294967295 - (t : Int)) = ((4294967295 - t : Nat) : Int) := by omega
  have a2 := andN (4294967295 - t) v (by omega) hv
  have x1 := xorN (t &&& u) ((4294967295 - t) &&& v) (Sha.and_lt ht) (Sha.and_lt (by omega))
  have x2 := xorN (p &&& q) (p &&& r) (Sha.and_lt hp) (Sha.and_lt hp)
  have x3 := xorN ((p &&& q) ^^^ (p &&& r)) (q &&& r) (Sha.xor_lt (Sha.and_lt hp) (Sha.and_lt hp)) (Sha.and_lt hq)
  have r6 := Sha.rot_lt ht (n := 6) (by decide)
  have r11 := Sha.rot_lt ht (n := 11) (by decide)
  have r25 := Sha.rot_lt ht (n := 25) (by decide)
  have r2 := Sha.rot_lt hp (n := 2) (by decide)
  have r13 := Sha.rot_lt hp (n := 13) (by decide)
  have r22 := Sha.rot_lt hp (n := 22) (by decide)
  have y1 := xorN (Sha.rot t 6) (Sha.rot t 11) r6 r11
  have y2 := xorN (Sha.rot t 6 ^^^ Sha.rot t 11) (Sha.rot t 25) (Sha.xor_lt r6 r11) r25
  have y3 := xorN (Sha.rot p 2) (Sha.rot p 13) r2 r13
  have y4 := xorN (Sha.rot p 2 ^^^ Sha.rot p 13) (Sha.rot p 22) (Sha.xor_lt r2 r13) r22
  have HX : Hid (Sha.xOf t u v x c m = (x + ((Sha.rot t 6 ^^^ Sha.rot t 11) ^^^ Sha.rot t 25) + ((t &&& u) ^^^ ((4294967295 - t) &&& v)) + c + m) % 4294967296) := rfl
  have HY : Hid (Sha.yOf p q r = (((Sha.rot p 2 ^^^ Sha.rot p 13) ^^^ Sha.rot p 22) + (((p &&& q) ^^^ (p &&& r)) ^^^ (q &&& r))) % 4294967296) := rfl
  generalize (t &&& u) ^^^ ((4294967295 - t) &&& v) = ch at *
  generalize ((p &&& q) ^^^ (p &&& r)) ^^^ (q &&& r) = mo at *
  generalize (p &&& q) ^^^ (p &&& r) = z0 at *
  generalize t &&& u = z1 at *
  generalize (4294967295 - t) &&& v = z2 at *
  generalize p &&& q = z3 at *
  generalize p &&& r = z4 at *
  generalize q &&& r = z5 at *
  generalize 4294967295 - t = nt at *
  generalize (Sha.rot t 6 ^^^ Sha.rot t 11) ^^^ Sha.rot t 25 = al at *
  generalize Sha.rot t 6 ^^^ Sha.rot t 11 = al0 at *
  generalize (Sha.rot p 2 ^^^ Sha.rot p 13) ^^^ Sha.rot p 22 = be at *
  generalize Sha.rot p 2 ^^^ Sha.rot p 13 = be0 at *
  have HS : Hid (Sha.stp [p, q, r, s, t, u, v, x] c m = [(Sha.xOf t u v x c m + Sha.yOf p q r) % 4294967296, p, q, r, (s + Sha.xOf t u v x c m) % 4294967296, t, u, v]) := rfl
  generalize Sha.xOf t u v x c m = xx at *
  generalize Sha.yOf p q r = yy at *
  have hX : ((x : Int) + (al : Int) + (ch : Int) + (c : Int) + (m : Int)) % 4294967296 = (xx : Int) := by rw [HX.out]; omega
  have hY : ((be : Int) + (mo : Int)) % 4294967296 = (yy : Int) := by rw [HY.out]; omega
  have hxl : xx < 4294967296 := by rw [HX.out]; exact Nat.mod_lt _ (by decide)
  have hyl : yy < 4294967296 := by rw [HY.out]; exact Nat.mod_lt _ (by decide)
  obtain ⟨sx, esx⟩ : ∃ sx, sx = (s + xx) % 4294967296 := ⟨_, rfl⟩
  obtain ⟨xy, exy⟩ : ∃ xy, xy = (xx + yy) % 4294967296 := ⟨_, rfl⟩
  have hS0 : ((s : Int) + (xx : Int)) % 4294967296 = (sx : Int) := by omega
  have hXY : ((xx : Int) + (yy : Int)) % 4294967296 = (xy : Int) := by omega
  rw [← esx, ← exy] at HS
  clear HX HY esx exy hU
  go_enter Tryd.func65, Tryd.ntmps65
  go_wp2_with (first
    | (refine wl_box rfl rfl rfl ?_; intro w1 hb1 he1 hy; clear hy; refine wl_alloc rfl rfl zero38 ?_; intro w2 hb2 he2 hy; clear hy; have H1 : Hid (Blk w2 w.heap.size (uA [p, q, r, s, t, u, v, x]) 118) := hb1.ext he2; have c0 : w2.cell? ⟨w.heap.size, 0, none⟩ = some (.int .u32 (p : Int)) := H1.out.cell 0; have c1 : w2.cell? ⟨w.heap.size, 1, none⟩ = some (.int .u32 (q : Int)) := H1.out.cell 1; have c2 : w2.cell? ⟨w.heap.size, 2, none⟩ = some (.int .u32 (r : Int)) := H1.out.cell 2; have c3 : w2.cell? ⟨w.heap.size, 3, none⟩ = some (.int .u32 (s : Int)) := H1.out.cell 3; have c4 : w2.cell? ⟨w.heap.size, 4, none⟩ = some (.int .u32 (t : Int)) := H1.out.cell 4; have c5 : w2.cell? ⟨w.heap.size, 5, none⟩ = some (.int .u32 (u : Int)) := H1.out.cell 5; have c6 : w2.cell? ⟨w.heap.size, 6, none⟩ = some (.int .u32 (v : Int)) := H1.out.cell 6; have c7 : w2.cell? ⟨w.heap.size, 7, none⟩ = some (.int .u32 (x : Int)) := H1.out.cell 7; have HE : Hid (Ext w w2 ∧ w.heap.size < w1.heap.size) := ⟨he1.trans he2, hb1.lt⟩; clear hb1 he1 he2))
  go_quiet (first
    | (go_at_call_of 73 (Value.int .u64 6); refine Calls.quiet_of_same (turn_6 _ _ ht))
    | (go_at_call_of 73 (Value.int .u64 11); refine Calls.quiet_of_same (turn_11 _ _ ht))
    | (go_at_call_of 73 (Value.int .u64 25); refine Calls.quiet_of_same (turn_25 _ _ ht)))
  rename_i nq
  have HB : Hid (Blk (w2.drewN nq) w.heap.size (uA [p, q, r, s, t, u, v, x]) 118 ∧ Blk (w2.drewN nq) w1.heap.size (uA (List.replicate 8 0)) 118 ∧ Ext w (w2.drewN nq) ∧ w.heap.size < w1.heap.size) := ⟨H1.out.drewN _, hb2.drewN _, HE.out.1.trans (Ext.drewN _ _), HE.out.2⟩
  generalize w2.drewN nq = w3 at *
  clear c0 c1 c2 c3 c4 c5 c6 c7
  have c0 : w3.cell? ⟨w.heap.size, 0, none⟩ = some (.int .u32 (p : Int)) := HB.out.1.cell 0
  have c1 : w3.cell? ⟨w.heap.size, 1, none⟩ = some (.int .u32 (q : Int)) := HB.out.1.cell 1
  have c2 : w3.cell? ⟨w.heap.size, 2, none⟩ = some (.int .u32 (r : Int)) := HB.out.1.cell 2
  have c3 : w3.cell? ⟨w.heap.size, 3, none⟩ = some (.int .u32 (s : Int)) := HB.out.1.cell 3
  have c4 : w3.cell? ⟨w.heap.size, 4, none⟩ = some (.int .u32 (t : Int)) := HB.out.1.cell 4
  have c5 : w3.cell? ⟨w.heap.size, 5, none⟩ = some (.int .u32 (u : Int)) := HB.out.1.cell 5
  have c6 : w3.cell? ⟨w.heap.size, 6, none⟩ = some (.int .u32 (v : Int)) := HB.out.1.cell 6
  have c7 : w3.cell? ⟨w.heap.size, 7, none⟩ = some (.int .u32 (x : Int)) := HB.out.1.cell 7
  go_wp2_with fail
  go_quiet (first
    | (go_at_call_of 73 (Value.int .u64 2); refine Calls.quiet_of_same (turn_2 _ _ hp))
    | (go_at_call_of 73 (Value.int .u64 13); refine Calls.quiet_of_same (turn_13 _ _ hp))
    | (go_at_call_of 73 (Value.int .u64 22); refine Calls.quiet_of_same (turn_22 _ _ hp)))
  go_wp2_with (first
    | (refine wl_store (D := uA [xy, p, q, r, sx, t, u, v]) rfl row38 rfl rfl (by first | rfl | go_simp | simp [go_sem]) (HB.out.2.1.drewN _) rfl rfl (uA_one _) ?_; intro w5 hb5 hk5 hy; clear hy))
  have := HB.out.2.2.2
  refine bodyPost_ret (v := .agg (uA [xy, p, q, r, sx, t, u, v])) (results_cell_row (fn := Tryd.f65) (p := 6) (by rfl) _ _ w1.heap.size 118 _ (0, 0) _ rfl hb5 Tryd.underlying118 rfl (by rw [uA_size]; kernel_rfl)) rfl ⟨by rw [HS.out], ?_⟩
  exact (HB.out.2.2.1.trans (Ext.drewN _ _)).of_but hk5 (fun k e => by subst e; omega)

namespace Sha
/-- The registers by their names at a time. -/
def view (L : List Nat) (i : Nat) : List Nat := [L.getD (pl 0 i) 0, L.getD (pl 1 i) 0, L.getD (pl 2 i) 0, L.getD (pl 3 i) 0, L.getD (pl 4 i) 0, L.getD (pl 5 i) 0, L.getD (pl 6 i) 0, L.getD (pl 7 i) 0]
theorem list8 {L : List Nat} (h : L.length = 8) : L = [L.getD 0 0, L.getD 1 0, L.getD 2 0, L.getD 3 0, L.getD 4 0, L.getD 5 0, L.getD 6 0, L.getD 7 0] := by
  match L, h with
  | [a, b, c, d, e, f, g, i], _ => rfl
theorem view_0 {L : List Nat} (h : L.length = 8) : view L 0 = L := (list8 h).symm
theorem view_64 {L : List Nat} (h : L.length = 8) : view L 64 = L := (list8 h).symm
theorem set_get (L : List Nat) (j k x : Nat) (hk : k < L.length) : (L.set j x).getD k 0 = if j = k then x else L.getD k 0 := by
  rw [List.getD_eq_getElem?_getD, List.getElem?_set]
  split
  · rename_i e; subst e; simp [hk]
  · rw [List.getD_eq_getElem?_getD]
theorem view_chg {L : List Nat} (h : L.length = 8) (i m : Nat) (hi : i < 64) : view (chg i L m) (i + 1) = stp (view L i) (cub.getD i 0) m := by
  have e0 : pl 0 (i + 1) = pl 7 i := by unfold pl; omega
  have e1 : pl 1 (i + 1) = pl 0 i := by unfold pl; omega
  have e2 : pl 2 (i + 1) = pl 1 i := by unfold pl; omega
  have e3 : pl 3 (i + 1) = pl 2 i := by unfold pl; omega
  have e4 : pl 4 (i + 1) = pl 3 i := by unfold pl; omega
  have e5 : pl 5 (i + 1) = pl 4 i := by unfold pl; omega
  have e6 : pl 6 (i + 1) = pl 5 i := by unfold pl; omega
  have e7 : pl 7 (i + 1) = pl 6 i := by unfold pl; omega
  have l : ∀ k, pl k i < 8 := fun k => pl_lt k i
  have d : ∀ a b, a < 8 → b < 8 → a ≠ b → pl a i ≠ pl b i := fun a b ha hb hab => by unfold pl; omega
  have g : ∀ k x y, (((L.set (pl 3 i) x).set (pl 7 i) y)).getD (pl k i) 0 = if pl 7 i = pl k i then y else if pl 3 i = pl k i then x else L.getD (pl k i) 0 := fun k x y => by
    rw [set_get _ _ _ _ (by rw [List.length_set, h]; exact l k), set_get _ _ _ _ (by rw [h]; exact l k)]
  unfold view chg
  rw [e0, e1, e2, e3, e4, e5, e6, e7]
  have n70 := d 7 0 (by decide) (by decide) (by decide)
  have n30 := d 3 0 (by decide) (by decide) (by decide)
  have n71 := d 7 1 (by decide) (by decide) (by decide)
  have n31 := d 3 1 (by decide) (by decide) (by decide)
  have n72 := d 7 2 (by decide) (by decide) (by decide)
  have n32 := d 3 2 (by decide) (by decide) (by decide)
  have n73 := d 7 3 (by decide) (by decide) (by decide)
  have n74 := d 7 4 (by decide) (by decide) (by decide)
  have n34 := d 3 4 (by decide) (by decide) (by decide)
  have n75 := d 7 5 (by decide) (by decide) (by decide)
  have n35 := d 3 5 (by decide) (by decide) (by decide)
  have n76 := d 7 6 (by decide) (by decide) (by decide)
  have n36 := d 3 6 (by decide) (by decide) (by decide)
  simp only [g, if_true, if_false, n70, n30, n71, n31, n72, n32, n73, n74, n34, n75, n35, n76, n36]
  rfl
/-- The document's registers behind some steps. -/
def steps (R B : List Nat) (i : Nat) : List Nat := view (cp R B i) i
theorem steps_0 {R B : List Nat} (h : R.length = 8) : steps R B 0 = R := view_0 h
theorem steps_succ {R B : List Nat} (h : R.length = 8) (i : Nat) (hi : i < 64) : steps R B (i + 1) = stp (steps R B i) (cub.getD i 0) (mw B i) := by
  unfold steps
  rw [cp]
  exact view_chg (by rw [cp_len, h]) i _ hi
theorem steps_64 {R B : List Nat} (h : R.length = 8) : steps R B 64 = cp R B 64 := view_64 (by rw [cp_len, h])
theorem steps_len (R B : List Nat) (i : Nat) : (steps R B i).length = 8 := rfl
theorem steps_all {R B : List Nat} (h : AllU R) (i : Nat) : AllU (steps R B i) := by
  intro x hx
  have := cp_all (B := B) h i
  simp only [steps, view, List.mem_cons, List.not_mem_nil, or_false] at hx
  rcases hx with rfl | rfl | rfl | rfl | rfl | rfl | rfl | rfl <;> exact this.get _
end Sha
theorem step_list (L : List Nat) (c m : Nat) (w : World) (hl : L.length = 8) (hU : Sha.AllU L) (hc : c < 4294967296) (hm : m < 4294967296) :
    Calls Tryd.prog 65 #[.agg (uA L), .int .u32 (c : Int), .int .u32 (m : Int)] w fun e w' => e = .returned (.agg (uA (Sha.stp L c m))) ∧ Ext w w' := by
  rw [Sha.list8 hl]
  exact step_any _ _ _ _ _ _ _ _ c m w (by rw [← Sha.list8 hl]; exact hU) hc hm
end Go.Proofs.YtfhoielfekeihaaDoor

/- A law on regions that draw their order and write, and whose last operation lays a slot that the others read: the others by the staged law, the last one behind them. No condition of its own. -/
namespace Go.Proofs.YtfhoielfekeihaaDoor
open Go
set_option linter.unusedVariables false

section
variable {P : Program} {mk : Tmp → Option Nat} {init : List Oper} {ol : Oper} {a0 : Act} {V : Nat → Value → Prop} {Q : Exit → Act → World → Prop} {n : Nat}

theorem stagedL_any (hsh : shapeB mk init n = true) (hn : a0.tmps.size = n) (wr : List Nat) (Ws : Nat → World)
    (hinj : ∀ i j, i < wr.length → j < wr.length → wr.getD i 0 = wr.getD j 0 → i = j)
    (hch : ∀ j o, j + 1 < wr.length → init[wr.getD (j + 1) 0]? = some o → afterB o (wr.getD j 0) = true)
    (hgu : ∀ (i : Nat) o, init[i]? = some o → o.guard = none) (x : Operand) (hol : ol.op = .assign x) (hgl : ol.guard = none)
    (hla : ∀ i, i < init.length → afterB ol i = true ∨ ∃ (j : Nat) (oj : Oper), (init ++ [ol])[j]? = some oj ∧ afterB ol j = true ∧ afterB oj i = true)
    (hlb : ∀ e ∈ ol.after, Region.binds .any e = true → e.on < init.length)
    (hG : ∀ i o, init[i]? = some o → (∀ j, j < wr.length → wr.getD j 0 ≠ i) → ∀ k, k ≤ wr.length → GoodS P mk a0 V i o (Ws k) (Ws k))
    (hWr : ∀ k o, k < wr.length → init[wr.getD k 0]? = some o → GoodS P mk a0 V (wr.getD k 0) o (Ws k) (Ws (k + 1)))
    (hQ : ∀ a w (listed : Array Bool), (∀ i, i < init.length → listed.getD i false = true) → SInv init a0 V wr Ws listed a w → Q .normal (a.put ol.dst (a.eval x)) w) :
    ∀ (fuel : Nat) (listed : Array Bool) (a : Act) (w : World), listed.size = init.length + 1 → listed.countP (· == false) ≤ fuel → listed.getD init.length true = false →
      (∀ (j : Nat) oj, (init ++ [ol])[j]? = some oj → listed.getD j false = true → ∀ e ∈ oj.after, Region.binds .any e = true → listed.getD e.on false = true) → SInv init a0 V wr Ws listed a w → wpAny P .any (init ++ [ol]).toArray Q fuel listed a w := by
  have lt_of : ∀ {listed : Array Bool} {i : Nat}, listed.getD i true = false → i < listed.size := fun {listed i} h => by
    rcases Nat.lt_or_ge i listed.size with h' | h'
    · exact h'
    · simp [Array.getElem?_eq_none h'] at h
  have some_ready : ∀ (listed : Array Bool), listed.size = init.length + 1 → listed.getD init.length true = false → Region.ready .any (init ++ [ol]).toArray listed ≠ [] := by
    intro listed hs hl hr
    have key : ∀ i, i < init.length → listed.getD i false = true := by
      intro i
      induction i using Nat.strongRecOn with
      | _ i ih =>
        intro hi
        cases hb : listed.getD i false with
        | true => rfl
        | false =>
          exfalso
          have ho : init[i]? = some init[i] := by simp [hi]
          have : i ∈ Region.ready .any (init ++ [ol]).toArray listed := by
            rw [mem_ready]
            refine ⟨by simpa [hs, show i < init.length + 1 by omega] using hb, init[i], by simp [List.getElem?_append_left hi, hi], fun e he hbi => ?_⟩
            have hsp := shape_spec hsh ho
            simp only [shapeOneB, Bool.and_eq_true] at hsp
            have h5 := Array.all_eq_true_iff_forall_mem.1 hsp.2 e he
            simp [hbi] at h5
            exact ih e.on h5 (by omega)
          rw [hr] at this
          cases this
    have : init.length ∈ Region.ready .any (init ++ [ol]).toArray listed := by
      rw [mem_ready]
      exact ⟨hl, ol, by simp, fun e he hb => key _ (hlb e he hb)⟩
    rw [hr] at this
    cases this
  intro fuel
  induction fuel with
  | zero =>
    intro listed a w hs hc hl hcl hI
    exfalso
    have hlt := lt_of hl
    have h1 : listed.countP (· == false) = 0 := by omega
    rw [Array.countP_eq_zero] at h1
    have h2 : listed[init.length] = false := by simpa [hlt] using hl
    have := h1 listed[init.length] (Array.getElem_mem hlt)
    simp [h2] at this
  | succ fuel ih =>
    intro listed a w hs hc hl hcl hI
    refine ⟨fun hr => absurd hr (some_ready listed hs hl), fun i hi => ?_⟩
    obtain ⟨hli, o, ho', hall⟩ := mem_ready.1 hi
    have hoA : (init ++ [ol])[i]? = some o := by simpa using ho'
    unfold wpOp
    simp only [ho']
    by_cases hil : i = init.length
    · subst hil
      have : o = ol := by simpa using hoA.symm
      subst this
      have hothers : ∀ j, j < init.length → listed.getD j false = true := fun j hj => by
        rcases hla j hj with h1 | ⟨j2, oj, hoj, h1, h2⟩
        · obtain ⟨e, he, hb, rfl⟩ := after_spec h1
          exact hall e he hb
        · obtain ⟨e, he, hb, rfl⟩ := after_spec h1
          obtain ⟨e2, he2, hb2, rfl⟩ := after_spec h2
          exact hcl e.on oj hoj (hall e he hb) e2 he2 hb2
      simp only [Region.wanted, hgl, if_true]
      refine .inl (give_wp (K := fun v w' => v = a.eval x ∧ w' = w) (give_move (.inr hol) ⟨rfl, rfl⟩) fun v w' ⟨hv, hw⟩ => ?_)
      subst hv hw
      have hq : Q .normal (a.put o.dst (a.eval x)) w' := hQ a w' listed hothers hI
      have hnil : Region.ready .any (init ++ [o]).toArray (listed.setIfInBounds init.length true) = [] := by
        cases hr : Region.ready .any (init ++ [o]).toArray (listed.setIfInBounds init.length true) with
        | nil => rfl
        | cons j js =>
          exfalso
          have hj : j ∈ Region.ready .any (init ++ [o]).toArray (listed.setIfInBounds init.length true) := by rw [hr]; simp
          have h0 := (mem_ready.1 hj).1
          have hlt := lt_of h0
          simp [hs] at hlt
          by_cases e : j = init.length
          · subst e; simp [hs] at h0
          · have := hothers j (by omega)
            rw [getD_set_ne true (Ne.symm e)] at h0
            simp [hs, hlt] at this h0
            rw [this] at h0; cases h0
      cases fuel with
      | zero => exact ⟨hnil, hq⟩
      | succ f => exact ⟨fun _ => hq, fun j hj => by rw [hnil] at hj; cases hj⟩
    · have hil' : i < init.length := by
        rcases Nat.lt_or_ge i (init.length + 1) with h | h
        · omega
        · rw [List.getElem?_eq_none (by simp; omega)] at hoA; cases hoA
      have ho : init[i]? = some o := by rwa [List.getElem?_append_left hil'] at hoA
      obtain ⟨hB, k, hk, rfl, hst⟩ := hI
      have hfacts := factsOf_mk (hB.facts hsh ho hall)
      obtain ⟨k', hk', hg, hst'⟩ : ∃ k', k' ≤ wr.length ∧ GoodS P mk a0 V i o (Ws k) (Ws k') ∧ ∀ j, j < wr.length → (listed.setIfInBounds i true).getD (wr.getD j 0) false = decide (j < k') := by
        by_cases hw : ∃ j, j < wr.length ∧ wr.getD j 0 = i
        · obtain ⟨j, hj, hji⟩ := hw
          have hnl : listed.getD (wr.getD j 0) false = false := by rw [hji]; exact getD_false hli
          have hjk : ¬ j < k := by
            intro h
            rw [hst j hj, decide_eq_true h] at hnl
            cases hnl
          have hkj : j = k := by
            rcases Nat.lt_or_ge k j with h | h
            · exfalso
              obtain ⟨j', rfl⟩ : ∃ j', j = j' + 1 := ⟨j - 1, by omega⟩
              have ha := hch j' o hj (by rw [hji]; exact ho)
              obtain ⟨e, he, hb, hon⟩ := after_spec ha
              have h2 := hall e he hb
              rw [hon, hst j' (by omega)] at h2
              have : j' < k := of_decide_eq_true h2
              omega
            · omega
          subst hkj
          refine ⟨j + 1, by omega, by rw [← hji]; exact hWr j o hj (by rw [hji]; exact ho), fun j2 hj2 => ?_⟩
          by_cases e : j2 = j
          · subst e
            rw [hji, getD_set_self hli]
            exact (decide_eq_true (by omega)).symm
          · rw [getD_set_ne false (fun h => e (hinj j2 j hj2 hj (by rw [← h, hji]))), hst j2 hj2]
            congr 1
            simp only [eq_iff_iff]; omega
        · have hne : ∀ j, j < wr.length → wr.getD j 0 ≠ i := fun j hj e => hw ⟨j, hj, e⟩
          exact ⟨k, hk, hG i o ho hne k hk, fun j hj => by rw [getD_set_ne false (hne j hj).symm, hst j hj]⟩
      have hg := hg a.eval hfacts
      have hgd := hgu i o ho
      have next : ∀ v w', w' = Ws k' ∧ V i v → wpAny P .any (init ++ [ol]).toArray Q fuel (listed.setIfInBounds i true) (a.put o.dst v) w' := fun v w' ⟨h1, h2⟩ => by
        subst h1
        refine ih _ _ _ (by simp [hs]) (count_set hli hc) (by rw [getD_set_ne true hil]; exact hl) ?_ ⟨hB.put hsh hn (fun _ _ _ _ _ h => h) (fun _ _ _ _ _ => trivial) ho hli trivial h2, k', hk', rfl, hst'⟩
        intro j oj hoj hlj e he hb
        have keep : ∀ x, listed.getD x false = true → (listed.setIfInBounds i true).getD x false = true := fun x hx => by
          by_cases e' : i = x
          · subst e'; exact absurd (getD_false2 hli) (by rw [hx]; simp)
          · rw [getD_set_ne false e']; exact hx
        by_cases e' : i = j
        · subst e'
          rw [hoA] at hoj; cases hoj
          exact keep _ (hall e he hb)
        · rw [getD_set_ne false e'] at hlj
          exact keep _ (hcl j oj hoj hlj e he hb)
      simp only [hgd] at hg
      simp only [Region.wanted, hgd, if_true]
      exact .inl (give_wp hg next)
end

/-- What is asked of a region's shape, a closed fact. -/
def stageLB (ops : List Oper) : Bool := match ops[ops.length - 1]? with
  | none => false
  | some o => decide (0 < ops.length) && o.guard.isNone && (ops.dropLast.all fun p => p.guard.isNone) && (o.after.all fun e => !(Region.binds .any e) || decide (e.on < ops.length - 1)) &&
    (List.range (ops.length - 1)).all fun i => afterB o i || (List.range (ops.length - 1)).any fun j => match ops[j]? with | none => false | some oj => afterB o j && afterB oj i

/-- THE LAW. -/
theorem wp_region_stagedL {P : Program} {ops : List Oper} {a0 : Act} {Q : Exit → Act → World → Prop} {id : Nat} {w : World} (mk : Tmp → Option Nat) (n : Nat) (wr : List Nat) (Ws : Nat → World) (Vs : List (Value → Prop)) (hne : ops ≠ []) (t : Tmp) (jx d : Nat) (hx : (ops.getLast hne).op = .assign (.tmp t)) (hd : (ops.getLast hne).dst = some d) (hj : (ops.dropLast[jx]?).map (·.dst) = some (some t))
    (hlen : Vs.length = ops.dropLast.length) (hm : P.follows .mixedOrders = true) (hsh : shapeB mk ops.dropLast n = true) (hn : a0.tmps.size = n) (hch : chainB ops.dropLast wr = true) (ho : onceB wr = true) (hL : stageLB ops = true) (hW0 : Ws 0 = w.drew)
    (hG : GoodSAll P mk a0 (fun i => Vs.getD i fun _ => True) wr Ws 0 ops.dropLast)
    (hQ : ∀ (vs : Nat → Value) (aP : Act), (∀ i, i < Vs.length → (Vs.getD i fun _ => True) (vs i)) → aP = putAll vs ops.dropLast 0 a0 → Q .normal (aP.put (some d) (vs jx)) (Ws wr.length)) :
    (Code.region id ops.toArray true).wp P Q a0 w := by
  have e : ops.dropLast ++ [ops.getLast hne] = ops := List.dropLast_concat_getLast hne
  generalize ops.getLast hne = ol at *
  generalize ops.dropLast = init at *
  subst e
  refine wp_region_any hm ?_
  have hidx : ∀ i, i < wr.length → wr.idxOf (wr.getD i 0) = i := fun i hi => by
    have := List.all_eq_true.1 ho i (List.mem_range.2 hi)
    simpa using this
  have hmem : ∀ i, i < wr.length → wr.contains (wr.getD i 0) = true := fun i hi => by
    rw [List.contains_iff_mem]; simp [List.getD_eq_getElem?_getD, hi]
  unfold stageLB at hL
  rw [show (init ++ [ol]).length - 1 = init.length by simp, show (init ++ [ol])[init.length]? = some ol by simp] at hL
  simp only [Bool.and_eq_true, List.all_eq_true, List.mem_range, Option.isNone_iff_eq_none, decide_eq_true_eq, List.dropLast_concat] at hL
  obtain ⟨⟨⟨⟨_, h2⟩, h3⟩, h4⟩, h5⟩ := hL
  have h := stagedL_any (P := P) (init := init) (ol := ol) (a0 := a0) (V := fun i => Vs.getD i fun _ => True) (Q := Q) (n := n) hsh hn wr Ws
    (fun i j hi hj e => by rw [← hidx i hi, e, hidx j hj])
    (fun j o hj hoj => by
      have := List.all_eq_true.1 hch (j + 1) (List.mem_range.2 hj)
      simp only [hoj] at this
      simpa using this)
    (fun i o hi => h3 o (List.mem_of_getElem? hi)) (.tmp t) hx h2
    (fun i hi => by
      have := h5 i hi
      rw [Bool.or_eq_true] at this
      rcases this with h | h
      · exact .inl h
      · obtain ⟨j, hj, h2⟩ := List.any_eq_true.1 h
        cases hoj : (init ++ [ol])[j]? with
        | none => rw [hoj] at h2; cases h2
        | some oj =>
          rw [hoj] at h2
          simp only [Bool.and_eq_true] at h2
          exact .inr ⟨j, oj, hoj, h2.1, h2.2⟩)
    (fun e he hb => by
      have := Array.all_eq_true_iff_forall_mem.1 h4 e he
      simpa [hb] using this)
    (fun i o hi hnw k hk => by
      have := hG.at i o hi
      rw [Nat.zero_add, if_neg (by
        intro hc
        have hi2 : i ∈ wr := by simpa using hc
        obtain ⟨j, hj, e⟩ := List.getElem_of_mem hi2
        exact hnw j hj (by simp [List.getD_eq_getElem?_getD, hj, e]))] at this
      exact this k hk)
    (fun k o hk hko => by
      have := hG.at _ o hko
      rw [Nat.zero_add, if_pos (hmem k hk), hidx k hk] at this
      exact this)
    (fun a w' listed hlist hI => by
      obtain ⟨hB, k, hk, rfl, hst⟩ := hI
      have hkw : k = wr.length := by
        rcases Nat.lt_or_ge k wr.length with h | h
        · exfalso
          have h1 := hst k h
          have hin : wr.getD k 0 < init.length := by
            have := List.all_eq_true.1 hch k (List.mem_range.2 h)
            rcases Nat.lt_or_ge (wr.getD k 0) init.length with h' | h'
            · exact h'
            · rw [List.getElem?_eq_none h'] at this; cases this
          rw [hlist _ hin] at h1
          simp at h1
        · omega
      subst hkw
      have hB' : Inv init a0 (fun _ _ => True) (fun j _ v => (Vs.getD j fun _ => True) v) (Ws 0) (Array.replicate init.length true) a (Ws wr.length) := by
        refine ⟨trivial, hB.defers, hB.size, fun t ht => ?_, fun i o hi _ => ?_⟩
        · refine hB.rest t fun i o hi hd => ?_
          have := ht i o hi hd
          have hlt : i < init.length := by
            rcases Nat.lt_or_ge i init.length with h' | h'
            · exact h'
            · simp [List.getElem?_eq_none h'] at hi
          simp [hlt] at this
        · have hlt : i < init.length := by
            rcases Nat.lt_or_ge i init.length with h' | h'
            · exact h'
            · simp [List.getElem?_eq_none h'] at hi
          exact hB.done i o hi (hlist i hlt)
      obtain ⟨vs, rfl, hv⟩ := hB'.whole hsh hn
      obtain ⟨oj, hoj, hdj⟩ := Option.map_eq_some_iff.1 hj
      have hs := shape_spec hsh hoj
      simp only [shapeOneB, hdj, Bool.and_eq_true, decide_eq_true_eq] at hs
      have he : (putAll vs init 0 a0).eval (.tmp t) = vs jx := by
        have := putAll_at vs t init 0 a0 jx oj hoj hdj (by rw [hn]; exact hs.1.2.2) (fun k' o' hk' hd' => shape_dst hsh hk' hoj hd' hdj)
        rw [Nat.zero_add] at this
        simp [Act.eval, this]
      rw [hd, he]
      exact hQ vs _ (fun i hi => hv i (by omega)) rfl)
    (init ++ [ol]).length (Array.replicate (init ++ [ol]).length false) a0 w.drew (by simp) (by
      have := Array.countP_le_size (p := (· == false)) (xs := Array.replicate (init ++ [ol]).length false)
      simpa using this) (by simp) (fun j oj hoj hl => by
        exfalso
        by_cases h : j < (init ++ [ol]).length
        · rw [Array.getD_eq_getD_getElem?, Array.getElem?_replicate, if_pos h] at hl; cases hl
        · rw [Array.getD_eq_getD_getElem?, Array.getElem?_replicate, if_neg h] at hl; cases hl)
    ⟨⟨trivial, rfl, rfl, fun _ _ => rfl, fun i o hi hl => by
        exfalso
        by_cases h : i < (init ++ [ol]).length
        · rw [Array.getD_eq_getD_getElem?, Array.getElem?_replicate, if_pos h] at hl; cases hl
        · rw [Array.getD_eq_getD_getElem?, Array.getElem?_replicate, if_neg h] at hl; cases hl⟩, 0, Nat.zero_le _, hW0.symm, fun j hj => by
        have hin : wr.getD j 0 < (init ++ [ol]).length := by
          have := List.all_eq_true.1 hch j (List.mem_range.2 hj)
          rcases Nat.lt_or_ge (wr.getD j 0) init.length with h' | h'
          · rw [List.length_append]; exact Nat.lt_of_lt_of_le h' (Nat.le_add_right _ _)
          · rw [List.getElem?_eq_none h'] at this; cases this
        rw [Array.getD_eq_getD_getElem?, Array.getElem?_replicate, if_pos hin]
        simp⟩
  simpa using h
end Go.Proofs.YtfhoielfekeihaaDoor
