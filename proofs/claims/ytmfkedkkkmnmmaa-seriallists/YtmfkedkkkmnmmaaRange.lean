/- What the iterators of package serial hand out: Range of numbers of 16 and of 32 bits. No condition of its own. -/
import Derived.Test.YtmfkedkkkmnmmaaNums
namespace Go.Proofs.Ytmfkedkkkmnmmaa
open Go.RowKit Go.Shelf
set_option linter.unusedVariables false
set_option linter.unusedSimpArgs false
attribute [local go_sem] Oper.semAt_some

/-- A number of m. -/
abbrev Num (m : Int) := { x : Int // Of m x }
/-- What an iterator's round must keep: the blocks from lo up to hi. -/
def KpR (lo hi : Nat) (W W' : World) : Prop := ∀ k, lo ≤ k → k < hi → W'.heap[k]? = W.heap[k]?
theorem KpR.t {lo hi : Nat} {A B C : World} (h : KpR lo hi A B) (k : KpR lo hi B C) : KpR lo hi A C := fun i h1 h2 => (k i h1 h2).trans (h i h1 h2)
theorem KpR.b {lo hi : Nat} {w : World} (hn : hi ≤ w.heap.size) (W : World) (l : Nat) (o o' : Obj) (hl : w.heap.size ≤ l) (_ : W.heap[l]? = some o) (_ : o.isCells = false) (_ : o.isWalk = false) : KpR lo hi W (W.putObj l o') :=
  fun i _ h2 => World.putObj_heap_other (by omega)
theorem KpR.box {lo hi B : Nat} {W W' : World} {t : TypeId} {v : Value} (h : KpR lo hi W W') (h1 : lo ≤ B) (h2 : B < hi) (hb : Boxed W B t v) : Boxed W' B t v := (h B h1 h2).trans hb
theorem KpR.refl (lo hi : Nat) (W : World) : KpR lo hi W W := fun _ _ _ => rfl
theorem KpR.grown {lo hi : Nat} {W W' : World} {row : Option Nat} (hg : W.grownBy W' row) (hs : hi ≤ W.heap.size) (hr : ∀ r, row = some r → r < lo ∨ hi ≤ r) : KpR lo hi W W' := fun i h1 h2 => hg.block i (by omega) (fun e => by have := hr i e.symm; omega)

/-- The c numbers from a on. -/
def Ser.range (m a : Int) (hm : 0 < m) (c : Nat) : List (Num m) := (List.range c).map fun i : Nat => ⟨Ser.step m a (i : Int), Ser.step_lt a _ hm⟩
theorem Ser.range_succ (m a : Int) (hm : 0 < m) (c : Nat) : Ser.range m a hm (c + 1) = Ser.range m a hm c ++ [⟨Ser.step m a (c : Int), Ser.step_lt a _ hm⟩] := by simp [Ser.range, List.range_succ]
theorem Ser.range_length (m a : Int) (hm : 0 < m) (c : Nat) : (Ser.range m a hm c).length = c := by simp [Ser.range]
theorem Ser.range_prefix (m a : Int) (hm : 0 < m) {k c : Nat} (h : k ≤ c) : Ser.range m a hm k <+: Ser.range m a hm c := by
  refine ⟨((List.range c).drop k).map fun i : Nat => ⟨Ser.step m a (i : Int), Ser.step_lt a _ hm⟩, ?_⟩
  unfold Ser.range
  rw [← List.map_append]
  congr 1
  have : List.range k = (List.range c).take k := by rw [List.take_range]; congr 1; omega
  rw [this, List.take_append_drop]

set_option maxHeartbeats 400000 in
theorem range16 (a c : Int) (w : World) :
    Calls Try.prog 30 #[.int .u16 a, .int .i64 c] w fun e w' => e = .returned (.func (.func 41) #[] #[.pointer (some ⟨w.heap.size + 1, 0, none⟩), .pointer (some ⟨w.heap.size, 0, none⟩)]) ∧ w' = (w.alloc (.cells #[.int .u16 a] 31)).alloc (.cells #[.int .i64 c] 3) := by
  go_enter Try.func30, Try.ntmps30
  go_wp2
  go_ret
  exact ⟨rfl, rfl⟩

set_option maxHeartbeats 1000000 in
theorem range16_1 (n : Nat) (hn : 1 ≤ n) (l bn bf lo hi : Nat) (a c : Int) (ha : Of 65536 a) (hc : W64 c) (J Jx : List (Num 65536) → World → Prop)
    (hY : ∀ pre x W1, J pre W1 → pre.length < c.toNat → YieldAt Fence.wide (n - 1) Try.prog l #[.int .u16 x.1] W1 fun e W' =>
      (e = .returned (.bool true) ∧ J (pre ++ [x]) W' ∧ KpR lo hi W1 W') ∨ (e = .returned (.bool false) ∧ Jx (pre ++ [x]) W'))
    (W : World) (hbn : lo ≤ bn ∧ bn < hi) (hbf : lo ≤ bf ∧ bf < hi) (hcn : Boxed W bn 3 (.int .i64 c)) (hcf : Boxed W bf 31 (.int .u16 a)) (h0 : J [] W) :
    CallsIn Fence.wide n Try.prog 41 #[.func (.yield l) #[] #[], .pointer (some ⟨bn, 0, none⟩), .pointer (some ⟨bf, 0, none⟩)] W fun e W' => (∃ v, e = .returned v) ∧
      ((∃ xs, xs = Ser.range 65536 a (by decide) c.toNat ∧ J xs W') ∨ (∃ pre, (pre ≠ [] ∧ pre <+: Ser.range 65536 a (by decide) c.toNat) ∧ Jx pre W')) := by
  have hro : Fence.wide.round = none := rfl
  have hF : Fence.wide.fn 41 := trivial
  have hF2 : Fence.wide.fn 42 := trivial
  have hcell := hcn.cell
  refine callsIn_of_wp Try.func41 rfl hF ?_ hro
  simp only [Try.ntmps41, List.size_toArray, List.length_cons, List.length_nil, Nat.reduceAdd, Nat.reduceSub, Array.replicate_succ, Array.replicate_zero, List.push_toArray, List.append_toArray, List.nil_append, List.cons_append]
  gi_wp2
  gi_loopw [6] (fun i wr => ∃ k : Nat, k ≤ c.toNat ∧ i = .int .i64 (k : Int) ∧ J (Ser.range 65536 a (by decide) k) wr ∧ Boxed wr bf 31 (.int .u16 a)) (fun i wr => c.toNat - (intOf i).toNat)
  case atStart => exact ⟨0, by omega, rfl, h0, hcf⟩
  case round =>
    obtain ⟨k, hk, rfl, hJ, hbx⟩ := hrel
    by_cases hlt : (k : Int) < c
    · have hd : decide ((k : Int) < c) = true := decide_eq_true hlt
      have hb := hbx.cell
      obtain ⟨fn, tmps, assign, body, hy, hR⟩ := hY _ ⟨Ser.step 65536 a (k : Int), Ser.step_lt a _ (by decide)⟩ wr hJ (by rw [Ser.range_length]; omega)
      dsimp only at hy
      gi_wp2_with (gi_at_call 42; refine (callsIn_wide.2 (step16 _ _ _ ha (by constructor <;> omega))).mono ?_; rintro e w' ⟨rfl, rfl⟩)
      refine hR.mono ?_
      rintro e W3 (⟨rfl, hJ3, hk3⟩ | ⟨rfl, hJx3⟩)
      · gi_wp2
        go_roundw
        case rel => exact ⟨k + 1, by omega, by simp, by rw [Ser.range_succ]; exact hJ3, hk3.box hbf.1 hbf.2 hbx⟩
        case measure => simp [intOf]; omega
      · gi_wp2
        refine bodyPost_ret (results_none rfl _ _ _) rfl ?_
        exact ⟨⟨_, rfl⟩, .inr ⟨_, ⟨by simp, by rw [← Ser.range_succ]; exact Ser.range_prefix _ _ _ (by omega)⟩, hJx3⟩⟩
    · have hd : decide ((k : Int) < c) = false := decide_eq_false hlt
      gi_wp2
      go_end0
      refine ⟨⟨_, rfl⟩, .inl ?_⟩
      have hkc : k = c.toNat := by omega
      rw [← hkc]; exact hJ

theorem range16_stops (n : Nat) (hn : 1 ≤ n) (bn bf lo hi : Nat) (a c : Int) (ha : Of 65536 a) (hc : W64 c) (w : World) (hbn : lo ≤ bn ∧ bn < hi) (hbf : lo ≤ bf ∧ bf < hi) (hcn : Boxed w bn 3 (.int .i64 c)) (hcf : Boxed w bf 31 (.int .u16 a)) :
    SeqStopsK Fence.wide n Try.prog 41 #[.pointer (some ⟨bn, 0, none⟩), .pointer (some ⟨bf, 0, none⟩)] (fun x : Num 65536 => #[Value.int .u16 x.1]) (KpR lo hi) (fun ys => ys = Ser.range 65536 a (by decide) c.toNat) (fun pre => pre ≠ [] ∧ pre <+: Ser.range 65536 a (by decide) c.toNat) c.toNat w :=
  fun l J Jx W hW _ _ hY h0 => range16_1 n hn l bn bf lo hi a c ha hc J Jx hY W hbn hbf ((hW.block _ hcn.lt).trans hcn) ((hW.block _ hcf.lt).trans hcf) h0

set_option maxHeartbeats 400000 in
theorem range32 (a c : Int) (w : World) :
    Calls Try.prog 26 #[.int .u32 a, .int .i64 c] w fun e w' => e = .returned (.func (.func 40) #[] #[.pointer (some ⟨w.heap.size + 1, 0, none⟩), .pointer (some ⟨w.heap.size, 0, none⟩)]) ∧ w' = (w.alloc (.cells #[.int .u32 a] 22)).alloc (.cells #[.int .i64 c] 3) := by
  go_enter Try.func26, Try.ntmps26
  go_wp2
  go_ret
  exact ⟨rfl, rfl⟩

set_option maxHeartbeats 1000000 in
theorem range32_1 (n : Nat) (hn : 1 ≤ n) (l bn bf lo hi : Nat) (a c : Int) (ha : Of 4294967296 a) (hc : W64 c) (J Jx : List (Num 4294967296) → World → Prop)
    (hY : ∀ pre x W1, J pre W1 → pre.length < c.toNat → YieldAt Fence.wide (n - 1) Try.prog l #[.int .u32 x.1] W1 fun e W' =>
      (e = .returned (.bool true) ∧ J (pre ++ [x]) W' ∧ KpR lo hi W1 W') ∨ (e = .returned (.bool false) ∧ Jx (pre ++ [x]) W'))
    (W : World) (hbn : lo ≤ bn ∧ bn < hi) (hbf : lo ≤ bf ∧ bf < hi) (hcn : Boxed W bn 3 (.int .i64 c)) (hcf : Boxed W bf 22 (.int .u32 a)) (h0 : J [] W) :
    CallsIn Fence.wide n Try.prog 40 #[.func (.yield l) #[] #[], .pointer (some ⟨bn, 0, none⟩), .pointer (some ⟨bf, 0, none⟩)] W fun e W' => (∃ v, e = .returned v) ∧
      ((∃ xs, xs = Ser.range 4294967296 a (by decide) c.toNat ∧ J xs W') ∨ (∃ pre, (pre ≠ [] ∧ pre <+: Ser.range 4294967296 a (by decide) c.toNat) ∧ Jx pre W')) := by
  have hro : Fence.wide.round = none := rfl
  have hF : Fence.wide.fn 40 := trivial
  have hF2 : Fence.wide.fn 13 := trivial
  have hcell := hcn.cell
  refine callsIn_of_wp Try.func40 rfl hF ?_ hro
  simp only [Try.ntmps40, List.size_toArray, List.length_cons, List.length_nil, Nat.reduceAdd, Nat.reduceSub, Array.replicate_succ, Array.replicate_zero, List.push_toArray, List.append_toArray, List.nil_append, List.cons_append]
  gi_wp2
  gi_loopw [6] (fun i wr => ∃ k : Nat, k ≤ c.toNat ∧ i = .int .i64 (k : Int) ∧ J (Ser.range 4294967296 a (by decide) k) wr ∧ Boxed wr bf 22 (.int .u32 a)) (fun i wr => c.toNat - (intOf i).toNat)
  case atStart => exact ⟨0, by omega, rfl, h0, hcf⟩
  case round =>
    obtain ⟨k, hk, rfl, hJ, hbx⟩ := hrel
    by_cases hlt : (k : Int) < c
    · have hd : decide ((k : Int) < c) = true := decide_eq_true hlt
      have hb := hbx.cell
      obtain ⟨fn, tmps, assign, body, hy, hR⟩ := hY _ ⟨Ser.step 4294967296 a (k : Int), Ser.step_lt a _ (by decide)⟩ wr hJ (by rw [Ser.range_length]; omega)
      dsimp only at hy
      gi_wp2_with (gi_at_call 13; refine (callsIn_wide.2 (step32 _ _ _ ha (by constructor <;> omega))).mono ?_; rintro e w' ⟨rfl, rfl⟩)
      refine hR.mono ?_
      rintro e W3 (⟨rfl, hJ3, hk3⟩ | ⟨rfl, hJx3⟩)
      · gi_wp2
        go_roundw
        case rel => exact ⟨k + 1, by omega, by simp, by rw [Ser.range_succ]; exact hJ3, hk3.box hbf.1 hbf.2 hbx⟩
        case measure => simp [intOf]; omega
      · gi_wp2
        refine bodyPost_ret (results_none rfl _ _ _) rfl ?_
        exact ⟨⟨_, rfl⟩, .inr ⟨_, ⟨by simp, by rw [← Ser.range_succ]; exact Ser.range_prefix _ _ _ (by omega)⟩, hJx3⟩⟩
    · have hd : decide ((k : Int) < c) = false := decide_eq_false hlt
      gi_wp2
      go_end0
      refine ⟨⟨_, rfl⟩, .inl ?_⟩
      have hkc : k = c.toNat := by omega
      rw [← hkc]; exact hJ

theorem range32_stops (n : Nat) (hn : 1 ≤ n) (bn bf lo hi : Nat) (a c : Int) (ha : Of 4294967296 a) (hc : W64 c) (w : World) (hbn : lo ≤ bn ∧ bn < hi) (hbf : lo ≤ bf ∧ bf < hi) (hcn : Boxed w bn 3 (.int .i64 c)) (hcf : Boxed w bf 22 (.int .u32 a)) :
    SeqStopsK Fence.wide n Try.prog 40 #[.pointer (some ⟨bn, 0, none⟩), .pointer (some ⟨bf, 0, none⟩)] (fun x : Num 4294967296 => #[Value.int .u32 x.1]) (KpR lo hi) (fun ys => ys = Ser.range 4294967296 a (by decide) c.toNat) (fun pre => pre ≠ [] ∧ pre <+: Ser.range 4294967296 a (by decide) c.toNat) c.toNat w :=
  fun l J Jx W hW _ _ hY h0 => range32_1 n hn l bn bf lo hi a c ha hc J Jx hY W hbn hbf ((hW.block _ hcn.lt).trans hcn) ((hW.block _ hcf.lt).trans hcf) h0
end Go.Proofs.Ytmfkedkkkmnmmaa
