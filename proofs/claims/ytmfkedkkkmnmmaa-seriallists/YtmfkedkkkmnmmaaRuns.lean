/- What the iterators of package serial hand out: Runs of numbers of 16 and of 32 bits. No condition of its own. -/
import Derived.Test.YtmfkedkkkmnmmaaFirst
import Derived.Test.YtmfkedkkkmnmmaaRange
namespace Go.Proofs.Ytmfkedkkkmnmmaa
open Go.RowKit Go.Shelf
set_option linter.unusedVariables false
set_option linter.unusedSimpArgs false
attribute [local go_sem] Oper.semAt_some

def Ser.bump (x : Int) : List (Int × Nat) → List (Int × Nat)
  | [] => [(x, 1)]
  | (_, n) :: t => (x, n + 1) :: t
/-- The runs of a list: their first numbers, and how many they have. -/
def Ser.runs (m : Int) : List Int → List (Int × Nat)
  | [] => []
  | [x] => [(x, 1)]
  | x :: y :: r => if y = Ser.step m x 1 then Ser.bump x (Ser.runs m (y :: r)) else (x, 1) :: Ser.runs m (y :: r)
theorem Ser.runs_cons (m : Int) : ∀ (x : Int) (r : List Int), Ser.runs m (x :: r) = (x, Ser.runLen m (x :: r)) :: Ser.runs m ((x :: r).drop (Ser.runLen m (x :: r)))
  | x, [] => rfl
  | x, y :: r => by
    have e1 : Ser.runs m (x :: y :: r) = if y = Ser.step m x 1 then Ser.bump x (Ser.runs m (y :: r)) else (x, 1) :: Ser.runs m (y :: r) := rfl
    have e2 : Ser.runLen m (x :: y :: r) = if y = Ser.step m x 1 then Ser.runLen m (y :: r) + 1 else 1 := rfl
    rw [e1, e2]
    by_cases h : y = Ser.step m x 1
    · rw [if_pos h, if_pos h, Ser.runs_cons m y r]
      simp [Ser.bump]
    · rw [if_neg h, if_neg h]; simp
theorem Ser.runs_length (m : Int) : ∀ l : List Int, (Ser.runs m l).length ≤ l.length
  | [] => Nat.le_refl _
  | [_] => Nat.le_refl _
  | x :: y :: r => by
    have := Ser.runs_length m (y :: r)
    unfold Ser.runs
    split
    · cases h : Ser.runs m (y :: r) with
      | nil => simp [Ser.bump]
      | cons p t => rw [h] at this; simp [Ser.bump] at this ⊢; omega
    · simp at this ⊢; omega
abbrev Part (m : Int) := Num m × Nat
def plain {m : Int} (p : Part m) : Int × Nat := (p.1.1, p.2)

theorem numT16 : NumT Try.prog 54 31 .u16 2 := ⟨Try.underlying54, Try.underlying31, by kernel_rfl⟩

set_option maxHeartbeats 1000000 in
theorem runs16 (v : Value) (l : List Int) (w : World) (hv : NumsAt .u16 w v l) (hlen : l.length ≤ 1000000) :
    Calls Try.prog 31 #[v] w fun e w' => ∃ b u, e = .returned (.func (.func 43) #[] #[.pointer (some ⟨b, 0, none⟩)]) ∧ Boxed w' b 54 u ∧ NumsAt .u16 w' u l ∧ (∀ g, blockOf u = some g → w.heap.size ≤ g ∧ g < w'.heap.size) ∧ w.heap.size ≤ b ∧ Ext w w' := by
  have HV : Hid (NumsAt .u16 w v l) := hv
  obtain ⟨a, cap, rfl, hcap, hcell⟩ := hv.form
  clear hv hcell
  go_enter Try.func31, Try.ntmps31
  go_wp2_with (at_builtin; refine wpList_append_nums numT16 rfl _ _ rfl w.heap.size [] l (OwnN.nil _ _ _ _) HV.out (by simp; omega) (by simp; omega) (Nat.le_refl _) ?_; intro ad cap' w1 ho hg hob)
  go_ret
  simp only [List.nil_append] at ho hob ⊢
  have e1 : Ext w w1 := Ext.of_grown hg
  have e2 : Ext w1 (w1.alloc (.cells #[.slice ad l.length cap'] 54)) := Ext.alloc w1 _
  obtain ⟨ad', c', es, hn, hs⟩ := ho.slice
  refine ⟨w1.heap.size, .slice ad l.length cap', rfl, Boxed.new w1 54 _, (ho.ext e2).nums, fun g hg' => ?_, e1.size, e1.trans e2⟩
  simp only [Value.slice.injEq] at es
  obtain ⟨rfl, _, rfl⟩ := es
  cases ad with
  | none => simp [blockOf] at hg'
  | some x =>
    obtain ⟨g', rfl, h1, h2⟩ := hs x rfl
    simp [blockOf] at hg'
    subst hg'
    exact ⟨h1, Nat.lt_of_lt_of_le h2 e2.size⟩

set_option maxHeartbeats 1000000 in
theorem runs16_1 (n : Nat) (hn : 1 ≤ n) (y b lo hi : Nat) (v : Value) (l : List Int) (hl : ∀ x ∈ l, Of 65536 x) (hlen : l.length ≤ 1000000) (W : World) (B0 : Nat) (J Jx : List (Part 65536) → World → Prop) (hJ : AbidesFrom B0 J)
    (hY : ∀ pre x W1, J pre W1 → pre.length < (Ser.runs 65536 l).length → YieldAt Fence.wide (n - 1) Try.prog y #[.int .u16 x.1.1, .int .i64 (x.2 : Int)] W1 fun e W' =>
      (e = .returned (.bool true) ∧ J (pre ++ [x]) W' ∧ KpR lo hi W1 W') ∨ (e = .returned (.bool false) ∧ Jx (pre ++ [x]) W'))
    (hb : lo ≤ b ∧ b < hi) (hbl : ∀ g, blockOf v = some g → lo ≤ g ∧ g < hi) (hbx : Boxed W b 54 v) (hv : NumsAt .u16 W v l) (h0 : J [] W) :
    CallsIn Fence.wide n Try.prog 43 #[.func (.yield y) #[] #[], .pointer (some ⟨b, 0, none⟩)] W fun e W' => (∃ v, e = .returned v) ∧
      ((∃ xs, xs.map plain = Ser.runs 65536 l ∧ J xs W') ∨ (∃ pre, (pre ≠ [] ∧ pre.map plain <+: Ser.runs 65536 l) ∧ Jx pre W')) := by
  have hro : Fence.wide.round = none := rfl
  have hF : Fence.wide.fn 43 := trivial
  have hF2 : Fence.wide.fn 44 := trivial
  refine callsIn_of_wp Try.func43 rfl hF ?_ hro
  simp only [Try.ntmps43, List.size_toArray, List.length_cons, List.length_nil, Nat.reduceAdd, Nat.reduceSub, Array.replicate_succ, Array.replicate_zero, List.push_toArray, List.append_toArray, List.nil_append, List.cons_append]
  gi_wp2
  gi_loopw [3] (fun i wr => ∃ (k : Nat) (pre : List (Part 65536)), k ≤ l.length ∧ i = .int .i64 (k : Int) ∧ J pre wr ∧ Boxed wr b 54 v ∧ NumsAt .u16 wr v l ∧ Hid (pre.map plain ++ Ser.runs 65536 (l.drop k) = Ser.runs 65536 l)) (fun i wr => l.length - (intOf i).toNat)
  case atStart => exact ⟨0, [], by omega, rfl, h0, hbx, hv, rfl⟩
  case round =>
    obtain ⟨k, pre, hk, rfl, hJ0, hbw, hvw, HP⟩ := hrel
    have HV : Hid (NumsAt .u16 wr v l) := hvw
    obtain ⟨a, cap, rfl, hcap, hcell⟩ := hvw.form
    have hbc := hbw.cell
    by_cases hlt : k < l.length
    · have hd : decide ((k : Int) < (l.length : Int)) = true := decide_eq_true (by omega)
      obtain ⟨bb, off, rfl, hc⟩ := hcell k hlt
      have hS := HV.out.sliced k l.length (by omega) (Nat.le_refl _)
      rw [List.take_length] at hS
      have hSv : Go.sliced (some ⟨bb, off, none⟩) k l.length cap 1 = .slice (some ⟨bb, off + k, none⟩) (l.length - k) (cap - k) := by
        simp [Go.sliced, add_plain, show ¬ cap = k by omega]
      rw [hSv] at hS
      have HS : Hid (NumsAt .u16 wr (.slice (some ⟨bb, off + k, none⟩) (l.length - k) (cap - k)) (l.drop k)) := hS
      clear hSv
      clear hcell hS
      have hx := hl _ (getD_mem l 0 k hlt)
      have hdr : l.drop k = l.getD k 0 :: l.drop (k + 1) := by
        rw [List.drop_eq_getElem_cons hlt]; simp [List.getD_eq_getElem?_getD, hlt]
      have HR : Hid (Ser.runs 65536 (l.getD k 0 :: l.drop (k + 1)) = (l.getD k 0, Ser.runLen 65536 (l.getD k 0 :: l.drop (k + 1))) :: Ser.runs 65536 ((l.getD k 0 :: l.drop (k + 1)).drop (Ser.runLen 65536 (l.getD k 0 :: l.drop (k + 1))))) := Ser.runs_cons 65536 (l.getD k 0) (l.drop (k + 1))
      have hp := Ser.runLen_pos 65536 (l.drop k) (by rw [hdr]; simp)
      have hle := Ser.runLen_le 65536 (l.drop k)
      rw [List.length_drop] at hle
      have HQ : Hid (Ser.runs 65536 (l.drop k) = (l.getD k 0, Ser.runLen 65536 (l.drop k)) :: Ser.runs 65536 (l.drop (k + Ser.runLen 65536 (l.drop k)))) := by
        show Ser.runs 65536 (l.drop k) = _
        conv => lhs; rw [hdr, HR.out]
        rw [← hdr, List.drop_drop]
      have HD : Hid (l.drop k ≠ [] ∧ ∀ x ∈ l.drop k, Of 65536 x) := ⟨by rw [hdr]; simp, fun x h => hl x (List.mem_of_mem_drop h)⟩
      clear hdr HR
      obtain ⟨x, hxe⟩ : ∃ x, l.getD k 0 = x := ⟨_, rfl⟩
      obtain ⟨r, hre⟩ : ∃ r, Ser.runLen 65536 (l.drop k) = r := ⟨_, rfl⟩
      rw [hxe] at hc hx HQ
      rw [hre] at hp hle HQ
      have HRE : Hid (Ser.runLen 65536 (l.drop k) = r) := hre
      have HJW : Hid (∀ w2, Ext wr w2 → J pre w2) := fun w2 he => hJ _ _ _ none hJ0 ⟨he.os, he.tape, he.output, he.size, fun j hj _ => he.block j hj⟩ (fun r e => by cases e)
      have HLN : Hid (pre.length < (Ser.runs 65536 l).length) := by
        show pre.length < _
        rw [← HP.out, HQ.out]; simp
      clear hxe hre
      gi_wp2_with (gi_at_call 44; refine (callsIn_wide.2 (firstRun16 _ (l.drop k) _ HS.out HD.out.2 HD.out.1)).mono ?_; rintro e w2 ⟨rfl, he2⟩; rw [HRE.out]; have hbw2 : Boxed w2 b 54 _ := (he2.block b hbw.lt).trans hbw; have hbc2 := hbw2.cell; have hc2 := he2.cell hc; obtain ⟨fn, tmps, assign, body, hy, hR⟩ := hY pre (⟨x, hx⟩, r) w2 (HJW.out w2 he2) HLN.out; dsimp only at hy)
      refine hR.mono ?_
      rintro e W3 (⟨rfl, hJ3, hk3⟩ | ⟨rfl, hJx3⟩)
      · gi_wp2
        go_roundw
        case rel =>
          refine ⟨k + r, pre ++ [(⟨x, hx⟩, r)], by omega, by simp, hJ3, hk3.box hb.1 hb.2 hbw2, (HV.out.ext he2).via fun g hg hlt' => hk3 g (hbl g hg).1 (hbl g hg).2, ?_⟩
          show _ = _
          rw [← HP.out, HQ.out]; simp [plain]
        case measure => simp [intOf]; omega
      · gi_wp2
        refine bodyPost_ret (results_none rfl _ _ _) rfl ?_
        refine ⟨⟨_, rfl⟩, .inr ⟨_, ⟨by simp, ?_⟩, hJx3⟩⟩
        rw [← HP.out, HQ.out]
        exact ⟨Ser.runs 65536 (l.drop (k + r)), by simp [plain]⟩
    · have hd : decide ((k : Int) < (l.length : Int)) = false := decide_eq_false (by omega)
      gi_wp2
      go_end0
      refine ⟨⟨_, rfl⟩, .inl ⟨pre, ?_, hJ0⟩⟩
      have := HP.out
      rwa [List.drop_of_length_le (by omega), Ser.runs, List.append_nil] at this

theorem runs16_stops (n : Nat) (hn : 1 ≤ n) (b lo hi : Nat) (v : Value) (l : List Int) (hl : ∀ x ∈ l, Of 65536 x) (hlen : l.length ≤ 1000000) (w : World)
    (hb : lo ≤ b ∧ b < hi) (hbl : ∀ g, blockOf v = some g → lo ≤ g ∧ g < hi) (hbx : Boxed w b 54 v) (hv : NumsAt .u16 w v l) :
    SeqStopsK Fence.wide n Try.prog 43 #[.pointer (some ⟨b, 0, none⟩)] (fun x : Part 65536 => #[Value.int .u16 x.1.1, .int .i64 (x.2 : Int)]) (KpR lo hi) (fun ys => ys.map plain = Ser.runs 65536 l) (fun pre => pre ≠ [] ∧ pre.map plain <+: Ser.runs 65536 l) (Ser.runs 65536 l).length w :=
  fun y J Jx W hW hJ _ hY h0 => runs16_1 n hn y b lo hi v l hl hlen W _ J Jx hJ hY hb hbl ((hW.block _ hbx.lt).trans hbx) (hv.ext hW) h0

theorem numT32 : NumT Try.prog 39 22 .u32 4 := ⟨Try.underlying39, Try.underlying22, by kernel_rfl⟩

set_option maxHeartbeats 1000000 in
theorem runs32 (v : Value) (l : List Int) (w : World) (hv : NumsAt .u32 w v l) (hlen : l.length ≤ 1000000) :
    Calls Try.prog 24 #[v] w fun e w' => ∃ b u, e = .returned (.func (.func 38) #[] #[.pointer (some ⟨b, 0, none⟩)]) ∧ Boxed w' b 39 u ∧ NumsAt .u32 w' u l ∧ (∀ g, blockOf u = some g → w.heap.size ≤ g ∧ g < w'.heap.size) ∧ w.heap.size ≤ b ∧ Ext w w' := by
  have HV : Hid (NumsAt .u32 w v l) := hv
  obtain ⟨a, cap, rfl, hcap, hcell⟩ := hv.form
  clear hv hcell
  go_enter Try.func24, Try.ntmps24
  go_wp2_with (at_builtin; refine wpList_append_nums numT32 rfl _ _ rfl w.heap.size [] l (OwnN.nil _ _ _ _) HV.out (by simp; omega) (by simp; omega) (Nat.le_refl _) ?_; intro ad cap' w1 ho hg hob)
  go_ret
  simp only [List.nil_append] at ho hob ⊢
  have e1 : Ext w w1 := Ext.of_grown hg
  have e2 : Ext w1 (w1.alloc (.cells #[.slice ad l.length cap'] 39)) := Ext.alloc w1 _
  obtain ⟨ad', c', es, hn, hs⟩ := ho.slice
  refine ⟨w1.heap.size, .slice ad l.length cap', rfl, Boxed.new w1 39 _, (ho.ext e2).nums, fun g hg' => ?_, e1.size, e1.trans e2⟩
  simp only [Value.slice.injEq] at es
  obtain ⟨rfl, _, rfl⟩ := es
  cases ad with
  | none => simp [blockOf] at hg'
  | some x =>
    obtain ⟨g', rfl, h1, h2⟩ := hs x rfl
    simp [blockOf] at hg'
    subst hg'
    exact ⟨h1, Nat.lt_of_lt_of_le h2 e2.size⟩

set_option maxHeartbeats 1000000 in
theorem runs32_1 (n : Nat) (hn : 1 ≤ n) (y b lo hi : Nat) (v : Value) (l : List Int) (hl : ∀ x ∈ l, Of 4294967296 x) (hlen : l.length ≤ 1000000) (W : World) (B0 : Nat) (J Jx : List (Part 4294967296) → World → Prop) (hJ : AbidesFrom B0 J)
    (hY : ∀ pre x W1, J pre W1 → pre.length < (Ser.runs 4294967296 l).length → YieldAt Fence.wide (n - 1) Try.prog y #[.int .u32 x.1.1, .int .i64 (x.2 : Int)] W1 fun e W' =>
      (e = .returned (.bool true) ∧ J (pre ++ [x]) W' ∧ KpR lo hi W1 W') ∨ (e = .returned (.bool false) ∧ Jx (pre ++ [x]) W'))
    (hb : lo ≤ b ∧ b < hi) (hbl : ∀ g, blockOf v = some g → lo ≤ g ∧ g < hi) (hbx : Boxed W b 39 v) (hv : NumsAt .u32 W v l) (h0 : J [] W) :
    CallsIn Fence.wide n Try.prog 38 #[.func (.yield y) #[] #[], .pointer (some ⟨b, 0, none⟩)] W fun e W' => (∃ v, e = .returned v) ∧
      ((∃ xs, xs.map plain = Ser.runs 4294967296 l ∧ J xs W') ∨ (∃ pre, (pre ≠ [] ∧ pre.map plain <+: Ser.runs 4294967296 l) ∧ Jx pre W')) := by
  have hro : Fence.wide.round = none := rfl
  have hF : Fence.wide.fn 38 := trivial
  have hF2 : Fence.wide.fn 39 := trivial
  refine callsIn_of_wp Try.func38 rfl hF ?_ hro
  simp only [Try.ntmps38, List.size_toArray, List.length_cons, List.length_nil, Nat.reduceAdd, Nat.reduceSub, Array.replicate_succ, Array.replicate_zero, List.push_toArray, List.append_toArray, List.nil_append, List.cons_append]
  gi_wp2
  gi_loopw [3] (fun i wr => ∃ (k : Nat) (pre : List (Part 4294967296)), k ≤ l.length ∧ i = .int .i64 (k : Int) ∧ J pre wr ∧ Boxed wr b 39 v ∧ NumsAt .u32 wr v l ∧ Hid (pre.map plain ++ Ser.runs 4294967296 (l.drop k) = Ser.runs 4294967296 l)) (fun i wr => l.length - (intOf i).toNat)
  case atStart => exact ⟨0, [], by omega, rfl, h0, hbx, hv, rfl⟩
  case round =>
    obtain ⟨k, pre, hk, rfl, hJ0, hbw, hvw, HP⟩ := hrel
    have HV : Hid (NumsAt .u32 wr v l) := hvw
    obtain ⟨a, cap, rfl, hcap, hcell⟩ := hvw.form
    have hbc := hbw.cell
    by_cases hlt : k < l.length
    · have hd : decide ((k : Int) < (l.length : Int)) = true := decide_eq_true (by omega)
      obtain ⟨bb, off, rfl, hc⟩ := hcell k hlt
      have hS := HV.out.sliced k l.length (by omega) (Nat.le_refl _)
      rw [List.take_length] at hS
      have hSv : Go.sliced (some ⟨bb, off, none⟩) k l.length cap 1 = .slice (some ⟨bb, off + k, none⟩) (l.length - k) (cap - k) := by
        simp [Go.sliced, add_plain, show ¬ cap = k by omega]
      rw [hSv] at hS
      have HS : Hid (NumsAt .u32 wr (.slice (some ⟨bb, off + k, none⟩) (l.length - k) (cap - k)) (l.drop k)) := hS
      clear hSv
      clear hcell hS
      have hx := hl _ (getD_mem l 0 k hlt)
      have hdr : l.drop k = l.getD k 0 :: l.drop (k + 1) := by
        rw [List.drop_eq_getElem_cons hlt]; simp [List.getD_eq_getElem?_getD, hlt]
      have HR : Hid (Ser.runs 4294967296 (l.getD k 0 :: l.drop (k + 1)) = (l.getD k 0, Ser.runLen 4294967296 (l.getD k 0 :: l.drop (k + 1))) :: Ser.runs 4294967296 ((l.getD k 0 :: l.drop (k + 1)).drop (Ser.runLen 4294967296 (l.getD k 0 :: l.drop (k + 1))))) := Ser.runs_cons 4294967296 (l.getD k 0) (l.drop (k + 1))
      have hp := Ser.runLen_pos 4294967296 (l.drop k) (by rw [hdr]; simp)
      have hle := Ser.runLen_le 4294967296 (l.drop k)
      rw [List.length_drop] at hle
      have HQ : Hid (Ser.runs 4294967296 (l.drop k) = (l.getD k 0, Ser.runLen 4294967296 (l.drop k)) :: Ser.runs 4294967296 (l.drop (k + Ser.runLen 4294967296 (l.drop k)))) := by
        show Ser.runs 4294967296 (l.drop k) = _
        conv => lhs; rw [hdr, HR.out]
        rw [← hdr, List.drop_drop]
      have HD : Hid (l.drop k ≠ [] ∧ ∀ x ∈ l.drop k, Of 4294967296 x) := ⟨by rw [hdr]; simp, fun x h => hl x (List.mem_of_mem_drop h)⟩
      clear hdr HR
      obtain ⟨x, hxe⟩ : ∃ x, l.getD k 0 = x := ⟨_, rfl⟩
      obtain ⟨r, hre⟩ : ∃ r, Ser.runLen 4294967296 (l.drop k) = r := ⟨_, rfl⟩
      rw [hxe] at hc hx HQ
      rw [hre] at hp hle HQ
      have HRE : Hid (Ser.runLen 4294967296 (l.drop k) = r) := hre
      have HJW : Hid (∀ w2, Ext wr w2 → J pre w2) := fun w2 he => hJ _ _ _ none hJ0 ⟨he.os, he.tape, he.output, he.size, fun j hj _ => he.block j hj⟩ (fun r e => by cases e)
      have HLN : Hid (pre.length < (Ser.runs 4294967296 l).length) := by
        show pre.length < _
        rw [← HP.out, HQ.out]; simp
      clear hxe hre
      gi_wp2_with (gi_at_call 39; refine (callsIn_wide.2 (firstRun32 _ (l.drop k) _ HS.out HD.out.2 HD.out.1)).mono ?_; rintro e w2 ⟨rfl, he2⟩; rw [HRE.out]; have hbw2 : Boxed w2 b 39 _ := (he2.block b hbw.lt).trans hbw; have hbc2 := hbw2.cell; have hc2 := he2.cell hc; obtain ⟨fn, tmps, assign, body, hy, hR⟩ := hY pre (⟨x, hx⟩, r) w2 (HJW.out w2 he2) HLN.out; dsimp only at hy)
      refine hR.mono ?_
      rintro e W3 (⟨rfl, hJ3, hk3⟩ | ⟨rfl, hJx3⟩)
      · gi_wp2
        go_roundw
        case rel =>
          refine ⟨k + r, pre ++ [(⟨x, hx⟩, r)], by omega, by simp, hJ3, hk3.box hb.1 hb.2 hbw2, (HV.out.ext he2).via fun g hg hlt' => hk3 g (hbl g hg).1 (hbl g hg).2, ?_⟩
          show _ = _
          rw [← HP.out, HQ.out]; simp [plain]
        case measure => simp [intOf]; omega
      · gi_wp2
        refine bodyPost_ret (results_none rfl _ _ _) rfl ?_
        refine ⟨⟨_, rfl⟩, .inr ⟨_, ⟨by simp, ?_⟩, hJx3⟩⟩
        rw [← HP.out, HQ.out]
        exact ⟨Ser.runs 4294967296 (l.drop (k + r)), by simp [plain]⟩
    · have hd : decide ((k : Int) < (l.length : Int)) = false := decide_eq_false (by omega)
      gi_wp2
      go_end0
      refine ⟨⟨_, rfl⟩, .inl ⟨pre, ?_, hJ0⟩⟩
      have := HP.out
      rwa [List.drop_of_length_le (by omega), Ser.runs, List.append_nil] at this

theorem runs32_stops (n : Nat) (hn : 1 ≤ n) (b lo hi : Nat) (v : Value) (l : List Int) (hl : ∀ x ∈ l, Of 4294967296 x) (hlen : l.length ≤ 1000000) (w : World)
    (hb : lo ≤ b ∧ b < hi) (hbl : ∀ g, blockOf v = some g → lo ≤ g ∧ g < hi) (hbx : Boxed w b 39 v) (hv : NumsAt .u32 w v l) :
    SeqStopsK Fence.wide n Try.prog 38 #[.pointer (some ⟨b, 0, none⟩)] (fun x : Part 4294967296 => #[Value.int .u32 x.1.1, .int .i64 (x.2 : Int)]) (KpR lo hi) (fun ys => ys.map plain = Ser.runs 4294967296 l) (fun pre => pre ≠ [] ∧ pre.map plain <+: Ser.runs 4294967296 l) (Ser.runs 4294967296 l).length w :=
  fun y J Jx W hW hJ _ hY h0 => runs32_1 n hn y b lo hi v l hl hlen W _ J Jx hJ hY hb hbl ((hW.block _ hbx.lt).trans hbx) (hv.ext hW) h0
end Go.Proofs.Ytmfkedkkkmnmmaa
