/- A key made full, a key changed, parts behind a state. Condition: the tables hold what the text lays. -/
import Derived.Test.YtaklbnaaoebknaaDoorMacMath
import Derived.Test.YtaklbnaaoebknaaDoorTexts
namespace Go.Proofs.YtaklbnaaoebknaaDoor
open Go Go.RowKit
set_option linter.unusedVariables false
set_option linter.unusedSimpArgs false
set_option maxRecDepth 100000

theorem zeroKey : (Tryd.prog.info? 42).bind (·.zero) = some (.agg (bA (List.replicate 64 0))) := by kernel_rfl
/-- An array of bytes, cut whole. -/
theorem exec_sliceA {r : Operand → Value} {o : Oper} {t : TypeId} {x : Operand} {w : World} {g n : Nat} (ho : o.op = .slice t x none none none) (hu : Tryd.prog.underlying t = some (.array n 5)) (h1 : r x = .pointer (some ⟨g, 0, none⟩)) (hn : 0 < n) :
    (execOp r o).run Tryd.prog w = .ok (.value (.slice (some ⟨g, 0, none⟩) n n)) w := by
  obtain ⟨i, hi, _, hs, _⟩ := byteT.ex
  have : (⟨g, 0, none⟩ : Addr).add 0 = ⟨g, 0, none⟩ := by rw [add_plain]
  simp [execOp, ho, h1, Instr.sliceAt, Instr.sureAddr, run_underlying hu, Instr.sliceBounds, run_sliceBound, sizeOf, typeInfo, hi, hs, this, show ¬ n = 0 by omega]
theorem bytes_ofBlk {w : World} {g t n : Nat} {D : List Nat} (h : Blk w g (bA D) t) (hD : Sha.AllB D) (hl : D.length = n) (hn : n ≤ 1000) : BytesAt w (.slice (some ⟨g, 0, none⟩) n n) D := by
  subst hl
  refine ⟨hD, by unfold maxLen; omega, .inr ⟨⟨g, 0, none⟩, D.length, rfl, Nat.le_refl _, by unfold maxLen; omega, fun j hj => ?_⟩⟩
  rw [add_plain, Nat.zero_add, h.cell, bA_get D j hj]
theorem putIn_key {L : List Nat} (h : L.length ≤ 64) : putIn (bA (List.replicate 64 0)) 0 (cellsB L) = bA (L ++ List.replicate (64 - L.length) 0) := by
  unfold putIn bA
  congr 1
  rw [List.take_zero, List.nil_append, Nat.zero_add, cellsB_length]
  unfold cellsB
  rw [List.map_append, List.map_replicate, List.drop_replicate, List.map_replicate]
theorem exec_copyA {r : Operand → Value} {o : Oper} {x y : Operand} {w : World} {s t : Nat} {u : Value} {l : List Nat} {C : Array Value}
    (ho : o.op = .call { callee := .builtin .copy, args := #[x, y], argTypes := #[22, 22] }) (h1 : r x = .slice (some ⟨s, 0, none⟩) 64 64) (h2 : r y = u) (hu : BytesAt w u l) (hB : Blk w s C t) (hC : C.size = 64) (hl : l.length ≤ 64) :
    (execOp r o).run Tryd.prog w = .ok (.value (.int .i64 (l.length : Int))) (w.setRow s (putIn C 0 (cellsB l))) := by
  obtain ⟨hb, hm, h3 | ⟨ad, cap, rfl, hle, hcm, hc⟩⟩ := hu
  · obtain ⟨rfl, rfl⟩ := h3
    have hr := run_copy_nil (P := Tryd.prog) w 22 22 o.type 5 ⟨s, 0, none⟩ 64 64 Tryd.underlying22 (by kernel_rfl)
    have : putIn C 0 (cellsB ([] : List Nat)) = C := by simp [putIn, cellsB]
    rw [this, setRow_self w s C t (0, 0) hB]
    simp only [execOp, ho, resolve, invoke, builtin, Sem.run_bind, Sem.run_pure, Result.andThen_ok, List.map_toArray, List.map_cons, List.map_nil, h1, h2, hr]
    rfl
  · have hr := run_copy_row (P := Tryd.prog) w 22 22 o.type 5 s 0 64 64 ad l.length cap C t (cellsB l) Tryd.underlying22 (by kernel_rfl) hB (by rw [cellsB_length]; exact (Nat.min_eq_left hl).symm)
      (fun j v hv => by
        obtain ⟨hj, rfl⟩ := cellsB_get hv
        exact hc j hj)
      (by rw [cellsB_length]; omega) (fun v hv => by obtain ⟨z, _, rfl⟩ := List.mem_map.1 hv; rfl)
    simp only [execOp, ho, resolve, invoke, builtin, Sem.run_bind, Sem.run_pure, Result.andThen_ok, List.map_toArray, List.map_cons, List.map_nil, h1, h2, hr, goInt, cellsB_length]
    unfold putIn
    rw [cellsB_length]
theorem wl_copyA {w : World} {ops : Array Oper} {rest : List Oper} {o : Oper} {a : Act} {Q : Exit → Act → World → Prop} (hgd : o.guard = none) {x y : Operand} {s t : Nat} {u : Value} {l : List Nat}
    (ho : o.op = .call { callee := .builtin .copy, args := #[x, y], argTypes := #[22, 22] }) (h1 : a.eval x = .slice (some ⟨s, 0, none⟩) 64 64) (h2 : a.eval y = u) (hu : BytesAt w u l) (hB : Blk w s (bA (List.replicate 64 0)) t) (hl : l.length ≤ 64)
    (h : ∀ w', Blk w' s (bA (l ++ List.replicate (64 - l.length) 0)) t → KeepBut (· = s) w w' → wpList Tryd.prog ops Q rest (a.put o.dst (.int .i64 (l.length : Int))) w') : wpList Tryd.prog ops Q (o :: rest) a w := by
  have := exec_copyA (r := a.eval) ho h1 h2 hu hB (by rw [bA_size]; simp) hl
  rw [putIn_key hl] at this
  exact wpList_of_run hgd this (h _ (hB.row _) (KeepBut.row _ _ _))
theorem KeepBut.new {S : Nat → Prop} {w w1 w2 : World} {g : Nat} (h : KeepBut S w w1) (k : KeepBut (· = g) w1 w2) (hg : w.heap.size ≤ g) : KeepBut S w w2 :=
  ⟨k.os.trans h.os, k.tape.trans h.tape, k.output.trans h.output, Nat.le_trans h.size k.size, fun j hj hn => (k.block j (Nat.lt_of_lt_of_le hj h.size) (fun e => by subst e; omega)).trans (h.block j hj hn)⟩

set_option maxHeartbeats 2000000 in
theorem fullKey_short {w : World} {v : Value} {K : List Nat} (hv : BytesAt w v K) (hlen : K.length ≤ 64) :
    Calls Tryd.prog 17 #[v] w fun e w' => e = .returned (.agg (bA (Mac.full K))) ∧ Ext w w' := by
  have HV : Hid (BytesAt w v K ∧ K.length ≤ 64) := ⟨hv, hlen⟩
  have HF : Hid (K ++ List.replicate (64 - K.length) 0 = Mac.full K ∧ (Mac.full K).length = 64) := ⟨by unfold Mac.full Mac.short; rw [if_neg (by omega)], Mac.full_len K⟩
  obtain ⟨a, cap, rfl, _, _⟩ := hv.form
  have hd : decide ((K.length : Int) > 64) = false := decide_eq_false (by omega)
  clear hv
  go_enter Tryd.func17, Tryd.ntmps17
  go_wp2_with (first
    | (have q := he1; clear q; refine wl_alloc rfl rfl zeroKey ?_; intro w2 hb2 he2 hx; clear hx)
    | (refine wl_alloc rfl rfl zeroKey ?_; intro w1 hb1 he1 hx; clear hx)
    | (refine wpList_of_run rfl (exec_sliceA rfl Tryd.underlying42 rfl (by decide)) ?_)
    | (refine wl_copyA rfl rfl rfl rfl (HV.out.1.ext (he1.trans he2)) hb2 HV.out.2 ?_; intro w3 hb3 hk3; rw [HF.out.1] at hb3)
    | (refine wl_load rfl row45 rfl rfl hb3 (by rw [bA_size, HF.out.2]) ?_)
    | (refine wl_store (D := bA (Mac.full K)) rfl row45 rfl rfl rfl ((hb1.ext he2).but hk3 (Nat.ne_of_lt hb1.lt)) (by rw [bA_size, HF.out.2]) rfl (bA_one _) ?_; intro w4 hb4 hk4 hx; clear hx))
  refine bodyPost_ret (v := .agg (bA (Mac.full K))) (results_cell_row (fn := Tryd.f17) (p := 2) (by rfl) _ _ w.heap.size 42 _ (0, 0) _ rfl hb4 Tryd.underlying42 rfl (by rw [bA_size, HF.out.2]; kernel_rfl)) rfl ⟨rfl, ?_⟩
  exact ((he1.trans he2).of_but hk3 (fun k e => by subst e; exact he1.size)).of_but hk4 (fun k e => by subst e; exact Nat.le_refl _)

set_option maxHeartbeats 2000000 in
theorem fullKey_long {w : World} {v : Value} {K : List Nat} (hT : Tabs w) (hv : BytesAt w v K) (hlen : 64 < K.length) (hlen2 : K.length ≤ 90000) :
    Calls Tryd.prog 17 #[v] w fun e w' => e = .returned (.agg (bA (Mac.full K))) ∧ Ext w w' := by
  have HV : Hid (BytesAt w v K ∧ Tabs w ∧ K.length ≤ 90000) := ⟨hv, hT, hlen2⟩
  obtain ⟨D, hD⟩ : ∃ D, D = Sha.dgst K := ⟨_, rfl⟩
  have HD : Hid (D = Sha.dgst K ∧ D.length = 32 ∧ Sha.AllB D) := ⟨hD, by rw [hD]; exact Mac.dlen _, by rw [hD]; exact Mac.dall _⟩
  have HF : Hid (D ++ List.replicate (64 - D.length) 0 = Mac.full K ∧ (Mac.full K).length = 64) := ⟨by unfold Mac.full Mac.short; rw [if_pos (by omega), hD], Mac.full_len K⟩
  obtain ⟨a, cap, rfl, _, _⟩ := hv.form
  have hd : decide ((K.length : Int) > 64) = true := decide_eq_true (by omega)
  clear hv hT hD
  go_enter Tryd.func17, Tryd.ntmps17
  go_wp2_with (first
    | (have q := he1; clear q; refine wl_alloc rfl rfl zeroKey ?_; intro w2 hb2 he2 hx; clear hx)
    | (refine wl_alloc rfl rfl zeroKey ?_; intro w1 hb1 he1 hx; clear hx)
    | (go_at_call 16; refine (sum_any (ls := [K]) (HV.out.2.1.ext ((he1.trans he2).trans (Ext.alloc _ _))) (PartsOf.one w2 _ rfl (HV.out.1.ext (he1.trans he2))) (by have := HV.out; simp; omega)).mono ?_; rintro e w3 ⟨rfl, he3'⟩; have he3 := (Ext.alloc _ _).trans he3'; clear he3'; rw [show [K].flatten = K by simp, ← HD.out.1])
    | (refine wl_alloc rfl rfl zero25 ?_; intro w4 hb4 he4 hx; clear hx; refine wl_store (D := bA D) rfl row25 rfl rfl rfl hb4 (by rw [bA_size, HD.out.2.1]) rfl (bA_one _) ?_; intro w5 hb5 hk5 hx; clear hx; have he5 := he4.of_but hk5 (fun k e => by subst e; exact Nat.le_refl _); clear hk5 he4 hb4)
    | (refine wpList_of_run rfl (exec_sliceA rfl Tryd.underlying25 rfl (by decide)) ?_)
    | (refine wpList_of_run rfl (exec_sliceA rfl Tryd.underlying42 rfl (by decide)) ?_)
    | (refine wl_copyA rfl rfl rfl rfl (bytes_ofBlk hb5 HD.out.2.2 HD.out.2.1 (by decide)) ((hb2.ext he3).ext he5) (by rw [HD.out.2.1]; decide) ?_; intro w6 hb6 hk6; rw [HF.out.1] at hb6)
    | (refine wl_load rfl row45 rfl rfl hb6 (by rw [bA_size, HF.out.2]) ?_)
    | (refine wl_store (D := bA (Mac.full K)) rfl row45 rfl rfl rfl ((((hb1.ext he2).ext he3).ext he5).but hk6 (Nat.ne_of_lt hb1.lt)) (by rw [bA_size, HF.out.2]) rfl (bA_one _) ?_; intro w7 hb7 hk7 hx; clear hx))
  refine bodyPost_ret (v := .agg (bA (Mac.full K))) (results_cell_row (fn := Tryd.f17) (p := 2) (by rfl) _ _ w.heap.size 42 _ (0, 0) _ rfl hb7 Tryd.underlying42 rfl (by rw [bA_size, HF.out.2]; kernel_rfl)) rfl ⟨rfl, ?_⟩
  exact ((((he1.trans he2).trans he3).trans he5).of_but hk6 (fun k e => by subst e; exact he1.size)).of_but hk7 (fun k e => by subst e; exact Nat.le_refl _)
theorem fullKey_any {w : World} {v : Value} {K : List Nat} (hT : Tabs w) (hv : BytesAt w v K) (hlen : K.length ≤ 90000) :
    Calls Tryd.prog 17 #[v] w fun e w' => e = .returned (.agg (bA (Mac.full K))) ∧ Ext w w' := by
  by_cases h : K.length ≤ 64
  · exact fullKey_short hv h
  · exact fullKey_long hT hv (by omega) hlen

set_option maxHeartbeats 2000000 in
theorem changed_any (F : List Nat) (c : Nat) (w : World) (hl : F.length = 64) (hF : Sha.AllB F) (hc : c < 256) :
    Calls Tryd.prog 20 #[.agg (bA F), .int .u8 (c : Int)] w fun e w' => e = .returned (.slice (some ⟨w.heap.size, 0, none⟩) 64 64) ∧ Blk w' w.heap.size (bA (Mac.chg F c)) 42 ∧ Ext w w' := by
  have HF : Hid (F.length = 64 ∧ Sha.AllB F ∧ c < 256) := ⟨hl, hF, hc⟩
  clear hl hF
  go_enter Tryd.func20, Tryd.ntmps20
  go_wp2_with (first
    | (refine wl_box (C := bA F) rfl rfl rfl ?_; intro w1 hb1 he1 hx; clear hx))
  have HW : Hid (Blk w1 w.heap.size (bA F) 42 ∧ Ext w w1) := ⟨hb1, he1⟩
  clear hb1 he1
  go_loopg [6] 64 (fun g s wr => ∃ k : Nat, k ≤ 64 ∧ g = 64 - k ∧ s = .int .i64 (k : Int) ∧ Hid (Ext w wr ∧ Blk wr w.heap.size (bA (Mac.chgs F c k)) 42))
  case atStart => exact ⟨0, by omega, rfl, rfl, HW.out.2, by rw [Mac.chgs_0]; exact HW.out.1⟩
  case round =>
    obtain ⟨k, hk, rfl, rfl, HR⟩ := hrel
    by_cases hlt : k < 64
    · have hd : decide ((k : Int) < 64) = true := decide_eq_true (by omega)
      have hkl : k < F.length := by rw [HF.out.1]; exact hlt
      have hcell := (HR.out.2.cell k).trans (bA_get (Mac.chgs F c k) k (by rw [Mac.chgs_len]; exact hkl))
      rw [Mac.chgs_get F c k hkl] at hcell
      have HS : Hid _ := Mac.chgs_succ F c k hkl
      have hx8 := Go.u8_xor_nat (F.getD k 0) c (HF.out.2.1.get k) hc
      generalize F.getD k 0 = x at *
      generalize hy : x ^^^ c = y at *
      have HB : Hid (Blk wr w.heap.size (bA (Mac.chgs F c k)) 42 ∧ (Mac.chgs F c k).length = 64) := ⟨HR.out.2, by rw [Mac.chgs_len]; exact HF.out.1⟩
      clear hkl hy
      go_wp2_with (first
        | (refine wl_set (v := .int .u8 (y : Nat)) rfl one5 rfl rfl (by first | rfl | go_simp | simp [go_sem, hx8]) rfl rfl HB.out.1 (by rw [bA_size, HB.out.2]; omega) ?_; intro x1 c1 k1 hx; clear hx; rw [bA_set, HS.out] at c1))
      go_roundg (64 - (k + 1))
      case measure => omega
      case rel => exact ⟨k + 1, by omega, rfl, by simp, HR.out.1.of_but k1 (fun j e => by subst e; exact Nat.le_refl _), c1⟩
    · have hd : decide ((k : Int) < 64) = false := decide_eq_false (by omega)
      obtain rfl : k = 64 := by omega
      rw [Mac.chgs_all (by rw [HF.out.1]; exact Nat.le_refl _)] at HR
      go_wp2_with (first
        | (refine wpList_of_run rfl (exec_sliceA rfl Tryd.underlying42 rfl (by decide)) ?_))
      go_ret
      exact ⟨rfl, HR.out.2, HR.out.1⟩

set_option maxHeartbeats 2000000 in
theorem sumBehind_any {w0 w : World} {s : Nat} {T : List Nat} {v : Value} {ls : List (List Nat)} (hT : Tabs w0) (h0 : Ext w0 w) (hs : w0.heap.size ≤ s) (hS : StateAt w s T) (hv : PartsOf w0 v ls) (hlen : T.length + ls.flatten.length ≤ 90000) :
    Calls Tryd.prog 21 #[stP s, v] w fun e w' => e = .returned (.agg (bA (Sha.dgst (T ++ ls.flatten)))) ∧ KeepBut (· = s) w w' := by
  have HV : Hid (Tabs w0 ∧ Ext w0 w ∧ w0.heap.size ≤ s ∧ T.length + ls.flatten.length ≤ 90000) := ⟨hT, h0, hs, hlen⟩
  obtain ⟨h1000, a, cap, rfl, hc⟩ := hv
  have HC : Hid (∀ i, i < ls.length → ∃ b off u, a = some ⟨b, off, none⟩ ∧ w0.cell? ⟨b, off + i, none⟩ = some u ∧ BytesAt w0 u (ls.getD i [])) := hc
  have hd8 : Hid ((Sha.dgst (T ++ ls.flatten)).length = 32) := Mac.dlen _
  have HS : Hid (StateAt w s T ∧ s < w.heap.size) := ⟨hS, hS.blk.lt⟩
  clear hc hT h0 hs hlen hS
  go_enter Tryd.func21, Tryd.ntmps21
  go_wp2_with (first
    | (refine wl_alloc rfl rfl zero25 ?_; intro w1 hb1 he1 hx; clear hx))
  have HW : Hid (Blk w1 w.heap.size (bA (List.replicate 32 0)) 25 ∧ StateAt w1 s T ∧ Ext w w1) := ⟨hb1, HS.out.1.ext he1, he1⟩
  clear hb1 he1
  go_loopg [9] ls.length (fun g q wr => ∃ i : Nat, i ≤ ls.length ∧ g = ls.length - i ∧ q = .int .i64 (i : Int) ∧ Hid (Blk wr w.heap.size (bA (List.replicate 32 0)) 25 ∧ StateAt wr s (T ++ (ls.take i).flatten) ∧ KeepBut (· = s) w wr ∧ Ext w0 wr))
  case atStart => exact ⟨0, Nat.zero_le _, rfl, rfl, HW.out.1, by simpa using HW.out.2.1, KeepBut.ext HW.out.2.2, HV.out.2.1.trans HW.out.2.2⟩
  case round =>
    obtain ⟨i, hi, rfl, rfl, HR⟩ := hrel
    by_cases hlt : i < ls.length
    · have hd : decide ((i : Int) < (ls.length : Int)) = true := decide_eq_true (by omega)
      obtain ⟨b, off, u, rfl, hu, hbu⟩ := HC.out i hlt
      have hur := HR.out.2.2.2.cell hu
      have HBU : Hid (BytesAt w0 u (ls.getD i [])) := hbu
      clear hbu hu
      go_wp2_with (first
        | (go_at_call 19; refine (add_any (HV.out.1.ext HR.out.2.2.2) HR.out.2.1 (HBU.out.ext HR.out.2.2.2) (fun hne g hg => by have := HBU.out.lt hne hg; have := HV.out; omega) (by have := HV.out.1.two; have := HV.out; omega) (by have h1 := flat_succ ls i hlt; have h2 := flat_len ls (i + 1); rw [h1, List.length_append] at h2; have := HV.out; rw [List.length_append]; omega)).mono ?_; rintro e w4 ⟨⟨x, rfl⟩, hS4, hk4⟩))
      have hsw := HS.out.2
      go_roundg (ls.length - (i + 1))
      case measure => omega
      case rel =>
        refine ⟨i + 1, by omega, rfl, by simp, HR.out.1.but hk4 (show ¬ _ = _ by omega), ?_, HR.out.2.2.1.trans hk4, HR.out.2.2.2.of_but hk4 (fun k e => by subst e; exact HV.out.2.2.1)⟩
        rw [flat_succ ls i hlt, ← List.append_assoc]; exact hS4
    · have hd : decide ((i : Int) < (ls.length : Int)) = false := decide_eq_false (by omega)
      obtain rfl : i = ls.length := by omega
      rw [List.take_length] at HR
      go_wp2_with (first
        | (go_at_call 28; refine (stSum_any (HV.out.1.ext HR.out.2.2.2) HR.out.2.1 (by have := HV.out; rw [List.length_append]; omega)).mono ?_; rintro e w5 ⟨rfl, he5⟩)
        | (refine wl_store (D := bA (Sha.dgst (T ++ ls.flatten))) rfl row25 rfl rfl rfl (HR.out.1.ext he5) (by rw [bA_size, hd8.out]) rfl (bA_one _) ?_; intro w6 hb6 hk6 hx; clear hx))
      refine bodyPost_ret (v := .agg (bA (Sha.dgst (T ++ ls.flatten)))) (results_cell_row (fn := Tryd.f21) (p := 4) (by rfl) _ _ w.heap.size 25 _ (0, 0) _ rfl hb6 Tryd.underlying25 rfl (by rw [bA_size, hd8.out]; kernel_rfl)) rfl ⟨rfl, ?_⟩
      exact (HR.out.2.2.1.trans (KeepBut.ext he5)).new hk6 (Nat.le_refl _)
end Go.Proofs.YtaklbnaaoebknaaDoor
