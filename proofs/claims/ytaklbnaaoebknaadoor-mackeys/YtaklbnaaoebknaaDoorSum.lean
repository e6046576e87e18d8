/- The digest of a state, and of parts. Condition: the tables hold what the text lays. -/
import Derived.Test.YtaklbnaaoebknaaDoorAdd
namespace Go.Proofs.YtaklbnaaoebknaaDoor
open Go Go.RowKit
set_option linter.unusedVariables false
set_option linter.unusedSimpArgs false
set_option maxRecDepth 100000

theorem fill_len (n : Nat) : (Sha.fill n).length ≤ 72 := by
  have : Sha.nz n < 64 := Nat.mod_lt _ (by decide)
  simp [Sha.fill, Sha.be8]; omega
theorem OwnB.blk {w : World} {base : Nat} {e : TypeId} {v : Value} {l : List Nat} (h : OwnB w base e v l) {g : Nat} (hg : blockOf v = some g) : base ≤ g := by
  obtain ⟨_, ⟨g', cap, rfl, h1, _⟩, _⟩ := h
  simp [blockOf] at hg
  omega
theorem dig_res {R : List Nat} (h : R.length = 8) : (Sha.dig R).length = 32 := by rw [Sha.dig_len, h]

set_option maxHeartbeats 2000000 in
theorem stSum_any {w : World} {s : Nat} {T : List Nat} (hT : Tabs w) (hS : StateAt w s T) (hlen : T.length ≤ 90000) :
    Calls Tryd.prog 28 #[stP s] w fun e w' => e = .returned (.agg (bA (Sha.dgst T))) ∧ Ext w w' := by
  have h72 := (hS.blk.cell 72).trans (stG_72 (Sha.regs_len _ _) (Sha.tail_len T))
  obtain ⟨n, hn⟩ : ∃ n, n = T.length := ⟨_, rfl⟩
  rw [← hn] at h72
  have HS : Hid (StateAt w s T ∧ Tabs w ∧ n = T.length ∧ n ≤ 90000) := ⟨hS, hT, hn, by omega⟩
  have hd8 : Hid ((Sha.dgst T).length = 32) := dig_res (Sha.regs_len _ _)
  have HD : Hid (Sha.dgst T = Sha.dig (Sha.regsOf (T ++ Sha.fill n))) := show _ = _ by rw [hn]; rfl
  clear hS hT hlen hn
  go_enter Tryd.func28, Tryd.ntmps28
  go_wp2_with (first
    | (refine wl_alloc rfl rfl zero25 ?_; intro w1 hb1 he1 hx; clear hx; have c1 := he1.cell h72)
    | (go_at_call 34; refine (copy_any (HS.out.1.ext he1)).mono ?_; rintro e w2 ⟨rfl, hS2, he2⟩; have c2 := he2.cell c1)
    | (go_at_call 35; refine (filling_any n _ (by have := HS.out; omega)).mono ?_; rintro e w3 ⟨v, rfl, hv3, he3⟩)
    | (go_at_call 19; refine (add_any (HS.out.2.1.ext ((he1.trans he2).trans he3)) (hS2.ext he3) hv3.bytes (fun _ g hg => by have := hv3.blk hg; have := hS2.blk.lt; omega) (by have := HS.out.2.1.two; have := he1.size; omega) (by have := fill_len n; have := HS.out; omega)).mono ?_; rintro e w4 ⟨⟨x, rfl⟩, hS4, hk4⟩)
    | (refine wl_loadM rfl row44 rfl rfl hS4.blk (cellsU (Sha.regsOf (T ++ Sha.fill n))) (stG_R (Sha.regs_len _ _)) (by rw [cellsU_length]; exact Sha.regs_len _ _) ?_)
    | (go_at_call 36; refine (digestOf_any (Sha.regsOf (T ++ Sha.fill n)) _ (Sha.regs_len _ _) (Sha.regs_all _ _)).mono ?_; rintro e w5 ⟨rfl, he5⟩; rw [← HD.out])
    | (refine wl_store (D := bA (Sha.dgst T)) rfl row25 rfl rfl rfl ((((hb1.ext he2).ext he3).but hk4 (Nat.ne_of_lt (Nat.lt_of_lt_of_le hb1.lt (Nat.le_refl _)))).ext he5) (by rw [bA_size, hd8.out]) rfl (bA_one _) ?_; intro w6 hb6 hk6 hx; clear hx))
  refine bodyPost_ret (v := .agg (bA (Sha.dgst T))) (results_cell_row (fn := Tryd.f28) (p := 2) (by rfl) _ _ w.heap.size 25 _ (0, 0) _ rfl hb6 Tryd.underlying25 rfl (by rw [bA_size, hd8.out]; kernel_rfl)) rfl ⟨rfl, ?_⟩
  exact (((((he1.trans he2).trans he3).of_but hk4 (fun k e => by subst e; have := he1.size; omega)).trans he5).of_but hk6 (fun k e => by subst e; omega))

set_option maxHeartbeats 2000000 in
theorem stSum_nil {w : World} (hT : Tabs w) :
    Calls Tryd.prog 28 #[.pointer none] w fun e w' => e = .returned (.agg (bA (Sha.dgst []))) ∧ Ext w w' := by
  have HT : Hid (Tabs w) := hT
  have hd8 : Hid ((Sha.dgst []).length = 32) := dig_res (Sha.regs_len _ _)
  clear hT
  go_enter Tryd.func28, Tryd.ntmps28
  go_wp2_with (first
    | (refine wl_alloc rfl rfl zero25 ?_; intro w1 hb1 he1 hx; clear hx)
    | (go_at_call 18; refine (begin_any _ (HT.out.ext he1)).mono ?_; rintro e w2 ⟨rfl, hS2, he2⟩)
    | (go_at_call 28; refine (stSum_any ((HT.out.ext he1).ext he2) hS2 (by simp)).mono ?_; rintro e w3 ⟨rfl, he3⟩)
    | (refine wl_store (D := bA (Sha.dgst [])) rfl row25 rfl rfl rfl ((hb1.ext he2).ext he3) (by rw [bA_size, hd8.out]) rfl (bA_one _) ?_; intro w6 hb6 hk6 hx; clear hx))
  refine bodyPost_ret (v := .agg (bA (Sha.dgst []))) (results_cell_row (fn := Tryd.f28) (p := 2) (by rfl) _ _ w.heap.size 25 _ (0, 0) _ rfl hb6 Tryd.underlying25 rfl (by rw [bA_size, hd8.out]; kernel_rfl)) rfl ⟨rfl, ?_⟩
  exact ((he1.trans he2).trans he3).of_but hk6 (fun k e => by subst e; exact Nat.le_refl _)

/-- A slice of slices that reads as these lists of bytes, nil or not. -/
def PartsOf (w : World) (v : Value) (ls : List (List Nat)) : Prop :=
  ls.length ≤ 1000 ∧ ∃ a cap, v = .slice a ls.length cap ∧ ∀ i, i < ls.length → ∃ b off u, a = some ⟨b, off, none⟩ ∧ w.cell? ⟨b, off + i, none⟩ = some u ∧ BytesAt w u (ls.getD i [])
theorem PartsOf.ext {w w' : World} {v : Value} {ls : List (List Nat)} (h : PartsOf w v ls) (he : Ext w w') : PartsOf w' v ls := by
  obtain ⟨h1, a, cap, rfl, hc⟩ := h
  refine ⟨h1, a, cap, rfl, fun i hi => ?_⟩
  obtain ⟨b, off, u, e, hu, hb⟩ := hc i hi
  exact ⟨b, off, u, e, he.cell hu, hb.ext he⟩
theorem PartsOf.made (w : World) (us : List Value) (ls : List (List Nat)) (t n c : Nat) (hn : n = w.heap.size) (hl : us.length = ls.length) (h1 : ls.length ≤ 1000) (hb : ∀ i, i < ls.length → BytesAt w (us.getD i undef) (ls.getD i [])) :
    PartsOf (w.alloc (.cells us.toArray t)) (.slice (some ⟨n, 0, none⟩) ls.length c) ls := by
  obtain ⟨_, b, off, cap, e, hc⟩ := PartsAt.made w us ls t n c hn hl h1 hb
  refine ⟨h1, _, c, rfl, fun i hi => ?_⟩
  obtain ⟨u, hu, hbu⟩ := hc i hi
  cases e
  exact ⟨n, 0, u, rfl, hu, hbu⟩
theorem BytesAt.lt {w : World} {v : Value} {l : List Nat} (h : BytesAt w v l) (hne : l ≠ []) {g : Nat} (hg : blockOf v = some g) : g < w.heap.size := by
  obtain ⟨_, _, ⟨rfl, rfl⟩ | ⟨ad, cap, rfl, h4, h5, hc⟩⟩ := h
  · exact absurd rfl hne
  · have hl : 0 < l.length := List.length_pos_iff.2 hne
    have := cell_lt (hc 0 hl)
    rw [add_block] at this
    simp [blockOf] at hg
    omega
theorem flat_succ (ls : List (List Nat)) (i : Nat) (h : i < ls.length) : (ls.take (i + 1)).flatten = (ls.take i).flatten ++ ls.getD i [] := by
  rw [take_next ls [] i h]; simp
theorem flat_len (ls : List (List Nat)) (i : Nat) : (ls.take i).flatten.length ≤ ls.flatten.length := by
  have : ls.flatten = (ls.take i).flatten ++ (ls.drop i).flatten := by rw [← List.flatten_append, List.take_append_drop]
  rw [this, List.length_append]; omega

set_option maxHeartbeats 2000000 in
theorem sum_any {w : World} {v : Value} {ls : List (List Nat)} (hT : Tabs w) (hv : PartsOf w v ls) (hlen : ls.flatten.length ≤ 90000) :
    Calls Tryd.prog 16 #[v] w fun e w' => e = .returned (.agg (bA (Sha.dgst ls.flatten))) ∧ Ext w w' := by
  have HV : Hid (PartsOf w v ls ∧ Tabs w ∧ ls.flatten.length ≤ 90000) := ⟨hv, hT, hlen⟩
  obtain ⟨h1000, a, cap, rfl, hc⟩ := hv
  have HC : Hid (∀ i, i < ls.length → ∃ b off u, a = some ⟨b, off, none⟩ ∧ w.cell? ⟨b, off + i, none⟩ = some u ∧ BytesAt w u (ls.getD i [])) := hc
  have hd8 : Hid ((Sha.dgst ls.flatten).length = 32) := dig_res (Sha.regs_len _ _)
  clear hc hT hlen
  go_enter Tryd.func16, Tryd.ntmps16
  go_wp2_with (first
    | (refine wl_alloc rfl rfl zero25 ?_; intro w1 hb1 he1 hx; clear hx)
    | (go_at_call 18; refine (begin_any _ (HV.out.2.1.ext he1)).mono ?_; rintro e w2 ⟨rfl, hS2, he2⟩))
  have HW : Hid (Blk w2 w.heap.size (bA (List.replicate 32 0)) 25 ∧ StateAt w2 w1.heap.size [] ∧ Ext w w2 ∧ w.heap.size < w1.heap.size) := ⟨hb1.ext he2, hS2, he1.trans he2, hb1.lt⟩
  clear hb1 hS2 he1 he2
  go_loopg [9] ls.length (fun g s wr => ∃ i : Nat, i ≤ ls.length ∧ g = ls.length - i ∧ s = .int .i64 (i : Int) ∧ Hid (Blk wr w.heap.size (bA (List.replicate 32 0)) 25 ∧ StateAt wr w1.heap.size (ls.take i).flatten ∧ Ext w wr))
  case atStart => exact ⟨0, Nat.zero_le _, rfl, rfl, HW.out.1, by simpa using HW.out.2.1, HW.out.2.2.1⟩
  case round =>
    obtain ⟨i, hi, rfl, rfl, HR⟩ := hrel
    by_cases hlt : i < ls.length
    · have hd : decide ((i : Int) < (ls.length : Int)) = true := decide_eq_true (by omega)
      obtain ⟨b, off, u, rfl, hu, hbu⟩ := HC.out i hlt
      have hur := HR.out.2.2.cell hu
      have HBU : Hid (BytesAt w u (ls.getD i [])) := hbu
      clear hbu hu
      go_wp2_with (first
        | (go_at_call 19; refine (add_any (HV.out.2.1.ext HR.out.2.2) HR.out.2.1 (HBU.out.ext HR.out.2.2) (fun hne g hg => by have := HBU.out.lt hne hg; have := HW.out.2.2.2; omega) (by have := HV.out.2.1.two; have := HW.out.2.2.2; omega) (by have h1 := flat_succ ls i hlt; have h2 := flat_len ls (i + 1); rw [h1, List.length_append] at h2; have := HV.out.2.2; omega)).mono ?_; rintro e w4 ⟨⟨x, rfl⟩, hS4, hk4⟩))
      go_roundg (ls.length - (i + 1))
      case measure => omega
      case rel =>
        refine ⟨i + 1, by omega, rfl, by simp, HR.out.1.but hk4 (Nat.ne_of_lt HW.out.2.2.2), ?_, HR.out.2.2.of_but hk4 (fun k e => by subst e; exact Nat.le_of_lt HW.out.2.2.2)⟩
        rw [flat_succ ls i hlt]; exact hS4
    · have hd : decide ((i : Int) < (ls.length : Int)) = false := decide_eq_false (by omega)
      obtain rfl : i = ls.length := by omega
      rw [List.take_length] at HR
      go_wp2_with (first
        | (go_at_call 28; refine (stSum_any (HV.out.2.1.ext HR.out.2.2) HR.out.2.1 HV.out.2.2).mono ?_; rintro e w5 ⟨rfl, he5⟩)
        | (refine wl_store (D := bA (Sha.dgst ls.flatten)) rfl row25 rfl rfl rfl (HR.out.1.ext he5) (by rw [bA_size, hd8.out]) rfl (bA_one _) ?_; intro w6 hb6 hk6 hx; clear hx))
      refine bodyPost_ret (v := .agg (bA (Sha.dgst ls.flatten))) (results_cell_row (fn := Tryd.f16) (p := 2) (by rfl) _ _ w.heap.size 25 _ (0, 0) _ rfl hb6 Tryd.underlying25 rfl (by rw [bA_size, hd8.out]; kernel_rfl)) rfl ⟨rfl, ?_⟩
      exact (HR.out.2.2.trans he5).of_but hk6 (fun k e => by subst e; exact Nat.le_refl _)
end Go.Proofs.YtaklbnaaoebknaaDoor
