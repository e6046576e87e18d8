/- Whether a tag is right; the law's fixed fact: the chapter's example. Condition: the tables hold what the text lays. -/
import Derived.Test.YtaklbnaaoebknaaDoorMac2
namespace Go.Proofs.YtaklbnaaoebknaaDoor
open Go Go.RowKit
set_option linter.unusedVariables false
set_option linter.unusedSimpArgs false
set_option maxRecDepth 100000

theorem macSum_one {w : World} {v u : Value} {n : Nat} {K T : List Nat} (hn : n = w.heap.size) (hT : Tabs w) (hk : BytesAt w v K) (hv : BytesAt w u T) (hlK : K.length ≤ 90000) (hlen : T.length ≤ 80000) :
    Calls Tryd.prog 9 #[v, .slice (some ⟨n, 0, none⟩) 1 1] (w.alloc (.cells #[u] 22)) fun e w' => e = .returned (.agg (bA (Mac.tag K T))) ∧ Ext w w' := by
  have := macSum_any (ls := [T]) (hT.ext (Ext.alloc _ _)) (hk.ext (Ext.alloc _ _)) (PartsOf.one w n hn hv) hlK (by simpa using hlen)
  refine this.mono ?_
  rintro e w' ⟨rfl, he⟩
  exact ⟨by simp, (Ext.alloc _ _).trans he⟩

set_option maxHeartbeats 4000000 in
theorem check_any {w : World} {tv v u : Value} {X K : List Nat} {ls : List (List Nat)} (hT : Tabs w) (hX : BytesAt w tv X) (hk : BytesAt w v K) (hv : PartsOf w u ls) (hlK : K.length ≤ 90000) (hlen : ls.flatten.length ≤ 80000) :
    Calls Tryd.prog 15 #[tv, v, u] w fun e w' => e = .returned (.bool (decide (X = Mac.tag K ls.flatten))) ∧ Ext w w' := by
  have HA : Hid (Tabs w ∧ BytesAt w v K ∧ PartsOf w u ls ∧ K.length ≤ 90000 ∧ ls.flatten.length ≤ 80000) := ⟨hT, hk, hv, hlK, hlen⟩
  obtain ⟨D, hD⟩ : ∃ D, D = Mac.tag K ls.flatten := ⟨_, rfl⟩
  have HD : Hid (D = Mac.tag K ls.flatten ∧ D.length = 32 ∧ Sha.AllB D) := ⟨hD, by rw [hD]; exact Mac.tag_len _ _, by rw [hD]; exact Mac.tag_all _ _⟩
  rw [← hD]
  obtain ⟨R, hR⟩ : ∃ R, R = decide (X = D) := ⟨_, rfl⟩
  rw [← hR]
  have HRb : Hid (R = decide (X = D)) := hR
  clear hR
  have hX1 : X.length ≤ 9223372036854775807 := by have := hX.2.1; unfold maxLen at this; omega
  have HX8 : Hid (Sha.AllB X) := hX.1
  obtain ⟨a, cap, rfl, _, hXc⟩ := hX.form
  have HX : Hid (∀ j, j < X.length → ∃ b off, a = some ⟨b, off, none⟩ ∧ w.cell? ⟨b, off + j, none⟩ = some (.int .u8 (X.getD j 0 : Nat))) := hXc
  obtain ⟨ka, kc, rfl, _, _⟩ := hk.form
  obtain ⟨_, ua, uc, rfl, _⟩ := hv
  rename_i z1 z2 z3 z4 z5
  clear z1 z2 z3 z4 z5 hk hT hX hXc hD
  by_cases h32 : X.length = 32
  · have hd1 : ((X.length : Int) != 32) = false := by rw [h32]; rfl
    have H32 : Hid (X.length = 32) := h32
    clear h32
    go_enter Tryd.func15, Tryd.ntmps15
    go_wp2_with (first
      | (go_at_call 9; refine (macSum_any HA.out.1 HA.out.2.1 HA.out.2.2.1 HA.out.2.2.2.1 HA.out.2.2.2.2).mono ?_; rintro e w1 ⟨rfl, he1⟩; rw [← HD.out.1])
      | (refine wl_alloc rfl rfl zero25 ?_; intro w2 hb2 he2 hx; clear hx; refine wl_store (D := bA D) rfl row25 rfl rfl rfl hb2 (by rw [bA_size, HD.out.2.1]) rfl (bA_one _) ?_; intro w3 hb3 hk3 hx; clear hx; have he3 := he1.trans (he2.of_but hk3 (fun k e => by subst e; exact Nat.le_refl _)); clear hk3 he1 he2 hb2)
      | (refine wl_load rfl row25 rfl rfl hb3 (by rw [bA_size, HD.out.2.1]) ?_))
    have HE : Hid (Ext w w3) := he3
    clear hb3 he3
    go_loopg [8, 18] 32 (fun g s t wr => ∃ k : Nat, k ≤ 32 ∧ g = 32 - k ∧ s = .int .u8 (Mac.diff D X k : Nat) ∧ t = .int .i64 (k : Int) ∧ Hid (wr = w3))
    case atStart => exact ⟨0, by omega, rfl, rfl, rfl, rfl⟩
    case round =>
      obtain ⟨k, hk, rfl, rfl, rfl, HR⟩ := hrel
      obtain rfl := HR.out
      clear HR
      by_cases hlt : k < 32
      · have hd : decide ((k : Int) < 32) = true := decide_eq_true (by omega)
        have hsc := bA_get D k (by rw [HD.out.2.1]; exact hlt)
        obtain ⟨b, off, rfl, hcx⟩ := HX.out k (by rw [H32.out]; exact hlt)
        have hc := HE.out.cell hcx
        have HS : Hid (Mac.diff D X (k + 1) = Mac.diff D X k ||| (D.getD k 0 ^^^ X.getD k 0)) := show _ = _ from rfl
        have hxx := Go.u8_xor_nat (D.getD k 0) (X.getD k 0) (HD.out.2.2.get k) (HX8.out.get k)
        have hxl := Mac.xor8_lt (HD.out.2.2.get k) (HX8.out.get k)
        have hdl := Mac.diff_lt HD.out.2.2 HX8.out k
        have hkx : (k : Int) < (X.length : Int) := by have := H32.out; omega
        clear hcx
        generalize D.getD k 0 = x at *
        generalize X.getD k 0 = y at *
        generalize x ^^^ y = z at *
        generalize Mac.diff D X k = dk at *
        have hor := Go.u8_or_nat dk z hdl hxl
        generalize dk ||| z = dn at *
        go_wp2_with (first
          | (refine wpList_of_run rfl (exec_index _ rfl Tryd.underlying25 ⟨_, Tryd.underlying5, rfl⟩ (by kernel_rfl) rfl rfl hlt hsc) ?_))
        go_roundg (32 - (k + 1))
        case measure => omega
        case rel => exact ⟨k + 1, by omega, rfl, by rw [HS.out], by simp, rfl⟩
      · have hd : decide ((k : Int) < 32) = false := decide_eq_false (by omega)
        obtain rfl : k = 32 := by omega
        have HQ : Hid (Mac.diff D X 32 = 0 ↔ X = D) := Mac.diff_eq HD.out.2.1 H32.out
        generalize Mac.diff D X 32 = dk at *
        by_cases hz : dk = 0
        · subst hz
          obtain rfl : R = true := by rw [HRb.out]; exact decide_eq_true (HQ.out.1 rfl)
          go_wp2
          go_ret
          exact ⟨rfl, HE.out⟩
        · have hz1 : ((dk : Int) == 0) = false := by simp; omega
          obtain rfl : R = false := by rw [HRb.out]; exact decide_eq_false (fun e => hz (HQ.out.2 e))
          go_wp2
          go_ret
          exact ⟨rfl, HE.out⟩
  · have hd1 : ((X.length : Int) != 32) = true := by simp; omega
    obtain rfl : R = false := by rw [HRb.out]; exact decide_eq_false (fun e => h32 (by rw [e]; exact HD.out.2.1))
    clear h32
    go_enter Tryd.func15, Tryd.ntmps15
    go_wp2_with (first
      | (go_at_call 9; refine (macSum_any HA.out.1 HA.out.2.1 HA.out.2.2.1 HA.out.2.2.2.1 HA.out.2.2.2.2).mono ?_; rintro e w1 ⟨rfl, he1⟩; rw [← HD.out.1])
      | (refine wl_alloc rfl rfl zero25 ?_; intro w2 hb2 he2 hx; clear hx; refine wl_store (D := bA D) rfl row25 rfl rfl rfl hb2 (by rw [bA_size, HD.out.2.1]) rfl (bA_one _) ?_; intro w3 hb3 hk3 hx; clear hx; have he3 := he1.trans (he2.of_but hk3 (fun k e => by subst e; exact Nat.le_refl _)); clear hk3 he1 he2 hb2))
    go_ret
    exact ⟨rfl, he3⟩

theorem jefe : (Mac.tag [74, 101, 102, 101] ([119, 104, 97, 116, 32, 100, 111, 32, 121, 97, 32, 119, 97, 110, 116, 32] ++ [102, 111, 114, 32, 110, 111, 116, 104, 105, 110, 103, 63])).take 4 = [91, 220, 193, 70] := by decide +kernel
theorem jefe_get (k : Nat) (hk : k < 4) : (Mac.tag [74, 101, 102, 101] ([119, 104, 97, 116, 32, 100, 111, 32, 121, 97, 32, 119, 97, 110, 116, 32] ++ [102, 111, 114, 32, 110, 111, 116, 104, 105, 110, 103, 63])).getD k 0 = [91, 220, 193, 70].getD k 0 := by
  rw [← jefe, List.getD_eq_getElem?_getD, List.getD_eq_getElem?_getD, List.getElem?_take, if_pos hk]
end Go.Proofs.YtaklbnaaoebknaaDoor
