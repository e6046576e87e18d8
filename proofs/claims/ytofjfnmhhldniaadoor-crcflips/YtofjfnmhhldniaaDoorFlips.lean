/- The law CrcFlips walked: it answers true. Conditions: the table fourBits holds what the program's text lays. -/
import Derived.Test.YtofjfnmhhldniaaDoorWalks3
import Derived.Test.YtofjfnmhhldniaaDoorMath2
import Derived.Maps.Own
import Derived.Maps.OwnOps
import Derived.Maps.Views
import Derived.RegionTactic
import Derived.Maps.OwnSet
namespace Go.Proofs.YtofjfnmhhldniaaDoor
open Go.RowKit Go.Maps
set_option linter.unusedVariables false
set_option linter.unusedSimpArgs false

theorem law3 : Keyed Tryd.prog 3 := int_keyed Tryd.underlying3
theorem zero3 (w : World) : (zeroValue 3).run Tryd.prog w = .ok (.int .i64 0) w := by kernel_rfl

theorem many_at (x : Int) : ∃ m : Nat, 1 ≤ m ∧ m ≤ 3 ∧ wrap64 (1 + wrap64 ((IntKind.u64.wrap x).tmod 3)) = (m : Int) := by
  have h0 : 0 ≤ IntKind.u64.wrap x := wrap_u64_nonneg x
  generalize IntKind.u64.wrap x = y at *
  rw [Int.tmod_eq_emod_of_nonneg h0]
  have h1 := Int.emod_nonneg y (show (3 : Int) ≠ 0 by omega)
  have h2 := Int.emod_lt_of_pos y (show (0 : Int) < 3 by omega)
  refine ⟨(1 + y % 3).toNat, by omega, by omega, ?_⟩
  unfold wrap64
  omega
theorem spot_at (x : Int) (n : Nat) (h0 : 0 < n) (hn : n ≤ 16388) : ∃ k : Nat, k < 8 * n ∧ wrap64 ((IntKind.u64.wrap x).tmod (8 * (n : Int))) = (k : Int) := by
  have h0' : 0 ≤ IntKind.u64.wrap x := wrap_u64_nonneg x
  generalize IntKind.u64.wrap x = y at *
  rw [Int.tmod_eq_emod_of_nonneg h0']
  have h1 := Int.emod_nonneg y (show (8 * (n : Int)) ≠ 0 by omega)
  have h2 := Int.emod_lt_of_pos y (show (0 : Int) < 8 * (n : Int) by omega)
  refine ⟨(y % (8 * (n : Int))).toNat, by omega, ?_⟩
  unfold wrap64
  omega

set_option maxHeartbeats 1000000 in
theorem flips_long (a : Option Addr) (n c : Nat) (b0 b1 b2 many : Int) (w : World) (hT : Tab w) (hn : n ≤ maxLen) (hl : 16384 < n) :
    Calls Tryd.prog 5 #[.slice a n c, .agg #[.int .i64 b0, .int .i64 b1, .int .i64 b2], .int .i64 many] w fun e w' => e = .returned (.bool true) ∧ Below w.heap.size w w' := by
  unfold maxLen at hn
  have HT : Hid (Tab w) := hT
  clear hT
  go_enter Tryd.func5, Tryd.ntmps5
  go_wp2_with (go_at_call 6; refine (alive_any _ (HT.out.ext (Ext.alloc _ _))).mono ?_; rintro e w' ⟨rfl, hb⟩)
  go_ret
  exact ⟨rfl, (Ext.alloc _ _).trans hb⟩

/-- What holds at the head of each round. -/
def FlipInv (w w3 : World) (tg tc base n : Nat) (t0 : List Nat) (bs : List Int) (m gk : Nat) (i : Value) (wr : World) : Prop :=
  ∃ (k : Nat) (ks : List Nat) (D : DataW Unit), k ≤ m ∧ gk = m - k ∧ i = .int .i64 (k : Int) ∧ ks.Nodup ∧ ks.length ≤ k ∧ (0 < k → 1 ≤ ks.length) ∧ (∀ x ∈ ks, x < 8 * n) ∧
    OwnB wr base 5 (.slice (some ⟨tg, 0, none⟩) n tc) (Crc.flips t0 ks) ∧ wr.ownsMap Tryd.prog 3 (plainElem Tryd.prog 3) w3.heap.size k D ∧ IsMap D ∧
    (∀ x : Nat, x < 8 * n → D.atKey (.int .i64 (x : Int)) (.lit (.int .i64 0)) = .lit (.int .i64 (if x ∈ ks then 1 else 0))) ∧
    Below w.heap.size w wr ∧ (∀ j, j < 3 → wr.cell? ⟨w.heap.size, j, none⟩ = some (.int .i64 (bs.getD j 0))) ∧ w3.heap.size < wr.heap.size

theorem turned_byte (x y : Nat) (hy : y < 256) : bits .xor .u8 (y : Int) (IntKind.u8.wrap (2 ^ ((x : Int) % 8).toNat)) = ((y ^^^ 2 ^ (x % 8) : Nat) : Int) := by
  have h1 : ((x : Int) % 8).toNat = x % 8 := by omega
  have h2 := Crc.pow_lt x
  have key : ∀ p : Nat, p < 256 → IntKind.u8.wrap (p : Int) = (p : Int) := fun p hp => by rw [IntKind.wrap_u8]; omega
  have e : (2 : Int) ^ ((x : Int) % 8).toNat = ((2 ^ (x % 8) : Nat) : Int) := by rw [h1]; simp
  rw [e, key _ h2]
  generalize 2 ^ (x % 8) = p at *
  exact u8_xor_nat y p hy h2

theorem FlipInv.step {w w3 wr w4 : World} {tg tc base n m k : Nat} {t0 : List Nat} {bs : List Int} {ks : List Nat} {D : DataW Unit} {x : Nat}
    (hlt : k < m) (hnd : ks.Nodup) (hkl : ks.length ≤ k) (hks : ∀ x ∈ ks, x < 8 * n) (hism : IsMap D)
    (hat : ∀ x : Nat, x < 8 * n → D.atKey (.int .i64 (x : Int)) (.lit (.int .i64 0)) = .lit (.int .i64 (if x ∈ ks then 1 else 0)))
    (hbel : Below w.heap.size w wr) (hcb : ∀ j, j < 3 → wr.cell? ⟨w.heap.size, j, none⟩ = some (.int .i64 (bs.getD j 0))) (hsz : w3.heap.size < wr.heap.size)
    (hx : x < 8 * n) (hout : x ∉ ks) (hlen : (Crc.flips t0 ks).length = n)
    (hmap : w4.ownsMap Tryd.prog 3 (plainElem Tryd.prog 3) w3.heap.size (k + 1) (D.put (.int .i64 (x : Int)) (.lit (.int .i64 1)))) (hgrow : wr.grownBy w4 (some w3.heap.size))
    (hown : OwnB w4 base 5 (.slice (some ⟨tg, 0, none⟩) n tc) (Crc.flips t0 ks)) (h1 : w.heap.size < base) (h2 : base ≤ tg) (h3 : tg < w3.heap.size) (y : Nat) (hy : (Crc.flips t0 ks).getD (x / 8) 0 = y) (hy2 : y < 256) :
    FlipInv w w3 tg tc base n t0 bs m (m - (k + 1)) (.int .i64 ((k + 1 : Nat) : Int)) (w4.setCell ⟨tg, ((x : Int) / 8).toNat, none⟩ (.int .u8 (bits .xor .u8 (y : Int) (IntKind.u8.wrap (2 ^ ((x : Int) % 8).toNat))))).drew := by
  rw [turned_byte x y hy2, show ((x : Int) / 8).toNat = x / 8 by omega]
  have hxl : x / 8 < (Crc.flips t0 ks).length := by omega
  have hb : y ^^^ 2 ^ (x % 8) < 256 := Nat.xor_lt_two_pow (n := 8) hy2 (Crc.pow_lt x)
  obtain ⟨ho, hg⟩ := hown.stored (x / 8) (y ^^^ 2 ^ (x % 8)) hb
  have hset : (Crc.flips t0 ks).set (x / 8) (y ^^^ 2 ^ (x % 8)) = Crc.flips t0 (ks ++ [x]) := by
    rw [Crc.flips_snoc, Crc.flip_set _ _ hxl, hy]
  rw [hset] at ho
  have hsz4 := hgrow.size
  have hB : Below w.heap.size w w4 := hbel.grown hgrow hbel.size (fun j hj => by cases hj; omega)
  refine ⟨k + 1, ks ++ [x], D.put (.int .i64 (x : Int)) (.lit (.int .i64 1)), by omega, rfl, rfl, ?_, by simp; omega, fun _ => by simp, ?_, ho, ?_, hism.put _ _, ?_, ?_, ?_, ?_⟩
  · rw [List.nodup_append]
    refine ⟨hnd, by simp, fun a ha b hb => ?_⟩
    simp at hb
    subst hb
    rintro rfl
    exact hout ha
  · intro z hz
    rcases List.mem_append.1 hz with h | h
    · exact hks z h
    · simp at h; omega
  · exact (hmap.kept hg (by simp; omega)).drew
  · intro z hz
    by_cases hzx : z = x
    · subst hzx
      rw [atKey_put_same hism (by simp [WideAt.IsKeyLit])]
      simp
    · rw [atKey_put_other (by simp; omega), hat z hz]
      simp [hzx]
  · exact (hB.grown hg hB.size (fun j hj => by cases hj; omega)).drew
  · intro j hj
    have c1 := hgrow.cell (hcb j hj) (by simp; omega)
    exact hg.cell c1 (by simp; omega)
  · have := hg.size
    simp at this ⊢
    omega

set_option maxHeartbeats 1000000 in
theorem flips_short (v : Value) (l : List Nat) (b0 b1 b2 many : Int) (w : World) (hT : Tab w) (hv : BytesAt w v l) (hn : l.length ≤ 16384) :
    Calls Tryd.prog 5 #[v, .agg #[.int .i64 b0, .int .i64 b1, .int .i64 b2], .int .i64 many] w fun e w' => e = .returned (.bool true) ∧ Below w.heap.size w w' := by
  have HV : Hid (BytesAt w v l) := hv
  obtain ⟨a, c, rfl, _, _⟩ := hv.form
  have HT : Hid (Tab w) := hT
  clear hT hv
  have hmm := @run_makeMap Tryd.prog
  have hcl : (Crc.close l).length = l.length + 4 := by simp [Crc.close, Crc.le4]
  have hfc : Crc.fits (Crc.close l) = true := Crc.fits_close l
  obtain ⟨m, hm1, hm3, hme⟩ := many_at many
  have hmI : (m : Int) ≤ 3 := by omega
  go_enter Tryd.func5, Tryd.ntmps5
  go_wp2_with (first
    | (go_at_call 6; refine (alive_any _ (HT.out.ext (Ext.alloc _ _))).mono ?_; rintro e w1 ⟨rfl, hbe⟩)
    | (go_at_call 12; refine (close_any _ l _ (HT.out.ext ((Ext.alloc _ _).trans hbe)) (HV.out.ext ((Ext.alloc _ _).trans hbe)) (by omega)).mono ?_; rintro e w2 ⟨v2, rfl, ho2, he2⟩; obtain ⟨g2, c2, rfl, hg2⟩ := ho2.2.1; rw [hcl] at ho2 hg2 ⊢)
    | (go_at_call 14; refine (fits_any _ (Crc.close l) _ (HT.out.ext (((Ext.alloc _ _).trans hbe).trans he2)) ho2.bytes (by simp [Crc.close, Crc.le4]; omega)).mono ?_; rintro e w3 ⟨rfl, he3⟩))
  have hE3 := (((Ext.alloc w (.cells #[.int .i64 b0, .int .i64 b1, .int .i64 b2] 36)).trans hbe).trans he2).trans he3
  have hE0 := (Ext.trans (Ext.trans hbe he2) he3)
  have hcb : ∀ j u, [Value.int .i64 b0, .int .i64 b1, .int .i64 b2][j]? = some u → w3.cell? ⟨w.heap.size, j, none⟩ = some u := by
    intro j u hu
    refine hE0.cell ?_
    rw [cellNew _ _ _ _ _ _ rfl]
    simpa using hu
  have hgw : w.heap.size < w1.heap.size := by
    have := Ext.size hbe
    simp at this
    omega
  have ho3 := ho2.ext he3
  have hs3 := he3.size
  have HF : Hid (Crc.fits (Crc.close l) = true) := hfc
  clear hfc hme hmm
  generalize Crc.close l = t0 at *
  go_loopg [38] m (fun gk i wr => FlipInv w w3 g2 c2 w1.heap.size (l.length + 4) t0 [b0, b1, b2] m gk i wr)
  case atStart =>
    refine ⟨0, [], .map [], by omega, rfl, rfl, by simp, by simp, by omega, by simp, ho3.ext (Ext.alloc _ _), World.ownsMap_made _ _ _ _, ⟨[], rfl⟩, fun x _ => by simp [DataW.atKey], hE3.trans (Ext.alloc _ _), ?_, by simp⟩
    intro j hj
    rw [cellOld _ _ _ _ (by omega)]
    match j, hj with
    | 0, _ => exact hcb 0 _ rfl
    | 1, _ => exact hcb 1 _ rfl
    | 2, _ => exact hcb 2 _ rfl
  case round =>
    obtain ⟨k, ks, D, hk, rfl, rfl, hnd, hkl, hk1, hks, hown, hmap, hism, hat, hbel, hcb3, hsz⟩ := hrel
    by_cases hlt : k < m
    · have hcell := hcb3 k (by omega)
      obtain ⟨x, hx, hxe⟩ := spot_at ([b0, b1, b2].getD k 0) (l.length + 4) (by omega) (by omega)
      rw [show (((l.length + 4 : Nat)) : Int) = (l.length : Int) + 4 by omega] at hxe
      generalize [b0, b1, b2].getD k 0 = bk at *
      have hkey : keyOf Tryd.prog 3 (.int .i64 (wrap64 ((IntKind.u64.wrap bk).tmod (8 * ((l.length : Int) + 4))))) = some (.int .i64 (x : Int)) := by
        rw [hxe]; exact keyOf_int_mk Tryd.underlying3 (WalkArith.wf_i64 (by omega))
      have hkey2 : keyOf Tryd.prog 3 (.int .i64 (x : Int)) = some (.int .i64 (x : Int)) := keyOf_int_mk Tryd.underlying3 (WalkArith.wf_i64 (by omega))
      go_wp2_with (first
        | (at_lookup; refine wpList_lookup_own_int _ rfl _ _ 37 rfl 3 3 .i64 law3 Tryd.underlying37 Tryd.underlying3 (zero3 _) w3.heap.size k _ rfl hmap _ _ rfl hkey ?_; intro cc hatc hwc)
        | (at_mapUpdate; refine wpList_mapUpdate_own _ rfl _ _ _ 37 rfl 3 3 law3 Tryd.underlying37 _ w3.heap.size k _ rfl hmap (by unfold maxLen; omega) _ _ _ rfl rfl hkey2 _ [] (plainElem_int Tryd.underlying3 (by decide)) ?_; intro w4 hmap4 hgrow4)
        | go_in)
      · have hin : x ∈ ks := by
          have h1 := hat x (by omega)
          rw [hatc] at h1
          by_cases hin : x ∈ ks
          · exact hin
          · simp [hin] at h1
            omega
        go_roundg (m - (k + 1))
        case measure => omega
        case rel =>
          have hne : 1 ≤ ks.length := List.length_pos_of_mem hin
          exact ⟨k + 1, ks, D, by omega, rfl, by go_num, hnd, by omega, fun _ => hne, hks, hown, hmap.mono (by omega), hism, hat, hbel, hcb3, hsz⟩
      · have hout : x ∉ ks := by
          intro hin
          have h1 := hat x (by omega)
          rw [hatc] at h1
          simp [hin] at h1
          omega
        have hlen : (Crc.flips t0 ks).length = l.length + 4 := by rw [Crc.flips_length]; exact hcl
        have hnm : g2 ≠ w3.heap.size := by omega
        have hx8 : x / 8 < l.length + 4 := by omega
        have ho4 := hown.grown hgrow4 (by simp [Value.ownBlock, hnm])
        have hc4 := ho4.cellAt (x / 8) (by omega)
        have hf4 := ho4.frozenAt (x / 8)
        have hy : (Crc.flips t0 ks).getD (x / 8) 0 < 256 := ho4.1 _ (getD_mem _ _ _ (by omega))
        have hi1 : (0 : Int) ≤ (x : Int) / 8 := by omega
        have hi2 : (x : Int) / 8 < (l.length : Int) + 4 := by omega
        have hto : ((x : Int) / 8).toNat = x / 8 := by omega
        generalize hye : (Crc.flips t0 ks).getD (x / 8) 0 = y at *
        have HY : Hid ((Crc.flips t0 ks).getD (x / 8) 0 = y) := hye
        clear hye
        have hcx : w4.cell? ⟨g2, ((x : Int) / 8).toNat, none⟩ = some (.int .u8 (y : Int)) := by rw [hto]; exact hc4
        have hfx : w4.frozen? ⟨g2, ((x : Int) / 8).toNat, none⟩ = false := by rw [hto]; exact hf4
        have hw1 : IntKind.i64.wrap ((x : Int) / 8) = (x : Int) / 8 := by rw [IntKind.wrap_i64]; omega
        have hw2 : IntKind.i64.wrap ((x : Int) % 8) = (x : Int) % 8 := by rw [IntKind.wrap_i64]; omega
        have ht1 : (x : Int).tmod 8 = (x : Int) % 8 := Int.tmod_eq_emod_of_nonneg (by omega)
        have ht2 : (0 : Int) ≤ (x : Int) % 8 := by omega
        clear hatc hkey hkey2 hxe hc4 hf4 hto
        have hsp := fun v => FlipInv.step (w := w) (w3 := w3) (bs := [b0, b1, b2]) (tc := c2) hlt hnd hkl hks hism hat hbel hcb3 hsz hx hout hlen hmap4 hgrow4 ho4 hgw hg2.1 (show g2 < w3.heap.size by omega) y (HY.out) v
        have HSP : Hid (FlipInv w w3 g2 c2 w1.heap.size (l.length + 4) t0 [b0, b1, b2] m (m - (k + 1)) (.int .i64 ((k + 1 : Nat) : Int)) (w4.setCell ⟨g2, ((x : Int) / 8).toNat, none⟩ (.int .u8 (bits .xor .u8 (y : Int) (IntKind.u8.wrap (2 ^ ((x : Int) % 8).toNat))))).drew) := hsp hy
        clear hsp
        go_region
        go_wp2
        go_roundg (m - (k + 1))
        case measure => omega
        case rel => exact HSP.out
    · obtain rfl : k = m := by omega
      have hT4 : Tab wr := HT.out.below hbel
      have hff : Crc.fits (Crc.flips t0 ks) = false :=
        Crc.fits_flips HF.out (by omega) (by rw [hcl]; exact hks) hnd (hk1 (by omega)) (by omega)
      go_wp2_with (go_at_call 14; refine (fits_any _ (Crc.flips t0 ks) _ hT4 hown.bytes (by rw [Crc.flips_length]; omega)).mono ?_; rintro e w5 ⟨rfl, he5⟩)
      go_ret
      exact ⟨rfl, Ext.trans hbel he5⟩
end Go.Proofs.YtofjfnmhhldniaaDoor
