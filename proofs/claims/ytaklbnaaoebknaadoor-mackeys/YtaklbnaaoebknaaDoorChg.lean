/- The registers changed at one time: what this function answers. Condition: the table cubeRoots holds what the text lays. -/
import Derived.Test.YtaklbnaaoebknaaDoorFns2
namespace Go.Proofs.YtaklbnaaoebknaaDoor
open Go Go.RowKit
set_option linter.unusedVariables false
set_option linter.unusedSimpArgs false
set_option maxRecDepth 100000

/-- The tables, as the program's text lays them. -/
structure Tabs (w : World) : Prop where
  s : ∀ k, k < 8 → w.cell? ⟨0, k, none⟩ = some (.int .u32 (Sha.sqr.getD k 0 : Nat))
  c : ∀ k, k < 64 → w.cell? ⟨3, k, none⟩ = some (.int .u32 (Sha.cub.getD k 0 : Nat))
theorem Tabs.ext {w w' : World} (h : Tabs w) (he : Ext w w') : Tabs w' := ⟨fun k hk => he.cell (h.s k hk), fun k hk => he.cell (h.c k hk)⟩
theorem Tabs.two {w : World} (h : Tabs w) : 3 < w.heap.size := by
  have h1 := cell_lt (h.c 0 (by decide))
  have h2 := cell_lt (h.s 0 (by decide))
  simp only at h1 h2
  omega
theorem Tabs.but {S : Nat → Prop} {w w' : World} (h : Tabs w) (hk : KeepBut S w w') (h1 : ¬ S 0) (h2 : ¬ S 3) : Tabs w' := by
  have := h.two
  exact ⟨fun k hk' => (World.cell?_of_block (hk.block 0 (by omega) h1)).trans (h.s k hk'), fun k hk' => (World.cell?_of_block (hk.block 3 (by omega) h2)).trans (h.c k hk')⟩
theorem cub_lt (i : Nat) : Sha.cub.getD i 0 < 4294967296 := Sha.AllU.get (L := Sha.cub) (by unfold Sha.AllU Sha.cub; decide) i

theorem row44 : RowT Tryd.prog 57 8 := ⟨⟨_, Tryd.underlying57, rfl⟩, by kernel_rfl⟩
theorem zero44 : (Tryd.prog.info? 57).bind (·.zero) = some (.agg (uA (List.replicate 8 0))) := by kernel_rfl
theorem one36 : OneT Tryd.prog 28 := ⟨⟨_, Tryd.underlying28, rfl⟩, by kernel_rfl⟩
theorem place_0 (i b : Nat) (w : World) (hi : i < 64) (hB : Boxed w b 3 (.int .i64 (i : Int))) :
    Calls Tryd.prog 43 #[.int .i32 112, .pointer (some ⟨b, 0, none⟩)] w fun e w' => e = .returned (.int .i64 (Sha.pl 0 i : Nat)) ∧ w' = w := place_any 0 i b w (by decide) hi hB
theorem place_1 (i b : Nat) (w : World) (hi : i < 64) (hB : Boxed w b 3 (.int .i64 (i : Int))) :
    Calls Tryd.prog 43 #[.int .i32 113, .pointer (some ⟨b, 0, none⟩)] w fun e w' => e = .returned (.int .i64 (Sha.pl 1 i : Nat)) ∧ w' = w := place_any 1 i b w (by decide) hi hB
theorem place_2 (i b : Nat) (w : World) (hi : i < 64) (hB : Boxed w b 3 (.int .i64 (i : Int))) :
    Calls Tryd.prog 43 #[.int .i32 114, .pointer (some ⟨b, 0, none⟩)] w fun e w' => e = .returned (.int .i64 (Sha.pl 2 i : Nat)) ∧ w' = w := place_any 2 i b w (by decide) hi hB
theorem place_3 (i b : Nat) (w : World) (hi : i < 64) (hB : Boxed w b 3 (.int .i64 (i : Int))) :
    Calls Tryd.prog 43 #[.int .i32 115, .pointer (some ⟨b, 0, none⟩)] w fun e w' => e = .returned (.int .i64 (Sha.pl 3 i : Nat)) ∧ w' = w := place_any 3 i b w (by decide) hi hB
theorem place_4 (i b : Nat) (w : World) (hi : i < 64) (hB : Boxed w b 3 (.int .i64 (i : Int))) :
    Calls Tryd.prog 43 #[.int .i32 116, .pointer (some ⟨b, 0, none⟩)] w fun e w' => e = .returned (.int .i64 (Sha.pl 4 i : Nat)) ∧ w' = w := place_any 4 i b w (by decide) hi hB
theorem place_5 (i b : Nat) (w : World) (hi : i < 64) (hB : Boxed w b 3 (.int .i64 (i : Int))) :
    Calls Tryd.prog 43 #[.int .i32 117, .pointer (some ⟨b, 0, none⟩)] w fun e w' => e = .returned (.int .i64 (Sha.pl 5 i : Nat)) ∧ w' = w := place_any 5 i b w (by decide) hi hB
theorem place_6 (i b : Nat) (w : World) (hi : i < 64) (hB : Boxed w b 3 (.int .i64 (i : Int))) :
    Calls Tryd.prog 43 #[.int .i32 118, .pointer (some ⟨b, 0, none⟩)] w fun e w' => e = .returned (.int .i64 (Sha.pl 6 i : Nat)) ∧ w' = w := place_any 6 i b w (by decide) hi hB
theorem place_7 (i b : Nat) (w : World) (hi : i < 64) (hB : Boxed w b 3 (.int .i64 (i : Int))) :
    Calls Tryd.prog 43 #[.int .i32 119, .pointer (some ⟨b, 0, none⟩)] w fun e w' => e = .returned (.int .i64 (Sha.pl 7 i : Nat)) ∧ w' = w := place_any 7 i b w (by decide) hi hB

theorem notN (t : Nat) (h : t < 4294967296) : bits .xor .u32 IntKind.u32.max (t : Int) = ((4294967295 - t : Nat) : Int) := by
  rw [show IntKind.u32.max = ((4294967295 : Nat) : Int) by decide, xorN _ _ (by decide) h]
  congr 1
  have e : ((BitVec.ofNat 32 4294967295) ^^^ (BitVec.ofNat 32 t)).toNat = (~~~ (BitVec.ofNat 32 t)).toNat := by
    congr 1
  rw [BitVec.toNat_xor, BitVec.toNat_not] at e
  simp only [BitVec.toNat_ofNat] at e
  rw [Nat.mod_eq_of_lt (show t < 2 ^ 32 from h)] at e
  omega
theorem x_eq (w a c k m : Nat) : ((((((w : Int) + (a : Int)) % 4294967296 + (c : Int)) % 4294967296 + (k : Int)) % 4294967296 + (m : Int)) % 4294967296) = ((((w + a + c + k + m) % 4294967296 : Nat)) : Int) := by omega
theorem pl_ne (i : Nat) (hi : i < 64) : Sha.pl 3 i ≠ Sha.pl 7 i := by unfold Sha.pl; omega

set_option maxHeartbeats 4000000 in
theorem changedAt_any (i : Nat) (L : List Nat) (m : Nat) (w : World) (hT : Tabs w) (hi : i < 64) (hl : L.length = 8) (hL : Sha.AllU L) (hm : m < 4294967296) :
    Calls Tryd.prog 38 #[.int .i64 (i : Int), .agg (uA L), .int .u32 (m : Int)] w fun e w' => e = .returned (.agg (uA (Sha.chg i L m))) ∧ Ext w w' := by
  have HT : Hid (Tabs w) := hT
  have kc := hT.c i hi
  have hk := cub_lt i
  clear hT
  have l0 := Sha.pl_lt 0 i
  have hp := hL.get (Sha.pl 0 i)
  have g0 := uA_get L (Sha.pl 0 i) (by omega)
  have l1 := Sha.pl_lt 1 i
  have hq := hL.get (Sha.pl 1 i)
  have g1 := uA_get L (Sha.pl 1 i) (by omega)
  have l2 := Sha.pl_lt 2 i
  have hr := hL.get (Sha.pl 2 i)
  have g2 := uA_get L (Sha.pl 2 i) (by omega)
  have l3 := Sha.pl_lt 3 i
  have hs := hL.get (Sha.pl 3 i)
  have g3 := uA_get L (Sha.pl 3 i) (by omega)
  have l4 := Sha.pl_lt 4 i
  have ht := hL.get (Sha.pl 4 i)
  have g4 := uA_get L (Sha.pl 4 i) (by omega)
  have l5 := Sha.pl_lt 5 i
  have hu := hL.get (Sha.pl 5 i)
  have g5 := uA_get L (Sha.pl 5 i) (by omega)
  have l6 := Sha.pl_lt 6 i
  have hv := hL.get (Sha.pl 6 i)
  have g6 := uA_get L (Sha.pl 6 i) (by omega)
  have l7 := Sha.pl_lt 7 i
  have hw := hL.get (Sha.pl 7 i)
  have g7 := uA_get L (Sha.pl 7 i) (by omega)
  have HC : Hid (Sha.chg i L m = (L.set (Sha.pl 3 i) ((L.getD (Sha.pl 3 i) 0 + Sha.xOf (L.getD (Sha.pl 4 i) 0) (L.getD (Sha.pl 5 i) 0) (L.getD (Sha.pl 6 i) 0) (L.getD (Sha.pl 7 i) 0) (Sha.cub.getD i 0) m) % 4294967296)).set (Sha.pl 7 i)
    ((Sha.xOf (L.getD (Sha.pl 4 i) 0) (L.getD (Sha.pl 5 i) 0) (L.getD (Sha.pl 6 i) 0) (L.getD (Sha.pl 7 i) 0) (Sha.cub.getD i 0) m + Sha.yOf (L.getD (Sha.pl 0 i) 0) (L.getD (Sha.pl 1 i) 0) (L.getD (Sha.pl 2 i) 0)) % 4294967296)) := rfl
  generalize Sha.cub.getD i 0 = kk at *
  generalize L.getD (Sha.pl 0 i) 0 = pp at *
  generalize L.getD (Sha.pl 1 i) 0 = qq at *
  generalize L.getD (Sha.pl 2 i) 0 = rr at *
  generalize L.getD (Sha.pl 3 i) 0 = ss at *
  generalize L.getD (Sha.pl 4 i) 0 = tt at *
  generalize L.getD (Sha.pl 5 i) 0 = uu at *
  generalize L.getD (Sha.pl 6 i) 0 = vv at *
  generalize L.getD (Sha.pl 7 i) 0 = ww at *
  have a1 := andN tt uu ht hu
  have a3 := andN pp qq hp hq
  have a4 := andN pp rr hp hr
  have a5 := andN qq rr hq hr
  have n1 := notN tt ht
  have hsg : IntKind.u32.signed = false := rfl
  have a2 := andN (4294967295 - tt) vv (by omega) hv
  have x1 := xorN (tt &&& uu) ((4294967295 - tt) &&& vv) (Sha.and_lt ht) (Sha.and_lt (by omega))
  have x2 := xorN (pp &&& qq) (pp &&& rr) (Sha.and_lt hp) (Sha.and_lt hp)
  have x3 := xorN ((pp &&& qq) ^^^ (pp &&& rr)) (qq &&& rr) (Sha.xor_lt (Sha.and_lt hp) (Sha.and_lt hp)) (Sha.and_lt hq)
  have HX : Hid (Sha.xOf tt uu vv ww kk m = (ww + Sha.all3 tt 6 11 25 + ((tt &&& uu) ^^^ ((4294967295 - tt) &&& vv)) + kk + m) % 4294967296) := rfl
  have HY : Hid (Sha.yOf pp qq rr = (Sha.all3 pp 2 13 22 + (((pp &&& qq) ^^^ (pp &&& rr)) ^^^ (qq &&& rr))) % 4294967296) := rfl
  generalize (tt &&& uu) ^^^ ((4294967295 - tt) &&& vv) = ch at *
  generalize ((pp &&& qq) ^^^ (pp &&& rr)) ^^^ (qq &&& rr) = mo at *
  generalize (pp &&& qq) ^^^ (pp &&& rr) = z0 at *
  generalize tt &&& uu = z1 at *
  generalize (4294967295 - tt) &&& vv = z2 at *
  generalize pp &&& qq = z3 at *
  generalize pp &&& rr = z4 at *
  generalize qq &&& rr = z5 at *
  generalize 4294967295 - tt = nt at *
  generalize Sha.xOf tt uu vv ww kk m = xx at *
  generalize Sha.yOf pp qq rr = yy at *
  have hX : ((ww : Int) + (Sha.all3 tt 6 11 25 : Nat) + (ch : Int) + (kk : Int) + (m : Int)) % 4294967296 = (xx : Int) := by rw [HX.out]; omega
  have hY : (((Sha.all3 pp 2 13 22 : Nat) : Int) + (mo : Int)) % 4294967296 = (yy : Int) := by rw [HY.out]; omega
  have hxl : xx < 4294967296 := by rw [HX.out]; exact Nat.mod_lt _ (by decide)
  have hyl : yy < 4294967296 := by rw [HY.out]; exact Nat.mod_lt _ (by decide)
  obtain ⟨sx, esx⟩ : ∃ sx, sx = (ss + xx) % 4294967296 := ⟨_, rfl⟩
  obtain ⟨xy, exy⟩ : ∃ xy, xy = (xx + yy) % 4294967296 := ⟨_, rfl⟩
  have hS0 : ((ss : Int) + (xx : Int)) % 4294967296 = (sx : Int) := by omega
  have hS : ((ss : Int) + ((ww : Int) + (Sha.all3 tt 6 11 25 : Nat) + (ch : Int) + (kk : Int) + (m : Int))) % 4294967296 = (sx : Int) := by omega
  have hXY2 : ((ww : Int) + (Sha.all3 tt 6 11 25 : Nat) + (ch : Int) + (kk : Int) + (m : Int) + ((Sha.all3 pp 2 13 22 : Nat) + (mo : Int))) % 4294967296 = (((xx + yy) % 4294967296 : Nat) : Int) := by omega
  have hXY : ((xx : Int) + (yy : Int)) % 4294967296 = (xy : Int) := by omega
  rw [← exy] at hXY2
  rw [← esx, ← exy] at HC
  clear HX HY esx exy
  have HL : Hid (L.length = 8) := hl
  clear hL hl
  go_enter Tryd.func38, Tryd.ntmps38
  go_wp2_with (first
    | (refine wl_box1 (v := .int .i64 (i : Int)) rfl rfl rfl rfl ?_; intro w1 hb1 he1 hx; clear hx)
    | (refine wl_box rfl rfl rfl ?_; intro w2 hb2 he2 hx; clear hx)
    | (refine wl_alloc rfl rfl zero44 ?_; intro w3 hb3 he3 hx; clear hx))
  have HB : Hid (∀ wx : World, wx.heap = w3.heap → Boxed wx w.heap.size 3 (.int .i64 (i : Int))) := fun wx e => by unfold Boxed; rw [e]; exact block_ext he3 (block_ext he2 hb1)
  have H2 : Hid (Blk w3 w1.heap.size (uA L) 57) := hb2.ext he3
  have HE : Hid (Ext w w3) := (he1.trans he2).trans he3
  have kc3 := HE.out.cell kc
  have ci := (HB.out w3 rfl).cell
  have c0 := (H2.out.cell (Sha.pl 0 i)).trans g0
  have c1 := (H2.out.cell (Sha.pl 1 i)).trans g1
  have c2 := (H2.out.cell (Sha.pl 2 i)).trans g2
  have c3 := (H2.out.cell (Sha.pl 3 i)).trans g3
  have c4 := (H2.out.cell (Sha.pl 4 i)).trans g4
  have c5 := (H2.out.cell (Sha.pl 5 i)).trans g5
  have c6 := (H2.out.cell (Sha.pl 6 i)).trans g6
  have c7 := (H2.out.cell (Sha.pl 7 i)).trans g7
  have HZ : Hid (Blk w3 w2.heap.size (uA (List.replicate 8 0)) 57) := hb3
  have hz1 : w.heap.size ≤ w1.heap.size := he1.size
  have hz2 : w1.heap.size < w2.heap.size := hb2.lt
  have HN : Hid (w.heap.size < w1.heap.size ∧ w1.heap.size < w2.heap.size) := ⟨hb1.lt, hb2.lt⟩
  clear hb1 hb2 hb3 he1 he2 he3 hz1 hz2 kc
  go_quiet (first
    | (go_at_call_of 43 (Value.int .i32 112); refine Calls.quiet_of_same (place_0 i _ _ hi (HB.out _ (by rfl))))
    | (go_at_call_of 43 (Value.int .i32 113); refine Calls.quiet_of_same (place_1 i _ _ hi (HB.out _ (by rfl))))
    | (go_at_call_of 43 (Value.int .i32 114); refine Calls.quiet_of_same (place_2 i _ _ hi (HB.out _ (by rfl))))
    | (go_at_call_of 43 (Value.int .i32 116); refine Calls.quiet_of_same (place_4 i _ _ hi (HB.out _ (by rfl))))
    | (go_at_call_of 43 (Value.int .i32 117); refine Calls.quiet_of_same (place_5 i _ _ hi (HB.out _ (by rfl))))
    | (go_at_call_of 43 (Value.int .i32 118); refine Calls.quiet_of_same (place_6 i _ _ hi (HB.out _ (by rfl))))
    | (go_at_call_of 43 (Value.int .i32 119); refine Calls.quiet_of_same (place_7 i _ _ hi (HB.out _ (by rfl))))
    | (go_at_call_of 44 (Value.int .i64 6); refine Calls.quiet_of_same (all_6 _ _ ht)))
  go_wp2_with fail
  generalize hW : w3.drewN _ = w4
  have hh : w4.heap = w3.heap := by rw [← hW]; rfl
  have hce : ∀ a, w4.cell? a = w3.cell? a := fun a => by unfold World.cell?; rw [hh]
  replace kc3 := (hce _).trans kc3
  replace ci := (hce _).trans ci
  replace c0 := (hce _).trans c0
  replace c1 := (hce _).trans c1
  replace c2 := (hce _).trans c2
  replace c3 := (hce _).trans c3
  replace c4 := (hce _).trans c4
  replace c5 := (hce _).trans c5
  replace c6 := (hce _).trans c6
  replace c7 := (hce _).trans c7
  replace HB : Hid (∀ wx : World, wx.heap = w4.heap → Boxed wx w.heap.size 3 (.int .i64 (i : Int))) := fun wx e => HB.out wx (e.trans hh)
  replace H2 : Hid (Blk w4 w1.heap.size (uA L) 57) := H2.out.of (by rw [hh])
  replace HZ : Hid (Blk w4 w2.heap.size (uA (List.replicate 8 0)) 57) := HZ.out.of (by rw [hh])
  replace HE : Hid (Ext w w4) := HE.out.trans (by rw [← hW]; exact Ext.drewN _ _)
  clear hh hce hW
  go_quiet (first
    | (go_at_call_of 43 (Value.int .i32 112); refine Calls.quiet_of_same (place_0 i _ _ hi (HB.out _ (by rfl))))
    | (go_at_call_of 43 (Value.int .i32 113); refine Calls.quiet_of_same (place_1 i _ _ hi (HB.out _ (by rfl))))
    | (go_at_call_of 43 (Value.int .i32 114); refine Calls.quiet_of_same (place_2 i _ _ hi (HB.out _ (by rfl))))
    | (go_at_call_of 43 (Value.int .i32 116); refine Calls.quiet_of_same (place_4 i _ _ hi (HB.out _ (by rfl))))
    | (go_at_call_of 43 (Value.int .i32 117); refine Calls.quiet_of_same (place_5 i _ _ hi (HB.out _ (by rfl))))
    | (go_at_call_of 43 (Value.int .i32 118); refine Calls.quiet_of_same (place_6 i _ _ hi (HB.out _ (by rfl))))
    | (go_at_call_of 43 (Value.int .i32 119); refine Calls.quiet_of_same (place_7 i _ _ hi (HB.out _ (by rfl))))
    | (go_at_call_of 44 (Value.int .i64 6); refine Calls.quiet_of_same (all_6 _ _ ht)))
  go_wp2_with fail
  generalize hW : w4.drewN _ = w5
  have hh : w5.heap = w4.heap := by rw [← hW]; rfl
  have hce : ∀ a, w5.cell? a = w4.cell? a := fun a => by unfold World.cell?; rw [hh]
  replace kc3 := (hce _).trans kc3
  replace ci := (hce _).trans ci
  replace c0 := (hce _).trans c0
  replace c1 := (hce _).trans c1
  replace c2 := (hce _).trans c2
  replace c3 := (hce _).trans c3
  replace c4 := (hce _).trans c4
  replace c5 := (hce _).trans c5
  replace c6 := (hce _).trans c6
  replace c7 := (hce _).trans c7
  replace HB : Hid (∀ wx : World, wx.heap = w5.heap → Boxed wx w.heap.size 3 (.int .i64 (i : Int))) := fun wx e => HB.out wx (e.trans hh)
  replace H2 : Hid (Blk w5 w1.heap.size (uA L) 57) := H2.out.of (by rw [hh])
  replace HZ : Hid (Blk w5 w2.heap.size (uA (List.replicate 8 0)) 57) := HZ.out.of (by rw [hh])
  replace HE : Hid (Ext w w5) := HE.out.trans (by rw [← hW]; exact Ext.drewN _ _)
  clear hh hce hW
  go_quiet (first
    | (go_at_call_of 43 (Value.int .i32 112); refine Calls.quiet_of_same (place_0 i _ _ hi (HB.out _ (by rfl))))
    | (go_at_call_of 43 (Value.int .i32 113); refine Calls.quiet_of_same (place_1 i _ _ hi (HB.out _ (by rfl))))
    | (go_at_call_of 43 (Value.int .i32 114); refine Calls.quiet_of_same (place_2 i _ _ hi (HB.out _ (by rfl))))
    | (go_at_call_of 43 (Value.int .i32 116); refine Calls.quiet_of_same (place_4 i _ _ hi (HB.out _ (by rfl))))
    | (go_at_call_of 43 (Value.int .i32 117); refine Calls.quiet_of_same (place_5 i _ _ hi (HB.out _ (by rfl))))
    | (go_at_call_of 43 (Value.int .i32 118); refine Calls.quiet_of_same (place_6 i _ _ hi (HB.out _ (by rfl))))
    | (go_at_call_of 43 (Value.int .i32 119); refine Calls.quiet_of_same (place_7 i _ _ hi (HB.out _ (by rfl))))
    | (go_at_call_of 44 (Value.int .i64 6); refine Calls.quiet_of_same (all_6 _ _ ht)))
  generalize hW : w5.drewN _ = w6
  have hh : w6.heap = w5.heap := by rw [← hW]; rfl
  have hce : ∀ a, w6.cell? a = w5.cell? a := fun a => by unfold World.cell?; rw [hh]
  replace kc3 := (hce _).trans kc3
  replace ci := (hce _).trans ci
  replace c0 := (hce _).trans c0
  replace c1 := (hce _).trans c1
  replace c2 := (hce _).trans c2
  replace c3 := (hce _).trans c3
  replace c4 := (hce _).trans c4
  replace c5 := (hce _).trans c5
  replace c6 := (hce _).trans c6
  replace c7 := (hce _).trans c7
  replace HB : Hid (∀ wx : World, wx.heap = w6.heap → Boxed wx w.heap.size 3 (.int .i64 (i : Int))) := fun wx e => HB.out wx (e.trans hh)
  replace H2 : Hid (Blk w6 w1.heap.size (uA L) 57) := H2.out.of (by rw [hh])
  replace HZ : Hid (Blk w6 w2.heap.size (uA (List.replicate 8 0)) 57) := HZ.out.of (by rw [hh])
  replace HE : Hid (Ext w w6) := HE.out.trans (by rw [← hW]; exact Ext.drewN _ _)
  clear hh hce hW
  go_wp2_with (first
    | (go_at_call_of 44 (Value.int .i64 2); refine (all_2 _ _ hp).mono ?_; rintro e wx ⟨rfl, hx⟩; subst wx)
    | (go_at_call_of 43 (Value.int .i32 115); refine (place_3 i _ _ hi (HB.out _ (by rfl))).mono ?_; rintro e wx ⟨rfl, hx⟩; subst wx)
    | (refine wl_set (v := .int .u32 (sx : Nat)) rfl one36 rfl rfl (by first | rfl | go_simp | simp [go_sem, hS0]) rfl rfl H2.out (by rw [uA_size, HL.out]; assumption) ?_; intro w7 hb7 hk7 hx; clear hx; rw [uA_set] at hb7; have hB7 : Boxed w7 w.heap.size 3 (.int .i64 (i : Int)) := (hk7.block w.heap.size (HB.out w6 rfl).lt (Nat.ne_of_lt HN.out.1)).trans (HB.out w6 rfl))
    | (go_at_call_of 43 (Value.int .i32 119); refine (place_7 i _ _ hi hB7).mono ?_; rintro e wx ⟨rfl, hx⟩; subst wx)
    | (refine wl_set (v := .int .u32 (xy : Nat)) rfl one36 rfl rfl (by first | rfl | go_simp | simp [go_sem, hXY]) rfl rfl hb7 (by rw [uA_size, List.length_set, HL.out]; assumption) ?_; intro w8 hb8 hk8 hx; clear hx; rw [uA_set] at hb8)
    | (refine wl_load rfl row44 rfl rfl hb8 (by rw [uA_size, List.length_set, List.length_set, HL.out]) ?_)
    | (refine wl_store rfl row44 rfl rfl rfl ((HZ.out.but hk7 (by have := HN.out.2; show ¬ _ = _; omega)).but hk8 (by have := HN.out.2; show ¬ _ = _; omega)) (by rw [uA_size, List.length_set, List.length_set, HL.out]) rfl (uA_one _) ?_; intro w9 hb9 hk9 hx; clear hx))
  refine bodyPost_ret (v := .agg (uA ((L.set (Sha.pl 3 i) sx).set (Sha.pl 7 i) xy))) (results_cell_row (fn := Tryd.f38) (p := 6) (by rfl) _ _ w2.heap.size 57 _ (0, 0) _ rfl hb9 Tryd.underlying57 rfl (by rw [uA_size, List.length_set, List.length_set, HL.out]; kernel_rfl)) rfl ⟨by rw [HC.out], ?_⟩
  have := HN.out
  exact ((HE.out.of_but hk7 (fun k e => by subst e; omega)).of_but hk8 (fun k e => by subst e; omega)).of_but hk9 (fun k e => by subst e; omega)
end Go.Proofs.YtaklbnaaoebknaaDoor
