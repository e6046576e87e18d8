/- The law ShaSums walked: it answers true. Condition: the tables hold what the text lays. -/
import Derived.Test.YtebnaffkgeiomaaDoorAlive
import Derived.Test.YtebnaffkgeiomaaDoorRef4
import Derived.Test.YtebnaffkgeiomaaDoorLaid
namespace Go.Proofs.YtebnaffkgeiomaaDoor
open Go Go.ChangeShapes Go.WideShapes Go.ChangeAt Go.RowKit
set_option linter.unusedVariables false
set_option linter.unusedSimpArgs false
set_option maxRecDepth 100000

theorem gRc : Tryd.prog.globalNamed "weftline/weftlineref04.cube" = some 0 := by kernel_rfl
theorem tRc : (Tryd.prog.globals[0]?).map (·.type) = some 43 := by kernel_rfl
theorem tabs_of_sums {W : World} (h : laidMetH Tryd.prog Rows.shaSumsRow.laid W) : Tabs W ∧ Cube W := by
  rw [MakeChecks.laidMetH_plain _ _ _ (by kernel_rfl)] at h
  obtain ⟨ps, ⟨g2, t2, cs2, f2, p2, q2, hg2, ht2, hv2, hd2, hr0, _⟩, _⟩ := h
  obtain ⟨g0, t0, cs0, f0, p0, q0, hg0, ht0, hv0, hd0, hr1, _⟩ := hr0
  obtain ⟨g1, t1, cs1, f1, p1, q1, hg1, ht1, hv1, hd1, _⟩ := hr1
  obtain rfl := Option.some.inj (gRc.symm.trans hg2)
  obtain rfl := Option.some.inj (tRc.symm.trans ht2)
  obtain rfl := Option.some.inj (gSq.symm.trans hg0)
  obtain rfl := Option.some.inj (tSq.symm.trans ht0)
  obtain rfl := Option.some.inj (gCu.symm.trans hg1)
  obtain rfl := Option.some.inj (tCu.symm.trans ht1)
  refine ⟨⟨fun k hk => ?_, fun k hk => ?_⟩, fun k hk => ?_⟩
  · have h1 := ints_of_trod [1779033703, 3144134277, 1013904242, 2773480762, 1359893119, 2600822924, 528734635, 1541459225] Tryd.underlying44 Tryd.underlying36 (by kernel_rfl) hd0 k hk
    rw [World.var?_cell hg0 hv0 k, ← Array.getElem?_toList, h1, sq_all k hk]
  · have h1 := ints_of_trod [1116352408, 1899447441, 3049323471, 3921009573, 961987163, 1508970993, 2453635748, 2870763221, 3624381080, 310598401, 607225278, 1426881987, 1925078388, 2162078206, 2614888103, 3248222580, 3835390401, 4022224774, 264347078, 604807628, 770255983, 1249150122, 1555081692, 1996064986, 2554220882, 2821834349, 2952996808, 3210313671, 3336571891, 3584528711, 113926993, 338241895, 666307205, 773529912, 1294757372, 1396182291, 1695183700, 1986661051, 2177026350, 2456956037, 2730485921, 2820302411, 3259730800, 3345764771, 3516065817, 3600352804, 4094571909, 275423344, 430227734, 506948616, 659060556, 883997877, 958139571, 1322822218, 1537002063, 1747873779, 1955562222, 2024104815, 2227730452, 2361852424, 2428436474, 2756734187, 3204031479, 3329325298] Tryd.underlying43 Tryd.underlying36 (by kernel_rfl) hd1 k hk
    rw [World.var?_cell hg1 hv1 k, ← Array.getElem?_toList, h1, cu_all k hk]
  · have h1 := ints_of_trod [1116352408, 1899447441, 3049323471, 3921009573, 961987163, 1508970993, 2453635748, 2870763221, 3624381080, 310598401, 607225278, 1426881987, 1925078388, 2162078206, 2614888103, 3248222580, 3835390401, 4022224774, 264347078, 604807628, 770255983, 1249150122, 1555081692, 1996064986, 2554220882, 2821834349, 2952996808, 3210313671, 3336571891, 3584528711, 113926993, 338241895, 666307205, 773529912, 1294757372, 1396182291, 1695183700, 1986661051, 2177026350, 2456956037, 2730485921, 2820302411, 3259730800, 3345764771, 3516065817, 3600352804, 4094571909, 275423344, 430227734, 506948616, 659060556, 883997877, 958139571, 1322822218, 1537002063, 1747873779, 1955562222, 2024104815, 2227730452, 2361852424, 2428436474, 2756734187, 3204031479, 3329325298] Tryd.underlying43 Tryd.underlying36 (by kernel_rfl) hd2 k hk
    rw [World.var?_cell hg2 hv2 k, ← Array.getElem?_toList, h1, cu_all k hk]
theorem Cube.ext {w w' : World} (h : Cube w) (he : Ext w w') : Cube w' := fun k hk => he.cell (h k hk)

set_option maxHeartbeats 4000000 in
theorem sums_short (v : Value) (T : List Nat) (w : World) (hT : Tabs w) (hC : Cube w) (hv : BytesAt w v T) (hl : T.length ≤ 2000) :
    Calls Tryd.prog 3 #[v] w fun e w' => e = .returned (.bool true) ∧ Ext w w' := by
  have HA : Hid (BytesAt w v T ∧ Tabs w ∧ Cube w ∧ T.length ≤ 2000) := ⟨hv, hT, hC, hl⟩
  obtain ⟨a, cap, rfl, _, _⟩ := hv.form
  clear hv hT hC
  rename_i z1 z2
  clear z1 z2
  obtain ⟨D, hD⟩ : ∃ D, D = Sha.dgst T := ⟨_, rfl⟩
  have q1 := run_eqlA (D := D) (by rw [hD]; exact dgst_len _) (by rw [hD]; exact dgst_all _)
  have p1 := run_guardA (D := D) .eql
  have HD : Hid (D = Sha.dgst T) := hD
  clear hD
  have i1 : decide ((T.length : Int) > 2000) = false := decide_eq_false (by omega)
  go_enter Tryd.func3, Tryd.ntmps3
  go_wp2_with (first
    | (go_at_call 6; refine (alive_any _ HA.out.2.1).mono ?_; rintro e w1 ⟨rfl, he1⟩)
    | (at_builtin; refine wpList_append_bytes byteT rfl _ _ rfl w1.heap.size [] T (OwnB.made #[] [] rfl (Nat.le_refl _) rfl (by simp) (by simp) rfl) (HA.out.1.ext (he1.trans (Ext.alloc _ _))) (by have := HA.out; simp; omega) ?_; intro g2 c2 w2 ho2 hb2; simp only [List.nil_append] at ho2 ⊢; have HE2 : Hid (Ext w w2) := he1.trans (Below.trans (Ext.alloc _ _) hb2))
    | (go_at_call 7; refine (sum_any (ls := [T]) (HA.out.2.1.ext (HE2.out.trans (Ext.alloc _ _))) (PartsOf.one w2 _ rfl ho2.bytes) (by have := HA.out; simp; omega)).mono ?_; rintro e w3 ⟨rfl, he3⟩; rw [show [T].flatten = T by simp, ← HD.out]; have HE3 : Hid (Ext w w3) := (HE2.out.trans (Ext.alloc _ _)).trans he3)
    | (go_at_call 8; refine (refSum_any _ T _ (HA.out.1.ext HE3.out) HA.out.2.2.2 (HA.out.2.2.1.ext HE3.out)).mono ?_; rintro e w4 ⟨rfl, he4⟩; rw [← HD.out]; have hs1 := run_string_bytes byteT Tryd.underlying9 w4 _ T (((ho2.bytes.ext (Ext.alloc _ _)).ext he3).ext he4); have hs2 := run_string_bytes byteT Tryd.underlying9 w4 _ T (HA.out.1.ext (HE3.out.trans he4))))
  go_ret
  exact ⟨rfl, HE3.out.trans he4⟩

set_option maxHeartbeats 1000000 in
theorem sums_long (a : Option Addr) (ca n : Nat) (w : World) (hT : Tabs w) (h1 : n ≤ maxLen) (hl : 2000 < n) :
    Calls Tryd.prog 3 #[.slice a n ca] w fun e w' => e = .returned (.bool true) ∧ Ext w w' := by
  unfold maxLen at h1
  have HT : Hid (Tabs w) := hT
  clear hT
  go_enter Tryd.func3, Tryd.ntmps3
  go_wp2_with (go_at_call 6; refine (alive_any _ HT.out).mono ?_; rintro e w' ⟨rfl, hb⟩)
  go_ret
  exact ⟨rfl, hb⟩

theorem sums_any (v : Value) (T : List Nat) (w : World) (hT : Tabs w ∧ Cube w) (hv : BytesAt w v T) :
    Calls Tryd.prog 3 #[v] w fun e w' => e = .returned (.bool true) ∧ Below w.heap.size w w' := by
  by_cases h : T.length ≤ 2000
  · exact sums_short v T w hT.1 hT.2 hv h
  · obtain ⟨a, ca, rfl, _, _⟩ := hv.form
    exact sums_long a ca _ w hT.1 hv.2.1 (by omega)
end Go.Proofs.YtebnaffkgeiomaaDoor
