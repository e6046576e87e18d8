/- From the rows' condition on the tables to their cells. Condition: the tables read as the program's text lays them. -/
import Derived.Test.YtaklbnaaoebknaaDoorChg
import Derived.Test.YtaklbnaaoebknaaDoorRows
import Derived.MakeChecks
namespace Go.Proofs.YtaklbnaaoebknaaDoor
open Go Go.ChangeShapes Go.WideShapes Go.ChangeAt Go.RowKit
set_option maxRecDepth 100000

theorem gSq : Tryd.prog.globalNamed "weftline/sha.squareRoots" = some 0 := by kernel_rfl
theorem tSq : (Tryd.prog.globals[0]?).map (·.type) = some 57 := by kernel_rfl
theorem gCu : Tryd.prog.globalNamed "weftline/sha.cubeRoots" = some 3 := by kernel_rfl
theorem tCu : (Tryd.prog.globals[3]?).map (·.type) = some 67 := by kernel_rfl
theorem sq_all : ∀ k, k < 8 → ([1779033703, 3144134277, 1013904242, 2773480762, 1359893119, 2600822924, 528734635, 1541459225] : List Int).getD k 0 = (Sha.sqr.getD k 0 : Nat) := by decide
theorem cu_all : ∀ k, k < 64 → ([1116352408, 1899447441, 3049323471, 3921009573, 961987163, 1508970993, 2453635748, 2870763221, 3624381080, 310598401, 607225278, 1426881987, 1925078388, 2162078206, 2614888103, 3248222580, 3835390401, 4022224774, 264347078, 604807628, 770255983, 1249150122, 1555081692, 1996064986, 2554220882, 2821834349, 2952996808, 3210313671, 3336571891, 3584528711, 113926993, 338241895, 666307205, 773529912, 1294757372, 1396182291, 1695183700, 1986661051, 2177026350, 2456956037, 2730485921, 2820302411, 3259730800, 3345764771, 3516065817, 3600352804, 4094571909, 275423344, 430227734, 506948616, 659060556, 883997877, 958139571, 1322822218, 1537002063, 1747873779, 1955562222, 2024104815, 2227730452, 2361852424, 2428436474, 2756734187, 3204031479, 3329325298] : List Int).getD k 0 = (Sha.cub.getD k 0 : Nat) := by decide
theorem tabs_of2 {W : World} (h : laidMetH Tryd.prog Rows.macKeysRow.laid W) : Tabs W := by
  rw [MakeChecks.laidMetH_plain _ _ _ (by kernel_rfl)] at h
  obtain ⟨ps, ⟨g0, t0, cs0, f0, p0, q0, hg0, ht0, hv0, hd0, hr1, _⟩, _⟩ := h
  obtain ⟨g1, t1, cs1, f1, p1, q1, hg1, ht1, hv1, hd1, _⟩ := hr1
  obtain rfl := Option.some.inj (gSq.symm.trans hg0)
  obtain rfl := Option.some.inj (tSq.symm.trans ht0)
  obtain rfl := Option.some.inj (gCu.symm.trans hg1)
  obtain rfl := Option.some.inj (tCu.symm.trans ht1)
  refine ⟨fun k hk => ?_, fun k hk => ?_⟩
  · have h1 := ints_of_trod [1779033703, 3144134277, 1013904242, 2773480762, 1359893119, 2600822924, 528734635, 1541459225] Tryd.underlying57 Tryd.underlying28 (by kernel_rfl) hd0 k hk
    rw [World.var?_cell hg0 hv0 k, ← Array.getElem?_toList, h1, sq_all k hk]
  · have h1 := ints_of_trod [1116352408, 1899447441, 3049323471, 3921009573, 961987163, 1508970993, 2453635748, 2870763221, 3624381080, 310598401, 607225278, 1426881987, 1925078388, 2162078206, 2614888103, 3248222580, 3835390401, 4022224774, 264347078, 604807628, 770255983, 1249150122, 1555081692, 1996064986, 2554220882, 2821834349, 2952996808, 3210313671, 3336571891, 3584528711, 113926993, 338241895, 666307205, 773529912, 1294757372, 1396182291, 1695183700, 1986661051, 2177026350, 2456956037, 2730485921, 2820302411, 3259730800, 3345764771, 3516065817, 3600352804, 4094571909, 275423344, 430227734, 506948616, 659060556, 883997877, 958139571, 1322822218, 1537002063, 1747873779, 1955562222, 2024104815, 2227730452, 2361852424, 2428436474, 2756734187, 3204031479, 3329325298] Tryd.underlying67 Tryd.underlying28 (by kernel_rfl) hd1 k hk
    rw [World.var?_cell hg1 hv1 k, ← Array.getElem?_toList, h1, cu_all k hk]
end Go.Proofs.YtaklbnaaoebknaaDoor
