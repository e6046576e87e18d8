/- From the row's condition on the table fourBits to its cells. Condition: the table reads as the program's text lays it. -/
import Derived.Test.YtofjfnmhhldniaaDoorWalks
import Derived.Test.YtofjfnmhhldniaaDoorRows
namespace Go.Proofs.YtofjfnmhhldniaaDoor
open Go.ChangeShapes Go.WideShapes Go.ChangeAt Go.RowKit

theorem gFour : Tryd.prog.globalNamed (Rows.crcPartsRow.named.headD "") = some 0 := by kernel_rfl
theorem tFour : (Tryd.prog.globals[0]?).map (·.type) = some 43 := by kernel_rfl

theorem tab_of_laid {W : World} (h : laidMetH Tryd.prog Rows.crcPartsRow.laid W) : Tab W := by
  rw [MakeChecks.laidMetH_plain _ _ _ (by kernel_rfl)] at h
  obtain ⟨ps, ⟨g0, t0, cs0, f0, p0, q0, hg0, ht0, hv0, hd0, _⟩, _⟩ := h
  obtain rfl := Option.some.inj (gFour.symm.trans hg0)
  obtain rfl := Option.some.inj (tFour.symm.trans ht0)
  intro k hk
  have h1 := ints_of_trod [0, 274646895, 549293790, 820201905, 1098587580, 1361435347, 1640403810, 1905808397, 2197175160, 2460548119, 2722870694, 2987750089, 3280807620, 3553878443, 3811616794, 4084100981]
    Tryd.underlying43 Tryd.underlying24 (by kernel_rfl) hd0 k hk
  rw [World.var?_cell hg0 hv0 k]
  rw [← Array.getElem?_toList, h1]
  have h2 : ∀ k, k < 16 → ([0, 274646895, 549293790, 820201905, 1098587580, 1361435347, 1640403810, 1905808397, 2197175160, 2460548119, 2722870694, 2987750089, 3280807620, 3553878443, 3811616794, 4084100981] : List Int).getD k 0 = (Crc.tab k : Nat) := by decide
  rw [h2 k hk]
end Go.Proofs.YtofjfnmhhldniaaDoor
