/- An argument that is a slice of numbers, opened. No condition of its own. -/
import Derived.Test.YtbongjdflnefmaaNums
import Derived.Lib.SmallJoins
namespace Go.Proofs.Ytbongjdflnefmaa
open Go.RowKit Go.ChangeShapes

theorem nums_open {H : Type} {enc : TypeId × Value → H} {P : Program} {w : World} {base : Nat} {held : Bool} {fuel : Nat} {t e : TypeId} {k : IntKind} {v : Value} {x : DataW H × List MemPlace}
    (ht : P.underlying t = some (.slice e)) (he : P.underlying e = some (.int k)) (hc : P.cellsOf e = 1) (h : DataW.trod enc P w base (fun _ => true) held fuel t [v] = some x) :
    ∃ l, NumsAt k w v l ∧ ∀ z ∈ l, (Lit.int k z).wf = true := by
  rcases open_ints ht he hc h with ⟨hcs, _⟩ | ⟨a, len, cap, zs, hcs, _, hl, hm, hz, _, hcell, hwf⟩
  · simp at hcs
    subst hcs
    exact ⟨[], NumsAt.nothing _ _, by simp⟩
  · simp at hcs
    subst hcs
    exact ⟨_, NumsAt.of_row hl hm (by simpa using hz) hcell, fun z hz' => hwf z (List.mem_of_mem_take hz')⟩
end Go.Proofs.Ytbongjdflnefmaa
