/- An argument that is a list of acts, opened. No condition of its own. -/
import Derived.Test.YtbongjdflnefmaaActs
import Derived.Lib.SmallJoins
import Derived.Deep.Strs
namespace Go.Proofs.Ytbongjdflnefmaa
open Go.RowKit Go.ChangeShapes
set_option maxRecDepth 100000

theorem acts_open {H : Type} {enc : TypeId × Value → H} {w : World} {base : Nat} {held : Bool} {fuel : Nat} {v : Value} {x : DataW H × List MemPlace}
    (h : DataW.trod enc Try.prog w base (fun _ => true) held fuel 25 [v] = some x) : ∃ n K J X, ActsAt w v n K J X := by
  have ce : Try.prog.cellsOf 68 = 3 := by kernel_rfl
  have c3 : Try.prog.cellsOf 3 = 1 := by kernel_rfl
  have c22 : Try.prog.cellsOf 22 = 1 := by kernel_rfl
  rcases Go.Deep.open_slice Try.underlying25 h with ⟨hcs, _⟩ | ⟨a, len, cap, m, n, D, Pl, hcs, hb, hl, hm, hmm, _, hx⟩
  · simp at hcs
    subst hcs
    exact ⟨0, fun _ => 0, fun _ => 0, fun _ => 0, .inl ⟨rfl, rfl⟩⟩
  · simp at hcs
    subst hcs
    have hlm : len ≤ m := by rw [hmm]; split <;> omega
    rw [ce] at hx
    obtain ⟨q, hq⟩ := Go.Deep.choose_lt (α := Int × Int × Int) (n := len) (p := fun i z => w.cell? (a.add (i * 3)) = some (.int .i64 z.1) ∧ w.cell? (a.add (i * 3 + 1)) = some (.int .u32 z.2.1) ∧ w.cell? (a.add (i * 3 + 2)) = some (.int .i64 z.2.2) ∧ W64 z.1 ∧ Of 4294967296 z.2.1 ∧ W64 z.2.2) (fun i hi => by
      obtain ⟨cs', h1, h2⟩ := hx i (by omega)
      obtain ⟨_, hlen, hcell⟩ := World.cells?_some h1
      obtain ⟨y0, y1, y2, k, _, _, g0, g1, g2⟩ := Go.Deep.trod_struct3 Try.underlying68 h2
      match cs', hlen with
      | [v0, v1, v2], _ =>
        simp [c3, c22] at g0 g1 g2
        obtain ⟨z0, e0, _, w0⟩ := DataW.trod_int Try.underlying3 g0
        obtain ⟨z1, e1, _, w1⟩ := DataW.trod_int Try.underlying22 g1
        obtain ⟨z2, e2, _, w2⟩ := DataW.trod_int Try.underlying3 g2
        simp only [List.cons.injEq, and_true] at e0 e1 e2
        subst e0 e1 e2
        have r0 := hcell 0 (by omega)
        have r1 := hcell 1 (by omega)
        have r2 := hcell 2 (by omega)
        rw [Go.Deep.add_add] at r0 r1 r2
        exact ⟨(z0, z1, z2), by simpa using r0, by simpa using r1, by simpa using r2, of_i64 w0, of_u32 w1, of_i64 w2⟩)
    exact ⟨len, fun i => (q i).1, fun i => (q i).2.1, fun i => (q i).2.2, .inr ⟨a, cap, rfl, hl, hm, hq⟩⟩
theorem ActsAt.lt {w : World} {v : Value} {n : Nat} {K J X : Nat → Int} (h : ActsAt w v n K J X) (hn : 0 < n) (g : Nat) (hg : blockOf v = some g) : g < w.heap.size := by
  rcases h with ⟨rfl, _⟩ | ⟨ad, cap, rfl, _, _, hc⟩
  · omega
  · have h0 := cell_lt (hc 0 hn).1
    rw [add_block] at h0
    simp [blockOf] at hg
    omega
end Go.Proofs.Ytbongjdflnefmaa
