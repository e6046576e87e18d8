/- Arguments that are lists of things or of parameters, opened. No condition of its own. -/
import Derived.Lib.SmallJoins
import Derived.Test.YtmfciiccomagpaaRef7
namespace Go.Proofs.Ytmfciiccomagpaa
namespace Tlv
open Go Go.RowKit Go.ChangeShapes Go.WideShapes Go.ChangeAt
set_option linter.unusedVariables false
set_option linter.unusedSimpArgs false
set_option maxRecDepth 100000


theorem bytes_openT {H : Type} {enc : TypeId × Value → H} {w : World} {base : Nat} {held : Bool} {fuel : Nat} {v : Value} {x : DataW H × List MemPlace}
    (h : DataW.trod enc Try.prog w base (fun _ => true) held fuel 26 [v] = some x) : ∃ l, BytesAt w v l := by
  rcases open_ints Try.underlying26 Try.underlying5 (by kernel_rfl) h with ⟨hcs, _⟩ | ⟨x, l, c, zs, hcs, _, hl, hm, hz, _, hcell, hwz⟩
  · simp at hcs
    subst hcs
    exact ⟨[], BytesAt.none _⟩
  · simp at hcs
    subst hcs
    exact ⟨_, BytesAt.of_row hl hm (by simpa using hz) hcell hwz⟩
theorem of_u64 {a : Int} (h : (Lit.int IntKind.u64 a).wf = true) : 0 ≤ a ∧ a < 18446744073709551616 := by
  simp only [Lit.wf, IntKind.min, IntKind.max, IntKind.signed, IntKind.bits] at h
  simp at h; constructor <;> omega
theorem things_open {H : Type} {enc : TypeId × Value → H} {w : World} {base : Nat} {held : Bool} {fuel : Nat} {v : Value} {x : DataW H × List MemPlace}
    (h : DataW.trod enc Try.prog w base (fun _ => true) held fuel 22 [v] = some x) : ∃ T, ThingsAt w v T := by
  have ce : Try.prog.cellsOf 31 = 4 := by kernel_rfl
  rcases Go.Deep.open_slice Try.underlying22 h with ⟨hcs, _⟩ | ⟨a, len, cap, m, n, D, Pl, hcs, hb, hl, hm, hmm, _, hx⟩
  · simp at hcs
    subst hcs
    exact ⟨[], by simp, none, 0, rfl, fun i t ht => by simp at ht⟩
  · simp at hcs
    subst hcs
    have hlm : len ≤ m := by rw [hmm]; split <;> omega
    rw [ce] at hx
    haveI : Inhabited (Value × Th) := ⟨(undef, ⟨0, 0, 0, []⟩)⟩
    obtain ⟨q, hq⟩ := Go.Deep.choose_lt (α := Value × Th) (n := len) (p := fun i z => w.cell? (a.add (i * 4)) = some (.int .i64 z.2.kind) ∧ w.cell? (a.add (i * 4 + 1)) = some (.int .i64 z.2.size) ∧ w.cell? (a.add (i * 4 + 2)) = some (.int .u64 (z.2.n : Int)) ∧ w.cell? (a.add (i * 4 + 3)) = some z.1 ∧ BytesAt w z.1 z.2.b) (fun i hi => by
      obtain ⟨cs', h1, h2⟩ := hx i (by omega)
      obtain ⟨_, hlen, hcell⟩ := World.cells?_some h1
      match cs', hlen with
      | [v0, v1, v2, v3], _ =>
        obtain ⟨y0, y1, y2, y3, fu, _, _, t0, t1, t2, t3⟩ := Go.Joins.trod_struct4 Try.underlying31 h2
        have t0' : DataW.trod enc Try.prog w base (fun _ => true) held fu 3 [v0] = some y0 := t0
        have t1' : DataW.trod enc Try.prog w base (fun _ => true) held fu 3 [v1] = some y1 := t1
        have t2' : DataW.trod enc Try.prog w base (fun _ => true) held fu 29 [v2] = some y2 := t2
        have t3' : DataW.trod enc Try.prog w base (fun _ => true) held fu 26 [v3] = some y3 := t3
        obtain ⟨k, e0, _, _⟩ := DataW.trod_int Try.underlying3 t0'
        obtain ⟨s, e1, _, _⟩ := DataW.trod_int Try.underlying3 t1'
        obtain ⟨u, e2, _, wu⟩ := DataW.trod_int Try.underlying29 t2'
        obtain ⟨l, hl3⟩ := bytes_openT t3'
        simp only [List.cons.injEq, and_true] at e0 e1 e2
        subst e0 e1 e2
        have r0 := hcell 0 (by omega)
        have r1 := hcell 1 (by omega)
        have r2 := hcell 2 (by omega)
        have r3 := hcell 3 (by omega)
        rw [Go.Deep.add_add] at r0 r1 r2 r3
        have hu := of_u64 wu
        exact ⟨(v3, ⟨k, s, u.toNat, l⟩), by simpa using r0, by simpa using r1, by rw [show ((u.toNat : Nat) : Int) = u by omega]; simpa using r2, by simpa using r3, hl3⟩)
    refine ⟨(List.range len).map (fun i => (q i).2), by simp; omega, some a, cap, by simp, fun i t ht => ?_⟩
    have hi : i < len := by have := (List.getElem?_eq_some_iff.1 ht).1; simpa using this
    simp [hi] at ht
    subst ht
    obtain ⟨h0, h1, h2, h3, h4⟩ := hq i hi
    obtain ⟨b, off, spot⟩ := a
    have hs : spot = none := by simpa [Addr.add] using World.cell?_spot (hq 0 (by omega)).1
    subst hs
    rw [add_plain] at h0 h1 h2 h3
    exact ⟨b, off, _, rfl, h0, h1, h2, h3, h4⟩
theorem pars_open {H : Type} {enc : TypeId × Value → H} {w : World} {base : Nat} {held : Bool} {fuel : Nat} {v : Value} {x : DataW H × List MemPlace}
    (h : DataW.trod enc Try.prog w base (fun _ => true) held fuel 57 [v] = some x) : ∃ L, ParsAt w v L := by
  have ce : Try.prog.cellsOf 59 = 2 := by kernel_rfl
  rcases Go.Deep.open_slice Try.underlying57 h with ⟨hcs, _⟩ | ⟨a, len, cap, m, n, D, Pl, hcs, hb, hl, hm, hmm, _, hx⟩
  · simp at hcs
    subst hcs
    exact ⟨[], by simp, none, 0, rfl, fun i t ht => by simp at ht⟩
  · simp at hcs
    subst hcs
    have hlm : len ≤ m := by rw [hmm]; split <;> omega
    rw [ce] at hx
    obtain ⟨q, hq⟩ := Go.Deep.choose_lt (α := Value × Par) (n := len) (p := fun i z => w.cell? (a.add (i * 2)) = some (.int .i64 z.2.1) ∧ w.cell? (a.add (i * 2 + 1)) = some z.1 ∧ BytesAt w z.1 z.2.2) (fun i hi => by
      obtain ⟨cs', h1, h2⟩ := hx i (by omega)
      obtain ⟨_, hlen, hcell⟩ := World.cells?_some h1
      match cs', hlen with
      | [v0, v1], _ =>
        obtain ⟨y0, y1, fu, _, _, t0, t1⟩ := trod_struct2 Try.underlying59 h2
        have t0' : DataW.trod enc Try.prog w base (fun _ => true) held fu 3 [v0] = some y0 := t0
        have t1' : DataW.trod enc Try.prog w base (fun _ => true) held fu 26 [v1] = some y1 := t1
        obtain ⟨k, e0, _, _⟩ := DataW.trod_int Try.underlying3 t0'
        obtain ⟨l, hl3⟩ := bytes_openT t1'
        simp only [List.cons.injEq, and_true] at e0
        subst e0
        have r0 := hcell 0 (by omega)
        have r1 := hcell 1 (by omega)
        rw [Go.Deep.add_add] at r0 r1
        exact ⟨(v1, (k, l)), by simpa using r0, by simpa using r1, hl3⟩)
    refine ⟨(List.range len).map (fun i => (q i).2), by simp; omega, some a, cap, by simp, fun i t ht => ?_⟩
    have hi : i < len := by have := (List.getElem?_eq_some_iff.1 ht).1; simpa using this
    simp [hi] at ht
    subst ht
    obtain ⟨h0, h1, h2⟩ := hq i hi
    obtain ⟨b, off, spot⟩ := a
    have hs : spot = none := by simpa [Addr.add] using World.cell?_spot (hq 0 (by omega)).1
    subst hs
    rw [add_plain] at h0 h1
    exact ⟨b, off, _, rfl, h0, h1, h2⟩
end Tlv
end Go.Proofs.Ytmfciiccomagpaa
