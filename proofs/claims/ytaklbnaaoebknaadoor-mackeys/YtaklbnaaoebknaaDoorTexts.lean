/- append onto a slice of the own; arguments that are texts or lists of texts. No condition of its own. -/
import Derived.Test.YtaklbnaaoebknaaDoorSame
import Derived.Deep.Strs
namespace Go.Proofs.YtaklbnaaoebknaaDoor
open Go Go.RowKit Go.ChangeShapes Go.WideShapes Go.ChangeAt
set_option linter.unusedVariables false
set_option linter.unusedSimpArgs false
set_option maxRecDepth 100000

/-- append onto a slice of the call's own: which block may turn, and where it lies then. -/
theorem run_append_bytesG {P : Program} {t e : TypeId} (hT : ByteT P t e) (w : World) (base ty g0 n c : Nat) (x : Value) (l m : List Nat) (hv : OwnB w base e (.slice (some ⟨g0, 0, none⟩) n c) l) (hx : BytesAt w x m) (hlen : l.length + m.length ≤ 140737488355328) :
    ∃ g cap w', (Builtin.append_ #[t, t] ty #[.slice (some ⟨g0, 0, none⟩) n c, x]).run P w = .ok (.slice (some ⟨g, 0, none⟩) (l ++ m).length cap) w' ∧ OwnB w' base e (.slice (some ⟨g, 0, none⟩) (l ++ m).length cap) (l ++ m) ∧ KeepBut (· = g0) w w' ∧ (g = g0 ∨ g = w.heap.size) := by
  obtain ⟨i, hi, hz, hs, hby⟩ := hT.ex
  obtain ⟨hl1, ⟨g', cap, e0, hbg, hlt, hle, hcm⟩, hown⟩ := hv
  cases e0
  obtain ⟨hm1, hm2, hx⟩ := hx
  have hbase : base ≤ w.heap.size := by omega
  rcases hx with ⟨rfl, rfl⟩ | ⟨ad, c2, rfl, _, _, hc⟩
  · refine ⟨g0, c, w, ?_, ?_, KeepBut.refl _ _, .inl rfl⟩
    · rw [List.append_nil]; exact run_append_owned_none w base t ty e i 1 hT.ut hi _ _ _ hown
    · rw [List.append_nil]
      exact ⟨hl1, ⟨g0, c, rfl, hbg, hlt, hle, hcm⟩, hown⟩
  · obtain ⟨v', w', hr, h2, h3, h4, h5⟩ := run_append_own_at (P := P) w base t ty e i (.int .u8 0) 1 1 hT.ut hi hz hs hby rfl (by omega) _ l.length (cellsB l) hown ad m.length c2 (cellsB m) (by simp [cellsB])
      (fun j u hu => by
        obtain ⟨hj, rfl⟩ := cellsB_get hu
        exact hc j hj)
      (fun u hu => by
        obtain ⟨y, _, rfl⟩ := List.mem_map.1 hu
        rfl) (by unfold maxLen; omega) (by omega) hbase
    rcases h2.2 with ⟨e1, _⟩ | ⟨g', cap', cur, e1, hb', hg', hnc, hcm', hrest⟩
    · rw [h4] at e1; simp at e1
    · have hlt' : g' < w'.heap.size := (Array.getElem?_eq_some_iff.1 hg').1
      have e2 : v' = .slice (some ⟨g', 0, none⟩) (l ++ m).length cap' := by rw [e1, List.length_append]
      refine ⟨g', cap', w', by rw [← e2]; exact hr, ⟨fun y hy => (List.mem_append.1 hy).elim (hl1 y) (hm1 y), ⟨g', cap', rfl, hb', hlt', by rw [List.length_append]; exact hnc, hcm'⟩, ?_⟩, ⟨h3.os, h3.tape, h3.output, h3.size, fun k hk hn => h3.block k hk (by simpa [Value.ownBlock] using hn)⟩, ?_⟩
      · rw [← e2, List.length_append]
        simpa [cellsB] using h2
      · rw [e1] at h5
        simpa [Value.ownBlock] using h5
theorem wl_appendG {P : Program} {t e : TypeId} (hT : ByteT P t e) {w : World} {ops : Array Oper} {rest : List Oper} {o : Oper} {a : Act} {Q : Exit → Act → World → Prop} (hgd : o.guard = none) (s x : Operand)
    (ho : o.op = .call { callee := .builtin .append, args := #[s, x], argTypes := #[t, t] }) (base g0 n c : Nat) (l m : List Nat) (hs : a.eval s = .slice (some ⟨g0, 0, none⟩) n c) (hv : OwnB w base e (.slice (some ⟨g0, 0, none⟩) n c) l) (hx : BytesAt w (a.eval x) m) (hlen : l.length + m.length ≤ 140737488355328)
    (h : ∀ g cap w', OwnB w' base e (.slice (some ⟨g, 0, none⟩) (l ++ m).length cap) (l ++ m) → KeepBut (· = g0) w w' → (g = g0 ∨ g = w.heap.size) → wpList P ops Q rest (a.put o.dst (.slice (some ⟨g, 0, none⟩) (l ++ m).length cap)) w') : wpList P ops Q (o :: rest) a w := by
  refine wpList_plain hgd fun K hK => ?_
  obtain ⟨g, cap, w', hr, h2, h3, h4⟩ := run_append_bytesG hT w base o.type g0 n c (a.eval x) l m hv hx hlen
  unfold Oper.wp
  simp only [execOp, ho, resolve, invoke, builtin, Sem.run_bind, Sem.run_pure, Result.andThen_ok, List.map_toArray, List.map_cons, List.map_nil, hs, hr]
  exact hK _ _ (h g cap w' h2 h3 h4)
theorem OwnB.butK {S : Nat → Prop} {w w' : World} {base : Nat} {e : TypeId} {v : Value} {l : List Nat} (h : OwnB w base e v l) (hk : KeepBut S w w') (hn : ∀ g, blockOf v = some g → ¬ S g) : OwnB w' base e v l := by
  obtain ⟨h1, ⟨g, cap, rfl, hg, hlt, hle, hm⟩, h2, h3⟩ := h
  refine ⟨h1, ⟨g, cap, rfl, hg, Nat.lt_of_lt_of_le hlt hk.size, hle, hm⟩, h2, ?_⟩
  rcases h3 with ⟨h3, _⟩ | ⟨g', cap', cur, h3, h4, h5, h6⟩
  · simp at h3
  · refine .inr ⟨g', cap', cur, h3, h4, ?_, h6⟩
    simp at h3
    obtain ⟨rfl, rfl⟩ := h3
    rw [hk.block g hlt (hn g (by simp [blockOf]))]; exact h5

/-- An argument that is a list of texts. -/
def PartsArg (w : World) (v : Value) (n : Nat) (L : Nat → List Nat) : Prop :=
  n ≤ maxLen ∧ ∃ a cap, v = .slice a n cap ∧ ∀ i, i < n → ∃ b off u, a = some ⟨b, off, none⟩ ∧ w.cell? ⟨b, off + i, none⟩ = some u ∧ BytesAt w u (L i)
theorem bytes_open {H : Type} {enc : TypeId × Value → H} {w : World} {base : Nat} {held : Bool} {fuel : Nat} {v : Value} {x : DataW H × List MemPlace}
    (h : DataW.trod enc Tryd.prog w base (fun _ => true) held fuel 22 [v] = some x) : ∃ l, BytesAt w v l := by
  rcases open_ints Tryd.underlying22 Tryd.underlying5 (by kernel_rfl) h with ⟨hcs, _⟩ | ⟨x, l, c, zs, hcs, _, hl, hm, hz, _, hcell, hwz⟩
  · simp at hcs
    subst hcs
    exact ⟨[], BytesAt.none _⟩
  · simp at hcs
    subst hcs
    exact ⟨_, BytesAt.of_row hl hm (by simpa using hz) hcell hwz⟩
theorem parts_open {H : Type} {enc : TypeId × Value → H} {w : World} {base : Nat} {held : Bool} {fuel : Nat} {v : Value} {x : DataW H × List MemPlace}
    (h : DataW.trod enc Tryd.prog w base (fun _ => true) held fuel 31 [v] = some x) : ∃ n L, PartsArg w v n L := by
  have ce : Tryd.prog.cellsOf 22 = 1 := by kernel_rfl
  rcases Go.Deep.open_slice Tryd.underlying31 h with ⟨hcs, _⟩ | ⟨a, len, cap, m, n, D, Pl, hcs, hb, hl, hm, hmm, _, hx⟩
  · simp at hcs
    subst hcs
    exact ⟨0, fun _ => [], by simp, none, 0, rfl, fun i hi => by omega⟩
  · simp at hcs
    subst hcs
    have hlm : len ≤ m := by rw [hmm]; split <;> omega
    rw [ce] at hx
    obtain ⟨q, hq⟩ := Go.Deep.choose_lt (α := Value × List Nat) (n := len) (p := fun i z => w.cell? (a.add i) = some z.1 ∧ BytesAt w z.1 z.2) (fun i hi => by
      obtain ⟨cs', h1, h2⟩ := hx i (by omega)
      obtain ⟨_, hlen, hcell⟩ := World.cells?_some h1
      match cs', hlen with
      | [v0], _ =>
        obtain ⟨l, hl⟩ := bytes_open h2
        have r0 := hcell 0 (by omega)
        rw [Go.Deep.add_add] at r0
        exact ⟨(v0, l), by simpa using r0, hl⟩)
    refine ⟨len, fun i => (q i).2, by omega, some a, cap, rfl, fun i hi => ?_⟩
    obtain ⟨h1, h2⟩ := hq i hi
    obtain ⟨b, off, spot⟩ := a
    have hs : spot = none := by simpa [Addr.add] using World.cell?_spot (hq 0 (by omega)).1
    subst hs
    rw [add_plain] at h1
    exact ⟨b, off, _, rfl, h1, h2⟩

/-- The first texts, joined. -/
def jo (L : Nat → List Nat) (i : Nat) : List Nat := ((List.range i).map L).flatten
theorem jo_succ (L : Nat → List Nat) (i : Nat) : jo L (i + 1) = jo L i ++ L i := by simp [jo, List.range_succ]
theorem flip8 : ∀ b : Fin 256, bits .xor .u8 (b.1 : Int) 1 = ((b.1 ^^^ 1 : Nat) : Int) := by decide
theorem flip_lt : ∀ b : Fin 256, b.1 ^^^ 1 < 256 := by decide

end Go.Proofs.YtaklbnaaoebknaaDoor
