/- A relation under which one own block of bytes may get more behind; append to the block. No condition of its own. -/
import Derived.Test.YtmfciiccomagpaaSame6
import Derived.ArgAppend
namespace Go.Proofs.Ytmfciiccomagpaa
namespace Tlv
open Go Go.RowKit
set_option linter.unusedVariables false
set_option linter.unusedSimpArgs false
set_option maxRecDepth 100000


theorem ci_cells (l : List Nat) : (ci l).map (Value.int .u8) = cellsB l := by simp [ci, cellsB]
/-- Memory grows; a block of bytes of the own that holds K may get Z behind it. -/
structure Turns (B : Nat) (K Z : List Nat) (a b : World) : Prop where
  os : b.os = a.os
  tape : b.tape = a.tape
  output : b.output = a.output
  size : a.heap.size ≤ b.heap.size
  block : ∀ g, g < a.heap.size → b.heap[g]? = a.heap[g]? ∨ (B ≤ g ∧ ∃ C C' : Array Value, a.heap[g]? = some (.cells C 5 (0, 0)) ∧ b.heap[g]? = some (.cells C' 5 (0, 0)) ∧ C'.size = C.size ∧ C.toList.take K.length = cellsB K ∧ C'.toList.take (K ++ Z).length = cellsB (K ++ Z))
theorem Turns.refl {B : Nat} {K Z : List Nat} (w : World) : Turns B K Z w w := ⟨rfl, rfl, rfl, Nat.le_refl _, fun _ _ => .inl rfl⟩
theorem Turns.trans {B : Nat} {K Z : List Nat} {a b c : World} (h : Turns B K Z a b) (k : Turns B K Z b c) : Turns B K Z a c := by
  refine ⟨k.os.trans h.os, k.tape.trans h.tape, k.output.trans h.output, Nat.le_trans h.size k.size, fun g hg => ?_⟩
  rcases h.block g hg with e1 | ⟨hB, C, C', a1, a2, a3, a4, a5⟩
  · rcases k.block g (Nat.lt_of_lt_of_le hg h.size) with e2 | ⟨hB, D, D', b1, b2, b3, b4, b5⟩
    · exact .inl (e2.trans e1)
    · exact .inr ⟨hB, D, D', by rw [← e1]; exact b1, b2, b3, b4, b5⟩
  · rcases k.block g (Nat.lt_of_lt_of_le hg h.size) with e2 | ⟨_, D, D', b1, b2, b3, b4, b5⟩
    · exact .inr ⟨hB, C, C', a1, e2.trans a2, a3, a4, a5⟩
    · rw [a2] at b1
      simp only [Option.some.injEq, Obj.cells.injEq, and_true] at b1
      subst b1
      exact .inr ⟨hB, C, D', a1, b2, b3.trans a3, a4, b5⟩
theorem Turns.of_ext {B : Nat} {K Z : List Nat} {a b : World} (h : Ext a b) : Turns B K Z a b := ⟨h.os, h.tape, h.output, h.size, fun g hg => .inl (h.block g hg)⟩
theorem Turns.ext {B : Nat} {K Z : List Nat} {a b : World} (h : Turns B K Z a b) (hB : a.heap.size ≤ B) : Ext a b :=
  ⟨h.os, h.tape, h.output, h.size, fun g hg => by
    rcases h.block g hg with e | ⟨hb, _⟩
    · exact e
    · omega⟩
theorem take_pre {l F : List Nat} {C : Array Value} (hp : l <+: F) (h : C.toList.take F.length = cellsB F) : C.toList.take l.length = cellsB l := by
  obtain ⟨r, rfl⟩ := hp
  have h1 := congrArg (List.take l.length) h
  rw [List.take_take, Nat.min_eq_left (by simp)] at h1
  rw [h1]
  unfold cellsB
  rw [List.map_append, List.take_left' (by simp)]
theorem cellsB_inj {l m : List Nat} (h : cellsB l = cellsB m) : l = m := by
  have : Function.Injective (fun x : Nat => Value.int .u8 (x : Nat)) := fun a b h => by simp at h; omega
  exact (List.map_inj_right (fun a b h => this h)).1 h
/-- What is a beginning of what stands there then is kept. -/
theorem Turns.ob {B : Nat} {K Z : List Nat} {a b : World} (ht : Turns B K Z a b) {v : Value} {l : List Nat} (h : OB a B v l) (hp : l <+: K ++ Z) : OB b B v l := by
  refine ⟨⟨⟨h.own.1.1, ?_⟩, h.own.2⟩, h.all⟩
  rcases h.own.1.2 with h0 | ⟨g, cap, cur, rfl, hb, hg, hnc, hcm, hcs, htk⟩
  · exact .inl h0
  · rcases ht.block g (Array.getElem?_eq_some_iff.1 hg).1 with e | ⟨_, C, C', a1, a2, a3, a4, a5⟩
    · exact .inr ⟨g, cap, cur, rfl, hb, e.trans hg, hnc, hcm, hcs, htk⟩
    · rw [hg] at a1
      simp only [Option.some.injEq, Obj.cells.injEq, and_true] at a1
      subst a1
      refine .inr ⟨g, cap, C', rfl, hb, a2, hnc, hcm, a3.trans hcs, ?_⟩
      rw [Nat.mul_one, ci_len, ci_cells]
      exact take_pre hp a5
/-- What is no longer than K is kept. -/
theorem Turns.obK {B : Nat} {K Z : List Nat} {a b : World} (ht : Turns B K Z a b) {v : Value} {l : List Nat} (h : OB a B v l) (hl : l.length ≤ K.length) : OB b B v l := by
  refine ⟨⟨⟨h.own.1.1, ?_⟩, h.own.2⟩, h.all⟩
  rcases h.own.1.2 with h0 | ⟨g, cap, cur, rfl, hb, hg, hnc, hcm, hcs, htk⟩
  · exact .inl h0
  · rcases ht.block g (Array.getElem?_eq_some_iff.1 hg).1 with e | ⟨_, C, C', a1, a2, a3, a4, a5⟩
    · exact .inr ⟨g, cap, cur, rfl, hb, e.trans hg, hnc, hcm, hcs, htk⟩
    · rw [hg] at a1
      simp only [Option.some.injEq, Obj.cells.injEq, and_true] at a1
      subst a1
      refine .inr ⟨g, cap, C', rfl, hb, a2, hnc, hcm, a3.trans hcs, ?_⟩
      rw [Nat.mul_one, ci_len, ci_cells] at htk ⊢
      have hpre : l <+: K := by
        have h1 := congrArg (List.take l.length) a4
        rw [List.take_take, Nat.min_eq_left hl, htk] at h1
        have h2 : cellsB l = cellsB (K.take l.length) := by rw [h1]; simp [cellsB]
        rw [cellsB_inj h2]
        exact List.take_prefix _ _
      exact take_pre (hpre.trans (List.prefix_append _ _)) a5
/-- append, to the block. -/
theorem run_appT (w : World) (base ty : Nat) (v x : Value) (K Z : List Nat) (hv : OB w base v K) (hx : BytesAt w x Z) (hlen : K.length + Z.length ≤ 1000000) (hbase : base ≤ w.heap.size) :
    ∃ ad cap w', (Builtin.append_ #[26, 26] ty #[v, x]).run Try.prog w = .ok (.slice ad (K ++ Z).length cap) w' ∧ OB w' base (.slice ad (K ++ Z).length cap) (K ++ Z) ∧ Turns base K Z w w' := by
  rcases hv.own.1.2 with ⟨rfl, h0⟩ | ⟨g, cap, cur, rfl, hb, hg, hnc, hcm, hcs, htk⟩
  · obtain ⟨ad, cap, w', hr, h1, h2, _⟩ := run_appB w base ty _ x K Z hv hx hlen hbase
    exact ⟨ad, cap, w', hr, h1, Turns.of_ext (keep_none h2)⟩
  · obtain ⟨i, hi, hz, hs, hby⟩ := numT8.ex
    have hall := hv.all.app hx.1
    obtain ⟨hx1, hx2, ⟨rfl, rfl⟩ | ⟨ad, c, rfl, _, _, hc⟩⟩ := hx
    · have hr := run_append_owned_none (P := Try.prog) w base 26 ty 5 i 1 numT8.ut hi _ _ _ hv.own.1
      rw [List.append_nil]
      rw [ci_len] at hr hv ⊢
      exact ⟨_, _, w, hr, hv, Turns.refl _⟩
    · have hnews : ∀ j u, (cellsB Z)[j]? = some u → w.cell? (ad.add j) = some u := fun j u hu => by
        obtain ⟨hj, rfl⟩ := cellsB_get hu
        exact hc j hj
      have e1 : (ci K).length = K.length := ci_len K
      have e2 : (ci K).map (Value.int .u8) = cellsB K := ci_cells K
      have hown := hv.own.1
      rw [e1] at hown hnc htk ⊢
      rw [e2] at hown htk
      rw [Nat.mul_one] at htk
      have eL : (K ++ Z).length = K.length + Z.length := List.length_append
      by_cases hf : K.length + Z.length ≤ cap
      · obtain ⟨w', hr, h1, h2⟩ := run_append_fits (P := Try.prog) w base 26 ty 5 i 1 numT8.ut hi hs g K.length cap (cellsB K) hown ad Z.length c (cellsB Z) (by simp [cellsB]) hnews (by simp [cellsB, Value.oneCell']) hf
        have eC : cellsB K ++ cellsB Z = cellsB (K ++ Z) := by simp [cellsB]
        rw [eC] at h1
        refine ⟨_, _, w', by rw [eL]; exact hr, ⟨⟨by rw [ci_len, ci_cells, eL]; exact h1, by rw [ci_len]; unfold maxLen; omega⟩, hall⟩, ⟨h2.os, h2.tape, h2.output, h2.size, fun k hk => ?_⟩⟩
        by_cases hkg : k = g
        · subst hkg
          rcases h1.2 with ⟨h3, _⟩ | ⟨g', cap', cur', h3, _, h5, _, _, h8, h9⟩
          · cases h3
          · simp only [Value.slice.injEq, Option.some.injEq, Addr.mk.injEq, and_true, true_and] at h3
            obtain ⟨rfl, rfl⟩ := h3
            refine .inr ⟨hb, cur, cur', hg, h5, h8.trans hcs.symm, htk, ?_⟩
            rw [Nat.mul_one] at h9
            rw [eL]; exact h9
        · exact .inl (h2.block k hk (fun e => hkg (by simpa using e)))
      · obtain ⟨v', w', hr, h1, h2⟩ := run_append_arg_grows (P := Try.prog) w 26 ty 5 i (.int .u8 0) 1 1 numT8.ut hi hz hs hby rfl (by omega) ⟨g, 0, none⟩ K.length cap (cellsB K) (by simp [cellsB]) (fun j u hu => by
          rw [add_plain, Nat.zero_add, hown.cellAt j (by have := (List.getElem?_eq_some_iff.1 hu).1; simpa [cellsB] using this)]; exact hu) ad Z.length c (cellsB Z) (by simp [cellsB]) hnews (by omega) (by unfold maxLen; omega) (by omega)
        have eC : cellsB K ++ cellsB Z = cellsB (K ++ Z) := by simp [cellsB]
        rw [eC] at h1
        have hO : OB w' base v' (K ++ Z) := OB.base ⟨⟨by rw [ci_len, ci_cells, eL]; exact h1, by rw [ci_len]; unfold maxLen; omega⟩, hall⟩ hbase
        obtain ⟨a', c', rfl⟩ := hO.form
        exact ⟨a', c', w', hr, hO, Turns.of_ext (Ext.of_grown h2)⟩
end Tlv
end Go.Proofs.Ytmfciiccomagpaa
