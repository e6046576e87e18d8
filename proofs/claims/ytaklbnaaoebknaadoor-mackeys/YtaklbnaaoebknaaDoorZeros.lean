/- append of noughts, and of bytes onto nothing; a relation under which one own block may get more behind. No condition of its own. -/
import Derived.Test.YtaklbnaaoebknaaDoorMac3
import Derived.Lib.AppendZerosOnto
namespace Go.Proofs.YtaklbnaaoebknaaDoor
open Go Go.RowKit
set_option linter.unusedVariables false
set_option linter.unusedSimpArgs false
set_option maxRecDepth 100000

/-- Memory grows; a block of bytes of the own that holds K may get Z behind it. -/
structure Turns (B : Nat) (K Z : List Nat) (a b : World) : Prop where
  os : b.os = a.os
  tape : b.tape = a.tape
  output : b.output = a.output
  size : a.heap.size ≤ b.heap.size
  block : ∀ g, g < a.heap.size → b.heap[g]? = a.heap[g]? ∨ (B ≤ g ∧ ∃ C C' : Array Value, a.heap[g]? = some (.cells C 5 (0, 0)) ∧ b.heap[g]? = some (.cells C' 5 (0, 0)) ∧ C'.size = C.size ∧ C.toList.take K.length = cellsB K ∧ C'.toList.take (K ++ Z).length = cellsB (K ++ Z))
theorem Turns.refl {B : Nat} {K Z : List Nat} (w : World) : Turns B K Z w w := ⟨rfl, rfl, rfl, Nat.le_refl _, fun _ _ => .inl rfl⟩
theorem Turns.trans {B : Nat} {K Z : List Nat} {a b c : World} (h : Turns B K Z a b) (k : Turns B K Z b c) : Turns B K Z a c := by
  refine ⟨k.os.trans h.os, k.tape.trans h.tape, k.output.trans h.output, Nat.le_trans h.size k.size, fun g hg => ?_⟩
  rcases h.block g hg with e1 | ⟨hB, C, C', a1, a2, a3, a4, a5⟩
  · rcases k.block g (Nat.lt_of_lt_of_le hg h.size) with e2 | ⟨hB, D, D', b1, b2, b3, b4, b5⟩
    · exact .inl (e2.trans e1)
    · exact .inr ⟨hB, D, D', by rw [← e1]; exact b1, b2, b3, b4, b5⟩
  · rcases k.block g (Nat.lt_of_lt_of_le hg h.size) with e2 | ⟨_, D, D', b1, b2, b3, b4, b5⟩
    · exact .inr ⟨hB, C, C', a1, e2.trans a2, a3, a4, a5⟩
    · rw [a2] at b1
      simp only [Option.some.injEq, Obj.cells.injEq, and_true] at b1
      subst b1
      exact .inr ⟨hB, C, D', a1, b2, b3.trans a3, a4, b5⟩
theorem Turns.of_ext {B : Nat} {K Z : List Nat} {a b : World} (h : Ext a b) : Turns B K Z a b := ⟨h.os, h.tape, h.output, h.size, fun g hg => .inl (h.block g hg)⟩
theorem Turns.ext {B : Nat} {K Z : List Nat} {a b : World} (h : Turns B K Z a b) (hB : a.heap.size ≤ B) : Ext a b :=
  ⟨h.os, h.tape, h.output, h.size, fun g hg => by
    rcases h.block g hg with e | ⟨hb, _⟩
    · exact e
    · omega⟩
theorem Turns.blk {B : Nat} {K Z : List Nat} {a b : World} (h : Turns B K Z a b) {g t : Nat} {C : Array Value} (hb : Blk a g C t) (ht : t ≠ 5) : Blk b g C t := by
  rcases h.block g hb.lt with e | ⟨_, D, D', a1, _⟩
  · exact e.trans hb
  · unfold Blk at hb
    rw [hb] at a1
    simp only [Option.some.injEq, Obj.cells.injEq, and_true] at a1
    exact absurd a1.2 ht
theorem take_pre {l F : List Nat} {C : Array Value} (hp : l <+: F) (h : C.toList.take F.length = cellsB F) : C.toList.take l.length = cellsB l := by
  obtain ⟨r, rfl⟩ := hp
  have h1 := congrArg (List.take l.length) h
  rw [List.take_take, Nat.min_eq_left (by simp)] at h1
  rw [h1]
  unfold cellsB
  rw [List.map_append, List.take_left' (by simp)]
theorem Turns.own {B : Nat} {K Z : List Nat} {a b : World} (ht : Turns B K Z a b) {v : Value} {l : List Nat} (h : OwnB a B 5 v l) (hp : l <+: K ++ Z) : OwnB b B 5 v l := by
  obtain ⟨h1, ⟨g, cap, rfl, hg, hlt, hle, hm⟩, h2, h3 | ⟨g', cap', cur, h3, h4, h5, h6, h7, h8, h9⟩⟩ := h
  · simp at h3
  · simp only [Value.slice.injEq, Option.some.injEq, Addr.mk.injEq, and_true, true_and] at h3
    obtain ⟨rfl, rfl⟩ := h3
    refine ⟨h1, ⟨g, cap, rfl, hg, Nat.lt_of_lt_of_le hlt ht.size, hle, hm⟩, h2, ?_⟩
    rcases ht.block g hlt with e | ⟨_, C, C', a1, a2, a3, a4, a5⟩
    · exact .inr ⟨g, cap, cur, rfl, h4, e.trans h5, h6, h7, h8, h9⟩
    · rw [h5] at a1
      simp only [Option.some.injEq, Obj.cells.injEq, and_true] at a1
      subst a1
      refine .inr ⟨g, cap, C', rfl, h4, a2, h6, h7, a3.trans h8, ?_⟩
      rw [Nat.mul_one]
      exact take_pre hp a5
theorem zero_cells (k : Nat) : (Builtin.zeroCells #[Value.int .u8 0] k) = (cellsB (List.replicate k 0)).toArray := by
  apply Array.ext
  · simp [Builtin.zeroCells, cellsB]
  · intro i h1 h2
    simp [Builtin.zeroCells, cellsB, Nat.mod_one]

/-- append onto an empty slice of the own, of whatever reads as bytes. -/
theorem run_append_onto0 (w : World) (B ty g : Nat) (x : Value) (K : List Nat) (hv : OwnB w B 5 (.slice (some ⟨g, 0, none⟩) 0 0) []) (hx : BytesAt w x K) (hl : K.length ≤ 1000) :
    ∃ v w', (Builtin.append_ #[22, 22] ty #[.slice (some ⟨g, 0, none⟩) 0 0, x]).run Tryd.prog w = .ok v w' ∧ OwnB w' B 5 v K ∧ Ext w w' := by
  obtain ⟨i, hi, hz, hs, hby⟩ := byteT.ex
  by_cases h0 : K.length = 0
  · obtain rfl := List.eq_nil_of_length_eq_zero h0
    refine ⟨_, w, ?_, hv, Ext.refl _⟩
    obtain ⟨_, _, ⟨_, rfl⟩ | ⟨ad, cap, rfl, _⟩⟩ := hx
    · simp [Builtin.append_, run_underlying byteT.ut, sizeOf, typeInfo, hi, hs, Builtin.lenOf, Builtin.firstCells, storeCells]
    · simp [Builtin.append_, run_underlying byteT.ut, sizeOf, typeInfo, hi, hs, Builtin.lenOf, Builtin.firstCells, loadCells, loadCellsFrom, storeCells]
  · obtain ⟨hx1, _, ⟨rfl, _⟩ | ⟨ad, c, rfl, _, _, hc⟩⟩ := hx
    · exact absurd rfl h0
    · obtain ⟨v', w', hr, h1, h2⟩ := run_append_arg_grows (P := Tryd.prog) w 22 ty 5 i (.int .u8 0) 1 1 byteT.ut hi hz hs hby rfl (by omega) ⟨g, 0, none⟩ 0 0 [] (by simp) (fun j v hj => by simp at hj) ad K.length c (cellsB K) (by simp [cellsB])
        (fun j v hj => by
          obtain ⟨hj', rfl⟩ := cellsB_get hj
          exact hc j hj') (by omega) (by unfold maxLen; omega) (by omega)
      have hgt : B ≤ w.heap.size := by have := hv.cap; omega
      have he : Ext w w' := ⟨h2.os, h2.tape, h2.output, h2.size, fun k hk => h2.block k hk (by simp)⟩
      refine ⟨v', w', hr, ?_, he⟩
      rw [List.nil_append, Nat.zero_add] at h1
      obtain ⟨q1, ⟨rfl, q2⟩ | ⟨g', cap', cur, rfl, q3, q4, q5, q6, q7⟩⟩ := h1
      · exact absurd q2 h0
      · exact ⟨hx1, ⟨g', cap', rfl, Nat.le_trans hgt q3, (Array.getElem?_eq_some_iff.1 q4).1, q5, q6⟩, q1, .inr ⟨g', cap', cur, rfl, Nat.le_trans hgt q3, q4, q5, q6, q7⟩⟩

/-- append of k noughts onto a slice of the own. -/
theorem run_append_noughts (w : World) (B ty g c k : Nat) (K : List Nat) (hv : OwnB w B 5 (.slice (some ⟨g, 0, none⟩) K.length c) K) (hk : K.length + k ≤ 64) :
    ∃ v w', (Builtin.append_ #[22, 3] ty #[.slice (some ⟨g, 0, none⟩) K.length c, .int .i64 (k : Int)]).run Tryd.prog w = .ok v w' ∧ OwnB w' B 5 v (K ++ List.replicate k 0) ∧ Turns B K (List.replicate k 0) w w' := by
  obtain ⟨i, hi, hz, hs, hby⟩ := byteT.ex
  have hint : Tryd.prog.underlying 3 = some (.int .i64) := Tryd.underlying3
  have hgt : B ≤ w.heap.size := by have := hv.cap; omega
  have hz8 : Sha.AllB (K ++ List.replicate k 0) := Sha.AllB.app hv.1 (Mac.noughts_all _)
  have hw : IntKind.i64.wrap (k : Int) = (k : Int) := by rw [IntKind.wrap_i64]; omega
  by_cases h0 : k = 0
  · subst h0
    refine ⟨_, w, ?_, by simpa using hv, Turns.refl _⟩
    have hle := hv.cap.2.1
    have hw0 : IntKind.i64.wrap 0 = 0 := rfl
    simp [Builtin.append_, run_underlying byteT.ut, run_underlying hint, sizeOf, typeInfo, hi, hs, hby, asInt, asIntOf, hw0, hle, storeCells]
  · obtain ⟨h1, _, h2, ⟨h3, _⟩ | ⟨g', cap', cur, h3, h4, h5, h6, h7, h8, h9⟩⟩ := hv
    · simp at h3
    simp only [Value.slice.injEq, Option.some.injEq, Addr.mk.injEq, and_true, true_and] at h3
    obtain ⟨rfl, rfl⟩ := h3
    rw [Nat.mul_one] at h8 h9
    by_cases hf : K.length + k ≤ c
    · have hst := run_storeCells_at Tryd.prog g K.length 5 (cellsB (List.replicate k 0)) 0 cur w h5 (by rw [cellsB_length]; simp; omega) (fun v hv => by obtain ⟨z, _, rfl⟩ := List.mem_map.1 hv; rfl)
      simp only [Nat.add_zero] at hst
      have hput : (putIn cur K.length (cellsB (List.replicate k 0))).size = cur.size := putIn_size _ _ _ (by rw [cellsB_length]; simp; omega)
      have htake : (putIn cur K.length (cellsB (List.replicate k 0))).toList.take (K ++ List.replicate k 0).length = cellsB (K ++ List.replicate k 0) := by
        unfold putIn
        rw [List.toList_toArray, h9, List.take_append_of_le_length (by simp [cellsB])]
        unfold cellsB
        rw [List.map_append, List.take_of_length_le (by simp)]
      have hblk : Blk (w.setRow g (putIn cur K.length (cellsB (List.replicate k 0)))) g (putIn cur K.length (cellsB (List.replicate k 0))) 5 := Blk.row h5 _
      refine ⟨.slice (some ⟨g, 0, none⟩) (K.length + k) c, w.setRow g (putIn cur K.length (cellsB (List.replicate k 0))), ?_, ?_, ?_⟩
      · have hneg : ¬ ((k : Int) < 0) := by omega
        have hbig : ¬ (281474976710656 < (k : Int)) := by omega
        unfold putIn
        simp [Builtin.append_, run_underlying byteT.ut, run_underlying hint, sizeOf, typeInfo, zeroValue, hi, hz, hs, hby, asInt, asIntOf, hw, hf, h0, hneg, hbig, Value.cells, zero_cells, add_plain, hst]
      · refine ⟨hz8, ⟨g, c, by simp, h4, hblk.lt, by simp; omega, h7⟩, by simp [cellsB], .inr ⟨g, c, _, by simp, h4, hblk, by simp; omega, h7, by rw [hput, h8, Nat.mul_one], by rw [Nat.mul_one]; exact htake⟩⟩
      · refine ⟨rfl, rfl, rfl, by simp, fun q hq => ?_⟩
        by_cases e : q = g
        · subst e
          exact .inr ⟨h4, cur, _, h5, hblk, hput, h9, htake⟩
        · exact .inl (setRow_other w g q _ e)
    · have hb : Blk w.drew g cur 5 := h5
      have hold : (Builtin.firstCells i.size K.length (.slice (some ⟨g, 0, none⟩) K.length c)).run Tryd.prog w.drew = .ok (cellsB K).toArray w.drew := by
        rw [hs]
        exact run_firstCells_some (w := w.drew) 1 K.length ⟨g, 0, none⟩ K.length c (cellsB K) (by simp [cellsB]) (fun j v hj => by
          rw [add_plain, Nat.zero_add, hb.cell]
          have hjl := (List.getElem?_eq_some_iff.1 hj).1
          rw [cellsB_length] at hjl
          rw [← h9, List.getElem?_take, if_pos hjl] at hj
          simpa using hj)
      have hr := Lib.run_append_grow_zeros (P := Tryd.prog) w 22 3 ty 5 i (.int .u8 0) .i64 .i64 byteT.ut hint hi hz (some ⟨g, 0, none⟩) K.length c (cellsB K) hold k (by omega) (by omega) (by omega) (by omega) (by rw [hby]; omega) (by
        rw [hby, Nat.mul_one]
        unfold Builtin.nextslicecap
        split
        · omega
        · split
          · omega
          · omega)
      have hcg := grownCap_ge w (K.length + k) c 5
      have hcm := grownCap_le_maxLen w (K.length + k) c 5 (by unfold maxLen; omega)
      refine ⟨_, _, hr, ?_, Turns.of_ext ((Ext.drew _).trans (Ext.alloc _ _))⟩
      generalize grownCap w (K.length + k) c 5 = cp at *
      simp only [Value.cells, zero_cells]
      refine ⟨hz8, ⟨w.heap.size, cp, by simp, hgt, by simp, by simp; omega, hcm⟩, by simp [cellsB], .inr ⟨w.heap.size, cp, _, by simp, hgt, Array.getElem?_push_size, by simp; omega, hcm, ?_, ?_⟩⟩
      · simp [cellsB]; omega
      · rw [Nat.mul_one]
        simp only [Array.toList_append, List.toList_toArray]
        rw [List.take_append_of_le_length (by simp [cellsB])]
        unfold cellsB
        rw [List.map_append, List.take_of_length_le (by simp)]
end Go.Proofs.YtaklbnaaoebknaaDoor
