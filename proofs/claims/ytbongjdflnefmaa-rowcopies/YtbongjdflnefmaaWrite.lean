/- What the calls answer that change a row, and what they leave. No condition of its own. -/
import Derived.Test.YtbongjdflnefmaaDel
namespace Go.Proofs.Ytbongjdflnefmaa
open Go.RowKit
set_option linter.unusedVariables false
set_option linter.unusedSimpArgs false
set_option maxRecDepth 100000

theorem numT : NumT Try.prog 34 3 .i64 8 := ⟨Try.underlying34, Try.underlying3, by kernel_rfl⟩

theorem block_set {w : World} {b t : Nat} {C : Array Value} {fr : Nat × Nat} (h : w.heap[b]? = some (.cells C t fr)) (j : Nat) (x : Value) : (w.setCell ⟨b, j, none⟩ x).heap[b]? = some (.cells (C.setIfInBounds j x) t fr) := by
  simp [World.setCell, Array.getElem?_modify, h]
theorem block_other {w : World} {b g : Nat} (hne : g ≠ b) (j : Nat) (x : Value) : (w.setCell ⟨b, j, none⟩ x).heap[g]? = w.heap[g]? := by
  simp [World.setCell, Array.getElem?_modify, Ne.symm hne]

theorem sliced_zero (a : Option Addr) (k c : Nat) : sliced a 0 k c 1 = .slice a k c := by
  have e1 : ∀ x : Addr, x.add 0 = x := fun x => by unfold Addr.add; simp
  unfold sliced
  cases a <;> simp [e1]
theorem exec_slice_hN {P : Program} {t e : TypeId} {q8 : IntKind} {by8 : Nat} (hT : NumT P t e q8 by8) {r : Operand → Value} {o : Oper} {x h : Operand} (ho : o.op = .slice t x none (some h) none) (w : World) (a : Option Addr) (n c k : Nat) (q : IntKind) (h1 : r x = .slice a n c) (h2 : r h = .int q (k : Int)) (hk : k ≤ c) :
    (execOp r o).run P w = .ok (.value (sliced a 0 k c 1)) w := by
  obtain ⟨i, hi, _, _, _⟩ := hT.ex
  have hk' : (k : Int) ≤ c := by omega
  simp [execOp, ho, h1, h2, Instr.sliceAt, Instr.slice, run_underlying hT.ut, Instr.sliceBounds, run_sliceBound, sizeOf, typeInfo, hi, hk', sliced]
theorem exec_slice_lN {P : Program} {t e : TypeId} {q8 : IntKind} {by8 : Nat} (hT : NumT P t e q8 by8) {r : Operand → Value} {o : Oper} {x lo : Operand} (ho : o.op = .slice t x (some lo) none none) (w : World) (a : Option Addr) (n c k : Nat) (q : IntKind) (h1 : r x = .slice a n c) (h2 : r lo = .int q (k : Int)) (hk : k ≤ n) :
    (execOp r o).run P w = .ok (.value (sliced a k n c 1)) w := by
  obtain ⟨i, hi, _, hs, _⟩ := hT.ex
  have hk' : (k : Int) ≤ n := by omega
  simp [execOp, ho, h1, h2, Instr.sliceAt, Instr.slice, run_underlying hT.ut, Instr.sliceBounds, run_sliceBound, sizeOf, typeInfo, hi, hs, hk', sliced]
/-- An operation whose run is known, in a plain region. -/
theorem wpList_of_run {P : Program} {w w' : World} {ops : Array Oper} {rest : List Oper} {o : Oper} {a : Act} {Q : Exit → Act → World → Prop} {v : Value} (hgd : o.guard = none) (hrun : (execOp a.eval o).run P w = .ok (.value v) w') (h : wpList P ops Q rest (a.put o.dst v) w') : wpList P ops Q (o :: rest) a w := by
  refine wpList_plain hgd fun K hK => ?_
  unfold Oper.wp
  rw [hrun]
  exact hK _ _ h

/-- A row's blocks. -/
abbrev Foot (b : Nat) (v : Value) (k : Nat) : Prop := k = b ∨ v.ownBlock = some k
/-- From one state of a row to another: all else lies as it lay, and the row's slice is where it was or is new. -/
structure Moves (b : Nat) (v v' : Value) (w w' : World) : Prop where
  keep : KeepBut (Foot b v) w w'
  own : ∀ g, v'.ownBlock = some g → v.ownBlock = some g ∨ w.heap.size ≤ g
theorem Moves.of_ext {b : Nat} {v : Value} {w w' : World} (h : Ext w w') : Moves b v v w w' := ⟨⟨h.os, h.tape, h.output, h.size, fun k hk _ => h.block k hk⟩, fun g hg => .inl hg⟩
theorem Moves.refl (b : Nat) (v : Value) (w : World) : Moves b v v w w := .of_ext (Ext.refl w)
theorem Moves.trans {b : Nat} {v1 v2 v3 : Value} {w1 w2 w3 : World} (h : Moves b v1 v2 w1 w2) (k : Moves b v2 v3 w2 w3) : Moves b v1 v3 w1 w3 := by
  refine ⟨⟨k.keep.os.trans h.keep.os, k.keep.tape.trans h.keep.tape, k.keep.output.trans h.keep.output, Nat.le_trans h.keep.size k.keep.size, fun i hi hn => ?_⟩, fun g hg => ?_⟩
  · refine (k.keep.block i (Nat.lt_of_lt_of_le hi h.keep.size) ?_).trans (h.keep.block i hi hn)
    rintro (rfl | h2)
    · exact hn (.inl rfl)
    · rcases h.own i h2 with h3 | h3
      · exact hn (.inr h3)
      · omega
  · rcases k.own g hg with h2 | h2
    · exact h.own g h2
    · exact .inr (Nat.le_trans h.keep.size h2)
theorem Moves.drewN {b : Nat} {v v' : Value} {w w' : World} (h : Moves b v v' w w') (q : Nat) : Moves b v v' w (w'.drewN q) := ⟨⟨h.keep.os, h.keep.tape, h.keep.output, h.keep.size, h.keep.block⟩, h.own⟩
theorem Ext.drewN (w : World) (q : Nat) : Ext w (w.drewN q) := ⟨rfl, rfl, rfl, Nat.le_refl _, fun _ _ => rfl⟩
/-- What reads as numbers apart from the row's blocks reads so behind. -/
theorem Moves.nums {b : Nat} {v v' u : Value} {w w' : World} {l : List Int} (h : Moves b v v' w w') (hu : NumsAt .i64 w u l) (ha : ∀ g, blockOf u = some g → ¬ Foot b v g) : NumsAt .i64 w' u l :=
  hu.via fun k hk hlt => h.keep.block k hlt (ha k hk)
theorem Moves.row {b c : Nat} {v v' u : Value} {w w' : World} {f m : Int} {l : List Int} (h : Moves b v v' w w') (hr : RowAt w c u f m l) (hc : ¬ Foot b v c) (ha : ∀ g, u.ownBlock = some g → ¬ Foot b v g) : RowAt w' c u f m l :=
  hr.via (h.keep.block c hr.lt hc) fun g hg => h.keep.block g (hr.own.lt hg).2 (ha g hg)

theorem grown_of_alloc {w w1 : World} {q : Nat} {o : Obj} {r : Option Nat} (h : ((w.drewN q).alloc o).grownBy w1 r) : w.grownBy w1 r :=
  ⟨h.os, h.tape, h.output, Nat.le_trans (by simp) h.size, fun k hk hne => (h.block k (by simp; omega) hne).trans (Below.heap_alloc _ _ _ hk)⟩
theorem own_or {v v' : Value} {N S : Nat} (h : v'.ownBlock = v.ownBlock ∨ v'.ownBlock = some N) (hN : S ≤ N) : ∀ g, v'.ownBlock = some g → v.ownBlock = some g ∨ S ≤ g := by
  intro g hg
  rcases h with h | h
  · exact .inl (h ▸ hg)
  · rw [h] at hg; cases hg; exact .inr hN

section
variable {w : World} {b : Nat} {v : Value} {f m : Int} {l : List Int}

theorem RowAt.put2 (h : RowAt w b v f m l) {w1 : World} {v' : Value} {l' : List Int} (hg : w.grownBy w1 v.ownBlock) (ho : OwnN .i64 w1 0 3 v' l') (hv : ∀ g, v'.ownBlock = some g → v.ownBlock = some g ∨ w.heap.size ≤ g) (hl : (l'.length : Int) ≤ m) :
    RowAt (w1.setCell ⟨b, 2, none⟩ v') b v' f m l' ∧ Moves b v v' w (w1.setCell ⟨b, 2, none⟩ v') := by
  have hb : w1.heap[b]? = _ := (hg.block b h.lt (fun e => h.ne e.symm)).trans h.blk
  have hne : ∀ g, v'.ownBlock = some g → g ≠ b := fun g hgv e => by
    rcases hv g hgv with h2 | h2
    · exact h.ne (e ▸ h2)
    · have := h.lt; omega
  refine ⟨⟨?_, ho.via fun g hgv => block_other (hne g hgv) _ _, h.hf, h.hm, hl⟩, ⟨⟨hg.os, hg.tape, hg.output, by simpa using hg.size, fun k hk hn => ?_⟩, hv⟩⟩
  · rw [block_set hb]; rfl
  · rw [block_other (fun e => hn (.inl e))]
    exact hg.block k hk (fun e => hn (.inr e.symm))

set_option maxHeartbeats 1000000 in
theorem push_full (h : RowAt w b v f m l) (x : Int) (hx : W64 x) (hfull : (l.length : Int) = m) : Calls Try.prog 13 #[rowP b, .int .i64 x] w fun e w' => e = .returned (.tuple #[.int .u32 0, .iface 33 (.int .i64 3)]) ∧ ∃ q, w' = w.drewN q := by
  have H : Hid (RowAt w b v f m l) := h
  have h0 : m - l.length = 0 := by omega
  clear h
  go_enter Try.func13, Try.ntmps13
  go_wp2_with (go_at_call 25; refine (free_any H.out).mono ?_; rintro e w' ⟨rfl, q, rfl⟩; rw [h0])
  go_ret2
  exact ⟨rfl, _, rfl⟩

set_option maxHeartbeats 1000000 in
theorem push_any (h : RowAt w b v f m l) (x : Int) (hx : W64 x) (hroom : (l.length : Int) < m) : Calls Try.prog 13 #[rowP b, .int .i64 x] w fun e w' => e = .returned (.tuple #[.int .u32 (Ser.step f l.length), .nilIface]) ∧ ∃ v', RowAt w' b v' f m (l ++ [x]) ∧ Moves b v v' w w' := by
  have H : Hid (RowAt w b v f m l) := h
  have hm := h.hm
  have h0 : m - l.length ≠ 0 := by omega
  have hd : decide (m - (l.length : Int) = 0) = false := by simpa using h0
  have hs := h.small
  have hc2 := h.c2
  clear h
  go_enter Try.func13, Try.ntmps13
  go_wp2_with (first
    | (go_at_call 25; refine (free_any H.out).mono ?_; rintro e w' ⟨rfl, q, rfl⟩)
    | (go_at_call 17; refine (next_any (H.out.ext (Ext.drewN _ _))).mono ?_; rintro e w' ⟨rfl, rfl⟩)
    | (refine wpList_append_nums numT rfl (.tmp 17) (.tmp 19) rfl 0 l [x] ?_ ?_ ?_ ?_ ?_ ?_))
  · exact (H.out.own.ext (Ext.drewN _ _)).ext (Ext.alloc _ _)
  · exact NumsAt.one _ _ _ _ rfl
  · simp; omega
  · simp; omega
  · omega
  · intro ad cap w1 ho hg hown
    have hg2 : w.grownBy w1 v.ownBlock := grown_of_alloc hg
    have hb := (hg2.block b H.out.lt (fun e => H.out.ne e.symm)).trans H.out.blk
    have k1 : w1.cell? ⟨b, 2, none⟩ = some v := cell_of_block hb 2
    have k2 : w1.frozen? ⟨b, 2, none⟩ = false := frozen_of_block hb 2
    have hfin := H.out.put2 hg2 ho (own_or (v := v) hown (by simp)) (by simp; omega)
    have HF : Hid _ := hfin
    clear hfin hg2 hb ho hown hg hc2
    go_wp2
    go_ret2
    exact ⟨rfl, _, HF.out⟩

set_option maxHeartbeats 1000000 in
theorem set_none (h : RowAt w b v f m l) (n x : Int) (hn : Of 4294967296 n) (hx : W64 x) (hout : ¬ Ser.far f n < l.length) : Calls Try.prog 24 #[rowP b, .int .u32 n, .int .i64 x] w fun e w' => e = .returned (.iface 33 (.int .i64 4)) ∧ w' = w := by
  have H : Hid (RowAt w b v f m l) := h
  have hd : decide (Ser.far f n < l.length) = false := by simpa using hout
  clear h
  go_enter Try.func24, Try.ntmps24
  go_wp2_with (go_at_call 36; refine (has_any H.out _ hn).mono ?_; rintro e w' ⟨rfl, rfl⟩; rw [hd])
  go_ret
  exact ⟨rfl, rfl⟩

theorem RowAt.put (h : RowAt w b v f m l) (k : Nat) (hk : k < l.length) (x : Int) : ∃ g c, v = .slice (some ⟨g, 0, none⟩) l.length c ∧ RowAt (w.setCell ⟨g, k, none⟩ (.int .i64 x)) b v f m (l.set k x) ∧ Moves b v v w (w.setCell ⟨g, k, none⟩ (.int .i64 x)) ∧ w.cell? ⟨g, k, none⟩ = some (.int .i64 (l.getD k 0)) ∧ w.frozen? ⟨g, k, none⟩ = false := by
  rcases h.own.1.2 with ⟨_, h0⟩ | ⟨g, cap, cur, rfl, _, hg, _⟩
  · omega
  have hne : g ≠ b := fun e => h.ne (by rw [e]; rfl)
  have hst := h.own.stored k x
  refine ⟨g, cap, rfl, ⟨(block_other (Ne.symm hne) _ _).trans h.blk, hst.1, h.hf, h.hm, by simpa using h.hl⟩, ⟨⟨hst.2.os, hst.2.tape, hst.2.output, hst.2.size, fun i hi hn => hst.2.block i hi (fun e => hn (.inr e.symm))⟩, fun _ hx => .inl hx⟩, ?_, frozen_of_block hg _⟩
  rw [h.own.1.cellAt k (by omega)]
  simp [List.getD_eq_getElem?_getD, hk]

set_option maxHeartbeats 1000000 in
theorem set_any (h : RowAt w b v f m l) (n x : Int) (k : Nat) (hn : Of 4294967296 n) (hx : W64 x) (hk : Ser.far f n = k) (hin : k < l.length) : Calls Try.prog 24 #[rowP b, .int .u32 n, .int .i64 x] w fun e w' => e = .returned .nilIface ∧ RowAt w' b v f m (l.set k x) ∧ Moves b v v w w' := by
  have H : Hid (RowAt w b v f m l) := h
  have hd : decide (Ser.far f n < l.length) = true := by simp [hk]; exact hin
  have hs := h.small
  have hf := h.hf
  obtain ⟨g, c, rfl, h1, h2, k3, k4⟩ := (h.ext (Ext.drew w)).put k hin x
  have hc0 : w.drew.cell? ⟨b, 0, none⟩ = _ := h.c0
  have hc2 : w.drew.cell? ⟨b, 2, none⟩ = _ := h.c2
  have HF : Hid (RowAt (w.drew.setCell ⟨g, k, none⟩ (.int .i64 x)) b (.slice (some ⟨g, 0, none⟩) l.length c) f m (l.set k x) ∧ Moves b (.slice (some ⟨g, 0, none⟩) l.length c) (.slice (some ⟨g, 0, none⟩) l.length c) w (w.drew.setCell ⟨g, k, none⟩ (.int .i64 x))) := ⟨h1, (Moves.of_ext (Ext.drew w)).trans h2⟩
  clear h h1 h2
  go_enter Try.func24, Try.ntmps24
  go_wp2_with (go_at_call 36; refine (has_any H.out _ hn).mono ?_; rintro e w' ⟨rfl, rfl⟩; rw [hd])
  have hne : b ≠ g := fun e => H.out.ne (by rw [e]; rfl)
  obtain ⟨Ws, hs0, hs1⟩ : ∃ Ws : Nat → World, Ws 0 = w'.drew ∧ Ws 1 = w'.drew.setCell ⟨g, k, none⟩ (.int .i64 x) := ⟨fun k => match k with | 0 => _ | _ => _, rfl, rfl⟩
  have DD : ∀ i, i ≤ 1 → ∀ j u, w'.drew.cell? ⟨b, j, none⟩ = some u → (Ws i).cell? ⟨b, j, none⟩ = some u := fun i hi j u hu => by
    rcases i with _ | _ | i
    · rw [hs0]; exact hu
    · rw [hs1]; exact (World.cell?_of_block (block_other hne _ _)).trans hu
    · omega
  have D0 : ∀ i, i ≤ 1 → _ := fun i hi => DD i hi 0 _ hc0
  have D2 : ∀ i, i ≤ 1 → _ := fun i hi => DD i hi 2 _ hc2
  refine wp_region_staged (fun t => bif Nat.ble 12 t && Nat.ble t 23 then some (t - 12) else none) 24 [12] Ws
    [(fun v => v = (rowP b)),
     (fun v => v = (.pointer (some ⟨b, 0, none⟩))),
     (fun v => v = (.pointer (some ⟨b, 2, none⟩))),
     (fun v => v = (.slice (some ⟨g, 0, none⟩) l.length c)),
     (fun v => v = (rowP b)),
     (fun v => v = (.pointer (some ⟨b, 0, none⟩))),
     (fun v => v = (.pointer (some ⟨b, 0, none⟩))),
     (fun v => v = (.int .u32 f)),
     (fun v => v = (.int .u32 n)),
     (fun v => v = (.int .i64 k)),
     (fun v => v = (.int .i64 x)),
     (fun v => v = (.pointer (some ⟨g, k, none⟩))),
     (fun _ => True)]
    rfl (by kernel_rfl) (by kernel_rfl) rfl (by kernel_rfl) (by kernel_rfl) hs0 ?_ ?_
  · refine GoodSAll.reads rfl (fun k2 hk2 => ?_) ?_
    · intro r hx
      obtain ⟨h1, _⟩ := hx
      replace h1 : r (.tmp 0) = (rowP b) := h1
      exact give_move (.inl rfl) ⟨rfl, h1⟩
    refine GoodSAll.reads rfl (fun k2 hk2 => ?_) ?_
    · intro r hx
      obtain ⟨h1, _⟩ := hx
      replace h1 : r (.tmp 12) = (rowP b) := h1
      exact give_of (by simp [execOp, h1, go_sem]) ⟨rfl, rfl⟩
    refine GoodSAll.reads rfl (fun k2 hk2 => ?_) ?_
    · intro r hx
      obtain ⟨h1, _⟩ := hx
      replace h1 : r (.tmp 13) = (.pointer (some ⟨b, 0, none⟩)) := h1
      exact give_of (by simp [execOp, h1, go_sem]) ⟨rfl, rfl⟩
    refine GoodSAll.reads rfl (fun k2 hk2 => ?_) ?_
    · intro r hx
      obtain ⟨h1, _⟩ := hx
      replace h1 : r (.tmp 14) = (.pointer (some ⟨b, 2, none⟩)) := h1
      exact give_of (by simp [execOp, h1, go_sem, D2 k2 hk2]) ⟨rfl, rfl⟩
    refine GoodSAll.reads rfl (fun k2 hk2 => ?_) ?_
    · intro r hx
      obtain ⟨h1, _⟩ := hx
      replace h1 : r (.tmp 0) = (rowP b) := h1
      exact give_move (.inl rfl) ⟨rfl, h1⟩
    refine GoodSAll.reads rfl (fun k2 hk2 => ?_) ?_
    · intro r hx
      obtain ⟨h1, _⟩ := hx
      replace h1 : r (.tmp 16) = (rowP b) := h1
      exact give_of (by simp [execOp, h1, go_sem]) ⟨rfl, rfl⟩
    refine GoodSAll.reads rfl (fun k2 hk2 => ?_) ?_
    · intro r hx
      obtain ⟨h1, _⟩ := hx
      replace h1 : r (.tmp 17) = (.pointer (some ⟨b, 0, none⟩)) := h1
      exact give_of (by simp [execOp, h1, go_sem]) ⟨rfl, rfl⟩
    refine GoodSAll.reads rfl (fun k2 hk2 => ?_) ?_
    · intro r hx
      obtain ⟨h1, _⟩ := hx
      replace h1 : r (.tmp 18) = (.pointer (some ⟨b, 0, none⟩)) := h1
      exact give_of (by simp [execOp, h1, go_sem, D0 k2 hk2]) ⟨rfl, rfl⟩
    refine GoodSAll.reads rfl (fun k2 hk2 => ?_) ?_
    · intro r hx
      obtain ⟨h1, _⟩ := hx
      replace h1 : r (.tmp 1) = (.int .u32 n) := h1
      exact give_move (.inl rfl) ⟨rfl, h1⟩
    refine GoodSAll.reads rfl (fun k2 hk2 => ?_) ?_
    · intro r hx
      obtain ⟨h1, h2, h3, _⟩ := hx
      replace h2 : r (.tmp 19) = (.int .u32 f) := h2
      replace h3 : r (.tmp 20) = (.int .u32 n) := h3
      refine give_func #[.int .u32 f, .int .u32 n] rfl h1 Try.call37 (by simp [h2, h3]) ?_
      refine (far32k hk _ hf hn).mono ?_
      rintro e w' ⟨rfl, rfl⟩
      exact ⟨_, rfl, rfl, rfl⟩
    refine GoodSAll.reads rfl (fun k2 hk2 => ?_) ?_
    · intro r hx
      obtain ⟨h1, _⟩ := hx
      replace h1 : r (.tmp 2) = (.int .i64 x) := h1
      exact give_move (.inl rfl) ⟨rfl, h1⟩
    refine GoodSAll.reads rfl (fun k2 hk2 => ?_) ?_
    · intro r hx
      obtain ⟨h1, h2, _⟩ := hx
      replace h1 : r (.tmp 15) = (.slice (some ⟨g, 0, none⟩) l.length c) := h1
      replace h2 : r (.tmp 21) = (.int .i64 k) := h2
      exact give_of (by simp [execOp, h1, h2, go_sem, hin]) ⟨rfl, rfl⟩
    refine GoodSAll.writes 0 rfl rfl ?_ ?_
    · intro r hx
      obtain ⟨h1, h2, _⟩ := hx
      replace h1 : r (.tmp 23) = (.pointer (some ⟨g, k, none⟩)) := h1
      replace h2 : r (.tmp 22) = (.int .i64 x) := h2
      exact give_skip (w' := Ws 1) (by rw [hs0, hs1]; simp [execOp, h1, h2, go_sem, k3, k4]) ⟨rfl, trivial⟩
    exact GoodSAll.nil
  · intro vs a' hold ha'
    have hv0 : vs 0 = (rowP b) := hold 0 (by simp)
    have hv1 : vs 1 = (.pointer (some ⟨b, 0, none⟩)) := hold 1 (by simp)
    have hv2 : vs 2 = (.pointer (some ⟨b, 2, none⟩)) := hold 2 (by simp)
    have hv3 : vs 3 = (.slice (some ⟨g, 0, none⟩) l.length c) := hold 3 (by simp)
    have hv4 : vs 4 = (rowP b) := hold 4 (by simp)
    have hv5 : vs 5 = (.pointer (some ⟨b, 0, none⟩)) := hold 5 (by simp)
    have hv6 : vs 6 = (.pointer (some ⟨b, 0, none⟩)) := hold 6 (by simp)
    have hv7 : vs 7 = (.int .u32 f) := hold 7 (by simp)
    have hv8 : vs 8 = (.int .u32 n) := hold 8 (by simp)
    have hv9 : vs 9 = (.int .i64 k) := hold 9 (by simp)
    have hv10 : vs 10 = (.int .i64 x) := hold 10 (by simp)
    have hv11 : vs 11 = (.pointer (some ⟨g, k, none⟩)) := hold 11 (by simp)
    simp only [putAll, Act.put, hv0, hv1, hv2, hv3, hv4, hv5, hv6, hv7, hv8, hv9, hv10, hv11, List.setIfInBounds_toArray, List.set_cons_succ, List.set_cons_zero] at ha'
    subst ha'
    clear hold hv0 hv1 hv2 hv3 hv4 hv5 hv6 hv7 hv8 hv9 hv10 hv11
    clear DD D0 D2 hc0 hc2 k3 k4
    rw [show Ws ([12] : List Nat).length = _ from hs1]
    clear hs0 hs1 Ws
    refine ‹∀ (a : Act) (w : World), Code.wp Try.prog _ _ a w → _› _ _ ?_
    go_wp2
    go_ret
    exact ⟨rfl, HF.out⟩

theorem del_any {w : World} {v : Value} {l : List Int} (h : OwnN .i64 w 0 3 v l) (k : Nat) (hk : k ≤ l.length) :
    Calls Try.prog 44 #[v, .int .i64 0, .int .i64 k] w fun e w' => ∃ v', e = .returned v' ∧ OwnN .i64 w' 0 3 v' (l.drop k) ∧ v'.ownBlock = v.ownBlock ∧ w.grownBy w' v.ownBlock := by
  obtain ⟨a, cap, rfl, h1, h2⟩ := h.slice
  cases a with
  | none =>
    obtain ⟨rfl, rfl⟩ := h1 rfl
    obtain rfl : k = 0 := by simpa using hk
    refine (del_zero none 0 0 w (by simp) (by simp [maxLen]) (fun _ => ⟨rfl, rfl⟩)).mono ?_
    rintro e w' ⟨rfl, rfl⟩
    exact ⟨_, rfl, h, rfl, World.grownBy.refl _ _⟩
  | some z =>
    obtain ⟨g, rfl, _, _⟩ := h2 z rfl
    refine (del_own h k hk).mono ?_
    rintro e w' ⟨rfl, h3, h4⟩
    exact ⟨_, rfl, h3, rfl, h4⟩

theorem RowAt.put0 (h : RowAt w b v f m l) (f' : Int) (hf : Of 4294967296 f') : RowAt (w.setCell ⟨b, 0, none⟩ (.int .u32 f')) b v f' m l ∧ Moves b v v w (w.setCell ⟨b, 0, none⟩ (.int .u32 f')) := by
  refine ⟨⟨?_, h.own.via fun g hg => block_other (fun e => h.ne (by rw [hg, e])) _ _, hf, h.hm, h.hl⟩, ⟨⟨rfl, rfl, rfl, by simp, fun k hk hn => block_other (fun e => hn (.inl e)) _ _⟩, fun g hg => .inl hg⟩⟩
  rw [block_set h.blk]; rfl

theorem OwnN.mono_via {k : IntKind} {w w' : World} {base : Nat} {e : TypeId} {v : Value} {l : List Int} {S : Nat → Prop} (h : OwnN k w base e v l) (hk : KeepBut S w w') (hn : ∀ g, v.ownBlock = some g → ¬ S g) : OwnN k w' base e v l :=
  h.via fun g hg => hk.block g (h.lt hg).2 (hn g hg)

set_option maxHeartbeats 2000000 in
theorem take_any (h : RowAt w b v f m l) (k : Nat) (hk : k ≤ l.length) : Calls Try.prog 35 #[rowP b, .int .i64 k] w fun e w' => ∃ u v', e = .returned u ∧ OwnN .i64 w' w.heap.size 3 u (l.take k) ∧ RowAt w' b v' (Ser.step f k) m (l.drop k) ∧ Moves b v v' w w' ∧ v'.ownBlock = v.ownBlock := by
  have H : Hid (RowAt w b v f m l) := h
  have hs := h.small
  have hf := h.hf
  obtain ⟨a, cap, rfl, hcap, hc⟩ := h.own.nums.form
  have hc2 := h.c2
  have hcm := hcap.2
  unfold maxLen at hcm
  clear h hc
  go_enter Try.func35, Try.ntmps35
  go_wp2_with (first
    | (refine wpList_of_run rfl (exec_slice_hN numT (x := .tmp 9) (h := .tmp 10) rfl _ a l.length cap k .i64 rfl rfl (by omega)) ?_)
    | (refine wpList_append_nums numT rfl (.const (.slice none 0 0)) (.tmp 11) rfl w.heap.size [] (l.take k) (OwnN.nil _ _ _ _) ?_ ?_ ?_ (Nat.le_refl _) ?_))
  · have := H.out.own.nums.sliced 0 k (by omega) hk
    rw [sliced_zero] at this
    simpa using this
  · simp; omega
  · simp; omega
  · intro ad cap1 w1 ho hg hown
    replace hg : w.grownBy w1 none := hg
    have hE1 : Ext w w1 := Ext.of_grown hg
    have HU : Hid (OwnN .i64 w1 w.heap.size 3 (.slice ad k cap1) (l.take k)) := ho
    have H1 : Hid (RowAt w1 b (.slice a l.length cap) f m l) := H.out.ext hE1
    have hc2' := H1.out.c2
    clear hc2 hown hg ho
    go_wp2_with (first
      | (go_at_call 44
         refine (del_any H1.out.own k hk).mono ?_
         rintro e w2 ⟨v', rfl, hd1, hd2, hd3⟩
         have hfin := H1.out.put2 hd3 hd1 (fun g hg => .inl (hd2 ▸ hg)) (by have := H1.out.hl; simp; omega)
         have hfin0 := hfin.1.put0 (Ser.step f k) (Ser.step_lt f k)
         have hb := (hd3.block b H1.out.lt (fun e => H1.out.ne e.symm)).trans H1.out.blk
         have r0 : w2.cell? ⟨b, 0, none⟩ = some (.int .u32 f) := cell_of_block hb 0
         have r2 : w2.cell? ⟨b, 2, none⟩ = some (.slice a l.length cap) := cell_of_block hb 2
         have r3 : w2.frozen? ⟨b, 2, none⟩ = false := frozen_of_block hb 2
         have r4 : w2.frozen? ⟨b, 0, none⟩ = false := frozen_of_block hb 0
         obtain ⟨a2, c2, e2, _, _⟩ := hd1.slice
         rw [List.length_drop] at e2
         subst e2
         have r5 := hfin.1.c0
         have r6 := frozen_of_block hfin.1.blk 0
         have HM := (Moves.of_ext (b := b) (v := .slice a l.length cap) hE1).trans (hfin.2.trans hfin0.2)
         have HF : Hid (RowAt _ _ _ _ _ _ ∧ Moves _ _ _ _ _) := ⟨hfin0.1, HM⟩
         have HV : Hid _ := hd2
         have HU2 : Hid (OwnN .i64 _ w.heap.size 3 (.slice ad k cap1) (l.take k)) := HU.out.mono_via (hfin.2.trans hfin0.2).keep (fun g hg => by
           have h1 := (HU.out.lt hg).1
           rintro (rfl | h2)
           · have := H.out.lt; omega
           · have := (H.out.own.lt h2).2; omega)
         clear hfin hfin0 hb hd1 hd2 hd3 HM)
      | (go_at_call 38; refine (step32 _ _ _ hf (by constructor <;> omega)).mono ?_; rintro e w' ⟨rfl, rfl⟩))
    go_ret
    exact ⟨_, _, rfl, HU2.out, HF.out.1, HF.out.2, HV.out⟩

set_option maxHeartbeats 1000000 in
theorem pop_none (h : RowAt w b v f m []) : Calls Try.prog 14 #[rowP b] w fun e w' => e = .returned (.tuple #[.int .i64 0, .iface 33 (.int .i64 4)]) ∧ w' = w := by
  have H : Hid (RowAt w b v f m []) := h
  clear h
  go_enter Try.func14, Try.ntmps14
  go_wp2_with (go_at_call 18; refine (len_any H.out).mono ?_; rintro e w' ⟨rfl, rfl⟩)
  go_ret2
  exact ⟨rfl, rfl⟩
set_option maxHeartbeats 1000000 in
theorem pop_any {x : Int} (h : RowAt w b v f m (x :: l)) : Calls Try.prog 14 #[rowP b] w fun e w' => e = .returned (.tuple #[.int .i64 x, .nilIface]) ∧ ∃ v', RowAt w' b v' (Ser.step f 1) m l ∧ Moves b v v' w w' := by
  have H : Hid (RowAt w b v f m (x :: l)) := h
  have hs := h.small
  have hd : decide (((x :: l).length : Int) = 0) = false := by simp; omega
  clear h
  go_enter Try.func14, Try.ntmps14
  go_wp2_with (first
    | (go_at_call 18; refine (len_any H.out).mono ?_; rintro e w' ⟨rfl, rfl⟩)
    | (go_at_call 35
       refine (take_any H.out 1 (by simp)).mono ?_
       rintro e w2 ⟨u, v', rfl, hu, hr, hm, hv⟩
       obtain ⟨g, c, rfl, hg1, hg2⟩ := hu.one_of (l := []) (x := x)
       have hcell : w2.cell? ⟨g, 0, none⟩ = some (.int .i64 x) := by
         have := hu.1.cellAt 0 (by simp)
         simpa using this
       have HF : Hid _ := And.intro hr hm
       clear hu hr hm hv))
  go_ret2
  exact ⟨rfl, _, HF.out⟩

theorem take_to {n : Int} (h : RowAt w b v f m l) (k : Nat) (hk : k ≤ l.length) (hE : Ser.step f k = n) : Calls Try.prog 35 #[rowP b, .int .i64 k] w fun e w' => ∃ u v', e = .returned u ∧ OwnN .i64 w' w.heap.size 3 u (l.take k) ∧ RowAt w' b v' n m (l.drop k) ∧ Moves b v v' w w' ∧ v'.ownBlock = v.ownBlock := by
  subst hE; exact take_any h k hk
set_option maxHeartbeats 1000000 in
theorem cut_out (h : RowAt w b v f m l) (n : Int) (hn : Of 4294967296 n) (h1 : ¬ Ser.far f n < l.length) (h2 : n ≠ Ser.step f l.length) : Calls Try.prog 16 #[rowP b, .int .u32 n] w fun e w' => e = .returned (.tuple #[.slice none 0 0, .iface 33 (.int .i64 1)]) ∧ w' = w := by
  have H : Hid (RowAt w b v f m l) := h
  have hd : decide (Ser.far f n < l.length) = false := by simpa using h1
  clear h
  go_enter Try.func16, Try.ntmps16
  go_wp2_with (first
    | (go_at_call 36; refine (has_any H.out _ hn).mono ?_; rintro e w' ⟨rfl, rfl⟩; rw [hd])
    | (go_at_call 17; refine (next_any H.out).mono ?_; rintro e w' ⟨rfl, rfl⟩))
  go_ret2
  exact ⟨rfl, rfl⟩
set_option maxHeartbeats 1000000 in
theorem cut_any (h : RowAt w b v f m l) (n : Int) (k : Nat) (hn : Of 4294967296 n) (hk : Ser.far f n = k) (hin : k ≤ l.length) : Calls Try.prog 16 #[rowP b, .int .u32 n] w fun e w' => ∃ u v', e = .returned (.tuple #[u, .nilIface]) ∧ OwnN .i64 w' w.heap.size 3 u (l.take k) ∧ RowAt w' b v' n m (l.drop k) ∧ Moves b v v' w w' ∧ v'.ownBlock = v.ownBlock := by
  have H : Hid (RowAt w b v f m l) := h
  have hf := h.hf
  have hs := h.small
  have hc0 := h.c0
  have hE : Ser.step f k = n := by unfold Ser.step Ser.far at *; omega
  clear h
  by_cases hlt : k < l.length
  · have hd : decide (Ser.far f n < l.length) = true := by simp [hk]; exact hlt
    go_enter Try.func16, Try.ntmps16
    go_wp2_with (first
      | (go_at_call 36; refine (has_any H.out _ hn).mono ?_; rintro e w' ⟨rfl, rfl⟩; rw [hd])
      | (go_at_call 37; refine (far32k hk _ hf hn).mono ?_; rintro e w' ⟨rfl, rfl⟩)
      | (go_at_call 35; refine (take_to H.out _ hin hE).mono ?_; rintro e w2 ⟨u, v', rfl, hu, hr⟩))
    go_ret2
    exact ⟨_, _, rfl, hu, hr⟩
  · have hd : decide (Ser.far f n < l.length) = false := by simp [hk]; omega
    obtain rfl : k = l.length := by omega
    go_enter Try.func16, Try.ntmps16
    go_wp2_with (first
      | (go_at_call 36; refine (has_any H.out _ hn).mono ?_; rintro e w' ⟨rfl, rfl⟩; rw [hd])
      | (go_at_call 17; refine (next_any H.out).mono ?_; rintro e w' ⟨rfl, rfl⟩; rw [hE])
      | (go_at_call 37; refine (far32k hk _ hf hn).mono ?_; rintro e w' ⟨rfl, rfl⟩)
      | (go_at_call 35; refine (take_to H.out _ hin hE).mono ?_; rintro e w2 ⟨u, v', rfl, hu, hr⟩))
    go_ret2
    exact ⟨_, _, rfl, hu, hr⟩

set_option maxHeartbeats 1000000 in
theorem new_out (f m : Int) (w : World) (hf : Of 4294967296 f) (hm : W64 m) (ho : m < 1 ∨ 1024 < m) : Calls Try.prog 9 #[.int .u32 f, .int .i64 m] w fun e w' => e = .returned (.tuple #[nilRow, .iface 33 (.int .i64 1)]) ∧ w' = w := by
  by_cases h1 : m < 1
  · go_enter Try.func9, Try.ntmps9
    go_wp2
    go_ret2
    exact ⟨rfl, rfl⟩
  · have h2 : 1024 < m := by omega
    go_enter Try.func9, Try.ntmps9
    go_wp2
    go_ret2
    exact ⟨rfl, rfl⟩
set_option maxHeartbeats 1000000 in
theorem new_any (f m : Int) (w : World) (hf : Of 4294967296 f) (hm : 1 ≤ m ∧ m ≤ 1024) : Calls Try.prog 9 #[.int .u32 f, .int .i64 m] w fun e w' => e = .returned (.tuple #[rowP w.heap.size, .nilIface]) ∧ RowAt w' w.heap.size (.slice none 0 0) f m [] ∧ Ext w w' := by
  have h1 : ¬ m < 1 := by omega
  have h2 : ¬ 1024 < m := by omega
  go_enter Try.func9, Try.ntmps9
  go_wp2
  go_ret2
  refine ⟨rfl, ⟨?_, OwnN.nil _ _ _ _, hf, hm, by simp; omega⟩, Ext.alloc _ _⟩
  exact Array.getElem?_push_size
end
end Go.Proofs.Ytbongjdflnefmaa
