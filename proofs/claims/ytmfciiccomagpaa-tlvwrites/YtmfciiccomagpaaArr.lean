/- Arrays and structs by value: whole rows of cells, loaded, stored, boxed and made, whatever they hold. No condition of its own. -/
import Derived.Test.YtmfciiccomagpaaDeep
import Derived.Test.YtmfciiccomagpaaWords
import Derived.Deep.MidRow
import Derived.Laws.CopyRow
import Derived.Laws.Tables
import Derived.TacticsIn
namespace Go.Proofs.Ytmfciiccomagpaa
open Go Go.RowKit
set_option linter.unusedVariables false
set_option linter.unusedSimpArgs false

/-- A block of cells that may be written. -/
def Blk (w : World) (g : Nat) (C : Array Value) (t : TypeId) : Prop := w.heap[g]? = some (.cells C t (0, 0))
theorem Blk.lt {w : World} {g t : Nat} {C : Array Value} (h : Blk w g C t) : g < w.heap.size := (Array.getElem?_eq_some_iff.1 h).1
theorem Blk.ext {w w' : World} {g t : Nat} {C : Array Value} (h : Blk w g C t) (he : Ext w w') : Blk w' g C t := block_ext he h
theorem Blk.but {S : Nat → Prop} {w w' : World} {g t : Nat} {C : Array Value} (h : Blk w g C t) (hk : KeepBut S w w') (hn : ¬ S g) : Blk w' g C t := (hk.block g h.lt hn).trans h
theorem Blk.of {w w' : World} {g t : Nat} {C : Array Value} (h : Blk w g C t) (e : w'.heap[g]? = w.heap[g]?) : Blk w' g C t := e.trans h
theorem Blk.cell {w : World} {g t : Nat} {C : Array Value} (h : Blk w g C t) (j : Nat) : w.cell? ⟨g, j, none⟩ = C[j]? := cell_of_block h j
theorem Blk.frozen {w : World} {g t : Nat} {C : Array Value} (h : Blk w g C t) (j : Nat) : w.frozen? ⟨g, j, none⟩ = false := frozen_of_block h j
theorem Blk.new (w : World) (C : Array Value) (t : TypeId) : Blk (w.alloc (.cells C t)) w.heap.size C t := Array.getElem?_push_size
theorem Blk.set {w : World} {g t : Nat} {C : Array Value} (h : Blk w g C t) (j : Nat) (x : Value) : Blk (w.setCell ⟨g, j, none⟩ x) g (C.setIfInBounds j x) t := block_set h j x
theorem Blk.other {w : World} {g b t : Nat} {C : Array Value} (h : Blk w g C t) (hn : g ≠ b) (j : Nat) (x : Value) : Blk (w.setCell ⟨b, j, none⟩ x) g C t := (block_other hn j x).trans h
theorem Blk.drewN {w : World} {g t : Nat} {C : Array Value} (h : Blk w g C t) (q : Nat) : Blk (w.drewN q) g C t := h
theorem Ext.set {w0 w : World} (h : Ext w0 w) {b : Nat} (hb : w0.heap.size ≤ b) (j : Nat) (x : Value) : Ext w0 (w.setCell ⟨b, j, none⟩ x) :=
  ⟨h.os, h.tape, h.output, by have := h.size; simp; omega, fun k hk => (block_other (by omega) j x).trans (h.block k hk)⟩

/-- What is known of a type of many cells. -/
structure RowT (P : Program) (t : TypeId) (n : Nat) : Prop where
  d : ∃ d, P.underlying t = some d ∧ d.isRow = true
  s : (P.info? t).map (·.size) = some n

theorem exec_box {P : Program} {r : Operand → Value} {o : Oper} {t : TypeId} {x : Operand} {C : Array Value} (w : World) (ho : o.op = .box t x) (hx : r x = .agg C) :
    (execOp r o).run P w = .ok (.value (.pointer (some ⟨w.heap.size, 0, none⟩))) (w.alloc (.cells C t)) := by
  simp [execOp, ho, hx, Instr.box, newVar, newRow, Value.cells, go_sem]
theorem exec_alloc {P : Program} {r : Operand → Value} {o : Oper} {t : TypeId} {C : Array Value} (w : World) (ho : o.op = .alloc t) (hz : (P.info? t).bind (·.zero) = some (.agg C)) :
    (execOp r o).run P w = .ok (.value (.pointer (some ⟨w.heap.size, 0, none⟩))) (w.alloc (.cells C t)) := by
  cases hq : P.info? t with
  | none => simp [hq] at hz
  | some i =>
    have hz' : i.zero = some (.agg C) := by simpa [hq] using hz
    simp [execOp, ho, Instr.alloc, zeroValue, typeInfo, hq, hz', newVar, newRow, Value.cells, go_sem]
theorem exec_load {P : Program} {r : Operand → Value} {o : Oper} {t : TypeId} {n : Nat} (hT : RowT P t n) {x : Operand} {g off T : Nat} {C : Array Value} {w : World} (ho : o.op = .load t x) (hx : r x = .pointer (some ⟨g, off, none⟩)) (hB : Blk w g C T) (L : List Value) (hL : ∀ j v, L[j]? = some v → C[off + j]? = some v) (hn : L.length = n) :
    (execOp r o).run P w = .ok (.value (.agg L.toArray)) w := by
  obtain ⟨d, hu, hd⟩ := hT.d
  have := run_loadVar_mid (P := P) w g off t L d (fun j v hv => by rw [hB.cell]; exact hL j v hv) hu hd (by rw [hn]; exact hT.s)
  simp only [execOp, ho, hx, Instr.loadAt, Instr.sureAddr, Sem.run_bind, Sem.run_pure, Result.andThen_ok, this]
theorem exec_loadW {P : Program} {r : Operand → Value} {o : Oper} {t : TypeId} {n : Nat} (hT : RowT P t n) {x : Operand} {g T : Nat} {C : Array Value} {w : World} (ho : o.op = .load t x) (hx : r x = .pointer (some ⟨g, 0, none⟩)) (hB : Blk w g C T) (hn : C.size = n) :
    (execOp r o).run P w = .ok (.value (.agg C)) w := by
  have := exec_load hT ho hx hB C.toList (fun j v hv => by rw [Nat.zero_add]; simpa using hv) (by simpa using hn)
  simpa using this
/-- A row of cells with others in their place from 'off' on. -/
def putIn (C : Array Value) (off : Nat) (D : List Value) : Array Value := (C.toList.take off ++ D ++ C.toList.drop (off + D.length)).toArray
theorem exec_store {P : Program} {r : Operand → Value} {o : Oper} {t : TypeId} {n : Nat} (hT : RowT P t n) {x y : Operand} {g off T : Nat} {C D : Array Value} {w : World} (ho : o.op = .store t x y) (hx : r x = .pointer (some ⟨g, off, none⟩)) (hy : r y = .agg D) (hB : Blk w g C T) (hn : D.size = n) (hf : off + n ≤ C.size) (h1 : ∀ v ∈ D.toList, v.oneCell' = true) :
    (execOp r o).run P w = .ok .skip (w.setRow g (putIn C off D.toList)) := by
  have := run_storeCells_at P g off T D.toList 0 C w hB (by simp; omega) h1
  cases hq : P.info? t with
  | none => have := hT.s; simp [hq] at this
  | some i =>
    have hs : D.size = i.size := by have := hT.s; simp [hq] at this; omega
    simp only [Nat.add_zero] at this
    simp [execOp, ho, hx, hy, Instr.storeAt, Instr.sureAddr, storeVar, sizeOf, typeInfo, hq, Value.cells, hs, this, putIn]
theorem putIn_all (C D : Array Value) (h : C.size = D.size) : putIn C 0 D.toList = D := by
  unfold putIn
  rw [List.take_zero, List.nil_append, List.drop_eq_nil_of_le (by simp; omega)]
  simp
theorem putIn_size (C : Array Value) (off : Nat) (D : List Value) (h : off + D.length ≤ C.size) : (putIn C off D).size = C.size := by
  unfold putIn; simp; omega
theorem Blk.row {w : World} {g T : Nat} {C : Array Value} (h : Blk w g C T) (D : Array Value) : Blk (w.setRow g D) g D T := setRow_heap w g C D T (0, 0) h
theorem Blk.rowO {w : World} {g b T : Nat} {C : Array Value} (h : Blk w g C T) (hn : g ≠ b) (D : Array Value) : Blk (w.setRow b D) g C T := (setRow_other w b g D hn).trans h
theorem KeepBut.row (w : World) (g : Nat) (D : Array Value) : KeepBut (· = g) w (w.setRow g D) := ⟨rfl, rfl, rfl, by simp, fun k _ hk => setRow_other w g k D hk⟩
theorem KeepBut.ext {S : Nat → Prop} {w w' : World} (h : Ext w w') : KeepBut S w w' := ⟨h.os, h.tape, h.output, h.size, fun k hk _ => h.block k hk⟩
theorem Ext.of_but {S : Nat → Prop} {w0 w w' : World} (h : Ext w0 w) (hk : KeepBut S w w') (hS : ∀ k, S k → w0.heap.size ≤ k) : Ext w0 w' :=
  ⟨hk.os.trans h.os, hk.tape.trans h.tape, hk.output.trans h.output, Nat.le_trans h.size hk.size, fun k hk' => (hk.block k (Nat.lt_of_lt_of_le hk' h.size) (fun hs => by have := hS k hs; omega)).trans (h.block k hk')⟩

section
variable {P : Program} {w : World} {ops : Array Oper} {rest : List Oper} {o : Oper} {a : Act} {Q : Exit → Act → World → Prop}
theorem wpListIn_of_run {F : Fence} {n : Nat} (hgd : o.guard = none) {v : Value} {w' : World} (hrun : (execOp a.eval o).run P w = .ok (.value v) w') (hnd : ∀ c, o.op ≠ .defer c) (hab : ∀ f, o.about P w a.eval = some f → F.fn f)
    (h : wpListIn F n P ops Q rest (a.put o.dst v) w') : wpListIn F n P ops Q (o :: rest) a w := by
  refine wpListIn_plain hgd fun K hK' => ?_
  unfold Oper.wpIn
  refine ⟨hab, ?_⟩
  rw [Oper.semAt_plain F _ _ hnd, hrun]
  exact hK' _ _ h
/-- A value of many cells into a new block. -/
theorem wl_box (hgd : o.guard = none) {t : TypeId} {x : Operand} {C : Array Value} (ho : o.op = .box t x) (hx : a.eval x = .agg C)
    (h : ∀ w', Blk w' w.heap.size C t → Ext w w' → w'.heap.size = w.heap.size + 1 → wpList P ops Q rest (a.put o.dst (.pointer (some ⟨w.heap.size, 0, none⟩))) w') : wpList P ops Q (o :: rest) a w :=
  wpList_of_run hgd (exec_box w ho hx) (h _ (Blk.new _ _ _) (Ext.alloc _ _) (by simp))
theorem wl_alloc (hgd : o.guard = none) {t : TypeId} {C : Array Value} (ho : o.op = .alloc t) (hz : (P.info? t).bind (·.zero) = some (.agg C))
    (h : ∀ w', Blk w' w.heap.size C t → Ext w w' → w'.heap.size = w.heap.size + 1 → wpList P ops Q rest (a.put o.dst (.pointer (some ⟨w.heap.size, 0, none⟩))) w') : wpList P ops Q (o :: rest) a w :=
  wpList_of_run hgd (exec_alloc w ho hz) (h _ (Blk.new _ _ _) (Ext.alloc _ _) (by simp))
theorem wl_load (hgd : o.guard = none) {t : TypeId} {n : Nat} (hT : RowT P t n) {x : Operand} {g T : Nat} {C : Array Value} (ho : o.op = .load t x) (hx : a.eval x = .pointer (some ⟨g, 0, none⟩)) (hB : Blk w g C T) (hn : C.size = n)
    (h : wpList P ops Q rest (a.put o.dst (.agg C)) w) : wpList P ops Q (o :: rest) a w :=
  wpList_of_run hgd (exec_loadW hT ho hx hB hn) h
theorem wl_loadM (hgd : o.guard = none) {t : TypeId} {n : Nat} (hT : RowT P t n) {x : Operand} {g off T : Nat} {C : Array Value} (ho : o.op = .load t x) (hx : a.eval x = .pointer (some ⟨g, off, none⟩)) (hB : Blk w g C T) (L : List Value) (hL : ∀ j v, L[j]? = some v → C[off + j]? = some v) (hn : L.length = n)
    (h : wpList P ops Q rest (a.put o.dst (.agg L.toArray)) w) : wpList P ops Q (o :: rest) a w :=
  wpList_of_run hgd (exec_load hT ho hx hB L hL hn) h
theorem wpList_of_skip {w' : World} (hgd : o.guard = none) (hrun : (execOp a.eval o).run P w = .ok .skip w') (h : wpList P ops Q rest (a.put o.dst undef) w') : wpList P ops Q (o :: rest) a w := by
  refine wpList_plain hgd fun K hK => ?_
  unfold Oper.wp
  rw [hrun]
  exact hK _ _ h
/-- A whole block is stored. -/
theorem wl_store (hgd : o.guard = none) {t : TypeId} {n : Nat} (hT : RowT P t n) {x y : Operand} {g T : Nat} {C D : Array Value} (ho : o.op = .store t x y) (hx : a.eval x = .pointer (some ⟨g, 0, none⟩)) (hy : a.eval y = .agg D) (hB : Blk w g C T) (hn : D.size = n) (hf : C.size = n) (h1 : ∀ v ∈ D.toList, v.oneCell' = true)
    (h : ∀ w', Blk w' g D T → KeepBut (· = g) w w' → w'.heap.size = w.heap.size → wpList P ops Q rest (a.put o.dst undef) w') : wpList P ops Q (o :: rest) a w := by
  refine wpList_of_skip hgd (exec_store hT ho hx hy hB hn (by omega) h1) ?_
  rw [putIn_all C D (by omega)]
  exact h _ (hB.row D) (KeepBut.row _ _ _) (by simp)
/-- Part of a block is stored. -/
theorem wl_storeM (hgd : o.guard = none) {t : TypeId} {n : Nat} (hT : RowT P t n) {x y : Operand} {g off T : Nat} {C D : Array Value} (ho : o.op = .store t x y) (hx : a.eval x = .pointer (some ⟨g, off, none⟩)) (hy : a.eval y = .agg D) (hB : Blk w g C T) (hn : D.size = n) (hf : off + n ≤ C.size) (h1 : ∀ v ∈ D.toList, v.oneCell' = true)
    (h : ∀ w', Blk w' g (putIn C off D.toList) T → KeepBut (· = g) w w' → w'.heap.size = w.heap.size → wpList P ops Q rest (a.put o.dst undef) w') : wpList P ops Q (o :: rest) a w := by
  refine wpList_of_skip hgd (exec_store hT ho hx hy hB hn hf h1) ?_
  exact h _ (hB.row _) (KeepBut.row _ _ _) (by simp)
end
section
variable {F : Fence} {n : Nat} {P : Program} {ops : Array Oper} {Q : Exit → Act → World → Prop} {a : Act} {w : World} {rest : List Oper} {o : Oper}
theorem wlIn_load (hgd : o.guard = none) {t : TypeId} {m : Nat} (hT : RowT P t m) {x : Operand} {g T : Nat} {C : Array Value} (ho : o.op = .load t x) (hx : a.eval x = .pointer (some ⟨g, 0, none⟩)) (hB : Blk w g C T) (hn : C.size = m)
    (h : wpListIn F n P ops Q rest (a.put o.dst (.agg C)) w) : wpListIn F n P ops Q (o :: rest) a w := by
  refine wpListIn_plain hgd fun K hK' => ?_
  unfold Oper.wpIn
  refine ⟨by simp [Oper.about, ho], ?_⟩
  rw [Oper.semAt_plain F _ _ (by rw [ho]; intro c hc'; cases hc'), exec_loadW hT ho hx hB hn]
  exact hK' _ _ h
theorem wlIn_store (hgd : o.guard = none) {t : TypeId} {m : Nat} (hT : RowT P t m) {x y : Operand} {g T : Nat} {C D : Array Value} (ho : o.op = .store t x y) (hx : a.eval x = .pointer (some ⟨g, 0, none⟩)) (hy : a.eval y = .agg D) (hB : Blk w g C T) (hn : D.size = m) (hf : C.size = m) (h1 : ∀ v ∈ D.toList, v.oneCell' = true)
    (h : ∀ w', Blk w' g D T → KeepBut (· = g) w w' → w'.heap.size = w.heap.size → wpListIn F n P ops Q rest (a.put o.dst undef) w') : wpListIn F n P ops Q (o :: rest) a w := by
  refine wpListIn_plain hgd fun K hK' => ?_
  unfold Oper.wpIn
  refine ⟨by simp [Oper.about, ho], ?_⟩
  rw [Oper.semAt_plain F _ _ (by rw [ho]; intro c hc'; cases hc'), exec_store hT ho hx hy hB hn (by omega) h1, putIn_all C D (by omega)]
  exact hK' _ _ (h _ (hB.row D) (KeepBut.row _ _ _) (by simp))
end

/-- A type of one cell. -/
structure OneT (P : Program) (t : TypeId) : Prop where
  d : ∃ d, P.underlying t = some d ∧ d.isRow = false
  s : (P.info? t).map (·.size) = some 1
theorem exec_box1 {P : Program} {r : Operand → Value} {o : Oper} {t : TypeId} {x : Operand} {v : Value} (w : World) (ho : o.op = .box t x) (hx : r x = v) (hv : v.cells = #[v]) :
    (execOp r o).run P w = .ok (.value (.pointer (some ⟨w.heap.size, 0, none⟩))) (w.alloc (.cells #[v] t)) := by
  simp only [execOp, ho, hx, Instr.box, newVar, newRow, hv]
  simp
theorem exec_set {P : Program} {r : Operand → Value} {o : Oper} {t : TypeId} (hT : OneT P t) {x y : Operand} {g j T : Nat} {C : Array Value} {v : Value} {w : World} (ho : o.op = .store t x y) (hx : r x = .pointer (some ⟨g, j, none⟩)) (hy : r y = v) (hv : v.cells = #[v]) (h1 : v.oneCell' = true) (hB : Blk w g C T) (hj : j < C.size) :
    (execOp r o).run P w = .ok .skip (w.setCell ⟨g, j, none⟩ v) := by
  have hc : w.cell? ⟨g, j, none⟩ = some C[j] := by rw [hB.cell]; simp [hj]
  have hs := run_store P w ⟨g, j, none⟩ v .plain h1
  rw [hc] at hs
  simp [hB.frozen] at hs
  have ha : (⟨g, j, none⟩ : Addr).add 0 = ⟨g, j, none⟩ := by rw [add_plain]; rfl
  cases hq : P.info? t with
  | none => have := hT.s; simp [hq] at this
  | some i =>
    have hs' : i.size = 1 := by have := hT.s; simp [hq] at this; omega
    simp [execOp, ho, hx, hy, Instr.storeAt, Instr.sureAddr, storeVar, sizeOf, typeInfo, hq, hv, hs', storeCells, ha, hs]
theorem exec_get {P : Program} {r : Operand → Value} {o : Oper} {t : TypeId} (hT : OneT P t) {x : Operand} {g j : Nat} {v : Value} {w : World} (ho : o.op = .load t x) (hx : r x = .pointer (some ⟨g, j, none⟩)) (hc : w.cell? ⟨g, j, none⟩ = some v) :
    (execOp r o).run P w = .ok (.value v) w := by
  obtain ⟨d, hd, hr⟩ := hT.d
  have hagg : (isAgg t).run P w = .ok false w := by
    unfold isAgg
    rw [Sem.run_bind, run_underlying hd w]
    cases d <;> simp_all
  simp [execOp, ho, hx, Instr.loadAt, Instr.sureAddr, loadVar, hagg, hc]
section
variable {P : Program} {w : World} {ops : Array Oper} {rest : List Oper} {o : Oper} {a : Act} {Q : Exit → Act → World → Prop}
theorem wl_box1 (hgd : o.guard = none) {t : TypeId} {x : Operand} {v : Value} (ho : o.op = .box t x) (hx : a.eval x = v) (hv : v.cells = #[v])
    (h : ∀ w', Boxed w' w.heap.size t v → Ext w w' → w'.heap.size = w.heap.size + 1 → wpList P ops Q rest (a.put o.dst (.pointer (some ⟨w.heap.size, 0, none⟩))) w') : wpList P ops Q (o :: rest) a w :=
  wpList_of_run hgd (exec_box1 w ho hx hv) (h _ (Boxed.new _ _ _) (Ext.alloc _ _) (by simp))
theorem wl_set (hgd : o.guard = none) {t : TypeId} (hT : OneT P t) {x y : Operand} {g j T : Nat} {C : Array Value} {v : Value} (ho : o.op = .store t x y) (hx : a.eval x = .pointer (some ⟨g, j, none⟩)) (hy : a.eval y = v) (hv : v.cells = #[v]) (h1 : v.oneCell' = true) (hB : Blk w g C T) (hj : j < C.size)
    (h : ∀ w', Blk w' g (C.setIfInBounds j v) T → KeepBut (· = g) w w' → w'.heap.size = w.heap.size → wpList P ops Q rest (a.put o.dst undef) w') : wpList P ops Q (o :: rest) a w :=
  wpList_of_skip hgd (exec_set hT ho hx hy hv h1 hB hj) (h _ (hB.set j v) ⟨rfl, rfl, rfl, by simp, fun k _ hk => block_other hk j v⟩ (by simp))
end

theorem wlIn_set {F : Fence} {n : Nat} {P : Program} {ops : Array Oper} {Q : Exit → Act → World → Prop} {a : Act} {w : World} {rest : List Oper} {o : Oper} (hgd : o.guard = none) {t : TypeId} (hT : OneT P t) {x y : Operand} {g j T : Nat} {C : Array Value} {v : Value} (ho : o.op = .store t x y) (hx : a.eval x = .pointer (some ⟨g, j, none⟩)) (hy : a.eval y = v) (hv : v.cells = #[v]) (h1 : v.oneCell' = true) (hB : Blk w g C T) (hj : j < C.size)
    (h : ∀ w', Blk w' g (C.setIfInBounds j v) T → KeepBut (· = g) w w' → w'.heap.size = w.heap.size → wpListIn F n P ops Q rest (a.put o.dst undef) w') : wpListIn F n P ops Q (o :: rest) a w := by
  refine wpListIn_plain hgd fun K hK' => ?_
  unfold Oper.wpIn
  refine ⟨by simp [Oper.about, ho], ?_⟩
  rw [Oper.semAt_plain F _ _ (by rw [ho]; intro c hc'; cases hc'), exec_set hT ho hx hy hv h1 hB hj]
  exact hK' _ _ (h _ (hB.set j v) ⟨rfl, rfl, rfl, by simp, fun k _ hk => block_other hk j v⟩ (by simp))
theorem KeepBut.below {S : Nat → Prop} {w w' : World} {B : Nat} (h : KeepBut S w w') (hs : ∀ k, S k → B ≤ k) (hB : B ≤ w.heap.size) : Below B w w' :=
  ⟨h.os, h.tape, h.output, h.size, fun k hk => h.block k (by omega) (fun e => by have := hs k e; omega)⟩

section
variable {F : Fence} {n : Nat} {P : Program} {ops : Array Oper} {Q : Exit → Act → World → Prop} {a : Act} {w : World} {rest : List Oper} {o : Oper}
theorem wlIn_box (hgd : o.guard = none) {t : TypeId} {x : Operand} {C : Array Value} (ho : o.op = .box t x) (hx : a.eval x = .agg C)
    (h : ∀ w', Blk w' w.heap.size C t → Ext w w' → wpListIn F n P ops Q rest (a.put o.dst (.pointer (some ⟨w.heap.size, 0, none⟩))) w') : wpListIn F n P ops Q (o :: rest) a w :=
  wpListIn_of_run hgd (exec_box w ho hx) (by rw [ho]; intro c hc; cases hc) (by simp [Oper.about, ho]) (h _ (Blk.new _ _ _) (Ext.alloc _ _))
theorem wlIn_alloc (hgd : o.guard = none) {t : TypeId} {C : Array Value} (ho : o.op = .alloc t) (hz : (P.info? t).bind (·.zero) = some (.agg C))
    (h : ∀ w', Blk w' w.heap.size C t → Ext w w' → wpListIn F n P ops Q rest (a.put o.dst (.pointer (some ⟨w.heap.size, 0, none⟩))) w') : wpListIn F n P ops Q (o :: rest) a w :=
  wpListIn_of_run hgd (exec_alloc w ho hz) (by rw [ho]; intro c hc; cases hc) (by simp [Oper.about, ho]) (h _ (Blk.new _ _ _) (Ext.alloc _ _))
theorem wlIn_run (hgd : o.guard = none) {v : Value} {w' : World} (hrun : (execOp a.eval o).run P w = .ok (.value v) w') (hnd : ∀ c, o.op ≠ .defer c) (hab : ∀ f, o.about P w a.eval = some f → F.fn f)
    (h : wpListIn F n P ops Q rest (a.put o.dst v) w') : wpListIn F n P ops Q (o :: rest) a w := wpListIn_of_run hgd hrun hnd hab h
end

/-- Words of 32 bits in their cells. -/
def cellsU (L : List Nat) : List Value := L.map fun x => .int .u32 (x : Nat)
def uA (L : List Nat) : Array Value := (cellsU L).toArray
def bA (L : List Nat) : Array Value := (cellsB L).toArray
theorem uA_size (L : List Nat) : (uA L).size = L.length := by simp [uA, cellsU]
theorem bA_size (L : List Nat) : (bA L).size = L.length := by simp [bA, cellsB]
theorem uA_get (L : List Nat) (j : Nat) (h : j < L.length) : (uA L)[j]? = some (.int .u32 (L.getD j 0 : Nat)) := by
  simp [uA, cellsU, List.getD_eq_getElem?_getD, h]
theorem bA_get (L : List Nat) (j : Nat) (h : j < L.length) : (bA L)[j]? = some (.int .u8 (L.getD j 0 : Nat)) := by
  simp [bA, cellsB, List.getD_eq_getElem?_getD, h]
theorem uA_set (L : List Nat) (j x : Nat) : (uA L).setIfInBounds j (.int .u32 (x : Nat)) = uA (L.set j x) := by
  simp [uA, cellsU, List.map_set]
theorem bA_set (L : List Nat) (j x : Nat) : (bA L).setIfInBounds j (.int .u8 (x : Nat)) = bA (L.set j x) := by
  simp [bA, cellsB, List.map_set]
theorem uA_one (L : List Nat) : ∀ v ∈ (uA L).toList, v.oneCell' = true := by
  intro v hv; simp [uA, cellsU] at hv; obtain ⟨x, _, rfl⟩ := hv; rfl
theorem bA_one (L : List Nat) : ∀ v ∈ (bA L).toList, v.oneCell' = true := by
  intro v hv; simp [bA, cellsB] at hv; obtain ⟨x, _, rfl⟩ := hv; rfl
/-- The array's elements, one by one. -/
theorem exec_index {P : Program} {r : Operand → Value} {o : Oper} {t e : TypeId} {n : Nat} {x y : Operand} {C : Array Value} {k : IntKind} {j : Nat} {v : Value} (w : World) (ho : o.op = .index t x y) (hu : P.underlying t = some (.array n e)) (he : ∃ d, P.underlying e = some d ∧ d.isRow = false) (hs : (P.info? e).map (·.size) = some 1)
    (hx : r x = .agg C) (hy : r y = .int k (j : Int)) (hj : j < n) (hv : C[j]? = some v) : (execOp r o).run P w = .ok (.value v) w := by
  obtain ⟨d, hd, hr⟩ := he
  cases hq : P.info? e with
  | none => simp [hq] at hs
  | some i =>
    have hi : i.size = 1 := by simpa [hq] using hs
    have hagg : (isAgg e).run P w = .ok false w := by
      unfold isAgg
      rw [Sem.run_bind, run_underlying hd w]
      cases d <;> simp_all
    have hj' : (j : Int) < n := by omega
    simp [execOp, ho, hx, hy, Instr.index, asIntOf, run_underlying hu, sizeOf, typeInfo, hq, hi, hj', part, hagg, hv]
    intro h; omega
end Go.Proofs.Ytmfciiccomagpaa
