/- A range over an iterator that has memory of its own: what is asked of the iterator, and what the caller gets. No condition of its own. -/
import Derived.Test.YtaklbnaaoebknaaDoorDeep
namespace Go.Proofs.YtaklbnaaoebknaaDoor
open Go Go.RowKit Go.Shelf
set_option linter.unusedVariables false
set_option linter.unusedSimpArgs false

section
variable {P : Program}
/-- What does not hang on anything from block B on. -/
def FreeFrom {α : Type} (B : Nat) (I : List α → World → Prop) : Prop := ∀ s A C, I s A → Below B A C → I s C
theorem Below.putObj (W : World) {B l : Nat} (o : Obj) (h : B ≤ l) : Below B W (W.putObj l o) := ⟨rfl, rfl, rfl, by simp, fun k hk => World.putObj_heap_other (by omega)⟩
theorem FreeFrom.put {α : Type} {B l : Nat} {I : List α → World → Prop} (h : FreeFrom B I) {s : List α} {W : World} {o : Obj} (hi : I s W) (hl : B ≤ l) : I s (W.putObj l o) := h _ _ _ hi (Below.putObj W o hl)
theorem Books.under {B C : Nat} {r : Loop} {W W' : World} (h : Books B r W) (hb : Below C W W') (hC : B + 2 ≤ C) : Books B r W' := ⟨(hb.block _ (by omega)).trans h.d, (hb.block _ (by omega)).trans h.l⟩
/-- An iterator that may write memory of its own. -/
def SeqFree {α : Type} (P : Program) (g : Nat) (lb : Array Value) (encs : α → Array Value) (Kp : World → World → Prop) (S Sp : List α → Prop) (N : Nat) (w : World) : Prop :=
  ∀ (n l : Nat) (J Jx : List α → World → Prop) (W : World), 5 ≤ n → Below w.heap.size w W → FreeFrom W.heap.size J → FreeFrom W.heap.size Jx →
    (∀ pre x W1, J pre W1 → pre.length < N → YieldAt Fence.wide n P l (encs x) W1 fun e W' => KeepAbove W.heap.size W1 W' ∧
      ((e = .returned (.bool true) ∧ J (pre ++ [x]) W' ∧ Kp W1 W') ∨ (e = .returned (.bool false) ∧ Jx (pre ++ [x]) W'))) →
    J [] W → CallsIn Fence.wide n P g (#[.func (.yield l) #[] #[]] ++ lb) W fun e W' => (∃ v, e = .returned v) ∧ ((∃ xs, S xs ∧ J xs W') ∨ (∃ pre, Sp pre ∧ Jx pre W'))

theorem wpIn_range_free {α : Type} {n : Nat} {g : Operand} {ps : Array Tmp} {assign body : Code} {Q : Exit → Act → World → Prop} {a : Act} {w : World} (hn : 6 ≤ n)
    {gf : Nat} {lb : Array Value} (hg : a.eval g = .func (.func gf) #[] lb) (eg : ∀ args w, (callFunc gf args).run P w = .ok (.enter gf args) w)
    {encs : α → Array Value} {Kp : World → World → Prop} {S Sp : List α → Prop} {N : Nat} (hseq : SeqFree P gf lb encs Kp S Sp N w)
    (hKt : ∀ {A B C : World}, Kp A B → Kp B C → Kp A C) (hKb : ∀ (W : World) (l : Nat) (o : Obj), w.heap.size ≤ l → Kp W (W.putObj l o)) (hps : ∀ x, (encs x).size = ps.size)
    (I : List α → World → Prop) (Ix : Code → List α → World → Prop) (hI : FreeFrom w.heap.size I) (hIx : ∀ c, FreeFrom w.heap.size (Ix c)) (h0 : I [] w) (a₁ : α → Act)
    (hassign : ∀ (l : Nat) (x : α) (W : World) (K : Act → World → Prop), K (a₁ x) W →
      assign.wpIn (Fence.wide.inRound l) (n - 1) P (Exit.then K (fun _ _ _ => False)) { tmps := (ps.zip (encs x)).foldl (fun t (p, v) => t.setIfInBounds p v) a.tmps, defers := [] } W)
    (hbody : ∀ (l : Nat) (pre : List α) (x : α) (W : World), I pre W → pre.length < N → body.wpIn (Fence.wide.inRound l) (n - 1) P (deepPost w.heap.size Kp I Ix (pre ++ [x]) W) (a₁ x) W)
    (hdone : ∀ (D : Nat) (xs : List α) (W : World), w.heap.size ≤ D → S xs → I xs W → W.heap[D]? = some (.deferred (some [])) → Q .normal { a with defers := { target := .collected D, args := #[] } :: a.defers } W)
    (hstop : ∀ (D : Nat) (c : Code) (pre : List α) (W : World), w.heap.size ≤ D → Sp pre → Ix c pre W → W.heap[D]? = some (.deferred (some [])) → c.wpIn Fence.wide n P Q { a with defers := { target := .collected D, args := #[] } :: a.defers } W) :
    (Code.rangeFunc g ps assign body).wpIn Fence.wide n P Q a w := by
  refine wpIn_rangeFunc fun fn hfn => ?_
  -- the record, by its state and its pending jump
  let rec_ : LoopState → Option Code → Loop := fun st pe => { state := st, pending := pe, fn := fn, tmps := a.tmps, params := ps, assign := assign, body := body, defers := w.heap.size }
  have hb1 : Books w.heap.size (rec_ .ready none) ((w.alloc (.deferred (some []))).alloc (.loop (rec_ .ready none))) :=
    ⟨two_b0 (Ext.refl _), two_b1 (Ext.refl _)⟩
  have hsz : ((w.alloc (.deferred (some []))).alloc (.loop (rec_ .ready none))).heap.size = w.heap.size + 2 := by simp
  have hE1 : Ext w ((w.alloc (.deferred (some []))).alloc (.loop (rec_ .ready none))) := (Ext.alloc _ _).trans (Ext.alloc _ _)
  have hI1 : I [] ((w.alloc (.deferred (some []))).alloc (.loop (rec_ .ready none))) := hI _ _ _ h0 hE1
  have hent := run_enterLoop_outer (P := P) (w := w) fn a.tmps ps assign body
  change _ = Result.ok (w.heap.size + 1, _) ((w.alloc (.deferred (some []))).alloc (.loop (rec_ .ready none))) at hent
  generalize (w.alloc (.deferred (some []))).alloc (.loop (rec_ .ready none)) = W1 at *
  refine ⟨w.heap.size + 1, [{ target := .collected w.heap.size, args := #[] }], W1, { target := .fn (.func gf) lb, args := #[.func (.yield (w.heap.size + 1)) #[] #[]] }, W1, gf, #[.func (.yield (w.heap.size + 1)) #[] #[]] ++ lb, W1, hent, ?_, fun _ _ => trivial, ?_, (fun _ => by omega), ?_⟩
  · simp only [resolve, rangeCall, hg]
    simp [go_sem]
  · simp [invoke, go_sem, eg]
  refine (hseq (n - 1) (w.heap.size + 1) (fun pre W => I pre W ∧ Books w.heap.size (rec_ .ready none) W) (fun pre W => ∃ c, Ix c pre W ∧ Books w.heap.size (rec_ .done (some c)) W) W1 (by omega) hE1
    (fun s A B hs hb => ⟨hI s A B hs.1 (hb.mono (by omega)), hs.2.under hb (by omega)⟩)
    (fun s A B hs hb => by obtain ⟨c, h1, h2⟩ := hs; exact ⟨c, hIx c s A B h1 (hb.mono (by omega)), h2.under hb (by omega)⟩) ?_ ⟨hI1, hb1⟩).mono ?_
  · -- a round
    rintro pre x W ⟨hi, hbk⟩ hlen
    refine ⟨fn, _, assign, body, run_yield (P := P) (args := encs x) hbk.l (hps x), roundIn_of_wpIn hfn (hassign _ x W _ ⟨_, run_beginRound hbk.l rfl, ?_⟩)⟩
    have hbusy : Books w.heap.size (rec_ .busy none) (W.putObj (w.heap.size + 1) (.loop (rec_ .busy none))) := hbk.put
    refine wpIn_mono (hbody _ pre x _ (hI.put hi (by omega)) hlen) ?_
    intro e a3 W3 hp
    -- from the round's start to its end
    have hend : ∀ jump, KeepAbove w.heap.size (W.putObj (w.heap.size + 1) (.loop (rec_ .busy none))) W3 → Books w.heap.size (rec_ .busy none) W3 ∧ KeepAbove W1.heap.size W (W3.putObj (w.heap.size + 1) (.loop (rec_ (if jump.isNone then .ready else .done) jump))) := fun jump hk =>
      ⟨hbusy.others hk, ((KeepAbove.put W _ (by omega)).trans (hk.mono (by omega))).trans (KeepAbove.put W3 _ (by omega))⟩
    cases e with
    | normal =>
      obtain ⟨h1, h2, h3⟩ := hp
      obtain ⟨h4, h5⟩ := hend none h1
      exact ⟨_, _, run_endRound none h4.l, h5, .inl ⟨rfl, ⟨hI.put h3 (by omega), h4.put⟩, hKt (hKt (hKb _ _ _ (by omega)) h2) (hKb _ _ _ (by omega))⟩⟩
    | ret =>
      obtain ⟨h1, h3⟩ := hp
      obtain ⟨h4, h5⟩ := hend (some .ret) h1
      exact ⟨_, _, run_endRound (some .ret) h4.l, h5, .inr ⟨rfl, .ret, (hIx _).put h3 (by omega), h4.put⟩⟩
    | exit id =>
      obtain ⟨h1, h3⟩ := hp
      obtain ⟨h4, h5⟩ := hend (some (.exit id)) h1
      exact ⟨_, _, run_endRound (some (.exit id)) h4.l, h5, .inr ⟨rfl, .exit id, (hIx _).put h3 (by omega), h4.put⟩⟩
    | goto t =>
      obtain ⟨h1, h3⟩ := hp
      obtain ⟨h4, h5⟩ := hend (some (.goto t)) h1
      exact ⟨_, _, run_endRound (some (.goto t)) h4.l, h5, .inr ⟨rfl, .goto t, (hIx _).put h3 (by omega), h4.put⟩⟩
    | panic ch => exact hp.elim
    | outgrown => exact hp.elim
  · rintro e W2 ⟨⟨v, rfl⟩, (⟨xs, hS, hi, hbk⟩ | ⟨pre, hSp, c, hi, hbk⟩)⟩
    · exact ⟨none, _, run_endLoop hbk.l (by simp [rec_]), hdone _ xs _ (Nat.le_refl _) hS (hI.put hi (by omega)) (World.putObj_heap_other (by omega) |>.trans hbk.d)⟩
    · exact ⟨some c, _, run_endLoop hbk.l (by simp [rec_]), hstop _ c pre _ (Nat.le_refl _) hSp ((hIx c).put hi (by omega)) (World.putObj_heap_other (by omega) |>.trans hbk.d)⟩
end
end Go.Proofs.YtaklbnaaoebknaaDoor
