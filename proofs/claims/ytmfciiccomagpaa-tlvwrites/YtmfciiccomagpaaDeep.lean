/- A range over an iterator that itself ranges over another one: what is asked of the iterator, and what the caller gets. No condition of its own. -/
import Derived.Test.YtmfciiccomagpaaBlocks
import Derived.Test.YtmfciiccomagpaaLoops
namespace Go.Proofs.Ytmfciiccomagpaa
open Go Go.RowKit Go.Shelf
set_option linter.unusedVariables false
set_option linter.unusedSimpArgs false

section
variable {P : Program}
/-- All that lies from block B on lies as it lay. -/
structure KeepAbove (B : Nat) (W W' : World) : Prop where
  size : W.heap.size ≤ W'.heap.size
  same : ∀ k, B ≤ k → k < W.heap.size → W'.heap[k]? = W.heap[k]?
theorem KeepAbove.trans {B : Nat} {a b c : World} (h : KeepAbove B a b) (k : KeepAbove B b c) : KeepAbove B a c :=
  ⟨Nat.le_trans h.size k.size, fun i hB hi => (k.same i hB (Nat.lt_of_lt_of_le hi h.size)).trans (h.same i hB hi)⟩
theorem KeepAbove.refl (B : Nat) (W : World) : KeepAbove B W W := ⟨Nat.le_refl _, fun _ _ _ => rfl⟩
theorem KeepAbove.mono {B B' : Nat} {W W' : World} (h : KeepAbove B W W') (hB : B ≤ B') : KeepAbove B' W W' := ⟨h.size, fun k hk hlt => h.same k (by omega) hlt⟩
theorem KeepAbove.put (W : World) {B l : Nat} (o : Obj) (h : l < B) : KeepAbove B W (W.putObj l o) := ⟨by simp, fun k hB _ => World.putObj_heap_other (by omega)⟩
theorem KeepAbove.from {B : Nat} {W W' : World} (h : KeepAbove B W W') : KeepsFrom B W W' := ⟨h.size, fun k o hB hk _ => (h.same k hB (Array.getElem?_eq_some_iff.1 hk).1).trans hk⟩
/-- How a round may be left. -/
def deepPost {α : Type} (B : Nat) (Kp : World → World → Prop) (I : List α → World → Prop) (Ix : Code → List α → World → Prop) (xs : List α) (W : World) : Exit → Act → World → Prop
  | .normal, _, W' => KeepAbove B W W' ∧ Kp W W' ∧ I xs W'
  | .ret, _, W' => KeepAbove B W W' ∧ Ix .ret xs W'
  | .exit id, _, W' => KeepAbove B W W' ∧ Ix (.exit id) xs W'
  | .goto t, _, W' => KeepAbove B W W' ∧ Ix (.goto t) xs W'
  | .panic _, _, _ => False
  | .outgrown, _, _ => False

/-- An iterator that may lay loops of its own: the caller's word abides whatever is no cells and is new since the iterator began; a round keeps all that is. -/
def SeqDeep {α : Type} (P : Program) (g : Nat) (lb : Array Value) (encs : α → Array Value) (Kp : World → World → Prop) (S Sp : List α → Prop) (N : Nat) (w : World) : Prop :=
  ∀ (n l : Nat) (J Jx : List α → World → Prop) (W : World), 5 ≤ n → Below w.heap.size w W → OwnFrom W.heap.size J → OwnFrom W.heap.size Jx →
    (∀ pre x W1, J pre W1 → pre.length < N → YieldAt Fence.wide n P l (encs x) W1 fun e W' => KeepAbove W.heap.size W1 W' ∧
      ((e = .returned (.bool true) ∧ J (pre ++ [x]) W' ∧ Kp W1 W') ∨ (e = .returned (.bool false) ∧ Jx (pre ++ [x]) W'))) →
    J [] W → CallsIn Fence.wide n P g (#[.func (.yield l) #[] #[]] ++ lb) W fun e W' => (∃ v, e = .returned v) ∧ ((∃ xs, S xs ∧ J xs W') ∨ (∃ pre, Sp pre ∧ Jx pre W'))

theorem round_any {l m m' : Nat} {f : FuncId} {tmps : Array Value} {assign body : Code} {w : World} {R : Ending → World → Prop} (h : RoundIn Fence.wide m P l f tmps assign body w R) : RoundIn Fence.wide m' P l f tmps assign body w R :=
  ⟨h.1, fun c cs _ => h.2 c cs (room_wide _)⟩
theorem yield_any {l m m' : Nat} {args : Array Value} {w : World} {R : Ending → World → Prop} (h : YieldAt Fence.wide m P l args w R) : YieldAt Fence.wide m' P l args w R := by
  obtain ⟨fn, tmps, assign, body, hy, hR⟩ := h
  exact ⟨fn, tmps, assign, body, hy, round_any hR⟩

/-- The books of a loop at block B: the block of deferred calls, and the record behind it. -/
structure Books (B : Nat) (r : Loop) (W : World) : Prop where
  d : W.heap[B]? = some (.deferred (some []))
  l : W.heap[B + 1]? = some (.loop r)
theorem Books.kept {B : Nat} {r : Loop} {W W' : World} {row : Option Nat} (h : Books B r W) (hg : W.grownBy W' row) (hr : ∀ k, row = some k → B + 2 ≤ k) : Books B r W' :=
  ⟨(hg.block B (Array.getElem?_eq_some_iff.1 h.d).1 (fun e => by have := hr B e.symm; omega)).trans h.d, (hg.block (B + 1) (Array.getElem?_eq_some_iff.1 h.l).1 (fun e => by have := hr _ e.symm; omega)).trans h.l⟩
theorem Books.put {B : Nat} {r r' : Loop} {W : World} (h : Books B r W) : Books B r' (W.putObj (B + 1) (.loop r')) :=
  ⟨(World.putObj_heap_other (by omega)).trans h.d, World.putObj_heap_same (Array.getElem?_eq_some_iff.1 h.l).1⟩
theorem Books.others {B : Nat} {r : Loop} {W W' : World} (h : Books B r W) (hk : KeepAbove B W W') : Books B r W' := ⟨(hk.same _ (by omega) (Array.getElem?_eq_some_iff.1 h.d).1).trans h.d, (hk.same _ (by omega) (Array.getElem?_eq_some_iff.1 h.l).1).trans h.l⟩

theorem wpIn_range_deep {α : Type} {n : Nat} {g : Operand} {ps : Array Tmp} {assign body : Code} {Q : Exit → Act → World → Prop} {a : Act} {w : World} (hn : 6 ≤ n)
    {gf : Nat} {lb : Array Value} (hg : a.eval g = .func (.func gf) #[] lb) (eg : ∀ args w, (callFunc gf args).run P w = .ok (.enter gf args) w)
    {encs : α → Array Value} {Kp : World → World → Prop} {S Sp : List α → Prop} {N : Nat} (hseq : SeqDeep P gf lb encs Kp S Sp N w)
    (hKt : ∀ {A B C : World}, Kp A B → Kp B C → Kp A C) (hKb : ∀ (W : World) (l : Nat) (o : Obj), w.heap.size ≤ l → Kp W (W.putObj l o)) (hps : ∀ x, (encs x).size = ps.size)
    (I : List α → World → Prop) (Ix : Code → List α → World → Prop) (hI : OwnFrom w.heap.size I) (hIx : ∀ c, OwnFrom w.heap.size (Ix c)) (h0 : I [] w) (a₁ : α → Act)
    (hassign : ∀ (l : Nat) (x : α) (W : World) (K : Act → World → Prop), K (a₁ x) W →
      assign.wpIn (Fence.wide.inRound l) (n - 1) P (Exit.then K (fun _ _ _ => False)) { tmps := (ps.zip (encs x)).foldl (fun t (p, v) => t.setIfInBounds p v) a.tmps, defers := [] } W)
    (hbody : ∀ (l : Nat) (pre : List α) (x : α) (W : World), I pre W → pre.length < N → body.wpIn (Fence.wide.inRound l) (n - 1) P (deepPost w.heap.size Kp I Ix (pre ++ [x]) W) (a₁ x) W)
    (hdone : ∀ (D : Nat) (xs : List α) (W : World), w.heap.size ≤ D → S xs → I xs W → W.heap[D]? = some (.deferred (some [])) → Q .normal { a with defers := { target := .collected D, args := #[] } :: a.defers } W)
    (hstop : ∀ (D : Nat) (c : Code) (pre : List α) (W : World), w.heap.size ≤ D → Sp pre → Ix c pre W → W.heap[D]? = some (.deferred (some [])) → c.wpIn Fence.wide n P Q { a with defers := { target := .collected D, args := #[] } :: a.defers } W) :
    (Code.rangeFunc g ps assign body).wpIn Fence.wide n P Q a w := by
  refine wpIn_rangeFunc fun fn hfn => ?_
  -- the record, by its state and its pending jump
  let rec_ : LoopState → Option Code → Loop := fun st pe => { state := st, pending := pe, fn := fn, tmps := a.tmps, params := ps, assign := assign, body := body, defers := w.heap.size }
  have hb1 : Books w.heap.size (rec_ .ready none) ((w.alloc (.deferred (some []))).alloc (.loop (rec_ .ready none))) :=
    ⟨two_b0 (Ext.refl _), two_b1 (Ext.refl _)⟩
  have hsz : ((w.alloc (.deferred (some []))).alloc (.loop (rec_ .ready none))).heap.size = w.heap.size + 2 := by simp
  have hE1 : Ext w ((w.alloc (.deferred (some []))).alloc (.loop (rec_ .ready none))) := (Ext.alloc _ _).trans (Ext.alloc _ _)
  have hI1 : I [] ((w.alloc (.deferred (some []))).alloc (.loop (rec_ .ready none))) := hI.alloc _ (hI.alloc _ h0)
  have hent := run_enterLoop_outer (P := P) (w := w) fn a.tmps ps assign body
  change _ = Result.ok (w.heap.size + 1, _) ((w.alloc (.deferred (some []))).alloc (.loop (rec_ .ready none))) at hent
  generalize (w.alloc (.deferred (some []))).alloc (.loop (rec_ .ready none)) = W1 at *
  refine ⟨w.heap.size + 1, [{ target := .collected w.heap.size, args := #[] }], W1, { target := .fn (.func gf) lb, args := #[.func (.yield (w.heap.size + 1)) #[] #[]] }, W1, gf, #[.func (.yield (w.heap.size + 1)) #[] #[]] ++ lb, W1, hent, ?_, fun _ _ => trivial, ?_, (fun _ => by omega), ?_⟩
  · simp only [resolve, rangeCall, hg]
    simp [go_sem]
  · simp [invoke, go_sem, eg]
  -- what lies between two rounds, and behind the last one of a loop that was left
  have hfar : ∀ {A : World} {row : Option Nat}, (∀ r, row = some r → W1.heap.size ≤ r ∧ ∃ o : Obj, A.heap[r]? = some o ∧ o.isCells = false) → (∀ r, row = some r → w.heap.size ≤ r ∧ ∃ o : Obj, A.heap[r]? = some o ∧ o.isCells = false) := fun hr r e => ⟨by have := (hr r e).1; omega, (hr r e).2⟩
  have hfar2 : ∀ {A : World} {row : Option Nat}, (∀ r, row = some r → W1.heap.size ≤ r ∧ ∃ o : Obj, A.heap[r]? = some o ∧ o.isCells = false) → ∀ r, row = some r → w.heap.size + 2 ≤ r := fun hr r e => by have := (hr r e).1; omega
  refine (hseq (n - 1) (w.heap.size + 1) (fun pre W => I pre W ∧ Books w.heap.size (rec_ .ready none) W) (fun pre W => ∃ c, Ix c pre W ∧ Books w.heap.size (rec_ .done (some c)) W) W1 (by omega) hE1
    (fun s A B row hs hg' hr => ⟨hI s A B row hs.1 hg' (hfar hr), hs.2.kept hg' (hfar2 hr)⟩)
    (fun s A B row hs hg' hr => by obtain ⟨c, h1, h2⟩ := hs; exact ⟨c, hIx c s A B row h1 hg' (hfar hr), h2.kept hg' (hfar2 hr)⟩) ?_ ⟨hI1, hb1⟩).mono ?_
  · -- a round
    rintro pre x W ⟨hi, hbk⟩ hlen
    refine ⟨fn, _, assign, body, run_yield (P := P) (args := encs x) hbk.l (hps x), roundIn_of_wpIn hfn (hassign _ x W _ ⟨_, run_beginRound hbk.l rfl, ?_⟩)⟩
    have hbusy : Books w.heap.size (rec_ .busy none) (W.putObj (w.heap.size + 1) (.loop (rec_ .busy none))) := hbk.put
    refine wpIn_mono (hbody _ pre x _ (hI.putObj _ hi (by omega) hbk.l rfl) hlen) ?_
    intro e a3 W3 hp
    -- from the round's start to its end
    have hend : ∀ jump, KeepAbove w.heap.size (W.putObj (w.heap.size + 1) (.loop (rec_ .busy none))) W3 → Books w.heap.size (rec_ .busy none) W3 ∧ KeepAbove W1.heap.size W (W3.putObj (w.heap.size + 1) (.loop (rec_ (if jump.isNone then .ready else .done) jump))) := fun jump hk =>
      ⟨hbusy.others hk, ((KeepAbove.put W _ (by omega)).trans (hk.mono (by omega))).trans (KeepAbove.put W3 _ (by omega))⟩
    cases e with
    | normal =>
      obtain ⟨h1, h2, h3⟩ := hp
      obtain ⟨h4, h5⟩ := hend none h1
      exact ⟨_, _, run_endRound none h4.l, h5, .inl ⟨rfl, ⟨hI.putObj _ h3 (by omega) h4.l rfl, h4.put⟩, hKt (hKt (hKb _ _ _ (by omega)) h2) (hKb _ _ _ (by omega))⟩⟩
    | ret =>
      obtain ⟨h1, h3⟩ := hp
      obtain ⟨h4, h5⟩ := hend (some .ret) h1
      exact ⟨_, _, run_endRound (some .ret) h4.l, h5, .inr ⟨rfl, .ret, (hIx _).putObj _ h3 (by omega) h4.l rfl, h4.put⟩⟩
    | exit id =>
      obtain ⟨h1, h3⟩ := hp
      obtain ⟨h4, h5⟩ := hend (some (.exit id)) h1
      exact ⟨_, _, run_endRound (some (.exit id)) h4.l, h5, .inr ⟨rfl, .exit id, (hIx _).putObj _ h3 (by omega) h4.l rfl, h4.put⟩⟩
    | goto t =>
      obtain ⟨h1, h3⟩ := hp
      obtain ⟨h4, h5⟩ := hend (some (.goto t)) h1
      exact ⟨_, _, run_endRound (some (.goto t)) h4.l, h5, .inr ⟨rfl, .goto t, (hIx _).putObj _ h3 (by omega) h4.l rfl, h4.put⟩⟩
    | panic ch => exact hp.elim
    | outgrown => exact hp.elim
  · rintro e W2 ⟨⟨v, rfl⟩, (⟨xs, hS, hi, hbk⟩ | ⟨pre, hSp, c, hi, hbk⟩)⟩
    · exact ⟨none, _, run_endLoop hbk.l (by simp [rec_]), hdone _ xs _ (Nat.le_refl _) hS (hI.putObj _ hi (by omega) hbk.l rfl) (World.putObj_heap_other (by omega) |>.trans hbk.d)⟩
    · exact ⟨some c, _, run_endLoop hbk.l (by simp [rec_]), hstop _ c pre _ (Nat.le_refl _) hSp ((hIx c).putObj _ hi (by omega) hbk.l rfl) (World.putObj_heap_other (by omega) |>.trans hbk.d)⟩
end

/-- What an iterator leans on: these blocks lie as they lay. -/
def KpS (S : Nat → Prop) (W W' : World) : Prop := ∀ k, S k → W'.heap[k]? = W.heap[k]?
theorem KpS.t {S : Nat → Prop} {A B C : World} (h : KpS S A B) (k : KpS S B C) : KpS S A C := fun i hi => (k i hi).trans (h i hi)
theorem KpS.refl (S : Nat → Prop) (W : World) : KpS S W W := fun _ _ => rfl

/-- The first k of c places. -/
def fins (c k : Nat) : List (Fin c) := (List.finRange c).take k
theorem fins_succ {c k : Nat} (h : k < c) : fins c (k + 1) = fins c k ++ [⟨k, h⟩] := by
  unfold fins
  rw [List.take_succ_eq_append_getElem (by simpa using h)]
  simp
theorem fins_len {c k : Nat} (h : k ≤ c) : (fins c k).length = k := by unfold fins; simp; omega
theorem fins_all (c : Nat) : fins c c = List.finRange c := by unfold fins; rw [List.take_of_length_le (by simp)]
theorem fins_pre (c k : Nat) : fins c k <+: List.finRange c := List.take_prefix _ _

/-- A loop that runs out or is left by a break, and nothing is assigned ahead of the body. -/
theorem wpIn_deep_merge {P : Program} {α : Type} {n : Nat} {g : Operand} {ps : Array Tmp} {body : Code} {Q : Exit → Act → World → Prop} {a : Act} {w : World} (hn : 6 ≤ n)
    {gf : Nat} {lb : Array Value} (hg : a.eval g = .func (.func gf) #[] lb) (eg : ∀ args w, (callFunc gf args).run P w = .ok (.enter gf args) w)
    {encs : α → Array Value} {Kp : World → World → Prop} {S Sp : List α → Prop} {N : Nat} (hseq : SeqDeep P gf lb encs Kp S Sp N w)
    (hKt : ∀ {A B C : World}, Kp A B → Kp B C → Kp A C) (hKb : ∀ (W : World) (l : Nat) (o : Obj), w.heap.size ≤ l → Kp W (W.putObj l o)) (hps : ∀ x, (encs x).size = ps.size)
    (id0 : Nat) (I Ix : List α → World → Prop) (hI : OwnFrom w.heap.size I) (hIx : OwnFrom w.heap.size Ix) (h0 : I [] w) (M : World → Prop)
    (hbody : ∀ (l : Nat) (pre : List α) (x : α) (W : World), I pre W → pre.length < N → body.wpIn (Fence.wide.inRound l) (n - 1) P (deepPost w.heap.size Kp I (fun c p W' => c = .exit id0 ∧ Ix p W') (pre ++ [x]) W) { tmps := (ps.zip (encs x)).foldl (fun t (p, v) => t.setIfInBounds p v) a.tmps, defers := [] } W)
    (hM1 : ∀ xs W, S xs → I xs W → M W) (hM2 : ∀ pre W, Sp pre → Ix pre W → M W) (hQx : ∀ a' W, Q .normal a' W → Q (.exit id0) a' W)
    (hfin : ∀ (D : Nat) (W : World), w.heap.size ≤ D → M W → W.heap[D]? = some (.deferred (some [])) → Q .normal { a with defers := { target := .collected D, args := #[] } :: a.defers } W) :
    (Code.rangeFunc g ps .skip body).wpIn Fence.wide n P Q a w :=
  wpIn_range_deep hn hg eg hseq (fun h k => hKt h k) hKb hps I (fun c p W => c = .exit id0 ∧ Ix p W) hI (fun c s A B row hs hg' hr => ⟨hs.1, hIx s A B row hs.2 hg' hr⟩) h0 _
    (fun _ _ _ _ hK => wpIn_skip hK) hbody (fun D xs W hD hS hI' hK => hfin D W hD (hM1 xs W hS hI') hK)
    (fun D c pre W hD hSp hI' hK => by
      obtain ⟨rfl, hI'⟩ := hI'
      exact wpIn_exit (hQx _ _ (hfin D W hD (hM2 pre W hSp hI') hK)))
theorem round_in {P : Program} {y l m m' : Nat} {f : FuncId} {tmps : Array Value} {assign body : Code} {w : World} {R : Ending → World → Prop} (h : RoundIn Fence.wide m P l f tmps assign body w R) : RoundIn (Fence.wide.inRound y) m' P l f tmps assign body w R :=
  ⟨h.1, fun c cs _ => h.2 c cs (room_wide _)⟩
end Go.Proofs.Ytmfciiccomagpaa
