/- What each act does, to a row and to the document's own, in one word each. No condition of its own. -/
import Derived.Test.YtbongjdflnefmaaStands
namespace Go.Proofs.Ytbongjdflnefmaa
open Go.RowKit
set_option linter.unusedVariables false
set_option linter.unusedSimpArgs false
set_option maxRecDepth 100000

def pushN (f m : Int) (l : List Int) : Int := if (l.length : Int) < m then Ser.step f l.length else 0
def pushE (m : Int) (l : List Int) : Int := if (l.length : Int) < m then 0 else 3
def pushL (m : Int) (l : List Int) (x : Int) : List Int := if (l.length : Int) < m then l ++ [x] else l
def popX (l : List Int) : Int := l.headD 0
def popE (l : List Int) : Int := if l.length = 0 then 4 else 0
def popF (f : Int) (l : List Int) : Int := if l.length = 0 then f else Ser.step f 1
def setE (f n : Int) (l : List Int) : Int := if Ser.far f n < l.length then 0 else 4
def setL (f n : Int) (l : List Int) (x : Int) : List Int := if Ser.far f n < l.length then l.set (Ser.far f n).toNat x else l
def cutE (f n : Int) (l : List Int) : Int := if Ser.far f n ≤ l.length then 0 else 1
def cutF (f n : Int) (l : List Int) : Int := if Ser.far f n ≤ l.length then n else f
def cutL (f n : Int) (l : List Int) : List Int := if Ser.far f n ≤ l.length then l.drop (Ser.far f n).toNat else l
def cutO (f n : Int) (l : List Int) : List Int := if Ser.far f n ≤ l.length then l.take (Ser.far f n).toNat else []
theorem errOf_zero : errOf 0 = .nilIface := rfl
theorem errOf_ne {n : Int} (h : n ≠ 0) : errOf n = .iface 33 (.int .i64 n) := if_neg h

section
variable {w : World} {b : Nat} {v u : Value} {f m n x : Int} {l : List Int}
theorem far_nat (f n : Int) : ∃ k : Nat, Ser.far f n = k := ⟨(Ser.far f n).toNat, by have := Ser.far_lt f n; omega⟩
theorem push_u (h : RowAt w b v f m l) (hx : W64 x) : Calls Try.prog 13 #[rowP b, .int .i64 x] w fun e w' => ∃ v', e = .returned (.tuple #[.int .u32 (pushN f m l), errOf (pushE m l)]) ∧ RowAt w' b v' f m (pushL m l x) ∧ Moves b v v' w w' := by
  unfold pushN pushE pushL
  by_cases hr : (l.length : Int) < m
  · rw [if_pos hr, if_pos hr, if_pos hr]
    refine (push_any h x hx hr).mono ?_
    rintro e w' ⟨rfl, v', h1, h2⟩
    exact ⟨v', rfl, h1, h2⟩
  · rw [if_neg hr, if_neg hr, if_neg hr]
    refine (push_full h x hx (by have := h.hl; omega)).mono ?_
    rintro e w' ⟨rfl, q, rfl⟩
    exact ⟨v, rfl, h.ext (Ext.drewN _ _), Moves.of_ext (Ext.drewN _ _)⟩
theorem rpush_u (hf : Of 4294967296 f) (hm : W64 m) (hx : W64 x) (hu : NumsAt .i64 w u l) (hl : l.length ≤ 1024) : Calls Try.prog 30 #[refV f m u, .int .i64 x] w fun e w' => ∃ a k c, e = .returned (.tuple #[refV f m (.slice a k c), .int .u32 (pushN f m l), .int .i64 (pushE m l)]) ∧ NumsAt .i64 w' (.slice a k c) (pushL m l x) ∧ Came w w' u (.slice a k c) ∧ Ext w w' := by
  unfold pushN pushE pushL
  by_cases hr : (l.length : Int) < m
  · rw [if_pos hr, if_pos hr, if_pos hr]
    refine (rpush_any x hf hm hx hu hl hr).mono ?_
    rintro e w' ⟨u', rfl, h1, h2, h3⟩
    obtain ⟨a, c, rfl, _⟩ := h1.form
    exact ⟨a, _, c, rfl, h1, h2, h3⟩
  · rw [if_neg hr, if_neg hr, if_neg hr]
    refine (rpush_full x hf hm hx hu hl (by omega)).mono ?_
    rintro e w' ⟨rfl, h3⟩
    obtain ⟨a, c, rfl, _⟩ := hu.form
    exact ⟨a, _, c, rfl, hu.ext h3, Came.same _ _ _, h3⟩
theorem pop_u (h : RowAt w b v f m l) : Calls Try.prog 14 #[rowP b] w fun e w' => ∃ v', e = .returned (.tuple #[.int .i64 (popX l), errOf (popE l)]) ∧ RowAt w' b v' (popF f l) m l.tail ∧ Moves b v v' w w' := by
  unfold popE popF
  cases l with
  | nil =>
    refine (pop_none h).mono ?_
    rintro e w' ⟨rfl, rfl⟩
    exact ⟨v, rfl, h, Moves.refl _ _ _⟩
  | cons y r =>
    rw [if_neg (by simp), if_neg (by simp)]
    refine (pop_any h).mono ?_
    rintro e w' ⟨rfl, v', h1, h2⟩
    exact ⟨v', rfl, h1, h2⟩
theorem rpop_u (hf : Of 4294967296 f) (hm : W64 m) (hu : NumsAt .i64 w u l) (hl : l.length ≤ 1024) : Calls Try.prog 31 #[refV f m u] w fun e w' => ∃ a k c, e = .returned (.tuple #[refV (popF f l) m (.slice a k c), .int .i64 (popX l), .int .i64 (popE l)]) ∧ NumsAt .i64 w' (.slice a k c) l.tail ∧ Came w w' u (.slice a k c) ∧ Ext w w' := by
  unfold popE popF
  cases l with
  | nil =>
    refine (rpop_none hf hm hu).mono ?_
    rintro e w' ⟨rfl, h3⟩
    obtain ⟨a, c, rfl, _⟩ := hu.form
    exact ⟨a, _, c, rfl, hu.ext h3, Came.same _ _ _, h3⟩
  | cons y r =>
    rw [if_neg (by simp), if_neg (by simp)]
    refine (rpop_any y hf hm hu (by simp at hl; omega)).mono ?_
    rintro e w' ⟨u', rfl, h1, h2, h3⟩
    obtain ⟨a, c, rfl, _⟩ := h1.form
    exact ⟨a, _, c, rfl, h1, h2, h3⟩
theorem set_u (h : RowAt w b v f m l) (hn : Of 4294967296 n) (hx : W64 x) : Calls Try.prog 24 #[rowP b, .int .u32 n, .int .i64 x] w fun e w' => ∃ v', e = .returned (errOf (setE f n l)) ∧ RowAt w' b v' f m (setL f n l x) ∧ Moves b v v' w w' := by
  unfold setE setL
  obtain ⟨k, hk⟩ := far_nat f n
  by_cases hr : Ser.far f n < l.length
  · rw [if_pos hr, if_pos hr, hk, Int.toNat_natCast]
    refine (set_any h n x k hn hx hk (by omega)).mono ?_
    rintro e w' ⟨rfl, h1, h2⟩
    exact ⟨v, rfl, h1, h2⟩
  · rw [if_neg hr, if_neg hr]
    refine (set_none h n x hn hx hr).mono ?_
    rintro e w' ⟨rfl, rfl⟩
    exact ⟨v, rfl, h, Moves.refl _ _ _⟩
theorem rset_u (hf : Of 4294967296 f) (hm : W64 m) (hn : Of 4294967296 n) (hx : W64 x) (hu : NumsAt .i64 w u l) (hl : l.length ≤ 1024) : Calls Try.prog 32 #[refV f m u, .int .u32 n, .int .i64 x] w fun e w' => ∃ a k c, e = .returned (.tuple #[refV f m (.slice a k c), .int .i64 (setE f n l)]) ∧ NumsAt .i64 w' (.slice a k c) (setL f n l x) ∧ Came w w' u (.slice a k c) ∧ Ext w w' := by
  unfold setE setL
  obtain ⟨k, hk⟩ := far_nat f n
  by_cases hr : Ser.far f n < l.length
  · rw [if_pos hr, if_pos hr, hk, Int.toNat_natCast]
    refine (rset_any x k hf hm hn hx hu hl hk (by omega)).mono ?_
    rintro e w' ⟨u', rfl, h1, h2, h3⟩
    obtain ⟨a, c, rfl, _⟩ := h1.form
    exact ⟨a, _, c, rfl, h1, h2, h3⟩
  · rw [if_neg hr, if_neg hr]
    refine (rset_none x hf hm hn hx hu hl hr).mono ?_
    rintro e w' ⟨rfl, h3⟩
    obtain ⟨a, c, rfl, _⟩ := hu.form
    exact ⟨a, _, c, rfl, hu.ext h3, Came.same _ _ _, h3⟩
theorem cut_u (h : RowAt w b v f m l) (hn : Of 4294967296 n) : Calls Try.prog 16 #[rowP b, .int .u32 n] w fun e w' => ∃ v' a k c, e = .returned (.tuple #[.slice a k c, errOf (cutE f n l)]) ∧ k = (cutO f n l).length ∧ OwnN .i64 w' w.heap.size 3 (.slice a k c) (cutO f n l) ∧ RowAt w' b v' (cutF f n l) m (cutL f n l) ∧ Moves b v v' w w' ∧ v'.ownBlock = v.ownBlock := by
  unfold cutE cutF cutL cutO
  obtain ⟨k, hk⟩ := far_nat f n
  by_cases hr : Ser.far f n ≤ l.length
  · rw [if_pos hr, if_pos hr, if_pos hr, if_pos hr, hk, Int.toNat_natCast]
    refine (cut_any h n k hn hk (by omega)).mono ?_
    rintro e w' ⟨o, v', rfl, h1, h2, h3, h4⟩
    obtain ⟨a, c, rfl, _⟩ := h1.slice
    exact ⟨v', a, _, c, rfl, rfl, h1, h2, h3, h4⟩
  · rw [if_neg hr, if_neg hr, if_neg hr, if_neg hr]
    refine (cut_out h n hn (by omega) (fun e => ?_)).mono ?_
    · have h1 := far_step h.hf l.length (by have := h.small; omega)
      have h2 : Ser.step f l.length = (f + l.length) % 4294967296 := rfl
      rw [← h2, ← e] at h1
      omega
    rintro e w' ⟨rfl, rfl⟩
    exact ⟨v, none, 0, 0, rfl, rfl, OwnN.nil _ _ _ _, h, Moves.refl _ _ _, rfl⟩
theorem rcut_u (hf : Of 4294967296 f) (hm : W64 m) (hn : Of 4294967296 n) (hu : NumsAt .i64 w u l) (hl : l.length ≤ 1024) : Calls Try.prog 33 #[refV f m u, .int .u32 n] w fun e w' => ∃ a k c a2 k2 c2, e = .returned (.tuple #[refV (cutF f n l) m (.slice a k c), .slice a2 k2 c2, .int .i64 (cutE f n l)]) ∧ NumsAt .i64 w' (.slice a2 k2 c2) (cutO f n l) ∧ NumsAt .i64 w' (.slice a k c) (cutL f n l) ∧ Came w w' u (.slice a2 k2 c2) ∧ Came w w' u (.slice a k c) ∧ Ext w w' := by
  unfold cutE cutF cutL cutO
  obtain ⟨k, hk⟩ := far_nat f n
  by_cases hr : Ser.far f n ≤ l.length
  · rw [if_pos hr, if_pos hr, if_pos hr, if_pos hr, hk, Int.toNat_natCast]
    refine (rcut_any k hf hm hn hu hl hk (by omega)).mono ?_
    rintro e w' ⟨u', o, rfl, h1, h2, h3, h4, h5⟩
    obtain ⟨a, c, rfl, _⟩ := h1.form
    obtain ⟨a2, c2, rfl, _⟩ := h2.form
    exact ⟨a2, _, c2, a, _, c, rfl, h1, h2, h3, h4, h5⟩
  · rw [if_neg hr, if_neg hr, if_neg hr, if_neg hr]
    refine (rcut_out hf hm hn hu hl (by omega) (fun e => ?_)).mono ?_
    · have h1 := far_step hf l.length (by omega)
      have h2 : Ser.step f l.length = (f + l.length) % 4294967296 := rfl
      rw [← h2, ← e] at h1
      omega
    rintro e w' ⟨rfl, h3⟩
    obtain ⟨a, c, rfl, _⟩ := hu.form
    exact ⟨a, _, c, none, 0, 0, rfl, NumsAt.nothing _ _, hu.ext h3, (fun g hg => by cases hg), Came.same _ _ _, h3⟩
end

/-! ### Acts in memory -/
def ActsAt (w : World) (v : Value) (n : Nat) (K J X : Nat → Int) : Prop :=
  (n = 0 ∧ v = .slice none 0 0) ∨ ∃ ad cap, v = .slice (some ad) n cap ∧ n ≤ cap ∧ cap ≤ maxLen ∧ ∀ i, i < n → w.cell? (ad.add (i * 3)) = some (.int .i64 (K i)) ∧ w.cell? (ad.add (i * 3 + 1)) = some (.int .u32 (J i)) ∧ w.cell? (ad.add (i * 3 + 2)) = some (.int .i64 (X i)) ∧ W64 (K i) ∧ Of 4294967296 (J i) ∧ W64 (X i)
theorem ActsAt.via {w w' : World} {v : Value} {n : Nat} {K J X : Nat → Int} (h : ActsAt w v n K J X) (hb : ∀ b, blockOf v = some b → b < w.heap.size → w'.heap[b]? = w.heap[b]?) : ActsAt w' v n K J X := by
  refine h.imp id ?_
  rintro ⟨ad, cap, rfl, h4, h5, hc⟩
  have key : ∀ j u, w.cell? (ad.add j) = some u → w'.cell? (ad.add j) = some u := fun j u h0 => by
    have hlt := cell_lt h0
    rw [add_block] at hlt
    refine (World.cell?_of_block ?_).trans h0
    rw [add_block]
    exact hb _ rfl hlt
  exact ⟨ad, cap, rfl, h4, h5, fun i hi => ⟨key _ _ (hc i hi).1, key _ _ (hc i hi).2.1, key _ _ (hc i hi).2.2.1, (hc i hi).2.2.2⟩⟩
theorem ActsAt.ext {w w' : World} {v : Value} {n : Nat} {K J X : Nat → Int} (h : ActsAt w v n K J X) (he : Ext w w') : ActsAt w' v n K J X := h.via fun b _ hb => he.block b hb
theorem ActsAt.form {w : World} {v : Value} {n : Nat} {K J X : Nat → Int} (h : ActsAt w v n K J X) : ∃ a cap, v = .slice a n cap ∧ n ≤ cap ∧ cap ≤ maxLen := by
  rcases h with ⟨rfl, rfl⟩ | ⟨ad, cap, rfl, h4, h5, _⟩
  · exact ⟨none, 0, rfl, by simp, by simp [maxLen]⟩
  · exact ⟨_, _, rfl, h4, h5⟩
theorem ActsAt.cells {w : World} {a : Option Addr} {n c : Nat} {K J X : Nat → Int} (h : ActsAt w (.slice a n c) n K J X) (i : Nat) (hi : i < n) : ∃ b off, a = some ⟨b, off, none⟩ ∧ w.cell? ⟨b, off + i * 3, none⟩ = some (.int .i64 (K i)) ∧ w.cell? ⟨b, off + i * 3 + 1, none⟩ = some (.int .u32 (J i)) ∧ w.cell? ⟨b, off + i * 3 + 2, none⟩ = some (.int .i64 (X i)) ∧ W64 (K i) ∧ Of 4294967296 (J i) ∧ W64 (X i) := by
  rcases h with ⟨rfl, _⟩ | ⟨ad, cap, e, h4, h5, hc⟩
  · omega
  cases e
  obtain ⟨b, off, spot⟩ := ad
  have h0 := (hc i hi).1
  have hsp : spot = none := by
    by_cases h3 : i * 3 = 0
    · rw [h3] at h0; simpa [Addr.add] using World.cell?_spot h0
    · have := hc 0 (by omega)
      simpa [Addr.add] using World.cell?_spot this.1
  subst hsp
  obtain ⟨h1, h2, h3, h6⟩ := hc i hi
  rw [add_plain] at h1 h2 h3
  exact ⟨b, off, rfl, h1, by rw [Nat.add_assoc]; exact h2, by rw [Nat.add_assoc]; exact h3, h6⟩
end Go.Proofs.Ytbongjdflnefmaa
