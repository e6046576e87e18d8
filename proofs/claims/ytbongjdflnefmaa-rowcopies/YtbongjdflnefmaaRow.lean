/- A row in memory; what the calls answer that only read it. No condition of its own. -/
import Derived.Test.YtbongjdflnefmaaSer
import Derived.Test.YtbongjdflnefmaaKeep
import Derived.BigQuiet
namespace Go.Proofs.Ytbongjdflnefmaa
open Go.RowKit
set_option linter.unusedVariables false
set_option linter.unusedSimpArgs false
set_option maxRecDepth 100000

/-- A row in block b: its beginning, its bound, its things in a slice of its own. -/
structure RowAt (w : World) (b : Nat) (v : Value) (f m : Int) (l : List Int) : Prop where
  blk : w.heap[b]? = some (.cells #[.int .u32 f, .int .i64 m, v] 65 (0, 0))
  own : OwnN .i64 w 0 3 v l
  hf : Of 4294967296 f
  hm : 1 ≤ m ∧ m ≤ 1024
  hl : (l.length : Int) ≤ m

theorem cell_of_block {w : World} {b t : Nat} {C : Array Value} {fr : Nat × Nat} (h : w.heap[b]? = some (.cells C t fr)) (j : Nat) : w.cell? ⟨b, j, none⟩ = C[j]? := by
  simp [World.cell?, h]
theorem frozen_of_block {w : World} {b t : Nat} {C : Array Value} (h : w.heap[b]? = some (.cells C t (0, 0))) (j : Nat) : w.frozen? ⟨b, j, none⟩ = false := by
  simp [World.frozen?, h]
theorem RowAt.c0 {w : World} {b : Nat} {v : Value} {f m : Int} {l : List Int} (h : RowAt w b v f m l) : w.cell? ⟨b, 0, none⟩ = some (.int .u32 f) := cell_of_block h.blk 0
theorem RowAt.c1 {w : World} {b : Nat} {v : Value} {f m : Int} {l : List Int} (h : RowAt w b v f m l) : w.cell? ⟨b, 1, none⟩ = some (.int .i64 m) := cell_of_block h.blk 1
theorem RowAt.c2 {w : World} {b : Nat} {v : Value} {f m : Int} {l : List Int} (h : RowAt w b v f m l) : w.cell? ⟨b, 2, none⟩ = some v := cell_of_block h.blk 2
theorem RowAt.lt {w : World} {b : Nat} {v : Value} {f m : Int} {l : List Int} (h : RowAt w b v f m l) : b < w.heap.size := (Array.getElem?_eq_some_iff.1 h.blk).1
theorem RowAt.small {w : World} {b : Nat} {v : Value} {f m : Int} {l : List Int} (h : RowAt w b v f m l) : l.length ≤ 1024 := by have := h.hm; have := h.hl; omega
theorem RowAt.ne {w : World} {b : Nat} {v : Value} {f m : Int} {l : List Int} (h : RowAt w b v f m l) : v.ownBlock ≠ some b := by
  intro hb
  rcases h.own.1.2 with ⟨rfl, _⟩ | ⟨g, cap, cur, rfl, _, hg, _⟩
  · cases hb
  · simp [Value.ownBlock] at hb
    subst hb
    rw [h.blk] at hg
    simp at hg
theorem RowAt.via {w w' : World} {b : Nat} {v : Value} {f m : Int} {l : List Int} (h : RowAt w b v f m l) (hb : w'.heap[b]? = w.heap[b]?) (hv : ∀ g, v.ownBlock = some g → w'.heap[g]? = w.heap[g]?) : RowAt w' b v f m l :=
  ⟨hb.trans h.blk, h.own.via hv, h.hf, h.hm, h.hl⟩
theorem RowAt.ext {w w' : World} {b : Nat} {v : Value} {f m : Int} {l : List Int} (h : RowAt w b v f m l) (he : Ext w w') : RowAt w' b v f m l :=
  h.via (he.block b h.lt) fun g hg => he.block g (h.own.lt hg).2

theorem far32k {a b k : Int} (hk : Ser.far a b = k) (w : World) (ha : Of 4294967296 a) (hb : Of 4294967296 b) : Calls Try.prog 37 #[.int .u32 a, .int .u32 b] w fun e w' => e = .returned (.int .i64 k) ∧ w' = w := by
  subst hk; exact far32 a b w ha hb

/-- The nil row. -/
abbrev nilRow : Value := .pointer none
abbrev rowP (b : Nat) : Value := .pointer (some ⟨b, 0, none⟩)

section
variable {w : World} {b : Nat} {v : Value} {f m : Int} {l : List Int}

set_option maxHeartbeats 400000 in
theorem from_any (h : RowAt w b v f m l) : Calls Try.prog 15 #[rowP b] w fun e w' => e = .returned (.int .u32 f) ∧ w' = w := by
  have h0 := h.c0
  go_enter Try.func15, Try.ntmps15
  go_wp2
  go_ret
  exact ⟨rfl, rfl⟩
set_option maxHeartbeats 400000 in
theorem len_any (h : RowAt w b v f m l) : Calls Try.prog 18 #[rowP b] w fun e w' => e = .returned (.int .i64 l.length) ∧ w' = w := by
  have h0 := h.c2
  obtain ⟨a, cap, rfl, _, _⟩ := h.own.slice
  go_enter Try.func18, Try.ntmps18
  go_wp2
  go_ret
  exact ⟨rfl, rfl⟩
set_option maxHeartbeats 400000 in
theorem next_any (h : RowAt w b v f m l) : Calls Try.prog 17 #[rowP b] w fun e w' => e = .returned (.int .u32 (Ser.step f l.length)) ∧ w' = w := by
  have hs := h.small
  go_enter Try.func17, Try.ntmps17
  go_wp2_with (first | (go_at_call 15; refine (from_any h).mono ?_; rintro e w' ⟨rfl, rfl⟩) | (go_at_call 18; refine (len_any h).mono ?_; rintro e w' ⟨rfl, rfl⟩) | (go_at_call 38; refine (step32 _ _ _ h.hf (by constructor <;> omega)).mono ?_; rintro e w' ⟨rfl, rfl⟩))
  go_ret
  exact ⟨rfl, rfl⟩
set_option maxHeartbeats 400000 in
theorem free_any (h : RowAt w b v f m l) : Calls Try.prog 25 #[rowP b] w fun e w' => e = .returned (.int .i64 (m - l.length)) ∧ ∃ q, w' = w.drewN q := by
  have h0 := h.c2
  have h1 := h.c1
  have hl := h.hl
  have hm := h.hm
  obtain ⟨a, cap, rfl, _, _⟩ := h.own.slice
  go_enter Try.func25, Try.ntmps25
  go_wp2_with fail
  go_quiet (fail)
  go_wp2
  go_ret
  exact ⟨rfl, _, rfl⟩
set_option maxHeartbeats 400000 in
theorem has_any (h : RowAt w b v f m l) (n : Int) (hn : Of 4294967296 n) : Calls Try.prog 36 #[rowP b, .int .u32 n] w fun e w' => e = .returned (.bool (decide (Ser.far f n < l.length))) ∧ w' = w := by
  have hs := h.small
  go_enter Try.func36, Try.ntmps36
  go_wp2_with (first | (go_at_call 15; refine (from_any h).mono ?_; rintro e w' ⟨rfl, rfl⟩) | (go_at_call 18; refine (len_any h).mono ?_; rintro e w' ⟨rfl, rfl⟩) | (go_at_call 45; refine (within32 _ _ _ _ hn h.hf (by constructor <;> omega)).mono ?_; rintro e w' ⟨rfl, rfl⟩))
  go_ret
  exact ⟨rfl, rfl⟩

/-- Where a number stands, by the row's beginning. -/
def rowGet (f n : Int) (l : List Int) : Int := if Ser.far f n < l.length then l.getD (Ser.far f n).toNat 0 else 0

set_option maxHeartbeats 400000 in
theorem at_any (h : RowAt w b v f m l) (n : Int) (hn : Of 4294967296 n) : Calls Try.prog 23 #[rowP b, .int .u32 n] w fun e w' => e = .returned (.tuple #[.int .i64 (rowGet f n l), .bool (decide (Ser.far f n < l.length))]) ∧ ∃ q, w' = w.drewN q := by
  have hs := h.small
  have hu := Ser.far_lt f n
  have h0 := h.c2
  have h1 := h.c0
  have hb := h.hf
  have H : Hid (RowAt w b v f m l) := h
  by_cases hd : Ser.far f n < l.length
  · have hdd : decide (Ser.far f n < l.length) = true := by simpa using hd
    have hg : rowGet f n l = l.getD (Ser.far f n).toNat 0 := by unfold rowGet; rw [if_pos hd]
    obtain ⟨k, hk⟩ : ∃ k : Nat, Ser.far f n = k := ⟨(Ser.far f n).toNat, by omega⟩
    rw [hk] at hd hdd hg hu
    rw [hk, hdd, hg]
    simp only [Int.toNat_natCast] at *
    obtain ⟨a, cap, rfl, hcap, hc⟩ := h.own.nums.form
    obtain ⟨g, off, rfl, hcell⟩ := hc k (by omega)
    clear h hc
    go_enter Try.func23, Try.ntmps23
    go_wp2_with (go_at_call 36; refine (has_any H.out _ hn).mono ?_; rintro e w' ⟨rfl, rfl⟩; rw [hk, hdd])
    go_quiet (first | (go_at_call 37; refine Calls.quiet_of_same (far32k hk _ hb hn)))
    go_wp2
    go_ret2
    exact ⟨rfl, _, rfl⟩
  · have hdd : decide (Ser.far f n < l.length) = false := by simpa using hd
    have hg : rowGet f n l = 0 := by unfold rowGet; rw [if_neg hd]
    rw [hdd, hg]
    clear h
    go_enter Try.func23, Try.ntmps23
    go_wp2_with (go_at_call 36; refine (has_any H.out _ hn).mono ?_; rintro e w' ⟨rfl, rfl⟩; rw [hdd])
    go_ret2
    exact ⟨rfl, 0, rfl⟩
end

set_option maxHeartbeats 400000 in
theorem from_nil (w : World) : Calls Try.prog 15 #[nilRow] w fun e w' => e = .returned (.int .u32 0) ∧ w' = w := by
  go_enter Try.func15, Try.ntmps15
  go_wp2
  go_ret
  exact ⟨rfl, rfl⟩
set_option maxHeartbeats 400000 in
theorem len_nil (w : World) : Calls Try.prog 18 #[nilRow] w fun e w' => e = .returned (.int .i64 0) ∧ w' = w := by
  go_enter Try.func18, Try.ntmps18
  go_wp2
  go_ret
  exact ⟨rfl, rfl⟩
set_option maxHeartbeats 400000 in
theorem free_nil (w : World) : Calls Try.prog 25 #[nilRow] w fun e w' => e = .returned (.int .i64 0) ∧ w' = w := by
  go_enter Try.func25, Try.ntmps25
  go_wp2
  go_ret
  exact ⟨rfl, rfl⟩
set_option maxHeartbeats 400000 in
theorem next_nil (w : World) : Calls Try.prog 17 #[nilRow] w fun e w' => e = .returned (.int .u32 0) ∧ w' = w := by
  go_enter Try.func17, Try.ntmps17
  go_wp2_with (first | (go_at_call 15; refine (from_nil _).mono ?_; rintro e w' ⟨rfl, rfl⟩) | (go_at_call 18; refine (len_nil _).mono ?_; rintro e w' ⟨rfl, rfl⟩) | (go_at_call 38; refine (step32 _ _ _ (by omega) (by constructor <;> omega)).mono ?_; rintro e w' ⟨rfl, rfl⟩))
  go_ret
  exact ⟨rfl, rfl⟩
set_option maxHeartbeats 400000 in
theorem has_nil (n : Int) (w : World) (hn : Of 4294967296 n) : Calls Try.prog 36 #[nilRow, .int .u32 n] w fun e w' => e = .returned (.bool false) ∧ w' = w := by
  have hu := Ser.far_lt 0 n
  go_enter Try.func36, Try.ntmps36
  go_wp2_with (first | (go_at_call 15; refine (from_nil _).mono ?_; rintro e w' ⟨rfl, rfl⟩) | (go_at_call 18; refine (len_nil _).mono ?_; rintro e w' ⟨rfl, rfl⟩) | (go_at_call 45; refine (within32 _ _ _ _ hn (by omega) (by constructor <;> omega)).mono ?_; rintro e w' ⟨rfl, rfl⟩))
  go_ret
  exact ⟨ret_bool (by simp; omega), rfl⟩
end Go.Proofs.Ytbongjdflnefmaa
