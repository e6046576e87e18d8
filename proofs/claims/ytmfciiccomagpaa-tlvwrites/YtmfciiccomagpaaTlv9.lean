/- A parameter put into an Out; lists of parameters in memory. No condition of its own. -/
import Derived.Test.YtmfciiccomagpaaTlv8
namespace Go.Proofs.Ytmfciiccomagpaa
namespace Tlv
open Go Go.RowKit
set_option linter.unusedVariables false
set_option linter.unusedSimpArgs false
set_option maxRecDepth 100000


theorem bytes_lt {w : World} {v : Value} {l : List Nat} (h : BytesAt w v l) (hne : l ≠ []) {k : Nat} (hk : blockOf v = some k) : k < w.heap.size := by
  obtain ⟨_, _, ⟨h0, _⟩ | ⟨ad, cap, rfl, _, _, hc⟩⟩ := h
  · exact absurd h0 hne
  · have hl : 0 < l.length := List.length_pos_iff.2 hne
    have := cell_lt (hc 0 hl)
    rw [add_block] at this
    cases hk
    exact this
/-- A slice that lies elsewhere than an Out and its bytes. -/
def Off (g : Nat) (v u : Value) (m : List Nat) : Prop := m ≠ [] → ∀ k, blockOf u = some k → k ≠ g ∧ v.ownBlock ≠ some k
theorem Moved.bytes {w w' : World} {g : Nat} {v v' u : Value} {m : List Nat} (hm : Moved w w' g v v') (hu : BytesAt w u m) (ho : Off g v u m) : BytesAt w' u m ∧ Off g v' u m := by
  by_cases h0 : m = []
  · subst h0
    obtain ⟨h1, h2, ⟨_, rfl⟩ | ⟨ad, cap, rfl, h4, h5, _⟩⟩ := hu
    · exact ⟨BytesAt.none _, fun h => absurd rfl h⟩
    · exact ⟨⟨h1, h2, .inr ⟨ad, cap, rfl, h4, h5, fun j hj => by simp at hj⟩⟩, fun h => absurd rfl h⟩
  · refine ⟨bytes_but hu hm.keep (fun k hk => ?_), fun _ k hk => ⟨(ho h0 k hk).1, fun e => ?_⟩⟩
    · rintro (e | e)
      · exact (ho h0 k hk).1 e
      · exact (ho h0 k hk).2 e
    · rcases hm.came k e with e1 | e1
      · exact (ho h0 k hk).2 e1
      · have := bytes_lt hu h0 hk; omega
theorem Moved.blk {w w' : World} {base g q t : Nat} {v v' : Value} {l : List Nat} {C : Array Value} (hm : Moved w w' g v v') (ho : OutAt w base g v l) (hb : Blk w q C t) (ht : t ≠ 5) (hq : q ≠ g) : Blk w' q C t :=
  hb.but hm.keep (fun e => e.elim hq (fun e => ho.own.ne hb ht q e rfl))
theorem wrapM (M : Nat) (h : M < 1000000) : IntKind.i64.wrap (M : Int) = (M : Int) ∧ IntKind.u64.wrap (M : Int) = (M : Int) ∧ wrap64 (M : Int) = (M : Int) ∧ (M : Int) % 18446744073709551616 = (M : Int) := by
  refine ⟨by rw [IntKind.wrap_i64]; omega, by rw [IntKind.wrap_u64]; omega, by unfold wrap64; omega, Int.emod_eq_of_lt (by omega) (by omega)⟩
theorem numB2 (N : Nat) : numB N 2 = be N 2 := rfl

set_option maxHeartbeats 2000000 in
theorem outParam_any {w : World} {base g : Nat} {v u : Value} {l m : List Nat} (h : OutAt w base g v l) (K : Nat) (hK : K < 65536) (hu : BytesAt w u m) (ho : Off g v u m) (hm : m.length ≤ 4000) (h4 : l.length % 4 = 0) (hl : l.length ≤ 800000) (hbase : base ≤ w.heap.size) :
    Calls Try.prog 42 #[ptr g, .agg #[.int .i64 (K : Int), u]] w fun e w' => (∃ y, e = .returned y) ∧ ∃ v', OutAt w' base g v' (l ++ parB ((K : Int), m)) ∧ Moved w w' g v v' := by
  obtain ⟨ua, uc, rfl, _, _⟩ := hu.form
  rename_i z1 z2
  clear z1 z2
  have HE : Hid (padB (((l ++ numB K 2) ++ numB (m.length + 4) 2) ++ m) = l ++ parB ((K : Int), m)) := show _ = _ by
    rw [padB_app (by rw [List.length_append, List.length_append, numB2, numB2, be_len, be_len]; omega), numB2, numB2]
    unfold parB
    simp
  have H : Hid (OutAt w base g v l ∧ g < w.heap.size ∧ l.length ≤ 800000 ∧ base ≤ w.heap.size ∧ m.length ≤ 4000) := ⟨h, h.blk.lt, hl, hbase, hm⟩
  have HU : Hid (BytesAt w (.slice ua m.length uc) m ∧ Off g v (.slice ua m.length uc) m) := ⟨hu, ho⟩
  have wK := (wrapM K (by omega)).2.1
  obtain ⟨M, hM⟩ : ∃ M, M = m.length + 4 := ⟨_, rfl⟩
  have HM : Hid (M = m.length + 4) := hM
  have eM : (m.length : Int) + 4 = (M : Int) := by omega
  have hM1 : M < 1000000 := by omega
  have wM1 := (wrapM M hM1).1
  have wM2 := (wrapM M hM1).2.1
  have wM3 := (wrapM M hM1).2.2.1
  have wM4 := (wrapM M hM1).2.2.2
  rw [← hM] at HE
  clear h hl hbase hu ho hM
  go_enter Try.func42, Try.ntmps42
  go_wp2_with (first
    | (refine wl_box (C := #[.int .i64 (K : Int), .slice ua m.length uc]) rfl rfl rfl ?_; intro w1 hb1 he1 hx; clear hx; have c0 := hb1.cell 0; have HB1 : Hid (OutAt w1 base g v l ∧ base ≤ w1.heap.size ∧ BytesAt w1 (.slice ua m.length uc) m) := ⟨H.out.1.ext he1, Nat.le_trans H.out.2.2.2.1 he1.size, HU.out.1.ext he1⟩; have HN1 : Hid (Blk w1 w.heap.size #[.int .i64 (K : Int), .slice ua m.length uc] 75 ∧ w.heap.size ≠ g) := ⟨hb1, by have := H.out; omega⟩; clear hb1)
    | (go_at_call 9; have q := hm2; clear q; refine (outNum_any ho2 M 2 (by have := H.out; have := numB_len K 2; rw [List.length_append]; omega) (Nat.le_trans HB1.out.2.1 hm2.keep.size)).mono ?_; rintro e w3 ⟨⟨y3, rfl⟩, v3, ho3, hm3⟩; have hb3 := hm3.blk ho2 HN2.out (by decide) HN1.out.2; have c1 := hb3.cell 1; have HN3 : Hid (Blk w3 w.heap.size #[.int .i64 (K : Int), .slice ua m.length uc] 75) := hb3; have HU3 : Hid _ := hm3.bytes HU2.out.1 HU2.out.2; clear hb3)
    | (go_at_call 9; refine (outNum_any HB1.out.1 K 2 (by have := H.out; omega) HB1.out.2.1).mono ?_; rintro e w2 ⟨⟨y2, rfl⟩, v2, ho2, hm2⟩; have hb2 := hm2.blk HB1.out.1 HN1.out.1 (by decide) HN1.out.2; have c1 := hb2.cell 1; have HN2 : Hid (Blk w2 w.heap.size #[.int .i64 (K : Int), .slice ua m.length uc] 75) := hb2; have HU2 : Hid _ := hm2.bytes HB1.out.2.2 HU.out.2; clear hb2)
    | (go_at_call 11; refine (outPut_any ho3 HU3.out.1 (by have := H.out; have := numB_len K 2; have := numB_len M 2; rw [List.length_append, List.length_append]; omega) (Nat.le_trans HB1.out.2.1 (Nat.le_trans hm2.keep.size hm3.keep.size))).mono ?_; rintro e w4 ⟨⟨y4, rfl⟩, v4, ho4, hm4⟩)
    | (go_at_call 12; refine (outPad_any ho4 (by have := H.out; have := numB_len K 2; have := numB_len M 2; rw [List.length_append, List.length_append, List.length_append]; omega) (Nat.le_trans HB1.out.2.1 (Nat.le_trans hm2.keep.size (Nat.le_trans hm3.keep.size hm4.keep.size)))).mono ?_; rintro e w5 ⟨⟨y5, rfl⟩, v5, ho5, hm5⟩))
  go_end0
  refine ⟨⟨_, rfl⟩, v5, by rw [← HE.out]; exact ho5, (((((Moved.ext he1 _ _).trans hm2).trans hm3).trans hm4).trans hm5)⟩
end Tlv
end Go.Proofs.Ytmfciiccomagpaa
