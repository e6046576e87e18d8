/- Numbers and noughts put; all that was put. No condition of its own. -/
import Derived.Test.YtmfciiccomagpaaTlv1b
import Derived.Deep.OwnRows
namespace Go.Proofs.Ytmfciiccomagpaa
namespace Tlv
open Go Go.RowKit
set_option linter.unusedVariables false
set_option linter.unusedSimpArgs false
set_option maxRecDepth 100000


set_option maxHeartbeats 1000000 in
theorem outNum_any {w : World} {base g : Nat} {v : Value} {l : List Nat} (h : OutAt w base g v l) (N : Nat) (n : Int) (hl : l.length ≤ 900000) (hbase : base ≤ w.heap.size) :
    Calls Try.prog 9 #[ptr g, .int .u64 (N : Int), .int .i64 n] w fun e w' => (∃ y, e = .returned y) ∧ ∃ v', OutAt w' base g v' (l ++ numB N n) ∧ Moved w w' g v v' := by
  cases hs : isSz n with
  | true =>
    obtain ⟨S, rfl, hS⟩ : ∃ S : Nat, n = (S : Int) ∧ S ≤ 8 := by
      rcases (isSz_iff n).1 hs with rfl | rfl | rfl | rfl
      · exact ⟨1, rfl, by decide⟩
      · exact ⟨2, rfl, by decide⟩
      · exact ⟨4, rfl, by decide⟩
      · exact ⟨8, rfl, by decide⟩
    have e : numB N (S : Int) = be N S := by unfold numB; rw [if_pos hs]; rfl
    rw [e]
    exact outNum_loop h N S hS hs hl hbase
  | false =>
    have e : numB N n = [] := by unfold numB; rw [hs]; rfl
    rw [e, List.append_nil]
    have H : Hid (OutAt w base g v l) := h
    clear h hl hbase e
    go_enter Try.func9, Try.ntmps9
    go_wp2_with (first
      | (go_at_call 35; refine (isSize_any _ _).mono ?_; rintro e w1 ⟨rfl, hw⟩; subst w1; rw [hs]))
    refine bodyPost_ret (results_none rfl _ _ _) rfl ?_
    exact ⟨⟨_, rfl⟩, v, H.out, Moved.refl _ _ _⟩
theorem outNum_nil (x y : Value) (w : World) : Calls Try.prog 9 #[.pointer none, x, y] w fun e w' => (∃ y, e = .returned y) ∧ w' = w := by
  go_enter Try.func9, Try.ntmps9
  go_wp2
  refine bodyPost_ret (results_none rfl _ _ _) rfl ?_
  exact ⟨⟨_, rfl⟩, rfl⟩

/-- make of n noughts. -/
theorem wl_make {w : World} {ops : Array Oper} {rest : List Oper} {o : Oper} {a : Act} {Q : Exit → Act → World → Prop} (hgd : o.guard = none) {x y : Operand} (ho : o.op = .makeSlice 26 x y) {n : Nat} (hx : a.eval x = .int .i64 (n : Int)) (hy : a.eval y = .int .i64 (n : Int)) (hn : n ≤ 1000)
    (h : ∀ w', BytesAt w' (.slice (some ⟨w.heap.size, 0, none⟩) n n) (List.replicate n 0) → Ext w w' → wpList Try.prog ops Q rest (a.put o.dst (.slice (some ⟨w.heap.size, 0, none⟩) n n)) w') : wpList Try.prog ops Q (o :: rest) a w := by
  have hr := run_make_row' (P := Try.prog) 26 5 (.int .u8 0) 1 Try.underlying26 (by kernel_rfl) rfl .i64 .i64 n (by omega) (by omega) w
  refine wpList_of_run hgd (by simp only [execOp, ho, hx, hy, Sem.run_bind, hr, Result.andThen_ok]; rfl) (h _ ?_ (Ext.alloc _ _))
  refine ⟨zeros_all _, by unfold maxLen; simp; omega, .inr ⟨⟨w.heap.size, 0, none⟩, n, by simp, by simp, by unfold maxLen; omega, fun j hj => ?_⟩⟩
  rw [add_plain, Nat.zero_add, cellNew _ _ _ _ _ _ rfl]
  simp at hj
  simp [madeCells, hj, Nat.mod_one, List.getD_eq_getElem?_getD]

set_option maxHeartbeats 1000000 in
theorem outPad_any {w : World} {base g : Nat} {v : Value} {l : List Nat} (h : OutAt w base g v l) (hl : l.length ≤ 900000) (hbase : base ≤ w.heap.size) :
    Calls Try.prog 12 #[ptr g] w fun e w' => (∃ y, e = .returned y) ∧ ∃ v', OutAt w' base g v' (padB l) ∧ Moved w w' g v v' := by
  obtain ⟨a, c, rfl⟩ := h.len
  have H : Hid (OutAt w base g (.slice a l.length c) l ∧ l.length ≤ 900000 ∧ base ≤ w.heap.size) := ⟨h, hl, hbase⟩
  have hc : w.cell? ⟨g, 0, none⟩ = some (.slice a l.length c) := h.blk.cell 0
  clear h hl hbase
  go_enter Try.func12, Try.ntmps12
  go_wp2_with (first
    | (go_at_call 36; refine (padding_any l.length (by have := H.out; omega) _).mono ?_; rintro e w1 ⟨rfl, hw⟩; subst w1)
    | (refine wl_make (n := pads l.length) rfl rfl rfl rfl (by have := pads_lt l.length; omega) ?_; intro w2 hb2 he2)
    | (go_at_call 11; refine (outPut_any (H.out.1.ext he2) hb2 (by have := H.out; have := pads_lt l.length; simp; omega) (Nat.le_trans H.out.2.2 he2.size)).mono ?_; rintro e w3 ⟨⟨y, rfl⟩, v3, ho3, hm3⟩))
  go_end0
  exact ⟨⟨_, rfl⟩, v3, ho3, (Moved.ext he2 _ _).trans hm3⟩
theorem outPad_nil (w : World) : Calls Try.prog 12 #[.pointer none] w fun e w' => (∃ y, e = .returned y) ∧ w' = w := by
  go_enter Try.func12, Try.ntmps12
  go_wp2
  refine bodyPost_ret (results_none rfl _ _ _) rfl ?_
  exact ⟨⟨_, rfl⟩, rfl⟩
set_option maxHeartbeats 1000000 in
theorem outBytes_any {w : World} {base g : Nat} {v : Value} {l : List Nat} (h : OutAt w base g v l) (hl : l.length ≤ 1000000) :
    Calls Try.prog 14 #[ptr g] w fun e w' => ∃ a n c, e = .returned (.slice a n c) ∧ n = l.length ∧ OB w' w.heap.size (.slice a n c) l ∧ Ext w w' := by
  have H : Hid (OutAt w base g v l ∧ l.length ≤ 1000000) := ⟨h, hl⟩
  have hc : w.cell? ⟨g, 0, none⟩ = some v := h.blk.cell 0
  clear h hl
  go_enter Try.func14, Try.ntmps14
  go_wp2_with (first
    | (go_at_call 37; refine (copied_any H.out.1.own.bytes H.out.2).mono ?_; rintro e w1 ⟨a, n, c, rfl, hn, ho1, he1⟩; have HN : Hid (n = l.length) := hn; clear hn))
  go_ret
  exact ⟨_, _, _, rfl, HN.out, ho1, he1⟩
theorem outBytes_nil (w : World) : Calls Try.prog 14 #[.pointer none] w fun e w' => e = .returned (.slice none 0 0) ∧ w' = w := by
  go_enter Try.func14, Try.ntmps14
  go_wp2
  go_ret
  exact ⟨rfl, rfl⟩
end Tlv
end Go.Proofs.Ytmfciiccomagpaa
