/- The chapter's example: a row of texts. No condition of its own. -/
import Derived.Test.YtbongjdflnefmaaWrite
namespace Go.Proofs.Ytbongjdflnefmaa
open Go.RowKit
set_option linter.unusedVariables false
set_option linter.unusedSimpArgs false
set_option maxRecDepth 100000

/-- A row of texts in block b, its things in a slice of its own. -/
structure TextsAt (w : World) (B b : Nat) (v : Value) (f m : Int) (xs : List Value) : Prop where
  blk : w.heap[b]? = some (.cells #[.int .u32 f, .int .i64 m, v] 88 (0, 0))
  own : w.ownsRow B 9 1 v xs.length xs
  hB : B ≤ b
  hf : Of 4294967296 f
  hm : 1 ≤ m ∧ m ≤ 1024
  hl : (xs.length : Int) ≤ m

section
variable {w : World} {B b : Nat} {v : Value} {f m : Int} {l : List Value}
theorem TextsAt.c0 (h : TextsAt w B b v f m l) : w.cell? ⟨b, 0, none⟩ = some (.int .u32 f) := cell_of_block h.blk 0
theorem TextsAt.c1 (h : TextsAt w B b v f m l) : w.cell? ⟨b, 1, none⟩ = some (.int .i64 m) := cell_of_block h.blk 1
theorem TextsAt.c2 (h : TextsAt w B b v f m l) : w.cell? ⟨b, 2, none⟩ = some v := cell_of_block h.blk 2
theorem TextsAt.lt (h : TextsAt w B b v f m l) : b < w.heap.size := (Array.getElem?_eq_some_iff.1 h.blk).1
theorem TextsAt.small (h : TextsAt w B b v f m l) : l.length ≤ 1024 := by have := h.hm; have := h.hl; omega
theorem TextsAt.slice (h : TextsAt w B b v f m l) : ∃ a cap, v = .slice a l.length cap ∧ ∀ g, v.ownBlock = some g → B ≤ g ∧ g < w.heap.size ∧ g ≠ b := by
  rcases h.own.2 with ⟨rfl, h0⟩ | ⟨g, cap, cur, rfl, hb, hg, _⟩
  · rw [h0]; exact ⟨_, _, rfl, fun g hg => by cases hg⟩
  · refine ⟨_, _, rfl, fun g' hg' => ?_⟩
    simp [Value.ownBlock] at hg'
    subst hg'
    refine ⟨hb, (Array.getElem?_eq_some_iff.1 hg).1, ?_⟩
    rintro rfl
    rw [h.blk] at hg
    simp at hg
theorem TextsAt.drewN (h : TextsAt w B b v f m l) (q : Nat) : TextsAt (w.drewN q) B b v f m l := ⟨h.blk, h.own, h.hB, h.hf, h.hm, h.hl⟩
theorem TextsAt.put2 (h : TextsAt w B b v f m l) {w1 : World} {v' : Value} {l' : List Value} (hg : w.grownBy w1 v.ownBlock) (ho : w1.ownsRow B 9 1 v' l'.length l') (hv : ∀ g, v'.ownBlock = some g → v.ownBlock = some g ∨ w.heap.size ≤ g) (hl : (l'.length : Int) ≤ m) :
    TextsAt (w1.setCell ⟨b, 2, none⟩ v') B b v' f m l' ∧ Below B w (w1.setCell ⟨b, 2, none⟩ v') := by
  obtain ⟨a, cap, hv0, hlt⟩ := h.slice
  have hne0 : v.ownBlock ≠ some b := fun e => (hlt b e).2.2 rfl
  have hb : w1.heap[b]? = _ := (hg.block b h.lt (fun e => hne0 e.symm)).trans h.blk
  have hne : ∀ g, v'.ownBlock = some g → g ≠ b := fun g hgv e => by
    rcases hv g hgv with h2 | h2
    · exact hne0 (e ▸ h2)
    · have := h.lt; omega
  refine ⟨⟨by rw [block_set hb]; rfl, ?_, h.hB, h.hf, h.hm, hl⟩, ⟨hg.os, hg.tape, hg.output, by have := h.lt; have := h.hB; have := hg.size; simp; omega, fun k hk => ?_⟩⟩
  · refine ⟨ho.1, ?_⟩
    rcases ho.2 with h0 | ⟨g, cap, cur, h1, h2, h3, h4⟩
    · exact .inl h0
    · refine .inr ⟨g, cap, cur, h1, h2, ?_, h4⟩
      rw [block_other (hne g (by rw [h1]; rfl))]; exact h3
  · have h1 := h.hB
    have h2 := h.lt
    rw [block_other (by omega)]
    exact hg.block k (by omega) (fun e => by have := (hlt k e.symm).1; omega)

set_option maxHeartbeats 400000 in
theorem sfrom_any (h : TextsAt w B b v f m l) : Calls Try.prog 47 #[rowP b] w fun e w' => e = .returned (.int .u32 f) ∧ w' = w := by
  have h0 := h.c0
  go_enter Try.func47, Try.ntmps47
  go_wp2
  go_ret
  exact ⟨rfl, rfl⟩
set_option maxHeartbeats 400000 in
theorem slen_any (h : TextsAt w B b v f m l) : Calls Try.prog 28 #[rowP b] w fun e w' => e = .returned (.int .i64 l.length) ∧ w' = w := by
  have h0 := h.c2
  obtain ⟨a, cap, rfl, _⟩ := h.slice
  go_enter Try.func28, Try.ntmps28
  go_wp2
  go_ret
  exact ⟨rfl, rfl⟩
set_option maxHeartbeats 400000 in
theorem snext_any (h : TextsAt w B b v f m l) : Calls Try.prog 42 #[rowP b] w fun e w' => e = .returned (.int .u32 (Ser.step f l.length)) ∧ w' = w := by
  have hs := h.small
  go_enter Try.func42, Try.ntmps42
  go_wp2_with (first | (go_at_call 47; refine (sfrom_any h).mono ?_; rintro e w' ⟨rfl, rfl⟩) | (go_at_call 28; refine (slen_any h).mono ?_; rintro e w' ⟨rfl, rfl⟩) | (go_at_call 38; refine (step32 _ _ _ h.hf (by constructor <;> omega)).mono ?_; rintro e w' ⟨rfl, rfl⟩))
  go_ret
  exact ⟨rfl, rfl⟩
set_option maxHeartbeats 400000 in
theorem sfree_any (h : TextsAt w B b v f m l) : Calls Try.prog 41 #[rowP b] w fun e w' => e = .returned (.int .i64 (m - l.length)) ∧ ∃ q, w' = w.drewN q := by
  have h0 := h.c2
  have h1 := h.c1
  have hl := h.hl
  have hm := h.hm
  obtain ⟨a, cap, rfl, _⟩ := h.slice
  go_enter Try.func41, Try.ntmps41
  go_wp2_with fail
  go_quiet (fail)
  go_wp2
  go_ret
  exact ⟨rfl, _, rfl⟩

theorem rows_alloc {q e s n : Nat} {o : Obj} {xs : List Value} (h : w.ownsRow B e s v n xs) : ((w.drewN q).alloc o).ownsRow B e s v n xs := by
  refine ⟨h.1, ?_⟩
  rcases h.2 with h0 | ⟨g, cap, cur, h1, h2, h3, h4⟩
  · exact .inl h0
  · exact .inr ⟨g, cap, cur, h1, h2, (Below.heap_alloc (w.drewN q) _ _ (Array.getElem?_eq_some_iff.1 h3).1).trans h3, h4⟩
theorem infoS : (Try.prog.info? 9).map (fun i => (i.zero, i.size, i.bytes)) = some (some (.string ⟨#[]⟩), 1, 16) := by kernel_rfl
theorem wpList_append_text {w : World} {ops : Array Oper} {rest : List Oper} {o : Oper} {a : Act} {Q : Exit → Act → World → Prop} (hgd : o.guard = none) (s x : Operand)
    (ho : o.op = .call { callee := .builtin .append, args := #[s, x], argTypes := #[86, 86] }) (base : Nat) (l : List Value) (y : Value) (hv : w.ownsRow base 9 1 (a.eval s) l.length l) (ad : Addr) (hx : a.eval x = .slice (some ad) 1 1) (hy : y.oneCell' = true) (hc : w.cell? ad = some y)
    (hlen : l.length ≤ 1024) (hbase : base ≤ w.heap.size)
    (h : ∀ ad cap w', w'.ownsRow base 9 1 (.slice ad (l.length + 1) cap) (l ++ [y]).length (l ++ [y]) → w.grownBy w' (a.eval s).ownBlock → ((Value.slice ad (l.length + 1) cap).ownBlock = (a.eval s).ownBlock ∨ (Value.slice ad (l.length + 1) cap).ownBlock = some w.heap.size) → wpList Try.prog ops Q rest (a.put o.dst (.slice ad (l.length + 1) cap)) w') : wpList Try.prog ops Q (o :: rest) a w := by
  refine wpList_plain hgd fun K hK => ?_
  obtain ⟨i, hi, h2⟩ := Option.map_eq_some_iff.1 infoS
  simp only [Prod.mk.injEq] at h2
  obtain ⟨v', w', hr, h2, h3, h4, h5⟩ := run_append_own_at (P := Try.prog) w base 86 o.type 9 i (.string ⟨#[]⟩) 1 16 Try.underlying86 hi h2.1 h2.2.1 h2.2.2 rfl (by omega) (a.eval s) l.length l hv ad 1 1 [y] (by simp)
      (fun j u hu => by
        cases j with
        | zero => simp at hu; subst hu; simpa [Addr.add] using hc
        | succ j => simp at hu)
      (fun u hu => by simp at hu; subst hu; exact hy) (by unfold maxLen; omega) (by omega) hbase
  obtain ⟨a3, c3, rfl⟩ : ∃ a3 c3, v' = .slice a3 (l.length + 1) c3 := by
    rcases h2.2 with ⟨_, h0⟩ | ⟨g, cap, cur, rfl, _⟩
    · omega
    · exact ⟨_, _, rfl⟩
  unfold Oper.wp
  simp only [execOp, ho, resolve, invoke, builtin, Sem.run_bind, Sem.run_pure, Result.andThen_ok, List.map_toArray, List.map_cons, List.map_nil, hx, hr]
  exact hK _ _ (h a3 c3 w' (by simpa using h2) h3 h5)

set_option maxHeartbeats 1000000 in
theorem spush_any (h : TextsAt w B b v f m l) (x : ByteArray) (hroom : (l.length : Int) < m) : Calls Try.prog 27 #[rowP b, .string x] w fun e w' => e = .returned (.tuple #[.int .u32 (Ser.step f l.length), .nilIface]) ∧ ∃ v', TextsAt w' B b v' f m (l ++ [.string x]) ∧ Below B w w' := by
  have H : Hid (TextsAt w B b v f m l) := h
  have hm := h.hm
  have h0 : m - l.length ≠ 0 := by omega
  have hd : decide (m - (l.length : Int) = 0) = false := by simpa using h0
  have hs := h.small
  have hc2 := h.c2
  clear h
  go_enter Try.func27, Try.ntmps27
  go_wp2_with (first
    | (go_at_call 41; refine (sfree_any H.out).mono ?_; rintro e w' ⟨rfl, q, rfl⟩)
    | (go_at_call 42; refine (snext_any (H.out.drewN _)).mono ?_; rintro e w' ⟨rfl, rfl⟩)
    | (refine wpList_append_text rfl (.tmp 17) (.tmp 19) rfl B l (.string x) ?_ ⟨w.heap.size, 0, none⟩ rfl rfl ?_ ?_ ?_ ?_))
  · exact rows_alloc H.out.own
  · rw [cellNew _ _ _ _ _ _ (by simp)]; rfl
  · omega
  · have := H.out.lt; have := H.out.hB; simp; omega
  · intro ad cap w1 ho hg hown
    have hg2 : w.grownBy w1 v.ownBlock := grown_of_alloc hg
    have hne0 : v.ownBlock ≠ some b := fun e => by obtain ⟨_, _, _, hh⟩ := H.out.slice; exact (hh b e).2.2 rfl
    have hb := (hg2.block b H.out.lt (fun e => hne0 e.symm)).trans H.out.blk
    have k1 : w1.cell? ⟨b, 2, none⟩ = some v := cell_of_block hb 2
    have k2 : w1.frozen? ⟨b, 2, none⟩ = false := frozen_of_block hb 2
    have hfin := H.out.put2 (l' := l ++ [.string x]) hg2 (by simpa using ho) (own_or (v := v) hown (by simp)) (by simp; omega)
    have HF : Hid (TextsAt _ _ _ _ _ _ _ ∧ Below _ _ _) := hfin
    clear hfin hg2 hb ho hown hg hc2
    go_wp2
    go_ret2
    exact ⟨rfl, _, HF.out⟩
end

set_option maxHeartbeats 1000000 in
theorem snew_any (w : World) : Calls Try.prog 26 #[.int .u32 4294967295, .int .i64 2] w fun e w' => e = .returned (.tuple #[rowP w.heap.size, .nilIface]) ∧ TextsAt w' w.heap.size w.heap.size (.slice none 0 0) 4294967295 2 [] ∧ Ext w w' := by
  go_enter Try.func26, Try.ntmps26
  go_wp2
  go_ret2
  exact ⟨rfl, ⟨Array.getElem?_push_size, World.ownsRow_nil _ _ _ _, Nat.le_refl _, by omega, by omega, by simp⟩, Ext.alloc _ _⟩

set_option maxHeartbeats 1000000 in
theorem alive_any (w : World) : Calls Try.prog 8 #[] w fun e w' => e = .returned (.bool true) ∧ Ext w w' := by
  go_enter Try.func8, Try.ntmps8
  go_wp2_with (first
    | (go_at_call 26; refine (snew_any _).mono ?_; rintro e w1 ⟨rfl, h1, he1⟩; have H1 : Hid (TextsAt _ _ _ _ _ _ _) := h1; clear h1)
    | (go_at_call 27; refine (spush_any H1.out _ (by simp)).mono ?_; rintro e w2 ⟨rfl, v2, h2, he2⟩; have H2 : Hid (TextsAt _ _ _ _ _ _ _) := h2; clear h2 H1; have s1 : Ser.step 4294967295 (([] : List Value).length : Int) = 4294967295 := by decide)
    | (go_at_call 27; refine (spush_any H2.out _ (by simp)).mono ?_; rintro e w3 ⟨rfl, v3, h3, he3⟩; have H3 : Hid (TextsAt _ _ _ _ _ _ _) := h3; clear h3 H2)
    | (go_at_call 28; refine (slen_any H3.out).mono ?_; rintro e w' ⟨rfl, rfl⟩))
  go_ret
  exact ⟨rfl, (Below.trans he1 (Below.trans he2 he3) : Ext _ _)⟩
end Go.Proofs.Ytbongjdflnefmaa
