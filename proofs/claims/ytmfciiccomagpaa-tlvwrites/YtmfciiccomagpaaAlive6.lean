/- The chapter's example. No condition of its own. -/
import Derived.Test.YtmfciiccomagpaaTlv12
namespace Go.Proofs.Ytmfciiccomagpaa
namespace Tlv
open Go Go.RowKit
set_option linter.unusedVariables false
set_option linter.unusedSimpArgs false
set_option maxRecDepth 100000


/-- A text that stands in the law, as bytes. -/
theorem wl_conv {w : World} {ops : Array Oper} {rest : List Oper} {o : Oper} {a : Act} {Q : Exit → Act → World → Prop} (l : List Nat) (hgd : o.guard = none) {x : Operand} {C : Array Value} {m n c : Nat} (ho : o.op = .convert 26 26 x) (hx : a.eval x = .slice (some ⟨m, 0, none⟩) n c) (hm : m = w.heap.size) (hC : C = (cellsB l).toArray) (hn : n = l.length) (hc : c = l.length) (hl : AllB l) (h1000 : l.length ≤ 1000)
    (h : ∀ w', BytesAt w' (.slice (some ⟨m, 0, none⟩) n c) l → Ext w w' → w'.heap.size = w.heap.size + 1 → wpList Try.prog ops Q rest (a.put o.dst (.slice (some ⟨m, 0, none⟩) n c)) w') : wpList Try.prog ops Q (o :: rest) a (w.alloc (.cells C 5)) := by
  subst hm hC hn hc
  refine wpList_of_run hgd (v := .slice (some ⟨w.heap.size, 0, none⟩) l.length l.length) (w' := w.alloc (.cells (cellsB l).toArray 5 ((cellsB l).toArray.size, (cellsB l).toArray.size + 1))) ?_ (h _ ?_ (Ext.alloc _ _) (by simp))
  · have := Lib.run_convert_bytes_const (P := Try.prog) w 26 5 (cellsB l).toArray l.length l.length Try.underlying26 Try.underlying5
    simp only [execOp, ho, hx, Sem.run_bind, this, Result.andThen_ok]
    rfl
  · refine ⟨hl, by unfold maxLen; omega, .inr ⟨⟨w.heap.size, 0, none⟩, l.length, rfl, Nat.le_refl _, by unfold maxLen; omega, fun j hj => ?_⟩⟩
    rw [add_plain, Nat.zero_add, cellNew _ _ _ _ _ _ rfl]
    have := bA_get l j hj
    exact this
theorem ParsAt.one (w : World) (n : Nat) (hn : n = w.heap.size) {t : TypeId} {k : Int} {u : Value} {m : List Nat} (hu : BytesAt w u m) : ParsAt (w.alloc (.cells #[.int .i64 k, u] t)) (.slice (some ⟨n, 0, none⟩) 1 1) [(k, m)] := by
  refine ⟨by simp [maxLen], _, _, rfl, fun i p hp => ?_⟩
  have hi := (List.getElem?_eq_some_iff.1 hp).1
  obtain rfl : i = 0 := by simp at hi; exact hi
  simp at hp
  subst hp
  exact ⟨n, 0, u, rfl, cellNew _ _ _ _ _ _ hn, cellNew _ _ _ _ _ _ hn, hu.ext (Ext.alloc _ _)⟩
theorem write_good {w : World} {v : Value} {L : List Par} (hv : ParsAt w v L) (hlen : (writeB L).length ≤ 700000) (hL : L.length ≤ 100000) (hg : ∀ p ∈ L, goodP p = true) :
    Calls Try.prog 29 #[v] w fun e w' => Ext w w' ∧ ∃ a n c, e = .returned (.tuple #[.slice a n c, .nilIface]) ∧ n = (writeB L).length ∧ OB w' w.heap.size (.slice a n c) (writeB L) :=
  (write_any hv hlen hL).mono fun e w' h => by
    obtain ⟨h1, ⟨a, n, c, h2, h3, h4, _⟩ | ⟨_, p, hp, h5⟩⟩ := h
    · exact ⟨h1, a, n, c, h2, h3, h4⟩
    · rw [hg p hp] at h5; cases h5
theorem write_bad {w : World} {v : Value} {L : List Par} (hv : ParsAt w v L) (hlen : (writeB L).length ≤ 700000) (hL : L.length ≤ 100000) (hg : ¬ ∀ p ∈ L, goodP p = true) :
    Calls Try.prog 29 #[v] w fun e w' => Ext w w' ∧ e = .returned (.tuple #[.slice none 0 0, errF]) :=
  (write_any hv hlen hL).mono fun e w' h => by
    obtain ⟨h1, ⟨a, n, c, h2, h3, h4, h5⟩ | ⟨h5, _⟩⟩ := h
    · exact absurd h5 hg
    · exact ⟨h1, h5⟩
theorem params_some {w : World} {v : Value} {B : List Nat} {L : List Par} (hv : BytesAt w v B) (hB : B.length ≤ 100000) (hL : readAll B = some L) :
    Calls Try.prog 31 #[v] w fun e w' => Ext w w' ∧ ∃ lv, e = .returned (.tuple #[lv, .nilIface]) ∧ OwnL 75 w' w.heap.size lv L :=
  (params_any hv hB).mono fun e w' h => by
    obtain ⟨h1, ⟨h2, _⟩ | ⟨L', lv, h2, h3, h4⟩⟩ := h
    · rw [hL] at h2; cases h2
    · rw [hL] at h2; cases h2; exact ⟨h1, lv, h3, h4⟩
theorem params_none {w : World} {v : Value} {B : List Nat} (hv : BytesAt w v B) (hB : B.length ≤ 100000) (hL : readAll B = none) :
    Calls Try.prog 31 #[v] w fun e w' => Ext w w' ∧ e = .returned (.tuple #[.slice none 0 0, errF]) :=
  (params_any hv hB).mono fun e w' h => by
    obtain ⟨h1, ⟨_, h2⟩ | ⟨L', lv, h2, _⟩⟩ := h
    · exact ⟨h1, h2⟩
    · rw [hL] at h2; cases h2
theorem exB : writeB [((5 : Int), [97, 98])] = [0, 5, 0, 6, 97, 98, 0, 0] := by decide
theorem exL : readAll [0, 5, 0, 6, 97, 98, 0, 0] = some [((5 : Int), [97, 98])] := by
  rw [← exB]
  exact readAll_write _ (fun p hp => by simp at hp; subst hp; decide)
theorem strT : Try.prog.underlying 9 = some .string := Try.underlying9
theorem exS : strOf [0, 5, 0, 6, 97, 98, 0, 0] = ⟨#[0, 5, 0, 6, 97, 98, 0, 0]⟩ := by decide

set_option maxHeartbeats 4000000 in
theorem alive_any (w : World) : Calls Try.prog 7 #[] w fun e w' => e = .returned (.bool true) ∧ Ext w w' := by
  go_enter Try.func7, Try.ntmps7
  obtain ⟨q0, hq0⟩ : ∃ q, q = w.heap.size := ⟨_, rfl⟩
  go_wp2_with (first
    | (refine wl_conv [97, 98] rfl rfl rfl rfl rfl rfl rfl (by decide) (by decide) ?_; intro w1 hb1 he1 hx; clear hx)
    | (go_at_call 29; refine (write_good (L := [((5 : Int), [97, 98])]) (ParsAt.one w1 _ rfl hb1) (by rw [exB]; decide) (by decide) (fun p hp => by simp at hp; subst hp; decide)).mono ?_; rintro e w2 ⟨he2, a2, n2, c2, rfl, hn2, ho2⟩; rw [exB] at ho2 hn2; have hn2' : n2 = 8 := hn2; subst hn2'; clear hn2; have HE2 : Hid (Ext w w2) := (he1.trans (Ext.alloc _ _)).trans he2)
    | (go_at_call 31; refine (params_some ho2.bytes (by decide) exL).mono ?_; rintro e w3 ⟨he3, lv, rfl, hl3⟩; have HE3 : Hid (Ext w w3) := HE2.out.trans he3; have hs1 := run_string_bytes byteT strT w3 _ _ (ho2.ext he3).bytes; rw [exS] at hs1; obtain ⟨_, la, lc, rfl, hlc⟩ := hl3.pars; obtain ⟨lb, loff, lu, rfl, hc0, _, _⟩ := hlc 0 _ rfl; have hc1 : w3.cell? ⟨lb, loff, none⟩ = some (.int .i64 5) := hc0; clear hc0))
  go_ret
  exact ⟨rfl, HE3.out⟩
end Tlv
end Go.Proofs.Ytmfciiccomagpaa
