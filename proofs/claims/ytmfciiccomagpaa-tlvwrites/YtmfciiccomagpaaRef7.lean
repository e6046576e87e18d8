/- The document's noughts; lists of things. No condition of its own. -/
import Derived.Test.YtmfciiccomagpaaRef6
namespace Go.Proofs.Ytmfciiccomagpaa
namespace Tlv
open Go Go.RowKit
set_option linter.unusedVariables false
set_option linter.unusedSimpArgs false
set_option maxRecDepth 100000


theorem rep_snoc (k : Nat) : List.replicate (k + 1) 0 = List.replicate k 0 ++ [0] := List.replicate_succ'
set_option maxHeartbeats 2000000 in
theorem refPad_any {w : World} {v : Value} {l : List Nat} (hv : BytesAt w v l) (hl : l.length ≤ 800000) :
    Calls Try.prog 13 #[v] w fun e w' => ∃ a n c, e = .returned (.slice a n c) ∧ n = (padB l).length ∧ OB w' w.heap.size (.slice a n c) (padB l) ∧ Ext w w' := by
  have H : Hid (BytesAt w v l ∧ l.length ≤ 800000) := ⟨hv, hl⟩
  clear hv hl
  go_enter Try.func13, Try.ntmps13
  go_wp2_with (first
    | (at_builtin; refine wl_app (l := []) (m := l) (u := v) (base := w.heap.size) rfl rfl rfl rfl (OB.lit0 w _ _ rfl (Nat.le_refl _)) (H.out.1.ext (Ext.alloc _ _)) (by have := H.out; simp; omega) (by simp) ?_; intro ad n cap w1 hn1 ho1 hk1 hg1; rw [List.nil_append] at ho1))
  have HO : Hid (n = l.length ∧ OB w1 w.heap.size (.slice ad n cap) l ∧ Ext w w1) := ⟨by rw [hn1.out]; simp, ho1, (Ext.alloc _ _).of_but hk1 (fun k e => by cases e; exact Nat.le_refl _)⟩
  clear hn1 ho1 hk1 hg1
  go_loopg [3] (pads l.length) (fun gm x wr => ∃ (k : Nat) (a : Option Addr) (n c : Nat), k ≤ pads l.length ∧ gm = pads l.length - k ∧ x = .slice a n c ∧ Hid (n = l.length + k ∧ OB wr w.heap.size (.slice a n c) (l ++ List.replicate k 0) ∧ Ext w wr))
  case atStart => exact ⟨0, _, _, _, Nat.zero_le _, rfl, rfl, HO.out.1, by rw [List.replicate_zero, List.append_nil]; exact HO.out.2.1, HO.out.2.2⟩
  case round =>
    obtain ⟨k, a, n, c, hk, rfl, rfl, HR⟩ := hrel
    have HPL : Hid (pads l.length < 4) := pads_lt _
    by_cases hlt : k < pads l.length
    · have f1 : (n : Int) % 4 ≠ 0 := by have := HR.out.1; unfold pads at hlt; omega
      have g1 : ((n : Int) % 4 == 0) = false := beq_false_of_ne f1
      have k1 : ((n : Int) % 4 != 0) = true := by simp [f1]
      have e1 : decide ((n : Int) % 4 = 0) = false := decide_eq_false f1
      clear f1
      go_wp2_with (first
        | (at_builtin; refine wl_push (l := l ++ List.replicate k 0) (y := 0) (v := .slice a n c) rfl rfl rfl (by decide) rfl rfl rfl HR.out.2.1 (by have := H.out; have := HPL.out; simp; omega) HR.out.2.2.size ?_; intro ad2 n2 cap2 w2 hn2 ho2 hk2; rw [List.append_assoc, ← rep_snoc] at ho2))
      go_roundg (pads l.length - (k + 1))
      case measure => omega
      case rel => exact ⟨k + 1, _, _, _, by omega, rfl, rfl, by rw [hn2.out]; simp; omega, ho2, HR.out.2.2.of_but hk2 (fun k e => (HR.out.2.1.lt e).1)⟩
    · obtain rfl : k = pads l.length := by omega
      have f1 : (n : Int) % 4 = 0 := by have := HR.out.1; have := pads_add l.length; omega
      have g1 : ((n : Int) % 4 == 0) = true := by simp [f1]
      have k1 : ((n : Int) % 4 != 0) = false := by simp [f1]
      have e1 : decide ((n : Int) % 4 = 0) = true := decide_eq_true f1
      clear f1
      go_wp2
      go_ret
      exact ⟨_, _, _, rfl, by rw [padB_len]; exact HR.out.1, HR.out.2.1, HR.out.2.2⟩

/-- A thing: its kind, its size, its number, its bytes. -/
structure Th where
  kind : Int
  size : Int
  n : Nat
  b : List Nat
def ThingsAt (w : World) (v : Value) (T : List Th) : Prop :=
  T.length ≤ maxLen ∧ ∃ a cap, v = .slice a T.length cap ∧ ∀ i t, T[i]? = some t → ∃ b off u, a = some ⟨b, off, none⟩ ∧ w.cell? ⟨b, off + i * 4, none⟩ = some (.int .i64 t.kind) ∧ w.cell? ⟨b, off + i * 4 + 1, none⟩ = some (.int .i64 t.size) ∧ w.cell? ⟨b, off + i * 4 + 2, none⟩ = some (.int .u64 (t.n : Int)) ∧ w.cell? ⟨b, off + i * 4 + 3, none⟩ = some u ∧ BytesAt w u t.b
theorem ThingsAt.ext {w w' : World} {v : Value} {T : List Th} (h : ThingsAt w v T) (he : Ext w w') : ThingsAt w' v T := by
  obtain ⟨h1, a, cap, rfl, hc⟩ := h
  refine ⟨h1, a, cap, rfl, fun i p hp => ?_⟩
  obtain ⟨b, off, u, e, h2, h3, h4, h5, h6⟩ := hc i p hp
  exact ⟨b, off, u, e, he.cell h2, he.cell h3, he.cell h4, he.cell h5, h6.ext he⟩
theorem rowT : RowT Try.prog 31 4 := ⟨⟨_, Try.underlying31, rfl⟩, by kernel_rfl⟩
theorem zeroT : (Try.prog.info? 31).bind (·.zero) = some (.agg #[.int .i64 0, .int .i64 0, .int .u64 0, .slice none 0 0]) := by kernel_rfl
/-- A thing loaded. -/
theorem wl_load4 {w : World} {ops : Array Oper} {rest : List Oper} {o : Oper} {a : Act} {Q : Exit → Act → World → Prop} (hgd : o.guard = none) {t : TypeId} (hT : RowT Try.prog t 4) {x : Operand} {b off : Nat} {v0 v1 v2 v3 : Value} (ho : o.op = .load t x) (hx : a.eval x = .pointer (some ⟨b, off, none⟩)) (h0 : w.cell? ⟨b, off, none⟩ = some v0) (h1 : w.cell? ⟨b, off + 1, none⟩ = some v1) (h2 : w.cell? ⟨b, off + 2, none⟩ = some v2) (h3 : w.cell? ⟨b, off + 3, none⟩ = some v3)
    (h : wpList Try.prog ops Q rest (a.put o.dst (.agg #[v0, v1, v2, v3])) w) : wpList Try.prog ops Q (o :: rest) a w :=
  wpList_of_run hgd (exec_loadC hT ho hx [v0, v1, v2, v3] (fun j v hv => by
    match j with
    | 0 => simp at hv; subst hv; exact h0
    | 1 => simp at hv; subst hv; exact h1
    | 2 => simp at hv; subst hv; exact h2
    | 3 => simp at hv; subst hv; exact h3
    | j + 4 => simp at hv) rfl) h
theorem one_th (k s : Int) (n : Int) (u : Value) (hu : u.oneCell' = true) : ∀ v ∈ (#[Value.int .i64 k, .int .i64 s, .int .u64 n, u] : Array Value).toList, v.oneCell' = true := by
  intro v hv
  simp at hv
  rcases hv with rfl | rfl | rfl | rfl
  · rfl
  · rfl
  · rfl
  · exact hu
def bsum (T : List Th) : Nat := (T.map (fun t => t.b.length)).sum
theorem bsum_snoc (T : List Th) (t : Th) : bsum (T ++ [t]) = bsum T + t.b.length := by simp [bsum]
theorem take_th {L : List Th} {i : Nat} {p : Th} (h : L[i]? = some p) : L.take (i + 1) = L.take i ++ [p] := by
  have hi := (List.getElem?_eq_some_iff.1 h)
  rw [List.take_succ_eq_append_getElem hi.1, hi.2]

/-- What 'long' answers. -/
def longB (T : List Th) : Bool := !(decide (T.length ≤ 41) && decide (bsum T ≤ 3000))
theorem longB_true {T : List Th} (h : 41 < T.length ∨ 3000 < bsum T) : longB T = true := by
  unfold longB
  rcases h with h | h
  · rw [decide_eq_false (by omega)]; rfl
  · rw [decide_eq_false (by omega : ¬ bsum T ≤ 3000)]; simp
theorem longB_false {T : List Th} (h1 : T.length ≤ 41) (h2 : bsum T ≤ 3000) : longB T = false := by unfold longB; simp [h1, h2]
theorem longB_of {T : List Th} (h : longB T = false) : T.length ≤ 41 ∧ bsum T ≤ 3000 := by
  unfold longB at h; simpa using h
theorem bsum_take (T : List Th) (i : Nat) : bsum (T.take i) ≤ bsum T := by
  have e : bsum T = bsum (T.take i) + bsum (T.drop i) := by
    unfold bsum
    rw [← List.sum_append, ← List.map_append, List.take_append_drop]
  omega
def LongIs (w : World) (T : List Th) (e : Ending) (w' : World) : Prop := Ext w w' ∧ e = .returned (.bool (longB T))
set_option maxHeartbeats 2000000 in
theorem long_any {w : World} {v : Value} {T : List Th} (hv : ThingsAt w v T) :
    Calls Try.prog 8 #[v] w (LongIs w T) := by
  obtain ⟨hmx, a, cap, rfl, hc⟩ := hv
  have HC : Hid (∀ i t, T[i]? = some t → ∃ b off u, a = some ⟨b, off, none⟩ ∧ w.cell? ⟨b, off + i * 4, none⟩ = some (.int .i64 t.kind) ∧ w.cell? ⟨b, off + i * 4 + 1, none⟩ = some (.int .i64 t.size) ∧ w.cell? ⟨b, off + i * 4 + 2, none⟩ = some (.int .u64 (t.n : Int)) ∧ w.cell? ⟨b, off + i * 4 + 3, none⟩ = some u ∧ BytesAt w u t.b) := hc
  clear hc
  obtain ⟨n, hn⟩ : ∃ n, n = T.length := ⟨_, rfl⟩
  have HN : Hid (n = T.length) := hn
  rw [← hn] at hmx ⊢
  clear hn
  have hn63 : (n : Int) ≤ 9223372036854775807 := by unfold maxLen at hmx; omega
  clear hmx
  go_enter Try.func8, Try.ntmps8
  go_wp2
  go_loopg [3, 8] n (fun gm x t wr => ∃ (i s : Nat), i ≤ n ∧ gm = n - i ∧ x = .int .i64 (s : Int) ∧ t = .int .i64 (i : Int) ∧ i ≤ 41 ∧ s ≤ 3000 ∧ Hid (s = bsum (T.take i) ∧ Ext w wr))
  case atStart => exact ⟨0, 0, Nat.zero_le _, rfl, rfl, rfl, by decide, by decide, rfl, Ext.refl _⟩
  case round =>
    obtain ⟨i, s, hi, rfl, rfl, rfl, h41, h3000, HR⟩ := hrel
    by_cases hlt : i < n
    · have hd : decide ((i : Int) < (n : Int)) = true := decide_eq_true (by omega)
      obtain ⟨p, hp⟩ : ∃ p, T[i]? = some p := ⟨T[i]'(by rw [← HN.out]; exact hlt), by simp⟩
      have HP : Hid (bsum (T.take (i + 1)) = bsum (T.take i) + p.b.length) := show _ = _ by rw [take_th hp, bsum_snoc]
      obtain ⟨b, off, u, rfl, hc0, hc1, hc2, hc3, hbu⟩ := HC.out i p hp
      clear hp
      have c0 := HR.out.2.cell hc0
      have c1 := HR.out.2.cell hc1
      have c2 := HR.out.2.cell hc2
      have c3 := HR.out.2.cell hc3
      clear hc0 hc1 hc2 hc3
      obtain ⟨pk, ps, pn, pb⟩ := p
      obtain ⟨ua, uc, rfl, hum, _⟩ := hbu.form
      clear hbu
      simp only at c0 c1 c2 c3 HP hum
      obtain ⟨m, hm⟩ : ∃ m, m = pb.length := ⟨_, rfl⟩
      rw [← hm] at c3 HP hum
      clear hm
      have HM : Hid (m ≤ uc ∧ uc ≤ maxLen) := hum
      have hm63 : (m : Int) ≤ 9223372036854775807 := by unfold maxLen at hum; omega
      clear hum
      have LD : ∀ {w2 : World}, Blk w2 wr.heap.size #[.int .i64 pk, .int .i64 ps, .int .u64 (pn : Int), .slice ua m uc] 31 → w2.cell? ⟨wr.heap.size, 3, none⟩ = some (.slice ua m uc) := fun h => h.cell 3
      by_cases hi40 : i ≤ 40
      · have hd1 : decide ((i : Int) > 40) = false := decide_eq_false (by omega)
        by_cases hm1 : m ≤ 10000
        · have hmn : min (m : Int) 10000 = (m : Int) := by omega
          by_cases hs1 : s + m ≤ 3000
          · have hd2 : decide (((s : Int) + (m : Int)) > 3000) = false := decide_eq_false (by omega)
            go_wp2_with (first
              | (refine wl_load4 rfl rowT rfl rfl c0 c1 c2 c3 ?_)
              | (refine wl_alloc rfl rfl zeroT ?_; intro w2 hb2 he2 hx; clear hx)
              | (refine wl_store (D := #[.int .i64 pk, .int .i64 ps, .int .u64 (pn : Int), .slice ua m uc]) rfl rowT rfl rfl rfl hb2 rfl rfl (one_th _ _ _ _ rfl) ?_; intro w3 hb3 hk3 hx; clear hx; have c4 := LD hb3; have HE3 : Hid (Ext wr w3) := he2.of_but hk3 (fun q e => by subst e; exact Nat.le_refl _); clear hk3 he2 hb2 hb3))
            go_roundg (n - (i + 1))
            case measure => omega
            case rel => exact ⟨i + 1, s + m, by omega, rfl, by simp, by simp, by omega, hs1, by rw [HP.out, HR.out.1], HR.out.2.trans HE3.out⟩
          · have hd2 : decide (((s : Int) + (m : Int)) > 3000) = true := decide_eq_true (by omega)
            go_wp2_with (first
              | (refine wl_load4 rfl rowT rfl rfl c0 c1 c2 c3 ?_)
              | (refine wl_alloc rfl rfl zeroT ?_; intro w2 hb2 he2 hx; clear hx)
              | (refine wl_store (D := #[.int .i64 pk, .int .i64 ps, .int .u64 (pn : Int), .slice ua m uc]) rfl rowT rfl rfl rfl hb2 rfl rfl (one_th _ _ _ _ rfl) ?_; intro w3 hb3 hk3 hx; clear hx; have c4 := LD hb3; have HE3 : Hid (Ext wr w3) := he2.of_but hk3 (fun q e => by subst e; exact Nat.le_refl _); clear hk3 he2 hb2 hb3))
            go_ret
            exact ⟨HR.out.2.trans HE3.out, by rw [longB_true (by have h1 := HP.out; have h2 := HR.out.1; have h3 := bsum_take T (i + 1); have h4 := HN.out; omega)]; rfl⟩
        · have hmn : min (m : Int) 10000 = 10000 := by omega
          have hd2 : decide (((s : Int) + 10000) > 3000) = true := decide_eq_true (by omega)
          go_wp2_with (first
            | (refine wl_load4 rfl rowT rfl rfl c0 c1 c2 c3 ?_)
            | (refine wl_alloc rfl rfl zeroT ?_; intro w2 hb2 he2 hx; clear hx)
            | (refine wl_store (D := #[.int .i64 pk, .int .i64 ps, .int .u64 (pn : Int), .slice ua m uc]) rfl rowT rfl rfl rfl hb2 rfl rfl (one_th _ _ _ _ rfl) ?_; intro w3 hb3 hk3 hx; clear hx; have c4 := LD hb3; have HE3 : Hid (Ext wr w3) := he2.of_but hk3 (fun q e => by subst e; exact Nat.le_refl _); clear hk3 he2 hb2 hb3))
          go_ret
          exact ⟨HR.out.2.trans HE3.out, by rw [longB_true (by have h1 := HP.out; have h2 := HR.out.1; have h3 := bsum_take T (i + 1); have h4 := HN.out; omega)]; rfl⟩
      · have hd1 : decide ((i : Int) > 40) = true := decide_eq_true (by omega)
        by_cases hm1 : m ≤ 10000
        · have hmn : min (m : Int) 10000 = (m : Int) := by omega
          go_wp2_with (first
            | (refine wl_load4 rfl rowT rfl rfl c0 c1 c2 c3 ?_)
            | (refine wl_alloc rfl rfl zeroT ?_; intro w2 hb2 he2 hx; clear hx)
            | (refine wl_store (D := #[.int .i64 pk, .int .i64 ps, .int .u64 (pn : Int), .slice ua m uc]) rfl rowT rfl rfl rfl hb2 rfl rfl (one_th _ _ _ _ rfl) ?_; intro w3 hb3 hk3 hx; clear hx; have c4 := LD hb3; have HE3 : Hid (Ext wr w3) := he2.of_but hk3 (fun q e => by subst e; exact Nat.le_refl _); clear hk3 he2 hb2 hb3))
          go_ret
          exact ⟨HR.out.2.trans HE3.out, by rw [longB_true (by have h1 := HP.out; have h2 := HR.out.1; have h3 := bsum_take T (i + 1); have h4 := HN.out; omega)]; rfl⟩
        · have hmn : min (m : Int) 10000 = 10000 := by omega
          go_wp2_with (first
            | (refine wl_load4 rfl rowT rfl rfl c0 c1 c2 c3 ?_)
            | (refine wl_alloc rfl rfl zeroT ?_; intro w2 hb2 he2 hx; clear hx)
            | (refine wl_store (D := #[.int .i64 pk, .int .i64 ps, .int .u64 (pn : Int), .slice ua m uc]) rfl rowT rfl rfl rfl hb2 rfl rfl (one_th _ _ _ _ rfl) ?_; intro w3 hb3 hk3 hx; clear hx; have c4 := LD hb3; have HE3 : Hid (Ext wr w3) := he2.of_but hk3 (fun q e => by subst e; exact Nat.le_refl _); clear hk3 he2 hb2 hb3))
          go_ret
          exact ⟨HR.out.2.trans HE3.out, by rw [longB_true (by have h1 := HP.out; have h2 := HR.out.1; have h3 := bsum_take T (i + 1); have h4 := HN.out; omega)]; rfl⟩
    · have hd : decide ((i : Int) < (n : Int)) = false := decide_eq_false (by omega)
      have HT : Hid (T.take i = T) := List.take_of_length_le (by rw [← HN.out]; omega)
      go_wp2
      go_ret
      refine ⟨HR.out.2, ?_⟩
      have h1 := HR.out.1
      rw [HT.out] at h1
      rw [longB_false (by rw [← HN.out]; omega) (by omega)]; rfl
end Tlv
end Go.Proofs.Ytmfciiccomagpaa
