/- Texts of the seat, one behind the other. No condition of its own. -/
import Derived.Test.YtobkgaceallegaaChkC3
import Derived.BigQuiet
import Derived.Deep.QuietTactic
/- Parameters written. No condition of its own. -/
namespace Go.Proofs.Ytobkgaceallegaa
namespace Tlv
open Go Go.RowKit
set_option linter.unusedVariables false
set_option linter.unusedSimpArgs false
set_option maxRecDepth 100000


theorem zeroO : (Try.prog.info? 74).bind (·.zero) = some (.agg #[.slice none 0 0]) := by kernel_rfl
theorem Moved.extO {w0 w w' : World} {base g : Nat} {v v' : Value} {l : List Nat} (hm : Moved w w' g v v') (ho : OutAt w base g v l) (he : Ext w0 w) (hb : w0.heap.size ≤ base) (hg : w0.heap.size ≤ g) : Ext w0 w' :=
  he.of_but hm.keep (fun k e => e.elim (fun e => by omega) (fun e => Nat.le_trans hb (ho.own.lt e).1))
theorem writeB_app (A B : List Par) : writeB (A ++ B) = writeB A ++ writeB B := by simp [writeB]
theorem writeB_take (L : List Par) (i : Nat) : (writeB (L.take i)).length ≤ (writeB L).length := by
  have e : writeB L = writeB (L.take i) ++ writeB (L.drop i) := by rw [← writeB_app, List.take_append_drop]
  have e2 := congrArg List.length e
  rw [List.length_append] at e2
  omega
theorem goodP_of {k : Int} {m : List Nat} (h1 : isKd k = true) (h2 : m.length ≤ 4000) : goodP (k, m) = true := by
  unfold isKd at h1; simp at h1
  rw [goodP_iff]; exact ⟨h1.1, h1.2, h2⟩
theorem good_kd {p : Par} (h : goodP p = true) : isKd p.1 = true ∧ p.2.length ≤ 4000 := by
  have := (goodP_iff p).1 h
  exact ⟨by unfold isKd; simp; omega, this.2.2⟩
theorem take_getD {L : List Par} {i : Nat} {p : Par} (h : L[i]? = some p) : L.take (i + 1) = L.take i ++ [p] := by
  have hi := (List.getElem?_eq_some_iff.1 h)
  rw [List.take_succ_eq_append_getElem hi.1, hi.2]

/-- What Write answers. -/
def WriteIs (w : World) (L : List Par) (e : Ending) (w' : World) : Prop :=
  Ext w w' ∧ ((∃ a n c, e = .returned (.tuple #[.slice a n c, .nilIface]) ∧ n = (writeB L).length ∧ OB w' w.heap.size (.slice a n c) (writeB L) ∧ ∀ p ∈ L, goodP p = true) ∨ (e = .returned (.tuple #[.slice none 0 0, errF]) ∧ ∃ p ∈ L, goodP p = false))

set_option maxHeartbeats 4000000 in
theorem write_any {w : World} {v : Value} {L : List Par} (hv : ParsAt w v L) (hlen : (writeB L).length ≤ 700000) (hL : L.length ≤ 100000) :
    Calls Try.prog 89 #[v] w (WriteIs w L) := by
  obtain ⟨_, a, cap, rfl, hc⟩ := hv
  have HC : Hid (∀ i p, L[i]? = some p → ∃ b off u, a = some ⟨b, off, none⟩ ∧ w.cell? ⟨b, off + i * 2, none⟩ = some (.int .i64 p.1) ∧ w.cell? ⟨b, off + i * 2 + 1, none⟩ = some u ∧ BytesAt w u p.2) := hc
  have HL : Hid ((writeB L).length ≤ 700000) := hlen
  clear hc hlen
  obtain ⟨n, hn⟩ : ∃ n, n = L.length := ⟨_, rfl⟩
  have HN : Hid (n = L.length) := hn
  rw [← hn] at hL ⊢
  clear hn
  go_enter Try.func89, Try.ntmps89
  go_wp2_with (first
    | (refine wl_alloc rfl rfl zeroO ?_; intro w1 hb1 he1 hx; clear hx))
  have HO : Hid (OutAt w1 w.heap.size w.heap.size (.slice none 0 0) [] ∧ Ext w w1) := ⟨⟨hb1, OB.nil _ _⟩, he1⟩
  clear hb1 he1
  go_loopg [9] n (fun gm t wr => ∃ (i : Nat) (v1 : Value), i ≤ n ∧ gm = n - i ∧ t = .int .i64 (i : Int) ∧ Hid (OutAt wr w.heap.size w.heap.size v1 (writeB (L.take i)) ∧ Ext w wr ∧ ∀ p ∈ L.take i, goodP p = true))
  case atStart => exact ⟨0, _, Nat.zero_le _, rfl, rfl, HO.out.1, HO.out.2, fun p hp => by cases hp⟩
  case round =>
    obtain ⟨i, v1, hi, rfl, rfl, HR⟩ := hrel
    by_cases hlt : i < n
    · have hd : decide ((i : Int) < (n : Int)) = true := decide_eq_true (by omega)
      obtain ⟨p, hp⟩ : ∃ p, L[i]? = some p := ⟨L[i]'(by rw [← HN.out]; exact hlt), by simp⟩
      have HP : Hid (L[i]? = some p ∧ L.take (i + 1) = L.take i ++ [p] ∧ p ∈ L) := ⟨hp, take_getD hp, List.mem_of_getElem? hp⟩
      obtain ⟨b, off, u, rfl, hc0, hc1, hbu⟩ := HC.out i p hp
      clear hp
      have c0 := HR.out.2.1.cell hc0
      have c1 := HR.out.2.1.cell hc1
      clear hc0 hc1
      obtain ⟨k, m⟩ := p
      obtain ⟨ua, uc, rfl, _, _⟩ := hbu.form
      rename_i z1 z2
      clear z1 z2
      have HU : Hid (BytesAt w (.slice ua m.length uc) m ∧ Off w.heap.size v1 (.slice ua m.length uc) m) := ⟨hbu, fun hne q hq => by
        have h1 := bytes_lt hbu hne hq
        exact ⟨by omega, fun e => by have := (HR.out.1.own.lt e).1; omega⟩⟩
      clear hbu
      have LD : ∀ {w2 : World}, Blk w2 wr.heap.size #[.int .i64 k, .slice ua m.length uc] 138 → w2.cell? ⟨wr.heap.size, 0, none⟩ = some (.int .i64 k) ∧ w2.cell? ⟨wr.heap.size, 1, none⟩ = some (.slice ua m.length uc) := fun h => ⟨h.cell 0, h.cell 1⟩
      cases hkd : isKd k with
      | false =>
        go_wp2_with (first
          | (refine wl_loadP rfl rowP rfl rfl c0 c1 ?_)
          | (refine wl_alloc rfl rfl zeroP ?_; intro w2 hb2 he2 hx; clear hx)
          | (refine wl_store (D := #[.int .i64 k, .slice ua m.length uc]) rfl rowP rfl rfl rfl hb2 rfl rfl (one_par _ _ rfl) ?_; intro w3 hb3 hk3 hx; clear hx; have c3 := (LD hb3).1; have c4 := (LD hb3).2; have HE3 : Hid (Ext wr w3) := he2.of_but hk3 (fun q e => by subst e; exact Nat.le_refl _); clear hk3 he2 hb2)
          | (go_at_call 97; refine (isKind_any _ _).mono ?_; rintro e w4 ⟨rfl, hw⟩; subst w4; rw [hkd]))
        go_ret2
        exact ⟨HR.out.2.1.trans HE3.out, .inr ⟨rfl, (k, m), HP.out.2.2, by
          cases hg : goodP (k, m) with
          | false => rfl
          | true => have := (good_kd hg).1; rw [show isKd (k, m).1 = isKd k from rfl, hkd] at this; cases this⟩⟩
      | true =>
        by_cases hm : m.length ≤ 4000
        · have hdm : decide ((m.length : Int) > 4000) = false := decide_eq_false (by omega)
          have hgood := goodP_of hkd hm
          obtain ⟨K, rfl⟩ : ∃ K : Nat, k = (K : Int) := ⟨k.toNat, by have := (goodP_iff (k, m)).1 hgood; simp only at this; omega⟩
          have hK : K < 65536 := by have := (goodP_iff ((K : Int), m)).1 hgood; simp only at this; omega
          have HG : Hid (goodP ((K : Int), m) = true ∧ writeB (L.take (i + 1)) = writeB (L.take i) ++ parB ((K : Int), m)) := ⟨hgood, by rw [HP.out.2.1, writeB_snoc]⟩
          clear hgood
          go_wp2_with (first
            | (have q := HE3; clear q; refine wl_load rfl rowP rfl rfl hb3 rfl ?_)
            | (refine wl_loadP rfl rowP rfl rfl c0 c1 ?_)
            | (refine wl_alloc rfl rfl zeroP ?_; intro w2 hb2 he2 hx; clear hx)
            | (refine wl_store (D := #[.int .i64 (K : Int), .slice ua m.length uc]) rfl rowP rfl rfl rfl hb2 rfl rfl (one_par _ _ rfl) ?_; intro w3 hb3 hk3 hx; clear hx; have c3 := (LD hb3).1; have c4 := (LD hb3).2; have HE3 : Hid (Ext wr w3) := he2.of_but hk3 (fun q e => by subst e; exact Nat.le_refl _); clear hk3 he2 hb2)
            | (go_at_call 97; refine (isKind_any _ _).mono ?_; rintro e w4 ⟨rfl, hw⟩; subst w4; rw [hkd])
            | (go_at_call 98; refine (outParam_any (HR.out.1.ext HE3.out) K hK (HU.out.1.ext (HR.out.2.1.trans HE3.out)) HU.out.2 hm (writeB_mod _) (by have := writeB_take L i; have := HL.out; omega) (Nat.le_trans HR.out.2.1.size HE3.out.size)).mono ?_; rintro e w5 ⟨⟨y5, rfl⟩, v5, ho5, hm5⟩))
          go_roundg (n - (i + 1))
          case measure => omega
          case rel =>
            refine ⟨i + 1, v5, by omega, rfl, by simp, by rw [HG.out.2]; exact ho5, hm5.extO (HR.out.1.ext HE3.out) (HR.out.2.1.trans HE3.out) (Nat.le_refl _) (Nat.le_refl _), fun p hp => ?_⟩
            rw [HP.out.2.1] at hp
            rcases List.mem_append.1 hp with hp | hp
            · exact HR.out.2.2 p hp
            · simp at hp; subst hp; exact HG.out.1
        · have hdm : decide ((m.length : Int) > 4000) = true := decide_eq_true (by omega)
          go_wp2_with (first
            | (refine wl_loadP rfl rowP rfl rfl c0 c1 ?_)
            | (refine wl_alloc rfl rfl zeroP ?_; intro w2 hb2 he2 hx; clear hx)
            | (refine wl_store (D := #[.int .i64 k, .slice ua m.length uc]) rfl rowP rfl rfl rfl hb2 rfl rfl (one_par _ _ rfl) ?_; intro w3 hb3 hk3 hx; clear hx; have c3 := (LD hb3).1; have c4 := (LD hb3).2; have HE3 : Hid (Ext wr w3) := he2.of_but hk3 (fun q e => by subst e; exact Nat.le_refl _); clear hk3 he2 hb2)
            | (go_at_call 97; refine (isKind_any _ _).mono ?_; rintro e w4 ⟨rfl, hw⟩; subst w4; rw [hkd]))
          go_ret2
          exact ⟨HR.out.2.1.trans HE3.out, .inr ⟨rfl, (k, m), HP.out.2.2, by
            cases hg : goodP (k, m) with
            | false => rfl
            | true => exact absurd (good_kd hg).2 hm⟩⟩
    · have hd : decide ((i : Int) < (n : Int)) = false := decide_eq_false (by omega)
      have HT : Hid (L.take i = L) := List.take_of_length_le (by rw [← HN.out]; omega)
      rw [HT.out] at HR
      obtain ⟨oa, oc, rfl⟩ := HR.out.1.len
      obtain ⟨q, hq⟩ : ∃ q, q = (writeB L).length := ⟨_, rfl⟩
      have HQ : Hid (q = (writeB L).length) := hq
      rw [← hq] at HR
      clear hq
      have c0 := HR.out.1.blk.cell 0
      go_wp2
      go_ret2
      exact ⟨HR.out.2.1, .inl ⟨_, _, _, rfl, HQ.out, HR.out.1.own, HR.out.2.2⟩⟩
end Tlv
end Go.Proofs.Ytobkgaceallegaa

/- Parameters of bytes. No condition of its own. -/
namespace Go.Proofs.Ytobkgaceallegaa
namespace Tlv
open Go Go.RowKit
set_option linter.unusedVariables false
set_option linter.unusedSimpArgs false
set_option maxRecDepth 100000


/-- What Params answers. -/
def ParamsIs (w : World) (B : List Nat) (e : Ending) (w' : World) : Prop :=
  Ext w w' ∧ ((readAll B = none ∧ e = .returned (.tuple #[.slice none 0 0, errF])) ∨ ∃ L lv, readAll B = some L ∧ e = .returned (.tuple #[lv, .nilIface]) ∧ OwnL 138 w' w.heap.size lv L)
theorem wl_pushP {t e : TypeId} (hT : ParT t e) {wr : World} {ops : Array Oper} {rest : List Oper} {o : Oper} {a : Act} {Q : Exit → Act → World → Prop} {C : Array Value} (hgd : o.guard = none) {s x : Operand} (ho : o.op = .call { callee := .builtin .append, args := #[s, x], argTypes := #[t, t] })
    {base b : Nat} {v u : Value} {L : List Par} {k : Int} {val : List Nat} (hC : C = #[.int .i64 k, u]) (hs : a.eval s = v) (hx : a.eval x = .slice (some ⟨b, 0, none⟩) 1 1) (hb : b = wr.heap.size) (hv : OwnL e wr base v L) (hu : OB wr base u val) (hlen : L.length ≤ 100000) (hbase : base ≤ wr.heap.size)
    (h : ∀ ad cap w', OwnL e w' base (.slice ad (L.length + 1) cap) (L ++ [(k, val)]) → KeepBut (fun q => v.ownBlock = some q) wr w' → (∀ g, (Value.slice ad (L.length + 1) cap).ownBlock = some g → v.ownBlock = some g ∨ wr.heap.size ≤ g) → wpList Try.prog ops Q rest (a.put o.dst (.slice ad (L.length + 1) cap)) w') : wpList Try.prog ops Q (o :: rest) a (wr.alloc (.cells C e)) := by
  subst hC hb
  have he : Ext wr (wr.alloc (.cells #[.int .i64 k, u] e)) := Ext.alloc _ _
  obtain ⟨ad, c, w', hr, h1, h2, h3⟩ := run_pushP hT (wr.alloc (.cells #[.int .i64 k, u] e)) base o.type wr.heap.size v u L k val (hv.ext he) (cellNew _ _ _ _ _ _ rfl) (cellNew _ _ _ _ _ _ rfl) (hu.ext he) hlen (Nat.le_trans hbase he.size)
  refine wpList_of_run hgd (v := .slice ad (L.length + 1) c) (w' := w') ?_ (h ad c w' h1 ((KeepBut.ext he).trans h2) (fun g hg => (h3 g hg).imp id (fun e => by rw [e]; exact he.size)))
  simp only [execOp, ho, resolve, invoke, builtin, Sem.run_bind, Sem.run_pure, Result.andThen_ok, List.map_toArray, List.map_cons, List.map_nil, hs, hx, hr]
theorem readAll_next {B : List Nat} {a : Nat} (ha : a < B.length) (h : okP (B.drop a) = true) : readAll (B.drop a) = (readAll (B.drop (a + allP (B.drop a)))).map (headP (B.drop a) :: ·) := by
  rw [readAll_ok (by intro e; have := congrArg List.length e; rw [List.length_drop] at this; simp at this; omega) h, List.drop_drop]
/-- How far the parameters are read: behind those of L, or wrong. -/
def RdAt (B : List Nat) (s : Option Nat) (L : List Par) : Prop :=
  (s = none ∧ readAll B = none) ∨ ∃ a, s = some a ∧ a ≤ B.length ∧ a % 4 = 0 ∧ 4 * L.length ≤ a ∧ readAll B = (readAll (B.drop a)).map (L ++ ·)
theorem RdAt.start (B : List Nat) : RdAt B (some 0) [] := .inr ⟨0, rfl, by simp, rfl, by simp, by simp⟩
theorem RdAt.step {B : List Nat} {a : Nat} {L : List Par} (h : RdAt B (some a) L) (ha : a < B.length) : RdAt B (paramS B (some a)).1 (L ++ [(paramS B (some a)).2]) := by
  rcases h with ⟨h, _⟩ | ⟨a', e, h1, h2, h3, h4⟩
  · cases h
  · cases e
    cases hk : okP (B.drop a) with
    | false =>
      refine .inl ⟨paramS_bad h2 hk, ?_⟩
      rw [h4, readAll_bad (by intro e; have := congrArg List.length e; rw [List.length_drop] at this; simp at this; omega) hk]; rfl
    | true =>
      rw [paramS_ok h2 hk]
      have hp := allP_pos hk
      have hm := allP_mod (B.drop a)
      have hle := ((okP_iff _).1 hk).2.2.2.1
      rw [List.length_drop] at hle
      refine .inr ⟨_, rfl, by omega, by omega, by rw [List.length_append, List.length_singleton]; omega, ?_⟩
      rw [h4, readAll_next ha hk]
      cases readAll (B.drop (a + allP (B.drop a))) <;> simp
theorem RdAt.len {B : List Nat} {a : Nat} {L : List Par} (h : RdAt B (some a) L) : 4 * L.length ≤ B.length := by
  rcases h with ⟨h, _⟩ | ⟨a', e, h1, h2, h3, h4⟩
  · cases h
  · cases e; omega
theorem RdAt.fin {B : List Nat} {s : Option Nat} {L : List Par} (h : RdAt B s L) (he : leftS B s = 0) : (endS B s = false ∧ readAll B = none) ∨ (endS B s = true ∧ readAll B = some L) := by
  rcases h with ⟨rfl, h⟩ | ⟨a, rfl, h1, h2, h3, h4⟩
  · exact .inl ⟨rfl, h⟩
  · refine .inr ⟨by unfold endS; rw [he]; rfl, ?_⟩
    unfold leftS at he
    simp only at he
    rw [h4, List.drop_eq_nil_of_le (by omega), readAll_nil]; simp
theorem left_lt {B : List Nat} {s : Option Nat} (h : leftS B s ≠ 0) : ∃ a, s = some a ∧ a < B.length := by
  cases s with
  | none => exact absurd rfl h
  | some a => refine ⟨a, rfl, ?_⟩; unfold leftS at h; simp only at h; omega
theorem left_dec {B : List Nat} {a : Nat} (ha : a < B.length) (s' : Option Nat) (h : ∀ a', s' = some a' → a < a') : leftS B s' < leftS B (some a) := by
  cases s' with
  | none => unfold leftS; simp only; omega
  | some x => have := h x rfl; unfold leftS; simp only; omega
theorem paramS_lt {B : List Nat} {a : Nat} (h2 : a % 4 = 0) (a' : Nat) (h : (paramS B (some a)).1 = some a') : a < a' := by
  cases hk : okP (B.drop a) with
  | false => rw [paramS_bad h2 hk] at h; cases h
  | true =>
    rw [paramS_ok h2 hk] at h
    have := allP_pos hk
    simp only [Option.some.injEq] at h; omega
theorem RdAt.mod {B : List Nat} {a : Nat} {L : List Par} (h : RdAt B (some a) L) : a % 4 = 0 := by
  rcases h with ⟨h, _⟩ | ⟨a', e, h1, h2, _⟩
  · cases h
  · cases e; exact h2

set_option maxHeartbeats 4000000 in
theorem params_any {w : World} {v : Value} {B : List Nat} (hv : BytesAt w v B) (hB : B.length ≤ 100000) :
    Calls Try.prog 95 #[v] w (ParamsIs w B) := by
  have H : Hid (BytesAt w v B ∧ B.length ≤ 100000) := ⟨hv, hB⟩
  clear hv hB
  go_enter Try.func95, Try.ntmps95
  go_wp2_with (first
    | (go_at_call 39; refine (read_any H.out.1 (by have := H.out; omega)).mono ?_; rintro e w1 ⟨g, bv, rfl, hg1, hi1, he1⟩))
  have HI : Hid (InAt w1 w.heap.size g bv B (some 0) ∧ Ext w w1 ∧ w.heap.size ≤ g) := ⟨hi1, he1, hg1⟩
  clear hi1 he1 hg1
  go_loopg [4] (leftS B (some 0)) (fun gm t wr => ∃ (s : Option Nat) (a : Option Addr) (n c : Nat) (L : List Par), gm = leftS B s ∧ t = .slice a n c ∧ Hid (n = L.length ∧ RdAt B s L ∧ InAt wr w.heap.size g bv B s ∧ OwnL 138 wr w.heap.size (.slice a n c) L ∧ Ext w wr))
  case atStart => exact ⟨some 0, none, 0, 0, [], rfl, rfl, rfl, RdAt.start B, HI.out.1, OwnL.nil _ _ _, HI.out.2.1⟩
  case round =>
    obtain ⟨s, a, n, c, L, rfl, rfl, HR⟩ := hrel
    obtain ⟨l, hl⟩ : ∃ l, leftS B s = l := ⟨_, rfl⟩
    have HL : Hid (leftS B s = l) := hl
    by_cases h0 : l = 0
    · have hd : decide ((l : Int) > 0) = false := decide_eq_false (by omega)
      rcases HR.out.2.1.fin (hl.trans h0) with ⟨q1, q2⟩ | ⟨q1, q2⟩
      · have HE : Hid (endS B s = false ∧ readAll B = none) := ⟨q1, q2⟩
        clear q1 q2 hl
        go_wp2_with (first
          | (go_at_call 49; refine (left_any HR.out.2.2.1 (by have := H.out; omega)).mono ?_; rintro e w2 ⟨rfl, he2⟩; rw [HL.out])
          | (go_at_call 50; refine (end_any (HR.out.2.2.1.ext he2) (by have := H.out; omega)).mono ?_; rintro e w3 ⟨rfl, he3⟩; rw [HE.out.1, show endV false = errF from rfl]))
        go_ret2
        exact ⟨(HR.out.2.2.2.2.trans he2).trans he3, .inl ⟨HE.out.2, rfl⟩⟩
      · have HE : Hid (endS B s = true ∧ readAll B = some L) := ⟨q1, q2⟩
        clear q1 q2 hl
        go_wp2_with (first
          | (go_at_call 49; refine (left_any HR.out.2.2.1 (by have := H.out; omega)).mono ?_; rintro e w2 ⟨rfl, he2⟩; rw [HL.out])
          | (go_at_call 50; refine (end_any (HR.out.2.2.1.ext he2) (by have := H.out; omega)).mono ?_; rintro e w3 ⟨rfl, he3⟩; rw [HE.out.1, show endV true = .nilIface from rfl]))
        go_ret2
        exact ⟨(HR.out.2.2.2.2.trans he2).trans he3, .inr ⟨L, _, HE.out.2, rfl, (HR.out.2.2.2.1.ext he2).ext he3⟩⟩
    · have hd : decide ((l : Int) > 0) = true := decide_eq_true (by omega)
      obtain ⟨x, rfl, hx⟩ := left_lt (by rw [hl]; exact h0)
      have HX : Hid (x < B.length ∧ x % 4 = 0 ∧ 4 * L.length ≤ B.length) := ⟨hx, HR.out.2.1.mod, HR.out.2.1.len⟩
      obtain ⟨r, hr⟩ : ∃ r, r = paramS B (some x) := ⟨_, rfl⟩
      have HP : Hid (r = paramS B (some x)) := hr
      have HS : Hid (RdAt B r.1 (L ++ [r.2]) ∧ leftS B r.1 < leftS B (some x)) := ⟨by rw [hr]; exact HR.out.2.1.step hx, left_dec hx _ (fun a' h => paramS_lt HX.out.2.1 a' (by rw [← hr]; exact h))⟩
      clear hx hl hr
      obtain ⟨s2, k2, m2⟩ := r
      go_wp2_with (first
        | (go_at_call 49; refine (left_any HR.out.2.2.1 (by have := H.out; omega)).mono ?_; rintro e w2 ⟨rfl, he2⟩; rw [HL.out])
        | (go_at_call 102; refine (param_any (HR.out.2.2.1.ext he2) (by have := H.out; omega)).mono ?_; rintro e w3 ⟨u3, rfl, ho3, hi3, hk3⟩; rw [← HP.out] at ho3 hi3 ⊢; obtain ⟨ua, uc, rfl⟩ := ho3.form; have HL3 : Hid (OwnL 138 w3 w.heap.size (.slice a n c) L) := (HR.out.2.2.2.1.ext he2).but hk3 (fun k C hb hbase e => by
            subst e
            obtain ⟨_, a', b', hb', _⟩ := HR.out.2.2.1.ext he2
            unfold Blk at hb hb'
            rw [hb'] at hb
            simp at hb))
        | (at_builtin; refine wl_pushP parT (L := L) (k := k2) (val := m2) (v := .slice a n c) (base := w.heap.size) rfl rfl rfl rfl rfl rfl HL3.out (ho3.base (Nat.le_trans HR.out.2.2.2.2.size he2.size)) (by have := HX.out; have := H.out; omega) (Nat.le_trans (Nat.le_trans HR.out.2.2.2.2.size he2.size) hk3.size) ?_; intro ad cap w5 hl5 hk5 hg5))
      have hne : ∀ k, (Value.slice a n c).ownBlock = some k → k ≠ g := fun k e h => by
        subst h
        obtain ⟨_, C, hC⟩ := HL3.out.lt e
        obtain ⟨_, a', b', hb', _⟩ := hi3
        unfold Blk at hC hb'
        rw [hb'] at hC
        simp at hC
      go_roundg (leftS B s2)
      case measure => exact HS.out.2
      case rel =>
        refine ⟨s2, _, _, _, L ++ [(k2, m2)], rfl, rfl, by simp, HS.out.1, hi3.but hk5 (fun e => hne g e rfl) (fun k e1 e2 => ?_), hl5, ((HR.out.2.2.2.2.trans he2).of_but hk3 (fun k e => by subst e; exact HI.out.2.2)).of_but hk5 (fun k e => (HL3.out.lt e).1)⟩
        obtain ⟨_, C, hC⟩ := HL3.out.lt e2
        exact hi3.own.ne hC (by decide) k e1 rfl
end Tlv
end Go.Proofs.Ytobkgaceallegaa

/- A law on regions that keep their order, whatever their guards: one fact per operation, kept by whatever comes later; the walk need not part at a guard. No condition of its own. -/
namespace Go.Proofs.Ytobkgaceallegaa
open Go
set_option linter.unusedVariables false

/-- Which operations were met: the first k. -/
def upto (n k : Nat) : Array Bool := (List.ofFn (n := n) fun i => decide (i.val < k)).toArray
theorem upto_size (n k : Nat) : (upto n k).size = n := by simp [upto]
theorem upto_getD (n k i : Nat) (d : Bool) : (upto n k).getD i d = if i < n then decide (i < k) else d := by
  unfold upto
  by_cases h : i < n <;> simp [Array.getD, h]
theorem upto_all (n : Nat) : upto n n = Array.replicate n true := by
  apply Array.ext
  · simp [upto]
  · intro i h1 h2
    simp [upto] at h1 ⊢
    try exact h1
theorem upto_set (n k : Nat) (h : k < n) : (upto n k).setIfInBounds k true = upto n (k + 1) := by
  apply Array.ext
  · simp [upto]
  · intro i h1 h2
    rw [Array.getElem_setIfInBounds (by simpa using h1)]
    simp only [upto, List.getElem_toArray, List.getElem_ofFn]
    by_cases hk : k = i
    · subst hk; simp
    · simp only [hk, if_false]
      by_cases h3 : i < k
      · simp [h3]; omega
      · simp [h3]; omega

section
variable {P : Program} {mk : Tmp → Option Nat} {ops : List Oper} {a0 : Act} {R : World → World → Prop} {V : Nat → World → Value → Prop} {w0 : World} {Q : Exit → Act → World → Prop} {n : Nat}
theorem line_from (k0 : Nat) (hsh : shapeB mk ops n = true) (hn : a0.tmps.size = n) (hV : ∀ i w w' v, R w w' → V i w v → V i w' v) (hT : ∀ a b c, R a b → R b c → R a c) (hRf : ∀ w, R w w)
    (hG : ∀ i o, k0 ≤ i → ops[i]? = some o → Good P mk a0 R V w0 i o)
    (hQ : ∀ a w, Inv ops a0 R V w0 (Array.replicate ops.length true) a w → Q .normal a w) :
    ∀ (l : List Oper) (k : Nat) (a : Act) (w : World), k0 ≤ k → ops.drop k = l → Inv ops a0 R V w0 (upto ops.length k) a w → wpList P ops.toArray Q l a w := by
  intro l
  induction l with
  | nil =>
    intro k a w hk0 hl hI
    have hk : ops.length ≤ k := by simpa using hl
    refine hQ a w ?_
    rw [← upto_all]
    have : upto ops.length k = upto ops.length ops.length := by
      apply Array.ext
      · simp [upto]
      · intro i h1 h2
        simp [upto] at h1 ⊢
        omega
    rw [← this]; exact hI
  | cons o rest ih =>
    intro k a w hk0 hl hI
    have hk : k < ops.length := by
      rcases Nat.lt_or_ge k ops.length with h | h
      · exact h
      · rw [List.drop_eq_nil_of_le h] at hl; cases hl
    have ho : ops[k]? = some o := by
      have := congrArg (fun l => l[0]?) hl
      simpa [List.getElem?_drop] using this
    have hrest : ops.drop (k + 1) = rest := by
      rw [← List.drop_drop, hl]; rfl
    have hgl : (upto ops.length k).getD k true = false := by rw [upto_getD]; simp [hk]
    have hsp := shape_spec hsh ho
    simp only [shapeOneB, Bool.and_eq_true] at hsp
    have hall : ∀ e ∈ o.after, Region.binds .any e = true → (upto ops.length k).getD e.on false = true := by
      intro e he hb
      have h5 := Array.all_eq_true_iff_forall_mem.1 hsp.2 e he
      simp [hb] at h5
      rw [upto_getD]; simp [h5]; omega
    have hg := hG k o hk0 ho a.eval w hI.rel (factsOf_mk (hI.facts hsh ho hall))
    have next : ∀ v w', R w w' ∧ V k w' v → wpList P ops.toArray Q rest (a.put o.dst v) w' := fun v w' ⟨h1, h2⟩ =>
      ih (k + 1) _ _ (by omega) hrest (by rw [← upto_set _ _ hk]; exact hI.put hsh hn hV hT ho hgl h1 h2)
    unfold wpList
    cases hgd : o.guard with
    | none =>
      simp only [hgd] at hg
      simp only [Region.wanted, hgd, if_true]
      exact .inl (give_wp hg next)
    | some gw =>
      obtain ⟨g, want⟩ := gw
      simp only [hgd] at hg
      simp only [hgd, Bool.and_eq_true] at hsp
      obtain ⟨e, he, hb, rfl⟩ := after_spec hsp.1.1.2.1
      obtain ⟨d, hd⟩ := Option.isSome_iff_exists.1 hsp.1.1.2.2
      obtain ⟨og, hog, hdg⟩ := Option.bind_eq_some_iff.1 hd
      obtain ⟨v, h3, h4⟩ := hI.done e.on og hog (hall e he hb)
      have hv := h3 d hdg
      have hy : yielded ops.toArray a.tmps e.on = asBool v := by
        unfold yielded
        simp only [List.getElem?_toArray, hog, Option.bind_some, hdg, hv]
        cases v <;> rfl
      have := hg v h4
      simp only [Region.wanted, hgd, hy]
      split
      · rename_i hw
        rw [if_pos hw] at this
        exact .inl (give_wp this next)
      · rename_i hw
        rw [if_neg hw] at this
        exact next _ _ ⟨hRf w, this⟩
end

/-- THE LAW: a region in its order, one fact an operation. -/
theorem wp_line {P : Program} {ops : List Oper} {a0 : Act} {Q : Exit → Act → World → Prop} {id : Nat} {w : World} (mk : Tmp → Option Nat) (n : Nat) (R : World → World → Prop) (Vs : List Fact) (hlen : Vs.length = ops.length)
    (hsh : shapeB mk ops n = true) (hn : a0.tmps.size = n)
    (hRf : ∀ w, R w w) (hT : ∀ a b c, R a b → R b c → R a c) (hK : KeepAll R Vs) (hG : GoodAll P mk a0 R (at_ Vs) w 0 ops)
    (hQ : ∀ (vs : Nat → Value) (w' : World) (a' : Act), R w w' → HoldAll w' vs 0 Vs → a' = putAll vs ops 0 a0 → Q .normal a' w') :
    (Code.region id ops.toArray false).wp P Q a0 w := by
  refine wp_region_lit ?_
  refine line_from (P := P) (mk := mk) (R := R) (V := at_ Vs) (w0 := w) (n := n) 0 hsh hn hK.at hT hRf (fun i o _ ho => by have := hG.at i o ho; rwa [Nat.zero_add] at this) ?_ ops 0 a0 w (Nat.le_refl _) (by simp) ?_
  · intro a w' hI
    obtain ⟨vs, rfl, h⟩ := hI.whole hsh hn
    exact hQ vs w' _ hI.rel (HoldAll.mk fun i hi => by rw [Nat.zero_add]; exact h i (by omega)) rfl
  · exact ⟨hRf _, rfl, rfl, fun _ _ => rfl, fun i o hi hl => by
      exfalso
      rw [upto_getD] at hl
      by_cases h : i < ops.length <;> simp [h] at hl⟩
/-- The same from the middle of a region on: what the first k operations left lies in its slots. -/
theorem wpList_line {P : Program} {ops : List Oper} {a0 : Act} {Q : Exit → Act → World → Prop} {w : World} (k : Nat) (mk : Tmp → Option Nat) (n : Nat) (R : World → World → Prop) (Vs : List Fact) (hlen : Vs.length = ops.length)
    (hsh : shapeB mk ops n = true) (hn : a0.tmps.size = n)
    (hRf : ∀ w, R w w) (hT : ∀ a b c, R a b → R b c → R a c) (hK : KeepAll R Vs)
    (hd : ∀ i o, i < k → ops[i]? = some o → ∃ v, (∀ d, o.dst = some d → a0.tmps[d]? = some v) ∧ at_ Vs i w v)
    (hG : ∀ i o, k ≤ i → ops[i]? = some o → Good P mk a0 R (at_ Vs) w i o)
    (hQ : ∀ (vs : Nat → Value) (w' : World) (a' : Act), R w w' → HoldAll w' vs 0 Vs → a' = putAll vs ops 0 a0 → Q .normal a' w') :
    wpList P ops.toArray Q (ops.drop k) a0 w := by
  have hG' : ∀ (l : List Oper) (k' : Nat) (a : Act) (w' : World), k ≤ k' → ops.drop k' = l → Inv ops a0 R (at_ Vs) w (upto ops.length k') a w' → wpList P ops.toArray Q l a w' := by
    intro l k' a w' hk hl hI
    refine line_from (P := P) (mk := mk) (R := R) (V := at_ Vs) (w0 := w) (n := n) k hsh hn hK.at hT hRf hG ?_ l k' a w' hk hl hI
    intro a w' hI
    obtain ⟨vs, rfl, h⟩ := hI.whole hsh hn
    exact hQ vs w' _ hI.rel (HoldAll.mk fun i hi => by rw [Nat.zero_add]; exact h i (by omega)) rfl
  refine hG' _ k a0 w (Nat.le_refl _) rfl ⟨hRf _, rfl, rfl, fun _ _ => rfl, fun i o hi hl => ?_⟩
  rw [upto_getD] at hl
  have hik : i < k := by
    by_cases h : i < ops.length <;> simp [h] at hl
    exact hl
  exact hd i o hik hi

/-! ### One operation under a guard that is not decided -/
section
variable {P : Program} {K : Value → World → Prop} {r : Operand → Value} {w : World} {o : Oper}
theorem guard_by {p q : Prop} {v : Value} {b want : Bool} (h : v = .bool b) (h1 : b = want → p) (h2 : b ≠ want → q) : if asBool v == some want then p else q := by
  subst h
  by_cases e : b = want
  · subst e; simpa [asBool] using h1 rfl
  · rw [if_neg (by simpa [asBool] using e)]; exact h2 e
theorem give_and {c x : Operand} (ho : o.op = .pick c x (.const (.bool false))) {b q : Bool} (hf : r (.const (.bool false)) = .bool false) (hc : r c = .bool b) (hx : b = true → r x = .bool q) (hk : K (.bool (b && q)) w) : give P K ((execOp r o).run P w) := by
  cases b with
  | true => exact give_pick ho hc (by rw [hx rfl]; exact hk)
  | false => exact give_pickF ho hc (by rw [hf]; exact hk)
theorem give_or {c x : Operand} (ho : o.op = .pick c (.const (.bool true)) x) {b q : Bool} (hf : r (.const (.bool true)) = .bool true) (hc : r c = .bool b) (hx : b = false → r x = .bool q) (hk : K (.bool (b || q)) w) : give P K ((execOp r o).run P w) := by
  cases b with
  | true => exact give_pick ho hc (by rw [hf]; exact hk)
  | false => exact give_pickF ho hc (by rw [hx rfl]; exact hk)
end
/-- A fact under a guard. -/
def Under (C : Bool) (v : Value) : Fact := fun _ x => x = if C = true then v else undef
theorem KeepAll.under {R : World → World → Prop} {C : Bool} {c : Value} {l : List Fact} (h : KeepAll R l) : KeepAll R (Under C c :: l) := ⟨fun _ _ _ _ h => h, h⟩
theorem Under.yes {C : Bool} {v : Value} {w : World} (h : C = true) : Under C v w v := (if_pos h).symm
theorem Under.no {C : Bool} {v : Value} {w : World} (h : C = false) : Under C v w undef := (if_neg (by rw [h]; decide)).symm
theorem under_yes {C : Bool} {v : Value} (h : C = true) : v = if C = true then v else undef := (if_pos h).symm
theorem under_no {C : Bool} {v : Value} (h : C = false) : undef = if C = true then v else undef := (if_neg (by rw [h]; decide)).symm
theorem Under.get {C : Bool} {v x : Value} {w : World} (h : Under C v w x) (hc : C = true) : x = v := h.trans (if_pos hc)
theorem guard_u {p q : Prop} {gb : Value} {b want C : Bool} (h : gb = .bool b) (hC : C = (b == want)) (h1 : C = true → p) (h2 : C = false → q) : if asBool gb == some want then p else q := by
  subst h
  cases hb : (b == want) with
  | true => rw [if_pos (by simpa [asBool] using hb)]; exact h1 (hC.trans hb)
  | false => rw [if_neg (by simpa [asBool] using hb)]; exact h2 (hC.trans hb)
theorem guard_n {p q : Prop} {gb : Value} {w : World} {C0 b want C : Bool} (h : Under C0 (.bool b) w gb) (hC : C = (C0 && (b == want))) (h1 : C = true → p) (h2 : C = false → q) : if asBool gb == some want then p else q := by
  cases hc : C0 with
  | true => exact guard_u (h.get hc) (hC.trans (by rw [hc, Bool.true_and])) h1 h2
  | false =>
    have : gb = undef := h.trans (if_neg (by rw [hc]; decide))
    subst this
    rw [if_neg (by simp [asBool, undef])]
    exact h2 (hC.trans (by rw [hc]; rfl))
theorem want_t (b : Bool) : b = (b == true) := by cases b <;> rfl
theorem want_f (b : Bool) : (!b) = (b == false) := by cases b <;> rfl
theorem and_l {a b : Bool} (h : (a && b) = true) : a = true := by cases a <;> simp_all
theorem and_r {a b : Bool} (h : (a && b) = true) : b = true := by cases a <;> simp_all
theorem goodFrom {P : Program} {mk : Tmp → Option Nat} {a0 : Act} {R : World → World → Prop} {V : Nat → Fact} {w0 : World} {ops : List Oper} (k : Nat) (h : GoodAll P mk a0 R V w0 k (ops.drop k)) : ∀ i o, k ≤ i → ops[i]? = some o → Good P mk a0 R V w0 i o := by
  intro i o hk ho
  have := h.at (i - k) o (by rw [List.getElem?_drop, show k + (i - k) = i by omega]; exact ho)
  rwa [show k + (i - k) = i by omega] at this
/-- The walk stands still here. -/
structure Stop (p : Prop) : Prop where
  go : p
theorem stop_at {P : Program} {ops : Array Oper} {Q : Exit → Act → World → Prop} {l : List Oper} {a : Act} {w : World} (n : Nat) (h : l.length = n) (s : Stop (wpList P ops Q l a w)) : wpList P ops Q l a w := s.go
end Go.Proofs.Ytobkgaceallegaa

/- Small answers of chunk: bounds, kinds, flags. No condition of its own. -/
namespace Go.Proofs.Ytobkgaceallegaa
namespace Tlv
open Go Go.RowKit
set_option linter.unusedVariables false
set_option linter.unusedSimpArgs false
set_option maxRecDepth 100000


def inB (n lo hi : Int) : Bool := decide (lo ≤ n) && decide (n ≤ hi)
theorem inB_iff (n lo hi : Int) : inB n lo hi = true ↔ lo ≤ n ∧ n ≤ hi := by simp [inB]
theorem within_any (n lo hi : Int) (w : World) : Calls Try.prog 69 #[.int .i64 n, .int .i64 lo, .int .i64 hi] w fun e w' => e = .returned (.bool (inB n lo hi)) ∧ Ext w w' := by
  unfold inB
  by_cases h1 : lo ≤ n
  · have d1 : decide (n ≥ lo) = true := decide_eq_true h1
    have d1' : decide (lo ≤ n) = true := decide_eq_true h1
    rw [d1']
    go_enter Try.func69, Try.ntmps69
    go_wp2
    go_ret
    exact ⟨by simp, Ext.refl _⟩
  · have d1 : decide (n ≥ lo) = false := decide_eq_false h1
    have d1' : decide (lo ≤ n) = false := decide_eq_false h1
    rw [d1']
    go_enter Try.func69, Try.ntmps69
    go_wp2
    go_ret
    exact ⟨by simp, Ext.refl _⟩
def adB (a : Int) : Bool := inB a 1 2147483647
theorem isAddr_any (a : Int) (w : World) : Calls Try.prog 94 #[.int .i64 a] w fun e w' => e = .returned (.bool (adB a)) ∧ Ext w w' := by
  go_enter Try.func94, Try.ntmps94
  go_wp2_with (first | (go_at_call 69; refine (within_any _ _ _ _).mono ?_; rintro e w1 ⟨rfl, he1⟩))
  go_ret
  exact ⟨rfl, he1⟩
def opK (k : Int) : Bool := decide (k = 1) || (decide (k = 2) || decide (k = 4))
theorem isOp_any (k : Int) (w : World) : Calls Try.prog 93 #[.int .i64 k] w fun e w' => e = .returned (.bool (opK k)) ∧ Ext w w' := by
  by_cases h1 : k = 1
  · subst h1
    go_enter Try.func93, Try.ntmps93
    go_wp2
    go_ret
    exact ⟨rfl, Ext.refl _⟩
  by_cases h2 : k = 2
  · subst h2
    go_enter Try.func93, Try.ntmps93
    go_wp2
    go_ret
    exact ⟨rfl, Ext.refl _⟩
  by_cases h3 : k = 4
  · subst h3
    go_enter Try.func93, Try.ntmps93
    go_wp2
    go_ret
    exact ⟨rfl, Ext.refl _⟩
  have d1 : (k == 1) = false := beq_false_of_ne h1
  have d2 : (k == 2) = false := beq_false_of_ne h2
  have d3 : (k == 4) = false := beq_false_of_ne h3
  go_enter Try.func93, Try.ntmps93
  go_wp2
  go_ret
  exact ⟨by simp [opK, h1, h2, h3], Ext.refl _⟩
/-- The kinds that there are. -/
def kinds : List Int := [0, 1, 2, 3, 4, 5, 6, 7, 8, 9, 10, 11, 14, 15, 128, 193]
def knB (k : Int) : Bool := kinds.contains k
theorem kn_cases (k : Int) : k = 0 ∨ k = 1 ∨ k = 2 ∨ k = 3 ∨ k = 4 ∨ k = 5 ∨ k = 6 ∨ k = 7 ∨ k = 8 ∨ k = 9 ∨ k = 10 ∨ k = 11 ∨ k = 14 ∨ k = 15 ∨ k = 128 ∨ k = 193 ∨ (k ≠ 0 ∧ k ≠ 1 ∧ k ≠ 2 ∧ k ≠ 3 ∧ k ≠ 4 ∧ k ≠ 5 ∧ k ≠ 6 ∧ k ≠ 7 ∧ k ≠ 8 ∧ k ≠ 9 ∧ k ≠ 10 ∧ k ≠ 11 ∧ k ≠ 14 ∧ k ≠ 15 ∧ k ≠ 128 ∧ k ≠ 193) := by omega
theorem knB_no {k : Int} (h : k ≠ 0 ∧ k ≠ 1 ∧ k ≠ 2 ∧ k ≠ 3 ∧ k ≠ 4 ∧ k ≠ 5 ∧ k ≠ 6 ∧ k ≠ 7 ∧ k ≠ 8 ∧ k ≠ 9 ∧ k ≠ 10 ∧ k ≠ 11 ∧ k ≠ 14 ∧ k ≠ 15 ∧ k ≠ 128 ∧ k ≠ 193) : knB k = false := by
  simp [knB, kinds, h]
set_option maxHeartbeats 4000000 in
theorem known_any (k : Int) (w : World) : Calls Try.prog 22 #[.int .i64 k] w fun e w' => e = .returned (.bool (knB k)) ∧ Ext w w' := by
  rcases kn_cases k with rfl | rfl | rfl | rfl | rfl | rfl | rfl | rfl | rfl | rfl | rfl | rfl | rfl | rfl | rfl | rfl | hn
  case inr.inr.inr.inr.inr.inr.inr.inr.inr.inr.inr.inr.inr.inr.inr.inr =>
    rw [knB_no hn]
    obtain ⟨h0, h1, h2, h3, h4, h5, h6, h7, h8, h9, h10, h11, h12, h13, h14, h15⟩ := hn
    have d0 := beq_false_of_ne h0
    have d1 := beq_false_of_ne h1
    have d2 := beq_false_of_ne h2
    have d3 := beq_false_of_ne h3
    have d4 := beq_false_of_ne h4
    have d5 := beq_false_of_ne h5
    have d6 := beq_false_of_ne h6
    have d7 := beq_false_of_ne h7
    have d8 := beq_false_of_ne h8
    have d9 := beq_false_of_ne h9
    have d10 := beq_false_of_ne h10
    have d11 := beq_false_of_ne h11
    have d12 := beq_false_of_ne h12
    have d13 := beq_false_of_ne h13
    have d14 := beq_false_of_ne h14
    have d15 := beq_false_of_ne h15
    go_enter Try.func22, Try.ntmps22
    go_wp2
    go_ret
    exact ⟨rfl, Ext.refl _⟩
  all_goals
    go_enter Try.func22, Try.ntmps22
    go_wp2
    go_ret
    exact ⟨rfl, Ext.refl _⟩
set_option maxHeartbeats 4000000 in
theorem refKnown_any (k : Int) (w : World) : Calls Try.prog 23 #[.int .i64 k] w fun e w' => e = .returned (.bool (knB k)) ∧ Ext w w' := by
  rcases kn_cases k with rfl | rfl | rfl | rfl | rfl | rfl | rfl | rfl | rfl | rfl | rfl | rfl | rfl | rfl | rfl | rfl | hn
  case inr.inr.inr.inr.inr.inr.inr.inr.inr.inr.inr.inr.inr.inr.inr.inr =>
    rw [knB_no hn]
    have hx : decide (k ≥ 0) = false ∨ decide (k ≤ 11) = false := by
      rcases Int.lt_or_le k 0 with h | h
      · exact .inl (decide_eq_false (by omega))
      · exact .inr (decide_eq_false (by omega))
    obtain ⟨h0, h1, h2, h3, h4, h5, h6, h7, h8, h9, h10, h11, h12, h13, h14, h15⟩ := hn
    clear h0 h1 h2 h3 h4 h5 h6 h7 h8 h9 h10 h11
    have d12 := beq_false_of_ne h12
    have d13 := beq_false_of_ne h13
    have d14 := beq_false_of_ne h14
    have d15 := beq_false_of_ne h15
    rcases hx with hx | hx
    · have hy : decide (0 ≤ k) = false := hx
      go_enter Try.func23, Try.ntmps23
      go_wp2
      go_ret
      exact ⟨rfl, Ext.refl _⟩
    · by_cases h0 : 0 ≤ k
      · have hy : decide (0 ≤ k) = true := decide_eq_true h0
        have hy' : decide (k ≥ 0) = true := decide_eq_true h0
        go_enter Try.func23, Try.ntmps23
        go_wp2
        go_ret
        exact ⟨rfl, Ext.refl _⟩
      · have hy : decide (0 ≤ k) = false := decide_eq_false h0
        have hy' : decide (k ≥ 0) = false := decide_eq_false h0
        go_enter Try.func23, Try.ntmps23
        go_wp2
        go_ret
        exact ⟨rfl, Ext.refl _⟩
  all_goals
    go_enter Try.func23, Try.ntmps23
    go_wp2
    go_ret
    exact ⟨rfl, Ext.refl _⟩
theorem refAddr_any (a : Int) (w : World) : Calls Try.prog 33 #[.int .i64 a] w fun e w' => e = .returned (.bool (adB a)) ∧ Ext w w' := by
  unfold adB inB
  by_cases h1 : 1 ≤ a
  · have d1 : decide (a ≥ 1) = true := decide_eq_true h1
    have d1' : decide (1 ≤ a) = true := decide_eq_true h1
    rw [d1']
    go_enter Try.func33, Try.ntmps33
    go_wp2
    go_ret
    exact ⟨by simp, Ext.refl _⟩
  · have d1 : decide (a ≥ 1) = false := decide_eq_false h1
    have d1' : decide (1 ≤ a) = false := decide_eq_false h1
    rw [d1']
    go_enter Try.func33, Try.ntmps33
    go_wp2
    go_ret
    exact ⟨by simp, Ext.refl _⟩
theorem numberOf_any (b : Bool) (w : World) : Calls Try.prog 65 #[.bool b] w fun e w' => e = .returned (.int .u64 ((if b = true then 1 else 0 : Nat) : Int)) ∧ Ext w w' := by
  cases b
  · go_enter Try.func65, Try.ntmps65
    go_wp2
    go_ret
    exact ⟨rfl, Ext.refl _⟩
  · go_enter Try.func65, Try.ntmps65
    go_wp2
    go_ret
    exact ⟨rfl, Ext.refl _⟩
/-- The flags of a piece. -/
def flagN (pb pe pu : Bool) : Nat := (if pe = true then 1 else 0) + (if pb = true then 2 else 0) + (if pu = true then 4 else 0)
end Tlv
end Go.Proofs.Ytobkgaceallegaa

/- A chunk: what it holds, as cells and as lists. No condition of its own. -/
namespace Go.Proofs.Ytobkgaceallegaa
namespace Tlv
open Go Go.RowKit
set_option linter.unusedVariables false
set_option linter.unusedSimpArgs false
set_option maxRecDepth 100000


/-- What a chunk holds. -/
structure Ck where
  kind : Int
  ptsn : Nat
  pstr : Nat
  pseq : Nat
  pb : Bool
  pe : Bool
  pu : Bool
  text : List Nat
  tag : Nat
  win : Int
  out : Int
  inn : Int
  tsn : Nat
  rand : List Nat
  addrs : List Int
  info : List Nat
  gaps : List (Int × Int)
  dups : List Nat
  cause : Int
  serial : Nat
  ops : List (Int × Int)
  ok : Bool
/-- Where its lists lie. -/
structure Sv where
  tA : Option Addr
  tN : Nat
  tC : Nat
  rA : Option Addr
  rN : Nat
  rC : Nat
  aA : Option Addr
  aN : Nat
  aC : Nat
  iA : Option Addr
  iN : Nat
  iC : Nat
  gA : Option Addr
  gN : Nat
  gC : Nat
  dA : Option Addr
  dN : Nat
  dC : Nat
  oA : Option Addr
  oN : Nat
  oC : Nat
/-- Its cells. -/
def CV (c : Ck) (s : Sv) : Array Value := #[.int .i64 c.kind, .int .u32 (c.ptsn : Int), .int .u16 (c.pstr : Int), .int .u16 (c.pseq : Int), .bool c.pb, .bool c.pe, .bool c.pu, .slice s.tA s.tN s.tC, .int .u32 (c.tag : Int), .int .i64 c.win, .int .i64 c.out, .int .i64 c.inn, .int .u32 (c.tsn : Int), .slice s.rA s.rN s.rC, .slice s.aA s.aN s.aC, .slice s.iA s.iN s.iC, .slice s.gA s.gN s.gC, .slice s.dA s.dN s.dC, .int .i64 c.cause, .int .u32 (c.serial : Int), .slice s.oA s.oN s.oC, .bool c.ok]
/-- Those of its piece. -/
def PV (c : Ck) (s : Sv) : Array Value := #[.int .u32 (c.ptsn : Int), .int .u16 (c.pstr : Int), .int .u16 (c.pseq : Int), .bool c.pb, .bool c.pe, .bool c.pu, .slice s.tA s.tN s.tC]
theorem cv0 {w : World} {g T : Nat} {c : Ck} {s : Sv} (h : Blk w g (CV c s) T) : w.cell? ⟨g, 0, none⟩ = some (.int .i64 c.kind) := h.cell 0
theorem cv1 {w : World} {g T : Nat} {c : Ck} {s : Sv} (h : Blk w g (CV c s) T) : w.cell? ⟨g, 1, none⟩ = some (.int .u32 (c.ptsn : Int)) := h.cell 1
theorem cv2 {w : World} {g T : Nat} {c : Ck} {s : Sv} (h : Blk w g (CV c s) T) : w.cell? ⟨g, 2, none⟩ = some (.int .u16 (c.pstr : Int)) := h.cell 2
theorem cv3 {w : World} {g T : Nat} {c : Ck} {s : Sv} (h : Blk w g (CV c s) T) : w.cell? ⟨g, 3, none⟩ = some (.int .u16 (c.pseq : Int)) := h.cell 3
theorem cv4 {w : World} {g T : Nat} {c : Ck} {s : Sv} (h : Blk w g (CV c s) T) : w.cell? ⟨g, 4, none⟩ = some (.bool c.pb) := h.cell 4
theorem cv5 {w : World} {g T : Nat} {c : Ck} {s : Sv} (h : Blk w g (CV c s) T) : w.cell? ⟨g, 5, none⟩ = some (.bool c.pe) := h.cell 5
theorem cv6 {w : World} {g T : Nat} {c : Ck} {s : Sv} (h : Blk w g (CV c s) T) : w.cell? ⟨g, 6, none⟩ = some (.bool c.pu) := h.cell 6
theorem cv7 {w : World} {g T : Nat} {c : Ck} {s : Sv} (h : Blk w g (CV c s) T) : w.cell? ⟨g, 7, none⟩ = some (.slice s.tA s.tN s.tC) := h.cell 7
theorem cv8 {w : World} {g T : Nat} {c : Ck} {s : Sv} (h : Blk w g (CV c s) T) : w.cell? ⟨g, 8, none⟩ = some (.int .u32 (c.tag : Int)) := h.cell 8
theorem cv9 {w : World} {g T : Nat} {c : Ck} {s : Sv} (h : Blk w g (CV c s) T) : w.cell? ⟨g, 9, none⟩ = some (.int .i64 c.win) := h.cell 9
theorem cv10 {w : World} {g T : Nat} {c : Ck} {s : Sv} (h : Blk w g (CV c s) T) : w.cell? ⟨g, 10, none⟩ = some (.int .i64 c.out) := h.cell 10
theorem cv11 {w : World} {g T : Nat} {c : Ck} {s : Sv} (h : Blk w g (CV c s) T) : w.cell? ⟨g, 11, none⟩ = some (.int .i64 c.inn) := h.cell 11
theorem cv12 {w : World} {g T : Nat} {c : Ck} {s : Sv} (h : Blk w g (CV c s) T) : w.cell? ⟨g, 12, none⟩ = some (.int .u32 (c.tsn : Int)) := h.cell 12
theorem cv13 {w : World} {g T : Nat} {c : Ck} {s : Sv} (h : Blk w g (CV c s) T) : w.cell? ⟨g, 13, none⟩ = some (.slice s.rA s.rN s.rC) := h.cell 13
theorem cv14 {w : World} {g T : Nat} {c : Ck} {s : Sv} (h : Blk w g (CV c s) T) : w.cell? ⟨g, 14, none⟩ = some (.slice s.aA s.aN s.aC) := h.cell 14
theorem cv15 {w : World} {g T : Nat} {c : Ck} {s : Sv} (h : Blk w g (CV c s) T) : w.cell? ⟨g, 15, none⟩ = some (.slice s.iA s.iN s.iC) := h.cell 15
theorem cv16 {w : World} {g T : Nat} {c : Ck} {s : Sv} (h : Blk w g (CV c s) T) : w.cell? ⟨g, 16, none⟩ = some (.slice s.gA s.gN s.gC) := h.cell 16
theorem cv17 {w : World} {g T : Nat} {c : Ck} {s : Sv} (h : Blk w g (CV c s) T) : w.cell? ⟨g, 17, none⟩ = some (.slice s.dA s.dN s.dC) := h.cell 17
theorem cv18 {w : World} {g T : Nat} {c : Ck} {s : Sv} (h : Blk w g (CV c s) T) : w.cell? ⟨g, 18, none⟩ = some (.int .i64 c.cause) := h.cell 18
theorem cv19 {w : World} {g T : Nat} {c : Ck} {s : Sv} (h : Blk w g (CV c s) T) : w.cell? ⟨g, 19, none⟩ = some (.int .u32 (c.serial : Int)) := h.cell 19
theorem cv20 {w : World} {g T : Nat} {c : Ck} {s : Sv} (h : Blk w g (CV c s) T) : w.cell? ⟨g, 20, none⟩ = some (.slice s.oA s.oN s.oC) := h.cell 20
theorem cv21 {w : World} {g T : Nat} {c : Ck} {s : Sv} (h : Blk w g (CV c s) T) : w.cell? ⟨g, 21, none⟩ = some (.bool c.ok) := h.cell 21
theorem pv0 {w : World} {g T : Nat} {c : Ck} {s : Sv} (h : Blk w g (PV c s) T) : w.cell? ⟨g, 0, none⟩ = some (.int .u32 (c.ptsn : Int)) := h.cell 0
theorem pv1 {w : World} {g T : Nat} {c : Ck} {s : Sv} (h : Blk w g (PV c s) T) : w.cell? ⟨g, 1, none⟩ = some (.int .u16 (c.pstr : Int)) := h.cell 1
theorem pv2 {w : World} {g T : Nat} {c : Ck} {s : Sv} (h : Blk w g (PV c s) T) : w.cell? ⟨g, 2, none⟩ = some (.int .u16 (c.pseq : Int)) := h.cell 2
theorem pv3 {w : World} {g T : Nat} {c : Ck} {s : Sv} (h : Blk w g (PV c s) T) : w.cell? ⟨g, 3, none⟩ = some (.bool c.pb) := h.cell 3
theorem pv4 {w : World} {g T : Nat} {c : Ck} {s : Sv} (h : Blk w g (PV c s) T) : w.cell? ⟨g, 4, none⟩ = some (.bool c.pe) := h.cell 4
theorem pv5 {w : World} {g T : Nat} {c : Ck} {s : Sv} (h : Blk w g (PV c s) T) : w.cell? ⟨g, 5, none⟩ = some (.bool c.pu) := h.cell 5
theorem pv6 {w : World} {g T : Nat} {c : Ck} {s : Sv} (h : Blk w g (PV c s) T) : w.cell? ⟨g, 6, none⟩ = some (.slice s.tA s.tN s.tC) := h.cell 6
theorem CV.size (c : Ck) (s : Sv) : (CV c s).size = 22 := rfl
theorem PV.size (c : Ck) (s : Sv) : (PV c s).size = 7 := rfl
theorem CV.one (c : Ck) (s : Sv) : ∀ v ∈ (CV c s).toList, v.oneCell' = true := by
  intro v hv
  simp [CV] at hv
  rcases hv with rfl | rfl | rfl | rfl | rfl | rfl | rfl | rfl | rfl | rfl | rfl | rfl | rfl | rfl | rfl | rfl | rfl | rfl | rfl | rfl | rfl | rfl <;> rfl
theorem PV.one (c : Ck) (s : Sv) : ∀ v ∈ (PV c s).toList, v.oneCell' = true := by
  intro v hv
  simp [PV] at hv
  rcases hv with rfl | rfl | rfl | rfl | rfl | rfl | rfl <;> rfl
theorem CV.piece (c : Ck) (s : Sv) : ∀ (j : Nat) v, (PV c s).toList[j]? = some v → (CV c s)[1 + j]? = some v := by
  intro j v h
  match j with
  | 0 => exact h
  | 1 => exact h
  | 2 => exact h
  | 3 => exact h
  | 4 => exact h
  | 5 => exact h
  | 6 => exact h
  | j + 7 => simp [PV] at h

/-- A list of pairs in memory. -/
def PairsAt (w : World) (v : Value) (L : List (Int × Int)) : Prop :=
  L.length ≤ maxLen ∧ ∃ a cap, v = .slice a L.length cap ∧ (L.length ≤ cap ∧ (a = none → cap = 0)) ∧ cap ≤ maxLen ∧ ∀ i p, L[i]? = some p → ∃ b off, a = some ⟨b, off, none⟩ ∧ w.cell? ⟨b, off + i * 2, none⟩ = some (.int .i64 p.1) ∧ w.cell? ⟨b, off + i * 2 + 1, none⟩ = some (.int .i64 p.2)
theorem PairsAt.ext {w w' : World} {v : Value} {L : List (Int × Int)} (h : PairsAt w v L) (he : Ext w w') : PairsAt w' v L := by
  obtain ⟨h1, a, cap, rfl, h2, h3, hc⟩ := h
  refine ⟨h1, a, cap, rfl, h2, h3, fun i p hp => ?_⟩
  obtain ⟨b, off, e, h4, h5⟩ := hc i p hp
  exact ⟨b, off, e, he.cell h4, he.cell h5⟩
theorem PairsAt.nil (w : World) : PairsAt w (.slice none 0 0) [] := ⟨by simp, none, 0, rfl, ⟨by simp, fun _ => rfl⟩, by simp, fun i p h => by simp at h⟩
theorem PairsAt.len {w : World} {a : Option Addr} {n c : Nat} {L : List (Int × Int)} (h : PairsAt w (.slice a n c) L) : n = L.length ∧ n ≤ maxLen ∧ n ≤ c ∧ c ≤ maxLen := by
  obtain ⟨h1, x, cap, e, h2, h3, _⟩ := h
  simp only [Value.slice.injEq] at e
  obtain ⟨rfl, rfl, rfl⟩ := e
  exact ⟨rfl, h1, h2.1, h3⟩
theorem PairsAt.cellAt {w : World} {a : Option Addr} {n c : Nat} {L : List (Int × Int)} (h : PairsAt w (.slice a n c) L) (i : Nat) (hi : i < L.length) : ∃ b off, a = some ⟨b, off, none⟩ ∧ w.cell? ⟨b, off + i * 2, none⟩ = some (.int .i64 (L.getD i (0, 0)).1) ∧ w.cell? ⟨b, off + i * 2 + 1, none⟩ = some (.int .i64 (L.getD i (0, 0)).2) := by
  obtain ⟨_, x, cap, e, _, _, hc⟩ := h
  simp only [Value.slice.injEq] at e
  obtain ⟨rfl, _, _⟩ := e
  have := hc i (L.getD i (0, 0)) (by simp [List.getD_eq_getElem?_getD, hi])
  exact this
theorem nums_len {k : IntKind} {w : World} {a : Option Addr} {n c : Nat} {l : List Int} (h : NumsAt k w (.slice a n c) l) : n = l.length ∧ n ≤ maxLen := by
  obtain ⟨x, y, e, _⟩ := h.form
  simp only [Value.slice.injEq] at e
  obtain ⟨rfl, rfl, rfl⟩ := e
  exact ⟨rfl, h.1⟩
theorem bytes_len {w : World} {a : Option Addr} {n c : Nat} {l : List Nat} (h : BytesAt w (.slice a n c) l) : n = l.length ∧ n ≤ maxLen := by
  obtain ⟨x, y, e, _⟩ := h.form
  simp only [Value.slice.injEq] at e
  obtain ⟨rfl, rfl, rfl⟩ := e
  exact ⟨rfl, h.2.1⟩

/-- A chunk's lists in memory. -/
structure CkAt (w : World) (s : Sv) (c : Ck) : Prop where
  t : BytesAt w (.slice s.tA s.tN s.tC) c.text
  r : BytesAt w (.slice s.rA s.rN s.rC) c.rand
  a : NumsAt .i64 w (.slice s.aA s.aN s.aC) c.addrs
  i : BytesAt w (.slice s.iA s.iN s.iC) c.info
  g : PairsAt w (.slice s.gA s.gN s.gC) c.gaps
  d : NumsAt .u32 w (.slice s.dA s.dN s.dC) (ci c.dups)
  o : PairsAt w (.slice s.oA s.oN s.oC) c.ops
theorem CkAt.ext {w w' : World} {s : Sv} {c : Ck} (h : CkAt w s c) (he : Ext w w') : CkAt w' s c := ⟨h.t.ext he, h.r.ext he, h.a.ext he, h.i.ext he, h.g.ext he, h.d.ext he, h.o.ext he⟩
/-- Its numbers fit their kinds. -/
structure Fit (c : Ck) : Prop where
  kind : W64 c.kind
  ptsn : c.ptsn < 4294967296
  pstr : c.pstr < 65536
  pseq : c.pseq < 65536
  tag : c.tag < 4294967296
  win : W64 c.win
  out : W64 c.out
  inn : W64 c.inn
  tsn : c.tsn < 4294967296
  cause : W64 c.cause
  serial : c.serial < 4294967296
  addrs : ∀ x ∈ c.addrs, W64 x
  gaps : ∀ x ∈ c.gaps, W64 x.1 ∧ W64 x.2
  dups : ∀ x ∈ c.dups, x < 4294967296
  ops : ∀ x ∈ c.ops, W64 x.1 ∧ W64 x.2
theorem rowC : RowT Try.prog 38 22 := ⟨⟨_, Try.underlying38, rfl⟩, by kernel_rfl⟩
theorem rowC2 : RowT Try.prog 32 22 := ⟨⟨_, Try.underlying32, rfl⟩, by kernel_rfl⟩
theorem rowPc : RowT Try.prog 26 7 := ⟨⟨_, Try.underlying26, rfl⟩, by kernel_rfl⟩
theorem one22 : OneT Try.prog 22 := ⟨⟨_, Try.underlying22, rfl⟩, by kernel_rfl⟩
theorem one23 : OneT Try.prog 23 := ⟨⟨_, Try.underlying23, rfl⟩, by kernel_rfl⟩
theorem oneAd : OneT Try.prog 65 := ⟨⟨_, Try.underlying65, rfl⟩, by kernel_rfl⟩
theorem oneSA : OneT Try.prog 27 := ⟨⟨_, Try.underlying27, rfl⟩, by kernel_rfl⟩
theorem oneSG : OneT Try.prog 35 := ⟨⟨_, Try.underlying35, rfl⟩, by kernel_rfl⟩
theorem oneSD : OneT Try.prog 29 := ⟨⟨_, Try.underlying29, rfl⟩, by kernel_rfl⟩
theorem oneSO : OneT Try.prog 36 := ⟨⟨_, Try.underlying36, rfl⟩, by kernel_rfl⟩
theorem oneSG2 : OneT Try.prog 28 := ⟨⟨_, Try.underlying28, rfl⟩, by kernel_rfl⟩
theorem oneSO2 : OneT Try.prog 30 := ⟨⟨_, Try.underlying30, rfl⟩, by kernel_rfl⟩
theorem rowGp : RowT Try.prog 67 2 := ⟨⟨_, Try.underlying67, rfl⟩, by kernel_rfl⟩
theorem rowOp : RowT Try.prog 69 2 := ⟨⟨_, Try.underlying69, rfl⟩, by kernel_rfl⟩
theorem rowGp2 : RowT Try.prog 70 2 := ⟨⟨_, Try.underlying70, rfl⟩, by kernel_rfl⟩
theorem rowOp2 : RowT Try.prog 71 2 := ⟨⟨_, Try.underlying71, rfl⟩, by kernel_rfl⟩

/-! ### Bounds -/
theorem windowFits_any (c : Ck) (s : Sv) (w : World) : Calls Try.prog 72 #[.agg (CV c s)] w fun e w' => e = .returned (.bool (inB c.win 0 2147483647)) ∧ Ext w w' := by
  go_enter Try.func72, Try.ntmps72
  go_wp2_with (first
    | (refine wl_box (C := CV c s) rfl rfl rfl ?_; intro w1 hb1 he1 hx; clear hx; have c9 := cv9 hb1)
    | (go_at_call 69; refine (within_any _ _ _ _).mono ?_; rintro e w2 ⟨rfl, he2⟩))
  go_ret
  exact ⟨rfl, he1.trans he2⟩
theorem infoFits_any (c : Ck) (s : Sv) (hn : s.iN = c.info.length) (w : World) : Calls Try.prog 71 #[.agg (CV c s)] w fun e w' => e = .returned (.bool (inB (c.info.length : Int) 1 300)) ∧ Ext w w' := by
  have HN : Hid (s.iN = c.info.length) := hn
  clear hn
  go_enter Try.func71, Try.ntmps71
  go_wp2_with (first
    | (refine wl_box (C := CV c s) rfl rfl rfl ?_; intro w1 hb1 he1 hx; clear hx; have c9 := cv15 hb1)
    | (go_at_call 69; refine (within_any _ _ _ _).mono ?_; rintro e w2 ⟨rfl, he2⟩))
  go_ret
  exact ⟨by rw [HN.out]; rfl, he1.trans he2⟩
/-- Whether all are addresses; whether all are ops. -/
def adsB (L : List Int) : Bool := L.all adB
def opB (p : Int × Int) : Bool := opK p.1 && adB p.2
def opsB (L : List (Int × Int)) : Bool := L.all opB
theorem addrsC_any (a : Int) (w : World) : Calls Try.prog 100 #[.int .i64 a] w fun e w' => e = .returned (.bool (!adB a)) ∧ Ext w w' := by
  go_enter Try.func100, Try.ntmps100
  go_wp2_with (first
    | (go_at_call 94; refine (isAddr_any _ _).mono ?_; rintro e w2 ⟨rfl, he2⟩))
  go_ret
  exact ⟨rfl, he2⟩
theorem opsC_any (p q : Int) (w : World) : Calls Try.prog 92 #[.agg #[.int .i64 p, .int .i64 q]] w fun e w' => e = .returned (.bool (!opB (p, q))) ∧ Ext w w' := by
  have e0 : opB (p, q) = (opK p && adB q) := rfl
  rw [e0]
  have LD : ∀ {w2 : World}, Blk w2 w.heap.size #[.int .i64 p, .int .i64 q] 69 → w2.cell? ⟨w.heap.size, 0, none⟩ = some (.int .i64 p) ∧ w2.cell? ⟨w.heap.size, 1, none⟩ = some (.int .i64 q) := fun h => ⟨h.cell 0, h.cell 1⟩
  cases hk : opK p with
  | true =>
    go_enter Try.func92, Try.ntmps92
    go_wp2_with (first
      | (refine wl_box (C := #[.int .i64 p, .int .i64 q]) rfl rfl rfl ?_; intro w1 hb1 he1 hx; clear hx; have c0 := (LD hb1).1)
      | (go_at_call 93; refine (isOp_any _ _).mono ?_; rintro e w2 ⟨rfl, he2⟩; have c1 := (LD (hb1.ext he2)).2)
      | (go_at_call 94; refine (isAddr_any _ _).mono ?_; rintro e w3 ⟨rfl, he3⟩))
    go_ret
    exact ⟨by simp, (he1.trans he2).trans he3⟩
  | false =>
    go_enter Try.func92, Try.ntmps92
    go_wp2_with (first
      | (refine wl_box (C := #[.int .i64 p, .int .i64 q]) rfl rfl rfl ?_; intro w1 hb1 he1 hx; clear hx; have c0 := (LD hb1).1)
      | (go_at_call 93; refine (isOp_any _ _).mono ?_; rintro e w2 ⟨rfl, he2⟩; have c1 := (LD (hb1.ext he2)).2))
    go_ret
    exact ⟨by simp, he1.trans he2⟩
theorem not_all_at {α : Type} {f : α → Bool} {L : List α} (d : α) {k : Nat} (hk : k < L.length) (h : f (L.getD k d) = false) : L.all f = false := by
  rw [List.all_eq_false]
  exact ⟨_, getD_mem L d k hk, by rw [h]; simp⟩
theorem all_at {α : Type} {f : α → Bool} {L : List α} (d : α) (h : ∀ j, j < L.length → f (L.getD j d) = true) : L.all f = true := by
  rw [List.all_eq_true]
  intro x hx
  obtain ⟨j, hj, rfl⟩ := List.getElem_of_mem hx
  have := h j hj
  simpa [List.getD_eq_getElem?_getD, hj] using this
/-- What a search answers: where, or -1. -/
def FindIs (w : World) (b : Bool) (e : Ending) (w' : World) : Prop := ∃ i : Int, e = .returned (.int .i64 i) ∧ decide (i ≥ 0) = !b ∧ Ext w w'
set_option maxHeartbeats 2000000 in
theorem indexA_any {w : World} {a : Option Addr} {n cp : Nat} {L : List Int} (h : NumsAt .i64 w (.slice a n cp) L) :
    Calls Try.prog 103 #[.slice a n cp, .func (.func 100) #[] #[]] w (FindIs w (adsB L)) := by
  have HN : Hid (NumsAt .i64 w (.slice a n cp) L ∧ n = L.length) := ⟨h, (nums_len h).1⟩
  have hmx := (nums_len h).2
  unfold maxLen at hmx
  clear h
  go_enter Try.func103, Try.ntmps103
  go_wp2
  go_loopg [8] n (fun gm t wr => ∃ k : Nat, k ≤ n ∧ gm = n - k ∧ t = .int .i64 (k : Int) ∧ Hid (Ext w wr ∧ ∀ j, j < k → adB (L.getD j 0) = true))
  case atStart => exact ⟨0, Nat.zero_le _, rfl, rfl, Ext.refl _, fun j hj => by omega⟩
  case round =>
    obtain ⟨k, hk, rfl, rfl, HR⟩ := hrel
    by_cases hlt : k < n
    · have hd : decide ((k : Int) < (n : Int)) = true := decide_eq_true (by omega)
      have hkL : k < L.length := by rw [← HN.out.2]; exact hlt
      obtain ⟨b, off, rfl, hc⟩ := HN.out.1.cellAt k hkL
      have hc' := HR.out.1.cell hc
      have HX : Hid (∀ j, j = k → L.getD j 0 = L.getD k 0) := fun j h => by rw [h]
      have HKL : Hid (k < L.length) := hkL
      clear hc hkL
      obtain ⟨x, hx⟩ : ∃ x, x = L.getD k 0 := ⟨_, rfl⟩
      rw [← hx] at hc'
      have HXX : Hid (x = L.getD k 0) := hx
      clear hx
      cases hb : adB x with
      | true =>
        go_wp2_with (first
          | (go_at_call 100; refine (addrsC_any _ _).mono ?_; rintro e w2 ⟨rfl, he2⟩; rw [hb]))
        go_roundg (n - (k + 1))
        case measure => omega
        case rel =>
          refine ⟨k + 1, by omega, rfl, by simp, HR.out.1.trans he2, fun j hj => ?_⟩
          by_cases hjk : j = k
          · subst hjk; rw [← HXX.out]; exact hb
          · exact HR.out.2 j (by omega)
      | false =>
        have HF : Hid (adsB L = false) := not_all_at 0 HKL.out (by rw [← HXX.out]; exact hb)
        go_wp2_with (first
          | (go_at_call 100; refine (addrsC_any _ _).mono ?_; rintro e w2 ⟨rfl, he2⟩; rw [hb]))
        go_ret
        exact ⟨_, rfl, by rw [HF.out]; simp, HR.out.1.trans he2⟩
    · have hd : decide ((k : Int) < (n : Int)) = false := decide_eq_false (by omega)
      have HF : Hid (adsB L = true) := all_at 0 (fun j hj => HR.out.2 j (by have := HN.out.2; omega))
      go_wp2
      go_ret
      exact ⟨_, rfl, by rw [HF.out]; rfl, HR.out.1⟩
end Tlv
end Go.Proofs.Ytobkgaceallegaa

/- The chapter's example. No condition of its own. -/
namespace Go.Proofs.Ytobkgaceallegaa
namespace Tlv
open Go Go.RowKit
set_option linter.unusedVariables false
set_option linter.unusedSimpArgs false
set_option maxRecDepth 100000


/-- A text that stands in the law, as bytes. -/
theorem wl_conv {w : World} {ops : Array Oper} {rest : List Oper} {o : Oper} {a : Act} {Q : Exit → Act → World → Prop} (l : List Nat) (hgd : o.guard = none) {x : Operand} {C : Array Value} {m n c : Nat} (ho : o.op = .convert 24 24 x) (hx : a.eval x = .slice (some ⟨m, 0, none⟩) n c) (hm : m = w.heap.size) (hC : C = (cellsB l).toArray) (hn : n = l.length) (hc : c = l.length) (hl : AllB l) (h1000 : l.length ≤ 1000)
    (h : ∀ w', BytesAt w' (.slice (some ⟨m, 0, none⟩) n c) l → Ext w w' → w'.heap.size = w.heap.size + 1 → wpList Try.prog ops Q rest (a.put o.dst (.slice (some ⟨m, 0, none⟩) n c)) w') : wpList Try.prog ops Q (o :: rest) a (w.alloc (.cells C 5)) := by
  subst hm hC hn hc
  refine wpList_of_run hgd (v := .slice (some ⟨w.heap.size, 0, none⟩) l.length l.length) (w' := w.alloc (.cells (cellsB l).toArray 5 ((cellsB l).toArray.size, (cellsB l).toArray.size + 1))) ?_ (h _ ?_ (Ext.alloc _ _) (by simp))
  · have := Lib.run_convert_bytes_const (P := Try.prog) w 24 5 (cellsB l).toArray l.length l.length Try.underlying24 Try.underlying5
    simp only [execOp, ho, hx, Sem.run_bind, this, Result.andThen_ok]
    rfl
  · refine ⟨hl, by unfold maxLen; omega, .inr ⟨⟨w.heap.size, 0, none⟩, l.length, rfl, Nat.le_refl _, by unfold maxLen; omega, fun j hj => ?_⟩⟩
    rw [add_plain, Nat.zero_add, cellNew _ _ _ _ _ _ rfl]
    have := bA_get l j hj
    exact this
theorem ParsAt.one (w : World) (n : Nat) (hn : n = w.heap.size) {t : TypeId} {k : Int} {u : Value} {m : List Nat} (hu : BytesAt w u m) : ParsAt (w.alloc (.cells #[.int .i64 k, u] t)) (.slice (some ⟨n, 0, none⟩) 1 1) [(k, m)] := by
  refine ⟨by simp [maxLen], _, _, rfl, fun i p hp => ?_⟩
  have hi := (List.getElem?_eq_some_iff.1 hp).1
  obtain rfl : i = 0 := by simp at hi; exact hi
  simp at hp
  subst hp
  exact ⟨n, 0, u, rfl, cellNew _ _ _ _ _ _ hn, cellNew _ _ _ _ _ _ hn, hu.ext (Ext.alloc _ _)⟩
theorem write_good {w : World} {v : Value} {L : List Par} (hv : ParsAt w v L) (hlen : (writeB L).length ≤ 700000) (hL : L.length ≤ 100000) (hg : ∀ p ∈ L, goodP p = true) :
    Calls Try.prog 89 #[v] w fun e w' => Ext w w' ∧ ∃ a n c, e = .returned (.tuple #[.slice a n c, .nilIface]) ∧ n = (writeB L).length ∧ OB w' w.heap.size (.slice a n c) (writeB L) :=
  (write_any hv hlen hL).mono fun e w' h => by
    obtain ⟨h1, ⟨a, n, c, h2, h3, h4, _⟩ | ⟨_, p, hp, h5⟩⟩ := h
    · exact ⟨h1, a, n, c, h2, h3, h4⟩
    · rw [hg p hp] at h5; cases h5
theorem write_bad {w : World} {v : Value} {L : List Par} (hv : ParsAt w v L) (hlen : (writeB L).length ≤ 700000) (hL : L.length ≤ 100000) (hg : ¬ ∀ p ∈ L, goodP p = true) :
    Calls Try.prog 89 #[v] w fun e w' => Ext w w' ∧ e = .returned (.tuple #[.slice none 0 0, errF]) :=
  (write_any hv hlen hL).mono fun e w' h => by
    obtain ⟨h1, ⟨a, n, c, h2, h3, h4, h5⟩ | ⟨h5, _⟩⟩ := h
    · exact absurd h5 hg
    · exact ⟨h1, h5⟩
theorem params_some {w : World} {v : Value} {B : List Nat} {L : List Par} (hv : BytesAt w v B) (hB : B.length ≤ 100000) (hL : readAll B = some L) :
    Calls Try.prog 95 #[v] w fun e w' => Ext w w' ∧ ∃ lv, e = .returned (.tuple #[lv, .nilIface]) ∧ OwnL 138 w' w.heap.size lv L :=
  (params_any hv hB).mono fun e w' h => by
    obtain ⟨h1, ⟨h2, _⟩ | ⟨L', lv, h2, h3, h4⟩⟩ := h
    · rw [hL] at h2; cases h2
    · rw [hL] at h2; cases h2; exact ⟨h1, lv, h3, h4⟩
theorem params_none {w : World} {v : Value} {B : List Nat} (hv : BytesAt w v B) (hB : B.length ≤ 100000) (hL : readAll B = none) :
    Calls Try.prog 95 #[v] w fun e w' => Ext w w' ∧ e = .returned (.tuple #[.slice none 0 0, errF]) :=
  (params_any hv hB).mono fun e w' h => by
    obtain ⟨h1, ⟨_, h2⟩ | ⟨L', lv, h2, _⟩⟩ := h
    · exact ⟨h1, h2⟩
    · rw [hL] at h2; cases h2
theorem strT : Try.prog.underlying 9 = some .string := Try.underlying9
end Tlv
end Go.Proofs.Ytobkgaceallegaa

/- Lists that are equal; pieces that are the same. No condition of its own. -/
namespace Go.Proofs.Ytobkgaceallegaa
namespace Tlv
open Go Go.RowKit
set_option linter.unusedVariables false
set_option linter.unusedSimpArgs false
set_option maxRecDepth 100000


theorem equal_any {w : World} {v u : Value} {l m : List Nat} (hv : BytesAt w v l) (hu : BytesAt w u m) :
    Calls Try.prog 43 #[v, u] w fun e w' => e = .returned (.bool (decide (l = m))) ∧ Ext w w' := by
  have h1 := run_string_bytes byteT strT w _ _ hv
  have h2 := run_string_bytes byteT strT w _ _ hu
  have h3 := strOf_beq l m hv.1 hu.1
  obtain ⟨_, _, rfl, _⟩ := hv.form
  obtain ⟨_, _, rfl, _⟩ := hu.form
  clear hv hu
  go_enter Try.func43, Try.ntmps43
  go_wp2
  go_ret
  exact ⟨rfl, Ext.refl _⟩
def samePB (c d : Ck) : Bool := (((((((((c.ptsn : Int) : Int) == ((d.ptsn : Int) : Int)) && ((((c.pstr : Int) : Int) == ((d.pstr : Int) : Int)))) && ((((c.pseq : Int) : Int) == ((d.pseq : Int) : Int)))) && (((c.pb) == (d.pb)))) && (((c.pe) == (d.pe)))) && (((c.pu) == (d.pu)))) && ((decide (c.text = d.text))))
set_option maxHeartbeats 4000000 in
theorem samePiece_any {w : World} {c d : Ck} {s u : Sv} (ha : BytesAt w (.slice s.tA s.tN s.tC) c.text) (hb : BytesAt w (.slice u.tA u.tN u.tC) d.text) :
    Calls Try.prog 56 #[.agg (PV c s), .agg (PV d u)] w fun e w' => e = .returned (.bool (samePB c d)) ∧ Ext w w' := by
  unfold samePB
  go_enter Try.func56, Try.ntmps56
  go_wp2_with (first
    | (have q := he1; clear q; refine wl_box (C := PV d u) rfl rfl rfl ?_; intro w2 hb2 he2 hx; clear hx; have hb1' := hb1.ext he2)
    | (refine wl_box (C := PV c s) rfl rfl rfl ?_; intro w1 hb1 he1 hx; clear hx)
    | (refine stop_at 48 rfl ?_))
  refine ⟨?_⟩
  refine wpList_line 0 (fun t => bif Nat.ble 5 t && Nat.ble t 51 then some (t - 5) else bif Nat.beq t 4 then some 47 else none) 52 Ext
    [Is (.pointer (some ⟨w.heap.size, 0, none⟩)),
     Is (.int .u32 (c.ptsn : Int)),
     Is (.pointer (some ⟨w1.heap.size, 0, none⟩)),
     Is (.int .u32 (d.ptsn : Int)),
     Is (.bool (((c.ptsn : Int) : Int) == ((d.ptsn : Int) : Int))),
     Is (.bool (((c.ptsn : Int) : Int) == ((d.ptsn : Int) : Int))),
     Under (((((c.ptsn : Int) : Int) == ((d.ptsn : Int) : Int)))) (.pointer (some ⟨w.heap.size, 1, none⟩)),
     Under (((((c.ptsn : Int) : Int) == ((d.ptsn : Int) : Int)))) (.int .u16 (c.pstr : Int)),
     Under (((((c.ptsn : Int) : Int) == ((d.ptsn : Int) : Int)))) (.pointer (some ⟨w1.heap.size, 1, none⟩)),
     Under (((((c.ptsn : Int) : Int) == ((d.ptsn : Int) : Int)))) (.int .u16 (d.pstr : Int)),
     Under (((((c.ptsn : Int) : Int) == ((d.ptsn : Int) : Int)))) (.bool (((c.pstr : Int) : Int) == ((d.pstr : Int) : Int))),
     Is (.bool ((((c.ptsn : Int) : Int) == ((d.ptsn : Int) : Int)) && ((((c.pstr : Int) : Int) == ((d.pstr : Int) : Int))))),
     Is (.bool ((((c.ptsn : Int) : Int) == ((d.ptsn : Int) : Int)) && ((((c.pstr : Int) : Int) == ((d.pstr : Int) : Int))))),
     Under ((((((c.ptsn : Int) : Int) == ((d.ptsn : Int) : Int)) && ((((c.pstr : Int) : Int) == ((d.pstr : Int) : Int)))))) (.pointer (some ⟨w.heap.size, 2, none⟩)),
     Under ((((((c.ptsn : Int) : Int) == ((d.ptsn : Int) : Int)) && ((((c.pstr : Int) : Int) == ((d.pstr : Int) : Int)))))) (.int .u16 (c.pseq : Int)),
     Under ((((((c.ptsn : Int) : Int) == ((d.ptsn : Int) : Int)) && ((((c.pstr : Int) : Int) == ((d.pstr : Int) : Int)))))) (.pointer (some ⟨w1.heap.size, 2, none⟩)),
     Under ((((((c.ptsn : Int) : Int) == ((d.ptsn : Int) : Int)) && ((((c.pstr : Int) : Int) == ((d.pstr : Int) : Int)))))) (.int .u16 (d.pseq : Int)),
     Under ((((((c.ptsn : Int) : Int) == ((d.ptsn : Int) : Int)) && ((((c.pstr : Int) : Int) == ((d.pstr : Int) : Int)))))) (.bool (((c.pseq : Int) : Int) == ((d.pseq : Int) : Int))),
     Is (.bool (((((c.ptsn : Int) : Int) == ((d.ptsn : Int) : Int)) && ((((c.pstr : Int) : Int) == ((d.pstr : Int) : Int)))) && ((((c.pseq : Int) : Int) == ((d.pseq : Int) : Int))))),
     Is (.bool (((((c.ptsn : Int) : Int) == ((d.ptsn : Int) : Int)) && ((((c.pstr : Int) : Int) == ((d.pstr : Int) : Int)))) && ((((c.pseq : Int) : Int) == ((d.pseq : Int) : Int))))),
     Under (((((((c.ptsn : Int) : Int) == ((d.ptsn : Int) : Int)) && ((((c.pstr : Int) : Int) == ((d.pstr : Int) : Int)))) && ((((c.pseq : Int) : Int) == ((d.pseq : Int) : Int)))))) (.pointer (some ⟨w.heap.size, 3, none⟩)),
     Under (((((((c.ptsn : Int) : Int) == ((d.ptsn : Int) : Int)) && ((((c.pstr : Int) : Int) == ((d.pstr : Int) : Int)))) && ((((c.pseq : Int) : Int) == ((d.pseq : Int) : Int)))))) (.bool c.pb),
     Under (((((((c.ptsn : Int) : Int) == ((d.ptsn : Int) : Int)) && ((((c.pstr : Int) : Int) == ((d.pstr : Int) : Int)))) && ((((c.pseq : Int) : Int) == ((d.pseq : Int) : Int)))))) (.pointer (some ⟨w1.heap.size, 3, none⟩)),
     Under (((((((c.ptsn : Int) : Int) == ((d.ptsn : Int) : Int)) && ((((c.pstr : Int) : Int) == ((d.pstr : Int) : Int)))) && ((((c.pseq : Int) : Int) == ((d.pseq : Int) : Int)))))) (.bool d.pb),
     Under (((((((c.ptsn : Int) : Int) == ((d.ptsn : Int) : Int)) && ((((c.pstr : Int) : Int) == ((d.pstr : Int) : Int)))) && ((((c.pseq : Int) : Int) == ((d.pseq : Int) : Int)))))) (.bool ((c.pb) == (d.pb))),
     Is (.bool ((((((c.ptsn : Int) : Int) == ((d.ptsn : Int) : Int)) && ((((c.pstr : Int) : Int) == ((d.pstr : Int) : Int)))) && ((((c.pseq : Int) : Int) == ((d.pseq : Int) : Int)))) && (((c.pb) == (d.pb))))),
     Is (.bool ((((((c.ptsn : Int) : Int) == ((d.ptsn : Int) : Int)) && ((((c.pstr : Int) : Int) == ((d.pstr : Int) : Int)))) && ((((c.pseq : Int) : Int) == ((d.pseq : Int) : Int)))) && (((c.pb) == (d.pb))))),
     Under ((((((((c.ptsn : Int) : Int) == ((d.ptsn : Int) : Int)) && ((((c.pstr : Int) : Int) == ((d.pstr : Int) : Int)))) && ((((c.pseq : Int) : Int) == ((d.pseq : Int) : Int)))) && (((c.pb) == (d.pb)))))) (.pointer (some ⟨w.heap.size, 4, none⟩)),
     Under ((((((((c.ptsn : Int) : Int) == ((d.ptsn : Int) : Int)) && ((((c.pstr : Int) : Int) == ((d.pstr : Int) : Int)))) && ((((c.pseq : Int) : Int) == ((d.pseq : Int) : Int)))) && (((c.pb) == (d.pb)))))) (.bool c.pe),
     Under ((((((((c.ptsn : Int) : Int) == ((d.ptsn : Int) : Int)) && ((((c.pstr : Int) : Int) == ((d.pstr : Int) : Int)))) && ((((c.pseq : Int) : Int) == ((d.pseq : Int) : Int)))) && (((c.pb) == (d.pb)))))) (.pointer (some ⟨w1.heap.size, 4, none⟩)),
     Under ((((((((c.ptsn : Int) : Int) == ((d.ptsn : Int) : Int)) && ((((c.pstr : Int) : Int) == ((d.pstr : Int) : Int)))) && ((((c.pseq : Int) : Int) == ((d.pseq : Int) : Int)))) && (((c.pb) == (d.pb)))))) (.bool d.pe),
     Under ((((((((c.ptsn : Int) : Int) == ((d.ptsn : Int) : Int)) && ((((c.pstr : Int) : Int) == ((d.pstr : Int) : Int)))) && ((((c.pseq : Int) : Int) == ((d.pseq : Int) : Int)))) && (((c.pb) == (d.pb)))))) (.bool ((c.pe) == (d.pe))),
     Is (.bool (((((((c.ptsn : Int) : Int) == ((d.ptsn : Int) : Int)) && ((((c.pstr : Int) : Int) == ((d.pstr : Int) : Int)))) && ((((c.pseq : Int) : Int) == ((d.pseq : Int) : Int)))) && (((c.pb) == (d.pb)))) && (((c.pe) == (d.pe))))),
     Is (.bool (((((((c.ptsn : Int) : Int) == ((d.ptsn : Int) : Int)) && ((((c.pstr : Int) : Int) == ((d.pstr : Int) : Int)))) && ((((c.pseq : Int) : Int) == ((d.pseq : Int) : Int)))) && (((c.pb) == (d.pb)))) && (((c.pe) == (d.pe))))),
     Under (((((((((c.ptsn : Int) : Int) == ((d.ptsn : Int) : Int)) && ((((c.pstr : Int) : Int) == ((d.pstr : Int) : Int)))) && ((((c.pseq : Int) : Int) == ((d.pseq : Int) : Int)))) && (((c.pb) == (d.pb)))) && (((c.pe) == (d.pe)))))) (.pointer (some ⟨w.heap.size, 5, none⟩)),
     Under (((((((((c.ptsn : Int) : Int) == ((d.ptsn : Int) : Int)) && ((((c.pstr : Int) : Int) == ((d.pstr : Int) : Int)))) && ((((c.pseq : Int) : Int) == ((d.pseq : Int) : Int)))) && (((c.pb) == (d.pb)))) && (((c.pe) == (d.pe)))))) (.bool c.pu),
     Under (((((((((c.ptsn : Int) : Int) == ((d.ptsn : Int) : Int)) && ((((c.pstr : Int) : Int) == ((d.pstr : Int) : Int)))) && ((((c.pseq : Int) : Int) == ((d.pseq : Int) : Int)))) && (((c.pb) == (d.pb)))) && (((c.pe) == (d.pe)))))) (.pointer (some ⟨w1.heap.size, 5, none⟩)),
     Under (((((((((c.ptsn : Int) : Int) == ((d.ptsn : Int) : Int)) && ((((c.pstr : Int) : Int) == ((d.pstr : Int) : Int)))) && ((((c.pseq : Int) : Int) == ((d.pseq : Int) : Int)))) && (((c.pb) == (d.pb)))) && (((c.pe) == (d.pe)))))) (.bool d.pu),
     Under (((((((((c.ptsn : Int) : Int) == ((d.ptsn : Int) : Int)) && ((((c.pstr : Int) : Int) == ((d.pstr : Int) : Int)))) && ((((c.pseq : Int) : Int) == ((d.pseq : Int) : Int)))) && (((c.pb) == (d.pb)))) && (((c.pe) == (d.pe)))))) (.bool ((c.pu) == (d.pu))),
     Is (.bool ((((((((c.ptsn : Int) : Int) == ((d.ptsn : Int) : Int)) && ((((c.pstr : Int) : Int) == ((d.pstr : Int) : Int)))) && ((((c.pseq : Int) : Int) == ((d.pseq : Int) : Int)))) && (((c.pb) == (d.pb)))) && (((c.pe) == (d.pe)))) && (((c.pu) == (d.pu))))),
     Is (.bool ((((((((c.ptsn : Int) : Int) == ((d.ptsn : Int) : Int)) && ((((c.pstr : Int) : Int) == ((d.pstr : Int) : Int)))) && ((((c.pseq : Int) : Int) == ((d.pseq : Int) : Int)))) && (((c.pb) == (d.pb)))) && (((c.pe) == (d.pe)))) && (((c.pu) == (d.pu))))),
     Under ((((((((((c.ptsn : Int) : Int) == ((d.ptsn : Int) : Int)) && ((((c.pstr : Int) : Int) == ((d.pstr : Int) : Int)))) && ((((c.pseq : Int) : Int) == ((d.pseq : Int) : Int)))) && (((c.pb) == (d.pb)))) && (((c.pe) == (d.pe)))) && (((c.pu) == (d.pu)))))) (.pointer (some ⟨w.heap.size, 6, none⟩)),
     Under ((((((((((c.ptsn : Int) : Int) == ((d.ptsn : Int) : Int)) && ((((c.pstr : Int) : Int) == ((d.pstr : Int) : Int)))) && ((((c.pseq : Int) : Int) == ((d.pseq : Int) : Int)))) && (((c.pb) == (d.pb)))) && (((c.pe) == (d.pe)))) && (((c.pu) == (d.pu)))))) (.slice s.tA s.tN s.tC),
     Under ((((((((((c.ptsn : Int) : Int) == ((d.ptsn : Int) : Int)) && ((((c.pstr : Int) : Int) == ((d.pstr : Int) : Int)))) && ((((c.pseq : Int) : Int) == ((d.pseq : Int) : Int)))) && (((c.pb) == (d.pb)))) && (((c.pe) == (d.pe)))) && (((c.pu) == (d.pu)))))) (.pointer (some ⟨w1.heap.size, 6, none⟩)),
     Under ((((((((((c.ptsn : Int) : Int) == ((d.ptsn : Int) : Int)) && ((((c.pstr : Int) : Int) == ((d.pstr : Int) : Int)))) && ((((c.pseq : Int) : Int) == ((d.pseq : Int) : Int)))) && (((c.pb) == (d.pb)))) && (((c.pe) == (d.pe)))) && (((c.pu) == (d.pu)))))) (.slice u.tA u.tN u.tC),
     Under ((((((((((c.ptsn : Int) : Int) == ((d.ptsn : Int) : Int)) && ((((c.pstr : Int) : Int) == ((d.pstr : Int) : Int)))) && ((((c.pseq : Int) : Int) == ((d.pseq : Int) : Int)))) && (((c.pb) == (d.pb)))) && (((c.pe) == (d.pe)))) && (((c.pu) == (d.pu)))))) (.bool (decide (c.text = d.text))),
     Is (.bool (((((((((c.ptsn : Int) : Int) == ((d.ptsn : Int) : Int)) && ((((c.pstr : Int) : Int) == ((d.pstr : Int) : Int)))) && ((((c.pseq : Int) : Int) == ((d.pseq : Int) : Int)))) && (((c.pb) == (d.pb)))) && (((c.pe) == (d.pe)))) && (((c.pu) == (d.pu)))) && ((decide (c.text = d.text))))),
     Is (.bool (((((((((c.ptsn : Int) : Int) == ((d.ptsn : Int) : Int)) && ((((c.pstr : Int) : Int) == ((d.pstr : Int) : Int)))) && ((((c.pseq : Int) : Int) == ((d.pseq : Int) : Int)))) && (((c.pb) == (d.pb)))) && (((c.pe) == (d.pe)))) && (((c.pu) == (d.pu)))) && ((decide (c.text = d.text)))))]
    rfl (by kernel_rfl) rfl Ext.refl (fun _ _ _ => Ext.trans) (KeepAll.is (KeepAll.is (KeepAll.is (KeepAll.is (KeepAll.is (KeepAll.is (KeepAll.under (KeepAll.under (KeepAll.under (KeepAll.under (KeepAll.under (KeepAll.is (KeepAll.is (KeepAll.under (KeepAll.under (KeepAll.under (KeepAll.under (KeepAll.under (KeepAll.is (KeepAll.is (KeepAll.under (KeepAll.under (KeepAll.under (KeepAll.under (KeepAll.under (KeepAll.is (KeepAll.is (KeepAll.under (KeepAll.under (KeepAll.under (KeepAll.under (KeepAll.under (KeepAll.is (KeepAll.is (KeepAll.under (KeepAll.under (KeepAll.under (KeepAll.under (KeepAll.under (KeepAll.is (KeepAll.is (KeepAll.under (KeepAll.under (KeepAll.under (KeepAll.under (KeepAll.under (KeepAll.is (KeepAll.is (KeepAll.nil))))))))))))))))))))))))))))))))))))))))))))))))) ?_ ?_ ?_
  · intro i o hi ho
    exact absurd hi (by omega)
  · refine goodFrom 0 ?_
    refine GoodAll.cons ?_ ?_
    · intro r wx hR hx
      obtain ⟨h1, _⟩ := hx
      replace h1 : r (.tmp 2) = .pointer (some ⟨w.heap.size, 0, none⟩) := h1
      exact give_of (by simp [execOp, h1, go_sem]) ⟨Ext.refl _, rfl⟩
    refine GoodAll.cons ?_ ?_
    · intro r wx hR hx
      obtain ⟨h1, _⟩ := hx
      replace h1 : r (.tmp 5) = .pointer (some ⟨w.heap.size, 0, none⟩) := h1
      exact give_of (exec_get one22 rfl h1 (pv0 (hb1'.ext hR))) ⟨Ext.refl _, rfl⟩
    refine GoodAll.cons ?_ ?_
    · intro r wx hR hx
      obtain ⟨h1, _⟩ := hx
      replace h1 : r (.tmp 3) = .pointer (some ⟨w1.heap.size, 0, none⟩) := h1
      exact give_of (by simp [execOp, h1, go_sem]) ⟨Ext.refl _, rfl⟩
    refine GoodAll.cons ?_ ?_
    · intro r wx hR hx
      obtain ⟨h1, _⟩ := hx
      replace h1 : r (.tmp 7) = .pointer (some ⟨w1.heap.size, 0, none⟩) := h1
      exact give_of (exec_get one22 rfl h1 (pv0 (hb2.ext hR))) ⟨Ext.refl _, rfl⟩
    refine GoodAll.cons ?_ ?_
    · intro r wx hR hx
      obtain ⟨h1, h2, _⟩ := hx
      replace h1 : r (.tmp 6) = .int .u32 (c.ptsn : Int) := h1
      replace h2 : r (.tmp 8) = .int .u32 (d.ptsn : Int) := h2
      exact give_of (by simp [execOp, h1, h2, go_sem]) ⟨Ext.refl _, rfl⟩
    refine GoodAll.cons ?_ ?_
    · intro r wx hR hx
      obtain ⟨h1, _⟩ := hx
      replace h1 : r (.tmp 9) = .bool (((c.ptsn : Int) : Int) == ((d.ptsn : Int) : Int)) := h1
      exact give_move (.inl rfl) ⟨Ext.refl _, h1⟩
    refine GoodAll.cons ?_ ?_
    · intro r wx hR hx
      obtain ⟨h1, _⟩ := hx
      replace h1 : r (.tmp 2) = .pointer (some ⟨w.heap.size, 0, none⟩) := h1
      intro gb hgb
      refine guard_u (C := ((((c.ptsn : Int) : Int) == ((d.ptsn : Int) : Int)))) (b := (((c.ptsn : Int) : Int) == ((d.ptsn : Int) : Int))) (want := true) hgb (want_t _) (fun hc => ?_) (fun hc => under_no hc)
      exact give_of (by simp [execOp, h1, go_sem]) ⟨Ext.refl _, under_yes hc⟩
    refine GoodAll.cons ?_ ?_
    · intro r wx hR hx
      obtain ⟨h1, _⟩ := hx
      replace h1 : Under (((((c.ptsn : Int) : Int) == ((d.ptsn : Int) : Int)))) (.pointer (some ⟨w.heap.size, 1, none⟩)) wx (r (.tmp 11)) := h1
      intro gb hgb
      refine guard_u (C := ((((c.ptsn : Int) : Int) == ((d.ptsn : Int) : Int)))) (b := (((c.ptsn : Int) : Int) == ((d.ptsn : Int) : Int))) (want := true) hgb (want_t _) (fun hc => ?_) (fun hc => under_no hc)
      replace h1 := h1.get hc
      exact give_of (exec_get one23 rfl h1 (pv1 (hb1'.ext hR))) ⟨Ext.refl _, under_yes hc⟩
    refine GoodAll.cons ?_ ?_
    · intro r wx hR hx
      obtain ⟨h1, _⟩ := hx
      replace h1 : r (.tmp 3) = .pointer (some ⟨w1.heap.size, 0, none⟩) := h1
      intro gb hgb
      refine guard_u (C := ((((c.ptsn : Int) : Int) == ((d.ptsn : Int) : Int)))) (b := (((c.ptsn : Int) : Int) == ((d.ptsn : Int) : Int))) (want := true) hgb (want_t _) (fun hc => ?_) (fun hc => under_no hc)
      exact give_of (by simp [execOp, h1, go_sem]) ⟨Ext.refl _, under_yes hc⟩
    refine GoodAll.cons ?_ ?_
    · intro r wx hR hx
      obtain ⟨h1, _⟩ := hx
      replace h1 : Under (((((c.ptsn : Int) : Int) == ((d.ptsn : Int) : Int)))) (.pointer (some ⟨w1.heap.size, 1, none⟩)) wx (r (.tmp 13)) := h1
      intro gb hgb
      refine guard_u (C := ((((c.ptsn : Int) : Int) == ((d.ptsn : Int) : Int)))) (b := (((c.ptsn : Int) : Int) == ((d.ptsn : Int) : Int))) (want := true) hgb (want_t _) (fun hc => ?_) (fun hc => under_no hc)
      replace h1 := h1.get hc
      exact give_of (exec_get one23 rfl h1 (pv1 (hb2.ext hR))) ⟨Ext.refl _, under_yes hc⟩
    refine GoodAll.cons ?_ ?_
    · intro r wx hR hx
      obtain ⟨h1, h2, _⟩ := hx
      replace h1 : Under (((((c.ptsn : Int) : Int) == ((d.ptsn : Int) : Int)))) (.int .u16 (c.pstr : Int)) wx (r (.tmp 12)) := h1
      replace h2 : Under (((((c.ptsn : Int) : Int) == ((d.ptsn : Int) : Int)))) (.int .u16 (d.pstr : Int)) wx (r (.tmp 14)) := h2
      intro gb hgb
      refine guard_u (C := ((((c.ptsn : Int) : Int) == ((d.ptsn : Int) : Int)))) (b := (((c.ptsn : Int) : Int) == ((d.ptsn : Int) : Int))) (want := true) hgb (want_t _) (fun hc => ?_) (fun hc => under_no hc)
      replace h1 := h1.get hc
      replace h2 := h2.get hc
      exact give_of (by simp [execOp, h1, h2, go_sem]) ⟨Ext.refl _, under_yes hc⟩
    refine GoodAll.cons ?_ ?_
    · intro r wx hR hx
      obtain ⟨h1, h2, h3, _⟩ := hx
      replace h1 : r (.tmp 10) = .bool (((c.ptsn : Int) : Int) == ((d.ptsn : Int) : Int)) := h1
      replace h2 : Under (((((c.ptsn : Int) : Int) == ((d.ptsn : Int) : Int)))) (.bool (((c.pstr : Int) : Int) == ((d.pstr : Int) : Int))) wx (r (.tmp 15)) := h2
      replace h3 : r (.const (.bool false)) = .bool false := h3
      exact give_and rfl h3 h1 (fun hb => h2.get (by first | exact hb | (rw [hc, hb]; rfl) | (rw [hb]; rfl))) ⟨Ext.refl _, rfl⟩
    refine GoodAll.cons ?_ ?_
    · intro r wx hR hx
      obtain ⟨h1, _⟩ := hx
      replace h1 : r (.tmp 16) = .bool ((((c.ptsn : Int) : Int) == ((d.ptsn : Int) : Int)) && ((((c.pstr : Int) : Int) == ((d.pstr : Int) : Int)))) := h1
      exact give_move (.inl rfl) ⟨Ext.refl _, h1⟩
    refine GoodAll.cons ?_ ?_
    · intro r wx hR hx
      obtain ⟨h1, _⟩ := hx
      replace h1 : r (.tmp 2) = .pointer (some ⟨w.heap.size, 0, none⟩) := h1
      intro gb hgb
      refine guard_u (C := (((((c.ptsn : Int) : Int) == ((d.ptsn : Int) : Int)) && ((((c.pstr : Int) : Int) == ((d.pstr : Int) : Int)))))) (b := ((((c.ptsn : Int) : Int) == ((d.ptsn : Int) : Int)) && ((((c.pstr : Int) : Int) == ((d.pstr : Int) : Int))))) (want := true) hgb (want_t _) (fun hc => ?_) (fun hc => under_no hc)
      exact give_of (by simp [execOp, h1, go_sem]) ⟨Ext.refl _, under_yes hc⟩
    refine GoodAll.cons ?_ ?_
    · intro r wx hR hx
      obtain ⟨h1, _⟩ := hx
      replace h1 : Under ((((((c.ptsn : Int) : Int) == ((d.ptsn : Int) : Int)) && ((((c.pstr : Int) : Int) == ((d.pstr : Int) : Int)))))) (.pointer (some ⟨w.heap.size, 2, none⟩)) wx (r (.tmp 18)) := h1
      intro gb hgb
      refine guard_u (C := (((((c.ptsn : Int) : Int) == ((d.ptsn : Int) : Int)) && ((((c.pstr : Int) : Int) == ((d.pstr : Int) : Int)))))) (b := ((((c.ptsn : Int) : Int) == ((d.ptsn : Int) : Int)) && ((((c.pstr : Int) : Int) == ((d.pstr : Int) : Int))))) (want := true) hgb (want_t _) (fun hc => ?_) (fun hc => under_no hc)
      replace h1 := h1.get hc
      exact give_of (exec_get one23 rfl h1 (pv2 (hb1'.ext hR))) ⟨Ext.refl _, under_yes hc⟩
    refine GoodAll.cons ?_ ?_
    · intro r wx hR hx
      obtain ⟨h1, _⟩ := hx
      replace h1 : r (.tmp 3) = .pointer (some ⟨w1.heap.size, 0, none⟩) := h1
      intro gb hgb
      refine guard_u (C := (((((c.ptsn : Int) : Int) == ((d.ptsn : Int) : Int)) && ((((c.pstr : Int) : Int) == ((d.pstr : Int) : Int)))))) (b := ((((c.ptsn : Int) : Int) == ((d.ptsn : Int) : Int)) && ((((c.pstr : Int) : Int) == ((d.pstr : Int) : Int))))) (want := true) hgb (want_t _) (fun hc => ?_) (fun hc => under_no hc)
      exact give_of (by simp [execOp, h1, go_sem]) ⟨Ext.refl _, under_yes hc⟩
    refine GoodAll.cons ?_ ?_
    · intro r wx hR hx
      obtain ⟨h1, _⟩ := hx
      replace h1 : Under ((((((c.ptsn : Int) : Int) == ((d.ptsn : Int) : Int)) && ((((c.pstr : Int) : Int) == ((d.pstr : Int) : Int)))))) (.pointer (some ⟨w1.heap.size, 2, none⟩)) wx (r (.tmp 20)) := h1
      intro gb hgb
      refine guard_u (C := (((((c.ptsn : Int) : Int) == ((d.ptsn : Int) : Int)) && ((((c.pstr : Int) : Int) == ((d.pstr : Int) : Int)))))) (b := ((((c.ptsn : Int) : Int) == ((d.ptsn : Int) : Int)) && ((((c.pstr : Int) : Int) == ((d.pstr : Int) : Int))))) (want := true) hgb (want_t _) (fun hc => ?_) (fun hc => under_no hc)
      replace h1 := h1.get hc
      exact give_of (exec_get one23 rfl h1 (pv2 (hb2.ext hR))) ⟨Ext.refl _, under_yes hc⟩
    refine GoodAll.cons ?_ ?_
    · intro r wx hR hx
      obtain ⟨h1, h2, _⟩ := hx
      replace h1 : Under ((((((c.ptsn : Int) : Int) == ((d.ptsn : Int) : Int)) && ((((c.pstr : Int) : Int) == ((d.pstr : Int) : Int)))))) (.int .u16 (c.pseq : Int)) wx (r (.tmp 19)) := h1
      replace h2 : Under ((((((c.ptsn : Int) : Int) == ((d.ptsn : Int) : Int)) && ((((c.pstr : Int) : Int) == ((d.pstr : Int) : Int)))))) (.int .u16 (d.pseq : Int)) wx (r (.tmp 21)) := h2
      intro gb hgb
      refine guard_u (C := (((((c.ptsn : Int) : Int) == ((d.ptsn : Int) : Int)) && ((((c.pstr : Int) : Int) == ((d.pstr : Int) : Int)))))) (b := ((((c.ptsn : Int) : Int) == ((d.ptsn : Int) : Int)) && ((((c.pstr : Int) : Int) == ((d.pstr : Int) : Int))))) (want := true) hgb (want_t _) (fun hc => ?_) (fun hc => under_no hc)
      replace h1 := h1.get hc
      replace h2 := h2.get hc
      exact give_of (by simp [execOp, h1, h2, go_sem]) ⟨Ext.refl _, under_yes hc⟩
    refine GoodAll.cons ?_ ?_
    · intro r wx hR hx
      obtain ⟨h1, h2, h3, _⟩ := hx
      replace h1 : r (.tmp 17) = .bool ((((c.ptsn : Int) : Int) == ((d.ptsn : Int) : Int)) && ((((c.pstr : Int) : Int) == ((d.pstr : Int) : Int)))) := h1
      replace h2 : Under ((((((c.ptsn : Int) : Int) == ((d.ptsn : Int) : Int)) && ((((c.pstr : Int) : Int) == ((d.pstr : Int) : Int)))))) (.bool (((c.pseq : Int) : Int) == ((d.pseq : Int) : Int))) wx (r (.tmp 22)) := h2
      replace h3 : r (.const (.bool false)) = .bool false := h3
      exact give_and rfl h3 h1 (fun hb => h2.get (by first | exact hb | (rw [hc, hb]; rfl) | (rw [hb]; rfl))) ⟨Ext.refl _, rfl⟩
    refine GoodAll.cons ?_ ?_
    · intro r wx hR hx
      obtain ⟨h1, _⟩ := hx
      replace h1 : r (.tmp 23) = .bool (((((c.ptsn : Int) : Int) == ((d.ptsn : Int) : Int)) && ((((c.pstr : Int) : Int) == ((d.pstr : Int) : Int)))) && ((((c.pseq : Int) : Int) == ((d.pseq : Int) : Int)))) := h1
      exact give_move (.inl rfl) ⟨Ext.refl _, h1⟩
    refine GoodAll.cons ?_ ?_
    · intro r wx hR hx
      obtain ⟨h1, _⟩ := hx
      replace h1 : r (.tmp 2) = .pointer (some ⟨w.heap.size, 0, none⟩) := h1
      intro gb hgb
      refine guard_u (C := ((((((c.ptsn : Int) : Int) == ((d.ptsn : Int) : Int)) && ((((c.pstr : Int) : Int) == ((d.pstr : Int) : Int)))) && ((((c.pseq : Int) : Int) == ((d.pseq : Int) : Int)))))) (b := (((((c.ptsn : Int) : Int) == ((d.ptsn : Int) : Int)) && ((((c.pstr : Int) : Int) == ((d.pstr : Int) : Int)))) && ((((c.pseq : Int) : Int) == ((d.pseq : Int) : Int))))) (want := true) hgb (want_t _) (fun hc => ?_) (fun hc => under_no hc)
      exact give_of (by simp [execOp, h1, go_sem]) ⟨Ext.refl _, under_yes hc⟩
    refine GoodAll.cons ?_ ?_
    · intro r wx hR hx
      obtain ⟨h1, _⟩ := hx
      replace h1 : Under (((((((c.ptsn : Int) : Int) == ((d.ptsn : Int) : Int)) && ((((c.pstr : Int) : Int) == ((d.pstr : Int) : Int)))) && ((((c.pseq : Int) : Int) == ((d.pseq : Int) : Int)))))) (.pointer (some ⟨w.heap.size, 3, none⟩)) wx (r (.tmp 25)) := h1
      intro gb hgb
      refine guard_u (C := ((((((c.ptsn : Int) : Int) == ((d.ptsn : Int) : Int)) && ((((c.pstr : Int) : Int) == ((d.pstr : Int) : Int)))) && ((((c.pseq : Int) : Int) == ((d.pseq : Int) : Int)))))) (b := (((((c.ptsn : Int) : Int) == ((d.ptsn : Int) : Int)) && ((((c.pstr : Int) : Int) == ((d.pstr : Int) : Int)))) && ((((c.pseq : Int) : Int) == ((d.pseq : Int) : Int))))) (want := true) hgb (want_t _) (fun hc => ?_) (fun hc => under_no hc)
      replace h1 := h1.get hc
      exact give_of (exec_get one4 rfl h1 (pv3 (hb1'.ext hR))) ⟨Ext.refl _, under_yes hc⟩
    refine GoodAll.cons ?_ ?_
    · intro r wx hR hx
      obtain ⟨h1, _⟩ := hx
      replace h1 : r (.tmp 3) = .pointer (some ⟨w1.heap.size, 0, none⟩) := h1
      intro gb hgb
      refine guard_u (C := ((((((c.ptsn : Int) : Int) == ((d.ptsn : Int) : Int)) && ((((c.pstr : Int) : Int) == ((d.pstr : Int) : Int)))) && ((((c.pseq : Int) : Int) == ((d.pseq : Int) : Int)))))) (b := (((((c.ptsn : Int) : Int) == ((d.ptsn : Int) : Int)) && ((((c.pstr : Int) : Int) == ((d.pstr : Int) : Int)))) && ((((c.pseq : Int) : Int) == ((d.pseq : Int) : Int))))) (want := true) hgb (want_t _) (fun hc => ?_) (fun hc => under_no hc)
      exact give_of (by simp [execOp, h1, go_sem]) ⟨Ext.refl _, under_yes hc⟩
    refine GoodAll.cons ?_ ?_
    · intro r wx hR hx
      obtain ⟨h1, _⟩ := hx
      replace h1 : Under (((((((c.ptsn : Int) : Int) == ((d.ptsn : Int) : Int)) && ((((c.pstr : Int) : Int) == ((d.pstr : Int) : Int)))) && ((((c.pseq : Int) : Int) == ((d.pseq : Int) : Int)))))) (.pointer (some ⟨w1.heap.size, 3, none⟩)) wx (r (.tmp 27)) := h1
      intro gb hgb
      refine guard_u (C := ((((((c.ptsn : Int) : Int) == ((d.ptsn : Int) : Int)) && ((((c.pstr : Int) : Int) == ((d.pstr : Int) : Int)))) && ((((c.pseq : Int) : Int) == ((d.pseq : Int) : Int)))))) (b := (((((c.ptsn : Int) : Int) == ((d.ptsn : Int) : Int)) && ((((c.pstr : Int) : Int) == ((d.pstr : Int) : Int)))) && ((((c.pseq : Int) : Int) == ((d.pseq : Int) : Int))))) (want := true) hgb (want_t _) (fun hc => ?_) (fun hc => under_no hc)
      replace h1 := h1.get hc
      exact give_of (exec_get one4 rfl h1 (pv3 (hb2.ext hR))) ⟨Ext.refl _, under_yes hc⟩
    refine GoodAll.cons ?_ ?_
    · intro r wx hR hx
      obtain ⟨h1, h2, _⟩ := hx
      replace h1 : Under (((((((c.ptsn : Int) : Int) == ((d.ptsn : Int) : Int)) && ((((c.pstr : Int) : Int) == ((d.pstr : Int) : Int)))) && ((((c.pseq : Int) : Int) == ((d.pseq : Int) : Int)))))) (.bool c.pb) wx (r (.tmp 26)) := h1
      replace h2 : Under (((((((c.ptsn : Int) : Int) == ((d.ptsn : Int) : Int)) && ((((c.pstr : Int) : Int) == ((d.pstr : Int) : Int)))) && ((((c.pseq : Int) : Int) == ((d.pseq : Int) : Int)))))) (.bool d.pb) wx (r (.tmp 28)) := h2
      intro gb hgb
      refine guard_u (C := ((((((c.ptsn : Int) : Int) == ((d.ptsn : Int) : Int)) && ((((c.pstr : Int) : Int) == ((d.pstr : Int) : Int)))) && ((((c.pseq : Int) : Int) == ((d.pseq : Int) : Int)))))) (b := (((((c.ptsn : Int) : Int) == ((d.ptsn : Int) : Int)) && ((((c.pstr : Int) : Int) == ((d.pstr : Int) : Int)))) && ((((c.pseq : Int) : Int) == ((d.pseq : Int) : Int))))) (want := true) hgb (want_t _) (fun hc => ?_) (fun hc => under_no hc)
      replace h1 := h1.get hc
      replace h2 := h2.get hc
      exact give_of (by simp [execOp, h1, h2, go_sem]) ⟨Ext.refl _, under_yes hc⟩
    refine GoodAll.cons ?_ ?_
    · intro r wx hR hx
      obtain ⟨h1, h2, h3, _⟩ := hx
      replace h1 : r (.tmp 24) = .bool (((((c.ptsn : Int) : Int) == ((d.ptsn : Int) : Int)) && ((((c.pstr : Int) : Int) == ((d.pstr : Int) : Int)))) && ((((c.pseq : Int) : Int) == ((d.pseq : Int) : Int)))) := h1
      replace h2 : Under (((((((c.ptsn : Int) : Int) == ((d.ptsn : Int) : Int)) && ((((c.pstr : Int) : Int) == ((d.pstr : Int) : Int)))) && ((((c.pseq : Int) : Int) == ((d.pseq : Int) : Int)))))) (.bool ((c.pb) == (d.pb))) wx (r (.tmp 29)) := h2
      replace h3 : r (.const (.bool false)) = .bool false := h3
      exact give_and rfl h3 h1 (fun hb => h2.get (by first | exact hb | (rw [hc, hb]; rfl) | (rw [hb]; rfl))) ⟨Ext.refl _, rfl⟩
    refine GoodAll.cons ?_ ?_
    · intro r wx hR hx
      obtain ⟨h1, _⟩ := hx
      replace h1 : r (.tmp 30) = .bool ((((((c.ptsn : Int) : Int) == ((d.ptsn : Int) : Int)) && ((((c.pstr : Int) : Int) == ((d.pstr : Int) : Int)))) && ((((c.pseq : Int) : Int) == ((d.pseq : Int) : Int)))) && (((c.pb) == (d.pb)))) := h1
      exact give_move (.inl rfl) ⟨Ext.refl _, h1⟩
    refine GoodAll.cons ?_ ?_
    · intro r wx hR hx
      obtain ⟨h1, _⟩ := hx
      replace h1 : r (.tmp 2) = .pointer (some ⟨w.heap.size, 0, none⟩) := h1
      intro gb hgb
      refine guard_u (C := (((((((c.ptsn : Int) : Int) == ((d.ptsn : Int) : Int)) && ((((c.pstr : Int) : Int) == ((d.pstr : Int) : Int)))) && ((((c.pseq : Int) : Int) == ((d.pseq : Int) : Int)))) && (((c.pb) == (d.pb)))))) (b := ((((((c.ptsn : Int) : Int) == ((d.ptsn : Int) : Int)) && ((((c.pstr : Int) : Int) == ((d.pstr : Int) : Int)))) && ((((c.pseq : Int) : Int) == ((d.pseq : Int) : Int)))) && (((c.pb) == (d.pb))))) (want := true) hgb (want_t _) (fun hc => ?_) (fun hc => under_no hc)
      exact give_of (by simp [execOp, h1, go_sem]) ⟨Ext.refl _, under_yes hc⟩
    refine GoodAll.cons ?_ ?_
    · intro r wx hR hx
      obtain ⟨h1, _⟩ := hx
      replace h1 : Under ((((((((c.ptsn : Int) : Int) == ((d.ptsn : Int) : Int)) && ((((c.pstr : Int) : Int) == ((d.pstr : Int) : Int)))) && ((((c.pseq : Int) : Int) == ((d.pseq : Int) : Int)))) && (((c.pb) == (d.pb)))))) (.pointer (some ⟨w.heap.size, 4, none⟩)) wx (r (.tmp 32)) := h1
      intro gb hgb
      refine guard_u (C := (((((((c.ptsn : Int) : Int) == ((d.ptsn : Int) : Int)) && ((((c.pstr : Int) : Int) == ((d.pstr : Int) : Int)))) && ((((c.pseq : Int) : Int) == ((d.pseq : Int) : Int)))) && (((c.pb) == (d.pb)))))) (b := ((((((c.ptsn : Int) : Int) == ((d.ptsn : Int) : Int)) && ((((c.pstr : Int) : Int) == ((d.pstr : Int) : Int)))) && ((((c.pseq : Int) : Int) == ((d.pseq : Int) : Int)))) && (((c.pb) == (d.pb))))) (want := true) hgb (want_t _) (fun hc => ?_) (fun hc => under_no hc)
      replace h1 := h1.get hc
      exact give_of (exec_get one4 rfl h1 (pv4 (hb1'.ext hR))) ⟨Ext.refl _, under_yes hc⟩
    refine GoodAll.cons ?_ ?_
    · intro r wx hR hx
      obtain ⟨h1, _⟩ := hx
      replace h1 : r (.tmp 3) = .pointer (some ⟨w1.heap.size, 0, none⟩) := h1
      intro gb hgb
      refine guard_u (C := (((((((c.ptsn : Int) : Int) == ((d.ptsn : Int) : Int)) && ((((c.pstr : Int) : Int) == ((d.pstr : Int) : Int)))) && ((((c.pseq : Int) : Int) == ((d.pseq : Int) : Int)))) && (((c.pb) == (d.pb)))))) (b := ((((((c.ptsn : Int) : Int) == ((d.ptsn : Int) : Int)) && ((((c.pstr : Int) : Int) == ((d.pstr : Int) : Int)))) && ((((c.pseq : Int) : Int) == ((d.pseq : Int) : Int)))) && (((c.pb) == (d.pb))))) (want := true) hgb (want_t _) (fun hc => ?_) (fun hc => under_no hc)
      exact give_of (by simp [execOp, h1, go_sem]) ⟨Ext.refl _, under_yes hc⟩
    refine GoodAll.cons ?_ ?_
    · intro r wx hR hx
      obtain ⟨h1, _⟩ := hx
      replace h1 : Under ((((((((c.ptsn : Int) : Int) == ((d.ptsn : Int) : Int)) && ((((c.pstr : Int) : Int) == ((d.pstr : Int) : Int)))) && ((((c.pseq : Int) : Int) == ((d.pseq : Int) : Int)))) && (((c.pb) == (d.pb)))))) (.pointer (some ⟨w1.heap.size, 4, none⟩)) wx (r (.tmp 34)) := h1
      intro gb hgb
      refine guard_u (C := (((((((c.ptsn : Int) : Int) == ((d.ptsn : Int) : Int)) && ((((c.pstr : Int) : Int) == ((d.pstr : Int) : Int)))) && ((((c.pseq : Int) : Int) == ((d.pseq : Int) : Int)))) && (((c.pb) == (d.pb)))))) (b := ((((((c.ptsn : Int) : Int) == ((d.ptsn : Int) : Int)) && ((((c.pstr : Int) : Int) == ((d.pstr : Int) : Int)))) && ((((c.pseq : Int) : Int) == ((d.pseq : Int) : Int)))) && (((c.pb) == (d.pb))))) (want := true) hgb (want_t _) (fun hc => ?_) (fun hc => under_no hc)
      replace h1 := h1.get hc
      exact give_of (exec_get one4 rfl h1 (pv4 (hb2.ext hR))) ⟨Ext.refl _, under_yes hc⟩
    refine GoodAll.cons ?_ ?_
    · intro r wx hR hx
      obtain ⟨h1, h2, _⟩ := hx
      replace h1 : Under ((((((((c.ptsn : Int) : Int) == ((d.ptsn : Int) : Int)) && ((((c.pstr : Int) : Int) == ((d.pstr : Int) : Int)))) && ((((c.pseq : Int) : Int) == ((d.pseq : Int) : Int)))) && (((c.pb) == (d.pb)))))) (.bool c.pe) wx (r (.tmp 33)) := h1
      replace h2 : Under ((((((((c.ptsn : Int) : Int) == ((d.ptsn : Int) : Int)) && ((((c.pstr : Int) : Int) == ((d.pstr : Int) : Int)))) && ((((c.pseq : Int) : Int) == ((d.pseq : Int) : Int)))) && (((c.pb) == (d.pb)))))) (.bool d.pe) wx (r (.tmp 35)) := h2
      intro gb hgb
      refine guard_u (C := (((((((c.ptsn : Int) : Int) == ((d.ptsn : Int) : Int)) && ((((c.pstr : Int) : Int) == ((d.pstr : Int) : Int)))) && ((((c.pseq : Int) : Int) == ((d.pseq : Int) : Int)))) && (((c.pb) == (d.pb)))))) (b := ((((((c.ptsn : Int) : Int) == ((d.ptsn : Int) : Int)) && ((((c.pstr : Int) : Int) == ((d.pstr : Int) : Int)))) && ((((c.pseq : Int) : Int) == ((d.pseq : Int) : Int)))) && (((c.pb) == (d.pb))))) (want := true) hgb (want_t _) (fun hc => ?_) (fun hc => under_no hc)
      replace h1 := h1.get hc
      replace h2 := h2.get hc
      exact give_of (by simp [execOp, h1, h2, go_sem]) ⟨Ext.refl _, under_yes hc⟩
    refine GoodAll.cons ?_ ?_
    · intro r wx hR hx
      obtain ⟨h1, h2, h3, _⟩ := hx
      replace h1 : r (.tmp 31) = .bool ((((((c.ptsn : Int) : Int) == ((d.ptsn : Int) : Int)) && ((((c.pstr : Int) : Int) == ((d.pstr : Int) : Int)))) && ((((c.pseq : Int) : Int) == ((d.pseq : Int) : Int)))) && (((c.pb) == (d.pb)))) := h1
      replace h2 : Under ((((((((c.ptsn : Int) : Int) == ((d.ptsn : Int) : Int)) && ((((c.pstr : Int) : Int) == ((d.pstr : Int) : Int)))) && ((((c.pseq : Int) : Int) == ((d.pseq : Int) : Int)))) && (((c.pb) == (d.pb)))))) (.bool ((c.pe) == (d.pe))) wx (r (.tmp 36)) := h2
      replace h3 : r (.const (.bool false)) = .bool false := h3
      exact give_and rfl h3 h1 (fun hb => h2.get (by first | exact hb | (rw [hc, hb]; rfl) | (rw [hb]; rfl))) ⟨Ext.refl _, rfl⟩
    refine GoodAll.cons ?_ ?_
    · intro r wx hR hx
      obtain ⟨h1, _⟩ := hx
      replace h1 : r (.tmp 37) = .bool (((((((c.ptsn : Int) : Int) == ((d.ptsn : Int) : Int)) && ((((c.pstr : Int) : Int) == ((d.pstr : Int) : Int)))) && ((((c.pseq : Int) : Int) == ((d.pseq : Int) : Int)))) && (((c.pb) == (d.pb)))) && (((c.pe) == (d.pe)))) := h1
      exact give_move (.inl rfl) ⟨Ext.refl _, h1⟩
    refine GoodAll.cons ?_ ?_
    · intro r wx hR hx
      obtain ⟨h1, _⟩ := hx
      replace h1 : r (.tmp 2) = .pointer (some ⟨w.heap.size, 0, none⟩) := h1
      intro gb hgb
      refine guard_u (C := ((((((((c.ptsn : Int) : Int) == ((d.ptsn : Int) : Int)) && ((((c.pstr : Int) : Int) == ((d.pstr : Int) : Int)))) && ((((c.pseq : Int) : Int) == ((d.pseq : Int) : Int)))) && (((c.pb) == (d.pb)))) && (((c.pe) == (d.pe)))))) (b := (((((((c.ptsn : Int) : Int) == ((d.ptsn : Int) : Int)) && ((((c.pstr : Int) : Int) == ((d.pstr : Int) : Int)))) && ((((c.pseq : Int) : Int) == ((d.pseq : Int) : Int)))) && (((c.pb) == (d.pb)))) && (((c.pe) == (d.pe))))) (want := true) hgb (want_t _) (fun hc => ?_) (fun hc => under_no hc)
      exact give_of (by simp [execOp, h1, go_sem]) ⟨Ext.refl _, under_yes hc⟩
    refine GoodAll.cons ?_ ?_
    · intro r wx hR hx
      obtain ⟨h1, _⟩ := hx
      replace h1 : Under (((((((((c.ptsn : Int) : Int) == ((d.ptsn : Int) : Int)) && ((((c.pstr : Int) : Int) == ((d.pstr : Int) : Int)))) && ((((c.pseq : Int) : Int) == ((d.pseq : Int) : Int)))) && (((c.pb) == (d.pb)))) && (((c.pe) == (d.pe)))))) (.pointer (some ⟨w.heap.size, 5, none⟩)) wx (r (.tmp 39)) := h1
      intro gb hgb
      refine guard_u (C := ((((((((c.ptsn : Int) : Int) == ((d.ptsn : Int) : Int)) && ((((c.pstr : Int) : Int) == ((d.pstr : Int) : Int)))) && ((((c.pseq : Int) : Int) == ((d.pseq : Int) : Int)))) && (((c.pb) == (d.pb)))) && (((c.pe) == (d.pe)))))) (b := (((((((c.ptsn : Int) : Int) == ((d.ptsn : Int) : Int)) && ((((c.pstr : Int) : Int) == ((d.pstr : Int) : Int)))) && ((((c.pseq : Int) : Int) == ((d.pseq : Int) : Int)))) && (((c.pb) == (d.pb)))) && (((c.pe) == (d.pe))))) (want := true) hgb (want_t _) (fun hc => ?_) (fun hc => under_no hc)
      replace h1 := h1.get hc
      exact give_of (exec_get one4 rfl h1 (pv5 (hb1'.ext hR))) ⟨Ext.refl _, under_yes hc⟩
    refine GoodAll.cons ?_ ?_
    · intro r wx hR hx
      obtain ⟨h1, _⟩ := hx
      replace h1 : r (.tmp 3) = .pointer (some ⟨w1.heap.size, 0, none⟩) := h1
      intro gb hgb
      refine guard_u (C := ((((((((c.ptsn : Int) : Int) == ((d.ptsn : Int) : Int)) && ((((c.pstr : Int) : Int) == ((d.pstr : Int) : Int)))) && ((((c.pseq : Int) : Int) == ((d.pseq : Int) : Int)))) && (((c.pb) == (d.pb)))) && (((c.pe) == (d.pe)))))) (b := (((((((c.ptsn : Int) : Int) == ((d.ptsn : Int) : Int)) && ((((c.pstr : Int) : Int) == ((d.pstr : Int) : Int)))) && ((((c.pseq : Int) : Int) == ((d.pseq : Int) : Int)))) && (((c.pb) == (d.pb)))) && (((c.pe) == (d.pe))))) (want := true) hgb (want_t _) (fun hc => ?_) (fun hc => under_no hc)
      exact give_of (by simp [execOp, h1, go_sem]) ⟨Ext.refl _, under_yes hc⟩
    refine GoodAll.cons ?_ ?_
    · intro r wx hR hx
      obtain ⟨h1, _⟩ := hx
      replace h1 : Under (((((((((c.ptsn : Int) : Int) == ((d.ptsn : Int) : Int)) && ((((c.pstr : Int) : Int) == ((d.pstr : Int) : Int)))) && ((((c.pseq : Int) : Int) == ((d.pseq : Int) : Int)))) && (((c.pb) == (d.pb)))) && (((c.pe) == (d.pe)))))) (.pointer (some ⟨w1.heap.size, 5, none⟩)) wx (r (.tmp 41)) := h1
      intro gb hgb
      refine guard_u (C := ((((((((c.ptsn : Int) : Int) == ((d.ptsn : Int) : Int)) && ((((c.pstr : Int) : Int) == ((d.pstr : Int) : Int)))) && ((((c.pseq : Int) : Int) == ((d.pseq : Int) : Int)))) && (((c.pb) == (d.pb)))) && (((c.pe) == (d.pe)))))) (b := (((((((c.ptsn : Int) : Int) == ((d.ptsn : Int) : Int)) && ((((c.pstr : Int) : Int) == ((d.pstr : Int) : Int)))) && ((((c.pseq : Int) : Int) == ((d.pseq : Int) : Int)))) && (((c.pb) == (d.pb)))) && (((c.pe) == (d.pe))))) (want := true) hgb (want_t _) (fun hc => ?_) (fun hc => under_no hc)
      replace h1 := h1.get hc
      exact give_of (exec_get one4 rfl h1 (pv5 (hb2.ext hR))) ⟨Ext.refl _, under_yes hc⟩
    refine GoodAll.cons ?_ ?_
    · intro r wx hR hx
      obtain ⟨h1, h2, _⟩ := hx
      replace h1 : Under (((((((((c.ptsn : Int) : Int) == ((d.ptsn : Int) : Int)) && ((((c.pstr : Int) : Int) == ((d.pstr : Int) : Int)))) && ((((c.pseq : Int) : Int) == ((d.pseq : Int) : Int)))) && (((c.pb) == (d.pb)))) && (((c.pe) == (d.pe)))))) (.bool c.pu) wx (r (.tmp 40)) := h1
      replace h2 : Under (((((((((c.ptsn : Int) : Int) == ((d.ptsn : Int) : Int)) && ((((c.pstr : Int) : Int) == ((d.pstr : Int) : Int)))) && ((((c.pseq : Int) : Int) == ((d.pseq : Int) : Int)))) && (((c.pb) == (d.pb)))) && (((c.pe) == (d.pe)))))) (.bool d.pu) wx (r (.tmp 42)) := h2
      intro gb hgb
      refine guard_u (C := ((((((((c.ptsn : Int) : Int) == ((d.ptsn : Int) : Int)) && ((((c.pstr : Int) : Int) == ((d.pstr : Int) : Int)))) && ((((c.pseq : Int) : Int) == ((d.pseq : Int) : Int)))) && (((c.pb) == (d.pb)))) && (((c.pe) == (d.pe)))))) (b := (((((((c.ptsn : Int) : Int) == ((d.ptsn : Int) : Int)) && ((((c.pstr : Int) : Int) == ((d.pstr : Int) : Int)))) && ((((c.pseq : Int) : Int) == ((d.pseq : Int) : Int)))) && (((c.pb) == (d.pb)))) && (((c.pe) == (d.pe))))) (want := true) hgb (want_t _) (fun hc => ?_) (fun hc => under_no hc)
      replace h1 := h1.get hc
      replace h2 := h2.get hc
      exact give_of (by simp [execOp, h1, h2, go_sem]) ⟨Ext.refl _, under_yes hc⟩
    refine GoodAll.cons ?_ ?_
    · intro r wx hR hx
      obtain ⟨h1, h2, h3, _⟩ := hx
      replace h1 : r (.tmp 38) = .bool (((((((c.ptsn : Int) : Int) == ((d.ptsn : Int) : Int)) && ((((c.pstr : Int) : Int) == ((d.pstr : Int) : Int)))) && ((((c.pseq : Int) : Int) == ((d.pseq : Int) : Int)))) && (((c.pb) == (d.pb)))) && (((c.pe) == (d.pe)))) := h1
      replace h2 : Under (((((((((c.ptsn : Int) : Int) == ((d.ptsn : Int) : Int)) && ((((c.pstr : Int) : Int) == ((d.pstr : Int) : Int)))) && ((((c.pseq : Int) : Int) == ((d.pseq : Int) : Int)))) && (((c.pb) == (d.pb)))) && (((c.pe) == (d.pe)))))) (.bool ((c.pu) == (d.pu))) wx (r (.tmp 43)) := h2
      replace h3 : r (.const (.bool false)) = .bool false := h3
      exact give_and rfl h3 h1 (fun hb => h2.get (by first | exact hb | (rw [hc, hb]; rfl) | (rw [hb]; rfl))) ⟨Ext.refl _, rfl⟩
    refine GoodAll.cons ?_ ?_
    · intro r wx hR hx
      obtain ⟨h1, _⟩ := hx
      replace h1 : r (.tmp 44) = .bool ((((((((c.ptsn : Int) : Int) == ((d.ptsn : Int) : Int)) && ((((c.pstr : Int) : Int) == ((d.pstr : Int) : Int)))) && ((((c.pseq : Int) : Int) == ((d.pseq : Int) : Int)))) && (((c.pb) == (d.pb)))) && (((c.pe) == (d.pe)))) && (((c.pu) == (d.pu)))) := h1
      exact give_move (.inl rfl) ⟨Ext.refl _, h1⟩
    refine GoodAll.cons ?_ ?_
    · intro r wx hR hx
      obtain ⟨h1, _⟩ := hx
      replace h1 : r (.tmp 2) = .pointer (some ⟨w.heap.size, 0, none⟩) := h1
      intro gb hgb
      refine guard_u (C := (((((((((c.ptsn : Int) : Int) == ((d.ptsn : Int) : Int)) && ((((c.pstr : Int) : Int) == ((d.pstr : Int) : Int)))) && ((((c.pseq : Int) : Int) == ((d.pseq : Int) : Int)))) && (((c.pb) == (d.pb)))) && (((c.pe) == (d.pe)))) && (((c.pu) == (d.pu)))))) (b := ((((((((c.ptsn : Int) : Int) == ((d.ptsn : Int) : Int)) && ((((c.pstr : Int) : Int) == ((d.pstr : Int) : Int)))) && ((((c.pseq : Int) : Int) == ((d.pseq : Int) : Int)))) && (((c.pb) == (d.pb)))) && (((c.pe) == (d.pe)))) && (((c.pu) == (d.pu))))) (want := true) hgb (want_t _) (fun hc => ?_) (fun hc => under_no hc)
      exact give_of (by simp [execOp, h1, go_sem]) ⟨Ext.refl _, under_yes hc⟩
    refine GoodAll.cons ?_ ?_
    · intro r wx hR hx
      obtain ⟨h1, _⟩ := hx
      replace h1 : Under ((((((((((c.ptsn : Int) : Int) == ((d.ptsn : Int) : Int)) && ((((c.pstr : Int) : Int) == ((d.pstr : Int) : Int)))) && ((((c.pseq : Int) : Int) == ((d.pseq : Int) : Int)))) && (((c.pb) == (d.pb)))) && (((c.pe) == (d.pe)))) && (((c.pu) == (d.pu)))))) (.pointer (some ⟨w.heap.size, 6, none⟩)) wx (r (.tmp 46)) := h1
      intro gb hgb
      refine guard_u (C := (((((((((c.ptsn : Int) : Int) == ((d.ptsn : Int) : Int)) && ((((c.pstr : Int) : Int) == ((d.pstr : Int) : Int)))) && ((((c.pseq : Int) : Int) == ((d.pseq : Int) : Int)))) && (((c.pb) == (d.pb)))) && (((c.pe) == (d.pe)))) && (((c.pu) == (d.pu)))))) (b := ((((((((c.ptsn : Int) : Int) == ((d.ptsn : Int) : Int)) && ((((c.pstr : Int) : Int) == ((d.pstr : Int) : Int)))) && ((((c.pseq : Int) : Int) == ((d.pseq : Int) : Int)))) && (((c.pb) == (d.pb)))) && (((c.pe) == (d.pe)))) && (((c.pu) == (d.pu))))) (want := true) hgb (want_t _) (fun hc => ?_) (fun hc => under_no hc)
      replace h1 := h1.get hc
      exact give_of (exec_get oneS rfl h1 (pv6 (hb1'.ext hR))) ⟨Ext.refl _, under_yes hc⟩
    refine GoodAll.cons ?_ ?_
    · intro r wx hR hx
      obtain ⟨h1, _⟩ := hx
      replace h1 : r (.tmp 3) = .pointer (some ⟨w1.heap.size, 0, none⟩) := h1
      intro gb hgb
      refine guard_u (C := (((((((((c.ptsn : Int) : Int) == ((d.ptsn : Int) : Int)) && ((((c.pstr : Int) : Int) == ((d.pstr : Int) : Int)))) && ((((c.pseq : Int) : Int) == ((d.pseq : Int) : Int)))) && (((c.pb) == (d.pb)))) && (((c.pe) == (d.pe)))) && (((c.pu) == (d.pu)))))) (b := ((((((((c.ptsn : Int) : Int) == ((d.ptsn : Int) : Int)) && ((((c.pstr : Int) : Int) == ((d.pstr : Int) : Int)))) && ((((c.pseq : Int) : Int) == ((d.pseq : Int) : Int)))) && (((c.pb) == (d.pb)))) && (((c.pe) == (d.pe)))) && (((c.pu) == (d.pu))))) (want := true) hgb (want_t _) (fun hc => ?_) (fun hc => under_no hc)
      exact give_of (by simp [execOp, h1, go_sem]) ⟨Ext.refl _, under_yes hc⟩
    refine GoodAll.cons ?_ ?_
    · intro r wx hR hx
      obtain ⟨h1, _⟩ := hx
      replace h1 : Under ((((((((((c.ptsn : Int) : Int) == ((d.ptsn : Int) : Int)) && ((((c.pstr : Int) : Int) == ((d.pstr : Int) : Int)))) && ((((c.pseq : Int) : Int) == ((d.pseq : Int) : Int)))) && (((c.pb) == (d.pb)))) && (((c.pe) == (d.pe)))) && (((c.pu) == (d.pu)))))) (.pointer (some ⟨w1.heap.size, 6, none⟩)) wx (r (.tmp 48)) := h1
      intro gb hgb
      refine guard_u (C := (((((((((c.ptsn : Int) : Int) == ((d.ptsn : Int) : Int)) && ((((c.pstr : Int) : Int) == ((d.pstr : Int) : Int)))) && ((((c.pseq : Int) : Int) == ((d.pseq : Int) : Int)))) && (((c.pb) == (d.pb)))) && (((c.pe) == (d.pe)))) && (((c.pu) == (d.pu)))))) (b := ((((((((c.ptsn : Int) : Int) == ((d.ptsn : Int) : Int)) && ((((c.pstr : Int) : Int) == ((d.pstr : Int) : Int)))) && ((((c.pseq : Int) : Int) == ((d.pseq : Int) : Int)))) && (((c.pb) == (d.pb)))) && (((c.pe) == (d.pe)))) && (((c.pu) == (d.pu))))) (want := true) hgb (want_t _) (fun hc => ?_) (fun hc => under_no hc)
      replace h1 := h1.get hc
      exact give_of (exec_get oneS rfl h1 (pv6 (hb2.ext hR))) ⟨Ext.refl _, under_yes hc⟩
    refine GoodAll.cons ?_ ?_
    · intro r wx hR hx
      obtain ⟨h1, h2, h3, _⟩ := hx
      replace h1 : r (.func 43) = .func (.func 43) #[] #[] := h1
      replace h2 : Under ((((((((((c.ptsn : Int) : Int) == ((d.ptsn : Int) : Int)) && ((((c.pstr : Int) : Int) == ((d.pstr : Int) : Int)))) && ((((c.pseq : Int) : Int) == ((d.pseq : Int) : Int)))) && (((c.pb) == (d.pb)))) && (((c.pe) == (d.pe)))) && (((c.pu) == (d.pu)))))) (.slice s.tA s.tN s.tC) wx (r (.tmp 47)) := h2
      replace h3 : Under ((((((((((c.ptsn : Int) : Int) == ((d.ptsn : Int) : Int)) && ((((c.pstr : Int) : Int) == ((d.pstr : Int) : Int)))) && ((((c.pseq : Int) : Int) == ((d.pseq : Int) : Int)))) && (((c.pb) == (d.pb)))) && (((c.pe) == (d.pe)))) && (((c.pu) == (d.pu)))))) (.slice u.tA u.tN u.tC) wx (r (.tmp 49)) := h3
      intro gb hgb
      refine guard_u (C := (((((((((c.ptsn : Int) : Int) == ((d.ptsn : Int) : Int)) && ((((c.pstr : Int) : Int) == ((d.pstr : Int) : Int)))) && ((((c.pseq : Int) : Int) == ((d.pseq : Int) : Int)))) && (((c.pb) == (d.pb)))) && (((c.pe) == (d.pe)))) && (((c.pu) == (d.pu)))))) (b := ((((((((c.ptsn : Int) : Int) == ((d.ptsn : Int) : Int)) && ((((c.pstr : Int) : Int) == ((d.pstr : Int) : Int)))) && ((((c.pseq : Int) : Int) == ((d.pseq : Int) : Int)))) && (((c.pb) == (d.pb)))) && (((c.pe) == (d.pe)))) && (((c.pu) == (d.pu))))) (want := true) hgb (want_t _) (fun hc => ?_) (fun hc => under_no hc)
      replace h2 := h2.get hc
      replace h3 := h3.get hc
      refine give_func #[.slice s.tA s.tN s.tC, .slice u.tA u.tN u.tC] rfl h1 Try.call43 (by simp [h2, h3]) ?_
      refine (equal_any ((ha.ext (he1.trans he2)).ext hR) ((hb.ext (he1.trans he2)).ext hR)).mono ?_
      rintro e wz ⟨rfl, hez⟩
      exact ⟨_, rfl, hez, under_yes hc⟩
    refine GoodAll.cons ?_ ?_
    · intro r wx hR hx
      obtain ⟨h1, h2, h3, _⟩ := hx
      replace h1 : r (.tmp 45) = .bool ((((((((c.ptsn : Int) : Int) == ((d.ptsn : Int) : Int)) && ((((c.pstr : Int) : Int) == ((d.pstr : Int) : Int)))) && ((((c.pseq : Int) : Int) == ((d.pseq : Int) : Int)))) && (((c.pb) == (d.pb)))) && (((c.pe) == (d.pe)))) && (((c.pu) == (d.pu)))) := h1
      replace h2 : Under ((((((((((c.ptsn : Int) : Int) == ((d.ptsn : Int) : Int)) && ((((c.pstr : Int) : Int) == ((d.pstr : Int) : Int)))) && ((((c.pseq : Int) : Int) == ((d.pseq : Int) : Int)))) && (((c.pb) == (d.pb)))) && (((c.pe) == (d.pe)))) && (((c.pu) == (d.pu)))))) (.bool (decide (c.text = d.text))) wx (r (.tmp 50)) := h2
      replace h3 : r (.const (.bool false)) = .bool false := h3
      exact give_and rfl h3 h1 (fun hb => h2.get (by first | exact hb | (rw [hc, hb]; rfl) | (rw [hb]; rfl))) ⟨Ext.refl _, rfl⟩
    refine GoodAll.cons ?_ ?_
    · intro r wx hR hx
      obtain ⟨h1, _⟩ := hx
      replace h1 : r (.tmp 51) = .bool (((((((((c.ptsn : Int) : Int) == ((d.ptsn : Int) : Int)) && ((((c.pstr : Int) : Int) == ((d.pstr : Int) : Int)))) && ((((c.pseq : Int) : Int) == ((d.pseq : Int) : Int)))) && (((c.pb) == (d.pb)))) && (((c.pe) == (d.pe)))) && (((c.pu) == (d.pu)))) && ((decide (c.text = d.text)))) := h1
      exact give_move (.inr rfl) ⟨Ext.refl _, h1⟩
    exact GoodAll.nil
  · intro vs wE aE hR hold haE
    have hv : vs 47 = .bool (((((((((c.ptsn : Int) : Int) == ((d.ptsn : Int) : Int)) && ((((c.pstr : Int) : Int) == ((d.pstr : Int) : Int)))) && ((((c.pseq : Int) : Int) == ((d.pseq : Int) : Int)))) && (((c.pb) == (d.pb)))) && (((c.pe) == (d.pe)))) && (((c.pu) == (d.pu)))) && ((decide (c.text = d.text)))) := hold.at 47
    refine ‹∀ (a : Act) (w : World), Code.wp Try.prog Code.ret _ a w → _› _ _ ?_
    refine wp_ret ?_
    have hs : aE.tmps[4]? = some (.bool (((((((((c.ptsn : Int) : Int) == ((d.ptsn : Int) : Int)) && ((((c.pstr : Int) : Int) == ((d.pstr : Int) : Int)))) && ((((c.pseq : Int) : Int) == ((d.pseq : Int) : Int)))) && (((c.pb) == (d.pb)))) && (((c.pe) == (d.pe)))) && (((c.pu) == (d.pu)))) && ((decide (c.text = d.text))))) := by rw [haE, ← hv]; kernel_rfl
    have hdf : aE.defers = [] := by rw [haE]; exact putAll_defers _ _ _ _
    clear haE
    refine bodyPost_ret (v := .bool (((((((((c.ptsn : Int) : Int) == ((d.ptsn : Int) : Int)) && ((((c.pstr : Int) : Int) == ((d.pstr : Int) : Int)))) && ((((c.pseq : Int) : Int) == ((d.pseq : Int) : Int)))) && (((c.pb) == (d.pb)))) && (((c.pe) == (d.pe)))) && (((c.pu) == (d.pu)))) && ((decide (c.text = d.text))))) ?_ hdf ⟨rfl, (he1.trans he2).trans hR⟩
    simp [results, Try.results56, go_sem, hs]
end Tlv
end Go.Proofs.Ytobkgaceallegaa

/- Lists of numbers and of pairs that are equal. No condition of its own. -/
namespace Go.Proofs.Ytobkgaceallegaa
namespace Tlv
open Go Go.RowKit
set_option linter.unusedVariables false
set_option linter.unusedSimpArgs false
set_option maxRecDepth 100000


theorem list_same {α : Type} (d : α) {l m : List α} (hl : l.length = m.length) (h : ∀ j, j < l.length → l.getD j d = m.getD j d) : l = m := by
  apply List.ext_getElem hl
  intro j h1 h2
  have := h j h1
  simpa [List.getD_eq_getElem?_getD, h1, h2] using this

set_option maxHeartbeats 2000000 in
theorem eqA_any {w : World} {a : Option Addr} {n cp : Nat} {a' : Option Addr} {n' cp' : Nat} {l m : List Int} (h : NumsAt .i64 w (.slice a n cp) l) (h' : NumsAt .i64 w (.slice a' n' cp') m) :
    Calls Try.prog 57 #[.slice a n cp, .slice a' n' cp'] w fun e w' => e = .returned (.bool (decide (l = m))) ∧ Ext w w' := by
  have H : Hid (NumsAt .i64 w (.slice a n cp) l ∧ NumsAt .i64 w (.slice a' n' cp') m ∧ n = l.length ∧ n' = m.length) := ⟨h, h', (nums_len h).1, (nums_len h').1⟩
  have hmx := (nums_len h).2
  have hmx' := (nums_len h').2
  unfold maxLen at hmx hmx'
  clear h h'
  by_cases hn : n = n'
  case neg =>
    have hd : ((n : Int) != (n' : Int)) = true := by simp; omega
    have HF : Hid (decide (l = m) = false) := decide_eq_false (fun e => hn (by rw [H.out.2.2.1, H.out.2.2.2, e]))
    go_enter Try.func57, Try.ntmps57
    go_wp2
    go_ret
    exact ⟨by rw [HF.out]; rfl, Ext.refl _⟩
  subst hn
  go_enter Try.func57, Try.ntmps57
  go_wp2
  go_loopg [13] n (fun gm t wr => ∃ k : Nat, k ≤ n ∧ gm = n - k ∧ t = .int .i64 (k : Int) ∧ Hid (Ext w wr ∧ ∀ j, j < k → l.getD j 0 = m.getD j 0))
  case atStart => exact ⟨0, Nat.zero_le _, rfl, rfl, Ext.refl _, fun j hj => by omega⟩
  case round =>
    obtain ⟨k, hk, rfl, rfl, HR⟩ := hrel
    by_cases hlt : k < n
    · have hd : decide ((k : Int) < (n : Int)) = true := decide_eq_true (by omega)
      obtain ⟨b, off, rfl, hc⟩ := H.out.1.cellAt k (by rw [← H.out.2.2.1]; exact hlt)
      obtain ⟨b', off', rfl, hc'⟩ := H.out.2.1.cellAt k (by rw [← H.out.2.2.2]; exact hlt)
      replace hc := HR.out.1.cell hc
      replace hc' := HR.out.1.cell hc'
      obtain ⟨x, hx⟩ : ∃ x, x = l.getD k 0 := ⟨_, rfl⟩
      obtain ⟨y, hy⟩ : ∃ y, y = m.getD k 0 := ⟨_, rfl⟩
      rw [← hx] at hc
      rw [← hy] at hc'
      have HX : Hid (x = l.getD k 0 ∧ y = m.getD k 0) := ⟨hx, hy⟩
      clear hx hy
      by_cases hxy : x = y
      · subst hxy
        have HX2 : Hid (l.getD k 0 = m.getD k 0) := HX.out.1.symm.trans HX.out.2
        clear HX
        go_wp2_with fail
        go_quiet (fail)
        go_wp2
        go_roundg (n - (k + 1))
        case measure => omega
        case rel =>
          refine ⟨k + 1, by omega, rfl, by simp, HR.out.1.trans (Ext.drewN _ _), fun j hj => ?_⟩
          by_cases hjk : j = k
          · subst hjk; exact HX2.out
          · exact HR.out.2 j (by omega)
      · have hd2 : (x != y) = true := by simpa using hxy
        have hd3 : (x == y) = false := by simpa using hxy
        have hd4 : decide (x = y) = false := by simpa using hxy
        have HF : Hid (decide (l = m) = false) := decide_eq_false (fun e => hxy (by rw [HX.out.1, HX.out.2, e]))
        clear HX
        go_wp2_with fail
        go_quiet (fail)
        go_wp2
        go_ret
        exact ⟨by rw [HF.out]; rfl, HR.out.1.trans (Ext.drewN _ _)⟩
    · have hd : decide ((k : Int) < (n : Int)) = false := decide_eq_false (by omega)
      have HF : Hid (decide (l = m) = true) := decide_eq_true (list_same 0 (by rw [← H.out.2.2.1, ← H.out.2.2.2]) (fun j hj => HR.out.2 j (by have := H.out.2.2.1; omega)))
      go_wp2
      go_ret
      exact ⟨by rw [HF.out]; rfl, HR.out.1⟩

set_option maxHeartbeats 2000000 in
theorem eqD_any {w : World} {a : Option Addr} {n cp : Nat} {a' : Option Addr} {n' cp' : Nat} {l m : List Int} (h : NumsAt .u32 w (.slice a n cp) l) (h' : NumsAt .u32 w (.slice a' n' cp') m) :
    Calls Try.prog 59 #[.slice a n cp, .slice a' n' cp'] w fun e w' => e = .returned (.bool (decide (l = m))) ∧ Ext w w' := by
  have H : Hid (NumsAt .u32 w (.slice a n cp) l ∧ NumsAt .u32 w (.slice a' n' cp') m ∧ n = l.length ∧ n' = m.length) := ⟨h, h', (nums_len h).1, (nums_len h').1⟩
  have hmx := (nums_len h).2
  have hmx' := (nums_len h').2
  unfold maxLen at hmx hmx'
  clear h h'
  by_cases hn : n = n'
  case neg =>
    have hd : ((n : Int) != (n' : Int)) = true := by simp; omega
    have HF : Hid (decide (l = m) = false) := decide_eq_false (fun e => hn (by rw [H.out.2.2.1, H.out.2.2.2, e]))
    go_enter Try.func59, Try.ntmps59
    go_wp2
    go_ret
    exact ⟨by rw [HF.out]; rfl, Ext.refl _⟩
  subst hn
  go_enter Try.func59, Try.ntmps59
  go_wp2
  go_loopg [13] n (fun gm t wr => ∃ k : Nat, k ≤ n ∧ gm = n - k ∧ t = .int .i64 (k : Int) ∧ Hid (Ext w wr ∧ ∀ j, j < k → l.getD j 0 = m.getD j 0))
  case atStart => exact ⟨0, Nat.zero_le _, rfl, rfl, Ext.refl _, fun j hj => by omega⟩
  case round =>
    obtain ⟨k, hk, rfl, rfl, HR⟩ := hrel
    by_cases hlt : k < n
    · have hd : decide ((k : Int) < (n : Int)) = true := decide_eq_true (by omega)
      obtain ⟨b, off, rfl, hc⟩ := H.out.1.cellAt k (by rw [← H.out.2.2.1]; exact hlt)
      obtain ⟨b', off', rfl, hc'⟩ := H.out.2.1.cellAt k (by rw [← H.out.2.2.2]; exact hlt)
      replace hc := HR.out.1.cell hc
      replace hc' := HR.out.1.cell hc'
      obtain ⟨x, hx⟩ : ∃ x, x = l.getD k 0 := ⟨_, rfl⟩
      obtain ⟨y, hy⟩ : ∃ y, y = m.getD k 0 := ⟨_, rfl⟩
      rw [← hx] at hc
      rw [← hy] at hc'
      have HX : Hid (x = l.getD k 0 ∧ y = m.getD k 0) := ⟨hx, hy⟩
      clear hx hy
      by_cases hxy : x = y
      · subst hxy
        have HX2 : Hid (l.getD k 0 = m.getD k 0) := HX.out.1.symm.trans HX.out.2
        clear HX
        go_wp2_with fail
        go_quiet (fail)
        go_wp2
        go_roundg (n - (k + 1))
        case measure => omega
        case rel =>
          refine ⟨k + 1, by omega, rfl, by simp, HR.out.1.trans (Ext.drewN _ _), fun j hj => ?_⟩
          by_cases hjk : j = k
          · subst hjk; exact HX2.out
          · exact HR.out.2 j (by omega)
      · have hd2 : (x != y) = true := by simpa using hxy
        have hd3 : (x == y) = false := by simpa using hxy
        have hd4 : decide (x = y) = false := by simpa using hxy
        have HF : Hid (decide (l = m) = false) := decide_eq_false (fun e => hxy (by rw [HX.out.1, HX.out.2, e]))
        clear HX
        go_wp2_with fail
        go_quiet (fail)
        go_wp2
        go_ret
        exact ⟨by rw [HF.out]; rfl, HR.out.1.trans (Ext.drewN _ _)⟩
    · have hd : decide ((k : Int) < (n : Int)) = false := decide_eq_false (by omega)
      have HF : Hid (decide (l = m) = true) := decide_eq_true (list_same 0 (by rw [← H.out.2.2.1, ← H.out.2.2.2]) (fun j hj => HR.out.2 j (by have := H.out.2.2.1; omega)))
      go_wp2
      go_ret
      exact ⟨by rw [HF.out]; rfl, HR.out.1⟩
end Tlv
end Go.Proofs.Ytobkgaceallegaa
