/- Parameters of bytes. No condition of its own. -/
import Derived.Test.YtmfciiccomagpaaTlv11
namespace Go.Proofs.Ytmfciiccomagpaa
namespace Tlv
open Go Go.RowKit
set_option linter.unusedVariables false
set_option linter.unusedSimpArgs false
set_option maxRecDepth 100000


/-- What Params answers. -/
def ParamsIs (w : World) (B : List Nat) (e : Ending) (w' : World) : Prop :=
  Ext w w' ∧ ((readAll B = none ∧ e = .returned (.tuple #[.slice none 0 0, errF])) ∨ ∃ L lv, readAll B = some L ∧ e = .returned (.tuple #[lv, .nilIface]) ∧ OwnL 75 w' w.heap.size lv L)
theorem wl_pushP {t e : TypeId} (hT : ParT t e) {wr : World} {ops : Array Oper} {rest : List Oper} {o : Oper} {a : Act} {Q : Exit → Act → World → Prop} {C : Array Value} (hgd : o.guard = none) {s x : Operand} (ho : o.op = .call { callee := .builtin .append, args := #[s, x], argTypes := #[t, t] })
    {base b : Nat} {v u : Value} {L : List Par} {k : Int} {val : List Nat} (hC : C = #[.int .i64 k, u]) (hs : a.eval s = v) (hx : a.eval x = .slice (some ⟨b, 0, none⟩) 1 1) (hb : b = wr.heap.size) (hv : OwnL e wr base v L) (hu : OB wr base u val) (hlen : L.length ≤ 100000) (hbase : base ≤ wr.heap.size)
    (h : ∀ ad cap w', OwnL e w' base (.slice ad (L.length + 1) cap) (L ++ [(k, val)]) → KeepBut (fun q => v.ownBlock = some q) wr w' → (∀ g, (Value.slice ad (L.length + 1) cap).ownBlock = some g → v.ownBlock = some g ∨ wr.heap.size ≤ g) → wpList Try.prog ops Q rest (a.put o.dst (.slice ad (L.length + 1) cap)) w') : wpList Try.prog ops Q (o :: rest) a (wr.alloc (.cells C e)) := by
  subst hC hb
  have he : Ext wr (wr.alloc (.cells #[.int .i64 k, u] e)) := Ext.alloc _ _
  obtain ⟨ad, c, w', hr, h1, h2, h3⟩ := run_pushP hT (wr.alloc (.cells #[.int .i64 k, u] e)) base o.type wr.heap.size v u L k val (hv.ext he) (cellNew _ _ _ _ _ _ rfl) (cellNew _ _ _ _ _ _ rfl) (hu.ext he) hlen (Nat.le_trans hbase he.size)
  refine wpList_of_run hgd (v := .slice ad (L.length + 1) c) (w' := w') ?_ (h ad c w' h1 ((KeepBut.ext he).trans h2) (fun g hg => (h3 g hg).imp id (fun e => by rw [e]; exact he.size)))
  simp only [execOp, ho, resolve, invoke, builtin, Sem.run_bind, Sem.run_pure, Result.andThen_ok, List.map_toArray, List.map_cons, List.map_nil, hs, hx, hr]
theorem readAll_next {B : List Nat} {a : Nat} (ha : a < B.length) (h : okP (B.drop a) = true) : readAll (B.drop a) = (readAll (B.drop (a + allP (B.drop a)))).map (headP (B.drop a) :: ·) := by
  rw [readAll_ok (by intro e; have := congrArg List.length e; rw [List.length_drop] at this; simp at this; omega) h, List.drop_drop]
/-- How far the parameters are read: behind those of L, or wrong. -/
def RdAt (B : List Nat) (s : Option Nat) (L : List Par) : Prop :=
  (s = none ∧ readAll B = none) ∨ ∃ a, s = some a ∧ a ≤ B.length ∧ a % 4 = 0 ∧ 4 * L.length ≤ a ∧ readAll B = (readAll (B.drop a)).map (L ++ ·)
theorem RdAt.start (B : List Nat) : RdAt B (some 0) [] := .inr ⟨0, rfl, by simp, rfl, by simp, by simp⟩
theorem RdAt.step {B : List Nat} {a : Nat} {L : List Par} (h : RdAt B (some a) L) (ha : a < B.length) : RdAt B (paramS B (some a)).1 (L ++ [(paramS B (some a)).2]) := by
  rcases h with ⟨h, _⟩ | ⟨a', e, h1, h2, h3, h4⟩
  · cases h
  · cases e
    cases hk : okP (B.drop a) with
    | false =>
      refine .inl ⟨paramS_bad h2 hk, ?_⟩
      rw [h4, readAll_bad (by intro e; have := congrArg List.length e; rw [List.length_drop] at this; simp at this; omega) hk]; rfl
    | true =>
      rw [paramS_ok h2 hk]
      have hp := allP_pos hk
      have hm := allP_mod (B.drop a)
      have hle := ((okP_iff _).1 hk).2.2.2.1
      rw [List.length_drop] at hle
      refine .inr ⟨_, rfl, by omega, by omega, by rw [List.length_append, List.length_singleton]; omega, ?_⟩
      rw [h4, readAll_next ha hk]
      cases readAll (B.drop (a + allP (B.drop a))) <;> simp
theorem RdAt.len {B : List Nat} {a : Nat} {L : List Par} (h : RdAt B (some a) L) : 4 * L.length ≤ B.length := by
  rcases h with ⟨h, _⟩ | ⟨a', e, h1, h2, h3, h4⟩
  · cases h
  · cases e; omega
theorem RdAt.fin {B : List Nat} {s : Option Nat} {L : List Par} (h : RdAt B s L) (he : leftS B s = 0) : (endS B s = false ∧ readAll B = none) ∨ (endS B s = true ∧ readAll B = some L) := by
  rcases h with ⟨rfl, h⟩ | ⟨a, rfl, h1, h2, h3, h4⟩
  · exact .inl ⟨rfl, h⟩
  · refine .inr ⟨by unfold endS; rw [he]; rfl, ?_⟩
    unfold leftS at he
    simp only at he
    rw [h4, List.drop_eq_nil_of_le (by omega), readAll_nil]; simp
theorem left_lt {B : List Nat} {s : Option Nat} (h : leftS B s ≠ 0) : ∃ a, s = some a ∧ a < B.length := by
  cases s with
  | none => exact absurd rfl h
  | some a => refine ⟨a, rfl, ?_⟩; unfold leftS at h; simp only at h; omega
theorem left_dec {B : List Nat} {a : Nat} (ha : a < B.length) (s' : Option Nat) (h : ∀ a', s' = some a' → a < a') : leftS B s' < leftS B (some a) := by
  cases s' with
  | none => unfold leftS; simp only; omega
  | some x => have := h x rfl; unfold leftS; simp only; omega
theorem paramS_lt {B : List Nat} {a : Nat} (h2 : a % 4 = 0) (a' : Nat) (h : (paramS B (some a)).1 = some a') : a < a' := by
  cases hk : okP (B.drop a) with
  | false => rw [paramS_bad h2 hk] at h; cases h
  | true =>
    rw [paramS_ok h2 hk] at h
    have := allP_pos hk
    simp only [Option.some.injEq] at h; omega
theorem RdAt.mod {B : List Nat} {a : Nat} {L : List Par} (h : RdAt B (some a) L) : a % 4 = 0 := by
  rcases h with ⟨h, _⟩ | ⟨a', e, h1, h2, _⟩
  · cases h
  · cases e; exact h2

set_option maxHeartbeats 4000000 in
theorem params_any {w : World} {v : Value} {B : List Nat} (hv : BytesAt w v B) (hB : B.length ≤ 100000) :
    Calls Try.prog 31 #[v] w (ParamsIs w B) := by
  have H : Hid (BytesAt w v B ∧ B.length ≤ 100000) := ⟨hv, hB⟩
  clear hv hB
  go_enter Try.func31, Try.ntmps31
  go_wp2_with (first
    | (go_at_call 15; refine (read_any H.out.1 (by have := H.out; omega)).mono ?_; rintro e w1 ⟨g, bv, rfl, hg1, hi1, he1⟩))
  have HI : Hid (InAt w1 w.heap.size g bv B (some 0) ∧ Ext w w1 ∧ w.heap.size ≤ g) := ⟨hi1, he1, hg1⟩
  clear hi1 he1 hg1
  go_loopg [4] (leftS B (some 0)) (fun gm t wr => ∃ (s : Option Nat) (a : Option Addr) (n c : Nat) (L : List Par), gm = leftS B s ∧ t = .slice a n c ∧ Hid (n = L.length ∧ RdAt B s L ∧ InAt wr w.heap.size g bv B s ∧ OwnL 75 wr w.heap.size (.slice a n c) L ∧ Ext w wr))
  case atStart => exact ⟨some 0, none, 0, 0, [], rfl, rfl, rfl, RdAt.start B, HI.out.1, OwnL.nil _ _ _, HI.out.2.1⟩
  case round =>
    obtain ⟨s, a, n, c, L, rfl, rfl, HR⟩ := hrel
    obtain ⟨l, hl⟩ : ∃ l, leftS B s = l := ⟨_, rfl⟩
    have HL : Hid (leftS B s = l) := hl
    by_cases h0 : l = 0
    · have hd : decide ((l : Int) > 0) = false := decide_eq_false (by omega)
      rcases HR.out.2.1.fin (hl.trans h0) with ⟨q1, q2⟩ | ⟨q1, q2⟩
      · have HE : Hid (endS B s = false ∧ readAll B = none) := ⟨q1, q2⟩
        clear q1 q2 hl
        go_wp2_with (first
          | (go_at_call 22; refine (left_any HR.out.2.2.1 (by have := H.out; omega)).mono ?_; rintro e w2 ⟨rfl, he2⟩; rw [HL.out])
          | (go_at_call 24; refine (end_any (HR.out.2.2.1.ext he2) (by have := H.out; omega)).mono ?_; rintro e w3 ⟨rfl, he3⟩; rw [HE.out.1, show endV false = errF from rfl]))
        go_ret2
        exact ⟨(HR.out.2.2.2.2.trans he2).trans he3, .inl ⟨HE.out.2, rfl⟩⟩
      · have HE : Hid (endS B s = true ∧ readAll B = some L) := ⟨q1, q2⟩
        clear q1 q2 hl
        go_wp2_with (first
          | (go_at_call 22; refine (left_any HR.out.2.2.1 (by have := H.out; omega)).mono ?_; rintro e w2 ⟨rfl, he2⟩; rw [HL.out])
          | (go_at_call 24; refine (end_any (HR.out.2.2.1.ext he2) (by have := H.out; omega)).mono ?_; rintro e w3 ⟨rfl, he3⟩; rw [HE.out.1, show endV true = .nilIface from rfl]))
        go_ret2
        exact ⟨(HR.out.2.2.2.2.trans he2).trans he3, .inr ⟨L, _, HE.out.2, rfl, (HR.out.2.2.2.1.ext he2).ext he3⟩⟩
    · have hd : decide ((l : Int) > 0) = true := decide_eq_true (by omega)
      obtain ⟨x, rfl, hx⟩ := left_lt (by rw [hl]; exact h0)
      have HX : Hid (x < B.length ∧ x % 4 = 0 ∧ 4 * L.length ≤ B.length) := ⟨hx, HR.out.2.1.mod, HR.out.2.1.len⟩
      obtain ⟨r, hr⟩ : ∃ r, r = paramS B (some x) := ⟨_, rfl⟩
      have HP : Hid (r = paramS B (some x)) := hr
      have HS : Hid (RdAt B r.1 (L ++ [r.2]) ∧ leftS B r.1 < leftS B (some x)) := ⟨by rw [hr]; exact HR.out.2.1.step hx, left_dec hx _ (fun a' h => paramS_lt HX.out.2.1 a' (by rw [← hr]; exact h))⟩
      clear hx hl hr
      obtain ⟨s2, k2, m2⟩ := r
      go_wp2_with (first
        | (go_at_call 22; refine (left_any HR.out.2.2.1 (by have := H.out; omega)).mono ?_; rintro e w2 ⟨rfl, he2⟩; rw [HL.out])
        | (go_at_call 43; refine (param_any (HR.out.2.2.1.ext he2) (by have := H.out; omega)).mono ?_; rintro e w3 ⟨u3, rfl, ho3, hi3, hk3⟩; rw [← HP.out] at ho3 hi3 ⊢; obtain ⟨ua, uc, rfl⟩ := ho3.form; have HL3 : Hid (OwnL 75 w3 w.heap.size (.slice a n c) L) := (HR.out.2.2.2.1.ext he2).but hk3 (fun k C hb hbase e => by
            subst e
            obtain ⟨_, a', b', hb', _⟩ := HR.out.2.2.1.ext he2
            unfold Blk at hb hb'
            rw [hb'] at hb
            simp at hb))
        | (at_builtin; refine wl_pushP parT (L := L) (k := k2) (val := m2) (v := .slice a n c) (base := w.heap.size) rfl rfl rfl rfl rfl rfl HL3.out (ho3.base (Nat.le_trans HR.out.2.2.2.2.size he2.size)) (by have := HX.out; have := H.out; omega) (Nat.le_trans (Nat.le_trans HR.out.2.2.2.2.size he2.size) hk3.size) ?_; intro ad cap w5 hl5 hk5 hg5))
      have hne : ∀ k, (Value.slice a n c).ownBlock = some k → k ≠ g := fun k e h => by
        subst h
        obtain ⟨_, C, hC⟩ := HL3.out.lt e
        obtain ⟨_, a', b', hb', _⟩ := hi3
        unfold Blk at hC hb'
        rw [hb'] at hC
        simp at hC
      go_roundg (leftS B s2)
      case measure => exact HS.out.2
      case rel =>
        refine ⟨s2, _, _, _, L ++ [(k2, m2)], rfl, rfl, by simp, HS.out.1, hi3.but hk5 (fun e => hne g e rfl) (fun k e1 e2 => ?_), hl5, ((HR.out.2.2.2.2.trans he2).of_but hk3 (fun k e => by subst e; exact HI.out.2.2)).of_but hk5 (fun k e => (HL3.out.lt e).1)⟩
        obtain ⟨_, C, hC⟩ := HL3.out.lt e2
        exact hi3.own.ne hC (by decide) k e1 rfl
end Tlv
end Go.Proofs.Ytmfciiccomagpaa
