/- Parameters written. No condition of its own. -/
import Derived.Test.YtmfciiccomagpaaTlv10
namespace Go.Proofs.Ytmfciiccomagpaa
namespace Tlv
open Go Go.RowKit
set_option linter.unusedVariables false
set_option linter.unusedSimpArgs false
set_option maxRecDepth 100000


theorem zeroO : (Try.prog.info? 28).bind (·.zero) = some (.agg #[.slice none 0 0]) := by kernel_rfl
theorem Moved.extO {w0 w w' : World} {base g : Nat} {v v' : Value} {l : List Nat} (hm : Moved w w' g v v') (ho : OutAt w base g v l) (he : Ext w0 w) (hb : w0.heap.size ≤ base) (hg : w0.heap.size ≤ g) : Ext w0 w' :=
  he.of_but hm.keep (fun k e => e.elim (fun e => by omega) (fun e => Nat.le_trans hb (ho.own.lt e).1))
theorem writeB_app (A B : List Par) : writeB (A ++ B) = writeB A ++ writeB B := by simp [writeB]
theorem writeB_take (L : List Par) (i : Nat) : (writeB (L.take i)).length ≤ (writeB L).length := by
  have e : writeB L = writeB (L.take i) ++ writeB (L.drop i) := by rw [← writeB_app, List.take_append_drop]
  have e2 := congrArg List.length e
  rw [List.length_append] at e2
  omega
theorem goodP_of {k : Int} {m : List Nat} (h1 : isKd k = true) (h2 : m.length ≤ 4000) : goodP (k, m) = true := by
  unfold isKd at h1; simp at h1
  rw [goodP_iff]; exact ⟨h1.1, h1.2, h2⟩
theorem good_kd {p : Par} (h : goodP p = true) : isKd p.1 = true ∧ p.2.length ≤ 4000 := by
  have := (goodP_iff p).1 h
  exact ⟨by unfold isKd; simp; omega, this.2.2⟩
theorem take_getD {L : List Par} {i : Nat} {p : Par} (h : L[i]? = some p) : L.take (i + 1) = L.take i ++ [p] := by
  have hi := (List.getElem?_eq_some_iff.1 h)
  rw [List.take_succ_eq_append_getElem hi.1, hi.2]

/-- What Write answers. -/
def WriteIs (w : World) (L : List Par) (e : Ending) (w' : World) : Prop :=
  Ext w w' ∧ ((∃ a n c, e = .returned (.tuple #[.slice a n c, .nilIface]) ∧ n = (writeB L).length ∧ OB w' w.heap.size (.slice a n c) (writeB L) ∧ ∀ p ∈ L, goodP p = true) ∨ (e = .returned (.tuple #[.slice none 0 0, errF]) ∧ ∃ p ∈ L, goodP p = false))

set_option maxHeartbeats 4000000 in
theorem write_any {w : World} {v : Value} {L : List Par} (hv : ParsAt w v L) (hlen : (writeB L).length ≤ 700000) (hL : L.length ≤ 100000) :
    Calls Try.prog 29 #[v] w (WriteIs w L) := by
  obtain ⟨_, a, cap, rfl, hc⟩ := hv
  have HC : Hid (∀ i p, L[i]? = some p → ∃ b off u, a = some ⟨b, off, none⟩ ∧ w.cell? ⟨b, off + i * 2, none⟩ = some (.int .i64 p.1) ∧ w.cell? ⟨b, off + i * 2 + 1, none⟩ = some u ∧ BytesAt w u p.2) := hc
  have HL : Hid ((writeB L).length ≤ 700000) := hlen
  clear hc hlen
  obtain ⟨n, hn⟩ : ∃ n, n = L.length := ⟨_, rfl⟩
  have HN : Hid (n = L.length) := hn
  rw [← hn] at hL ⊢
  clear hn
  go_enter Try.func29, Try.ntmps29
  go_wp2_with (first
    | (refine wl_alloc rfl rfl zeroO ?_; intro w1 hb1 he1 hx; clear hx))
  have HO : Hid (OutAt w1 w.heap.size w.heap.size (.slice none 0 0) [] ∧ Ext w w1) := ⟨⟨hb1, OB.nil _ _⟩, he1⟩
  clear hb1 he1
  go_loopg [9] n (fun gm t wr => ∃ (i : Nat) (v1 : Value), i ≤ n ∧ gm = n - i ∧ t = .int .i64 (i : Int) ∧ Hid (OutAt wr w.heap.size w.heap.size v1 (writeB (L.take i)) ∧ Ext w wr ∧ ∀ p ∈ L.take i, goodP p = true))
  case atStart => exact ⟨0, _, Nat.zero_le _, rfl, rfl, HO.out.1, HO.out.2, fun p hp => by cases hp⟩
  case round =>
    obtain ⟨i, v1, hi, rfl, rfl, HR⟩ := hrel
    by_cases hlt : i < n
    · have hd : decide ((i : Int) < (n : Int)) = true := decide_eq_true (by omega)
      obtain ⟨p, hp⟩ : ∃ p, L[i]? = some p := ⟨L[i]'(by rw [← HN.out]; exact hlt), by simp⟩
      have HP : Hid (L[i]? = some p ∧ L.take (i + 1) = L.take i ++ [p] ∧ p ∈ L) := ⟨hp, take_getD hp, List.mem_of_getElem? hp⟩
      obtain ⟨b, off, u, rfl, hc0, hc1, hbu⟩ := HC.out i p hp
      clear hp
      have c0 := HR.out.2.1.cell hc0
      have c1 := HR.out.2.1.cell hc1
      clear hc0 hc1
      obtain ⟨k, m⟩ := p
      obtain ⟨ua, uc, rfl, _, _⟩ := hbu.form
      rename_i z1 z2
      clear z1 z2
      have HU : Hid (BytesAt w (.slice ua m.length uc) m ∧ Off w.heap.size v1 (.slice ua m.length uc) m) := ⟨hbu, fun hne q hq => by
        have h1 := bytes_lt hbu hne hq
        exact ⟨by omega, fun e => by have := (HR.out.1.own.lt e).1; omega⟩⟩
      clear hbu
      have LD : ∀ {w2 : World}, Blk w2 wr.heap.size #[.int .i64 k, .slice ua m.length uc] 75 → w2.cell? ⟨wr.heap.size, 0, none⟩ = some (.int .i64 k) ∧ w2.cell? ⟨wr.heap.size, 1, none⟩ = some (.slice ua m.length uc) := fun h => ⟨h.cell 0, h.cell 1⟩
      cases hkd : isKd k with
      | false =>
        go_wp2_with (first
          | (refine wl_loadP rfl rowP rfl rfl c0 c1 ?_)
          | (refine wl_alloc rfl rfl zeroP ?_; intro w2 hb2 he2 hx; clear hx)
          | (refine wl_store (D := #[.int .i64 k, .slice ua m.length uc]) rfl rowP rfl rfl rfl hb2 rfl rfl (one_par _ _ rfl) ?_; intro w3 hb3 hk3 hx; clear hx; have c3 := (LD hb3).1; have c4 := (LD hb3).2; have HE3 : Hid (Ext wr w3) := he2.of_but hk3 (fun q e => by subst e; exact Nat.le_refl _); clear hk3 he2 hb2)
          | (go_at_call 41; refine (isKind_any _ _).mono ?_; rintro e w4 ⟨rfl, hw⟩; subst w4; rw [hkd]))
        go_ret2
        exact ⟨HR.out.2.1.trans HE3.out, .inr ⟨rfl, (k, m), HP.out.2.2, by
          cases hg : goodP (k, m) with
          | false => rfl
          | true => have := (good_kd hg).1; rw [show isKd (k, m).1 = isKd k from rfl, hkd] at this; cases this⟩⟩
      | true =>
        by_cases hm : m.length ≤ 4000
        · have hdm : decide ((m.length : Int) > 4000) = false := decide_eq_false (by omega)
          have hgood := goodP_of hkd hm
          obtain ⟨K, rfl⟩ : ∃ K : Nat, k = (K : Int) := ⟨k.toNat, by have := (goodP_iff (k, m)).1 hgood; simp only at this; omega⟩
          have hK : K < 65536 := by have := (goodP_iff ((K : Int), m)).1 hgood; simp only at this; omega
          have HG : Hid (goodP ((K : Int), m) = true ∧ writeB (L.take (i + 1)) = writeB (L.take i) ++ parB ((K : Int), m)) := ⟨hgood, by rw [HP.out.2.1, writeB_snoc]⟩
          clear hgood
          go_wp2_with (first
            | (have q := HE3; clear q; refine wl_load rfl rowP rfl rfl hb3 rfl ?_)
            | (refine wl_loadP rfl rowP rfl rfl c0 c1 ?_)
            | (refine wl_alloc rfl rfl zeroP ?_; intro w2 hb2 he2 hx; clear hx)
            | (refine wl_store (D := #[.int .i64 (K : Int), .slice ua m.length uc]) rfl rowP rfl rfl rfl hb2 rfl rfl (one_par _ _ rfl) ?_; intro w3 hb3 hk3 hx; clear hx; have c3 := (LD hb3).1; have c4 := (LD hb3).2; have HE3 : Hid (Ext wr w3) := he2.of_but hk3 (fun q e => by subst e; exact Nat.le_refl _); clear hk3 he2 hb2)
            | (go_at_call 41; refine (isKind_any _ _).mono ?_; rintro e w4 ⟨rfl, hw⟩; subst w4; rw [hkd])
            | (go_at_call 42; refine (outParam_any (HR.out.1.ext HE3.out) K hK (HU.out.1.ext (HR.out.2.1.trans HE3.out)) HU.out.2 hm (writeB_mod _) (by have := writeB_take L i; have := HL.out; omega) (Nat.le_trans HR.out.2.1.size HE3.out.size)).mono ?_; rintro e w5 ⟨⟨y5, rfl⟩, v5, ho5, hm5⟩))
          go_roundg (n - (i + 1))
          case measure => omega
          case rel =>
            refine ⟨i + 1, v5, by omega, rfl, by simp, by rw [HG.out.2]; exact ho5, hm5.extO (HR.out.1.ext HE3.out) (HR.out.2.1.trans HE3.out) (Nat.le_refl _) (Nat.le_refl _), fun p hp => ?_⟩
            rw [HP.out.2.1] at hp
            rcases List.mem_append.1 hp with hp | hp
            · exact HR.out.2.2 p hp
            · simp at hp; subst hp; exact HG.out.1
        · have hdm : decide ((m.length : Int) > 4000) = true := decide_eq_true (by omega)
          go_wp2_with (first
            | (refine wl_loadP rfl rowP rfl rfl c0 c1 ?_)
            | (refine wl_alloc rfl rfl zeroP ?_; intro w2 hb2 he2 hx; clear hx)
            | (refine wl_store (D := #[.int .i64 k, .slice ua m.length uc]) rfl rowP rfl rfl rfl hb2 rfl rfl (one_par _ _ rfl) ?_; intro w3 hb3 hk3 hx; clear hx; have c3 := (LD hb3).1; have c4 := (LD hb3).2; have HE3 : Hid (Ext wr w3) := he2.of_but hk3 (fun q e => by subst e; exact Nat.le_refl _); clear hk3 he2 hb2)
            | (go_at_call 41; refine (isKind_any _ _).mono ?_; rintro e w4 ⟨rfl, hw⟩; subst w4; rw [hkd]))
          go_ret2
          exact ⟨HR.out.2.1.trans HE3.out, .inr ⟨rfl, (k, m), HP.out.2.2, by
            cases hg : goodP (k, m) with
            | false => rfl
            | true => exact absurd (good_kd hg).2 hm⟩⟩
    · have hd : decide ((i : Int) < (n : Int)) = false := decide_eq_false (by omega)
      have HT : Hid (L.take i = L) := List.take_of_length_le (by rw [← HN.out]; omega)
      rw [HT.out] at HR
      obtain ⟨oa, oc, rfl⟩ := HR.out.1.len
      obtain ⟨q, hq⟩ : ∃ q, q = (writeB L).length := ⟨_, rfl⟩
      have HQ : Hid (q = (writeB L).length) := hq
      rw [← hq] at HR
      clear hq
      have c0 := HR.out.1.blk.cell 0
      go_wp2
      go_ret2
      exact ⟨HR.out.2.1, .inl ⟨_, _, _, rfl, HQ.out, HR.out.1.own, HR.out.2.2⟩⟩
end Tlv
end Go.Proofs.Ytmfciiccomagpaa
