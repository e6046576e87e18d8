/- Texts of the seat, one behind the other. No condition of its own. -/
import Derived.Test.YtobkgaceallegaaChkC6
/- Whether lists of addresses, ops and gaps are good. No condition of its own. -/
namespace Go.Proofs.Ytobkgaceallegaa
namespace Tlv
open Go Go.RowKit
set_option linter.unusedVariables false
set_option linter.unusedSimpArgs false
set_option maxRecDepth 100000


set_option maxHeartbeats 2000000 in
theorem indexO_any {w : World} {a : Option Addr} {n cp : Nat} {L : List (Int × Int)} (h : PairsAt w (.slice a n cp) L) :
    Calls Try.prog 101 #[.slice a n cp, .func (.func 92) #[] #[]] w (FindIs w (opsB L)) := by
  have HN : Hid (PairsAt w (.slice a n cp) L ∧ n = L.length) := ⟨h, h.len.1⟩
  have hmx := h.len.2.1
  unfold maxLen at hmx
  clear h
  go_enter Try.func101, Try.ntmps101
  go_wp2
  go_loopg [8] n (fun gm t wr => ∃ k : Nat, k ≤ n ∧ gm = n - k ∧ t = .int .i64 (k : Int) ∧ Hid (Ext w wr ∧ ∀ j, j < k → opB (L.getD j (0, 0)) = true))
  case atStart => exact ⟨0, Nat.zero_le _, rfl, rfl, Ext.refl _, fun j hj => by omega⟩
  case round =>
    obtain ⟨k, hk, rfl, rfl, HR⟩ := hrel
    by_cases hlt : k < n
    · have hd : decide ((k : Int) < (n : Int)) = true := decide_eq_true (by omega)
      have hkL : k < L.length := by rw [← HN.out.2]; exact hlt
      obtain ⟨b, off, rfl, hc0, hc1⟩ := HN.out.1.cellAt k hkL
      replace hc0 := HR.out.1.cell hc0
      replace hc1 := HR.out.1.cell hc1
      have HKL : Hid (k < L.length) := hkL
      clear hkL
      obtain ⟨p, hp⟩ : ∃ p, p = L.getD k (0, 0) := ⟨_, rfl⟩
      rw [← hp] at hc0 hc1
      obtain ⟨x, y⟩ := p
      dsimp only at hc0 hc1
      have HXX : Hid ((x, y) = L.getD k (0, 0)) := hp
      clear hp
      have hkn : (k : Int) < (n : Int) := by omega
      cases hb : opB (x, y) with
      | true =>
        go_wp2_with (first
          | (refine wl_loadP rfl rowOp rfl rfl hc0 hc1 ?_)
          | (go_at_call 92; refine (opsC_any _ _ _).mono ?_; rintro e w2 ⟨rfl, he2⟩; rw [hb]))
        go_roundg (n - (k + 1))
        case measure => omega
        case rel =>
          refine ⟨k + 1, by omega, rfl, by simp, HR.out.1.trans he2, fun j hj => ?_⟩
          by_cases hjk : j = k
          · subst hjk; rw [← HXX.out]; exact hb
          · exact HR.out.2 j (by omega)
      | false =>
        have HF : Hid (opsB L = false) := not_all_at (0, 0) HKL.out (by rw [← HXX.out]; exact hb)
        go_wp2_with (first
          | (refine wl_loadP rfl rowOp rfl rfl hc0 hc1 ?_)
          | (go_at_call 92; refine (opsC_any _ _ _).mono ?_; rintro e w2 ⟨rfl, he2⟩; rw [hb]))
        go_ret
        exact ⟨_, rfl, by rw [HF.out]; simp, HR.out.1.trans he2⟩
    · have hd : decide ((k : Int) < (n : Int)) = false := decide_eq_false (by omega)
      have HF : Hid (opsB L = true) := all_at (0, 0) (fun j hj => HR.out.2 j (by have := HN.out.2; omega))
      go_wp2
      go_ret
      exact ⟨_, rfl, by rw [HF.out]; rfl, HR.out.1⟩
theorem hasA_any {w : World} {a : Option Addr} {n cp : Nat} {L : List Int} (h : NumsAt .i64 w (.slice a n cp) L) :
    Calls Try.prog 99 #[.slice a n cp, .func (.func 100) #[] #[]] w fun e w' => e = .returned (.bool (!adsB L)) ∧ Ext w w' := by
  go_enter Try.func99, Try.ntmps99
  go_wp2_with (first
    | (go_at_call 103; refine (indexA_any h).mono ?_; rintro e w2 ⟨i, rfl, hi, he2⟩))
  go_ret
  exact ⟨rfl, he2⟩
theorem hasO_any {w : World} {a : Option Addr} {n cp : Nat} {L : List (Int × Int)} (h : PairsAt w (.slice a n cp) L) :
    Calls Try.prog 91 #[.slice a n cp, .func (.func 92) #[] #[]] w fun e w' => e = .returned (.bool (!opsB L)) ∧ Ext w w' := by
  go_enter Try.func91, Try.ntmps91
  go_wp2_with (first
    | (go_at_call 101; refine (indexO_any h).mono ?_; rintro e w2 ⟨i, rfl, hi, he2⟩))
  go_ret
  exact ⟨rfl, he2⟩

set_option maxHeartbeats 2000000 in
theorem addrsFit_any {w : World} {a : Option Addr} {n cp : Nat} {L : List Int} (h : NumsAt .i64 w (.slice a n cp) L) :
    Calls Try.prog 90 #[.slice a n cp] w fun e w' => e = .returned (.bool (inB (L.length : Int) 1 4 && adsB L)) ∧ Ext w w' := by
  have HA := h
  have hn : n = L.length := (nums_len h).1
  rw [← hn]
  have e1 : ∀ b : Bool, (inB (n : Int) 1 4 && b) = (inB (n : Int) 1 4 && (!(!b))) := fun b => by cases b <;> simp
  rw [e1]
  clear hn h e1
  go_enter Try.func90, Try.ntmps90
  refine wp_seq_k (fun K hK => ?_)
  have HK := Stop.mk hK
  clear hK
  go_wp2
  refine HK.go _ _ ?_
  refine wp_seq_k (fun K2 hK2 => ?_)
  refine wp_line (fun t => bif Nat.ble 3 t && Nat.ble t 10 then some (t - 3) else bif Nat.beq t 2 then some 8 else none) 11 Ext
    [Is (.slice a n cp),
     Is (.int .i64 (n : Int)),
     Is (.bool (inB ((n : Int)) (1) (4))),
     Is (.bool (inB ((n : Int)) (1) (4))),
     Under (((inB ((n : Int)) (1) (4)))) (.slice a n cp),
     Under (((inB ((n : Int)) (1) (4)))) (.bool (!adsB L)),
     Under (((inB ((n : Int)) (1) (4)))) (.bool (!((!adsB L)))),
     Is (.bool ((inB ((n : Int)) (1) (4)) && ((!((!adsB L)))))),
     Is (.bool ((inB ((n : Int)) (1) (4)) && ((!((!adsB L))))))]
    rfl (by kernel_rfl) rfl Ext.refl (fun _ _ _ => Ext.trans) (KeepAll.is (KeepAll.is (KeepAll.is (KeepAll.is (KeepAll.under (KeepAll.under (KeepAll.under (KeepAll.is (KeepAll.is (KeepAll.nil)))))))))) ?_ ?_
  · refine GoodAll.cons ?_ ?_
    · intro r wx hR hx
      obtain ⟨h1, _⟩ := hx
      replace h1 : r (.tmp 0) = .slice a n cp := h1
      exact give_move (.inl rfl) ⟨Ext.refl _, h1⟩
    refine GoodAll.cons ?_ ?_
    · intro r wx hR hx
      obtain ⟨h1, _⟩ := hx
      replace h1 : r (.tmp 3) = .slice a n cp := h1
      exact give_of (by simp [execOp, h1, go_sem]) ⟨Ext.refl _, rfl⟩
    refine GoodAll.cons ?_ ?_
    · intro r wx hR hx
      obtain ⟨h1, h2, h3, h4, _⟩ := hx
      replace h1 : r (.func 69) = .func (.func 69) #[] #[] := h1
      replace h2 : r (.tmp 4) = .int .i64 (n : Int) := h2
      replace h3 : r (.const (.int .i64 1)) = .int .i64 1 := h3
      replace h4 : r (.const (.int .i64 4)) = .int .i64 4 := h4
      refine give_func #[.int .i64 (n : Int), .int .i64 1, .int .i64 4] rfl h1 Try.call69 (by simp [h2, h3, h4]) ?_
      refine (within_any _ _ _ _).mono ?_
      rintro e wz ⟨rfl, hez⟩
      exact ⟨_, rfl, hez, rfl⟩
    refine GoodAll.cons ?_ ?_
    · intro r wx hR hx
      obtain ⟨h1, _⟩ := hx
      replace h1 : r (.tmp 5) = .bool (inB ((n : Int)) (1) (4)) := h1
      exact give_move (.inl rfl) ⟨Ext.refl _, h1⟩
    refine GoodAll.cons ?_ ?_
    · intro r wx hR hx
      obtain ⟨h1, _⟩ := hx
      replace h1 : r (.tmp 0) = .slice a n cp := h1
      intro gb hgb
      refine guard_u (C := ((inB ((n : Int)) (1) (4)))) (b := (inB ((n : Int)) (1) (4))) (want := true) hgb (want_t _) (fun hc => ?_) (fun hc => under_no hc)
      exact give_move (.inl rfl) ⟨Ext.refl _, (h1.trans (under_yes hc))⟩
    refine GoodAll.cons ?_ ?_
    · intro r wx hR hx
      obtain ⟨h1, h2, h3, _⟩ := hx
      replace h1 : r (.func 99) = .func (.func 99) #[] #[] := h1
      replace h2 : Under (((inB ((n : Int)) (1) (4)))) (.slice a n cp) wx (r (.tmp 7)) := h2
      replace h3 : r (.func 100) = .func (.func 100) #[] #[] := h3
      intro gb hgb
      refine guard_u (C := ((inB ((n : Int)) (1) (4)))) (b := (inB ((n : Int)) (1) (4))) (want := true) hgb (want_t _) (fun hc => ?_) (fun hc => under_no hc)
      replace h2 := h2.get hc
      refine give_func #[.slice a n cp, .func (.func 100) #[] #[]] rfl h1 Try.call99 (by simp [h2, h3]) ?_
      refine (hasA_any (HA.ext hR)).mono ?_
      rintro e wz ⟨rfl, hez⟩
      exact ⟨_, rfl, hez, under_yes hc⟩
    refine GoodAll.cons ?_ ?_
    · intro r wx hR hx
      obtain ⟨h1, _⟩ := hx
      replace h1 : Under (((inB ((n : Int)) (1) (4)))) (.bool (!adsB L)) wx (r (.tmp 8)) := h1
      intro gb hgb
      refine guard_u (C := ((inB ((n : Int)) (1) (4)))) (b := (inB ((n : Int)) (1) (4))) (want := true) hgb (want_t _) (fun hc => ?_) (fun hc => under_no hc)
      replace h1 := h1.get hc
      exact give_of (by simp [execOp, h1, go_sem]) ⟨Ext.refl _, under_yes hc⟩
    refine GoodAll.cons ?_ ?_
    · intro r wx hR hx
      obtain ⟨h1, h2, h3, _⟩ := hx
      replace h1 : r (.tmp 6) = .bool (inB ((n : Int)) (1) (4)) := h1
      replace h2 : Under (((inB ((n : Int)) (1) (4)))) (.bool (!((!adsB L)))) wx (r (.tmp 9)) := h2
      replace h3 : r (.const (.bool false)) = .bool false := h3
      exact give_and rfl h3 h1 (fun hb => h2.get (by first | exact hb | (rw [hc, hb]; rfl) | (rw [hb]; rfl))) ⟨Ext.refl _, rfl⟩
    refine GoodAll.cons ?_ ?_
    · intro r wx hR hx
      obtain ⟨h1, _⟩ := hx
      replace h1 : r (.tmp 10) = .bool ((inB ((n : Int)) (1) (4)) && ((!((!adsB L))))) := h1
      exact give_move (.inr rfl) ⟨Ext.refl _, h1⟩
    exact GoodAll.nil
  · intro vs wE aE hR hold haE
    have hv : vs 8 = .bool ((inB ((n : Int)) (1) (4)) && ((!((!adsB L))))) := hold.at 8
    refine ‹∀ (a : Act) (w : World), Code.wp Try.prog Code.ret _ a w → _› _ _ ?_
    refine wp_ret ?_
    have hs : aE.tmps[2]? = some (.bool ((inB ((n : Int)) (1) (4)) && ((!((!adsB L)))))) := by rw [haE, ← hv]; kernel_rfl
    have hdf : aE.defers = [] := by rw [haE]; exact putAll_defers _ _ _ _
    clear haE
    refine bodyPost_ret (v := .bool ((inB ((n : Int)) (1) (4)) && ((!((!adsB L)))))) ?_ hdf ⟨rfl, hR⟩
    simp [results, Try.results90, go_sem, hs]

set_option maxHeartbeats 2000000 in
theorem opsFit_any {w : World} {a : Option Addr} {n cp : Nat} {L : List (Int × Int)} (h : PairsAt w (.slice a n cp) L) :
    Calls Try.prog 74 #[.slice a n cp] w fun e w' => e = .returned (.bool (inB (L.length : Int) 1 9 && opsB L)) ∧ Ext w w' := by
  have HA := h
  have hn : n = L.length := h.len.1
  rw [← hn]
  have e1 : ∀ b : Bool, (inB (n : Int) 1 9 && b) = (inB (n : Int) 1 9 && (!(!b))) := fun b => by cases b <;> simp
  rw [e1]
  clear hn h e1
  go_enter Try.func74, Try.ntmps74
  refine wp_seq_k (fun K hK => ?_)
  have HK := Stop.mk hK
  clear hK
  go_wp2
  refine HK.go _ _ ?_
  refine wp_seq_k (fun K2 hK2 => ?_)
  refine wp_line (fun t => bif Nat.ble 3 t && Nat.ble t 10 then some (t - 3) else bif Nat.beq t 2 then some 8 else none) 11 Ext
    [Is (.slice a n cp),
     Is (.int .i64 (n : Int)),
     Is (.bool (inB ((n : Int)) (1) (9))),
     Is (.bool (inB ((n : Int)) (1) (9))),
     Under (((inB ((n : Int)) (1) (9)))) (.slice a n cp),
     Under (((inB ((n : Int)) (1) (9)))) (.bool (!opsB L)),
     Under (((inB ((n : Int)) (1) (9)))) (.bool (!((!opsB L)))),
     Is (.bool ((inB ((n : Int)) (1) (9)) && ((!((!opsB L)))))),
     Is (.bool ((inB ((n : Int)) (1) (9)) && ((!((!opsB L))))))]
    rfl (by kernel_rfl) rfl Ext.refl (fun _ _ _ => Ext.trans) (KeepAll.is (KeepAll.is (KeepAll.is (KeepAll.is (KeepAll.under (KeepAll.under (KeepAll.under (KeepAll.is (KeepAll.is (KeepAll.nil)))))))))) ?_ ?_
  · refine GoodAll.cons ?_ ?_
    · intro r wx hR hx
      obtain ⟨h1, _⟩ := hx
      replace h1 : r (.tmp 0) = .slice a n cp := h1
      exact give_move (.inl rfl) ⟨Ext.refl _, h1⟩
    refine GoodAll.cons ?_ ?_
    · intro r wx hR hx
      obtain ⟨h1, _⟩ := hx
      replace h1 : r (.tmp 3) = .slice a n cp := h1
      exact give_of (by simp [execOp, h1, go_sem]) ⟨Ext.refl _, rfl⟩
    refine GoodAll.cons ?_ ?_
    · intro r wx hR hx
      obtain ⟨h1, h2, h3, h4, _⟩ := hx
      replace h1 : r (.func 69) = .func (.func 69) #[] #[] := h1
      replace h2 : r (.tmp 4) = .int .i64 (n : Int) := h2
      replace h3 : r (.const (.int .i64 1)) = .int .i64 1 := h3
      replace h4 : r (.const (.int .i64 9)) = .int .i64 9 := h4
      refine give_func #[.int .i64 (n : Int), .int .i64 1, .int .i64 9] rfl h1 Try.call69 (by simp [h2, h3, h4]) ?_
      refine (within_any _ _ _ _).mono ?_
      rintro e wz ⟨rfl, hez⟩
      exact ⟨_, rfl, hez, rfl⟩
    refine GoodAll.cons ?_ ?_
    · intro r wx hR hx
      obtain ⟨h1, _⟩ := hx
      replace h1 : r (.tmp 5) = .bool (inB ((n : Int)) (1) (9)) := h1
      exact give_move (.inl rfl) ⟨Ext.refl _, h1⟩
    refine GoodAll.cons ?_ ?_
    · intro r wx hR hx
      obtain ⟨h1, _⟩ := hx
      replace h1 : r (.tmp 0) = .slice a n cp := h1
      intro gb hgb
      refine guard_u (C := ((inB ((n : Int)) (1) (9)))) (b := (inB ((n : Int)) (1) (9))) (want := true) hgb (want_t _) (fun hc => ?_) (fun hc => under_no hc)
      exact give_move (.inl rfl) ⟨Ext.refl _, (h1.trans (under_yes hc))⟩
    refine GoodAll.cons ?_ ?_
    · intro r wx hR hx
      obtain ⟨h1, h2, h3, _⟩ := hx
      replace h1 : r (.func 91) = .func (.func 91) #[] #[] := h1
      replace h2 : Under (((inB ((n : Int)) (1) (9)))) (.slice a n cp) wx (r (.tmp 7)) := h2
      replace h3 : r (.func 92) = .func (.func 92) #[] #[] := h3
      intro gb hgb
      refine guard_u (C := ((inB ((n : Int)) (1) (9)))) (b := (inB ((n : Int)) (1) (9))) (want := true) hgb (want_t _) (fun hc => ?_) (fun hc => under_no hc)
      replace h2 := h2.get hc
      refine give_func #[.slice a n cp, .func (.func 92) #[] #[]] rfl h1 Try.call91 (by simp [h2, h3]) ?_
      refine (hasO_any (HA.ext hR)).mono ?_
      rintro e wz ⟨rfl, hez⟩
      exact ⟨_, rfl, hez, under_yes hc⟩
    refine GoodAll.cons ?_ ?_
    · intro r wx hR hx
      obtain ⟨h1, _⟩ := hx
      replace h1 : Under (((inB ((n : Int)) (1) (9)))) (.bool (!opsB L)) wx (r (.tmp 8)) := h1
      intro gb hgb
      refine guard_u (C := ((inB ((n : Int)) (1) (9)))) (b := (inB ((n : Int)) (1) (9))) (want := true) hgb (want_t _) (fun hc => ?_) (fun hc => under_no hc)
      replace h1 := h1.get hc
      exact give_of (by simp [execOp, h1, go_sem]) ⟨Ext.refl _, under_yes hc⟩
    refine GoodAll.cons ?_ ?_
    · intro r wx hR hx
      obtain ⟨h1, h2, h3, _⟩ := hx
      replace h1 : r (.tmp 6) = .bool (inB ((n : Int)) (1) (9)) := h1
      replace h2 : Under (((inB ((n : Int)) (1) (9)))) (.bool (!((!opsB L)))) wx (r (.tmp 9)) := h2
      replace h3 : r (.const (.bool false)) = .bool false := h3
      exact give_and rfl h3 h1 (fun hb => h2.get (by first | exact hb | (rw [hc, hb]; rfl) | (rw [hb]; rfl))) ⟨Ext.refl _, rfl⟩
    refine GoodAll.cons ?_ ?_
    · intro r wx hR hx
      obtain ⟨h1, _⟩ := hx
      replace h1 : r (.tmp 10) = .bool ((inB ((n : Int)) (1) (9)) && ((!((!opsB L))))) := h1
      exact give_move (.inr rfl) ⟨Ext.refl _, h1⟩
    exact GoodAll.nil
  · intro vs wE aE hR hold haE
    have hv : vs 8 = .bool ((inB ((n : Int)) (1) (9)) && ((!((!opsB L))))) := hold.at 8
    refine ‹∀ (a : Act) (w : World), Code.wp Try.prog Code.ret _ a w → _› _ _ ?_
    refine wp_ret ?_
    have hs : aE.tmps[2]? = some (.bool ((inB ((n : Int)) (1) (9)) && ((!((!opsB L)))))) := by rw [haE, ← hv]; kernel_rfl
    have hdf : aE.defers = [] := by rw [haE]; exact putAll_defers _ _ _ _
    clear haE
    refine bodyPost_ret (v := .bool ((inB ((n : Int)) (1) (9)) && ((!((!opsB L)))))) ?_ hdf ⟨rfl, hR⟩
    simp [results, Try.results74, go_sem, hs]

/-- Whether gaps stand one behind the other, the first behind a. -/
def gapsB (a : Int) : List (Int × Int) → Bool
  | [] => true
  | p :: L => !(decide (p.1 < a + 2) || (decide (p.1 > p.2) || decide (p.2 > 65535))) && gapsB p.2 L
theorem gapsB_cons (a : Int) (p : Int × Int) (L : List (Int × Int)) : gapsB a (p :: L) = (!(decide (p.1 < a + 2) || (decide (p.1 > p.2) || decide (p.2 > 65535))) && gapsB p.2 L) := rfl
theorem one_pair (x y : Int) : ∀ v ∈ (#[Value.int .i64 x, .int .i64 y] : Array Value).toList, v.oneCell' = true := by
  intro v hv
  simp at hv
  rcases hv with rfl | rfl <;> rfl
theorem zeroGp : (Try.prog.info? 67).bind (·.zero) = some (.agg #[.int .i64 0, .int .i64 0]) := by kernel_rfl
theorem drop_pair {L : List (Int × Int)} {k : Nat} (h : k < L.length) : L.drop k = L.getD k (0, 0) :: L.drop (k + 1) := by
  rw [List.drop_eq_getElem_cons h]; simp [List.getD_eq_getElem?_getD, h]
set_option maxHeartbeats 4000000 in
theorem gapsFit_any {w : World} {a : Option Addr} {n cp : Nat} {L : List (Int × Int)} (h : PairsAt w (.slice a n cp) L) :
    Calls Try.prog 73 #[.slice a n cp] w fun e w' => e = .returned (.bool (gapsB (-1) L && decide ((L.length : Int) ≤ 16))) ∧ Ext w w' := by
  have HN : Hid (PairsAt w (.slice a n cp) L ∧ n = L.length) := ⟨h, h.len.1⟩
  have hmx := h.len.2.1
  unfold maxLen at hmx
  clear h
  obtain ⟨G, hG⟩ : ∃ G, G = gapsB (-1) L := ⟨_, rfl⟩
  rw [← HN.out.2, ← hG]
  have HG : Hid (G = gapsB (-1) (L.drop 0)) := hG
  clear hG
  go_enter Try.func73, Try.ntmps73
  go_wp2
  go_loopg [3, 8] n (fun gm u t wr => ∃ (k : Nat) (z : Int), k ≤ n ∧ gm = n - k ∧ u = .int .i64 z ∧ t = .int .i64 (k : Int) ∧ -1 ≤ z ∧ z ≤ 65535 ∧ Hid (Ext w wr ∧ G = gapsB z (L.drop k)))
  case atStart => exact ⟨0, -1, Nat.zero_le _, rfl, rfl, rfl, by omega, by omega, Ext.refl _, HG.out⟩
  case round =>
    obtain ⟨k, z, hk, rfl, rfl, rfl, hz1, hz2, HR⟩ := hrel
    by_cases hlt : k < n
    · have hd : decide ((k : Int) < (n : Int)) = true := decide_eq_true (by omega)
      have hkL : k < L.length := by rw [← HN.out.2]; exact hlt
      obtain ⟨b, off, rfl, hc0, hc1⟩ := HN.out.1.cellAt k hkL
      replace hc0 := HR.out.1.cell hc0
      replace hc1 := HR.out.1.cell hc1
      have HKL : Hid (L.drop k = L.getD k (0, 0) :: L.drop (k + 1)) := drop_pair hkL
      clear hkL
      obtain ⟨p, hp⟩ : ∃ p, p = L.getD k (0, 0) := ⟨_, rfl⟩
      rw [← hp] at hc0 hc1 HKL
      clear hp
      obtain ⟨x, y⟩ := p
      dsimp only at hc0 hc1
      have HQ : Hid (G = (!(decide (x < z + 2) || (decide (x > y) || decide (y > 65535))) && gapsB y (L.drop (k + 1)))) := HR.out.2.trans (by rw [HKL.out]; rfl)
      clear HKL
      by_cases h1 : x < z + 2
      · have d1 : decide (x < z + 2) = true := decide_eq_true h1
        have HF : Hid (G = false) := HQ.out.trans (by rw [d1]; rfl)
        clear HQ
        go_wp2_with (first
          | (refine wl_loadP rfl rowGp rfl rfl hc0 hc1 ?_)
          | (refine wl_alloc rfl rfl zeroGp ?_; intro w2 hb2 he2 hx; clear hx)
          | (refine wl_store (D := #[.int .i64 x, .int .i64 y]) rfl rowGp rfl rfl rfl hb2 rfl rfl (one_pair x y) ?_; intro w3 hb3 hk3 hx; clear hx; have d0 := hb3.cell 0; have d1' := hb3.cell 1))
        go_ret
        exact ⟨by rw [HF.out]; rfl, HR.out.1.trans (he2.of_but hk3 (fun q e => by subst e; exact Nat.le_refl _))⟩
      have d1 : decide (x < z + 2) = false := decide_eq_false h1
      by_cases h2 : x > y
      · have d2 : decide (x > y) = true := decide_eq_true h2
        have d2' : decide (y < x) = true := decide_eq_true h2
        have HF : Hid (G = false) := HQ.out.trans (by rw [d1, d2]; rfl)
        clear HQ
        go_wp2_with (first
          | (refine wl_loadP rfl rowGp rfl rfl hc0 hc1 ?_)
          | (refine wl_alloc rfl rfl zeroGp ?_; intro w2 hb2 he2 hx; clear hx)
          | (refine wl_store (D := #[.int .i64 x, .int .i64 y]) rfl rowGp rfl rfl rfl hb2 rfl rfl (one_pair x y) ?_; intro w3 hb3 hk3 hx; clear hx; have d0 := hb3.cell 0; have d1' := hb3.cell 1))
        go_ret
        exact ⟨by rw [HF.out]; rfl, HR.out.1.trans (he2.of_but hk3 (fun q e => by subst e; exact Nat.le_refl _))⟩
      have d2 : decide (x > y) = false := decide_eq_false h2
      have d2' : decide (y < x) = false := decide_eq_false h2
      by_cases h3 : y > 65535
      · have d3 : decide (y > 65535) = true := decide_eq_true h3
        have d3' : decide (65535 < y) = true := decide_eq_true h3
        have HF : Hid (G = false) := HQ.out.trans (by rw [d1, d2, d3]; rfl)
        clear HQ
        go_wp2_with (first
          | (refine wl_loadP rfl rowGp rfl rfl hc0 hc1 ?_)
          | (refine wl_alloc rfl rfl zeroGp ?_; intro w2 hb2 he2 hx; clear hx)
          | (refine wl_store (D := #[.int .i64 x, .int .i64 y]) rfl rowGp rfl rfl rfl hb2 rfl rfl (one_pair x y) ?_; intro w3 hb3 hk3 hx; clear hx; have d0 := hb3.cell 0; have d1' := hb3.cell 1))
        go_ret
        exact ⟨by rw [HF.out]; rfl, HR.out.1.trans (he2.of_but hk3 (fun q e => by subst e; exact Nat.le_refl _))⟩
      have d3 : decide (y > 65535) = false := decide_eq_false h3
      have d3' : decide (65535 < y) = false := decide_eq_false h3
      have HF : Hid (G = gapsB y (L.drop (k + 1))) := HQ.out.trans (by rw [d1, d2, d3]; rfl)
      clear HQ
      have hy1 : -1 ≤ y := by omega
      have hy2 : y ≤ 65535 := by omega
      go_wp2_with (first
        | (refine wl_loadP rfl rowGp rfl rfl hc0 hc1 ?_)
        | (refine wl_alloc rfl rfl zeroGp ?_; intro w2 hb2 he2 hx; clear hx)
        | (refine wl_store (D := #[.int .i64 x, .int .i64 y]) rfl rowGp rfl rfl rfl hb2 rfl rfl (one_pair x y) ?_; intro w3 hb3 hk3 hx; clear hx; have d0 := hb3.cell 0; have d1' := hb3.cell 1))
      go_roundg (n - (k + 1))
      case measure => omega
      case rel => exact ⟨k + 1, y, by omega, rfl, rfl, by simp, hy1, hy2, HR.out.1.trans (he2.of_but hk3 (fun q e => by subst e; exact Nat.le_refl _)), HF.out⟩
    · have hd : decide ((k : Int) < (n : Int)) = false := decide_eq_false (by omega)
      have HF : Hid (G = true) := HR.out.2.trans (by rw [List.drop_eq_nil_of_le (by rw [← HN.out.2]; omega)]; rfl)
      go_wp2
      go_ret
      exact ⟨by rw [HF.out]; simp, HR.out.1⟩
end Tlv
end Go.Proofs.Ytobkgaceallegaa

/- Whether what a chunk's kind uses is within its bounds. No condition of its own. -/
namespace Go.Proofs.Ytobkgaceallegaa
namespace Tlv
open Go Go.RowKit
set_option linter.unusedVariables false
set_option linter.unusedSimpArgs false
set_option maxRecDepth 100000


def startB (c : Ck) : Bool := ((((((((c.tag : Int) : Int) != (0 : Int)) && ((inB c.win 0 2147483647))) && ((inB (c.out) (1) (8)))) && ((inB (c.inn) (1) (8)))) && ((inB ((c.rand.length : Int)) (1) (64)))) && ((inB (c.addrs.length : Int) 1 4 && adsB c.addrs)))
set_option maxHeartbeats 4000000 in
theorem startFits_any {w : World} {c : Ck} {s : Sv} (ha : CkAt w s c) :
    Calls Try.prog 70 #[.agg (CV c s)] w fun e w' => e = .returned (.bool (startB c)) ∧ Ext w w' := by
  have hrl : s.rN = c.rand.length := (bytes_len ha.r).1
  unfold startB
  go_enter Try.func70, Try.ntmps70
  refine wp_seq_k (fun K hK => ?_)
  have HK := Stop.mk hK
  clear hK
  go_wp2_with (first
    | (refine wl_box (C := CV c s) rfl rfl rfl ?_; intro w1 hb1 he1 hx; clear hx))
  refine HK.go _ _ ?_
  refine wp_seq_k (fun K2 hK2 => ?_)
  have HA := ha.ext he1
  refine wp_line (fun t => bif Nat.ble 3 t && Nat.ble t 30 then some (t - 3) else bif Nat.beq t 2 then some 28 else none) 31 Ext
    [Is (.pointer (some ⟨w.heap.size, 8, none⟩)),
     Is (.int .u32 (c.tag : Int)),
     Is (.bool (((c.tag : Int) : Int) != (0 : Int))),
     Is (.bool (((c.tag : Int) : Int) != (0 : Int))),
     Under (((((c.tag : Int) : Int) != (0 : Int)))) (.agg (CV c s)),
     Under (((((c.tag : Int) : Int) != (0 : Int)))) (.bool (inB c.win 0 2147483647)),
     Is (.bool ((((c.tag : Int) : Int) != (0 : Int)) && ((inB c.win 0 2147483647)))),
     Is (.bool ((((c.tag : Int) : Int) != (0 : Int)) && ((inB c.win 0 2147483647)))),
     Under ((((((c.tag : Int) : Int) != (0 : Int)) && ((inB c.win 0 2147483647))))) (.pointer (some ⟨w.heap.size, 10, none⟩)),
     Under ((((((c.tag : Int) : Int) != (0 : Int)) && ((inB c.win 0 2147483647))))) (.int .i64 c.out),
     Under ((((((c.tag : Int) : Int) != (0 : Int)) && ((inB c.win 0 2147483647))))) (.bool (inB (c.out) (1) (8))),
     Is (.bool (((((c.tag : Int) : Int) != (0 : Int)) && ((inB c.win 0 2147483647))) && ((inB (c.out) (1) (8))))),
     Is (.bool (((((c.tag : Int) : Int) != (0 : Int)) && ((inB c.win 0 2147483647))) && ((inB (c.out) (1) (8))))),
     Under (((((((c.tag : Int) : Int) != (0 : Int)) && ((inB c.win 0 2147483647))) && ((inB (c.out) (1) (8)))))) (.pointer (some ⟨w.heap.size, 11, none⟩)),
     Under (((((((c.tag : Int) : Int) != (0 : Int)) && ((inB c.win 0 2147483647))) && ((inB (c.out) (1) (8)))))) (.int .i64 c.inn),
     Under (((((((c.tag : Int) : Int) != (0 : Int)) && ((inB c.win 0 2147483647))) && ((inB (c.out) (1) (8)))))) (.bool (inB (c.inn) (1) (8))),
     Is (.bool ((((((c.tag : Int) : Int) != (0 : Int)) && ((inB c.win 0 2147483647))) && ((inB (c.out) (1) (8)))) && ((inB (c.inn) (1) (8))))),
     Is (.bool ((((((c.tag : Int) : Int) != (0 : Int)) && ((inB c.win 0 2147483647))) && ((inB (c.out) (1) (8)))) && ((inB (c.inn) (1) (8))))),
     Under ((((((((c.tag : Int) : Int) != (0 : Int)) && ((inB c.win 0 2147483647))) && ((inB (c.out) (1) (8)))) && ((inB (c.inn) (1) (8)))))) (.pointer (some ⟨w.heap.size, 13, none⟩)),
     Under ((((((((c.tag : Int) : Int) != (0 : Int)) && ((inB c.win 0 2147483647))) && ((inB (c.out) (1) (8)))) && ((inB (c.inn) (1) (8)))))) (.slice s.rA s.rN s.rC),
     Under ((((((((c.tag : Int) : Int) != (0 : Int)) && ((inB c.win 0 2147483647))) && ((inB (c.out) (1) (8)))) && ((inB (c.inn) (1) (8)))))) (.int .i64 (c.rand.length : Int)),
     Under ((((((((c.tag : Int) : Int) != (0 : Int)) && ((inB c.win 0 2147483647))) && ((inB (c.out) (1) (8)))) && ((inB (c.inn) (1) (8)))))) (.bool (inB ((c.rand.length : Int)) (1) (64))),
     Is (.bool (((((((c.tag : Int) : Int) != (0 : Int)) && ((inB c.win 0 2147483647))) && ((inB (c.out) (1) (8)))) && ((inB (c.inn) (1) (8)))) && ((inB ((c.rand.length : Int)) (1) (64))))),
     Is (.bool (((((((c.tag : Int) : Int) != (0 : Int)) && ((inB c.win 0 2147483647))) && ((inB (c.out) (1) (8)))) && ((inB (c.inn) (1) (8)))) && ((inB ((c.rand.length : Int)) (1) (64))))),
     Under (((((((((c.tag : Int) : Int) != (0 : Int)) && ((inB c.win 0 2147483647))) && ((inB (c.out) (1) (8)))) && ((inB (c.inn) (1) (8)))) && ((inB ((c.rand.length : Int)) (1) (64)))))) (.pointer (some ⟨w.heap.size, 14, none⟩)),
     Under (((((((((c.tag : Int) : Int) != (0 : Int)) && ((inB c.win 0 2147483647))) && ((inB (c.out) (1) (8)))) && ((inB (c.inn) (1) (8)))) && ((inB ((c.rand.length : Int)) (1) (64)))))) (.slice s.aA s.aN s.aC),
     Under (((((((((c.tag : Int) : Int) != (0 : Int)) && ((inB c.win 0 2147483647))) && ((inB (c.out) (1) (8)))) && ((inB (c.inn) (1) (8)))) && ((inB ((c.rand.length : Int)) (1) (64)))))) (.bool (inB (c.addrs.length : Int) 1 4 && adsB c.addrs)),
     Is (.bool ((((((((c.tag : Int) : Int) != (0 : Int)) && ((inB c.win 0 2147483647))) && ((inB (c.out) (1) (8)))) && ((inB (c.inn) (1) (8)))) && ((inB ((c.rand.length : Int)) (1) (64)))) && ((inB (c.addrs.length : Int) 1 4 && adsB c.addrs)))),
     Is (.bool ((((((((c.tag : Int) : Int) != (0 : Int)) && ((inB c.win 0 2147483647))) && ((inB (c.out) (1) (8)))) && ((inB (c.inn) (1) (8)))) && ((inB ((c.rand.length : Int)) (1) (64)))) && ((inB (c.addrs.length : Int) 1 4 && adsB c.addrs))))]
    rfl (by kernel_rfl) rfl Ext.refl (fun _ _ _ => Ext.trans) (KeepAll.is (KeepAll.is (KeepAll.is (KeepAll.is (KeepAll.under (KeepAll.under (KeepAll.is (KeepAll.is (KeepAll.under (KeepAll.under (KeepAll.under (KeepAll.is (KeepAll.is (KeepAll.under (KeepAll.under (KeepAll.under (KeepAll.is (KeepAll.is (KeepAll.under (KeepAll.under (KeepAll.under (KeepAll.under (KeepAll.is (KeepAll.is (KeepAll.under (KeepAll.under (KeepAll.under (KeepAll.is (KeepAll.is (KeepAll.nil)))))))))))))))))))))))))))))) ?_ ?_
  · refine GoodAll.cons ?_ ?_
    · intro r wx hR hx
      obtain ⟨h1, _⟩ := hx
      replace h1 : r (.tmp 1) = .pointer (some ⟨w.heap.size, 0, none⟩) := h1
      exact give_of (by simp [execOp, h1, go_sem]) ⟨Ext.refl _, rfl⟩
    refine GoodAll.cons ?_ ?_
    · intro r wx hR hx
      obtain ⟨h1, _⟩ := hx
      replace h1 : r (.tmp 3) = .pointer (some ⟨w.heap.size, 8, none⟩) := h1
      exact give_of (exec_get one22 rfl h1 (cv8 (hb1.ext hR))) ⟨Ext.refl _, rfl⟩
    refine GoodAll.cons ?_ ?_
    · intro r wx hR hx
      obtain ⟨h1, h2, _⟩ := hx
      replace h1 : r (.tmp 4) = .int .u32 (c.tag : Int) := h1
      replace h2 : r (.const (.int .u32 0)) = .int .u32 0 := h2
      exact give_of (by simp [execOp, h1, h2, go_sem]) ⟨Ext.refl _, rfl⟩
    refine GoodAll.cons ?_ ?_
    · intro r wx hR hx
      obtain ⟨h1, _⟩ := hx
      replace h1 : r (.tmp 5) = .bool (((c.tag : Int) : Int) != (0 : Int)) := h1
      exact give_move (.inl rfl) ⟨Ext.refl _, h1⟩
    refine GoodAll.cons ?_ ?_
    · intro r wx hR hx
      obtain ⟨h1, _⟩ := hx
      replace h1 : r (.tmp 1) = .pointer (some ⟨w.heap.size, 0, none⟩) := h1
      intro gb hgb
      refine guard_u (C := ((((c.tag : Int) : Int) != (0 : Int)))) (b := (((c.tag : Int) : Int) != (0 : Int))) (want := true) hgb (want_t _) (fun hc => ?_) (fun hc => under_no hc)
      exact give_of (exec_loadW rowC rfl h1 (hb1.ext hR) rfl) ⟨Ext.refl _, under_yes hc⟩
    refine GoodAll.cons ?_ ?_
    · intro r wx hR hx
      obtain ⟨h1, h2, _⟩ := hx
      replace h1 : r (.func 72) = .func (.func 72) #[] #[] := h1
      replace h2 : Under (((((c.tag : Int) : Int) != (0 : Int)))) (.agg (CV c s)) wx (r (.tmp 7)) := h2
      intro gb hgb
      refine guard_u (C := ((((c.tag : Int) : Int) != (0 : Int)))) (b := (((c.tag : Int) : Int) != (0 : Int))) (want := true) hgb (want_t _) (fun hc => ?_) (fun hc => under_no hc)
      replace h2 := h2.get hc
      refine give_func #[.agg (CV c s)] rfl h1 Try.call72 (by simp [h2]) ?_
      refine (windowFits_any c s _).mono ?_
      rintro e wz ⟨rfl, hez⟩
      exact ⟨_, rfl, hez, under_yes hc⟩
    refine GoodAll.cons ?_ ?_
    · intro r wx hR hx
      obtain ⟨h1, h2, h3, _⟩ := hx
      replace h1 : r (.tmp 6) = .bool (((c.tag : Int) : Int) != (0 : Int)) := h1
      replace h2 : Under (((((c.tag : Int) : Int) != (0 : Int)))) (.bool (inB c.win 0 2147483647)) wx (r (.tmp 8)) := h2
      replace h3 : r (.const (.bool false)) = .bool false := h3
      exact give_and rfl h3 h1 (fun hb => h2.get (by first | exact hb | (rw [hc, hb]; rfl) | (rw [hb]; rfl))) ⟨Ext.refl _, rfl⟩
    refine GoodAll.cons ?_ ?_
    · intro r wx hR hx
      obtain ⟨h1, _⟩ := hx
      replace h1 : r (.tmp 9) = .bool ((((c.tag : Int) : Int) != (0 : Int)) && ((inB c.win 0 2147483647))) := h1
      exact give_move (.inl rfl) ⟨Ext.refl _, h1⟩
    refine GoodAll.cons ?_ ?_
    · intro r wx hR hx
      obtain ⟨h1, _⟩ := hx
      replace h1 : r (.tmp 1) = .pointer (some ⟨w.heap.size, 0, none⟩) := h1
      intro gb hgb
      refine guard_u (C := (((((c.tag : Int) : Int) != (0 : Int)) && ((inB c.win 0 2147483647))))) (b := ((((c.tag : Int) : Int) != (0 : Int)) && ((inB c.win 0 2147483647)))) (want := true) hgb (want_t _) (fun hc => ?_) (fun hc => under_no hc)
      exact give_of (by simp [execOp, h1, go_sem]) ⟨Ext.refl _, under_yes hc⟩
    refine GoodAll.cons ?_ ?_
    · intro r wx hR hx
      obtain ⟨h1, _⟩ := hx
      replace h1 : Under ((((((c.tag : Int) : Int) != (0 : Int)) && ((inB c.win 0 2147483647))))) (.pointer (some ⟨w.heap.size, 10, none⟩)) wx (r (.tmp 11)) := h1
      intro gb hgb
      refine guard_u (C := (((((c.tag : Int) : Int) != (0 : Int)) && ((inB c.win 0 2147483647))))) (b := ((((c.tag : Int) : Int) != (0 : Int)) && ((inB c.win 0 2147483647)))) (want := true) hgb (want_t _) (fun hc => ?_) (fun hc => under_no hc)
      replace h1 := h1.get hc
      exact give_of (exec_get one3 rfl h1 (cv10 (hb1.ext hR))) ⟨Ext.refl _, under_yes hc⟩
    refine GoodAll.cons ?_ ?_
    · intro r wx hR hx
      obtain ⟨h1, h2, h3, h4, _⟩ := hx
      replace h1 : r (.func 69) = .func (.func 69) #[] #[] := h1
      replace h2 : Under ((((((c.tag : Int) : Int) != (0 : Int)) && ((inB c.win 0 2147483647))))) (.int .i64 c.out) wx (r (.tmp 12)) := h2
      replace h3 : r (.const (.int .i64 1)) = .int .i64 1 := h3
      replace h4 : r (.const (.int .i64 8)) = .int .i64 8 := h4
      intro gb hgb
      refine guard_u (C := (((((c.tag : Int) : Int) != (0 : Int)) && ((inB c.win 0 2147483647))))) (b := ((((c.tag : Int) : Int) != (0 : Int)) && ((inB c.win 0 2147483647)))) (want := true) hgb (want_t _) (fun hc => ?_) (fun hc => under_no hc)
      replace h2 := h2.get hc
      refine give_func #[.int .i64 c.out, .int .i64 1, .int .i64 8] rfl h1 Try.call69 (by simp [h2, h3, h4]) ?_
      refine (within_any _ _ _ _).mono ?_
      rintro e wz ⟨rfl, hez⟩
      exact ⟨_, rfl, hez, under_yes hc⟩
    refine GoodAll.cons ?_ ?_
    · intro r wx hR hx
      obtain ⟨h1, h2, h3, _⟩ := hx
      replace h1 : r (.tmp 10) = .bool ((((c.tag : Int) : Int) != (0 : Int)) && ((inB c.win 0 2147483647))) := h1
      replace h2 : Under ((((((c.tag : Int) : Int) != (0 : Int)) && ((inB c.win 0 2147483647))))) (.bool (inB (c.out) (1) (8))) wx (r (.tmp 13)) := h2
      replace h3 : r (.const (.bool false)) = .bool false := h3
      exact give_and rfl h3 h1 (fun hb => h2.get (by first | exact hb | (rw [hc, hb]; rfl) | (rw [hb]; rfl))) ⟨Ext.refl _, rfl⟩
    refine GoodAll.cons ?_ ?_
    · intro r wx hR hx
      obtain ⟨h1, _⟩ := hx
      replace h1 : r (.tmp 14) = .bool (((((c.tag : Int) : Int) != (0 : Int)) && ((inB c.win 0 2147483647))) && ((inB (c.out) (1) (8)))) := h1
      exact give_move (.inl rfl) ⟨Ext.refl _, h1⟩
    refine GoodAll.cons ?_ ?_
    · intro r wx hR hx
      obtain ⟨h1, _⟩ := hx
      replace h1 : r (.tmp 1) = .pointer (some ⟨w.heap.size, 0, none⟩) := h1
      intro gb hgb
      refine guard_u (C := ((((((c.tag : Int) : Int) != (0 : Int)) && ((inB c.win 0 2147483647))) && ((inB (c.out) (1) (8)))))) (b := (((((c.tag : Int) : Int) != (0 : Int)) && ((inB c.win 0 2147483647))) && ((inB (c.out) (1) (8))))) (want := true) hgb (want_t _) (fun hc => ?_) (fun hc => under_no hc)
      exact give_of (by simp [execOp, h1, go_sem]) ⟨Ext.refl _, under_yes hc⟩
    refine GoodAll.cons ?_ ?_
    · intro r wx hR hx
      obtain ⟨h1, _⟩ := hx
      replace h1 : Under (((((((c.tag : Int) : Int) != (0 : Int)) && ((inB c.win 0 2147483647))) && ((inB (c.out) (1) (8)))))) (.pointer (some ⟨w.heap.size, 11, none⟩)) wx (r (.tmp 16)) := h1
      intro gb hgb
      refine guard_u (C := ((((((c.tag : Int) : Int) != (0 : Int)) && ((inB c.win 0 2147483647))) && ((inB (c.out) (1) (8)))))) (b := (((((c.tag : Int) : Int) != (0 : Int)) && ((inB c.win 0 2147483647))) && ((inB (c.out) (1) (8))))) (want := true) hgb (want_t _) (fun hc => ?_) (fun hc => under_no hc)
      replace h1 := h1.get hc
      exact give_of (exec_get one3 rfl h1 (cv11 (hb1.ext hR))) ⟨Ext.refl _, under_yes hc⟩
    refine GoodAll.cons ?_ ?_
    · intro r wx hR hx
      obtain ⟨h1, h2, h3, h4, _⟩ := hx
      replace h1 : r (.func 69) = .func (.func 69) #[] #[] := h1
      replace h2 : Under (((((((c.tag : Int) : Int) != (0 : Int)) && ((inB c.win 0 2147483647))) && ((inB (c.out) (1) (8)))))) (.int .i64 c.inn) wx (r (.tmp 17)) := h2
      replace h3 : r (.const (.int .i64 1)) = .int .i64 1 := h3
      replace h4 : r (.const (.int .i64 8)) = .int .i64 8 := h4
      intro gb hgb
      refine guard_u (C := ((((((c.tag : Int) : Int) != (0 : Int)) && ((inB c.win 0 2147483647))) && ((inB (c.out) (1) (8)))))) (b := (((((c.tag : Int) : Int) != (0 : Int)) && ((inB c.win 0 2147483647))) && ((inB (c.out) (1) (8))))) (want := true) hgb (want_t _) (fun hc => ?_) (fun hc => under_no hc)
      replace h2 := h2.get hc
      refine give_func #[.int .i64 c.inn, .int .i64 1, .int .i64 8] rfl h1 Try.call69 (by simp [h2, h3, h4]) ?_
      refine (within_any _ _ _ _).mono ?_
      rintro e wz ⟨rfl, hez⟩
      exact ⟨_, rfl, hez, under_yes hc⟩
    refine GoodAll.cons ?_ ?_
    · intro r wx hR hx
      obtain ⟨h1, h2, h3, _⟩ := hx
      replace h1 : r (.tmp 15) = .bool (((((c.tag : Int) : Int) != (0 : Int)) && ((inB c.win 0 2147483647))) && ((inB (c.out) (1) (8)))) := h1
      replace h2 : Under (((((((c.tag : Int) : Int) != (0 : Int)) && ((inB c.win 0 2147483647))) && ((inB (c.out) (1) (8)))))) (.bool (inB (c.inn) (1) (8))) wx (r (.tmp 18)) := h2
      replace h3 : r (.const (.bool false)) = .bool false := h3
      exact give_and rfl h3 h1 (fun hb => h2.get (by first | exact hb | (rw [hc, hb]; rfl) | (rw [hb]; rfl))) ⟨Ext.refl _, rfl⟩
    refine GoodAll.cons ?_ ?_
    · intro r wx hR hx
      obtain ⟨h1, _⟩ := hx
      replace h1 : r (.tmp 19) = .bool ((((((c.tag : Int) : Int) != (0 : Int)) && ((inB c.win 0 2147483647))) && ((inB (c.out) (1) (8)))) && ((inB (c.inn) (1) (8)))) := h1
      exact give_move (.inl rfl) ⟨Ext.refl _, h1⟩
    refine GoodAll.cons ?_ ?_
    · intro r wx hR hx
      obtain ⟨h1, _⟩ := hx
      replace h1 : r (.tmp 1) = .pointer (some ⟨w.heap.size, 0, none⟩) := h1
      intro gb hgb
      refine guard_u (C := (((((((c.tag : Int) : Int) != (0 : Int)) && ((inB c.win 0 2147483647))) && ((inB (c.out) (1) (8)))) && ((inB (c.inn) (1) (8)))))) (b := ((((((c.tag : Int) : Int) != (0 : Int)) && ((inB c.win 0 2147483647))) && ((inB (c.out) (1) (8)))) && ((inB (c.inn) (1) (8))))) (want := true) hgb (want_t _) (fun hc => ?_) (fun hc => under_no hc)
      exact give_of (by simp [execOp, h1, go_sem]) ⟨Ext.refl _, under_yes hc⟩
    refine GoodAll.cons ?_ ?_
    · intro r wx hR hx
      obtain ⟨h1, _⟩ := hx
      replace h1 : Under ((((((((c.tag : Int) : Int) != (0 : Int)) && ((inB c.win 0 2147483647))) && ((inB (c.out) (1) (8)))) && ((inB (c.inn) (1) (8)))))) (.pointer (some ⟨w.heap.size, 13, none⟩)) wx (r (.tmp 21)) := h1
      intro gb hgb
      refine guard_u (C := (((((((c.tag : Int) : Int) != (0 : Int)) && ((inB c.win 0 2147483647))) && ((inB (c.out) (1) (8)))) && ((inB (c.inn) (1) (8)))))) (b := ((((((c.tag : Int) : Int) != (0 : Int)) && ((inB c.win 0 2147483647))) && ((inB (c.out) (1) (8)))) && ((inB (c.inn) (1) (8))))) (want := true) hgb (want_t _) (fun hc => ?_) (fun hc => under_no hc)
      replace h1 := h1.get hc
      exact give_of (exec_get oneS rfl h1 (cv13 (hb1.ext hR))) ⟨Ext.refl _, under_yes hc⟩
    refine GoodAll.cons ?_ ?_
    · intro r wx hR hx
      obtain ⟨h1, _⟩ := hx
      replace h1 : Under ((((((((c.tag : Int) : Int) != (0 : Int)) && ((inB c.win 0 2147483647))) && ((inB (c.out) (1) (8)))) && ((inB (c.inn) (1) (8)))))) (.slice s.rA s.rN s.rC) wx (r (.tmp 22)) := h1
      intro gb hgb
      refine guard_u (C := (((((((c.tag : Int) : Int) != (0 : Int)) && ((inB c.win 0 2147483647))) && ((inB (c.out) (1) (8)))) && ((inB (c.inn) (1) (8)))))) (b := ((((((c.tag : Int) : Int) != (0 : Int)) && ((inB c.win 0 2147483647))) && ((inB (c.out) (1) (8)))) && ((inB (c.inn) (1) (8))))) (want := true) hgb (want_t _) (fun hc => ?_) (fun hc => under_no hc)
      replace h1 := h1.get hc
      exact give_of (by simp [execOp, h1, hrl, go_sem]) ⟨Ext.refl _, under_yes hc⟩
    refine GoodAll.cons ?_ ?_
    · intro r wx hR hx
      obtain ⟨h1, h2, h3, h4, _⟩ := hx
      replace h1 : r (.func 69) = .func (.func 69) #[] #[] := h1
      replace h2 : Under ((((((((c.tag : Int) : Int) != (0 : Int)) && ((inB c.win 0 2147483647))) && ((inB (c.out) (1) (8)))) && ((inB (c.inn) (1) (8)))))) (.int .i64 (c.rand.length : Int)) wx (r (.tmp 23)) := h2
      replace h3 : r (.const (.int .i64 1)) = .int .i64 1 := h3
      replace h4 : r (.const (.int .i64 64)) = .int .i64 64 := h4
      intro gb hgb
      refine guard_u (C := (((((((c.tag : Int) : Int) != (0 : Int)) && ((inB c.win 0 2147483647))) && ((inB (c.out) (1) (8)))) && ((inB (c.inn) (1) (8)))))) (b := ((((((c.tag : Int) : Int) != (0 : Int)) && ((inB c.win 0 2147483647))) && ((inB (c.out) (1) (8)))) && ((inB (c.inn) (1) (8))))) (want := true) hgb (want_t _) (fun hc => ?_) (fun hc => under_no hc)
      replace h2 := h2.get hc
      refine give_func #[.int .i64 (c.rand.length : Int), .int .i64 1, .int .i64 64] rfl h1 Try.call69 (by simp [h2, h3, h4]) ?_
      refine (within_any _ _ _ _).mono ?_
      rintro e wz ⟨rfl, hez⟩
      exact ⟨_, rfl, hez, under_yes hc⟩
    refine GoodAll.cons ?_ ?_
    · intro r wx hR hx
      obtain ⟨h1, h2, h3, _⟩ := hx
      replace h1 : r (.tmp 20) = .bool ((((((c.tag : Int) : Int) != (0 : Int)) && ((inB c.win 0 2147483647))) && ((inB (c.out) (1) (8)))) && ((inB (c.inn) (1) (8)))) := h1
      replace h2 : Under ((((((((c.tag : Int) : Int) != (0 : Int)) && ((inB c.win 0 2147483647))) && ((inB (c.out) (1) (8)))) && ((inB (c.inn) (1) (8)))))) (.bool (inB ((c.rand.length : Int)) (1) (64))) wx (r (.tmp 24)) := h2
      replace h3 : r (.const (.bool false)) = .bool false := h3
      exact give_and rfl h3 h1 (fun hb => h2.get (by first | exact hb | (rw [hc, hb]; rfl) | (rw [hb]; rfl))) ⟨Ext.refl _, rfl⟩
    refine GoodAll.cons ?_ ?_
    · intro r wx hR hx
      obtain ⟨h1, _⟩ := hx
      replace h1 : r (.tmp 25) = .bool (((((((c.tag : Int) : Int) != (0 : Int)) && ((inB c.win 0 2147483647))) && ((inB (c.out) (1) (8)))) && ((inB (c.inn) (1) (8)))) && ((inB ((c.rand.length : Int)) (1) (64)))) := h1
      exact give_move (.inl rfl) ⟨Ext.refl _, h1⟩
    refine GoodAll.cons ?_ ?_
    · intro r wx hR hx
      obtain ⟨h1, _⟩ := hx
      replace h1 : r (.tmp 1) = .pointer (some ⟨w.heap.size, 0, none⟩) := h1
      intro gb hgb
      refine guard_u (C := ((((((((c.tag : Int) : Int) != (0 : Int)) && ((inB c.win 0 2147483647))) && ((inB (c.out) (1) (8)))) && ((inB (c.inn) (1) (8)))) && ((inB ((c.rand.length : Int)) (1) (64)))))) (b := (((((((c.tag : Int) : Int) != (0 : Int)) && ((inB c.win 0 2147483647))) && ((inB (c.out) (1) (8)))) && ((inB (c.inn) (1) (8)))) && ((inB ((c.rand.length : Int)) (1) (64))))) (want := true) hgb (want_t _) (fun hc => ?_) (fun hc => under_no hc)
      exact give_of (by simp [execOp, h1, go_sem]) ⟨Ext.refl _, under_yes hc⟩
    refine GoodAll.cons ?_ ?_
    · intro r wx hR hx
      obtain ⟨h1, _⟩ := hx
      replace h1 : Under (((((((((c.tag : Int) : Int) != (0 : Int)) && ((inB c.win 0 2147483647))) && ((inB (c.out) (1) (8)))) && ((inB (c.inn) (1) (8)))) && ((inB ((c.rand.length : Int)) (1) (64)))))) (.pointer (some ⟨w.heap.size, 14, none⟩)) wx (r (.tmp 27)) := h1
      intro gb hgb
      refine guard_u (C := ((((((((c.tag : Int) : Int) != (0 : Int)) && ((inB c.win 0 2147483647))) && ((inB (c.out) (1) (8)))) && ((inB (c.inn) (1) (8)))) && ((inB ((c.rand.length : Int)) (1) (64)))))) (b := (((((((c.tag : Int) : Int) != (0 : Int)) && ((inB c.win 0 2147483647))) && ((inB (c.out) (1) (8)))) && ((inB (c.inn) (1) (8)))) && ((inB ((c.rand.length : Int)) (1) (64))))) (want := true) hgb (want_t _) (fun hc => ?_) (fun hc => under_no hc)
      replace h1 := h1.get hc
      exact give_of (exec_get oneSA rfl h1 (cv14 (hb1.ext hR))) ⟨Ext.refl _, under_yes hc⟩
    refine GoodAll.cons ?_ ?_
    · intro r wx hR hx
      obtain ⟨h1, h2, _⟩ := hx
      replace h1 : r (.func 90) = .func (.func 90) #[] #[] := h1
      replace h2 : Under (((((((((c.tag : Int) : Int) != (0 : Int)) && ((inB c.win 0 2147483647))) && ((inB (c.out) (1) (8)))) && ((inB (c.inn) (1) (8)))) && ((inB ((c.rand.length : Int)) (1) (64)))))) (.slice s.aA s.aN s.aC) wx (r (.tmp 28)) := h2
      intro gb hgb
      refine guard_u (C := ((((((((c.tag : Int) : Int) != (0 : Int)) && ((inB c.win 0 2147483647))) && ((inB (c.out) (1) (8)))) && ((inB (c.inn) (1) (8)))) && ((inB ((c.rand.length : Int)) (1) (64)))))) (b := (((((((c.tag : Int) : Int) != (0 : Int)) && ((inB c.win 0 2147483647))) && ((inB (c.out) (1) (8)))) && ((inB (c.inn) (1) (8)))) && ((inB ((c.rand.length : Int)) (1) (64))))) (want := true) hgb (want_t _) (fun hc => ?_) (fun hc => under_no hc)
      replace h2 := h2.get hc
      refine give_func #[.slice s.aA s.aN s.aC] rfl h1 Try.call90 (by simp [h2]) ?_
      refine (addrsFit_any (HA.a.ext hR)).mono ?_
      rintro e wz ⟨rfl, hez⟩
      exact ⟨_, rfl, hez, under_yes hc⟩
    refine GoodAll.cons ?_ ?_
    · intro r wx hR hx
      obtain ⟨h1, h2, h3, _⟩ := hx
      replace h1 : r (.tmp 26) = .bool (((((((c.tag : Int) : Int) != (0 : Int)) && ((inB c.win 0 2147483647))) && ((inB (c.out) (1) (8)))) && ((inB (c.inn) (1) (8)))) && ((inB ((c.rand.length : Int)) (1) (64)))) := h1
      replace h2 : Under (((((((((c.tag : Int) : Int) != (0 : Int)) && ((inB c.win 0 2147483647))) && ((inB (c.out) (1) (8)))) && ((inB (c.inn) (1) (8)))) && ((inB ((c.rand.length : Int)) (1) (64)))))) (.bool (inB (c.addrs.length : Int) 1 4 && adsB c.addrs)) wx (r (.tmp 29)) := h2
      replace h3 : r (.const (.bool false)) = .bool false := h3
      exact give_and rfl h3 h1 (fun hb => h2.get (by first | exact hb | (rw [hc, hb]; rfl) | (rw [hb]; rfl))) ⟨Ext.refl _, rfl⟩
    refine GoodAll.cons ?_ ?_
    · intro r wx hR hx
      obtain ⟨h1, _⟩ := hx
      replace h1 : r (.tmp 30) = .bool ((((((((c.tag : Int) : Int) != (0 : Int)) && ((inB c.win 0 2147483647))) && ((inB (c.out) (1) (8)))) && ((inB (c.inn) (1) (8)))) && ((inB ((c.rand.length : Int)) (1) (64)))) && ((inB (c.addrs.length : Int) 1 4 && adsB c.addrs))) := h1
      exact give_move (.inr rfl) ⟨Ext.refl _, h1⟩
    exact GoodAll.nil
  · intro vs wE aE hR hold haE
    have hv : vs 28 = .bool ((((((((c.tag : Int) : Int) != (0 : Int)) && ((inB c.win 0 2147483647))) && ((inB (c.out) (1) (8)))) && ((inB (c.inn) (1) (8)))) && ((inB ((c.rand.length : Int)) (1) (64)))) && ((inB (c.addrs.length : Int) 1 4 && adsB c.addrs))) := hold.at 28
    refine ‹∀ (a : Act) (w : World), Code.wp Try.prog Code.ret _ a w → _› _ _ ?_
    refine wp_ret ?_
    have hs : aE.tmps[2]? = some (.bool ((((((((c.tag : Int) : Int) != (0 : Int)) && ((inB c.win 0 2147483647))) && ((inB (c.out) (1) (8)))) && ((inB (c.inn) (1) (8)))) && ((inB ((c.rand.length : Int)) (1) (64)))) && ((inB (c.addrs.length : Int) 1 4 && adsB c.addrs)))) := by rw [haE, ← hv]; kernel_rfl
    have hdf : aE.defers = [] := by rw [haE]; exact putAll_defers _ _ _ _
    clear haE
    refine bodyPost_ret (v := .bool ((((((((c.tag : Int) : Int) != (0 : Int)) && ((inB c.win 0 2147483647))) && ((inB (c.out) (1) (8)))) && ((inB (c.inn) (1) (8)))) && ((inB ((c.rand.length : Int)) (1) (64)))) && ((inB (c.addrs.length : Int) 1 4 && adsB c.addrs)))) ?_ hdf ⟨rfl, he1.trans hR⟩
    simp [results, Try.results70, go_sem, hs]

/-- Whether what a chunk's kind uses is within its bounds. -/
def fitsB (c : Ck) : Bool :=
  if c.kind = 0 then inB (c.text.length : Int) 1 64
  else if c.kind = 1 then startB c
  else if c.kind = 2 then startB c && inB (c.info.length : Int) 1 300
  else if c.kind = 3 then (inB c.win 0 2147483647 && (gapsB (-1) c.gaps && decide ((c.gaps.length : Int) ≤ 16))) && decide ((c.dups.length : Int) ≤ 16)
  else if c.kind = 4 ∨ c.kind = 5 ∨ c.kind = 10 then inB (c.info.length : Int) 1 300
  else if c.kind = 15 then (c.info.length : Int) == 32
  else if c.kind = 6 ∨ c.kind = 9 then inB c.cause 0 65535
  else if c.kind = 193 then inB (c.ops.length : Int) 1 9 && opsB c.ops
  else true
set_option maxHeartbeats 16000000 in
theorem fits_any {w : World} {c : Ck} {s : Sv} (ha : CkAt w s c) :
    Calls Try.prog 34 #[.agg (CV c s)] w fun e w' => e = .returned (.bool (fitsB c)) ∧ Ext w w' := by
  have htl : s.tN = c.text.length := (bytes_len ha.t).1
  have hil : s.iN = c.info.length := (bytes_len ha.i).1
  have hdl : s.dN = c.dups.length := by have := (nums_len ha.d).1; rwa [ci_len] at this
  have HL : Hid (s.tN = c.text.length ∧ s.iN = c.info.length ∧ s.dN = c.dups.length) := ⟨htl, hil, hdl⟩
  clear htl hil hdl
  by_cases hk : c.kind = 0
  · have HE : Hid (fitsB c = inB (c.text.length : Int) 1 64) := show _ = _ by simp [fitsB, hk]
    rw [HE.out]
    rw [← HL.out.1]
    go_enter Try.func34, Try.ntmps34
    go_wp2_with (first
      | (refine wl_box (C := CV c s) rfl rfl rfl ?_; intro w1 hb1 he1 hx; clear hx; have c0 := cv0 hb1; have c7 := cv7 hb1; have c15 := cv15 hb1; have c17 := cv17 hb1; have c18 := cv18 hb1; have c20 := cv20 hb1)
      | (refine wl_load rfl rowC rfl rfl hb1 rfl ?_)
      | (go_at_call 69; refine (within_any _ _ _ _).mono ?_; rintro e w2 ⟨rfl, he2⟩))
    go_ret
    exact ⟨rfl, he1.trans he2⟩
  by_cases hk : c.kind = 1
  · have HE : Hid (fitsB c = startB c) := show _ = _ by simp [fitsB, hk]
    rw [HE.out]
    go_enter Try.func34, Try.ntmps34
    go_wp2_with (first
      | (refine wl_box (C := CV c s) rfl rfl rfl ?_; intro w1 hb1 he1 hx; clear hx; have c0 := cv0 hb1; have c7 := cv7 hb1; have c15 := cv15 hb1; have c17 := cv17 hb1; have c18 := cv18 hb1; have c20 := cv20 hb1)
      | (refine wl_load rfl rowC rfl rfl hb1 rfl ?_)
      | (go_at_call 70; refine (startFits_any (ha.ext he1)).mono ?_; rintro e w2 ⟨rfl, he2⟩))
    go_ret
    exact ⟨rfl, he1.trans he2⟩
  by_cases hk : c.kind = 2
  · have HE : Hid (fitsB c = (startB c && inB (c.info.length : Int) 1 300)) := show _ = _ by simp [fitsB, hk]
    rw [HE.out]
    go_enter Try.func34, Try.ntmps34
    go_wp2_with (first
      | (refine stop_at 7 rfl ?_)
      | (refine wl_box (C := CV c s) rfl rfl rfl ?_; intro w1 hb1 he1 hx; clear hx; have c0 := cv0 hb1; have c7 := cv7 hb1; have c15 := cv15 hb1; have c17 := cv17 hb1; have c18 := cv18 hb1; have c20 := cv20 hb1)
      | (refine wl_load rfl rowC rfl rfl hb1 rfl ?_))
    refine ⟨?_⟩
    have HA := ha.ext he1
    refine wpList_line 0 (fun t => bif Nat.ble 18 t && Nat.ble t 23 then some (t - 18) else bif Nat.beq t 2 then some 6 else none) 62 Ext
      [Is (.agg (CV c s)),
       Is (.bool (startB c)),
       Is (.bool (startB c)),
       Under (((startB c))) (.agg (CV c s)),
       Under (((startB c))) (.bool (inB (c.info.length : Int) 1 300)),
       Is (.bool ((startB c) && ((inB (c.info.length : Int) 1 300)))),
       Is (.bool ((startB c) && ((inB (c.info.length : Int) 1 300))))]
      rfl (by kernel_rfl) rfl Ext.refl (fun _ _ _ => Ext.trans) (KeepAll.is (KeepAll.is (KeepAll.is (KeepAll.under (KeepAll.under (KeepAll.is (KeepAll.is (KeepAll.nil)))))))) ?_ ?_ ?_
    · intro i o hi ho
      exact absurd hi (by omega)
    · refine goodFrom 0 ?_
      refine GoodAll.cons ?_ ?_
      · intro r wx hR hx
        obtain ⟨h1, _⟩ := hx
        replace h1 : r (.tmp 1) = .pointer (some ⟨w.heap.size, 0, none⟩) := h1
        exact give_of (exec_loadW rowC rfl h1 (hb1.ext hR) rfl) ⟨Ext.refl _, rfl⟩
      refine GoodAll.cons ?_ ?_
      · intro r wx hR hx
        obtain ⟨h1, h2, _⟩ := hx
        replace h1 : r (.func 70) = .func (.func 70) #[] #[] := h1
        replace h2 : r (.tmp 18) = .agg (CV c s) := h2
        refine give_func #[.agg (CV c s)] rfl h1 Try.call70 (by simp [h2]) ?_
        refine (startFits_any (HA.ext hR)).mono ?_
        rintro e wz ⟨rfl, hez⟩
        exact ⟨_, rfl, hez, rfl⟩
      refine GoodAll.cons ?_ ?_
      · intro r wx hR hx
        obtain ⟨h1, _⟩ := hx
        replace h1 : r (.tmp 19) = .bool (startB c) := h1
        exact give_move (.inl rfl) ⟨Ext.refl _, h1⟩
      refine GoodAll.cons ?_ ?_
      · intro r wx hR hx
        obtain ⟨h1, _⟩ := hx
        replace h1 : r (.tmp 1) = .pointer (some ⟨w.heap.size, 0, none⟩) := h1
        intro gb hgb
        refine guard_u (C := ((startB c))) (b := (startB c)) (want := true) hgb (want_t _) (fun hc => ?_) (fun hc => under_no hc)
        exact give_of (exec_loadW rowC rfl h1 (hb1.ext hR) rfl) ⟨Ext.refl _, under_yes hc⟩
      refine GoodAll.cons ?_ ?_
      · intro r wx hR hx
        obtain ⟨h1, h2, _⟩ := hx
        replace h1 : r (.func 71) = .func (.func 71) #[] #[] := h1
        replace h2 : Under (((startB c))) (.agg (CV c s)) wx (r (.tmp 21)) := h2
        intro gb hgb
        refine guard_u (C := ((startB c))) (b := (startB c)) (want := true) hgb (want_t _) (fun hc => ?_) (fun hc => under_no hc)
        replace h2 := h2.get hc
        refine give_func #[.agg (CV c s)] rfl h1 Try.call71 (by simp [h2]) ?_
        refine (infoFits_any c s HL.out.2.1 _).mono ?_
        rintro e wz ⟨rfl, hez⟩
        exact ⟨_, rfl, hez, under_yes hc⟩
      refine GoodAll.cons ?_ ?_
      · intro r wx hR hx
        obtain ⟨h1, h2, h3, _⟩ := hx
        replace h1 : r (.tmp 20) = .bool (startB c) := h1
        replace h2 : Under (((startB c))) (.bool (inB (c.info.length : Int) 1 300)) wx (r (.tmp 22)) := h2
        replace h3 : r (.const (.bool false)) = .bool false := h3
        exact give_and rfl h3 h1 (fun hb => h2.get (by first | exact hb | (rw [hc, hb]; rfl) | (rw [hb]; rfl))) ⟨Ext.refl _, rfl⟩
      refine GoodAll.cons ?_ ?_
      · intro r wx hR hx
        obtain ⟨h1, _⟩ := hx
        replace h1 : r (.tmp 23) = .bool ((startB c) && ((inB (c.info.length : Int) 1 300))) := h1
        exact give_move (.inr rfl) ⟨Ext.refl _, h1⟩
      exact GoodAll.nil
    · intro vs wE aE hR hold haE
      have hv : vs 6 = .bool ((startB c) && ((inB (c.info.length : Int) 1 300))) := hold.at 6
      refine ‹∀ (a : Act) (w : World), Code.wp Try.prog Code.ret _ a w → _› _ _ ?_
      refine wp_ret ?_
      have hs : aE.tmps[2]? = some (.bool ((startB c) && ((inB (c.info.length : Int) 1 300)))) := by rw [haE, ← hv]; kernel_rfl
      have hdf : aE.defers = [] := by rw [haE]; exact putAll_defers _ _ _ _
      clear haE
      unfold Exit.then Exit.inBlock; dsimp only
      refine bodyPost_ret (v := .bool ((startB c) && ((inB (c.info.length : Int) 1 300)))) ?_ hdf ⟨rfl, he1.trans hR⟩
      simp [results, Try.results34, go_sem, hs]
  by_cases hk : c.kind = 3
  · have HE : Hid (fitsB c = ((inB c.win 0 2147483647 && (gapsB (-1) c.gaps && decide ((c.gaps.length : Int) ≤ 16))) && decide ((c.dups.length : Int) ≤ 16))) := show _ = _ by simp [fitsB, hk]
    rw [HE.out]
    cases hs : inB c.win 0 2147483647 with
    | true =>
      cases hg : (gapsB (-1) c.gaps && decide ((c.gaps.length : Int) ≤ 16)) with
      | true =>
        rw [← HL.out.2.2]
        go_enter Try.func34, Try.ntmps34
        go_wp2_with (first
          | (refine wl_box (C := CV c s) rfl rfl rfl ?_; intro w1 hb1 he1 hx; clear hx; have c0 := cv0 hb1; have c7 := cv7 hb1; have c15 := cv15 hb1; have c17 := cv17 hb1; have c18 := cv18 hb1; have c20 := cv20 hb1)
          | (refine wl_load rfl rowC rfl rfl hb1 rfl ?_)
          | (go_at_call 72; refine (windowFits_any c s _).mono ?_; rintro e w2 ⟨rfl, he2⟩; rw [hs]; have d16 := cv16 (hb1.ext he2))
          | (go_at_call 73; refine (gapsFit_any ((ha.ext he1).g.ext he2)).mono ?_; rintro e w3 ⟨rfl, he3⟩; rw [hg]; have d17 := cv17 ((hb1.ext he2).ext he3)))
        go_ret
        exact ⟨by simp, (he1.trans he2).trans he3⟩
      | false =>
        go_enter Try.func34, Try.ntmps34
        go_wp2_with (first
          | (refine wl_box (C := CV c s) rfl rfl rfl ?_; intro w1 hb1 he1 hx; clear hx; have c0 := cv0 hb1; have c7 := cv7 hb1; have c15 := cv15 hb1; have c17 := cv17 hb1; have c18 := cv18 hb1; have c20 := cv20 hb1)
          | (refine wl_load rfl rowC rfl rfl hb1 rfl ?_)
          | (go_at_call 72; refine (windowFits_any c s _).mono ?_; rintro e w2 ⟨rfl, he2⟩; rw [hs]; have d16 := cv16 (hb1.ext he2))
          | (go_at_call 73; refine (gapsFit_any ((ha.ext he1).g.ext he2)).mono ?_; rintro e w3 ⟨rfl, he3⟩; rw [hg]; have d17 := cv17 ((hb1.ext he2).ext he3)))
        go_ret
        exact ⟨by simp, (he1.trans he2).trans he3⟩
    | false =>
      go_enter Try.func34, Try.ntmps34
      go_wp2_with (first
        | (refine wl_box (C := CV c s) rfl rfl rfl ?_; intro w1 hb1 he1 hx; clear hx; have c0 := cv0 hb1; have c7 := cv7 hb1; have c15 := cv15 hb1; have c17 := cv17 hb1; have c18 := cv18 hb1; have c20 := cv20 hb1)
        | (refine wl_load rfl rowC rfl rfl hb1 rfl ?_)
        | (go_at_call 72; refine (windowFits_any c s _).mono ?_; rintro e w2 ⟨rfl, he2⟩; rw [hs]))
      go_ret
      exact ⟨by simp, he1.trans he2⟩
  by_cases hk : c.kind = 4
  · have HE : Hid (fitsB c = inB (c.info.length : Int) 1 300) := show _ = _ by simp [fitsB, hk]
    rw [HE.out]
    go_enter Try.func34, Try.ntmps34
    go_wp2_with (first
      | (refine wl_box (C := CV c s) rfl rfl rfl ?_; intro w1 hb1 he1 hx; clear hx; have c0 := cv0 hb1; have c7 := cv7 hb1; have c15 := cv15 hb1; have c17 := cv17 hb1; have c18 := cv18 hb1; have c20 := cv20 hb1)
      | (refine wl_load rfl rowC rfl rfl hb1 rfl ?_)
      | (go_at_call 71; refine (infoFits_any c s HL.out.2.1 _).mono ?_; rintro e w2 ⟨rfl, he2⟩))
    go_ret
    exact ⟨rfl, he1.trans he2⟩
  by_cases hk : c.kind = 5
  · have HE : Hid (fitsB c = inB (c.info.length : Int) 1 300) := show _ = _ by simp [fitsB, hk]
    rw [HE.out]
    go_enter Try.func34, Try.ntmps34
    go_wp2_with (first
      | (refine wl_box (C := CV c s) rfl rfl rfl ?_; intro w1 hb1 he1 hx; clear hx; have c0 := cv0 hb1; have c7 := cv7 hb1; have c15 := cv15 hb1; have c17 := cv17 hb1; have c18 := cv18 hb1; have c20 := cv20 hb1)
      | (refine wl_load rfl rowC rfl rfl hb1 rfl ?_)
      | (go_at_call 71; refine (infoFits_any c s HL.out.2.1 _).mono ?_; rintro e w2 ⟨rfl, he2⟩))
    go_ret
    exact ⟨rfl, he1.trans he2⟩
  by_cases hk : c.kind = 10
  · have HE : Hid (fitsB c = inB (c.info.length : Int) 1 300) := show _ = _ by simp [fitsB, hk]
    rw [HE.out]
    go_enter Try.func34, Try.ntmps34
    go_wp2_with (first
      | (refine wl_box (C := CV c s) rfl rfl rfl ?_; intro w1 hb1 he1 hx; clear hx; have c0 := cv0 hb1; have c7 := cv7 hb1; have c15 := cv15 hb1; have c17 := cv17 hb1; have c18 := cv18 hb1; have c20 := cv20 hb1)
      | (refine wl_load rfl rowC rfl rfl hb1 rfl ?_)
      | (go_at_call 71; refine (infoFits_any c s HL.out.2.1 _).mono ?_; rintro e w2 ⟨rfl, he2⟩))
    go_ret
    exact ⟨rfl, he1.trans he2⟩
  by_cases hk : c.kind = 15
  · have HE : Hid (fitsB c = ((c.info.length : Int) == 32)) := show _ = _ by simp [fitsB, hk]
    rw [HE.out]
    rw [← HL.out.2.1]
    go_enter Try.func34, Try.ntmps34
    go_wp2_with (first
      | (refine wl_box (C := CV c s) rfl rfl rfl ?_; intro w1 hb1 he1 hx; clear hx; have c0 := cv0 hb1; have c7 := cv7 hb1; have c15 := cv15 hb1; have c17 := cv17 hb1; have c18 := cv18 hb1; have c20 := cv20 hb1)
      | (refine wl_load rfl rowC rfl rfl hb1 rfl ?_))
    go_ret
    exact ⟨rfl, he1⟩
  by_cases hk : c.kind = 6
  · have HE : Hid (fitsB c = inB c.cause 0 65535) := show _ = _ by simp [fitsB, hk]
    rw [HE.out]
    go_enter Try.func34, Try.ntmps34
    go_wp2_with (first
      | (refine wl_box (C := CV c s) rfl rfl rfl ?_; intro w1 hb1 he1 hx; clear hx; have c0 := cv0 hb1; have c7 := cv7 hb1; have c15 := cv15 hb1; have c17 := cv17 hb1; have c18 := cv18 hb1; have c20 := cv20 hb1)
      | (refine wl_load rfl rowC rfl rfl hb1 rfl ?_)
      | (go_at_call 69; refine (within_any _ _ _ _).mono ?_; rintro e w2 ⟨rfl, he2⟩))
    go_ret
    exact ⟨rfl, he1.trans he2⟩
  by_cases hk : c.kind = 9
  · have HE : Hid (fitsB c = inB c.cause 0 65535) := show _ = _ by simp [fitsB, hk]
    rw [HE.out]
    go_enter Try.func34, Try.ntmps34
    go_wp2_with (first
      | (refine wl_box (C := CV c s) rfl rfl rfl ?_; intro w1 hb1 he1 hx; clear hx; have c0 := cv0 hb1; have c7 := cv7 hb1; have c15 := cv15 hb1; have c17 := cv17 hb1; have c18 := cv18 hb1; have c20 := cv20 hb1)
      | (refine wl_load rfl rowC rfl rfl hb1 rfl ?_)
      | (go_at_call 69; refine (within_any _ _ _ _).mono ?_; rintro e w2 ⟨rfl, he2⟩))
    go_ret
    exact ⟨rfl, he1.trans he2⟩
  by_cases hk : c.kind = 193
  · have HE : Hid (fitsB c = (inB (c.ops.length : Int) 1 9 && opsB c.ops)) := show _ = _ by simp [fitsB, hk]
    rw [HE.out]
    go_enter Try.func34, Try.ntmps34
    go_wp2_with (first
      | (refine wl_box (C := CV c s) rfl rfl rfl ?_; intro w1 hb1 he1 hx; clear hx; have c0 := cv0 hb1; have c7 := cv7 hb1; have c15 := cv15 hb1; have c17 := cv17 hb1; have c18 := cv18 hb1; have c20 := cv20 hb1)
      | (refine wl_load rfl rowC rfl rfl hb1 rfl ?_)
      | (go_at_call 74; refine (opsFit_any (ha.ext he1).o).mono ?_; rintro e w2 ⟨rfl, he2⟩))
    go_ret
    exact ⟨rfl, he1.trans he2⟩
  have HE : Hid (fitsB c = true) := show _ = _ by simp [fitsB, *]
  rw [HE.out]
  have e0 : (c.kind == 0) = false := beq_false_of_ne (by assumption)
  have e1 : (c.kind == 1) = false := beq_false_of_ne (by assumption)
  have e2 : (c.kind == 2) = false := beq_false_of_ne (by assumption)
  have e3 : (c.kind == 3) = false := beq_false_of_ne (by assumption)
  have e4 : (c.kind == 4) = false := beq_false_of_ne (by assumption)
  have e5 : (c.kind == 5) = false := beq_false_of_ne (by assumption)
  have e10 : (c.kind == 10) = false := beq_false_of_ne (by assumption)
  have e15 : (c.kind == 15) = false := beq_false_of_ne (by assumption)
  have e6 : (c.kind == 6) = false := beq_false_of_ne (by assumption)
  have e9 : (c.kind == 9) = false := beq_false_of_ne (by assumption)
  have e193 : (c.kind == 193) = false := beq_false_of_ne (by assumption)
  go_enter Try.func34, Try.ntmps34
  go_wp2_with (first
    | (refine wl_box (C := CV c s) rfl rfl rfl ?_; intro w1 hb1 he1 hx; clear hx; have c0 := cv0 hb1; have c7 := cv7 hb1; have c15 := cv15 hb1; have c17 := cv17 hb1; have c18 := cv18 hb1; have c20 := cv20 hb1)
    | (refine wl_load rfl rowC rfl rfl hb1 rfl ?_))
  go_ret
  exact ⟨rfl, he1⟩
end Tlv
end Go.Proofs.Ytobkgaceallegaa
