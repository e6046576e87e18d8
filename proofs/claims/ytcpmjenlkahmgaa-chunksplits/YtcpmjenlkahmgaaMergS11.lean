/- For any bytes and any kind the law ChunkSplits answers true and leaves its arguments as they were: the first chunk of any bytes, what is behind it, and which kinds there are, are what the document says. Conditions: none. -/
import Derived.Test.YtcpmjenlkahmgaaMergS10
import Derived.Test.YtcpmjenlkahmgaaRows
import Derived.WalkKit
import Derived.ProofKit
import Derived.OpenShut
import Derived.ShutString
import Derived.ChangeOld
import Derived.Below
/- The chapter's example. No condition of its own. -/
namespace Go.Proofs.Ytcpmjenlkahmgaa
namespace Tlv
open Go Go.RowKit
set_option linter.unusedVariables false
set_option linter.unusedSimpArgs false
set_option maxRecDepth 100000


theorem ckNil (w : World) (k : Int) : CkAt w sv0 (ck0 k) := (OwnC.nil w 0 k).at
theorem fit11 : Fit (ck0 11) := fit0 (k := 11) (by decide)
theorem good11 : goodB (ck0 11) = true := by decide
theorem exB11 : bytesB (ck0 11) = [11, 0, 0, 4] := by decide
theorem exS11 : strOf [11, 0, 0, 4] = ⟨#[11, 0, 0, 4]⟩ := by decide
theorem hdK11 : hdK [11, 0, 0, 4] = 11 := by decide
theorem bytes_lit (w : World) (l : List Nat) (n c : Nat) (hn : n = w.heap.size) (hl : c = l.length) (h1 : AllB l) (hm : l.length ≤ 1000) (C : Array Value) (hC : C = (cellsB l).toArray) : BytesAt (w.alloc (.cells C 5)) (.slice (some ⟨n, 0, none⟩) c c) l := by
  subst hl
  exact (OwnB.made (w := w) (base := 0) (e := 5) C l hn (Nat.zero_le _) rfl (by unfold maxLen; omega) h1 hC).bytes
set_option maxHeartbeats 4000000 in
theorem alive_any (w : World) : Calls Try.prog 7 #[] w fun e w' => e = .returned (.bool true) ∧ Ext w w' := by
  go_enter Try.func7, Try.ntmps7
  go_wp2_with (first
    | (go_at_call 10; refine (bytesC_any (c := ck0 11) (s := sv0) (ckNil _ _) fit11).mono ?_; rintro e w1 ⟨he1, ⟨hgf, rfl⟩ | ⟨hgt, az, nz, cz, rfl, hnz, hoz0⟩⟩
       · exact absurd (hgf.symm.trans good11) (by decide)
       have hoz : OB w1 w.heap.size (.slice az nz cz) [11, 0, 0, 4] := by rw [← exB11]; exact hoz0
       clear hnz hoz0)
    | (go_at_call 17; refine (readC_of (d := ck0 11) (bytes_lit w1 [11, 0, 0, 4] _ _ rfl rfl (by decide) (by decide) _ rfl) (by decide) (fun w0 w' q h => by rw [hdK11] at h; exact valueR_no h (by decide) (by decide) (by decide) (by decide) (by decide) (by decide) (by decide) (by decide) (by decide) (by decide) (by decide) (by decide) (by decide))).mono ?_; rintro e w2 ⟨he2, ⟨hg2, hb2, hf2, s2, rfl, hc2⟩ | ⟨hno, rfl⟩⟩
       rotate_left
       · exact absurd ⟨good11, exB11⟩ hno)
    | (refine wl_alloc rfl rfl zeroC ?_; intro w3 hb3 he3 hx; clear hx)
    | (refine wl_store (D := CV (ck0 11) s2) rfl rowC rfl rfl rfl hb3 rfl rfl (CV.one _ _) ?_; intro w4 hb4 hk4 hx; clear hx; have HE4 : Hid (Ext w w4) := ((he1.trans ((Ext.alloc _ _).trans he2)).trans he3).of_but hk4 (fun k e => by subst e; exact Nat.le_trans he1.size ((Ext.alloc _ _).trans he2).size); have c0 : w4.cell? ⟨w2.heap.size, 0, none⟩ = some (.int .i64 11) := cv0 hb4; have hs1 := run_string_bytes byteT strT w4 (.slice az nz cz) [11, 0, 0, 4] (bytes_but (hoz.bytes.ext (((Ext.alloc _ _).trans he2).trans he3)) hk4 (fun k hk e => by subst e; have h1 := (hoz.lt hk).2; have h2 := ((Ext.alloc w1 _).trans he2).size; omega)); rw [exS11] at hs1))
  go_ret
  exact ⟨rfl, HE4.out⟩
end Tlv
end Go.Proofs.Ytcpmjenlkahmgaa

/- One byte of the own stored. No condition of its own. -/
namespace Go.Proofs.Ytcpmjenlkahmgaa
namespace Tlv
open Go Go.RowKit
set_option linter.unusedVariables false
set_option linter.unusedSimpArgs false
set_option maxRecDepth 100000
/-- One byte of the own stored. -/
theorem wl_poke {w : World} {ops : Array Oper} {rest : List Oper} {o : Oper} {a : Act} {Q : Exit → Act → World → Prop} (hgd : o.guard = none) {x y : Operand} {base q j n c z : Nat} {m : List Nat} (ho : o.op = .store 5 x y) (hx : a.eval x = .pointer (some ⟨q, j, none⟩)) (hy : a.eval y = .int .u8 (z : Int)) (hz : z < 256) (hm : OB w base (.slice (some ⟨q, 0, none⟩) n c) m) (hj : j < m.length)
    (h : ∀ w', OB w' base (.slice (some ⟨q, 0, none⟩) n c) (m.set j z) → KeepBut (· = q) w w' → wpList Try.prog ops Q rest (a.put o.dst undef) w') : wpList Try.prog ops Q (o :: rest) a w := by
  obtain ⟨h1, h2⟩ := hm.own.stored j (z : Int)
  rcases hm.own.1.2 with ⟨e1, _⟩ | ⟨g', cap, cur, e1, hb, hg, hnc, hcm, hcs, _⟩
  · cases e1
  · simp only [Value.slice.injEq, Option.some.injEq, Addr.mk.injEq, and_true] at e1
    obtain ⟨rfl, e2, rfl⟩ := e1
    rw [ci_len] at hnc
    refine wpList_of_skip hgd (exec_set one5 ho hx hy rfl rfl (C := cur) (T := 5) hg (by rw [hcs]; omega)) (h _ ⟨?_, ?_⟩ ⟨h2.os, h2.tape, h2.output, h2.size, fun k hk hn => h2.block k hk (by simpa using hn)⟩)
    · have : ci (m.set j z) = (ci m).set j (z : Int) := by simp [ci, List.map_set]
      rw [this]; exact h1
    · intro x hx
      rcases List.mem_or_eq_of_mem_set hx with h' | h'
      · exact hm.all x h'
      · omega
theorem OB.some_of {w : World} {base : Nat} {a : Option Addr} {n c : Nat} {l : List Nat} (h : OB w base (.slice a n c) l) (hn : 0 < n) : ∃ q, a = some ⟨q, 0, none⟩ ∧ n = l.length := by
  obtain ⟨a', c', e⟩ := h.form
  simp only [Value.slice.injEq] at e
  obtain ⟨x, y, e2, h1, h2⟩ := h.own.slice
  simp only [Value.slice.injEq] at e2
  obtain ⟨rfl, e3, rfl⟩ := e2
  cases ha : a with
  | none =>
    have := (h1 ha).1
    rw [e3, this] at hn
    simp at hn
  | some z =>
    obtain ⟨q, rfl, _⟩ := h2 z ha
    exact ⟨q, rfl, e.2.1⟩
theorem OB.cellAt {w : World} {base q n c : Nat} {l : List Nat} (h : OB w base (.slice (some ⟨q, 0, none⟩) n c) l) (j : Nat) (hj : j < l.length) : w.cell? ⟨q, j, none⟩ = some (.int .u8 (l.getD j 0 : Nat)) := by
  obtain ⟨_, _, e, _, hc⟩ := h.bytes.form
  obtain ⟨b, off, e2, hc'⟩ := hc j hj
  simp only [Value.slice.injEq] at e
  rw [← e.1] at e2
  cases e2
  simpa using hc'
theorem plus8 (b : Nat) (h : b < 256) : ∃ z : Nat, z < 256 ∧ IntKind.u8.wrap ((b : Int) + 1) = (z : Int) ∧ ((b : Int) + 1) % 256 = (z : Int) := by
  refine ⟨(b + 1) % 256, by omega, ?_, by omega⟩
  rw [IntKind.wrap_u8]; omega
end Tlv
end Go.Proofs.Ytcpmjenlkahmgaa

/- The law ChunkSplits, walked. No condition of its own. -/
namespace Go.Proofs.Ytcpmjenlkahmgaa
namespace Tlv
open Go Go.RowKit
set_option linter.unusedVariables false
set_option linter.unusedSimpArgs false
set_option maxRecDepth 100000


theorem assert4 (W : World) : (Instr.typeAssert (.iface 49 (.int .i64 4)) 41 49 true).run Try.prog W = .ok (.tuple #[.int .i64 4, .bool true]) W := by kernel_rfl
theorem errNum_4 (w : World) : Calls Try.prog 21 #[.iface 49 (.int .i64 4)] w fun e w' => e = .returned (.int .i64 4) ∧ w' = w := by
  have ha := assert4 w
  go_enter Try.func21, Try.ntmps21
  go_wp2
  go_ret
  exact ⟨rfl, rfl⟩
theorem keepMono {S T : Nat → Prop} {a b : World} (h : KeepBut S a b) (hs : ∀ k, S k → T k) : KeepBut T a b := ⟨h.os, h.tape, h.output, h.size, fun k hk hn => h.block k hk (fun e => hn (hs k e))⟩
theorem strOf_nil : strOf [] = ByteArray.empty := by decide
set_option maxHeartbeats 16000000 in
theorem splits_walk (kd : Int) (B : List Nat) {w : World} {v : Value} (hv : BytesAt w v B) :
    Calls Try.prog 5 #[v, .int .i64 kd] w fun e w' => e = .returned (.bool true) ∧ Ext w w' := by
  obtain ⟨a0, c0, rfl, hmx, _⟩ := hv.form
  rename_i z1
  clear z1
  obtain ⟨n, hn⟩ : ∃ n, n = B.length := ⟨_, rfl⟩
  rw [← hn] at hv ⊢
  have HV : Hid (BytesAt w (.slice a0 n c0) B ∧ n = B.length) := ⟨hv, hn⟩
  have hm2 := (bytes_len hv).2
  unfold maxLen at hm2
  clear hv hn hmx
  by_cases hbig : 3000 < n
  · have hd : decide ((n : Int) > 3000) = true := decide_eq_true (by omega)
    go_enter Try.func5, Try.ntmps5
    go_wp2_with (first
      | (go_at_call 7; refine (alive_any _).mono ?_; rintro e w1 ⟨rfl, he1⟩))
    go_ret
    exact ⟨rfl, he1⟩
  have hd : decide ((n : Int) > 3000) = false := decide_eq_false (by omega)
  have HB3 : Hid (B.length ≤ 1000000) := show _ ≤ _ by rw [← HV.out.2]; omega
  clear hbig hm2
  have HS0 : ∀ w9, Ext w w9 → (convert 24 9 (.slice a0 n c0)).run Try.prog w9 = .ok (.string (strOf B)) w9 := fun w9 h => run_string_bytes byteT strT w9 _ _ (HV.out.1.ext h)
  have hkn : (knB kd == knB kd) = true := by simp
  by_cases hB0 : B = []
  · have hokf : Hid (okC B = false) := show _ = _ by rw [hB0]; decide
    have HB0 : Hid (B = []) := hB0
    clear hB0
    go_enter Try.func5, Try.ntmps5
    go_wp2_with (first
      | (go_at_call 7; refine (alive_any _).mono ?_; rintro e w1 ⟨rfl, he1⟩)
      | (at_builtin; refine wl_app (l := []) (m := B) rfl rfl rfl rfl (OB.lit0 w1 w1.heap.size _ rfl (Nat.le_refl _)) (HV.out.1.ext (he1.trans (Ext.alloc _ _))) (by have := HB3.out; simp; omega) (by simp) ?_; intro a2 n2 c2 w2 hn2 ho2 hk2 hg2; rw [List.nil_append] at ho2; have HE2 : Hid (Ext w w2 ∧ OB w2 w1.heap.size (.slice a2 n2 c2) B) := ⟨he1.trans (Ext.of_but (Ext.alloc _ _) hk2 (fun k e => by cases e; exact Nat.le_refl _)), ho2⟩; clear hn2 hk2 hg2 ho2)
      | (go_at_call 19; refine (split_any HE2.out.2.bytes HB3.out).mono ?_; rintro e w3 ⟨he3, ⟨hx, rfl⟩ | ⟨hx, hy, rfl⟩ | ⟨hx, sa, sn, sc, ra, rn, rc, rfl, hoa, hob⟩⟩
         rotate_left
         · exact absurd HB0.out hx
         · exact absurd (hx.symm.trans hokf.out) (by decide))
      | (go_at_call 20; refine (refSplit_any (HV.out.1.ext (HE2.out.1.trans he3)) HB3.out).mono ?_; rintro e w4 ⟨he4, ⟨hx2, rfl⟩ | ⟨hx2, hy2, rfl⟩ | ⟨hx2, ta, tn, tc, ua, un, uc, rfl, hta, hua⟩⟩
         rotate_left
         · exact absurd HB0.out hx2
         · exact absurd (hx2.symm.trans hokf.out) (by decide)
         have hsn := run_string_bytes byteT strT w4 (.slice none 0 0) [] (BytesAt.none _))
      | (go_at_call 21; refine (errNum_4 _).mono ?_; rintro e w5 ⟨rfl, hw5⟩; subst w5)
      | (go_at_call 22; refine (known_any _ _).mono ?_; rintro e w6 ⟨rfl, he6⟩)
      | (go_at_call 23; refine (refKnown_any _ _).mono ?_; rintro e w7 ⟨rfl, he7⟩))
    have HE7 : Hid (Ext w2 w7) := (((he3.trans he4).trans he6).trans he7)
    go_loopg [69] 0 (fun gm t wr => gm = 0 ∧ t = .int .i64 0 ∧ wr = w7)
    case atStart => exact ⟨rfl, rfl, rfl⟩
    case round =>
      obtain ⟨hg, rfl, hw⟩ := hrel
      subst wr
      have hs8 := HS0 w7 (HE2.out.1.trans HE7.out)
      have hs9 := run_string_bytes byteT strT w7 (.slice a2 n2 c2) B (HE2.out.2.bytes.ext HE7.out)
      go_wp2
      go_ret
      exact ⟨rfl, HE2.out.1.trans HE7.out⟩
  cases hok : okC B with
  | false =>
    go_enter Try.func5, Try.ntmps5
    go_wp2_with (first
      | (go_at_call 7; refine (alive_any _).mono ?_; rintro e w1 ⟨rfl, he1⟩)
      | (at_builtin; refine wl_app (l := []) (m := B) rfl rfl rfl rfl (OB.lit0 w1 w1.heap.size _ rfl (Nat.le_refl _)) (HV.out.1.ext (he1.trans (Ext.alloc _ _))) (by have := HB3.out; simp; omega) (by simp) ?_; intro a2 n2 c2 w2 hn2 ho2 hk2 hg2; rw [List.nil_append] at ho2; have HE2 : Hid (Ext w w2 ∧ OB w2 w1.heap.size (.slice a2 n2 c2) B) := ⟨he1.trans (Ext.of_but (Ext.alloc _ _) hk2 (fun k e => by cases e; exact Nat.le_refl _)), ho2⟩; clear hn2 hk2 hg2 ho2)
      | (go_at_call 19; refine (split_any HE2.out.2.bytes HB3.out).mono ?_; rintro e w3 ⟨he3, ⟨hx, rfl⟩ | ⟨hx, hy, rfl⟩ | ⟨hx, sa, sn, sc, ra, rn, rc, rfl, hoa, hob⟩⟩
         · exact absurd hx hB0
         rotate_left
         · exact absurd (hx.symm.trans hok) (by decide))
      | (go_at_call 20; refine (refSplit_any (HV.out.1.ext (HE2.out.1.trans he3)) HB3.out).mono ?_; rintro e w4 ⟨he4, ⟨hx2, rfl⟩ | ⟨hx2, hy2, rfl⟩ | ⟨hx2, ta, tn, tc, ua, un, uc, rfl, hta, hua⟩⟩
         · exact absurd hx2 hB0
         rotate_left
         · exact absurd (hx2.symm.trans hok) (by decide)
         have hsn := run_string_bytes byteT strT w4 (.slice none 0 0) [] (BytesAt.none _))
      | (go_at_call 21; refine (errNum_f _).mono ?_; rintro e w5 ⟨rfl, hw5⟩; subst w5)
      | (go_at_call 22; refine (known_any _ _).mono ?_; rintro e w6 ⟨rfl, he6⟩)
      | (go_at_call 23; refine (refKnown_any _ _).mono ?_; rintro e w7 ⟨rfl, he7⟩))
    have HE7 : Hid (Ext w2 w7) := (((he3.trans he4).trans he6).trans he7)
    go_loopg [69] 0 (fun gm t wr => gm = 0 ∧ t = .int .i64 0 ∧ wr = w7)
    case atStart => exact ⟨rfl, rfl, rfl⟩
    case round =>
      obtain ⟨hg, rfl, hw⟩ := hrel
      subst wr
      have hs8 := HS0 w7 (HE2.out.1.trans HE7.out)
      have hs9 := run_string_bytes byteT strT w7 (.slice a2 n2 c2) B (HE2.out.2.bytes.ext HE7.out)
      go_wp2
      go_ret
      exact ⟨rfl, HE2.out.1.trans HE7.out⟩
  | true =>
    go_enter Try.func5, Try.ntmps5
    go_wp2_with (first
      | (go_at_call 7; refine (alive_any _).mono ?_; rintro e w1 ⟨rfl, he1⟩)
      | (at_builtin; refine wl_app (l := []) (m := B) rfl rfl rfl rfl (OB.lit0 w1 w1.heap.size _ rfl (Nat.le_refl _)) (HV.out.1.ext (he1.trans (Ext.alloc _ _))) (by have := HB3.out; simp; omega) (by simp) ?_; intro a2 n2 c2 w2 hn2 ho2 hk2 hg2; rw [List.nil_append] at ho2; have HE2 : Hid (Ext w w2 ∧ OB w2 w1.heap.size (.slice a2 n2 c2) B) := ⟨he1.trans (Ext.of_but (Ext.alloc _ _) hk2 (fun k e => by cases e; exact Nat.le_refl _)), ho2⟩; clear hn2 hk2 hg2 ho2)
      | (go_at_call 19; refine (split_any HE2.out.2.bytes HB3.out).mono ?_; rintro e w3 ⟨he3, ⟨hx, rfl⟩ | ⟨hx, hy, rfl⟩ | ⟨hx, sa, sn, sc, ra, rn, rc, rfl, hoa, hob⟩⟩
         · exact absurd hx hB0
         · exact absurd (hy.symm.trans hok) (by decide)
         rotate_left)
      | (go_at_call 20; refine (refSplit_any (HV.out.1.ext (HE2.out.1.trans he3)) HB3.out).mono ?_; rintro e w4 ⟨he4, ⟨hx2, rfl⟩ | ⟨hx2, hy2, rfl⟩ | ⟨hx2, ta, tn, tc, ua, un, uc, rfl, hta, hua⟩⟩
         · exact absurd hx2 hB0
         · exact absurd (hy2.symm.trans hok) (by decide)
         rotate_left
         have hs1 := run_string_bytes byteT strT w4 (.slice sa sn sc) _ (hoa.bytes.ext he4)
         have hs2 := run_string_bytes byteT strT w4 (.slice ta tn tc) _ hta
         have hs3 := run_string_bytes byteT strT w4 (.slice ra rn rc) _ (hob.bytes.ext he4)
         have hs4 := run_string_bytes byteT strT w4 (.slice ua un uc) _ hua)
      | (go_at_call 21; refine (errNum_0 _).mono ?_; rintro e w5 ⟨rfl, hw5⟩; subst w5)
      | (go_at_call 22; refine (known_any _ _).mono ?_; rintro e w6 ⟨rfl, he6⟩)
      | (go_at_call 23; refine (refKnown_any _ _).mono ?_; rintro e w7 ⟨rfl, he7⟩))
    have HE7 : Hid (Ext w2 w7) := (((he3.trans he4).trans he6).trans he7)
    have HO7 : Hid (OB w7 w2.heap.size (.slice sa sn sc) (B.take (allP B)) ∧ sn ≤ 1000000) := ⟨((hoa.ext he4).ext he6).ext he7, by
      have h1 := (bytes_len hoa.bytes).1
      have h2 := HB3.out
      rw [List.length_take] at h1; omega⟩
    have hsn6 := HO7.out.2
    clear hs1 hs2 hs3 hs4 hoa hob hta hua
    go_loopg [69] sn (fun gm t wr => ∃ (k : Nat) (m1 : List Nat), k ≤ sn ∧ gm = sn - k ∧ t = .int .i64 (k : Int) ∧ Hid (m1.length = sn ∧ OB wr w2.heap.size (.slice sa sn sc) m1 ∧ KeepBut (fun g => w2.heap.size ≤ g) w7 wr))
    case atStart => exact ⟨0, _, Nat.zero_le _, rfl, rfl, ((bytes_len HO7.out.1.bytes).1).symm, HO7.out.1, KeepBut.refl _ _⟩
    case round =>
      obtain ⟨k, m1, hk, rfl, rfl, HR2⟩ := hrel
      by_cases hlt2 : k < sn
      · have hd2 : decide ((k : Int) < (sn : Int)) = true := decide_eq_true (by omega)
        obtain ⟨q, rfl, hzz⟩ := HR2.out.2.1.some_of (by omega)
        clear hzz
        have hcq := HR2.out.2.1.cellAt k (by rw [HR2.out.1]; exact hlt2)
        obtain ⟨z, hz, hw1, hw2⟩ := plus8 _ (HR2.out.2.1.all.getD k)
        generalize m1.getD k 0 = y at *
        go_wp2_with (first
          | (refine wl_poke (z := z) (m := m1) (q := q) (j := k) rfl rfl (by first | rfl | go_simp) (by first | rfl | go_simp | simp [go_sem, hw1, hw2]) hz HR2.out.2.1 (by rw [HR2.out.1]; exact hlt2) ?_; intro w8 ho8 hk8))
        go_roundg (sn - (k + 1))
        case measure => omega
        case rel => exact ⟨k + 1, _, by omega, rfl, by simp, by rw [List.length_set]; exact HR2.out.1, ho8, HR2.out.2.2.trans (keepMono hk8 (fun g e => by subst e; exact (HR2.out.2.1.lt rfl).1))⟩
      · have hd2 : decide ((k : Int) < (sn : Int)) = false := decide_eq_false (by omega)
        have HX : Hid (Ext w wr) := (HE2.out.1.trans HE7.out).of_but HR2.out.2.2 (fun g e => Nat.le_trans HE2.out.1.size e)
        have hs8 := HS0 wr HX.out
        have hs9 := run_string_bytes byteT strT wr (.slice a2 n2 c2) B (bytes_but (HE2.out.2.bytes.ext HE7.out) HR2.out.2.2 (fun g hg e => by have := (HE2.out.2.lt hg).2; omega))
        go_wp2
        go_ret
        exact ⟨rfl, HX.out⟩
end Tlv
end Go.Proofs.Ytcpmjenlkahmgaa

namespace Go.Proofs.Ytcpmjenlkahmgaa
open Go.ChangeShapes Go.WideShapes Go.ChangeAt Go.RowKit
open Go.ChangeMaps (open_string shut_string)
set_option linter.unusedVariables false
set_option linter.unusedSimpArgs false

theorem chunkSplitsOwn : ownKnob Try.prog.godebug = none := by kernel_rfl
theorem chunkSplitsLaidOut : laidOutB Try.prog = true := by kernel_rfl
set_option maxRecDepth 100000 in
theorem chunkSplitsLifted (os : Os) (started : os.Started) (H : Type) (enc : TypeId × Value → H) :
    ReturnsInHanded {} Try.checked os 5 .any (Rows.chunkSplitsSpec.pre6 enc Try.prog Try.f5 Rows.chunkSplitsRow.domain false) (Rows.chunkSplitsSpec.post enc Try.prog Try.f5 false true false false) := by
  refine returnsInHanded_of_change (C := Try.checked) chunkSplitsOwn started (by kernel_rfl) Try.func5
    (ChangeSpec.witness6 (enc := enc) (C := Try.checked) false ⟨#[], #[.slice none 0 0, .int .i64 0], []⟩ 8 (by kernel_rfl) (by kernel_rfl) (by kernel_rfl) (by kernel_rfl)) ?_
  intro W base args ds gs before hval0 hW hcnd _
  have hval : ∀ (j : Nat) t v, Try.f5.params[j]? = some t → args[j]? = some v → Value.okWide Try.prog W .any base t v := hval0
  have hW' := hW
  obtain ⟨p, q, hA0, hV, rfl, hfz, hnd⟩ := hW
  have hA : DataW.TrodAll enc Try.prog W 0 (fun _ => true) true Try.f5.params.toList args.toList ds p := hA0
  rw [Try.params5] at hA hval
  obtain ⟨v0, vs0, d0, ds0, p0, q0, hargs, rfl, rfl, h0, r0⟩ := trodAll_cons hA
  obtain ⟨v1, vs1, d1, ds1, p1, q1, rfl, rfl, rfl, h1, r1⟩ := trodAll_cons r0
  obtain ⟨rfl, rfl, rfl⟩ := trodAll_nil r1
  obtain rfl : args = #[v0, v1] := by cases args; simp_all
  obtain ⟨rfl, rfl⟩ := trodVars_none hV
  have k0 := h0
  have lt0 : ∀ x ∈ p0, x.block < W.heap.size := by obtain ⟨m, hm⟩ := k0; exact DataW.trod_lt m _ _ _ hm
  obtain ⟨a0, len0, cap0, rfl⟩ := okWide_slice Try.underlying24 (hval 0 24 v0 rfl rfl)
  obtain ⟨l0, w0⟩ : ∃ l, BytesAt W (.slice a0 len0 cap0) l := by
    obtain ⟨fuel, hf⟩ := h0
    rcases open_ints Try.underlying24 Try.underlying5 (by kernel_rfl) hf with ⟨hcs, _⟩ | ⟨x, l, c, zs, hcs, _, hl, hm, hz, _, hcell, hwz⟩
    · simp [Value.cells] at hcs
      obtain ⟨rfl, rfl, rfl⟩ := hcs
      exact ⟨[], BytesAt.none _⟩
    · simp [Value.cells] at hcs
      obtain ⟨rfl, rfl, rfl⟩ := hcs
      exact ⟨_, BytesAt.of_row hl hm (by simpa using hz) hcell hwz⟩
  obtain ⟨a1, rfl, rfl, rfl, w1⟩ := open_int Try.underlying3 (hval 1 3 v1 rfl rfl) h1
  clear hA0 hval0
  refine (Tlv.splits_walk a1 l0 w0).mono fun e W' ⟨he, bel⟩ => ?_
  subst he
  exact ⟨_, rfl, _, _, _, [], _, [], hW', trodAll_mk1 (shut_bool Try.underlying4 _), (trodAll_cons_mk (Below.trod chunkSplitsLaidOut (by kernel_rfl) (of_decide_eq_true (by kernel_rfl)) k0 bel lt0) (trodAll_cons_mk (shut_int Try.underlying3 w1) (trodAll_mk0))), rfl, bel.frame _, fun h => by cases h⟩

theorem chunkSplitsOver : Rows.chunkSplitsRow.holds Try.pinned (OpenSpec.ofChange Rows.chunkSplitsSpec) :=
  OpenClaim.holds_of_wide 5 Try.f5 rfl rfl rfl rfl rfl rfl rfl ⟨rfl, rfl, rfl, rfl, rfl⟩ rfl rfl rfl rfl rfl (by kernel_rfl) Try.func5 (by kernel_rfl)
    (of_decide_eq_true (by kernel_rfl)) (by unfold Func.isWrapper; first | (rw [if_pos (by decide +kernel)]; kernel_rfl) | (rw [if_neg (by decide +kernel)]; exact ⟨rfl, rfl⟩))
    (fun os started H enc _ => chunkSplitsLifted os started H enc)

/-- THE STATEMENT. -/
theorem chunkSplits_holds : Rows.ChunkSplitsSaid := chunkSplitsOver
#print axioms chunkSplits_holds
end Go.Proofs.Ytcpmjenlkahmgaa
