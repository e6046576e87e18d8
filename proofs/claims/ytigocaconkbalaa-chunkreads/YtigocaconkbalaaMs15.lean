/- For any bytes the law ChunkReads answers true and leaves its arguments as they were: which bytes are a chunk's, and which chunk, is what the document says; what was read has those bytes again. Conditions: none. -/
import Derived.Test.YtigocaconkbalaaMs14
import Derived.Test.YtigocaconkbalaaRows
import Derived.WalkKit
import Derived.ProofKit
import Derived.OpenShut
import Derived.ShutString
import Derived.ChangeOld
import Derived.Below
set_option linter.unusedVariables false
set_option linter.unusedSimpArgs false
set_option maxHeartbeats 32000000
set_option maxRecDepth 100000
namespace Go.Proofs.Ytigocaconkbalaa
namespace Tlv
open Go Go.RowKit
theorem bytesB_par {c : Ck} (hk : c.kind.toNat < 256) (hF : flagN c.pb c.pe c.pu < 256) : bytesB c = parB (((c.kind.toNat * 256 + flagN c.pb c.pe c.pu : Nat) : Int), valB c) := by
 unfold bytesB parB
 rw [be_one hk, be_one hF]
 show _ = be ((c.kind.toNat * 256 + flagN c.pb c.pe c.pu : Nat) : Int).toNat 2 ++ be ((valB c).length + 4) 2 ++ padB (valB c)
 rw [Int.toNat_natCast, be2_of hk hF, padB_app (by simp [be_len])]
 simp
theorem kind_nat {c : Ck} (h : GoodC c) : c.kind = ((c.kind.toNat : Nat) : Int) ∧ c.kind.toNat < 256 := by rcases knB_cases h.kn with hk | hk | hk | hk | hk | hk | hk | hk | hk | hk | hk | hk | hk | hk | hk | hk <;> rw [hk] <;> decide
theorem flag_nat (c : Ck) : flagN c.pb c.pe c.pu < 256 := by cases c.pb <;> cases c.pe <;> cases c.pu <;> decide
theorem docReadV_some {B : List Nat} {d : Ck} (hB : AllB B) (hl : B.length ≤ 4000) (h : docReadV B = some d) (g : goodB d = true) : bytesB d = B ∧ Fit d := by
 have G := (goodB_iff d).1 g
 unfold docReadV at h
 by_cases hc : okC B = true ∧ B.length ≤ allP B ∧ knB ((B.getD 0 0 : Nat) : Int) = true
 ·
  rw [if_pos hc] at h
  have R := docRd_sound (fun x hx => hB x (List.mem_of_mem_take (List.mem_of_mem_drop hx))) hc.2.2 h G
  have ho := (okC_iff B).1 hc.1
  have hle : lenP B ≤ allP B := by unfold allP; omega
  have hp : okP B = true := (okP_iff B).2 ⟨ho.1, ho.2.1, by have := ho.2.2.1; omega, ho.2.2.1, ho.2.2.2⟩
  have h2 := (par_of hB hp).2.2
  rw [List.drop_eq_nil_of_le hc.2.1, List.append_nil] at h2
  refine ⟨?_, R.fit⟩
  rw [bytesB_par (kind_nat G).2 (flag_nat d), R.val, R.flags, R.kind, Int.toNat_natCast]
  exact h2.symm
 ·
  rw [if_neg hc] at h; cases h
theorem docReadV_done {B : List Nat} {d : Ck} (g : goodB d = true) (hf : Fit d) (hb : bytesB d = B) : docReadV B = some d := by
 have G := (goodB_iff d).1 g
 have hk := kind_nat G
 have hF := flag_nat d
 have hl := valB_len G
 have e := bytesB_par hk.2 hF
 have hg : goodP (((d.kind.toNat * 256 + flagN d.pb d.pe d.pu : Nat) : Int), valB d) = true := (goodP_iff _).2 ⟨by show (0 : Int) ≤ ((_ : Nat) : Int); omega, by show ((_ : Nat) : Int) ≤ 65535; omega, by show (valB d).length ≤ 4000; omega⟩
 obtain ⟨h1, h2, h3⟩ := read_par hg []
 rw [List.append_nil, ← e, hb] at h1 h2 h3
 have ho := (okP_iff B).1 h1
 obtain ⟨k1, k2, k3⟩ := hd_bytes (B := B) (V := valB d) (by rw [← hb]; rfl) hk.2 hF (by omega)
 obtain ⟨q1, q2, _, _⟩ := hd_four ho.1
 have e0 : B.getD 0 0 = d.kind.toNat := by rw [← q1, k1]
 have e1 : B.getD 1 0 = flagN d.pb d.pe d.pu := by rw [← q2, k2]
 have e2 : (B.take (lenP B)).drop 4 = valB d := congrArg Prod.snd h2
 have kn : knB ((B.getD 0 0 : Nat) : Int) = true := by rw [e0, ← hk.1]; exact G.kn
 have hlen : B.length ≤ allP B := Nat.le_of_eq h3.symm
 unfold docReadV
 rw [if_pos ⟨(okC_iff B).2 ⟨ho.1, ho.2.1, ho.2.2.2.1, ho.2.2.2.2⟩, hlen, kn⟩, e0, e1, e2, ← hk.1]
 exact docRd_done G hf
abbrev rdB (B : List Nat) : Ck := rdC (hdK B : Int) (hdF B) (hdV B)
theorem readC_yes {w : World} {v : Value} {B : List Nat} (hv : BytesAt w v B) (hB : B.length ≤ 1000000) (hg : goodB (rdB B) = true ∧ bytesB (rdB B) = B) :
  Calls Try.prog 17 #[v] w fun e w' => Ext w w' ∧ Fit (rdB B) ∧ ∃ s, e = .returned (.tuple #[.agg (CV (rdB B) s), .nilIface]) ∧ CkAt w' s (rdB B) := by
 refine (readC_any hv hB).mono fun e w' h => ?_
 obtain ⟨he, ⟨_, _, hf, s, h1, h2⟩ | ⟨h, _⟩⟩ := h
 ·
  exact ⟨he, hf, s, h1, h2⟩
 ·
  exact absurd hg h
theorem readC_no {w : World} {v : Value} {B : List Nat} (hv : BytesAt w v B) (hB : B.length ≤ 1000000) (hg : ¬ (goodB (rdB B) = true ∧ bytesB (rdB B) = B)) :
  Calls Try.prog 17 #[v] w fun e w' => Ext w w' ∧ e = .returned (.tuple #[.agg (CV (ck0 0) sv0), errF]) := by
 refine (readC_any hv hB).mono fun e w' h => ?_
 obtain ⟨he, ⟨h1, h2, _⟩ | ⟨_, h⟩⟩ := h
 ·
  exact absurd ⟨h1, h2⟩ hg
 ·
  exact ⟨he, h⟩
theorem docRead_yes {w : World} {v : Value} {B : List Nat} (hv : BytesAt w v B) (hB : B.length ≤ 4000) (hg : goodB (rdB B) = true ∧ bytesB (rdB B) = B) (hf : Fit (rdB B)) :
  Calls Try.prog 18 #[v] w fun e w' => Ext w w' ∧ ∃ z, e = .returned (.tuple #[.agg (CV (rdB B) z), .bool true]) ∧ CkAt w' z (rdB B) := by
 refine (docRead_any hv (by omega)).mono fun e w' h => ?_
 have hd := docReadV_done hg.1 hf hg.2
 obtain ⟨he, d, z, b, h1, h2, ⟨rfl, h3, h4⟩ | ⟨rfl, rfl, rfl, h3⟩⟩ := h
 ·
  rw [hd] at h3
  cases h3
  exact ⟨he, z, h1, h2⟩
 ·
  have := h3 _ hd
  rw [hg.1] at this
  cases this
theorem docRead_no {w : World} {v : Value} {B : List Nat} (hv : BytesAt w v B) (hB : B.length ≤ 4000) (hg : ¬ (goodB (rdB B) = true ∧ bytesB (rdB B) = B)) :
  Calls Try.prog 18 #[v] w fun e w' => Ext w w' ∧ e = .returned (.tuple #[.agg (CV (ck0 0) sv0), .bool false]) := by
 refine (docRead_any hv (by omega)).mono fun e w' h => ?_
 obtain ⟨he, d, z, b, h1, h2, ⟨rfl, h3, h4⟩ | ⟨rfl, rfl, rfl, h3⟩⟩ := h
 ·
  obtain ⟨h5, h6⟩ := docReadV_some hv.1 hB h3 h4
  have h7 : rdB B = d := rd_bytes ((goodB_iff d).1 h4) h6 h5
  exact absurd ⟨by rw [h7]; exact h4, by rw [h7]; exact h5⟩ hg
 ·
  exact ⟨he, h1⟩
theorem ckNil (w : World) (k : Int) : CkAt w sv0 (ck0 k) := (OwnC.nil w 0 k).at
theorem fit11 : Fit (ck0 11) := fit0 (k := 11) (by decide)
theorem good11 : goodB (ck0 11) = true := by decide
theorem exB11 : bytesB (ck0 11) = [11, 0, 0, 4] := by decide
theorem exS11 : strOf [11, 0, 0, 4] = ⟨#[11, 0, 0, 4]⟩ := by decide
theorem hdK11 : hdK [11, 0, 0, 4] = 11 := by decide
theorem bytes_lit (w : World) (l : List Nat) (n c : Nat) (hn : n = w.heap.size) (hl : c = l.length) (h1 : AllB l) (hm : l.length ≤ 1000) (C : Array Value) (hC : C = (cellsB l).toArray) : BytesAt (w.alloc (.cells C 5)) (.slice (some ⟨n, 0, none⟩) c c) l := by
 subst hl
 exact (OwnB.made (w := w) (base := 0) (e := 5) C l hn (Nat.zero_le _) rfl (by unfold maxLen; omega) h1 hC).bytes
theorem alive_any (w : World) : Calls Try.prog 7 #[] w fun e w' => e = .returned (.bool true) ∧ Ext w w' := by
 go_enter Try.func7, Try.ntmps7
 go_wp2_with (first
  | (go_at_call 10; refine (bytesC_any (c := ck0 11) (s := sv0) (ckNil _ _) fit11).mono ?_; rintro e w1 ⟨he1, ⟨hgf, rfl⟩ | ⟨hgt, az, nz, cz, rfl, hnz, hoz0⟩⟩
     · exact absurd (hgf.symm.trans good11) (by decide)
     have hoz : OB w1 w.heap.size (.slice az nz cz) [11, 0, 0, 4] := by rw [← exB11]; exact hoz0
     clear hnz hoz0)
  | (go_at_call 17; refine (readC_of (d := ck0 11) (bytes_lit w1 [11, 0, 0, 4] _ _ rfl rfl (by decide) (by decide) _ rfl) (by decide) (fun w0 w' q h => by rw [hdK11] at h; exact valueR_no h (by decide) (by decide) (by decide) (by decide) (by decide) (by decide) (by decide) (by decide) (by decide) (by decide) (by decide) (by decide) (by decide))).mono ?_; rintro e w2 ⟨he2, ⟨hg2, hb2, hf2, s2, rfl, hc2⟩ | ⟨hno, rfl⟩⟩
     rotate_left
     · exact absurd ⟨good11, exB11⟩ hno)
  | (refine wl_alloc rfl rfl zeroC ?_; intro w3 hb3 he3 hx; clear hx)
  | (refine wl_store (D := CV (ck0 11) s2) rfl rowC rfl rfl rfl hb3 rfl rfl (CV.one _ _) ?_; intro w4 hb4 hk4 hx; clear hx; have HE4 : Hid (Ext w w4) := ((he1.trans ((Ext.alloc _ _).trans he2)).trans he3).of_but hk4 (fun k e => by subst e; exact Nat.le_trans he1.size ((Ext.alloc _ _).trans he2).size); have c0 : w4.cell? ⟨w2.heap.size, 0, none⟩ = some (.int .i64 11) := cv0 hb4; have hs1 := run_string_bytes byteT strT w4 (.slice az nz cz) [11, 0, 0, 4] (bytes_but (hoz.bytes.ext (((Ext.alloc _ _).trans he2).trans he3)) hk4 (fun k hk e => by subst e; have h1 := (hoz.lt hk).2; have h2 := ((Ext.alloc w1 _).trans he2).size; omega)); rw [exS11] at hs1))
 go_ret
 exact ⟨rfl, HE4.out⟩
theorem errTR : Try.prog.underlying 41 = some (.interface (Try.prog.methodsAt 41)) := by kernel_rfl
theorem exec_eqlN {r : Operand → Value} {o : Oper} {x : Operand} {tt : TypeId} {w : World} (ho : o.op = .binOp .eql 41 x (.const .nilIface) tt) (hx : r x = .nilIface) (hc : r (.const .nilIface) = .nilIface) : (execOp r o).run Try.prog w = .ok (.value (.bool true)) w := by
 have h2 := run_eql_nil_nil (P := Try.prog) w 41 errTR
 cases x <;> simp [execOp, ho, hx, hc, h2, eqGuard, go_sem]
theorem exec_eqlF {r : Operand → Value} {o : Oper} {x : Operand} {tt : TypeId} {w : World} (ho : o.op = .binOp .eql 41 x (.const .nilIface) tt) (hx : r x = errF) (hc : r (.const .nilIface) = .nilIface) : (execOp r o).run Try.prog w = .ok (.value (.bool false)) w := by
 have h2 := run_eql_held_nil (P := Try.prog) w 41 49 (.int .i64 2) errTR
 simp [execOp, ho, hx, hc, h2, eqGuard, go_sem]
theorem exec_neqR {r : Operand → Value} {o : Oper} {x y : Operand} {tt : TypeId} {w : World} {l : List Nat} (ho : o.op = .binOp .neq 9 x y tt) (hx : r x = .string (strOf l)) (hy : r y = .string (strOf l)) (hl : ∀ x ∈ l, x < 256) :
  (execOp r o).run Try.prog w = .ok (.value (.bool false)) w := by
 have := strOf_beq l l hl hl
 simp [execOp, ho, hx, hy, go_sem, this, bne]
theorem bytes_yesR {w : World} {c : Ck} {s : Sv} (ha : CkAt w s c) (hf : Fit c) (hg : goodB c = true) :
  Calls Try.prog 10 #[.agg (CV c s)] w fun e w' => ∃ a n cp, e = .returned (.tuple #[.slice a n cp, .nilIface]) ∧ BytesAt w' (.slice a n cp) (bytesB c) ∧ Ext w w' := by
 refine (bytesC_any ha hf).mono ?_
 rintro e w' ⟨he, ⟨h, _⟩ | ⟨_, a, n, cp, rfl, h1, h2⟩⟩
 ·
  rw [hg] at h; cases h
 ·
  exact ⟨a, n, cp, rfl, h2.bytes, he⟩
theorem sameTR (c : Ck) : refSameB c c = true := (refSameB_eq c c).trans (sameB_refl c)
theorem small_good {c : Ck} (h : GoodC c) : Small c := by
 have y := (yes_iff c).2 h
 refine ⟨?_, ?_, ?_, ?_, by have := y.gl; omega, by have := y.gl; omega, ?_⟩
 ·
  by_cases hk : c.kind = 0
  ·
   have := y.txt hk; omega
  ·
   have := (y.blank hk).2.2.2.2.2.2; omega
 ·
  by_cases hk : c.kind = 1 ∨ c.kind = 2
  ·
   have := (y.beg hk).2.2.2; omega
  ·
   have := (y.nbeg hk).2.2.2.1; omega
 ·
  by_cases hk : c.kind = 1 ∨ c.kind = 2
  ·
   have := (y.beg hk).2.2.2; omega
  ·
   have := (y.nbeg hk).2.2.2.2; omega
 ·
  by_cases hk : c.kind = 2 ∨ c.kind = 4 ∨ c.kind = 5 ∨ c.kind = 10
  ·
   have := y.i1 hk; omega
  ·
   by_cases h5 : c.kind = 15
   ·
    have := y.i2 h5; omega
   ·
    have := y.i3 hk h5; omega
 ·
  by_cases hk : c.kind = 193
  ·
   have := y.o1 hk; omega
  ·
   have := y.o2 hk; omega
theorem small_0 : Small (ck0 0) := ⟨by decide, by decide, by decide, by decide, by decide, by decide, by decide⟩
theorem reads_walk {w : World} {v : Value} {B : List Nat} (hv : BytesAt w v B) :
  Calls Try.prog 4 #[v] w fun e w' => e = .returned (.bool true) ∧ Ext w w' := by
 obtain ⟨a0, c0, rfl, hmx, _⟩ := hv.form
 rename_i z1
 clear z1
 obtain ⟨n, hn⟩ : ∃ n, n = B.length := ⟨_, rfl⟩
 rw [← hn] at hv ⊢
 have HV : Hid (BytesAt w (.slice a0 n c0) B ∧ n = B.length) := ⟨hv, hn⟩
 have HAB : Hid (∀ x ∈ B, x < 256) := hv.1
 have hm2 := (bytes_len hv).2
 unfold maxLen at hm2
 clear hv hn hmx
 by_cases hbig : 2000 < n
 ·
  have hd : decide ((n : Int) > 2000) = true := decide_eq_true (by omega)
  go_enter Try.func4, Try.ntmps4
  go_wp2_with (first
   | (go_at_call 7; refine (alive_any _).mono ?_; rintro e w1 ⟨rfl, he1⟩))
  go_ret
  exact ⟨rfl, he1⟩
 have hd : decide ((n : Int) > 2000) = false := decide_eq_false (by omega)
 have HB3 : Hid (B.length ≤ 2000) := show _ ≤ _ by rw [← HV.out.2]; omega
 clear hm2
 by_cases hg : goodB (rdB B) = true ∧ bytesB (rdB B) = B
 ·
  have HG : Hid (goodB (rdB B) = true ∧ bytesB (rdB B) = B) := hg
  have HSM : Hid (Small (rdB B)) := small_good ((goodB_iff _).1 hg.1)
  clear hg
  go_enter Try.func4, Try.ntmps4
  go_wp2_with (first
   | (have q_ := HE6; clear q_; refine wl_alloc rfl (by rfl) zeroCd ?_; intro w7 hb7 he7 hx7; clear hx7; refine wl_store (D := CV (rdB B) z) rfl rowC2 (by rfl) (by first | rfl | go_simp) (by first | rfl | go_simp) hb7 (by rfl) (by rfl) (CV.one _ _) ?_; intro w8 hb8 hk8 hx8; clear hx8; have he8 : Ext w6 w8 := he7.of_but hk8 (fun k e => by subst e; exact Nat.le_refl _); have HE8 : Hid (Ext w w8 ∧ BytesAt w8 (.slice a2 n2 c2) B ∧ Fit (rdB B) ∧ CkAt w8 s (rdB B) ∧ Blk w8 w3.heap.size (CV (rdB B) s) 38 ∧ CkAt w8 z (rdB B) ∧ Blk w8 w6.heap.size (CV (rdB B) z) 32) := ⟨HE6.out.1.trans he8, HE6.out.2.1.ext he8, HE6.out.2.2.1, HE6.out.2.2.2.1.ext he8, HE6.out.2.2.2.2.1.ext he8, HE6.out.2.2.2.2.2.ext he8, hb8⟩; clear HE6 he8 hb7 he7 hk8 hb8)
   | (go_at_call 18; refine (docRead_yes (HV.out.1.ext HE5.out.1) (by have := HB3.out; omega) HG.out HE5.out.2.2.1).mono ?_; rintro e w6 ⟨he6, z, rfl, hcz⟩; have HE6 : Hid (Ext w w6 ∧ BytesAt w6 (.slice a2 n2 c2) B ∧ Fit (rdB B) ∧ CkAt w6 s (rdB B) ∧ Blk w6 w3.heap.size (CV (rdB B) s) 38 ∧ CkAt w6 z (rdB B)) := ⟨HE5.out.1.trans he6, HE5.out.2.1.ext he6, HE5.out.2.2.1, HE5.out.2.2.2.1.ext he6, HE5.out.2.2.2.2.ext he6, hcz⟩; clear HE5 he6 hcz)
   | (have q_ := HE3; clear q_; refine wl_alloc rfl (by rfl) zeroC ?_; intro w4 hb4 he4 hx4; clear hx4; refine wl_store (D := CV (rdB B) s) rfl rowC (by rfl) (by first | rfl | go_simp) (by first | rfl | go_simp) hb4 (by rfl) (by rfl) (CV.one _ _) ?_; intro w5 hb5 hk5 hx5; clear hx5; have he5 : Ext w3 w5 := he4.of_but hk5 (fun k e => by subst e; exact Nat.le_refl _); have HE5 : Hid (Ext w w5 ∧ BytesAt w5 (.slice a2 n2 c2) B ∧ Fit (rdB B) ∧ CkAt w5 s (rdB B) ∧ Blk w5 w3.heap.size (CV (rdB B) s) 38) := ⟨HE3.out.1.trans he5, HE3.out.2.1.ext he5, HE3.out.2.2.1, HE3.out.2.2.2.ext he5, hb5⟩; clear HE3 he5 hb4 he4 hk5 hb5)
   | (go_at_call 17; refine (readC_yes HE2.out.2 (by have := HB3.out; omega) HG.out).mono ?_; rintro e w3 ⟨he3, hfit, s, rfl, hck⟩; have HE3 : Hid (Ext w w3 ∧ BytesAt w3 (.slice a2 n2 c2) B ∧ Fit (rdB B) ∧ CkAt w3 s (rdB B)) := ⟨HE2.out.1.trans he3, HE2.out.2.ext he3, hfit, hck⟩; clear HE2 he3 hfit hck)
   | (at_builtin; refine wl_app (l := []) (m := B) rfl rfl rfl rfl (OB.lit0 w1 w1.heap.size _ rfl (Nat.le_refl _)) (HV.out.1.ext (he1.trans (Ext.alloc _ _))) (by have := HB3.out; simp; omega) (by simp) ?_; intro a2 n2 c2 w2 hn2 ho2 hk2 hg2; rw [List.nil_append] at ho2; have HE2 : Hid (Ext w w2 ∧ BytesAt w2 (.slice a2 n2 c2) B) := ⟨he1.trans (Ext.of_but (Ext.alloc _ _) hk2 (fun k e => by cases e; exact Nat.le_refl _)), ho2.bytes⟩; clear hn2 hk2 hg2 ho2 he1)
   | (go_at_call 7; refine (alive_any _).mono ?_; rintro e w1 ⟨rfl, he1⟩))
  have HBx : ∀ {wx : World}, Ext w8.drew wx → Ext w wx ∧ BytesAt wx (.slice a2 n2 c2) B ∧ Fit (rdB B) ∧ CkAt wx s (rdB B) ∧ Blk wx w3.heap.size (CV (rdB B) s) 38 ∧ CkAt wx z (rdB B) ∧ Blk wx w6.heap.size (CV (rdB B) z) 32 := fun h => by
   have h := (Ext.drew w8).trans h
   have hh := HE8.out
   exact ⟨hh.1.trans h, hh.2.1.ext h, hh.2.2.1, hh.2.2.2.1.ext h, hh.2.2.2.2.1.ext h, hh.2.2.2.2.2.1.ext h, hh.2.2.2.2.2.2.ext h⟩
  have HVx : ∀ {wx : World}, Ext w8.drew wx → BytesAt wx (.slice a0 n c0) B := fun h => HV.out.1.ext (HE8.out.1.trans ((Ext.drew _).trans h))
  refine wp_region_facts (fun t => bif Nat.ble 27 t && Nat.ble t 53 then some (t - 27) else none) 70 Ext
   [Is (.bool true),
    Is (.nilIface),
    Is (.bool true),
    Is (.bool false),
    Is (.bool false),
    Is (.bool true),
    Is (.bool false),
    Is (.bool false),
    Is undef,
    Is undef,
    Is undef,
    Is (.bool false),
    Is (.bool false),
    Is (.bool false),
    Is (.agg (CV (rdB B) s)),
    (fun wx v => ∃ z3, v = .agg (CV (rdB B) z3) ∧ CkAt wx z3 (rdB B)),
    Is (.agg (CV (rdB B) z)),
    Is (.bool true),
    Is (.bool false),
    Is (.bool false),
    Is (.bool false),
    Is (.slice a2 n2 c2),
    Is (.string (strOf B)),
    Is (.slice a0 n c0),
    Is (.string (strOf B)),
    Is (.bool false),
    Is (.bool false)]
   rfl (by kernel_rfl) (by kernel_rfl) rfl Ext.refl (fun _ _ _ => Ext.trans) ?_ ?_ ?_
  ·
   exact Ks (Ks (Ks (Ks (Ks (Ks (Ks (Ks (Ks (Ks (Ks (Ks (Ks (Ks (Ks (KeepAll.cons (fun _ _ _ hR h => by obtain ⟨z3, e, h3⟩ := h; exact ⟨z3, e, h3.ext hR⟩) (Ks (Ks (Ks (Ks (Ks (Ks (Ks (Ks (Ks (Ks (Ks (KeepAll.nil)))))))))))))))))))))))))))
  ·
   refine Gc (lr1 Ext.refl rfl rfl rfl iB (fun r wx hR h1 => exec_mv (.inl rfl) h1)) ?_
   refine Gc (lr1 Ext.refl rfl rfl rfl iB (fun r wx hR h1 => exec_mv (.inl rfl) h1)) ?_
   refine Gc (lr2 Ext.refl rfl rfl rfl iB iB (fun r wx hR h1 h2 => exec_eqlN rfl h1 h2)) ?_
   refine Gc (lr2 Ext.refl rfl rfl rfl iB iB (fun r wx hR h1 h2 => by simp [execOp, h1, h2, go_sem])) ?_
   refine Gc (lr1 Ext.refl rfl rfl rfl iB (fun r wx hR h1 => exec_mv (.inl rfl) h1)) ?_
   refine Gc ?_ ?_
   ·
    rintro r wx hR ⟨h1, _⟩
    replace h1 : r (.tmp 7) = (.bool true) := h1
    intro gb hgb
    refine guard_in (b := gb) (want := false) hgb ?_
    exact give_move (.inl rfl) ⟨Ext.refl _, h1⟩
   refine Gc ?_ ?_
   ·
    rintro r wx hR ⟨h1, _⟩
    replace h1 : r (.tmp 32) = (.bool true) := h1
    intro gb hgb
    refine guard_in (b := gb) (want := false) hgb ?_
    exact gvo (by simp [execOp, h1, go_sem]) ⟨Ext.refl _, rfl⟩
   refine Gc ?_ ?_
   ·
    rintro r wx hR ⟨h1, _⟩
    replace h1 : r (.tmp 33) = (.bool false) := h1
    intro gb hgb
    refine guard_in (b := gb) (want := false) hgb ?_
    exact give_move (.inl rfl) ⟨Ext.refl _, h1⟩
   refine Gc ?_ ?_
   ·
    rintro r wx hR ⟨h1, _⟩
    replace h1 : r (.tmp 5) = (.nilIface) := h1
    intro gb hgb
    exact guard_out (b := gb) (want := true) hgb rfl
   refine Gc ?_ ?_
   ·
    rintro r wx hR ⟨h1, h2, h3, _⟩
    replace h1 : r (.func 15) = .func (.func 15) #[] #[] := h1
    replace h2 : r (.tmp 35) = undef := h2
    replace h3 : r (.const (.int .i64 2)) = .int .i64 2 := h3
    intro gb hgb
    exact guard_out (b := gb) (want := true) hgb rfl
   refine Gc ?_ ?_
   ·
    rintro r wx hR ⟨h1, _⟩
    replace h1 : r (.tmp 36) = undef := h1
    intro gb hgb
    exact guard_out (b := gb) (want := true) hgb rfl
   refine Gc ?_ ?_
   ·
    rintro r wx hR ⟨h1, h2, h3, _⟩
    replace h1 : r (.tmp 34) = (.bool false) := h1
    replace h2 : r (.tmp 37) = undef := h2
    replace h3 : r (.const (.bool false)) = .bool false := h3
    intro gb hgb
    refine guard_in (b := gb) (want := false) hgb ?_
    exact give_pickF rfl h1 ⟨Ext.refl _, h3⟩
   refine Gc ?_ ?_
   ·
    rintro r wx hR ⟨h1, h2, h3, _⟩
    replace h1 : r (.tmp 31) = (.bool false) := h1
    replace h2 : r (.const (.bool true)) = .bool true := h2
    replace h3 : r (.tmp 38) = (.bool false) := h3
    exact give_pickF rfl h1 ⟨Ext.refl _, h3⟩
   refine Gc (lr1 Ext.refl rfl rfl rfl iB (fun r wx hR h1 => exec_mv (.inl rfl) h1)) ?_
   refine Gc ?_ ?_
   ·
    rintro r wx hR ⟨h1, _⟩
    replace h1 : r (.tmp 4) = (.pointer (some ⟨w3.heap.size, 0, none⟩)) := h1
    intro gb hgb
    refine guard_in (b := gb) (want := false) hgb ?_
    exact gvo (exec_loadW rowC rfl h1 (HBx hR).2.2.2.2.1 rfl) ⟨Ext.refl _, rfl⟩
   refine Gc ?_ ?_
   ·
    rintro r wx hR ⟨h1, h2, _⟩
    replace h1 : r (.func 14) = .func (.func 14) #[] #[] := h1
    replace h2 : r (.tmp 41) = (.agg (CV (rdB B) s)) := h2
    intro gb hgb
    refine guard_in (b := gb) (want := false) hgb ?_
    refine give_func #[.agg (CV (rdB B) s)] rfl h1 Try.call14 (by simp [h2]) ?_
    refine (document_any (HBx hR).2.2.2.1 HSM.out).mono ?_
    rintro e w' ⟨z3, rfl, h3, he⟩
    exact ⟨_, rfl, he, z3, rfl, h3⟩
   refine Gc ?_ ?_
   ·
    rintro r wx hR ⟨h1, _⟩
    replace h1 : r (.tmp 6) = (.pointer (some ⟨w6.heap.size, 0, none⟩)) := h1
    intro gb hgb
    refine guard_in (b := gb) (want := false) hgb ?_
    exact gvo (exec_loadW rowC2 rfl h1 (HBx hR).2.2.2.2.2.2 rfl) ⟨Ext.refl _, rfl⟩
   refine Gc ?_ ?_
   ·
    rintro r wx hR ⟨h1, h2, h3, _⟩
    replace h1 : r (.func 13) = .func (.func 13) #[] #[] := h1
    replace h2 : ((fun wx v => ∃ z3, v = .agg (CV (rdB B) z3) ∧ CkAt wx z3 (rdB B)) : Fact) wx (r (.tmp 42)) := h2
    replace h3 : r (.tmp 43) = (.agg (CV (rdB B) z)) := h3
    intro gb hgb
    refine guard_in (b := gb) (want := false) hgb ?_
    obtain ⟨z3, e3, hz3⟩ := h2
    refine give_func #[.agg (CV (rdB B) z3), .agg (CV (rdB B) z)] rfl h1 Try.call13 (by simp [e3, h3]) ?_
    refine (refSame_any hz3 (HBx hR).2.2.2.2.2.1).mono ?_
    rintro e w' ⟨rfl, he⟩
    exact ⟨_, rfl, he, congrArg Value.bool (sameTR (rdB B))⟩
   refine Gc ?_ ?_
   ·
    rintro r wx hR ⟨h1, _⟩
    replace h1 : r (.tmp 44) = (.bool true) := h1
    intro gb hgb
    refine guard_in (b := gb) (want := false) hgb ?_
    exact gvo (by simp [execOp, h1, go_sem]) ⟨Ext.refl _, rfl⟩
   refine Gc ?_ ?_
   ·
    rintro r wx hR ⟨h1, h2, h3, _⟩
    replace h1 : r (.tmp 40) = (.bool false) := h1
    replace h2 : r (.const (.bool true)) = .bool true := h2
    replace h3 : r (.tmp 45) = (.bool false) := h3
    exact give_pickF rfl h1 ⟨Ext.refl _, h3⟩
   refine Gc (lr1 Ext.refl rfl rfl rfl iB (fun r wx hR h1 => exec_mv (.inl rfl) h1)) ?_
   refine Gc ?_ ?_
   ·
    rintro r wx hR ⟨h1, _⟩
    replace h1 : r (.tmp 3) = (.slice a2 n2 c2) := h1
    intro gb hgb
    refine guard_in (b := gb) (want := false) hgb ?_
    exact give_move (.inl rfl) ⟨Ext.refl _, h1⟩
   refine Gc ?_ ?_
   ·
    rintro r wx hR ⟨h1, _⟩
    replace h1 : r (.tmp 48) = (.slice a2 n2 c2) := h1
    intro gb hgb
    refine guard_in (b := gb) (want := false) hgb ?_
    exact gvo (exec_string byteT strT rfl wx _ (by rw [h1]; exact (HBx hR).2.1)) ⟨Ext.refl _, rfl⟩
   refine Gc ?_ ?_
   ·
    rintro r wx hR ⟨h1, _⟩
    replace h1 : r (.tmp 0) = (.slice a0 n c0) := h1
    intro gb hgb
    refine guard_in (b := gb) (want := false) hgb ?_
    exact give_move (.inl rfl) ⟨Ext.refl _, h1⟩
   refine Gc ?_ ?_
   ·
    rintro r wx hR ⟨h1, _⟩
    replace h1 : r (.tmp 50) = (.slice a0 n c0) := h1
    intro gb hgb
    refine guard_in (b := gb) (want := false) hgb ?_
    exact gvo (exec_string byteT strT rfl wx _ (by rw [h1]; exact HVx hR)) ⟨Ext.refl _, rfl⟩
   refine Gc ?_ ?_
   ·
    rintro r wx hR ⟨h1, h2, _⟩
    replace h1 : r (.tmp 49) = (.string (strOf B)) := h1
    replace h2 : r (.tmp 51) = (.string (strOf B)) := h2
    intro gb hgb
    refine guard_in (b := gb) (want := false) hgb ?_
    exact gvo (exec_neqR rfl h1 h2 HAB.out) ⟨Ext.refl _, rfl⟩
   refine Gc ?_ ?_
   ·
    rintro r wx hR ⟨h1, h2, h3, _⟩
    replace h1 : r (.tmp 47) = (.bool false) := h1
    replace h2 : r (.const (.bool true)) = .bool true := h2
    replace h3 : r (.tmp 52) = (.bool false) := h3
    exact give_pickF rfl h1 ⟨Ext.refl _, h3⟩
   exact GoodAll.nil
  ·
   intro vs wE aE hR hold haE
   have hv0 : vs 0 = (.bool true) := hold.at 0
   have hv1 : vs 1 = (.nilIface) := hold.at 1
   have hv2 : vs 2 = (.bool true) := hold.at 2
   have hv3 : vs 3 = (.bool false) := hold.at 3
   have hv4 : vs 4 = (.bool false) := hold.at 4
   have hv5 : vs 5 = (.bool true) := hold.at 5
   have hv6 : vs 6 = (.bool false) := hold.at 6
   have hv7 : vs 7 = (.bool false) := hold.at 7
   have hv8 : vs 8 = undef := hold.at 8
   have hv9 : vs 9 = undef := hold.at 9
   have hv10 : vs 10 = undef := hold.at 10
   have hv11 : vs 11 = (.bool false) := hold.at 11
   have hv12 : vs 12 = (.bool false) := hold.at 12
   have hv13 : vs 13 = (.bool false) := hold.at 13
   have hv14 : vs 14 = (.agg (CV (rdB B) s)) := hold.at 14
   have hv16 : vs 16 = (.agg (CV (rdB B) z)) := hold.at 16
   have hv17 : vs 17 = (.bool true) := hold.at 17
   have hv18 : vs 18 = (.bool false) := hold.at 18
   have hv19 : vs 19 = (.bool false) := hold.at 19
   have hv20 : vs 20 = (.bool false) := hold.at 20
   have hv21 : vs 21 = (.slice a2 n2 c2) := hold.at 21
   have hv22 : vs 22 = (.string (strOf B)) := hold.at 22
   have hv23 : vs 23 = (.slice a0 n c0) := hold.at 23
   have hv24 : vs 24 = (.string (strOf B)) := hold.at 24
   have hv25 : vs 25 = (.bool false) := hold.at 25
   have hv26 : vs 26 = (.bool false) := hold.at 26
   simp only [putAll, Act.put, Nat.zero_add, Nat.reduceAdd, hv0, hv1, hv2, hv3, hv4, hv5, hv6, hv7, hv8, hv9, hv10, hv11, hv12, hv13, hv14, hv16, hv17, hv18, hv19, hv20, hv21, hv22, hv23, hv24, hv25, hv26, List.setIfInBounds_toArray, List.set_cons_succ, List.set_cons_zero] at haE
   subst haE
   clear hold hv0 hv1 hv2 hv3 hv4 hv5 hv6 hv7 hv8 hv9 hv10 hv11 hv12 hv13 hv14 hv16 hv17 hv18 hv19 hv20 hv21 hv22 hv23 hv24 hv25 hv26
   have HE9 : Hid (Ext w wE ∧ BytesAt wE (.slice a2 n2 c2) B ∧ Fit (rdB B) ∧ CkAt wE s (rdB B) ∧ Blk wE w3.heap.size (CV (rdB B) s) 38 ∧ CkAt wE z (rdB B) ∧ Blk wE w6.heap.size (CV (rdB B) z) 32) := HBx hR
   have HV9 : Hid (BytesAt wE (.slice a0 n c0) B) := HVx hR
   clear HBx HVx HE8 hR
   go_wp2_with (first
    | (have q_ := HE10; clear q_; refine wpList_of_run (v := .bool true) rfl (exec_eqlN (by rfl) (by first | rfl | go_simp) (by rfl)) ?_)
    | (refine wl_load rfl rowC (by rfl) (by first | rfl | go_simp) HE9.out.2.2.2.2.1 (by rfl) ?_)
    | (go_at_call 10; refine (bytes_yesR HE9.out.2.2.2.1 HE9.out.2.2.1 HG.out.1).mono ?_; rintro e w10 ⟨ba, bn, bc, rfl, hb, he⟩; have HE10 : Hid (Ext w w10) := HE9.out.1.trans he; rw [HG.out.2] at hb; have hs1 := run_string_bytes byteT strT w10 _ _ hb; have hs2 := run_string_bytes byteT strT w10 _ _ (HV9.out.ext he); clear HE9 hb he))
   go_ret
   exact ⟨by simp, HE10.out⟩
 ·
  have HG : Hid (¬ (goodB (rdB B) = true ∧ bytesB (rdB B) = B)) := hg
  have HSM : Hid (Small (ck0 0)) := small_0
  clear hg
  go_enter Try.func4, Try.ntmps4
  go_wp2_with (first
   | (have q_ := HE6; clear q_; refine wl_alloc rfl (by rfl) zeroCd ?_; intro w7 hb7 he7 hx7; clear hx7; refine wl_store (D := CV (ck0 0) sv0) rfl rowC2 (by rfl) (by first | rfl | go_simp) (by first | rfl | go_simp) hb7 (by rfl) (by rfl) (CV.one _ _) ?_; intro w8 hb8 hk8 hx8; clear hx8; have he8 : Ext w6 w8 := he7.of_but hk8 (fun k e => by subst e; exact Nat.le_refl _); have HE8 : Hid (Ext w w8 ∧ BytesAt w8 (.slice a2 n2 c2) B ∧ True ∧ CkAt w8 sv0 (ck0 0) ∧ Blk w8 w3.heap.size (CV (ck0 0) sv0) 38 ∧ CkAt w8 sv0 (ck0 0) ∧ Blk w8 w6.heap.size (CV (ck0 0) sv0) 32) := ⟨HE6.out.1.trans he8, HE6.out.2.1.ext he8, HE6.out.2.2.1, HE6.out.2.2.2.1.ext he8, HE6.out.2.2.2.2.1.ext he8, HE6.out.2.2.2.2.2.ext he8, hb8⟩; clear HE6 he8 hb7 he7 hk8 hb8)
   | (go_at_call 18; refine (docRead_no (HV.out.1.ext HE5.out.1) (by have := HB3.out; omega) HG.out).mono ?_; rintro e w6 ⟨he6, rfl⟩; have HE6 : Hid (Ext w w6 ∧ BytesAt w6 (.slice a2 n2 c2) B ∧ True ∧ CkAt w6 sv0 (ck0 0) ∧ Blk w6 w3.heap.size (CV (ck0 0) sv0) 38 ∧ CkAt w6 sv0 (ck0 0)) := ⟨HE5.out.1.trans he6, HE5.out.2.1.ext he6, trivial, HE5.out.2.2.2.1.ext he6, HE5.out.2.2.2.2.ext he6, (lq0 0 _ _).at⟩; clear HE5 he6)
   | (have q_ := HE3; clear q_; refine wl_alloc rfl (by rfl) zeroC ?_; intro w4 hb4 he4 hx4; clear hx4; refine wl_store (D := CV (ck0 0) sv0) rfl rowC (by rfl) (by first | rfl | go_simp) (by first | rfl | go_simp) hb4 (by rfl) (by rfl) (CV.one _ _) ?_; intro w5 hb5 hk5 hx5; clear hx5; have he5 : Ext w3 w5 := he4.of_but hk5 (fun k e => by subst e; exact Nat.le_refl _); have HE5 : Hid (Ext w w5 ∧ BytesAt w5 (.slice a2 n2 c2) B ∧ True ∧ CkAt w5 sv0 (ck0 0) ∧ Blk w5 w3.heap.size (CV (ck0 0) sv0) 38) := ⟨HE3.out.1.trans he5, HE3.out.2.1.ext he5, HE3.out.2.2.1, HE3.out.2.2.2.ext he5, hb5⟩; clear HE3 he5 hb4 he4 hk5 hb5)
   | (go_at_call 17; refine (readC_no HE2.out.2 (by have := HB3.out; omega) HG.out).mono ?_; rintro e w3 ⟨he3, rfl⟩; have HE3 : Hid (Ext w w3 ∧ BytesAt w3 (.slice a2 n2 c2) B ∧ True ∧ CkAt w3 sv0 (ck0 0)) := ⟨HE2.out.1.trans he3, HE2.out.2.ext he3, trivial, (lq0 0 _ _).at⟩; clear HE2 he3)
   | (at_builtin; refine wl_app (l := []) (m := B) rfl rfl rfl rfl (OB.lit0 w1 w1.heap.size _ rfl (Nat.le_refl _)) (HV.out.1.ext (he1.trans (Ext.alloc _ _))) (by have := HB3.out; simp; omega) (by simp) ?_; intro a2 n2 c2 w2 hn2 ho2 hk2 hg2; rw [List.nil_append] at ho2; have HE2 : Hid (Ext w w2 ∧ BytesAt w2 (.slice a2 n2 c2) B) := ⟨he1.trans (Ext.of_but (Ext.alloc _ _) hk2 (fun k e => by cases e; exact Nat.le_refl _)), ho2.bytes⟩; clear hn2 hk2 hg2 ho2 he1)
   | (go_at_call 7; refine (alive_any _).mono ?_; rintro e w1 ⟨rfl, he1⟩))
  have HBx : ∀ {wx : World}, Ext w8.drew wx → Ext w wx ∧ BytesAt wx (.slice a2 n2 c2) B ∧ True ∧ CkAt wx sv0 (ck0 0) ∧ Blk wx w3.heap.size (CV (ck0 0) sv0) 38 ∧ CkAt wx sv0 (ck0 0) ∧ Blk wx w6.heap.size (CV (ck0 0) sv0) 32 := fun h => by
   have h := (Ext.drew w8).trans h
   have hh := HE8.out
   exact ⟨hh.1.trans h, hh.2.1.ext h, hh.2.2.1, hh.2.2.2.1.ext h, hh.2.2.2.2.1.ext h, hh.2.2.2.2.2.1.ext h, hh.2.2.2.2.2.2.ext h⟩
  have HVx : ∀ {wx : World}, Ext w8.drew wx → BytesAt wx (.slice a0 n c0) B := fun h => HV.out.1.ext (HE8.out.1.trans ((Ext.drew _).trans h))
  refine wp_region_facts (fun t => bif Nat.ble 27 t && Nat.ble t 53 then some (t - 27) else none) 70 Ext
   [Is (.bool false),
    Is (errF),
    Is (.bool false),
    Is (.bool false),
    Is (.bool false),
    Is (.bool false),
    Is (.bool true),
    Is (.bool true),
    Is (errF),
    Is (.bool true),
    Is (.bool false),
    Is (.bool false),
    Is (.bool false),
    Is (.bool false),
    Is (.agg (CV (ck0 0) sv0)),
    (fun wx v => ∃ z3, v = .agg (CV (ck0 0) z3) ∧ CkAt wx z3 (ck0 0)),
    Is (.agg (CV (ck0 0) sv0)),
    Is (.bool true),
    Is (.bool false),
    Is (.bool false),
    Is (.bool false),
    Is (.slice a2 n2 c2),
    Is (.string (strOf B)),
    Is (.slice a0 n c0),
    Is (.string (strOf B)),
    Is (.bool false),
    Is (.bool false)]
   rfl (by kernel_rfl) (by kernel_rfl) rfl Ext.refl (fun _ _ _ => Ext.trans) ?_ ?_ ?_
  ·
   exact Ks (Ks (Ks (Ks (Ks (Ks (Ks (Ks (Ks (Ks (Ks (Ks (Ks (Ks (Ks (KeepAll.cons (fun _ _ _ hR h => by obtain ⟨z3, e, h3⟩ := h; exact ⟨z3, e, h3.ext hR⟩) (Ks (Ks (Ks (Ks (Ks (Ks (Ks (Ks (Ks (Ks (Ks (KeepAll.nil)))))))))))))))))))))))))))
  ·
   refine Gc (lr1 Ext.refl rfl rfl rfl iB (fun r wx hR h1 => exec_mv (.inl rfl) h1)) ?_
   refine Gc (lr1 Ext.refl rfl rfl rfl iB (fun r wx hR h1 => exec_mv (.inl rfl) h1)) ?_
   refine Gc (lr2 Ext.refl rfl rfl rfl iB iB (fun r wx hR h1 h2 => exec_eqlF rfl h1 h2)) ?_
   refine Gc (lr2 Ext.refl rfl rfl rfl iB iB (fun r wx hR h1 h2 => by simp [execOp, h1, h2, go_sem])) ?_
   refine Gc (lr1 Ext.refl rfl rfl rfl iB (fun r wx hR h1 => exec_mv (.inl rfl) h1)) ?_
   refine Gc ?_ ?_
   ·
    rintro r wx hR ⟨h1, _⟩
    replace h1 : r (.tmp 7) = (.bool false) := h1
    intro gb hgb
    refine guard_in (b := gb) (want := false) hgb ?_
    exact give_move (.inl rfl) ⟨Ext.refl _, h1⟩
   refine Gc ?_ ?_
   ·
    rintro r wx hR ⟨h1, _⟩
    replace h1 : r (.tmp 32) = (.bool false) := h1
    intro gb hgb
    refine guard_in (b := gb) (want := false) hgb ?_
    exact gvo (by simp [execOp, h1, go_sem]) ⟨Ext.refl _, rfl⟩
   refine Gc ?_ ?_
   ·
    rintro r wx hR ⟨h1, _⟩
    replace h1 : r (.tmp 33) = (.bool true) := h1
    intro gb hgb
    refine guard_in (b := gb) (want := false) hgb ?_
    exact give_move (.inl rfl) ⟨Ext.refl _, h1⟩
   refine Gc ?_ ?_
   ·
    rintro r wx hR ⟨h1, _⟩
    replace h1 : r (.tmp 5) = (errF) := h1
    intro gb hgb
    refine guard_in (b := gb) (want := true) hgb ?_
    exact give_move (.inl rfl) ⟨Ext.refl _, h1⟩
   refine Gc ?_ ?_
   ·
    rintro r wx hR ⟨h1, h2, h3, _⟩
    replace h1 : r (.func 15) = .func (.func 15) #[] #[] := h1
    replace h2 : r (.tmp 35) = (errF) := h2
    replace h3 : r (.const (.int .i64 2)) = .int .i64 2 := h3
    intro gb hgb
    refine guard_in (b := gb) (want := true) hgb ?_
    refine give_func #[errF, .int .i64 2] rfl h1 Try.call15 (by simp [h2, h3]) ?_
    refine (isF _).mono ?_
    rintro e w' ⟨rfl, rfl⟩
    exact ⟨_, rfl, Ext.refl _, rfl⟩
   refine Gc ?_ ?_
   ·
    rintro r wx hR ⟨h1, _⟩
    replace h1 : r (.tmp 36) = (.bool true) := h1
    intro gb hgb
    refine guard_in (b := gb) (want := true) hgb ?_
    exact gvo (by simp [execOp, h1, go_sem]) ⟨Ext.refl _, rfl⟩
   refine Gc ?_ ?_
   ·
    rintro r wx hR ⟨h1, h2, h3, _⟩
    replace h1 : r (.tmp 34) = (.bool true) := h1
    replace h2 : r (.tmp 37) = (.bool false) := h2
    replace h3 : r (.const (.bool false)) = .bool false := h3
    intro gb hgb
    refine guard_in (b := gb) (want := false) hgb ?_
    exact give_pick rfl h1 ⟨Ext.refl _, h2⟩
   refine Gc ?_ ?_
   ·
    rintro r wx hR ⟨h1, h2, h3, _⟩
    replace h1 : r (.tmp 31) = (.bool false) := h1
    replace h2 : r (.const (.bool true)) = .bool true := h2
    replace h3 : r (.tmp 38) = (.bool false) := h3
    exact give_pickF rfl h1 ⟨Ext.refl _, h3⟩
   refine Gc (lr1 Ext.refl rfl rfl rfl iB (fun r wx hR h1 => exec_mv (.inl rfl) h1)) ?_
   refine Gc ?_ ?_
   ·
    rintro r wx hR ⟨h1, _⟩
    replace h1 : r (.tmp 4) = (.pointer (some ⟨w3.heap.size, 0, none⟩)) := h1
    intro gb hgb
    refine guard_in (b := gb) (want := false) hgb ?_
    exact gvo (exec_loadW rowC rfl h1 (HBx hR).2.2.2.2.1 rfl) ⟨Ext.refl _, rfl⟩
   refine Gc ?_ ?_
   ·
    rintro r wx hR ⟨h1, h2, _⟩
    replace h1 : r (.func 14) = .func (.func 14) #[] #[] := h1
    replace h2 : r (.tmp 41) = (.agg (CV (ck0 0) sv0)) := h2
    intro gb hgb
    refine guard_in (b := gb) (want := false) hgb ?_
    refine give_func #[.agg (CV (ck0 0) sv0)] rfl h1 Try.call14 (by simp [h2]) ?_
    refine (document_any (HBx hR).2.2.2.1 HSM.out).mono ?_
    rintro e w' ⟨z3, rfl, h3, he⟩
    exact ⟨_, rfl, he, z3, rfl, h3⟩
   refine Gc ?_ ?_
   ·
    rintro r wx hR ⟨h1, _⟩
    replace h1 : r (.tmp 6) = (.pointer (some ⟨w6.heap.size, 0, none⟩)) := h1
    intro gb hgb
    refine guard_in (b := gb) (want := false) hgb ?_
    exact gvo (exec_loadW rowC2 rfl h1 (HBx hR).2.2.2.2.2.2 rfl) ⟨Ext.refl _, rfl⟩
   refine Gc ?_ ?_
   ·
    rintro r wx hR ⟨h1, h2, h3, _⟩
    replace h1 : r (.func 13) = .func (.func 13) #[] #[] := h1
    replace h2 : ((fun wx v => ∃ z3, v = .agg (CV (ck0 0) z3) ∧ CkAt wx z3 (ck0 0)) : Fact) wx (r (.tmp 42)) := h2
    replace h3 : r (.tmp 43) = (.agg (CV (ck0 0) sv0)) := h3
    intro gb hgb
    refine guard_in (b := gb) (want := false) hgb ?_
    obtain ⟨z3, e3, hz3⟩ := h2
    refine give_func #[.agg (CV (ck0 0) z3), .agg (CV (ck0 0) sv0)] rfl h1 Try.call13 (by simp [e3, h3]) ?_
    refine (refSame_any hz3 (HBx hR).2.2.2.2.2.1).mono ?_
    rintro e w' ⟨rfl, he⟩
    exact ⟨_, rfl, he, congrArg Value.bool (sameTR (ck0 0))⟩
   refine Gc ?_ ?_
   ·
    rintro r wx hR ⟨h1, _⟩
    replace h1 : r (.tmp 44) = (.bool true) := h1
    intro gb hgb
    refine guard_in (b := gb) (want := false) hgb ?_
    exact gvo (by simp [execOp, h1, go_sem]) ⟨Ext.refl _, rfl⟩
   refine Gc ?_ ?_
   ·
    rintro r wx hR ⟨h1, h2, h3, _⟩
    replace h1 : r (.tmp 40) = (.bool false) := h1
    replace h2 : r (.const (.bool true)) = .bool true := h2
    replace h3 : r (.tmp 45) = (.bool false) := h3
    exact give_pickF rfl h1 ⟨Ext.refl _, h3⟩
   refine Gc (lr1 Ext.refl rfl rfl rfl iB (fun r wx hR h1 => exec_mv (.inl rfl) h1)) ?_
   refine Gc ?_ ?_
   ·
    rintro r wx hR ⟨h1, _⟩
    replace h1 : r (.tmp 3) = (.slice a2 n2 c2) := h1
    intro gb hgb
    refine guard_in (b := gb) (want := false) hgb ?_
    exact give_move (.inl rfl) ⟨Ext.refl _, h1⟩
   refine Gc ?_ ?_
   ·
    rintro r wx hR ⟨h1, _⟩
    replace h1 : r (.tmp 48) = (.slice a2 n2 c2) := h1
    intro gb hgb
    refine guard_in (b := gb) (want := false) hgb ?_
    exact gvo (exec_string byteT strT rfl wx _ (by rw [h1]; exact (HBx hR).2.1)) ⟨Ext.refl _, rfl⟩
   refine Gc ?_ ?_
   ·
    rintro r wx hR ⟨h1, _⟩
    replace h1 : r (.tmp 0) = (.slice a0 n c0) := h1
    intro gb hgb
    refine guard_in (b := gb) (want := false) hgb ?_
    exact give_move (.inl rfl) ⟨Ext.refl _, h1⟩
   refine Gc ?_ ?_
   ·
    rintro r wx hR ⟨h1, _⟩
    replace h1 : r (.tmp 50) = (.slice a0 n c0) := h1
    intro gb hgb
    refine guard_in (b := gb) (want := false) hgb ?_
    exact gvo (exec_string byteT strT rfl wx _ (by rw [h1]; exact HVx hR)) ⟨Ext.refl _, rfl⟩
   refine Gc ?_ ?_
   ·
    rintro r wx hR ⟨h1, h2, _⟩
    replace h1 : r (.tmp 49) = (.string (strOf B)) := h1
    replace h2 : r (.tmp 51) = (.string (strOf B)) := h2
    intro gb hgb
    refine guard_in (b := gb) (want := false) hgb ?_
    exact gvo (exec_neqR rfl h1 h2 HAB.out) ⟨Ext.refl _, rfl⟩
   refine Gc ?_ ?_
   ·
    rintro r wx hR ⟨h1, h2, h3, _⟩
    replace h1 : r (.tmp 47) = (.bool false) := h1
    replace h2 : r (.const (.bool true)) = .bool true := h2
    replace h3 : r (.tmp 52) = (.bool false) := h3
    exact give_pickF rfl h1 ⟨Ext.refl _, h3⟩
   exact GoodAll.nil
  ·
   intro vs wE aE hR hold haE
   have hv0 : vs 0 = (.bool false) := hold.at 0
   have hv1 : vs 1 = (errF) := hold.at 1
   have hv2 : vs 2 = (.bool false) := hold.at 2
   have hv3 : vs 3 = (.bool false) := hold.at 3
   have hv4 : vs 4 = (.bool false) := hold.at 4
   have hv5 : vs 5 = (.bool false) := hold.at 5
   have hv6 : vs 6 = (.bool true) := hold.at 6
   have hv7 : vs 7 = (.bool true) := hold.at 7
   have hv8 : vs 8 = (errF) := hold.at 8
   have hv9 : vs 9 = (.bool true) := hold.at 9
   have hv10 : vs 10 = (.bool false) := hold.at 10
   have hv11 : vs 11 = (.bool false) := hold.at 11
   have hv12 : vs 12 = (.bool false) := hold.at 12
   have hv13 : vs 13 = (.bool false) := hold.at 13
   have hv14 : vs 14 = (.agg (CV (ck0 0) sv0)) := hold.at 14
   have hv16 : vs 16 = (.agg (CV (ck0 0) sv0)) := hold.at 16
   have hv17 : vs 17 = (.bool true) := hold.at 17
   have hv18 : vs 18 = (.bool false) := hold.at 18
   have hv19 : vs 19 = (.bool false) := hold.at 19
   have hv20 : vs 20 = (.bool false) := hold.at 20
   have hv21 : vs 21 = (.slice a2 n2 c2) := hold.at 21
   have hv22 : vs 22 = (.string (strOf B)) := hold.at 22
   have hv23 : vs 23 = (.slice a0 n c0) := hold.at 23
   have hv24 : vs 24 = (.string (strOf B)) := hold.at 24
   have hv25 : vs 25 = (.bool false) := hold.at 25
   have hv26 : vs 26 = (.bool false) := hold.at 26
   simp only [putAll, Act.put, Nat.zero_add, Nat.reduceAdd, hv0, hv1, hv2, hv3, hv4, hv5, hv6, hv7, hv8, hv9, hv10, hv11, hv12, hv13, hv14, hv16, hv17, hv18, hv19, hv20, hv21, hv22, hv23, hv24, hv25, hv26, List.setIfInBounds_toArray, List.set_cons_succ, List.set_cons_zero] at haE
   subst haE
   clear hold hv0 hv1 hv2 hv3 hv4 hv5 hv6 hv7 hv8 hv9 hv10 hv11 hv12 hv13 hv14 hv16 hv17 hv18 hv19 hv20 hv21 hv22 hv23 hv24 hv25 hv26
   have HE9 : Hid (Ext w wE ∧ BytesAt wE (.slice a2 n2 c2) B ∧ True ∧ CkAt wE sv0 (ck0 0) ∧ Blk wE w3.heap.size (CV (ck0 0) sv0) 38 ∧ CkAt wE sv0 (ck0 0) ∧ Blk wE w6.heap.size (CV (ck0 0) sv0) 32) := HBx hR
   have HV9 : Hid (BytesAt wE (.slice a0 n c0) B) := HVx hR
   clear HBx HVx HE8 hR
   go_wp2
   go_ret
   exact ⟨rfl, HE9.out.1⟩
end Tlv
end Go.Proofs.Ytigocaconkbalaa
namespace Go.Proofs.Ytigocaconkbalaa
open Go.ChangeShapes Go.WideShapes Go.ChangeAt Go.RowKit
open Go.ChangeMaps (open_string shut_string)
theorem chunkReadsOwn : ownKnob Try.prog.godebug = none := by kernel_rfl
theorem chunkReadsLaidOut : laidOutB Try.prog = true := by kernel_rfl
theorem chunkReadsLifted (os : Os) (started : os.Started) (H : Type) (enc : TypeId × Value → H) :
  ReturnsInHanded {} Try.checked os 4 .any (Rows.chunkReadsSpec.pre6 enc Try.prog Try.f4 Rows.chunkReadsRow.domain false) (Rows.chunkReadsSpec.post enc Try.prog Try.f4 false true false false) := by
 refine returnsInHanded_of_change (C := Try.checked) chunkReadsOwn started (by kernel_rfl) Try.func4
  (ChangeSpec.witness6 (enc := enc) (C := Try.checked) false ⟨#[], #[.slice none 0 0], []⟩ 8 (by kernel_rfl) (by kernel_rfl) (by kernel_rfl) (by kernel_rfl)) ?_
 intro W base args ds gs before hval0 hW hcnd _
 have hval : ∀ (j : Nat) t v, Try.f4.params[j]? = some t → args[j]? = some v → Value.okWide Try.prog W .any base t v := hval0
 have hW' := hW
 obtain ⟨p, q, hA0, hV, rfl, hfz, hnd⟩ := hW
 have hA : DataW.TrodAll enc Try.prog W 0 (fun _ => true) true Try.f4.params.toList args.toList ds p := hA0
 rw [Try.params4] at hA hval
 obtain ⟨v0, vs0, d0, ds0, p0, q0, hargs, rfl, rfl, h0, r0⟩ := trodAll_cons hA
 obtain ⟨rfl, rfl, rfl⟩ := trodAll_nil r0
 obtain rfl : args = #[v0] := by cases args; simp_all
 obtain ⟨rfl, rfl⟩ := trodVars_none hV
 have k0 := h0
 have lt0 : ∀ x ∈ p0, x.block < W.heap.size := by obtain ⟨m, hm⟩ := k0; exact DataW.trod_lt m _ _ _ hm
 obtain ⟨a0, len0, cap0, rfl⟩ := okWide_slice Try.underlying24 (hval 0 24 v0 rfl rfl)
 obtain ⟨l0, w0⟩ : ∃ l, BytesAt W (.slice a0 len0 cap0) l := by
  obtain ⟨fuel, hf⟩ := h0
  rcases open_ints Try.underlying24 Try.underlying5 (by kernel_rfl) hf with ⟨hcs, _⟩ | ⟨x, l, c, zs, hcs, _, hl, hm, hz, _, hcell, hwz⟩
  ·
   simp [Value.cells] at hcs
   obtain ⟨rfl, rfl, rfl⟩ := hcs
   exact ⟨[], BytesAt.none _⟩
  ·
   simp [Value.cells] at hcs
   obtain ⟨rfl, rfl, rfl⟩ := hcs
   exact ⟨_, BytesAt.of_row hl hm (by simpa using hz) hcell hwz⟩
 clear hA0 hval0
 refine (Tlv.reads_walk w0).mono fun e W' ⟨he, bel⟩ => ?_
 subst he
 exact ⟨_, rfl, _, _, _, [], _, [], hW', trodAll_mk1 (shut_bool Try.underlying4 _), (trodAll_cons_mk (Below.trod chunkReadsLaidOut (by kernel_rfl) (of_decide_eq_true (by kernel_rfl)) k0 bel lt0) (trodAll_mk0)), rfl, bel.frame _, fun h => by cases h⟩
theorem chunkReadsOver : Rows.chunkReadsRow.holds Try.pinned (OpenSpec.ofChange Rows.chunkReadsSpec) :=
 OpenClaim.holds_of_wide 4 Try.f4 rfl rfl rfl rfl rfl rfl rfl ⟨rfl, rfl, rfl, rfl, rfl⟩ rfl rfl rfl rfl rfl (by kernel_rfl) Try.func4 (by kernel_rfl)
  (of_decide_eq_true (by kernel_rfl)) (by unfold Func.isWrapper; first | (rw [if_pos (by decide +kernel)]; kernel_rfl) | (rw [if_neg (by decide +kernel)]; exact ⟨rfl, rfl⟩))
  (fun os started H enc _ => chunkReadsLifted os started H enc)
theorem chunkReads_holds : Rows.ChunkReadsSaid := chunkReadsOver
#print axioms chunkReads_holds
end Go.Proofs.Ytigocaconkbalaa
