/- Texts of the seat, one behind the other. No condition of its own. -/
import Derived.Test.YtobkgaceallegaaChkC8
import Derived.Laws.ResultCell
/- An Out of the call's own; parameters put. No condition of its own. -/
namespace Go.Proofs.Ytobkgaceallegaa
namespace Tlv
open Go Go.RowKit
set_option linter.unusedVariables false
set_option linter.unusedSimpArgs false
set_option maxRecDepth 100000


/-- An Out that lies above w0, as all that it owns: what lay in w0 stands. -/
def OC (w0 w : World) (g : Nat) (l : List Nat) : Prop := w0.heap.size ≤ g ∧ Ext w0 w ∧ ∃ v, OutAt w w0.heap.size g v l
theorem OC.ext {w0 w w' : World} {g : Nat} {l : List Nat} (h : OC w0 w g l) (he : Ext w w') : OC w0 w' g l := by
  obtain ⟨h1, h2, v, h3⟩ := h
  exact ⟨h1, h2.trans he, v, h3.ext he⟩
theorem OC.out {w0 w : World} {g : Nat} {l : List Nat} (h : OC w0 w g l) : Ext w0 w := h.2.1
theorem OC.new {w w1 : World} (hb : Blk w1 w.heap.size #[.slice none 0 0] 74) (he : Ext w w1) : OC w w1 w.heap.size [] :=
  ⟨Nat.le_refl _, he, _, hb, OB.nil _ _⟩
/-- Blocks that are no bytes and no Out stand. -/
def Kept (g : Nat) (w w' : World) : Prop := ∀ q C t, Blk w q C t → t ≠ 5 → q ≠ g → Blk w' q C t
theorem Kept.trans {g : Nat} {a b c : World} (h : Kept g a b) (k : Kept g b c) : Kept g a c := fun q C t h1 h2 h3 => k q C t (h q C t h1 h2 h3) h2 h3
theorem Kept.ext {g : Nat} {a b : World} (h : Ext a b) : Kept g a b := fun q C t h1 _ _ => h1.ext h
/-- What a call on it leaves. -/
def PutIs (w0 w : World) (g : Nat) (l : List Nat) (e : Ending) (w' : World) : Prop := (∃ y, e = .returned y) ∧ OC w0 w' g l ∧ Kept g w w'
theorem ocNum {w0 w : World} {g : Nat} {l : List Nat} (h : OC w0 w g l) (N : Nat) (n : Int) (hl : l.length ≤ 900000) :
    Calls Try.prog 27 #[ptr g, .int .u64 (N : Int), .int .i64 n] w (PutIs w0 w g (l ++ numB N n)) := by
  obtain ⟨h1, h2, v, h3⟩ := h
  refine (outNum_any h3 N n hl h2.size).mono ?_
  rintro e w' ⟨hy, v', h4, hm⟩
  exact ⟨hy, ⟨h1, hm.extO h3 h2 (Nat.le_refl _) h1, v', h4⟩, fun q C t hb ht hq => hm.blk h3 hb ht hq⟩
theorem ocPut {w0 w : World} {g : Nat} {l m : List Nat} {x : Value} (h : OC w0 w g l) (hx : BytesAt w x m) (hl : l.length + m.length ≤ 1000000) :
    Calls Try.prog 29 #[ptr g, x] w (PutIs w0 w g (l ++ m)) := by
  obtain ⟨h1, h2, v, h3⟩ := h
  refine (outPut_any h3 hx hl h2.size).mono ?_
  rintro e w' ⟨hy, v', h4, hm⟩
  exact ⟨hy, ⟨h1, hm.extO h3 h2 (Nat.le_refl _) h1, v', h4⟩, fun q C t hb ht hq => hm.blk h3 hb ht hq⟩
theorem ocPad {w0 w : World} {g : Nat} {l : List Nat} (h : OC w0 w g l) (hl : l.length ≤ 900000) :
    Calls Try.prog 30 #[ptr g] w (PutIs w0 w g (padB l)) := by
  obtain ⟨h1, h2, v, h3⟩ := h
  refine (outPad_any h3 hl h2.size).mono ?_
  rintro e w' ⟨hy, v', h4, hm⟩
  exact ⟨hy, ⟨h1, hm.extO h3 h2 (Nat.le_refl _) h1, v', h4⟩, fun q C t hb ht hq => hm.blk h3 hb ht hq⟩
theorem ocBytes {w0 w : World} {g : Nat} {l : List Nat} (h : OC w0 w g l) (hl : l.length ≤ 1000000) :
    Calls Try.prog 31 #[ptr g] w fun e w' => ∃ a n c, e = .returned (.slice a n c) ∧ n = l.length ∧ OB w' w0.heap.size (.slice a n c) l ∧ Ext w w' := by
  obtain ⟨h1, h2, v, h3⟩ := h
  refine (outBytes_any h3 hl).mono ?_
  rintro e w' ⟨a, n, c, rfl, hn, ho, he⟩
  exact ⟨a, n, c, rfl, hn, ho.base h2.size, he⟩
theorem writeB_one (p : Par) : writeB [p] = parB p := by simp [writeB]
theorem parB_le (p : Par) (h : p.2.length ≤ 4000) : (parB p).length ≤ 4010 := by rw [parB_len]; have := pads_lt p.2.length; omega
set_option maxHeartbeats 4000000 in
theorem putParam_any {w0 w : World} {g : Nat} {l m : List Nat} {a : Option Addr} {n cp : Nat} (h : OC w0 w g l) (K : Int) (hK : 0 ≤ K ∧ K ≤ 65535) (hu : BytesAt w (.slice a n cp) m) (hm : m.length ≤ 4000) (hl : l.length ≤ 100000) :
    Calls Try.prog 63 #[ptr g, .int .i64 K, .slice a n cp] w (PutIs w0 w g (l ++ parB (K, m))) := by
  have HX : Hid (OC w0 w g l ∧ BytesAt w (.slice a n cp) m ∧ l.length ≤ 100000 ∧ (writeB [(K, m)]).length ≤ 700000 ∧ ∀ p ∈ [(K, m)], goodP p = true) :=
    ⟨h, hu, hl, by rw [writeB_one]; have := parB_le (K, m) hm; omega, fun p hp => by simp at hp; subst hp; exact (goodP_iff _).2 ⟨hK.1, hK.2, hm⟩⟩
  clear h hu hl hK hm
  go_enter Try.func63, Try.ntmps63
  go_wp2_with (first
    | (go_at_call 89; refine (write_good (L := [(K, m)]) (ParsAt.one w _ rfl HX.out.2.1) HX.out.2.2.2.1 (by simp) HX.out.2.2.2.2).mono ?_; rintro e w2 ⟨he2, a2, n2, c2, rfl, hn2, ho2⟩; rw [writeB_one] at ho2; clear hn2; have HE2 : Hid (Ext w w2) := (Ext.alloc _ _).trans he2; clear he2)
    | (go_at_call 29; refine (ocPut (HX.out.1.ext HE2.out) ho2.bytes (by have := parB_le (K, m) ((goodP_iff _).1 (HX.out.2.2.2.2 _ (List.mem_singleton.2 rfl))).2.2; have := HX.out.2.2.1; omega)).mono ?_; rintro e w3 ⟨⟨y, rfl⟩, h3, k3⟩))
  go_end0
  exact ⟨⟨_, rfl⟩, h3, (Kept.ext HE2.out).trans k3⟩
theorem numB4 (N : Nat) : numB N 4 = be N 4 := rfl
theorem numB1 (N : Nat) : numB N 1 = be N 1 := rfl
set_option maxHeartbeats 4000000 in
theorem putAddr_any {w0 w : World} {g : Nat} {l : List Nat} (h : OC w0 w g l) (K : Int) (hK : 0 ≤ K ∧ K ≤ 65535) (A : Nat) (hA : A < 2147483648) (hl : l.length ≤ 100000) :
    Calls Try.prog 88 #[ptr g, .int .i64 K, .int .i64 (A : Int)] w (PutIs w0 w g (l ++ parB (K, be A 4))) := by
  have hc : IntKind.u64.wrap (A : Int) = (A : Int) := by rw [IntKind.wrap_u64]; omega
  have HX : Hid (OC w0 w g l ∧ l.length ≤ 100000 ∧ (0 ≤ K ∧ K ≤ 65535)) := ⟨h, hl, hK⟩
  clear h hl hK
  go_enter Try.func88, Try.ntmps88
  go_wp2_with (first
    | (refine wl_alloc rfl rfl zeroO ?_; intro w1 hb1 he1 hx; clear hx; have hV := OC.new hb1 he1; clear hb1; have HE1 : Hid (Ext w w1) := he1; clear he1)
    | (go_at_call 27; refine (ocNum hV A 4 (by simp)).mono ?_; rintro e w2 ⟨⟨y, rfl⟩, hV2, k2⟩; rw [List.nil_append, numB4] at hV2)
    | (go_at_call 31; refine (ocBytes hV2 (by rw [be_len]; omega)).mono ?_; rintro e w3 ⟨a3, n3, c3, rfl, hn3, ho3, he3⟩; clear hn3)
    | (go_at_call 63; refine (putParam_any ((HX.out.1.ext hV2.out).ext he3) K HX.out.2.2 ho3.bytes (by rw [be_len]; omega) HX.out.2.1).mono ?_; rintro e w4 ⟨⟨y4, rfl⟩, h4, k4⟩))
  go_end0
  exact ⟨⟨_, rfl⟩, h4, fun q C t hb ht hq => k4 q C t ((k2 q C t (hb.ext HE1.out) ht (Nat.ne_of_lt hb.lt)).ext he3) ht hq⟩
end Tlv
end Go.Proofs.Ytobkgaceallegaa

/- The values of chunks that begin, that acknowledge, that tell of ops. No condition of its own. -/
namespace Go.Proofs.Ytobkgaceallegaa
namespace Tlv
open Go Go.RowKit
set_option linter.unusedVariables false
set_option linter.unusedSimpArgs false
set_option maxRecDepth 100000


set_option maxHeartbeats 2000000 in
theorem flagsOf_any (c : Ck) (s : Sv) (w : World) : Calls Try.prog 28 #[.agg (PV c s)] w fun e w' => e = .returned (.int .u64 (flagN c.pb c.pe c.pu : Nat)) ∧ Ext w w' := by
  cases h1 : c.pb <;> cases h2 : c.pe <;> cases h3 : c.pu
  all_goals
    go_enter Try.func28, Try.ntmps28
    go_wp2_with (first
      | (refine wl_box (C := PV c s) rfl rfl rfl ?_; intro w1 hb1 he1 hx; clear hx; have c3 := pv3 hb1; have c4 := pv4 hb1; have c5 := pv5 hb1))
    go_ret
    exact ⟨rfl, he1⟩
/-- Parameters of addresses, of ops. -/
def pAddrs (L : List Int) : List Par := L.map fun a => (5, be a.toNat 4)
def pOps (L : List (Int × Int)) : List Par := L.map fun p => (49152 + p.1, be p.2.toNat 4)
def startV (c : Ck) : List Nat := be c.tag 4 ++ (be c.win.toNat 4 ++ (be c.out.toNat 2 ++ (be c.inn.toNat 2 ++ (be c.tsn 4 ++ (parB (32770, c.rand) ++ (writeB (pAddrs c.addrs) ++ if c.kind = 2 then parB (7, c.info) else []))))))
theorem take_snocD {α : Type} (d : α) {L : List α} {k : Nat} (h : k < L.length) : L.take (k + 1) = L.take k ++ [L.getD k d] := by
  rw [List.take_succ_eq_append_getElem h]; simp [List.getD_eq_getElem?_getD, h]
theorem pAddrs_snoc {L : List Int} {k : Nat} (h : k < L.length) : writeB (pAddrs (L.take (k + 1))) = writeB (pAddrs (L.take k)) ++ parB (5, be (L.getD k 0).toNat 4) := by
  rw [take_snocD 0 h]; simp [pAddrs, writeB]
theorem pOps_snoc {L : List (Int × Int)} {k : Nat} (h : k < L.length) : writeB (pOps (L.take (k + 1))) = writeB (pOps (L.take k)) ++ parB (49152 + (L.getD k (0, 0)).1, be (L.getD k (0, 0)).2.toNat 4) := by
  rw [take_snocD (0, 0) h]; simp [pOps, writeB]
theorem pAddrs_len (L : List Int) (k : Nat) : (writeB (pAddrs (L.take k))).length ≤ 8 * k := by
  induction k with
  | zero => simp [pAddrs, writeB]
  | succ k ih =>
    rcases Nat.lt_or_ge k L.length with h | h
    · rw [pAddrs_snoc h, List.length_append, parB_len, be_len]; have : pads 4 = 0 := rfl; simp only [this]; omega
    · rw [List.take_of_length_le (by omega)]; rw [List.take_of_length_le h] at ih; omega
theorem pOps_len (L : List (Int × Int)) (k : Nat) : (writeB (pOps (L.take k))).length ≤ 8 * k := by
  induction k with
  | zero => simp [pOps, writeB]
  | succ k ih =>
    rcases Nat.lt_or_ge k L.length with h | h
    · rw [pOps_snoc h, List.length_append, parB_len, be_len]; have : pads 4 = 0 := rfl; simp only [this]; omega
    · rw [List.take_of_length_le (by omega)]; rw [List.take_of_length_le h] at ih; omega
theorem all_getD {α : Type} {f : α → Bool} {L : List α} (h : L.all f = true) (d : α) {k : Nat} (hk : k < L.length) : f (L.getD k d) = true := List.all_eq_true.1 h _ (getD_mem L d k hk)
theorem adB_nat {a : Int} (h : adB a = true) : ∃ A : Nat, a = (A : Int) ∧ A < 2147483648 := by
  have := (inB_iff _ _ _).1 h
  exact ⟨a.toNat, by omega, by omega⟩
set_option maxHeartbeats 16000000 in
theorem putStart_any {w0 w : World} {g : Nat} {l : List Nat} {c : Ck} {s : Sv} (h : OC w0 w g l) (hc : CkAt w0 s c) (hf : Fit c) (hl : l.length ≤ 1000)
    (hw : 0 ≤ c.win ∧ c.win ≤ 2147483647) (ho : 0 ≤ c.out ∧ c.out ≤ 8) (hi : 0 ≤ c.inn ∧ c.inn ≤ 8) (hr : c.rand.length ≤ 64) (han : c.addrs.length ≤ 4) (had : adsB c.addrs = true) (hin : c.info.length ≤ 300) :
    Calls Try.prog 61 #[ptr g, .agg (CV c s)] w (PutIs w0 w g (l ++ startV c)) := by
  obtain ⟨W, hW⟩ : ∃ W : Nat, c.win = (W : Int) := ⟨c.win.toNat, by omega⟩
  obtain ⟨O, hO⟩ : ∃ W : Nat, c.out = (W : Int) := ⟨c.out.toNat, by omega⟩
  obtain ⟨I, hI⟩ : ∃ W : Nat, c.inn = (W : Int) := ⟨c.inn.toNat, by omega⟩
  have hgq : w.heap.size ≠ g := by obtain ⟨_, _, v, hv⟩ := h; exact (Nat.ne_of_lt hv.blk.lt).symm
  have HX : Hid (CkAt w0 s c ∧ Fit c ∧ l.length ≤ 1000 ∧ w.heap.size ≠ g ∧ c.rand.length ≤ 4000 ∧ c.addrs.length ≤ 4 ∧ adsB c.addrs = true ∧ c.info.length ≤ 300) := ⟨hc, hf, hl, hgq, by omega, han, had, hin⟩
  have HC : Hid (CkAt w0 s c) := hc
  have HV : Hid (startV c = be c.tag 4 ++ (be W 4 ++ (be O 2 ++ (be I 2 ++ (be c.tsn 4 ++ (parB (32770, c.rand) ++ (writeB (pAddrs c.addrs) ++ if c.kind = 2 then parB (7, c.info) else []))))))) := show _ = _ by
    unfold startV; rw [hW, hO, hI]; rfl
  have wW : IntKind.u64.wrap (W : Int) = (W : Int) := by rw [IntKind.wrap_u64]; omega
  have wO : IntKind.u64.wrap (O : Int) = (O : Int) := by rw [IntKind.wrap_u64]; omega
  have wI : IntKind.u64.wrap (I : Int) = (I : Int) := by rw [IntKind.wrap_u64]; omega
  have wT : IntKind.u64.wrap (c.tag : Int) = (c.tag : Int) := by rw [IntKind.wrap_u64]; have := hf.tag; omega
  have wN : IntKind.u64.wrap (c.tsn : Int) = (c.tsn : Int) := by rw [IntKind.wrap_u64]; have := hf.tsn; omega
  have h0 := h
  have hN : Hid (s.aN = c.addrs.length) := (nums_len hc.a).1
  clear h hc hf hl hw ho hi hr han had hin hgq
  go_enter Try.func61, Try.ntmps61
  go_wp2_with (first
    | (have q := st6; clear q; go_at_call 63; refine (putParam_any st6 32770 (by decide) (HC.out.r.ext st6.out) HX.out.2.2.2.2.1 (by have := HX.out.2.2.1; simp only [List.length_append, be_len]; omega)).mono ?_; rintro e w7 ⟨⟨y7, rfl⟩, st7, kk⟩; replace hb := kk _ _ _ hb (by decide) HX.out.2.2.2.1; replace HK : Hid (Kept g w w7) := HK.out.trans kk; clear kk; have c14_7 := cv14 hb)
    | (have q := st5; clear q; go_at_call 27; refine (ocNum st5 c.tsn 4 (by have := HX.out.2.2.1; (try simp only [List.length_append, be_len]); omega)).mono ?_; rintro e w6 ⟨⟨y6, rfl⟩, st6, kk⟩; rw [numB4] at st6; replace hb := kk _ _ _ hb (by decide) HX.out.2.2.2.1; replace HK : Hid (Kept g w w6) := HK.out.trans kk; clear kk; have c13_6 := cv13 hb)
    | (have q := st4; clear q; go_at_call 27; refine (ocNum st4 I 2 (by have := HX.out.2.2.1; (try simp only [List.length_append, be_len]); omega)).mono ?_; rintro e w5 ⟨⟨y5, rfl⟩, st5, kk⟩; rw [numB2] at st5; replace hb := kk _ _ _ hb (by decide) HX.out.2.2.2.1; replace HK : Hid (Kept g w w5) := HK.out.trans kk; clear kk; have c12_5 := cv12 hb)
    | (have q := st3; clear q; go_at_call 27; refine (ocNum st3 O 2 (by have := HX.out.2.2.1; (try simp only [List.length_append, be_len]); omega)).mono ?_; rintro e w4 ⟨⟨y4, rfl⟩, st4, kk⟩; rw [numB2] at st4; replace hb := kk _ _ _ hb (by decide) HX.out.2.2.2.1; replace HK : Hid (Kept g w w4) := HK.out.trans kk; clear kk; have c11_4 := cv11 hb)
    | (have q := st2; clear q; go_at_call 27; refine (ocNum st2 W 4 (by have := HX.out.2.2.1; (try simp only [List.length_append, be_len]); omega)).mono ?_; rintro e w3 ⟨⟨y3, rfl⟩, st3, kk⟩; rw [numB4] at st3; replace hb := kk _ _ _ hb (by decide) HX.out.2.2.2.1; replace HK : Hid (Kept g w w3) := HK.out.trans kk; clear kk; have c10_3 := cv10 hb)
    | (have q := st1; clear q; go_at_call 27; refine (ocNum st1 c.tag 4 (by have := HX.out.2.2.1; (try simp only [List.length_append, be_len]); omega)).mono ?_; rintro e w2 ⟨⟨y2, rfl⟩, st2, kk⟩; rw [numB4] at st2; replace hb := kk _ _ _ hb (by decide) HX.out.2.2.2.1; replace HK : Hid (Kept g w w2) := HK.out.trans kk; clear kk; have c9_2 := cv9 hb)
    | (refine wl_box (C := CV c s) rfl rfl rfl ?_; intro w1 hb he1 hx; clear hx; have st1 := h0.ext he1; have HK : Hid (Kept g w w1) := Kept.ext he1; clear he1; have c8_1 := cv8 hb))
  rw [show (((((l ++ be c.tag 4) ++ be W 4) ++ be O 2) ++ be I 2) ++ be c.tsn 4) ++ parB (32770, c.rand) = l ++ (be c.tag 4 ++ (be W 4 ++ (be O 2 ++ (be I 2 ++ (be c.tsn 4 ++ parB (32770, c.rand)))))) by simp only [List.append_assoc]] at st7
  obtain ⟨L7, hL7⟩ : ∃ L, L = l ++ (be c.tag 4 ++ (be W 4 ++ (be O 2 ++ (be I 2 ++ (be c.tsn 4 ++ parB (32770, c.rand)))))) := ⟨_, rfl⟩
  rw [← hL7] at st7
  have HL7 : Hid (l ++ startV c = L7 ++ (writeB (pAddrs c.addrs) ++ if c.kind = 2 then parB (7, c.info) else []) ∧ L7.length ≤ 6000) := ⟨by rw [HV.out, hL7]; simp only [List.append_assoc], by
    rw [hL7]
    have h1 := parB_le (32770, c.rand) HX.out.2.2.2.2.1
    have h2 := HX.out.2.2.1
    simp only [List.length_append, be_len]; omega⟩
  clear hL7 st1 st2 st3 st4 st5 st6 c8_1 c9_2 c10_3 c11_4 c12_5 c13_6 c14_7 wW wO wI wT wN hW hO hI HV
  have HS : Hid (OC w0 w7 g L7 ∧ Blk w7 w.heap.size (CV c s) 38 ∧ Kept g w w7) := ⟨st7, hb, HK.out⟩
  clear st7 hb HK
  obtain ⟨aA, haA⟩ : ∃ x, x = s.aA := ⟨_, rfl⟩
  obtain ⟨n, hn⟩ : ∃ n, n = c.addrs.length := ⟨_, rfl⟩
  rw [hN.out, ← hn, ← haA]
  have HAt : Hid (NumsAt .i64 w0 (.slice aA n s.aC) c.addrs) := show NumsAt .i64 w0 _ _ by rw [haA, hn, ← hN.out]; exact HC.out.a
  clear haA
  have hn4 : n ≤ 4 := by rw [hn]; exact HX.out.2.2.2.2.2.1
  have HN : Hid (n = c.addrs.length) := hn
  clear hn
  go_loopg [38] n (fun gm t wr => ∃ k : Nat, k ≤ n ∧ gm = n - k ∧ t = .int .i64 (k : Int) ∧ Hid (OC w0 wr g (L7 ++ writeB (pAddrs (c.addrs.take k))) ∧ Blk wr w.heap.size (CV c s) 38 ∧ Kept g w wr))
  case atStart => exact ⟨0, Nat.zero_le _, rfl, rfl, by rw [show L7 ++ writeB (pAddrs (c.addrs.take 0)) = L7 by simp [pAddrs, writeB]]; exact HS.out.1, HS.out.2.1, HS.out.2.2⟩
  case round =>
    obtain ⟨k, hk, rfl, rfl, HR⟩ := hrel
    by_cases hlt : k < n
    · have hd : decide ((k : Int) < (n : Int)) = true := decide_eq_true (by omega)
      have hkL : k < c.addrs.length := by rw [← HN.out]; exact hlt
      have hkn : (k : Int) < (n : Int) := by omega
      obtain ⟨b, off, rfl, hc0⟩ := HAt.out.cellAt k hkL
      obtain ⟨A, hA, hA2⟩ := adB_nat (all_getD HX.out.2.2.2.2.2.2.1 0 hkL)
      replace hc0 := HR.out.1.out.cell hc0
      rw [hA] at hc0
      have HA : Hid (writeB (pAddrs (c.addrs.take (k + 1))) = writeB (pAddrs (c.addrs.take k)) ++ parB (5, be A 4)) := show _ = _ by rw [pAddrs_snoc hkL, hA]; rfl
      clear hA hkL
      go_wp2_with (first
        | (go_at_call 88; refine (putAddr_any HR.out.1 5 (by decide) A hA2 (by have h1 := pAddrs_len c.addrs k; have h2 := HL7.out.2; rw [List.length_append]; omega)).mono ?_; rintro e w8 ⟨⟨y8, rfl⟩, st8, k8⟩))
      go_roundg (n - (k + 1))
      case measure => omega
      case rel => exact ⟨k + 1, by omega, rfl, by simp, by rw [HA.out, ← List.append_assoc]; exact st8, k8 _ _ _ HR.out.2.1 (by decide) HX.out.2.2.2.1, HR.out.2.2.trans k8⟩
    · have hd : decide ((k : Int) < (n : Int)) = false := decide_eq_false (by omega)
      have c0 := cv0 HR.out.2.1
      have c15 := cv15 HR.out.2.1
      have HE : Hid (OC w0 wr g (L7 ++ writeB (pAddrs c.addrs)) ∧ (L7 ++ writeB (pAddrs c.addrs)).length ≤ 7000) := by
        have h1 := HR.out.1
        rw [List.take_of_length_le (by rw [← HN.out]; omega)] at h1
        refine ⟨h1, ?_⟩
        have h2 := pAddrs_len c.addrs n
        rw [List.take_of_length_le (by rw [← HN.out]; exact Nat.le_refl _)] at h2
        have h3 := HL7.out.2
        rw [List.length_append]; omega
      by_cases hk2 : c.kind = 2
      · go_wp2_with (first
          | (go_at_call 63; refine (putParam_any HE.out.1 7 (by decide) (HC.out.i.ext HE.out.1.out) (by have := HX.out.2.2.2.2.2.2.2; omega) (by have := HE.out.2; omega)).mono ?_; rintro e w9 ⟨⟨y9, rfl⟩, st9, k9⟩))
        go_end0
        exact ⟨⟨_, rfl⟩, by rw [HL7.out.1, if_pos hk2, ← List.append_assoc]; exact st9, HR.out.2.2.trans k9⟩
      · have hk2' : (c.kind == 2) = false := beq_false_of_ne hk2
        go_wp2
        go_end0
        exact ⟨⟨_, rfl⟩, by rw [HL7.out.1, if_neg hk2, List.append_nil]; exact HE.out.1, HR.out.2.2⟩
end Tlv
end Go.Proofs.Ytobkgaceallegaa

/- The values of chunks that tell of ops, that acknowledge. No condition of its own. -/
namespace Go.Proofs.Ytobkgaceallegaa
namespace Tlv
open Go Go.RowKit
set_option linter.unusedVariables false
set_option linter.unusedSimpArgs false
set_option maxRecDepth 100000


theorem zeroOp : (Try.prog.info? 69).bind (·.zero) = some (.agg #[.int .i64 0, .int .i64 0]) := by kernel_rfl
theorem OC.lt {w0 w : World} {g : Nat} {l : List Nat} (h : OC w0 w g l) : g < w.heap.size := by obtain ⟨_, _, v, hv⟩ := h; exact hv.blk.lt
theorem OC.but {w0 w w' : World} {g q : Nat} {l : List Nat} (h : OC w0 w g l) (hq : w0.heap.size ≤ q) (hg : q ≠ g) {t : Nat} {C : Array Value} (hb : Blk w q C t) (ht : t ≠ 5) (hk : KeepBut (· = q) w w') : OC w0 w' g l := by
  obtain ⟨h1, h2, v, h3⟩ := h
  exact ⟨h1, h2.of_but hk (fun k e => by subst e; exact hq), v, h3.but hk (fun e => hg e.symm) (fun k e e2 => h3.own.ne hb ht k e e2)⟩
theorem Kept.new {g : Nat} {w w1 w2 : World} (h : Ext w w1) (hk : KeepBut (· = w.heap.size) w1 w2) : Kept g w w2 := fun q C t hb ht hq => (hb.ext h).but hk (Nat.ne_of_lt hb.lt)
def opsV (c : Ck) : List Nat := be c.serial 4 ++ writeB (pOps c.ops)
theorem opB_at {p : Int × Int} (h : opB p = true) : (1 ≤ p.1 ∧ p.1 ≤ 4) ∧ ∃ A : Nat, p.2 = (A : Int) ∧ A < 2147483648 := by
  unfold opB at h
  rw [Bool.and_eq_true] at h
  refine ⟨?_, adB_nat h.2⟩
  have := h.1
  simp [opK] at this
  omega
set_option maxHeartbeats 16000000 in
theorem putOps_any {w0 w : World} {g : Nat} {l : List Nat} {c : Ck} {s : Sv} (h : OC w0 w g l) (hc : CkAt w0 s c) (hf : Fit c) (hl : l.length ≤ 1000) (hon : c.ops.length ≤ 9) (hop : opsB c.ops = true) :
    Calls Try.prog 64 #[ptr g, .agg (CV c s)] w (PutIs w0 w g (l ++ opsV c)) := by
  have hgq : w.heap.size ≠ g := (Nat.ne_of_lt h.lt).symm
  have HX : Hid (CkAt w0 s c ∧ Fit c ∧ l.length ≤ 1000 ∧ w.heap.size ≠ g ∧ c.ops.length ≤ 9 ∧ opsB c.ops = true) := ⟨hc, hf, hl, hgq, hon, hop⟩
  have wN : IntKind.u64.wrap (c.serial : Int) = (c.serial : Int) := by rw [IntKind.wrap_u64]; have := hf.serial; omega
  have h0 := h
  have hN : Hid (s.oN = c.ops.length) := hc.o.len.1
  have HC : Hid (CkAt w0 s c) := hc
  clear h hc hf hl hgq hon hop
  go_enter Try.func64, Try.ntmps64
  go_wp2_with (first
    | (have q := st1; clear q; go_at_call 27; refine (ocNum st1 c.serial 4 (by have := HX.out.2.2.1; (try simp only [List.length_append, be_len]); omega)).mono ?_; rintro e w2 ⟨⟨y2, rfl⟩, st2, kk⟩; rw [numB4] at st2; replace hb := kk _ _ _ hb (by decide) HX.out.2.2.2.1; replace HK : Hid (Kept g w w2) := HK.out.trans kk; clear kk; have c20_2 := cv20 hb)
    | (refine wl_box (C := CV c s) rfl rfl rfl ?_; intro w1 hb he1 hx; clear hx; have st1 := h0.ext he1; have HK : Hid (Kept g w w1) := Kept.ext he1; clear he1; have c19_1 := cv19 hb))
  obtain ⟨L7, hL7⟩ : ∃ L, L = l ++ be c.serial 4 := ⟨_, rfl⟩
  rw [← hL7] at st2
  have HL7 : Hid (l ++ opsV c = L7 ++ writeB (pOps c.ops) ∧ L7.length ≤ 6000) := ⟨by rw [hL7]; unfold opsV; rw [List.append_assoc], by
    rw [hL7]
    have h2 := HX.out.2.2.1
    simp only [List.length_append, be_len]; omega⟩
  clear hL7 st1 c19_1 c20_2 wN
  have HS : Hid (OC w0 w2 g L7 ∧ Kept g w w2) := ⟨st2, HK.out⟩
  clear st2 hb HK
  obtain ⟨aA, haA⟩ : ∃ x, x = s.oA := ⟨_, rfl⟩
  obtain ⟨n, hn⟩ : ∃ n, n = c.ops.length := ⟨_, rfl⟩
  rw [hN.out, ← hn, ← haA]
  have HAt : Hid (PairsAt w0 (.slice aA n s.oC) c.ops) := show PairsAt w0 _ _ by rw [haA, hn, ← hN.out]; exact HC.out.o
  clear haA
  have hn9 : n ≤ 9 := by rw [hn]; exact HX.out.2.2.2.2.1
  have HN : Hid (n = c.ops.length) := hn
  clear hn
  go_loopg [14] n (fun gm t wr => ∃ k : Nat, k ≤ n ∧ gm = n - k ∧ t = .int .i64 (k : Int) ∧ Hid (OC w0 wr g (L7 ++ writeB (pOps (c.ops.take k))) ∧ Kept g w wr))
  case atStart => exact ⟨0, Nat.zero_le _, rfl, rfl, by rw [show L7 ++ writeB (pOps (c.ops.take 0)) = L7 by simp [pOps, writeB]]; exact HS.out.1, HS.out.2⟩
  case round =>
    obtain ⟨k, hk, rfl, rfl, HR⟩ := hrel
    by_cases hlt : k < n
    · have hd : decide ((k : Int) < (n : Int)) = true := decide_eq_true (by omega)
      have hkL : k < c.ops.length := by rw [← HN.out]; exact hlt
      have hkn : (k : Int) < (n : Int) := by omega
      obtain ⟨b, off, rfl, hc0, hc1⟩ := HAt.out.cellAt k hkL
      obtain ⟨hK, A, hA, hA2⟩ := opB_at (all_getD HX.out.2.2.2.2.2 (0, 0) hkL)
      replace hc0 := HR.out.1.out.cell hc0
      replace hc1 := HR.out.1.out.cell hc1
      obtain ⟨K, hKe⟩ : ∃ K, K = (c.ops.getD k (0, 0)).1 := ⟨_, rfl⟩
      rw [hA] at hc1
      have HA : Hid (writeB (pOps (c.ops.take (k + 1))) = writeB (pOps (c.ops.take k)) ++ parB (49152 + K, be A 4)) := show _ = _ by rw [pOps_snoc hkL, hA, hKe]; rfl
      rw [← hKe] at hc0 hK
      obtain ⟨hK1, hK2⟩ := hK
      clear hA hkL hKe
      go_wp2_with (first
        | (refine wl_loadP rfl rowOp rfl rfl hc0 hc1 ?_)
        | (refine wl_alloc rfl rfl zeroOp ?_; intro w3 hb3 he3 hx; clear hx)
        | (refine wl_store (D := #[.int .i64 K, .int .i64 (A : Int)]) rfl rowOp rfl rfl rfl hb3 rfl rfl (one_pair _ _) ?_; intro w4 hb4 hk4 hx; clear hx; have d0 := hb4.cell 0; have d1 := hb4.cell 1; have st4 := (HR.out.1.ext he3).but (Nat.le_trans HR.out.1.out.size (Nat.le_refl _)) (Nat.ne_of_lt HR.out.1.lt).symm hb3 (by decide) hk4; have HK4 : Hid (Kept g wr w4) := Kept.new he3 hk4)
        | (go_at_call 88; refine (putAddr_any st4 (49152 + K) (by omega) A hA2 (by have h1 := pOps_len c.ops k; have h2 := HL7.out.2; rw [List.length_append]; omega)).mono ?_; rintro e w8 ⟨⟨y8, rfl⟩, st8, k8⟩))
      go_roundg (n - (k + 1))
      case measure => omega
      case rel => exact ⟨k + 1, by omega, rfl, by simp, by rw [HA.out, ← List.append_assoc]; exact st8, HR.out.2.trans (HK4.out.trans k8)⟩
    · have hd : decide ((k : Int) < (n : Int)) = false := decide_eq_false (by omega)
      have HE : Hid (OC w0 wr g (L7 ++ writeB (pOps c.ops))) := by
        have h1 := HR.out.1
        rw [List.take_of_length_le (by rw [← HN.out]; omega)] at h1
        exact h1
      go_wp2
      go_end0
      exact ⟨⟨_, rfl⟩, by rw [HL7.out.1]; exact HE.out, HR.out.2⟩

/-- The bytes of gaps, of Dups. -/
def gapV (L : List (Int × Int)) : List Nat := L.flatMap fun p => be p.1.toNat 2 ++ be p.2.toNat 2
def dupV (L : List Nat) : List Nat := L.flatMap fun d => be d 4
def sackV (c : Ck) : List Nat := be c.tsn 4 ++ (be c.win.toNat 4 ++ (be c.gaps.length 2 ++ (be c.dups.length 2 ++ (gapV c.gaps ++ dupV c.dups))))
theorem gapV_snoc {L : List (Int × Int)} {k : Nat} (h : k < L.length) : gapV (L.take (k + 1)) = gapV (L.take k) ++ (be (L.getD k (0, 0)).1.toNat 2 ++ be (L.getD k (0, 0)).2.toNat 2) := by
  rw [take_snocD (0, 0) h]; simp [gapV]
theorem dupV_snoc {L : List Nat} {k : Nat} (h : k < L.length) : dupV (L.take (k + 1)) = dupV (L.take k) ++ be (L.getD k 0) 4 := by
  rw [take_snocD 0 h]; simp [dupV]
theorem gapV_len : ∀ (L : List (Int × Int)), (gapV L).length = 4 * L.length
  | [] => rfl
  | p :: L => by
    have := gapV_len L
    unfold gapV at *
    rw [List.flatMap_cons, List.length_append, List.length_append, be_len, be_len, this, List.length_cons]; omega
theorem dupV_len : ∀ (L : List Nat), (dupV L).length = 4 * L.length
  | [] => rfl
  | p :: L => by
    have := dupV_len L
    unfold dupV at *
    rw [List.flatMap_cons, List.length_append, be_len, this, List.length_cons]; omega
theorem gapsB_at : ∀ (L : List (Int × Int)) (a : Int), -1 ≤ a → gapsB a L = true → ∀ k, k < L.length → 1 ≤ (L.getD k (0, 0)).1 ∧ (L.getD k (0, 0)).1 ≤ (L.getD k (0, 0)).2 ∧ (L.getD k (0, 0)).2 ≤ 65535
  | [], _, _, _, k, hk => by simp at hk
  | p :: L, a, ha, h, k, hk => by
    rw [gapsB_cons, Bool.and_eq_true] at h
    have h1 : a + 2 ≤ p.1 ∧ p.1 ≤ p.2 ∧ p.2 ≤ 65535 := by
      have := h.1
      simp at this
      omega
    cases k with
    | zero => simpa using ⟨by omega, h1.2.1, h1.2.2⟩
    | succ k =>
      have := gapsB_at L p.2 (by omega) h.2 k (by simpa using hk)
      simpa using this
set_option maxHeartbeats 16000000 in
theorem putSack_any {w0 w : World} {g : Nat} {l : List Nat} {c : Ck} {s : Sv} (h : OC w0 w g l) (hc : CkAt w0 s c) (hf : Fit c) (hl : l.length ≤ 1000) (hw : 0 ≤ c.win ∧ c.win ≤ 2147483647) (hgn : c.gaps.length ≤ 16) (hgp : gapsB (-1) c.gaps = true) (hdn : c.dups.length ≤ 16) :
    Calls Try.prog 62 #[ptr g, .agg (CV c s)] w (PutIs w0 w g (l ++ sackV c)) := by
  obtain ⟨W, hW⟩ : ∃ W : Nat, c.win = (W : Int) := ⟨c.win.toNat, by omega⟩
  have hgq : w.heap.size ≠ g := (Nat.ne_of_lt h.lt).symm
  have HX : Hid (CkAt w0 s c ∧ Fit c ∧ l.length ≤ 1000 ∧ w.heap.size ≠ g ∧ c.gaps.length ≤ 16 ∧ gapsB (-1) c.gaps = true ∧ c.dups.length ≤ 16) := ⟨hc, hf, hl, hgq, hgn, hgp, hdn⟩
  have wW : IntKind.u64.wrap (W : Int) = (W : Int) := by rw [IntKind.wrap_u64]; omega
  have wN : IntKind.u64.wrap (c.tsn : Int) = (c.tsn : Int) := by rw [IntKind.wrap_u64]; have := hf.tsn; omega
  have hgN : s.gN = c.gaps.length := hc.g.len.1
  have hdN : s.dN = c.dups.length := by have := (nums_len hc.d).1; rwa [ci_len] at this
  have wG : IntKind.u64.wrap (c.gaps.length : Int) = (c.gaps.length : Int) := by rw [IntKind.wrap_u64]; omega
  have wD : IntKind.u64.wrap (c.dups.length : Int) = (c.dups.length : Int) := by rw [IntKind.wrap_u64]; omega
  have HV : Hid (l ++ sackV c = ((((l ++ be c.tsn 4) ++ be W 4) ++ be c.gaps.length 2) ++ be c.dups.length 2) ++ (gapV c.gaps ++ dupV c.dups)) := show _ = _ by
    unfold sackV; rw [hW]; simp only [List.append_assoc]; rfl
  have HGN : Hid (s.gN = c.gaps.length ∧ s.dN = c.dups.length) := ⟨hgN, hdN⟩
  have h0 := h
  have HC : Hid (CkAt w0 s c) := hc
  obtain ⟨N, hNg⟩ : ∃ n, n = c.gaps.length := ⟨_, rfl⟩
  obtain ⟨M, hMd⟩ : ∃ n, n = c.dups.length := ⟨_, rfl⟩
  have hN16 : N ≤ 16 := by omega
  have hM16 : M ≤ 16 := by omega
  rw [← hNg] at wG hgN HV
  rw [← hMd] at wD hdN HV
  have HN : Hid (N = c.gaps.length ∧ M = c.dups.length) := ⟨hNg, hMd⟩
  clear h hc hf hl hgq hw hgn hgp hdn hNg hMd
  go_enter Try.func62, Try.ntmps62
  go_wp2_with (first
    | (have q := st4; clear q; go_at_call 27; refine (ocNum st4 M 2 (by have := HX.out.2.2.1; (try simp only [List.length_append, be_len]); omega)).mono ?_; rintro e w5 ⟨⟨y5, rfl⟩, st5, kk⟩; rw [numB2] at st5; replace hb := kk _ _ _ hb (by decide) HX.out.2.2.2.1; replace HK : Hid (Kept g w w5) := HK.out.trans kk; clear kk; have c16_5 := cv16 hb)
    | (have q := st3; clear q; go_at_call 27; refine (ocNum st3 N 2 (by have := HX.out.2.2.1; (try simp only [List.length_append, be_len]); omega)).mono ?_; rintro e w4 ⟨⟨y4, rfl⟩, st4, kk⟩; rw [numB2] at st4; replace hb := kk _ _ _ hb (by decide) HX.out.2.2.2.1; replace HK : Hid (Kept g w w4) := HK.out.trans kk; clear kk; have c17_4 := cv17 hb)
    | (have q := st2; clear q; go_at_call 27; refine (ocNum st2 W 4 (by have := HX.out.2.2.1; (try simp only [List.length_append, be_len]); omega)).mono ?_; rintro e w3 ⟨⟨y3, rfl⟩, st3, kk⟩; rw [numB4] at st3; replace hb := kk _ _ _ hb (by decide) HX.out.2.2.2.1; replace HK : Hid (Kept g w w3) := HK.out.trans kk; clear kk; have c16_3 := cv16 hb)
    | (have q := st1; clear q; go_at_call 27; refine (ocNum st1 c.tsn 4 (by have := HX.out.2.2.1; (try simp only [List.length_append, be_len]); omega)).mono ?_; rintro e w2 ⟨⟨y2, rfl⟩, st2, kk⟩; rw [numB4] at st2; replace hb := kk _ _ _ hb (by decide) HX.out.2.2.2.1; replace HK : Hid (Kept g w w2) := HK.out.trans kk; clear kk; have c9_2 := cv9 hb)
    | (refine wl_box (C := CV c s) rfl rfl rfl ?_; intro w1 hb he1 hx; clear hx; have st1 := h0.ext he1; have HK : Hid (Kept g w w1) := Kept.ext he1; clear he1; have c12_1 := cv12 hb))
  obtain ⟨L7, hL7⟩ : ∃ L, L = (((l ++ be c.tsn 4) ++ be W 4) ++ be N 2) ++ be M 2 := ⟨_, rfl⟩
  rw [← hL7] at st5
  have HL7 : Hid (l ++ sackV c = L7 ++ (gapV c.gaps ++ dupV c.dups) ∧ L7.length ≤ 6000) := ⟨by rw [hL7]; exact HV.out, by
    rw [hL7]
    have h2 := HX.out.2.2.1
    simp only [List.length_append, be_len]; omega⟩
  clear hL7 st1 st2 st3 st4 c12_1 c9_2 c16_3 c17_4 c16_5 wN wW wG wD HV hW
  have HS : Hid (OC w0 w5 g L7 ∧ Blk w5 w.heap.size (CV c s) 38 ∧ Kept g w w5) := ⟨st5, hb, HK.out⟩
  clear st5 hb HK
  obtain ⟨aA, haA⟩ : ∃ x, x = s.gA := ⟨_, rfl⟩
  rw [← haA]
  have HAt : Hid (PairsAt w0 (.slice aA N s.gC) c.gaps) := show PairsAt w0 _ _ by rw [haA, HN.out.1, ← HGN.out.1]; exact HC.out.g
  clear haA hgN
  go_loopg [33] N (fun gm t wr => ∃ k : Nat, k ≤ N ∧ gm = N - k ∧ t = .int .i64 (k : Int) ∧ Hid (OC w0 wr g (L7 ++ gapV (c.gaps.take k)) ∧ Blk wr w.heap.size (CV c s) 38 ∧ Kept g w wr))
  case atStart => exact ⟨0, Nat.zero_le _, rfl, rfl, by rw [show L7 ++ gapV (c.gaps.take 0) = L7 by simp [gapV]]; exact HS.out.1, HS.out.2⟩
  case round =>
    obtain ⟨k, hk, rfl, rfl, HR⟩ := hrel
    by_cases hlt : k < N
    · have hd : decide ((k : Int) < (N : Int)) = true := decide_eq_true (by omega)
      have hkL : k < c.gaps.length := by rw [← HN.out.1]; exact hlt
      have hkn : (k : Int) < (N : Int) := by omega
      obtain ⟨b, off, rfl, hc0, hc1⟩ := HAt.out.cellAt k hkL
      obtain ⟨hg1, hg2, hg3⟩ := gapsB_at c.gaps (-1) (by omega) HX.out.2.2.2.2.2.1 k hkL
      replace hc0 := HR.out.1.out.cell hc0
      replace hc1 := HR.out.1.out.cell hc1
      obtain ⟨A, hA⟩ : ∃ A : Nat, (c.gaps.getD k (0, 0)).1 = (A : Int) := ⟨_, (Int.toNat_of_nonneg (by omega)).symm⟩
      obtain ⟨B, hB⟩ : ∃ A : Nat, (c.gaps.getD k (0, 0)).2 = (A : Int) := ⟨_, (Int.toNat_of_nonneg (by omega)).symm⟩
      rw [hA] at hc0 hg1 hg2
      rw [hB] at hc1 hg2 hg3
      have HA : Hid (gapV (c.gaps.take (k + 1)) = gapV (c.gaps.take k) ++ (be A 2 ++ be B 2)) := show _ = _ by rw [gapV_snoc hkL, hA, hB]; rfl
      have HLK : Hid ((L7 ++ gapV (c.gaps.take k)).length ≤ 7000) := by
        have h1 := gapV_len (c.gaps.take k)
        have h2 := HL7.out.2
        have h3 := HX.out.2.2.2.2.1
        rw [List.length_take] at h1
        show _ ≤ _
        rw [List.length_append, h1]; omega
      have wA : IntKind.u64.wrap (A : Int) = (A : Int) := by rw [IntKind.wrap_u64]; omega
      have wB : IntKind.u64.wrap (B : Int) = (B : Int) := by rw [IntKind.wrap_u64]; omega
      clear hA hB hkL hg1 hg2 hg3
      go_wp2_with (first
        | (refine wl_loadP rfl rowGp rfl rfl hc0 hc1 ?_)
        | (refine wl_alloc rfl rfl zeroGp ?_; intro w6 hb6 he6 hx; clear hx)
        | (refine wl_store (D := #[.int .i64 (A : Int), .int .i64 (B : Int)]) rfl rowGp rfl rfl rfl hb6 rfl rfl (one_pair _ _) ?_; intro w7 hb7 hk7 hx; clear hx; have d0 := hb7.cell 0; have st7 := (HR.out.1.ext he6).but (Nat.le_trans HR.out.1.out.size (Nat.le_refl _)) (Nat.ne_of_lt HR.out.1.lt).symm hb6 (by decide) hk7; have HK7 : Hid (Kept g wr w7 ∧ wr.heap.size ≠ g) := ⟨Kept.new he6 hk7, (Nat.ne_of_lt HR.out.1.lt).symm⟩)
        | (have q := st8; clear q; go_at_call 27; refine (ocNum st8 B 2 (by have := HLK.out; simp only [List.length_append, be_len] at *; omega)).mono ?_; rintro e w9 ⟨⟨y9, rfl⟩, st9, k9⟩; rw [numB2] at st9)
        | (have q := st7; clear q; go_at_call 27; refine (ocNum st7 A 2 (by have := HLK.out; omega)).mono ?_; rintro e w8 ⟨⟨y8, rfl⟩, st8, k8⟩; rw [numB2] at st8; have d1 := (k8 _ _ _ hb7 (by decide) HK7.out.2).cell 1))
      go_roundg (N - (k + 1))
      case measure => omega
      case rel =>
        have kk := HK7.out.1.trans (k8.trans k9)
        exact ⟨k + 1, by omega, rfl, by simp, by rw [HA.out, ← List.append_assoc, ← List.append_assoc]; exact st9, kk _ _ _ HR.out.2.1 (by decide) HX.out.2.2.2.1, HR.out.2.2.trans kk⟩
    · have hd : decide ((k : Int) < (N : Int)) = false := decide_eq_false (by omega)
      obtain ⟨L8, hL8⟩ : ∃ L, L = L7 ++ gapV c.gaps := ⟨_, rfl⟩
      have HL8 : Hid (l ++ sackV c = L8 ++ dupV c.dups ∧ L8.length ≤ 6500) := ⟨by rw [hL8, HL7.out.1, List.append_assoc], by
        have h1 := gapV_len c.gaps
        have h2 := HL7.out.2
        have h3 := HX.out.2.2.2.2.1
        rw [hL8, List.length_append, h1]; omega⟩
      have HE : Hid (OC w0 wr g L8 ∧ Blk wr w.heap.size (CV c s) 38 ∧ Kept g w wr) := by
        have h1 := HR.out.1
        rw [List.take_of_length_le (by rw [← HN.out.1]; omega), ← hL8] at h1
        exact ⟨h1, HR.out.2⟩
      clear hL8
      have c17 := cv17 HE.out.2.1
      go_wp2_with fail
      obtain ⟨bA, hbA⟩ : ∃ x, x = s.dA := ⟨_, rfl⟩
      rw [← hbA]
      have HBt : Hid (NumsAt .u32 w0 (.slice bA M s.dC) (ci c.dups)) := show NumsAt .u32 w0 _ _ by rw [hbA, HN.out.2, ← HGN.out.2]; exact HC.out.d
      clear hbA hdN c17
      go_loopg [51] M (fun gm t wi => ∃ k : Nat, k ≤ M ∧ gm = M - k ∧ t = .int .i64 (k : Int) ∧ Hid (OC w0 wi g (L8 ++ dupV (c.dups.take k)) ∧ Kept g w wi))
      case atStart => exact ⟨0, Nat.zero_le _, rfl, rfl, by rw [show L8 ++ dupV (c.dups.take 0) = L8 by simp [dupV]]; exact HE.out.1, HE.out.2.2⟩
      case round =>
        obtain ⟨j, hj, rfl, rfl, HQ⟩ := hrel
        by_cases hlt2 : j < M
        · have hd2 : decide ((j : Int) < (M : Int)) = true := decide_eq_true (by omega)
          have hjL : j < c.dups.length := by rw [← HN.out.2]; exact hlt2
          have hjn : (j : Int) < (M : Int) := by omega
          obtain ⟨b, off, rfl, hc0⟩ := HBt.out.cellAt j (by rw [ci_len]; exact hjL)
          rw [ci_get] at hc0
          replace hc0 := HQ.out.1.out.cell hc0
          have hA3 : c.dups.getD j 0 < 4294967296 := HX.out.2.1.dups _ (getD_mem _ _ _ hjL)
          obtain ⟨A, hA⟩ : ∃ A : Nat, A = c.dups.getD j 0 := ⟨_, rfl⟩
          rw [← hA] at hc0 hA3
          have HA : Hid (dupV (c.dups.take (j + 1)) = dupV (c.dups.take j) ++ be A 4) := show _ = _ by rw [dupV_snoc hjL, hA]
          have HLK : Hid ((L8 ++ dupV (c.dups.take j)).length ≤ 7000) := by
            have h1 := dupV_len (c.dups.take j)
            have h2 := HL8.out.2
            have h3 := HX.out.2.2.2.2.2.2
            rw [List.length_take] at h1
            show _ ≤ _
            rw [List.length_append, h1]; omega
          have wA : IntKind.u64.wrap (A : Int) = (A : Int) := by rw [IntKind.wrap_u64]; omega
          clear hA hjL hA3
          go_wp2_with (first
            | (go_at_call 27; refine (ocNum HQ.out.1 A 4 (by have := HLK.out; omega)).mono ?_; rintro e w8 ⟨⟨y8, rfl⟩, st8, k8⟩; rw [numB4] at st8))
          go_roundg (M - (j + 1))
          case measure => omega
          case rel => exact ⟨j + 1, by omega, rfl, by simp, by rw [HA.out, ← List.append_assoc]; exact st8, HQ.out.2.trans k8⟩
        · have hd2 : decide ((j : Int) < (M : Int)) = false := decide_eq_false (by omega)
          have HF : Hid (OC w0 wr g (L8 ++ dupV c.dups)) := by
            have h1 := HQ.out.1
            rw [List.take_of_length_le (by rw [← HN.out.2]; omega)] at h1
            exact h1
          go_wp2
          go_end0
          exact ⟨⟨_, rfl⟩, by rw [HL8.out.1]; exact HF.out, HQ.out.2⟩
end Tlv
end Go.Proofs.Ytobkgaceallegaa

/- What a good chunk is, and its bytes, as lists. No condition of its own. -/
namespace Go.Proofs.Ytobkgaceallegaa
namespace Tlv
open Go Go.RowKit
set_option linter.unusedVariables false
set_option linter.unusedSimpArgs false
set_option maxRecDepth 100000


theorem ci_inj {l m : List Nat} (h : ci l = ci m) : l = m := by
  unfold ci at h
  exact (List.map_inj_right (f := fun x : Nat => (x : Int)) (fun a b hab => Int.ofNat.inj hab)).1 h
theorem sameB_eq {c d : Ck} (h : sameB c d = true) : c = d := by
  cases c
  cases d
  simp only [sameB, samePB, Bool.and_eq_true, beq_iff_eq, decide_eq_true_eq] at h
  obtain ⟨⟨⟨⟨⟨⟨⟨⟨⟨⟨⟨⟨⟨⟨⟨h1, ⟨⟨⟨⟨⟨p1, p2⟩, p3⟩, p4⟩, p5⟩, p6⟩, p7⟩, h3⟩, h4⟩, h5⟩, h6⟩, h7⟩, h8⟩, h9⟩, h10⟩, h11⟩, h12⟩, h13⟩, h14⟩, h15⟩, h16⟩ := h
  have e12 := ci_inj h12
  have q1 := Int.ofNat.inj p1
  have q2 := Int.ofNat.inj p2
  have q3 := Int.ofNat.inj p3
  have q4 := Int.ofNat.inj h3
  have q5 := Int.ofNat.inj h7
  have q6 := Int.ofNat.inj h14
  simp_all
theorem sameB_refl (c : Ck) : sameB c c = true := by simp [sameB, samePB]
theorem sameB_iff (c d : Ck) : sameB c d = true ↔ c = d := ⟨sameB_eq, fun h => by subst h; exact sameB_refl c⟩
/-- What a good chunk is. -/
structure GoodC (c : Ck) : Prop where
  kn : knB c.kind = true
  fits : fitsB c = true
  use : c = usedC c
theorem goodB_iff (c : Ck) : goodB c = true ↔ GoodC c := by
  unfold goodB
  rw [Bool.and_eq_true, Bool.and_eq_true, sameB_iff]
  exact ⟨fun h => ⟨h.1.1, h.1.2, h.2⟩, fun h => ⟨⟨h.kn, h.fits⟩, h.use⟩⟩
theorem knB_cases {k : Int} (h : knB k = true) : k = 0 ∨ k = 1 ∨ k = 2 ∨ k = 3 ∨ k = 4 ∨ k = 5 ∨ k = 6 ∨ k = 7 ∨ k = 8 ∨ k = 9 ∨ k = 10 ∨ k = 11 ∨ k = 14 ∨ k = 15 ∨ k = 128 ∨ k = 193 := by
  simpa [knB, kinds] using h
/-- The value of a chunk. -/
def valB (c : Ck) : List Nat :=
  if c.kind = 0 then ((be c.ptsn 4 ++ be c.pstr 2) ++ be c.pseq 2) ++ c.text
  else if c.kind = 1 ∨ c.kind = 2 then startV c
  else if c.kind = 3 then sackV c
  else if c.kind = 4 ∨ c.kind = 5 then parB (1, c.info)
  else if c.kind = 6 ∨ c.kind = 9 then be c.cause.toNat 2 ++ be 4 2
  else if c.kind = 7 then be c.tsn 4
  else if c.kind = 10 ∨ c.kind = 15 then c.info
  else if c.kind = 193 then opsV c
  else if c.kind = 128 then be c.serial 4 ++ be (if c.ok = true then 1 else 0) 4
  else []
/-- The bytes of a chunk. -/
def bytesB (c : Ck) : List Nat := padB (((be c.kind.toNat 1 ++ be (flagN c.pb c.pe c.pu) 1) ++ be ((valB c).length + 4) 2) ++ valB c)
/-- What a chunk of the kinds that begin is. -/
structure StartC (c : Ck) : Prop where
  tag : c.tag ≠ 0
  win : 0 ≤ c.win ∧ c.win ≤ 2147483647
  out : 1 ≤ c.out ∧ c.out ≤ 8
  inn : 1 ≤ c.inn ∧ c.inn ≤ 8
  rand : 1 ≤ c.rand.length ∧ c.rand.length ≤ 64
  addrs : 1 ≤ c.addrs.length ∧ c.addrs.length ≤ 4
  ads : adsB c.addrs = true
theorem startB_iff (c : Ck) : startB c = true ↔ StartC c := by
  unfold startB
  simp only [Bool.and_eq_true, inB_iff, bne_iff_ne]
  constructor
  · rintro ⟨⟨⟨⟨⟨h1, h2⟩, h3⟩, h4⟩, h5⟩, h6, h7⟩
    exact ⟨by omega, h2, h3, h4, by omega, by omega, h7⟩
  · rintro ⟨h1, h2, h3, h4, h5, h6, h7⟩
    exact ⟨⟨⟨⟨⟨by omega, h2⟩, h3⟩, h4⟩, by omega⟩, by omega, h7⟩
theorem good_0 {c : Ck} (h : GoodC c) (hk : c.kind = 0) : 1 ≤ c.text.length ∧ c.text.length ≤ 64 := by
  have := h.fits; simp only [fitsB, hk, if_true, inB_iff] at this; omega
theorem good_1 {c : Ck} (h : GoodC c) (hk : c.kind = 1) : StartC c := by
  have := h.fits; simp [fitsB, hk] at this; exact (startB_iff c).1 this
theorem good_2 {c : Ck} (h : GoodC c) (hk : c.kind = 2) : StartC c ∧ 1 ≤ c.info.length ∧ c.info.length ≤ 300 := by
  have := h.fits; simp [fitsB, hk] at this
  exact ⟨(startB_iff c).1 this.1, by have := (inB_iff _ _ _).1 this.2; omega⟩
theorem good_3 {c : Ck} (h : GoodC c) (hk : c.kind = 3) : (0 ≤ c.win ∧ c.win ≤ 2147483647) ∧ gapsB (-1) c.gaps = true ∧ c.gaps.length ≤ 16 ∧ c.dups.length ≤ 16 := by
  have := h.fits; simp [fitsB, hk] at this
  exact ⟨(inB_iff _ _ _).1 this.1.1, this.1.2.1, by omega, by omega⟩
theorem good_info {c : Ck} (h : GoodC c) (hk : c.kind = 4 ∨ c.kind = 5 ∨ c.kind = 10) : 1 ≤ c.info.length ∧ c.info.length ≤ 300 := by
  have := h.fits
  have : inB (c.info.length : Int) 1 300 = true := by rcases hk with hk | hk | hk <;> simpa [fitsB, hk] using this
  have := (inB_iff _ _ _).1 this; omega
theorem good_15 {c : Ck} (h : GoodC c) (hk : c.kind = 15) : c.info.length = 32 := by
  have := h.fits; simp [fitsB, hk] at this; omega
theorem good_cause {c : Ck} (h : GoodC c) (hk : c.kind = 6 ∨ c.kind = 9) : 0 ≤ c.cause ∧ c.cause ≤ 65535 := by
  have := h.fits
  have : inB c.cause 0 65535 = true := by rcases hk with hk | hk <;> simpa [fitsB, hk] using this
  exact (inB_iff _ _ _).1 this
theorem good_193 {c : Ck} (h : GoodC c) (hk : c.kind = 193) : (1 ≤ c.ops.length ∧ c.ops.length ≤ 9) ∧ opsB c.ops = true := by
  have := h.fits; simp [fitsB, hk] at this
  exact ⟨by have := (inB_iff _ _ _).1 this.1; omega, this.2⟩
theorem startV_len {c : Ck} (h : StartC c) (hi : c.info.length ≤ 300) : (startV c).length ≤ 600 := by
  unfold startV
  have h1 := h.rand
  have h2 := h.addrs
  have h3 := pAddrs_len c.addrs c.addrs.length
  rw [List.take_length] at h3
  have h4 := pads_lt c.rand.length
  have h5 := pads_lt c.info.length
  simp only [List.length_append, be_len, parB_len]
  split
  · rw [parB_len]; dsimp only; omega
  · simp only [List.length_nil]; omega
theorem valB_len {c : Ck} (h : GoodC c) : (valB c).length ≤ 600 := by
  unfold valB
  split
  · rename_i hk
    have := good_0 h hk
    simp only [List.length_append, be_len]; omega
  split
  · rename_i _ hk
    rcases hk with hk | hk
    · refine startV_len (good_1 h hk) ?_
      have := h.use; rw [usedC_1 hk] at this; rw [this]; simp [ck0]
    · exact startV_len (good_2 h hk).1 (good_2 h hk).2.2
  split
  · rename_i _ _ hk
    have := good_3 h hk
    unfold sackV
    simp only [List.length_append, be_len, gapV_len, dupV_len]; omega
  split
  · rename_i _ _ _ hk
    have := good_info h (hk.imp id .inl)
    have h4 := pads_lt c.info.length
    rw [parB_len]; dsimp only; omega
  split
  · simp only [List.length_append, be_len]; omega
  split
  · simp only [be_len]; omega
  split
  · rename_i _ _ _ _ _ _ hk
    rcases hk with hk | hk
    · have := good_info h (.inr (.inr hk)); omega
    · have := good_15 h hk; omega
  split
  · rename_i _ _ _ _ _ _ _ hk
    have := good_193 h hk
    unfold opsV
    have h3 := pOps_len c.ops c.ops.length
    rw [List.take_length] at h3
    simp only [List.length_append, be_len]; omega
  split
  · simp only [List.length_append, be_len]; omega
  · simp
end Tlv
end Go.Proofs.Ytobkgaceallegaa

/- The bytes of a chunk, by the program. No condition of its own. -/
namespace Go.Proofs.Ytobkgaceallegaa
namespace Tlv
open Go Go.RowKit
set_option linter.unusedVariables false
set_option linter.unusedSimpArgs false
set_option maxRecDepth 100000


def ValueIs (w : World) (c : Ck) (e : Ending) (w' : World) : Prop := ∃ a n cp, e = .returned (.slice a n cp) ∧ n = (valB c).length ∧ OB w' w.heap.size (.slice a n cp) (valB c) ∧ Ext w w'
set_option maxHeartbeats 8000000 in
theorem value_0 {w : World} {c : Ck} {s : Sv} (ha : CkAt w s c) (hf : Fit c) (hg : GoodC c) (hk : c.kind = 0) :
    Calls Try.prog 26 #[.agg (CV c s)] w (ValueIs w c) := by
  have HB : Hid ((valB c).length ≤ 600) := valB_len hg
  have hw := good_0 hg hk
  have HB2 : Hid (c.text.length ≤ 64) := hw.2
  clear hw
  have w1_ : IntKind.u64.wrap (c.ptsn : Int) = (c.ptsn : Int) := by rw [IntKind.wrap_u64]; have := hf.ptsn; omega
  have w2_ : IntKind.u64.wrap (c.pstr : Int) = (c.pstr : Int) := by rw [IntKind.wrap_u64]; have := hf.pstr; omega
  have w3_ : IntKind.u64.wrap (c.pseq : Int) = (c.pseq : Int) := by rw [IntKind.wrap_u64]; have := hf.pseq; omega
  have HV : Hid (valB c = ((be c.ptsn 4 ++ be c.pstr 2) ++ be c.pseq 2) ++ c.text) := show _ = _ by simp [valB, hk]
  go_enter Try.func26, Try.ntmps26
  go_wp2_with (first
    | (have q := st6; clear q; go_at_call 31; refine (ocBytes st6 (by have := HB.out; have := HV.out; rw [← this]; omega)).mono ?_; rintro e wz ⟨az, nz, cz, rfl, hnz, hoz, hez⟩; have HZ : Hid (nz = (valB c).length) := hnz.trans (congrArg List.length HV.out.symm); clear hnz; rw [← HV.out] at hoz)
    | (have q := st5; clear q; go_at_call 29; refine (ocPut st5 ((HC.t).ext st5.out) (by have := HB2.out; (try simp only [List.length_append, be_len, List.length_nil]); omega)).mono ?_; rintro e w6 ⟨⟨y6, rfl⟩, st6, kk6⟩; clear kk6)
    | (have q := st4; clear q; go_at_call 27; refine (ocNum st4 c.pseq 2 (by (try simp only [List.length_append, be_len, List.length_nil]); omega)).mono ?_; rintro e w5 ⟨⟨y5, rfl⟩, st5, kk5⟩; clear kk5; rw [numB2] at st5; have d7_5 := cv7 (hb1.ext st5.out))
    | (have q := st3; clear q; go_at_call 27; refine (ocNum st3 c.pstr 2 (by (try simp only [List.length_append, be_len, List.length_nil]); omega)).mono ?_; rintro e w4 ⟨⟨y4, rfl⟩, st4, kk4⟩; clear kk4; rw [numB2] at st4; have d3_4 := cv3 (hb1.ext st4.out))
    | (have q := st2; clear q; go_at_call 27; refine (ocNum st2 c.ptsn 4 (by (try simp only [List.length_append, be_len, List.length_nil]); omega)).mono ?_; rintro e w3 ⟨⟨y3, rfl⟩, st3, kk3⟩; clear kk3; rw [numB4, List.nil_append] at st3; have d2_3 := cv2 (hb1.ext st3.out))
    | (refine wl_alloc rfl rfl zeroO ?_; intro w2 hb2 he2 hx; clear hx; have st2 := OC.new hb2 he2; have d0_2 := cv0 (hb1.ext st2.out); clear hb2; have d1_2 := cv1 (hb1.ext st2.out))
    | (refine wl_box (C := CV c s) rfl rfl rfl ?_; intro w1 hb1 he1 hx; clear hx; have HC := ha.ext he1))
  go_ret
  exact ⟨_, _, _, rfl, HZ.out, hoz.base he1.size, (he1.trans st6.out).trans hez⟩
set_option maxHeartbeats 8000000 in
theorem value_1 {w : World} {c : Ck} {s : Sv} (ha : CkAt w s c) (hf : Fit c) (hg : GoodC c) (hk : c.kind = 1) :
    Calls Try.prog 26 #[.agg (CV c s)] w (ValueIs w c) := by
  have HB : Hid ((valB c).length ≤ 600) := valB_len hg
  have HS : Hid (StartC c ∧ c.info.length ≤ 300) := ⟨good_1 hg hk, (by have := hg.use; rw [usedC_1 hk] at this; rw [this]; simp [ck0])⟩
  have HV : Hid (valB c = startV c) := show _ = _ by simp [valB, hk]
  go_enter Try.func26, Try.ntmps26
  go_wp2_with (first
    | (have q := st3; clear q; go_at_call 31; refine (ocBytes st3 (by have := HB.out; have := HV.out; rw [← this]; omega)).mono ?_; rintro e wz ⟨az, nz, cz, rfl, hnz, hoz, hez⟩; have HZ : Hid (nz = (valB c).length) := hnz.trans (congrArg List.length HV.out.symm); clear hnz; rw [← HV.out] at hoz)
    | (have q := st2; clear q; go_at_call 61; refine (putStart_any st2 HC hf (by simp) HS.out.1.win (by have := HS.out.1.out; omega) (by have := HS.out.1.inn; omega) HS.out.1.rand.2 HS.out.1.addrs.2 HS.out.1.ads HS.out.2).mono ?_; rintro e w3 ⟨⟨y3, rfl⟩, st3, kk3⟩; clear kk3; rw [List.nil_append] at st3)
    | (have q := st2; clear q; refine wl_load rfl rowC rfl rfl (hb1.ext st2.out) rfl ?_)
    | (refine wl_alloc rfl rfl zeroO ?_; intro w2 hb2 he2 hx; clear hx; have st2 := OC.new hb2 he2; have d0_2 := cv0 (hb1.ext st2.out); clear hb2; have d0_2 := cv0 (hb1.ext st2.out))
    | (refine wl_box (C := CV c s) rfl rfl rfl ?_; intro w1 hb1 he1 hx; clear hx; have HC := ha.ext he1))
  go_ret
  exact ⟨_, _, _, rfl, HZ.out, hoz.base he1.size, (he1.trans st3.out).trans hez⟩
set_option maxHeartbeats 8000000 in
theorem value_2 {w : World} {c : Ck} {s : Sv} (ha : CkAt w s c) (hf : Fit c) (hg : GoodC c) (hk : c.kind = 2) :
    Calls Try.prog 26 #[.agg (CV c s)] w (ValueIs w c) := by
  have HB : Hid ((valB c).length ≤ 600) := valB_len hg
  have HS : Hid (StartC c ∧ c.info.length ≤ 300) := ⟨(good_2 hg hk).1, (good_2 hg hk).2.2⟩
  have HV : Hid (valB c = startV c) := show _ = _ by simp [valB, hk]
  go_enter Try.func26, Try.ntmps26
  go_wp2_with (first
    | (have q := st3; clear q; go_at_call 31; refine (ocBytes st3 (by have := HB.out; have := HV.out; rw [← this]; omega)).mono ?_; rintro e wz ⟨az, nz, cz, rfl, hnz, hoz, hez⟩; have HZ : Hid (nz = (valB c).length) := hnz.trans (congrArg List.length HV.out.symm); clear hnz; rw [← HV.out] at hoz)
    | (have q := st2; clear q; go_at_call 61; refine (putStart_any st2 HC hf (by simp) HS.out.1.win (by have := HS.out.1.out; omega) (by have := HS.out.1.inn; omega) HS.out.1.rand.2 HS.out.1.addrs.2 HS.out.1.ads HS.out.2).mono ?_; rintro e w3 ⟨⟨y3, rfl⟩, st3, kk3⟩; clear kk3; rw [List.nil_append] at st3)
    | (have q := st2; clear q; refine wl_load rfl rowC rfl rfl (hb1.ext st2.out) rfl ?_)
    | (refine wl_alloc rfl rfl zeroO ?_; intro w2 hb2 he2 hx; clear hx; have st2 := OC.new hb2 he2; have d0_2 := cv0 (hb1.ext st2.out); clear hb2; have d0_2 := cv0 (hb1.ext st2.out))
    | (refine wl_box (C := CV c s) rfl rfl rfl ?_; intro w1 hb1 he1 hx; clear hx; have HC := ha.ext he1))
  go_ret
  exact ⟨_, _, _, rfl, HZ.out, hoz.base he1.size, (he1.trans st3.out).trans hez⟩
set_option maxHeartbeats 8000000 in
theorem value_3 {w : World} {c : Ck} {s : Sv} (ha : CkAt w s c) (hf : Fit c) (hg : GoodC c) (hk : c.kind = 3) :
    Calls Try.prog 26 #[.agg (CV c s)] w (ValueIs w c) := by
  have HB : Hid ((valB c).length ≤ 600) := valB_len hg
  have HS : Hid ((0 ≤ c.win ∧ c.win ≤ 2147483647) ∧ gapsB (-1) c.gaps = true ∧ c.gaps.length ≤ 16 ∧ c.dups.length ≤ 16) := good_3 hg hk
  have HV : Hid (valB c = sackV c) := show _ = _ by simp [valB, hk]
  go_enter Try.func26, Try.ntmps26
  go_wp2_with (first
    | (have q := st3; clear q; go_at_call 31; refine (ocBytes st3 (by have := HB.out; have := HV.out; rw [← this]; omega)).mono ?_; rintro e wz ⟨az, nz, cz, rfl, hnz, hoz, hez⟩; have HZ : Hid (nz = (valB c).length) := hnz.trans (congrArg List.length HV.out.symm); clear hnz; rw [← HV.out] at hoz)
    | (have q := st2; clear q; go_at_call 62; refine (putSack_any st2 HC hf (by simp) HS.out.1 HS.out.2.2.1 HS.out.2.1 HS.out.2.2.2).mono ?_; rintro e w3 ⟨⟨y3, rfl⟩, st3, kk3⟩; clear kk3; rw [List.nil_append] at st3)
    | (have q := st2; clear q; refine wl_load rfl rowC rfl rfl (hb1.ext st2.out) rfl ?_)
    | (refine wl_alloc rfl rfl zeroO ?_; intro w2 hb2 he2 hx; clear hx; have st2 := OC.new hb2 he2; have d0_2 := cv0 (hb1.ext st2.out); clear hb2; have d0_2 := cv0 (hb1.ext st2.out))
    | (refine wl_box (C := CV c s) rfl rfl rfl ?_; intro w1 hb1 he1 hx; clear hx; have HC := ha.ext he1))
  go_ret
  exact ⟨_, _, _, rfl, HZ.out, hoz.base he1.size, (he1.trans st3.out).trans hez⟩
set_option maxHeartbeats 8000000 in
theorem value_4 {w : World} {c : Ck} {s : Sv} (ha : CkAt w s c) (hf : Fit c) (hg : GoodC c) (hk : c.kind = 4) :
    Calls Try.prog 26 #[.agg (CV c s)] w (ValueIs w c) := by
  have HB : Hid ((valB c).length ≤ 600) := valB_len hg
  have HS : Hid (1 ≤ c.info.length ∧ c.info.length ≤ 300) := good_info hg (by simp [hk])
  have HV : Hid (valB c = parB (1, c.info)) := show _ = _ by simp [valB, hk]
  go_enter Try.func26, Try.ntmps26
  go_wp2_with (first
    | (have q := st3; clear q; go_at_call 31; refine (ocBytes st3 (by have := HB.out; have := HV.out; rw [← this]; omega)).mono ?_; rintro e wz ⟨az, nz, cz, rfl, hnz, hoz, hez⟩; have HZ : Hid (nz = (valB c).length) := hnz.trans (congrArg List.length HV.out.symm); clear hnz; rw [← HV.out] at hoz)
    | (have q := st2; clear q; go_at_call 63; refine (putParam_any st2 1 (by decide) (HC.i.ext st2.out) (by have := HS.out.2; omega) (by simp)).mono ?_; rintro e w3 ⟨⟨y3, rfl⟩, st3, kk3⟩; clear kk3; rw [List.nil_append] at st3)
    | (refine wl_alloc rfl rfl zeroO ?_; intro w2 hb2 he2 hx; clear hx; have st2 := OC.new hb2 he2; have d0_2 := cv0 (hb1.ext st2.out); clear hb2; have d15_2 := cv15 (hb1.ext st2.out))
    | (refine wl_box (C := CV c s) rfl rfl rfl ?_; intro w1 hb1 he1 hx; clear hx; have HC := ha.ext he1))
  go_ret
  exact ⟨_, _, _, rfl, HZ.out, hoz.base he1.size, (he1.trans st3.out).trans hez⟩
set_option maxHeartbeats 8000000 in
theorem value_5 {w : World} {c : Ck} {s : Sv} (ha : CkAt w s c) (hf : Fit c) (hg : GoodC c) (hk : c.kind = 5) :
    Calls Try.prog 26 #[.agg (CV c s)] w (ValueIs w c) := by
  have HB : Hid ((valB c).length ≤ 600) := valB_len hg
  have HS : Hid (1 ≤ c.info.length ∧ c.info.length ≤ 300) := good_info hg (by simp [hk])
  have HV : Hid (valB c = parB (1, c.info)) := show _ = _ by simp [valB, hk]
  go_enter Try.func26, Try.ntmps26
  go_wp2_with (first
    | (have q := st3; clear q; go_at_call 31; refine (ocBytes st3 (by have := HB.out; have := HV.out; rw [← this]; omega)).mono ?_; rintro e wz ⟨az, nz, cz, rfl, hnz, hoz, hez⟩; have HZ : Hid (nz = (valB c).length) := hnz.trans (congrArg List.length HV.out.symm); clear hnz; rw [← HV.out] at hoz)
    | (have q := st2; clear q; go_at_call 63; refine (putParam_any st2 1 (by decide) (HC.i.ext st2.out) (by have := HS.out.2; omega) (by simp)).mono ?_; rintro e w3 ⟨⟨y3, rfl⟩, st3, kk3⟩; clear kk3; rw [List.nil_append] at st3)
    | (refine wl_alloc rfl rfl zeroO ?_; intro w2 hb2 he2 hx; clear hx; have st2 := OC.new hb2 he2; have d0_2 := cv0 (hb1.ext st2.out); clear hb2; have d15_2 := cv15 (hb1.ext st2.out))
    | (refine wl_box (C := CV c s) rfl rfl rfl ?_; intro w1 hb1 he1 hx; clear hx; have HC := ha.ext he1))
  go_ret
  exact ⟨_, _, _, rfl, HZ.out, hoz.base he1.size, (he1.trans st3.out).trans hez⟩
set_option maxHeartbeats 8000000 in
theorem value_6 {w : World} {c : Ck} {s : Sv} (ha : CkAt w s c) (hf : Fit c) (hg : GoodC c) (hk : c.kind = 6) :
    Calls Try.prog 26 #[.agg (CV c s)] w (ValueIs w c) := by
  have HB : Hid ((valB c).length ≤ 600) := valB_len hg
  obtain ⟨W, hW⟩ : ∃ W : Nat, c.cause = (W : Int) := ⟨_, (Int.toNat_of_nonneg (good_cause hg (by simp [hk])).1).symm⟩
  have hW2 : W < 65536 := by have := good_cause hg (by simp [hk]); omega
  have w1_ : IntKind.u64.wrap (W : Int) = (W : Int) := by rw [IntKind.wrap_u64]; have := hW2; omega
  have HV : Hid (valB c = be W 2 ++ be 4 2) := show _ = _ by simp [valB, hk, hW]
  go_enter Try.func26, Try.ntmps26
  go_wp2_with (first
    | (have q := st4; clear q; go_at_call 31; refine (ocBytes st4 (by have := HB.out; have := HV.out; rw [← this]; omega)).mono ?_; rintro e wz ⟨az, nz, cz, rfl, hnz, hoz, hez⟩; have HZ : Hid (nz = (valB c).length) := hnz.trans (congrArg List.length HV.out.symm); clear hnz; rw [← HV.out] at hoz)
    | (have q := st3; clear q; go_at_call 27; refine (ocNum st3 4 2 (by (try simp only [List.length_append, be_len, List.length_nil]); omega)).mono ?_; rintro e w4 ⟨⟨y4, rfl⟩, st4, kk4⟩; clear kk4; rw [numB2] at st4)
    | (have q := st2; clear q; go_at_call 27; refine (ocNum st2 W 2 (by (try simp only [List.length_append, be_len, List.length_nil]); omega)).mono ?_; rintro e w3 ⟨⟨y3, rfl⟩, st3, kk3⟩; clear kk3; rw [numB2, List.nil_append] at st3; have d0_3 := cv0 (hb1.ext st3.out))
    | (refine wl_alloc rfl rfl zeroO ?_; intro w2 hb2 he2 hx; clear hx; have st2 := OC.new hb2 he2; have d0_2 := cv0 (hb1.ext st2.out); clear hb2; have d18_2 := cv18 (hb1.ext st2.out))
    | (refine wl_box (C := CV c s) rfl rfl rfl ?_; intro w1 hb1 he1 hx; clear hx; have HC := ha.ext he1))
  go_ret
  exact ⟨_, _, _, rfl, HZ.out, hoz.base he1.size, (he1.trans st4.out).trans hez⟩
set_option maxHeartbeats 8000000 in
theorem value_9 {w : World} {c : Ck} {s : Sv} (ha : CkAt w s c) (hf : Fit c) (hg : GoodC c) (hk : c.kind = 9) :
    Calls Try.prog 26 #[.agg (CV c s)] w (ValueIs w c) := by
  have HB : Hid ((valB c).length ≤ 600) := valB_len hg
  obtain ⟨W, hW⟩ : ∃ W : Nat, c.cause = (W : Int) := ⟨_, (Int.toNat_of_nonneg (good_cause hg (by simp [hk])).1).symm⟩
  have hW2 : W < 65536 := by have := good_cause hg (by simp [hk]); omega
  have w1_ : IntKind.u64.wrap (W : Int) = (W : Int) := by rw [IntKind.wrap_u64]; have := hW2; omega
  have HV : Hid (valB c = be W 2 ++ be 4 2) := show _ = _ by simp [valB, hk, hW]
  go_enter Try.func26, Try.ntmps26
  go_wp2_with (first
    | (have q := st4; clear q; go_at_call 31; refine (ocBytes st4 (by have := HB.out; have := HV.out; rw [← this]; omega)).mono ?_; rintro e wz ⟨az, nz, cz, rfl, hnz, hoz, hez⟩; have HZ : Hid (nz = (valB c).length) := hnz.trans (congrArg List.length HV.out.symm); clear hnz; rw [← HV.out] at hoz)
    | (have q := st3; clear q; go_at_call 27; refine (ocNum st3 4 2 (by (try simp only [List.length_append, be_len, List.length_nil]); omega)).mono ?_; rintro e w4 ⟨⟨y4, rfl⟩, st4, kk4⟩; clear kk4; rw [numB2] at st4)
    | (have q := st2; clear q; go_at_call 27; refine (ocNum st2 W 2 (by (try simp only [List.length_append, be_len, List.length_nil]); omega)).mono ?_; rintro e w3 ⟨⟨y3, rfl⟩, st3, kk3⟩; clear kk3; rw [numB2, List.nil_append] at st3; have d0_3 := cv0 (hb1.ext st3.out))
    | (refine wl_alloc rfl rfl zeroO ?_; intro w2 hb2 he2 hx; clear hx; have st2 := OC.new hb2 he2; have d0_2 := cv0 (hb1.ext st2.out); clear hb2; have d18_2 := cv18 (hb1.ext st2.out))
    | (refine wl_box (C := CV c s) rfl rfl rfl ?_; intro w1 hb1 he1 hx; clear hx; have HC := ha.ext he1))
  go_ret
  exact ⟨_, _, _, rfl, HZ.out, hoz.base he1.size, (he1.trans st4.out).trans hez⟩
set_option maxHeartbeats 8000000 in
theorem value_7 {w : World} {c : Ck} {s : Sv} (ha : CkAt w s c) (hf : Fit c) (hg : GoodC c) (hk : c.kind = 7) :
    Calls Try.prog 26 #[.agg (CV c s)] w (ValueIs w c) := by
  have HB : Hid ((valB c).length ≤ 600) := valB_len hg
  have w1_ : IntKind.u64.wrap (c.tsn : Int) = (c.tsn : Int) := by rw [IntKind.wrap_u64]; have := hf.tsn; omega
  have HV : Hid (valB c = be c.tsn 4) := show _ = _ by simp [valB, hk]
  go_enter Try.func26, Try.ntmps26
  go_wp2_with (first
    | (have q := st3; clear q; go_at_call 31; refine (ocBytes st3 (by have := HB.out; have := HV.out; rw [← this]; omega)).mono ?_; rintro e wz ⟨az, nz, cz, rfl, hnz, hoz, hez⟩; have HZ : Hid (nz = (valB c).length) := hnz.trans (congrArg List.length HV.out.symm); clear hnz; rw [← HV.out] at hoz)
    | (have q := st2; clear q; go_at_call 27; refine (ocNum st2 c.tsn 4 (by (try simp only [List.length_append, be_len, List.length_nil]); omega)).mono ?_; rintro e w3 ⟨⟨y3, rfl⟩, st3, kk3⟩; clear kk3; rw [numB4, List.nil_append] at st3)
    | (refine wl_alloc rfl rfl zeroO ?_; intro w2 hb2 he2 hx; clear hx; have st2 := OC.new hb2 he2; have d0_2 := cv0 (hb1.ext st2.out); clear hb2; have d12_2 := cv12 (hb1.ext st2.out))
    | (refine wl_box (C := CV c s) rfl rfl rfl ?_; intro w1 hb1 he1 hx; clear hx; have HC := ha.ext he1))
  go_ret
  exact ⟨_, _, _, rfl, HZ.out, hoz.base he1.size, (he1.trans st3.out).trans hez⟩
set_option maxHeartbeats 8000000 in
theorem value_10 {w : World} {c : Ck} {s : Sv} (ha : CkAt w s c) (hf : Fit c) (hg : GoodC c) (hk : c.kind = 10) :
    Calls Try.prog 26 #[.agg (CV c s)] w (ValueIs w c) := by
  have HB : Hid ((valB c).length ≤ 600) := valB_len hg
  have HV : Hid (valB c = c.info) := show _ = _ by simp [valB, hk]
  go_enter Try.func26, Try.ntmps26
  go_wp2_with (first
    | (have q := st3; clear q; go_at_call 31; refine (ocBytes st3 (by have := HB.out; have := HV.out; rw [← this]; omega)).mono ?_; rintro e wz ⟨az, nz, cz, rfl, hnz, hoz, hez⟩; have HZ : Hid (nz = (valB c).length) := hnz.trans (congrArg List.length HV.out.symm); clear hnz; rw [← HV.out] at hoz)
    | (have q := st2; clear q; go_at_call 29; refine (ocPut st2 ((HC.i).ext st2.out) (by have := HB.out; rw [HV.out] at this; (try simp only [List.length_nil]); omega)).mono ?_; rintro e w3 ⟨⟨y3, rfl⟩, st3, kk3⟩; clear kk3; rw [List.nil_append] at st3)
    | (refine wl_alloc rfl rfl zeroO ?_; intro w2 hb2 he2 hx; clear hx; have st2 := OC.new hb2 he2; have d0_2 := cv0 (hb1.ext st2.out); clear hb2; have d15_2 := cv15 (hb1.ext st2.out))
    | (refine wl_box (C := CV c s) rfl rfl rfl ?_; intro w1 hb1 he1 hx; clear hx; have HC := ha.ext he1))
  go_ret
  exact ⟨_, _, _, rfl, HZ.out, hoz.base he1.size, (he1.trans st3.out).trans hez⟩
set_option maxHeartbeats 8000000 in
theorem value_15 {w : World} {c : Ck} {s : Sv} (ha : CkAt w s c) (hf : Fit c) (hg : GoodC c) (hk : c.kind = 15) :
    Calls Try.prog 26 #[.agg (CV c s)] w (ValueIs w c) := by
  have HB : Hid ((valB c).length ≤ 600) := valB_len hg
  have HV : Hid (valB c = c.info) := show _ = _ by simp [valB, hk]
  go_enter Try.func26, Try.ntmps26
  go_wp2_with (first
    | (have q := st3; clear q; go_at_call 31; refine (ocBytes st3 (by have := HB.out; have := HV.out; rw [← this]; omega)).mono ?_; rintro e wz ⟨az, nz, cz, rfl, hnz, hoz, hez⟩; have HZ : Hid (nz = (valB c).length) := hnz.trans (congrArg List.length HV.out.symm); clear hnz; rw [← HV.out] at hoz)
    | (have q := st2; clear q; go_at_call 29; refine (ocPut st2 ((HC.i).ext st2.out) (by have := HB.out; rw [HV.out] at this; (try simp only [List.length_nil]); omega)).mono ?_; rintro e w3 ⟨⟨y3, rfl⟩, st3, kk3⟩; clear kk3; rw [List.nil_append] at st3)
    | (refine wl_alloc rfl rfl zeroO ?_; intro w2 hb2 he2 hx; clear hx; have st2 := OC.new hb2 he2; have d0_2 := cv0 (hb1.ext st2.out); clear hb2; have d15_2 := cv15 (hb1.ext st2.out))
    | (refine wl_box (C := CV c s) rfl rfl rfl ?_; intro w1 hb1 he1 hx; clear hx; have HC := ha.ext he1))
  go_ret
  exact ⟨_, _, _, rfl, HZ.out, hoz.base he1.size, (he1.trans st3.out).trans hez⟩
set_option maxHeartbeats 8000000 in
theorem value_193 {w : World} {c : Ck} {s : Sv} (ha : CkAt w s c) (hf : Fit c) (hg : GoodC c) (hk : c.kind = 193) :
    Calls Try.prog 26 #[.agg (CV c s)] w (ValueIs w c) := by
  have HB : Hid ((valB c).length ≤ 600) := valB_len hg
  have HS : Hid ((1 ≤ c.ops.length ∧ c.ops.length ≤ 9) ∧ opsB c.ops = true) := good_193 hg hk
  have HV : Hid (valB c = opsV c) := show _ = _ by simp [valB, hk]
  go_enter Try.func26, Try.ntmps26
  go_wp2_with (first
    | (have q := st3; clear q; go_at_call 31; refine (ocBytes st3 (by have := HB.out; have := HV.out; rw [← this]; omega)).mono ?_; rintro e wz ⟨az, nz, cz, rfl, hnz, hoz, hez⟩; have HZ : Hid (nz = (valB c).length) := hnz.trans (congrArg List.length HV.out.symm); clear hnz; rw [← HV.out] at hoz)
    | (have q := st2; clear q; go_at_call 64; refine (putOps_any st2 HC hf (by simp) HS.out.1.2 HS.out.2).mono ?_; rintro e w3 ⟨⟨y3, rfl⟩, st3, kk3⟩; clear kk3; rw [List.nil_append] at st3)
    | (have q := st2; clear q; refine wl_load rfl rowC rfl rfl (hb1.ext st2.out) rfl ?_)
    | (refine wl_alloc rfl rfl zeroO ?_; intro w2 hb2 he2 hx; clear hx; have st2 := OC.new hb2 he2; have d0_2 := cv0 (hb1.ext st2.out); clear hb2; have d0_2 := cv0 (hb1.ext st2.out))
    | (refine wl_box (C := CV c s) rfl rfl rfl ?_; intro w1 hb1 he1 hx; clear hx; have HC := ha.ext he1))
  go_ret
  exact ⟨_, _, _, rfl, HZ.out, hoz.base he1.size, (he1.trans st3.out).trans hez⟩
/-- A bool as a number. -/
def okN (b : Bool) : Nat := if b = true then 1 else 0
theorem numberOf_ok (b : Bool) (w : World) : Calls Try.prog 65 #[.bool b] w fun e w' => e = .returned (.int .u64 (okN b : Int)) ∧ Ext w w' := numberOf_any b w
set_option maxHeartbeats 8000000 in
theorem value_128 {w : World} {c : Ck} {s : Sv} (ha : CkAt w s c) (hf : Fit c) (hg : GoodC c) (hk : c.kind = 128) :
    Calls Try.prog 26 #[.agg (CV c s)] w (ValueIs w c) := by
  have HB : Hid ((valB c).length ≤ 600) := valB_len hg
  have w1_ : IntKind.u64.wrap (c.serial : Int) = (c.serial : Int) := by rw [IntKind.wrap_u64]; have := hf.serial; omega
  have HV : Hid (valB c = be c.serial 4 ++ be (okN c.ok) 4) := show _ = _ by simp [valB, hk, okN]
  go_enter Try.func26, Try.ntmps26
  go_wp2_with (first
    | (have q := st4; clear q; go_at_call 31; refine (ocBytes st4 (by have := HB.out; have := HV.out; rw [← this]; omega)).mono ?_; rintro e wz ⟨az, nz, cz, rfl, hnz, hoz, hez⟩; have HZ : Hid (nz = (valB c).length) := hnz.trans (congrArg List.length HV.out.symm); clear hnz; rw [← HV.out] at hoz)
    | (have q := st3; clear q; go_at_call 27; refine (ocNum st3 (okN c.ok) 4 (by (try simp only [List.length_append, be_len, List.length_nil]); omega)).mono ?_; rintro e w4 ⟨⟨y4, rfl⟩, st4, kk4⟩; clear kk4; rw [numB4] at st4)
    | (have q := st2; clear q; go_at_call 27; refine (ocNum st2 c.serial 4 (by (try simp only [List.length_append, be_len, List.length_nil]); omega)).mono ?_; rintro e w3 ⟨⟨y3, rfl⟩, st3, kk3⟩; clear kk3; rw [numB4, List.nil_append] at st3; have d21_3 := cv21 (hb1.ext st3.out))
    | (have q := st3; clear q; go_at_call 65; refine (numberOf_ok _ _).mono ?_; rintro e wn ⟨rfl, hen⟩; replace st3 := st3.ext hen)
    | (refine wl_alloc rfl rfl zeroO ?_; intro w2 hb2 he2 hx; clear hx; have st2 := OC.new hb2 he2; have d0_2 := cv0 (hb1.ext st2.out); clear hb2; have d19_2 := cv19 (hb1.ext st2.out))
    | (refine wl_box (C := CV c s) rfl rfl rfl ?_; intro w1 hb1 he1 hx; clear hx; have HC := ha.ext he1))
  go_ret
  exact ⟨_, _, _, rfl, HZ.out, hoz.base he1.size, (he1.trans st4.out).trans hez⟩
set_option maxHeartbeats 8000000 in
theorem value_8 {w : World} {c : Ck} {s : Sv} (ha : CkAt w s c) (hf : Fit c) (hg : GoodC c) (hk : c.kind = 8) :
    Calls Try.prog 26 #[.agg (CV c s)] w (ValueIs w c) := by
  have HB : Hid ((valB c).length ≤ 600) := valB_len hg
  have HV : Hid (valB c = []) := show _ = _ by simp [valB, hk]
  go_enter Try.func26, Try.ntmps26
  go_wp2_with (first
    | (have q := st2; clear q; go_at_call 31; refine (ocBytes st2 (by have := HB.out; have := HV.out; rw [← this]; omega)).mono ?_; rintro e wz ⟨az, nz, cz, rfl, hnz, hoz, hez⟩; have HZ : Hid (nz = (valB c).length) := hnz.trans (congrArg List.length HV.out.symm); clear hnz; rw [← HV.out] at hoz)
    | (refine wl_alloc rfl rfl zeroO ?_; intro w2 hb2 he2 hx; clear hx; have st2 := OC.new hb2 he2; have d0_2 := cv0 (hb1.ext st2.out); clear hb2)
    | (refine wl_box (C := CV c s) rfl rfl rfl ?_; intro w1 hb1 he1 hx; clear hx; have HC := ha.ext he1))
  go_ret
  exact ⟨_, _, _, rfl, HZ.out, hoz.base he1.size, (he1.trans st2.out).trans hez⟩
set_option maxHeartbeats 8000000 in
theorem value_11 {w : World} {c : Ck} {s : Sv} (ha : CkAt w s c) (hf : Fit c) (hg : GoodC c) (hk : c.kind = 11) :
    Calls Try.prog 26 #[.agg (CV c s)] w (ValueIs w c) := by
  have HB : Hid ((valB c).length ≤ 600) := valB_len hg
  have HV : Hid (valB c = []) := show _ = _ by simp [valB, hk]
  go_enter Try.func26, Try.ntmps26
  go_wp2_with (first
    | (have q := st2; clear q; go_at_call 31; refine (ocBytes st2 (by have := HB.out; have := HV.out; rw [← this]; omega)).mono ?_; rintro e wz ⟨az, nz, cz, rfl, hnz, hoz, hez⟩; have HZ : Hid (nz = (valB c).length) := hnz.trans (congrArg List.length HV.out.symm); clear hnz; rw [← HV.out] at hoz)
    | (refine wl_alloc rfl rfl zeroO ?_; intro w2 hb2 he2 hx; clear hx; have st2 := OC.new hb2 he2; have d0_2 := cv0 (hb1.ext st2.out); clear hb2)
    | (refine wl_box (C := CV c s) rfl rfl rfl ?_; intro w1 hb1 he1 hx; clear hx; have HC := ha.ext he1))
  go_ret
  exact ⟨_, _, _, rfl, HZ.out, hoz.base he1.size, (he1.trans st2.out).trans hez⟩
set_option maxHeartbeats 8000000 in
theorem value_14 {w : World} {c : Ck} {s : Sv} (ha : CkAt w s c) (hf : Fit c) (hg : GoodC c) (hk : c.kind = 14) :
    Calls Try.prog 26 #[.agg (CV c s)] w (ValueIs w c) := by
  have HB : Hid ((valB c).length ≤ 600) := valB_len hg
  have HV : Hid (valB c = []) := show _ = _ by simp [valB, hk]
  go_enter Try.func26, Try.ntmps26
  go_wp2_with (first
    | (have q := st2; clear q; go_at_call 31; refine (ocBytes st2 (by have := HB.out; have := HV.out; rw [← this]; omega)).mono ?_; rintro e wz ⟨az, nz, cz, rfl, hnz, hoz, hez⟩; have HZ : Hid (nz = (valB c).length) := hnz.trans (congrArg List.length HV.out.symm); clear hnz; rw [← HV.out] at hoz)
    | (refine wl_alloc rfl rfl zeroO ?_; intro w2 hb2 he2 hx; clear hx; have st2 := OC.new hb2 he2; have d0_2 := cv0 (hb1.ext st2.out); clear hb2)
    | (refine wl_box (C := CV c s) rfl rfl rfl ?_; intro w1 hb1 he1 hx; clear hx; have HC := ha.ext he1))
  go_ret
  exact ⟨_, _, _, rfl, HZ.out, hoz.base he1.size, (he1.trans st2.out).trans hez⟩
theorem valueOf_any {w : World} {c : Ck} {s : Sv} (ha : CkAt w s c) (hf : Fit c) (hg : GoodC c) :
    Calls Try.prog 26 #[.agg (CV c s)] w (ValueIs w c) := by
  rcases knB_cases hg.kn with h | h | h | h | h | h | h | h | h | h | h | h | h | h | h | h
  · exact value_0 ha hf hg h
  · exact value_1 ha hf hg h
  · exact value_2 ha hf hg h
  · exact value_3 ha hf hg h
  · exact value_4 ha hf hg h
  · exact value_5 ha hf hg h
  · exact value_6 ha hf hg h
  · exact value_7 ha hf hg h
  · exact value_8 ha hf hg h
  · exact value_9 ha hf hg h
  · exact value_10 ha hf hg h
  · exact value_11 ha hf hg h
  · exact value_14 ha hf hg h
  · exact value_15 ha hf hg h
  · exact value_128 ha hf hg h
  · exact value_193 ha hf hg h

theorem bytes_le (K F M : Nat) (V : List Nat) (h : V.length ≤ 600) : (padB (((be K 1 ++ be F 1) ++ be M 2) ++ V)).length ≤ 700 ∧ (((be K 1 ++ be F 1) ++ be M 2) ++ V).length ≤ 700 := by
  have h1 : (((be K 1 ++ be F 1) ++ be M 2) ++ V).length = 4 + V.length := by simp only [List.length_append, be_len]
  have h2 := pads_lt (((be K 1 ++ be F 1) ++ be M 2) ++ V).length
  rw [padB_len]
  omega
/-- What Bytes answers. -/
def BytesIs (w : World) (c : Ck) (e : Ending) (w' : World) : Prop :=
  Ext w w' ∧ ((goodB c = false ∧ e = .returned (.tuple #[.slice none 0 0, errF])) ∨ (goodB c = true ∧ ∃ a n cp, e = .returned (.tuple #[.slice a n cp, .nilIface]) ∧ n = (bytesB c).length ∧ OB w' w.heap.size (.slice a n cp) (bytesB c)))
set_option maxHeartbeats 8000000 in
theorem bytesC_any {w : World} {c : Ck} {s : Sv} (ha : CkAt w s c) (hf : Fit c) :
    Calls Try.prog 10 #[.agg (CV c s)] w (BytesIs w c) := by
  cases hgd : goodB c with
  | false =>
    go_enter Try.func10, Try.ntmps10
    go_wp2_with (first
      | (refine wl_box (C := CV c s) rfl rfl rfl ?_; intro w1 hb1 he1 hx; clear hx)
      | (refine wl_load rfl rowC rfl rfl hb1 rfl ?_)
      | (go_at_call 12; refine (goodC_any (ha.ext he1)).mono ?_; rintro e w2 ⟨rfl, he2⟩; rw [hgd]))
    go_ret2
    exact ⟨he1.trans he2, .inl ⟨hgd, rfl⟩⟩
  | true =>
    have HG : Hid (GoodC c) := (goodB_iff c).1 hgd
    obtain ⟨K, hK⟩ : ∃ K : Nat, c.kind = (K : Int) := by
      have := knB_cases HG.out.kn
      exact ⟨_, (Int.toNat_of_nonneg (by omega)).symm⟩
    have HK2 : Hid (K < 256) := by
      have := knB_cases HG.out.kn
      show K < 256
      omega
    have wK : IntKind.u64.wrap (K : Int) = (K : Int) := by rw [IntKind.wrap_u64]; have := HK2.out; omega
    obtain ⟨V, hV⟩ : ∃ V, V = valB c := ⟨_, rfl⟩
    have HV2 : Hid (V.length ≤ 600) := show _ ≤ _ by rw [hV]; exact valB_len HG.out
    have HV : Hid (bytesB c = padB (((be K 1 ++ be (flagN c.pb c.pe c.pu) 1) ++ be (V.length + 4) 2) ++ V) ∧ valB c = V) := ⟨by unfold bytesB; rw [hK, hV]; rfl, hV.symm⟩
    clear hV
    go_enter Try.func10, Try.ntmps10
    go_wp2_with (first
      | (have q := st8; clear q; go_at_call 31; refine (ocBytes st8 (by have := HP.out.1; omega)).mono ?_; rintro e wz ⟨az, nz, cz, rfl, hnz, hoz, hez⟩; have HZ : Hid (nz = (bytesB c).length) := hnz.trans (congrArg List.length HV.out.1.symm); clear hnz; rw [← HV.out.1] at hoz)
      | (have q := st7; clear q; go_at_call 30; refine (ocPad st7 (by have := HP.out.2; omega)).mono ?_; rintro e w8 ⟨⟨y8, rfl⟩, st8, k8⟩; clear k8; rw [HN.out] at st8)
      | (have q := st6; clear q; go_at_call 29; refine (ocPut st6 (ho3.bytes.ext st6.out) (by have := HV2.out; simp only [List.length_append, be_len]; omega)).mono ?_; rintro e w7 ⟨⟨y7, rfl⟩, st7, k7⟩; clear k7)
      | (have q := st5; clear q; go_at_call 27; refine (ocNum st5 (n + 4) 2 (by simp only [List.length_append, be_len, List.length_nil]; omega)).mono ?_; rintro e w6 ⟨⟨y6, rfl⟩, st6, k6⟩; clear k6; rw [numB2] at st6)
      | (have q := st5; clear q; fail)
      | (have q := st4b; clear q; go_at_call 27; refine (ocNum st4b (flagN c.pb c.pe c.pu) 1 (by simp only [List.length_append, be_len, List.length_nil]; omega)).mono ?_; rintro e w5 ⟨⟨y5, rfl⟩, st5, k5⟩; clear k5; rw [numB1] at st5)
      | (have q := st4a; clear q; go_at_call 28; refine (flagsOf_any c s _).mono ?_; rintro e wf ⟨rfl, hef⟩; have st4b := st4a.ext hef)
      | (have q := st4a; clear q; refine wl_loadM rfl rowPc rfl rfl (hb3.ext st4a.out) (PV c s).toList (CV.piece c s) rfl ?_)
      | (have q := st4; clear q; go_at_call 27; refine (ocNum st4 K 1 (by simp)).mono ?_; rintro e w4a ⟨⟨y4, rfl⟩, st4a, k4⟩; clear k4; rw [numB1, List.nil_append] at st4a)
      | (have q := ho3; clear q; refine wl_alloc rfl rfl zeroO ?_; intro w4 hb4 he4 hx; clear hx; have st4 := OC.new hb4 he4; clear hb4; have hb3 := (hb1.ext he2).ext he3; have c0 := cv0 (hb3.ext st4.out))
      | (have q := he2; clear q; go_at_call 26; go_loud (refine (valueOf_any ((ha.ext he1).ext he2) hf HG.out).mono ?_; rintro e w3 ⟨a, n, cp, rfl, hn, ho3, he3⟩; rw [HV.out.2] at hn ho3; have HN : Hid (padB (((be K 1 ++ be (flagN c.pb c.pe c.pu) 1) ++ be (n + 4) 2) ++ V) = padB (((be K 1 ++ be (flagN c.pb c.pe c.pu) 1) ++ be (V.length + 4) 2) ++ V)) := congrArg (fun z => padB (((be K 1 ++ be (flagN c.pb c.pe c.pu) 1) ++ be (z + 4) 2) ++ V)) hn; have hn6 : n ≤ 600 := Nat.le_trans (Nat.le_of_eq hn) HV2.out; clear hn; have wn := (wrapM (n + 4) (by omega)).2.1; have HP : Hid ((padB (((be K 1 ++ be (flagN c.pb c.pe c.pu) 1) ++ be (V.length + 4) 2) ++ V)).length ≤ 700 ∧ (((be K 1 ++ be (flagN c.pb c.pe c.pu) 1) ++ be (n + 4) 2) ++ V).length ≤ 700) := ⟨(bytes_le K _ _ V HV2.out).1, (bytes_le K _ _ V HV2.out).2⟩))
      | (go_at_call 12; refine (goodC_any (ha.ext he1)).mono ?_; rintro e w2 ⟨rfl, he2⟩; rw [hgd])
      | (have q := he2; clear q; refine wl_load rfl rowC rfl rfl (hb1.ext he2) rfl ?_)
      | (refine wl_load rfl rowC rfl rfl hb1 rfl ?_)
      | (refine wl_box (C := CV c s) rfl rfl rfl ?_; intro w1 hb1 he1 hx; clear hx))
    go_ret2
    have HE := (he1.trans he2).trans he3
    exact ⟨(HE.trans st8.out).trans hez, .inr ⟨hgd, _, _, _, rfl, HZ.out, hoz.base HE.size⟩⟩
end Tlv
end Go.Proofs.Ytobkgaceallegaa

/- A law on regions that draw their order and whose writers stand in one chain: facts that are kept, and what holds of the world behind each writer. No condition of its own. -/
namespace Go.Proofs.Ytobkgaceallegaa
open Go
set_option linter.unusedVariables false

/-- What is owed for operation number i, from a world of S to one of S'. -/
def GoodH (P : Program) (mk : Tmp → Option Nat) (a0 : Act) (R : World → World → Prop) (V : Nat → World → Value → Prop) (w0 : World) (i : Nat) (o : Oper) (S S' : World → Prop) : Prop :=
  ∀ (r : Operand → Value) (w : World), R w0 w → S w → factsOf mk a0 V r w o.op.operands.toList →
    match o.guard with
    | none => give P (fun v x => R w x ∧ S' x ∧ V i x v) ((execOp r o).run P w)
    | some (g, want) => ∀ b, V g w b → if asBool b == some want then give P (fun v x => R w x ∧ S' x ∧ V i x v) ((execOp r o).run P w) else (S' w ∧ V i w undef)
def HInv (ops : List Oper) (a0 : Act) (R : World → World → Prop) (V : Nat → World → Value → Prop) (w0 : World) (wr : List Nat) (S : Nat → World → Prop) (listed : Array Bool) (a : Act) (w : World) : Prop :=
  Inv ops a0 R V w0 listed a w ∧ ∃ k, k ≤ wr.length ∧ S k w ∧ ∀ j, j < wr.length → listed.getD (wr.getD j 0) false = decide (j < k)
section
variable {P : Program} {mk : Tmp → Option Nat} {ops : List Oper} {a0 : Act} {R : World → World → Prop} {V : Nat → World → Value → Prop} {w0 : World} {Q : Exit → Act → World → Prop} {n : Nat}
theorem phase_any (hsh : shapeB mk ops n = true) (hn : a0.tmps.size = n) (hV : ∀ i w w' v, R w w' → V i w v → V i w' v) (hT : ∀ a b c, R a b → R b c → R a c) (hRf : ∀ w, R w w) (wr : List Nat) (S : Nat → World → Prop)
    (hinj : ∀ i j, i < wr.length → j < wr.length → wr.getD i 0 = wr.getD j 0 → i = j)
    (hch : ∀ j o, j + 1 < wr.length → ops[wr.getD (j + 1) 0]? = some o → afterB o (wr.getD j 0) = true)
    (hG : ∀ i o, ops[i]? = some o → (∀ j, j < wr.length → wr.getD j 0 ≠ i) → ∀ k, k ≤ wr.length → (∀ (j : Nat) oj, j < k → ops[wr.getD j 0]? = some oj → comesB ops oj i = false) → GoodH P mk a0 R V w0 i o (S k) (S k))
    (hWr : ∀ k o, k < wr.length → ops[wr.getD k 0]? = some o → GoodH P mk a0 R V w0 (wr.getD k 0) o (S k) (S (k + 1)))
    (hQ : ∀ a w, (∀ listed, HInv ops a0 R V w0 wr S (Array.replicate ops.length listed) a w → listed = true → Q .normal a w)) :
    ∀ (fuel : Nat) (listed : Array Bool) (a : Act) (w : World), listed.size = ops.length → listed.countP (· == false) ≤ fuel → (∀ (j : Nat) oj, ops[j]? = some oj → listed.getD j false = true → ∀ e ∈ oj.after, Region.binds .any e = true → listed.getD e.on false = true) → HInv ops a0 R V w0 wr S listed a w → wpAny P .any ops.toArray Q fuel listed a w := by
  have ready_nil : ∀ (listed : Array Bool), listed.size = ops.length → Region.ready .any ops.toArray listed = [] → listed = Array.replicate ops.length true := by
    intro listed hs hr
    have key : ∀ i, i < ops.length → listed.getD i false = true := by
      intro i
      induction i using Nat.strongRecOn with
      | _ i ih =>
        intro hi
        cases hb : listed.getD i false with
        | true => rfl
        | false =>
          exfalso
          have ho : ops[i]? = some ops[i] := by simp [hi]
          have : i ∈ Region.ready .any ops.toArray listed := by
            rw [mem_ready]
            refine ⟨by simpa [hs, hi] using hb, ops[i], by simp [hi], fun e he hbi => ?_⟩
            have hsp := shape_spec hsh ho
            simp only [shapeOneB, Bool.and_eq_true] at hsp
            have h5 := Array.all_eq_true_iff_forall_mem.1 hsp.2 e he
            simp [hbi] at h5
            exact ih e.on h5 (by omega)
          rw [hr] at this
          cases this
    apply Array.ext
    · simp [hs]
    · intro i h1 h2
      have := key i (by omega)
      simpa [h1] using this
  have fin : ∀ (listed : Array Bool) (a : Act) (w : World), listed.size = ops.length → HInv ops a0 R V w0 wr S listed a w → Region.ready .any ops.toArray listed = [] → Q .normal a w := by
    intro listed a w hs hI hr
    have := ready_nil listed hs hr
    subst this
    exact hQ a w true hI rfl
  intro fuel
  induction fuel with
  | zero =>
    intro listed a w hs hc hcl hI
    have hr : Region.ready .any ops.toArray listed = [] := by
      cases hr : Region.ready .any ops.toArray listed with
      | nil => rfl
      | cons j js =>
        exfalso
        have hj : j ∈ Region.ready .any ops.toArray listed := by rw [hr]; simp
        have h0 := (mem_ready.1 hj).1
        have hlt : j < listed.size := by
          rcases Nat.lt_or_ge j listed.size with h | h
          · exact h
          · simp [Array.getElem?_eq_none h] at h0
        have h1 : listed.countP (· == false) = 0 := by omega
        rw [Array.countP_eq_zero] at h1
        have h2 : listed[j] = false := by simpa [hlt] using h0
        have := h1 listed[j] (Array.getElem_mem hlt)
        simp [h2] at this
    exact ⟨hr, fin listed a w hs hI hr⟩
  | succ fuel ih =>
    intro listed a w hs hc hcl hI
    refine ⟨fin listed a w hs hI, fun i hi => ?_⟩
    obtain ⟨hl, o, ho', hall⟩ := mem_ready.1 hi
    have ho : ops[i]? = some o := by simpa using ho'
    obtain ⟨hB, k, hk, hS, hst⟩ := hI
    have hfacts := factsOf_mk (hB.facts hsh ho hall)
    -- the world behind it, and what is owed
    obtain ⟨k', hk', hg, hst'⟩ : ∃ k', k' ≤ wr.length ∧ GoodH P mk a0 R V w0 i o (S k) (S k') ∧ ∀ j, j < wr.length → (listed.setIfInBounds i true).getD (wr.getD j 0) false = decide (j < k') := by
      by_cases hw : ∃ j, j < wr.length ∧ wr.getD j 0 = i
      · obtain ⟨j, hj, hji⟩ := hw
        have hnl : listed.getD (wr.getD j 0) false = false := by rw [hji]; exact getD_false hl
        have hjk : ¬ j < k := by
          intro h
          rw [hst j hj, decide_eq_true h] at hnl
          cases hnl
        have hkj : j = k := by
          rcases Nat.lt_or_ge k j with h | h
          · exfalso
            obtain ⟨j', rfl⟩ : ∃ j', j = j' + 1 := ⟨j - 1, by omega⟩
            have ha := hch j' o hj (by rw [hji]; exact ho)
            obtain ⟨e, he, hb, hon⟩ := after_spec ha
            have h2 := hall e he hb
            rw [hon, hst j' (by omega)] at h2
            have : j' < k := of_decide_eq_true h2
            omega
          · omega
        subst hkj
        refine ⟨j + 1, by omega, by rw [← hji]; exact hWr j o hj (by rw [hji]; exact ho), fun j2 hj2 => ?_⟩
        by_cases e : j2 = j
        · subst e
          rw [hji, getD_set_self hl]
          exact (decide_eq_true (by omega)).symm
        · rw [getD_set_ne false (fun h => e (hinj j2 j hj2 hj (by rw [← h, hji]))), hst j2 hj2]
          congr 1
          simp only [eq_iff_iff]; omega
      · have hne : ∀ j, j < wr.length → wr.getD j 0 ≠ i := fun j hj e => hw ⟨j, hj, e⟩
        refine ⟨k, hk, hG i o ho hne k hk (fun j oj hj hoj => ?_), fun j hj => by rw [getD_set_ne false (hne j hj).symm, hst j hj]⟩
        cases hcm : comesB ops oj i with
        | false => rfl
        | true =>
          exfalso
          have hlj : listed.getD (wr.getD j 0) false = true := by rw [hst j (by omega), decide_eq_true hj]
          have hli := getD_false hl
          rcases comes_spec hcm with h1 | ⟨j2, o2, ho2, h1, h2⟩
          · obtain ⟨e, he, hb, rfl⟩ := after_spec h1
            have := hcl _ oj hoj hlj e he hb
            rw [hli] at this; cases this
          · obtain ⟨e, he, hb, rfl⟩ := after_spec h1
            have h3 := hcl _ oj hoj hlj e he hb
            obtain ⟨e2, he2, hb2, rfl⟩ := after_spec h2
            have := hcl _ o2 ho2 h3 e2 he2 hb2
            rw [hli] at this; cases this
    have hg := hg a.eval w hB.rel hS hfacts
    unfold wpOp
    simp only [ho']
    have next : ∀ v w', R w w' ∧ S k' w' ∧ V i w' v → wpAny P .any ops.toArray Q fuel (listed.setIfInBounds i true) (a.put o.dst v) w' := fun v w' ⟨h1, hS', h2⟩ => by
      exact ih _ _ _ (by simp [hs]) (count_set hl hc) (fun j oj hoj hlj e he hb => by
          have keep : ∀ x, listed.getD x false = true → (listed.setIfInBounds i true).getD x false = true := fun x hx => by
            by_cases e' : i = x
            · subst e'; exact absurd (getD_false hl) (by rw [hx]; simp)
            · rw [getD_set_ne false e']; exact hx
          by_cases e' : i = j
          · subst e'
            rw [ho] at hoj; cases hoj
            exact keep _ (hall e he hb)
          · rw [getD_set_ne false e'] at hlj
            exact keep _ (hcl j oj hoj hlj e he hb)) ⟨hB.put hsh hn hV hT ho hl h1 h2, k', hk', hS', hst'⟩
    cases hgd : o.guard with
    | none =>
      simp only [hgd] at hg
      simp only [Region.wanted, hgd, if_true]
      exact .inl (give_wp hg next)
    | some gw =>
      obtain ⟨g, want⟩ := gw
      simp only [hgd] at hg
      have hsp := shape_spec hsh ho
      simp only [shapeOneB, hgd, Bool.and_eq_true] at hsp
      obtain ⟨e, he, hb, rfl⟩ := after_spec hsp.1.1.2.1
      obtain ⟨d, hd⟩ := Option.isSome_iff_exists.1 hsp.1.1.2.2
      obtain ⟨og, hog, hdg⟩ := Option.bind_eq_some_iff.1 hd
      obtain ⟨v, h3, h4⟩ := hB.done e.on og hog (hall e he hb)
      have hv := h3 d hdg
      have hy : yielded ops.toArray a.tmps e.on = asBool v := by
        unfold yielded
        simp only [List.getElem?_toArray, hog, Option.bind_some, hdg, hv]
        cases v <;> rfl
      have := hg v h4
      simp only [Region.wanted, hgd, hy]
      split
      · rename_i hw
        rw [if_pos hw] at this
        exact .inl (give_wp this next)
      · rename_i hw
        rw [if_neg hw] at this
        exact next _ _ ⟨hRf _, this.1, this.2⟩
end
def GoodHAll (P : Program) (mk : Tmp → Option Nat) (a0 : Act) (R : World → World → Prop) (V : Nat → World → Value → Prop) (w0 : World) (wr ub : List Nat) (S : Nat → World → Prop) : Nat → List Oper → Prop
  | _, [] => True
  | i, o :: l => (if wr.contains i then GoodH P mk a0 R V w0 i o (S (wr.idxOf i)) (S (wr.idxOf i + 1)) else ∀ k, k ≤ ub.getD i 0 → GoodH P mk a0 R V w0 i o (S k) (S k)) ∧ GoodHAll P mk a0 R V w0 wr ub S (i + 1) l
theorem GoodHAll.at {P : Program} {mk : Tmp → Option Nat} {a0 : Act} {R : World → World → Prop} {V : Nat → World → Value → Prop} {w0 : World} {wr ub : List Nat} {S : Nat → World → Prop} : ∀ {ops : List Oper} {s : Nat}, GoodHAll P mk a0 R V w0 wr ub S s ops → ∀ i o, ops[i]? = some o → (if wr.contains (s + i) then GoodH P mk a0 R V w0 (s + i) o (S (wr.idxOf (s + i))) (S (wr.idxOf (s + i) + 1)) else ∀ k, k ≤ ub.getD (s + i) 0 → GoodH P mk a0 R V w0 (s + i) o (S k) (S k))
  | [], _, _, i, o, ho => by simp at ho
  | _ :: _, s, h, 0, o, ho => by simp at ho; subst ho; exact h.1
  | _ :: l, s, h, i + 1, o, ho => by
    have := GoodHAll.at (ops := l) h.2 i o (by simpa using ho)
    rwa [show s + 1 + i = s + (i + 1) by omega] at this
theorem GoodHAll.nil {P : Program} {mk : Tmp → Option Nat} {a0 : Act} {R : World → World → Prop} {V : Nat → World → Value → Prop} {w0 : World} {wr ub : List Nat} {S : Nat → World → Prop} {i : Nat} : GoodHAll P mk a0 R V w0 wr ub S i [] := trivial
theorem GoodHAll.reads {P : Program} {mk : Tmp → Option Nat} {a0 : Act} {R : World → World → Prop} {V : Nat → World → Value → Prop} {w0 : World} {wr ub : List Nat} {S : Nat → World → Prop} {i : Nat} {o : Oper} {l : List Oper} (u : Nat) (hc : wr.contains i = false) (hu : ub.getD i 0 = u) (h : ∀ k, k ≤ u → GoodH P mk a0 R V w0 i o (S k) (S k)) (hl : GoodHAll P mk a0 R V w0 wr ub S (i + 1) l) : GoodHAll P mk a0 R V w0 wr ub S i (o :: l) :=
  ⟨by rw [if_neg (by rw [hc]; simp), hu]; exact h, hl⟩
theorem GoodHAll.writes {P : Program} {mk : Tmp → Option Nat} {a0 : Act} {R : World → World → Prop} {V : Nat → World → Value → Prop} {w0 : World} {wr ub : List Nat} {S : Nat → World → Prop} {i : Nat} {o : Oper} {l : List Oper} (k : Nat) (hc : wr.contains i = true) (hk : wr.idxOf i = k) (h : GoodH P mk a0 R V w0 i o (S k) (S (k + 1))) (hl : GoodHAll P mk a0 R V w0 wr ub S (i + 1) l) : GoodHAll P mk a0 R V w0 wr ub S i (o :: l) :=
  ⟨by rw [if_pos hc, hk]; exact h, hl⟩

/-- THE LAW. -/
theorem wp_region_phased {P : Program} {ops : List Oper} {a0 : Act} {Q : Exit → Act → World → Prop} {id : Nat} {w : World} (mk : Tmp → Option Nat) (n : Nat) (wr ub : List Nat) (R : World → World → Prop) (S : Nat → World → Prop) (Vs : List Fact)
    (hlen : Vs.length = ops.length) (hm : P.follows .mixedOrders = true) (hsh : shapeB mk ops n = true) (hn : a0.tmps.size = n) (hch : chainB ops wr = true) (ho : onceB wr = true) (hub : boundB ops wr ub = true)
    (hRf : ∀ w, R w w) (hT : ∀ a b c, R a b → R b c → R a c) (hS0 : S 0 w.drew) (hK : KeepAll R Vs)
    (hG : GoodHAll P mk a0 R (at_ Vs) w.drew wr ub S 0 ops)
    (hQ : ∀ (vs : Nat → Value) (w' : World) (a' : Act), R w.drew w' → S wr.length w' → HoldAll w' vs 0 Vs → a' = putAll vs ops 0 a0 → Q .normal a' w') :
    (Code.region id ops.toArray true).wp P Q a0 w := by
  refine wp_region_any hm ?_
  have hidx : ∀ i, i < wr.length → wr.idxOf (wr.getD i 0) = i := fun i hi => by
    have := List.all_eq_true.1 ho i (List.mem_range.2 hi)
    simpa using this
  have hmem : ∀ i, i < wr.length → wr.contains (wr.getD i 0) = true := fun i hi => by
    rw [List.contains_iff_mem]; simp [List.getD_eq_getElem?_getD, hi]
  have h := phase_any (P := P) (ops := ops) (a0 := a0) (R := R) (V := at_ Vs) (w0 := w.drew) (Q := Q) (n := n) hsh hn hK.at hT hRf wr S
    (fun i j hi hj e => by rw [← hidx i hi, e, hidx j hj])
    (fun j o hj hoj => by
      have := List.all_eq_true.1 hch (j + 1) (List.mem_range.2 hj)
      rw [hoj] at this
      simpa using this)
    (fun i o hio hne k hk hcm => by
      have := hG.at i o hio
      rw [Nat.zero_add, if_neg (by
        rw [List.contains_iff_mem]
        intro hm'
        obtain ⟨j, hj, e⟩ := List.getElem_of_mem hm'
        exact hne j hj (by simp [List.getD_eq_getElem?_getD, hj, e]))] at this
      refine this k ?_
      have hil : i < ops.length := by
        rcases Nat.lt_or_ge i ops.length with h' | h'
        · exact h'
        · simp [List.getElem?_eq_none h'] at hio
      have hb := List.all_eq_true.1 hub i (List.mem_range.2 hil)
      rcases Bool.or_eq_true _ _ ▸ hb with hb | hb
      · have := of_decide_eq_true hb; omega
      · cases hoj : ops[wr.getD (ub.getD i 0) 0]? with
        | none => rw [hoj] at hb; cases hb
        | some oj =>
          rw [hoj] at hb
          rcases Nat.lt_or_ge (ub.getD i 0) k with h | h
          · have := hcm _ oj h hoj
            have hb2 : comesB ops oj i = true := hb
            rw [this] at hb2; cases hb2
          · exact h)
    (fun k o hk hko => by
      have := hG.at _ o hko
      rw [Nat.zero_add, if_pos (hmem k hk), hidx k hk] at this
      exact this)
    (fun a w' l hI hl => by
      subst hl
      obtain ⟨hB, k, hk, hS, hst⟩ := hI
      obtain ⟨vs, rfl, hv⟩ := hB.whole hsh hn
      have hkl : k = wr.length := by
        rcases Nat.lt_or_ge k wr.length with h | h
        · exfalso
          have := hst k h
          rw [decide_eq_false (by omega)] at this
          have hlt : wr.getD k 0 < ops.length := by
            have h2 := List.all_eq_true.1 hch k (List.mem_range.2 h)
            rcases Nat.lt_or_ge (wr.getD k 0) ops.length with h' | h'
            · exact h'
            · rw [List.getElem?_eq_none h'] at h2; cases h2
          generalize wr.getD k 0 = q at *
          simp [hlt] at this
        · omega
      subst hkl
      exact hQ vs _ _ hB.rel hS (HoldAll.mk fun i hi => by rw [Nat.zero_add]; exact hv i (by omega)) rfl)
    ops.length (Array.replicate ops.length false) a0 w.drew (by simp) (by
      have := Array.countP_le_size (p := (· == false)) (xs := Array.replicate ops.length false)
      simpa using this) (fun j oj hoj hlj => by
        exfalso
        by_cases h : j < ops.length <;> simp [h] at hlj) ⟨⟨hRf _, rfl, rfl, fun _ _ => rfl, fun i o hi hl => by
        exfalso
        by_cases h : i < ops.length <;> simp [h] at hl⟩, 0, Nat.zero_le _, hS0, fun j hj => by
          rw [decide_eq_false (by omega)]
          generalize wr.getD j 0 = q
          by_cases h : q < ops.length <;> simp [h]⟩
  simpa using h
end Go.Proofs.Ytobkgaceallegaa

/- A reader of a chunk: what it holds, what it reads. No condition of its own. -/
namespace Go.Proofs.Ytobkgaceallegaa
namespace Tlv
open Go Go.RowKit
set_option linter.unusedVariables false
set_option linter.unusedSimpArgs false
set_option maxRecDepth 100000


/-- A reader's cells: those of the chunk, and where it reads. -/
def RV (c : Ck) (s : Sv) (x : Value) : Array Value := #[.int .i64 c.kind, .int .u32 (c.ptsn : Int), .int .u16 (c.pstr : Int), .int .u16 (c.pseq : Int), .bool c.pb, .bool c.pe, .bool c.pu, .slice s.tA s.tN s.tC, .int .u32 (c.tag : Int), .int .i64 c.win, .int .i64 c.out, .int .i64 c.inn, .int .u32 (c.tsn : Int), .slice s.rA s.rN s.rC, .slice s.aA s.aN s.aC, .slice s.iA s.iN s.iC, .slice s.gA s.gN s.gC, .slice s.dA s.dN s.dC, .int .i64 c.cause, .int .u32 (c.serial : Int), .slice s.oA s.oN s.oC, .bool c.ok, x]
theorem rv0 {w : World} {g T : Nat} {c : Ck} {s : Sv} {x : Value} (h : Blk w g (RV c s x) T) : w.cell? ⟨g, 0, none⟩ = some (.int .i64 c.kind) := h.cell 0
theorem rv1 {w : World} {g T : Nat} {c : Ck} {s : Sv} {x : Value} (h : Blk w g (RV c s x) T) : w.cell? ⟨g, 1, none⟩ = some (.int .u32 (c.ptsn : Int)) := h.cell 1
theorem rv2 {w : World} {g T : Nat} {c : Ck} {s : Sv} {x : Value} (h : Blk w g (RV c s x) T) : w.cell? ⟨g, 2, none⟩ = some (.int .u16 (c.pstr : Int)) := h.cell 2
theorem rv3 {w : World} {g T : Nat} {c : Ck} {s : Sv} {x : Value} (h : Blk w g (RV c s x) T) : w.cell? ⟨g, 3, none⟩ = some (.int .u16 (c.pseq : Int)) := h.cell 3
theorem rv4 {w : World} {g T : Nat} {c : Ck} {s : Sv} {x : Value} (h : Blk w g (RV c s x) T) : w.cell? ⟨g, 4, none⟩ = some (.bool c.pb) := h.cell 4
theorem rv5 {w : World} {g T : Nat} {c : Ck} {s : Sv} {x : Value} (h : Blk w g (RV c s x) T) : w.cell? ⟨g, 5, none⟩ = some (.bool c.pe) := h.cell 5
theorem rv6 {w : World} {g T : Nat} {c : Ck} {s : Sv} {x : Value} (h : Blk w g (RV c s x) T) : w.cell? ⟨g, 6, none⟩ = some (.bool c.pu) := h.cell 6
theorem rv7 {w : World} {g T : Nat} {c : Ck} {s : Sv} {x : Value} (h : Blk w g (RV c s x) T) : w.cell? ⟨g, 7, none⟩ = some (.slice s.tA s.tN s.tC) := h.cell 7
theorem rv8 {w : World} {g T : Nat} {c : Ck} {s : Sv} {x : Value} (h : Blk w g (RV c s x) T) : w.cell? ⟨g, 8, none⟩ = some (.int .u32 (c.tag : Int)) := h.cell 8
theorem rv9 {w : World} {g T : Nat} {c : Ck} {s : Sv} {x : Value} (h : Blk w g (RV c s x) T) : w.cell? ⟨g, 9, none⟩ = some (.int .i64 c.win) := h.cell 9
theorem rv10 {w : World} {g T : Nat} {c : Ck} {s : Sv} {x : Value} (h : Blk w g (RV c s x) T) : w.cell? ⟨g, 10, none⟩ = some (.int .i64 c.out) := h.cell 10
theorem rv11 {w : World} {g T : Nat} {c : Ck} {s : Sv} {x : Value} (h : Blk w g (RV c s x) T) : w.cell? ⟨g, 11, none⟩ = some (.int .i64 c.inn) := h.cell 11
theorem rv12 {w : World} {g T : Nat} {c : Ck} {s : Sv} {x : Value} (h : Blk w g (RV c s x) T) : w.cell? ⟨g, 12, none⟩ = some (.int .u32 (c.tsn : Int)) := h.cell 12
theorem rv13 {w : World} {g T : Nat} {c : Ck} {s : Sv} {x : Value} (h : Blk w g (RV c s x) T) : w.cell? ⟨g, 13, none⟩ = some (.slice s.rA s.rN s.rC) := h.cell 13
theorem rv14 {w : World} {g T : Nat} {c : Ck} {s : Sv} {x : Value} (h : Blk w g (RV c s x) T) : w.cell? ⟨g, 14, none⟩ = some (.slice s.aA s.aN s.aC) := h.cell 14
theorem rv15 {w : World} {g T : Nat} {c : Ck} {s : Sv} {x : Value} (h : Blk w g (RV c s x) T) : w.cell? ⟨g, 15, none⟩ = some (.slice s.iA s.iN s.iC) := h.cell 15
theorem rv16 {w : World} {g T : Nat} {c : Ck} {s : Sv} {x : Value} (h : Blk w g (RV c s x) T) : w.cell? ⟨g, 16, none⟩ = some (.slice s.gA s.gN s.gC) := h.cell 16
theorem rv17 {w : World} {g T : Nat} {c : Ck} {s : Sv} {x : Value} (h : Blk w g (RV c s x) T) : w.cell? ⟨g, 17, none⟩ = some (.slice s.dA s.dN s.dC) := h.cell 17
theorem rv18 {w : World} {g T : Nat} {c : Ck} {s : Sv} {x : Value} (h : Blk w g (RV c s x) T) : w.cell? ⟨g, 18, none⟩ = some (.int .i64 c.cause) := h.cell 18
theorem rv19 {w : World} {g T : Nat} {c : Ck} {s : Sv} {x : Value} (h : Blk w g (RV c s x) T) : w.cell? ⟨g, 19, none⟩ = some (.int .u32 (c.serial : Int)) := h.cell 19
theorem rv20 {w : World} {g T : Nat} {c : Ck} {s : Sv} {x : Value} (h : Blk w g (RV c s x) T) : w.cell? ⟨g, 20, none⟩ = some (.slice s.oA s.oN s.oC) := h.cell 20
theorem rv21 {w : World} {g T : Nat} {c : Ck} {s : Sv} {x : Value} (h : Blk w g (RV c s x) T) : w.cell? ⟨g, 21, none⟩ = some (.bool c.ok) := h.cell 21
theorem rv22 {w : World} {g T : Nat} {c : Ck} {s : Sv} {x : Value} (h : Blk w g (RV c s x) T) : w.cell? ⟨g, 22, none⟩ = some (x) := h.cell 22
theorem RV.chunk (c : Ck) (s : Sv) (x : Value) : ∀ (j : Nat) v, (CV c s).toList[j]? = some v → (RV c s x)[0 + j]? = some v := by
  intro j v h
  match j with
  | 0 => exact h
  | 1 => exact h
  | 2 => exact h
  | 3 => exact h
  | 4 => exact h
  | 5 => exact h
  | 6 => exact h
  | 7 => exact h
  | 8 => exact h
  | 9 => exact h
  | 10 => exact h
  | 11 => exact h
  | 12 => exact h
  | 13 => exact h
  | 14 => exact h
  | 15 => exact h
  | 16 => exact h
  | 17 => exact h
  | 18 => exact h
  | 19 => exact h
  | 20 => exact h
  | 21 => exact h
  | j + 22 => simp [CV] at h
/-- Pairs as cells; a list of them in a block of the own. -/
def pcl (L : List (Int × Int)) : List Value := L.flatMap fun p => [.int .i64 p.1, .int .i64 p.2]
theorem pcl_len : ∀ L : List (Int × Int), (pcl L).length = L.length * 2
  | [] => rfl
  | p :: L => by
    have := pcl_len L
    unfold pcl at *
    rw [List.flatMap_cons, List.length_append, this, List.length_cons, List.length_cons]; simp; omega
theorem pcl_get {L : List (Int × Int)} : ∀ {i : Nat} {p : Int × Int}, L[i]? = some p → (pcl L)[i * 2]? = some (.int .i64 p.1) ∧ (pcl L)[i * 2 + 1]? = some (.int .i64 p.2) := by
  induction L with
  | nil => intro i p h; simp at h
  | cons x L ih =>
    intro i p h
    cases i with
    | zero => simp at h; subst h; exact ⟨rfl, rfl⟩
    | succ i =>
      have := ih (i := i) (p := p) (by simpa using h)
      have e : pcl (x :: L) = .int .i64 x.1 :: .int .i64 x.2 :: pcl L := rfl
      rw [e, show (i + 1) * 2 = i * 2 + 1 + 1 by omega]
      simpa using this
def OwnP (e : TypeId) (w : World) (base : Nat) (v : Value) (L : List (Int × Int)) : Prop := w.ownsRow base e 2 v L.length (pcl L) ∧ L.length ≤ maxLen
theorem OwnP.nil (e : TypeId) (w : World) (base : Nat) : OwnP e w base (.slice none 0 0) [] := ⟨World.ownsRow_nil _ _ _ _, by simp⟩
theorem OwnP.pairs {e : TypeId} {w : World} {base : Nat} {v : Value} {L : List (Int × Int)} (h : OwnP e w base v L) : PairsAt w v L := by
  obtain ⟨⟨h0, h1 | ⟨g, cap, cur, rfl, hb, hg, hn, hc, hs, ht⟩⟩, hm⟩ := h
  · have : L = [] := List.eq_nil_of_length_eq_zero h1.2
    subst this
    rw [h1.1]
    exact PairsAt.nil _
  · refine ⟨hm, _, cap, rfl, ⟨hn, fun h => by cases h⟩, hc, fun i p hp => ⟨g, 0, rfl, ?_, ?_⟩⟩
    · obtain ⟨a1, a2⟩ := pcl_get hp
      rw [Nat.zero_add, cell_of_block hg]
      have hi := (List.getElem?_eq_some_iff.1 hp).1
      rw [← ht, List.getElem?_take, if_pos (by omega)] at a1
      simpa using a1
    · obtain ⟨a1, a2⟩ := pcl_get hp
      rw [Nat.zero_add, cell_of_block hg]
      have hi := (List.getElem?_eq_some_iff.1 hp).1
      rw [← ht, List.getElem?_take, if_pos (by omega)] at a2
      simpa using a2
theorem OwnP.but {S : Nat → Prop} {e : TypeId} {w w' : World} {base : Nat} {v : Value} {L : List (Int × Int)} (h : OwnP e w base v L) (hk : KeepBut S w w') (hn : ∀ g, v.ownBlock = some g → ¬ S g) : OwnP e w' base v L := ⟨ownsRow_but h.1 hk hn, h.2⟩
theorem OwnP.ext {e : TypeId} {w w' : World} {base : Nat} {v : Value} {L : List (Int × Int)} (h : OwnP e w base v L) (he : Ext w w') : OwnP e w' base v L := h.but (KeepBut.ext (S := fun _ => False) he) (fun _ _ h => h)
theorem ownsRow_ne {w : World} {base e n size g t : Nat} {v : Value} {xs : List Value} {C : Array Value} (h : w.ownsRow base e size v n xs) (hb : Blk w g C t) (ht : t ≠ e) : ∀ k, v.ownBlock = some k → k ≠ g := by
  intro k hk hkg
  subst hkg
  rcases h.2 with ⟨rfl, _⟩ | ⟨g', cap, cur, rfl, _, hg, _⟩
  · cases hk
  · simp only [Value.ownBlock, Option.some.injEq] at hk
    subst hk
    have : some (Obj.cells C t (0, 0)) = some (.cells cur e (0, 0)) := hb.symm.trans hg
    simp only [Option.some.injEq, Obj.cells.injEq] at this
    exact ht this.2.1
/-- A chunk's lists, in blocks of the own. -/
structure OwnC (w : World) (base : Nat) (s : Sv) (c : Ck) : Prop where
  t : OB w base (.slice s.tA s.tN s.tC) c.text
  r : OB w base (.slice s.rA s.rN s.rC) c.rand
  a : OwnN .i64 w base 65 (.slice s.aA s.aN s.aC) c.addrs
  i : OB w base (.slice s.iA s.iN s.iC) c.info
  g : OwnP 67 w base (.slice s.gA s.gN s.gC) c.gaps
  d : OwnN .u32 w base 22 (.slice s.dA s.dN s.dC) (ci c.dups)
  o : OwnP 69 w base (.slice s.oA s.oN s.oC) c.ops
theorem OwnC.at {w : World} {base : Nat} {s : Sv} {c : Ck} (h : OwnC w base s c) : CkAt w s c := ⟨h.t.bytes, h.r.bytes, h.a.nums, h.i.bytes, h.g.pairs, h.d.nums, h.o.pairs⟩
theorem OwnC.nil (w : World) (base : Nat) (k : Int) : OwnC w base sv0 (ck0 k) := ⟨OB.nil _ _, OB.nil _ _, OwnN.nil _ _ _ _, OB.nil _ _, OwnP.nil _ _ _, OwnN.nil _ _ _ _, OwnP.nil _ _ _⟩
theorem OwnC.ext {w w' : World} {base : Nat} {s : Sv} {c : Ck} (h : OwnC w base s c) (he : Ext w w') : OwnC w' base s c := ⟨h.t.ext he, h.r.ext he, h.a.ext he, h.i.ext he, h.g.ext he, h.d.ext he, h.o.ext he⟩
/-- What no list lies in. -/
def NoList (t : Nat) : Prop := t ≠ 5 ∧ t ≠ 65 ∧ t ≠ 67 ∧ t ≠ 22 ∧ t ≠ 69
theorem OwnC.but {w w' : World} {base g t : Nat} {s : Sv} {c : Ck} {C : Array Value} (h : OwnC w base s c) (hk : KeepBut (· = g) w w') (hb : Blk w g C t) (ht : NoList t) : OwnC w' base s c :=
  ⟨h.t.but hk (h.t.ne hb ht.1), h.r.but hk (h.r.ne hb ht.1), h.a.mono_via hk (ownsRow_ne h.a.1 hb ht.2.1), h.i.but hk (h.i.ne hb ht.1), h.g.but hk (ownsRow_ne h.g.1 hb ht.2.2.1), h.d.mono_via hk (ownsRow_ne h.d.1 hb ht.2.2.2.1), h.o.but hk (ownsRow_ne h.o.1 hb ht.2.2.2.2)⟩
theorem noIn : NoList 126 := ⟨by decide, by decide, by decide, by decide, by decide⟩
theorem noRd : NoList 91 := ⟨by decide, by decide, by decide, by decide, by decide⟩
theorem InAt.blk0 {w : World} {base g : Nat} {bv : Value} {B : List Nat} {s : Option Nat} (h : InAt w base g bv B s) : ∃ C, Blk w g C 126 := by
  obtain ⟨_, a, b, hb, _⟩ := h
  exact ⟨_, hb⟩
/-- A reader of a chunk, all of it above w0: what it holds, what it reads, where. -/
structure RS (w0 w : World) (q : Nat) (c : Ck) (s : Sv) (B : List Nat) (st : Option Nat) : Prop where
  ext : Ext w0 w
  lo : w0.heap.size ≤ q
  own : OwnC w w0.heap.size s c
  fit : Fit c
  rd : ∃ gi bv, Blk w q (RV c s (ptr gi)) 91 ∧ gi ≠ q ∧ w0.heap.size ≤ gi ∧ InAt w w0.heap.size gi bv B st
theorem RS.step {w0 w w' : World} {q : Nat} {c : Ck} {s : Sv} {B : List Nat} {st st' : Option Nat} (h : RS w0 w q c s B st) {gi : Nat} {bv : Value} (hb : Blk w q (RV c s (ptr gi)) 91) (hq : gi ≠ q) (hl : w0.heap.size ≤ gi) (hi0 : InAt w w0.heap.size gi bv B st) (hi : InAt w' w0.heap.size gi bv B st') (hk : KeepBut (· = gi) w w') : RS w0 w' q c s B st' := by
  obtain ⟨C, hC⟩ := hi0.blk0
  exact ⟨h.ext.of_but hk (fun k e => by subst e; exact hl), h.lo, h.own.but hk hC noIn, h.fit, gi, bv, hb.but hk (fun e => hq e.symm), hq, hl, hi⟩
theorem RS.grow {w0 w w' : World} {q : Nat} {c : Ck} {s : Sv} {B : List Nat} {st : Option Nat} (h : RS w0 w q c s B st) (he : Ext w w') : RS w0 w' q c s B st := by
  obtain ⟨h1, h2, h3, h4, gi, bv, h5, h6, h7, h8⟩ := h
  exact ⟨h1.trans he, h2, h3.ext he, h4, gi, bv, h5.ext he, h6, h7, h8.ext he⟩
/-- The reader's block stored anew. -/
theorem RS.put {w0 w w' : World} {q : Nat} {c c' : Ck} {s s' : Sv} {B : List Nat} {st : Option Nat} (h : RS w0 w q c s B st) {gi : Nat} {bv : Value} (hb0 : Blk w q (RV c s (ptr gi)) 91) (hq : gi ≠ q) (hl : w0.heap.size ≤ gi) (hi0 : InAt w w0.heap.size gi bv B st) (hb : Blk w' q (RV c' s' (ptr gi)) 91) (hk : KeepBut (· = q) w w') (ho : OwnC w w0.heap.size s' c') (hf : Fit c') : RS w0 w' q c' s' B st :=
  ⟨h.ext.of_but hk (fun k e => by subst e; exact h.lo), h.lo, ho.but hk hb0 noRd, hf, gi, bv, hb, hq, hl, hi0.but hk hq (hi0.own.ne hb0 (by decide))⟩
theorem numS_u32 {B : List Nat} (h : AllB B) (s : Option Nat) : (numS B s 4).2 < 4294967296 := by
  unfold numS
  rw [if_pos (by decide)]
  refine val_lt (takeS_all h s 4) 4 ?_
  unfold takeS
  cases s with
  | none => simp
  | some a =>
    simp only
    split
    · rw [List.length_take]; simp; omega
    · simp
theorem numS_u8 {B : List Nat} (h : AllB B) (s : Option Nat) : (numS B s 1).2 < 256 := by
  unfold numS
  rw [if_pos (by decide)]
  refine val_lt (takeS_all h s 1) 1 ?_
  unfold takeS
  cases s with
  | none => simp
  | some a =>
    simp only
    split
    · rw [List.length_take]; simp; omega
    · simp
/-- What a reader's call leaves. -/
def RdIs (w0 : World) (q : Nat) (c : Ck) (s : Sv) (B : List Nat) (st : Option Nat) (v : Value) (e : Ending) (w' : World) : Prop := e = .returned v ∧ RS w0 w' q c s B st
set_option maxHeartbeats 2000000 in
theorem word_any {w0 w : World} {q : Nat} {c : Ck} {s : Sv} {B : List Nat} {st : Option Nat} (h : RS w0 w q c s B st) (hA : AllB B) (hB : B.length ≤ 1000000) :
    Calls Try.prog 79 #[ptr q] w (RdIs w0 q c s B (numS B st 4).1 (.int .u32 ((numS B st 4).2 : Nat))) := by
  obtain ⟨gi, bv, hb, hq, hl, hi⟩ := h.rd
  have HX : Hid (RS w0 w q c s B st ∧ Blk w q (RV c s (ptr gi)) 91 ∧ gi ≠ q ∧ w0.heap.size ≤ gi ∧ InAt w w0.heap.size gi bv B st ∧ B.length ≤ 1000000) := ⟨h, hb, hq, hl, hi, hB⟩
  have c22 := rv22 hb
  have hn := numS_u32 hA st
  have hw : IntKind.u32.wrap ((numS B st 4).2 : Int) = ((numS B st 4).2 : Int) := by rw [IntKind.wrap_u32]; omega
  clear h hb hq hl hi hA hB
  go_enter Try.func79, Try.ntmps79
  go_wp2_with (first
    | (go_at_call 40; refine (inNum_any HX.out.2.2.2.2.1 HX.out.2.2.2.2.2 4).mono ?_; rintro e w2 ⟨rfl, hi2, hk2⟩))
  go_ret
  exact ⟨rfl, HX.out.1.step HX.out.2.1 HX.out.2.2.1 HX.out.2.2.2.1 HX.out.2.2.2.2.1 hi2 hk2⟩
theorem numS_le {B : List Nat} (h : AllB B) (s : Option Nat) (n : Int) (hn : n = 1 ∨ n = 2 ∨ n = 4) : (numS B s n).2 < 4294967296 := by
  rcases hn with rfl | rfl | rfl
  · have := numS_u8 h s; omega
  · have := numS2_lt h s; omega
  · exact numS_u32 h s
set_option maxHeartbeats 2000000 in
theorem number_any {w0 w : World} {q : Nat} {c : Ck} {s : Sv} {B : List Nat} {st : Option Nat} (h : RS w0 w q c s B st) (hA : AllB B) (hB : B.length ≤ 1000000) (n : Int) (hn : n = 1 ∨ n = 2 ∨ n = 4) :
    Calls Try.prog 80 #[ptr q, .int .i64 n] w (RdIs w0 q c s B (numS B st n).1 (.int .i64 ((numS B st n).2 : Nat))) := by
  obtain ⟨gi, bv, hb, hq, hl, hi⟩ := h.rd
  have HX : Hid (RS w0 w q c s B st ∧ Blk w q (RV c s (ptr gi)) 91 ∧ gi ≠ q ∧ w0.heap.size ≤ gi ∧ InAt w w0.heap.size gi bv B st ∧ B.length ≤ 1000000) := ⟨h, hb, hq, hl, hi, hB⟩
  have c22 := rv22 hb
  have hlt := numS_le hA st n hn
  have hw : IntKind.i64.wrap ((numS B st n).2 : Int) = ((numS B st n).2 : Int) := by rw [IntKind.wrap_i64]; omega
  clear h hb hq hl hi hA hB hn
  go_enter Try.func80, Try.ntmps80
  go_wp2_with (first
    | (go_at_call 40; refine (inNum_any HX.out.2.2.2.2.1 HX.out.2.2.2.2.2 n).mono ?_; rintro e w2 ⟨rfl, hi2, hk2⟩))
  go_ret
  exact ⟨rfl, HX.out.1.step HX.out.2.1 HX.out.2.2.1 HX.out.2.2.2.1 HX.out.2.2.2.2.1 hi2 hk2⟩
/-- What value leaves. -/
def ValueC (w0 : World) (q : Nat) (c : Ck) (B : List Nat) (e : Ending) (w' : World) : Prop := (∃ y, e = .returned y) ∧ ∃ s' st', RS w0 w' q c s' B st'
set_option maxHeartbeats 8000000 in
theorem valueR_no {w0 w : World} {q : Nat} {c : Ck} {s : Sv} {B : List Nat} {st : Option Nat} {F : Int} (h : RS w0 w q c s B st) (h0 : c.kind ≠ 0) (h1 : c.kind ≠ 1) (h2 : c.kind ≠ 2) (h3 : c.kind ≠ 3) (h4 : c.kind ≠ 4) (h5 : c.kind ≠ 5) (h10 : c.kind ≠ 10) (h15 : c.kind ≠ 15) (h6 : c.kind ≠ 6) (h9 : c.kind ≠ 9) (h7 : c.kind ≠ 7) (h193 : c.kind ≠ 193) (h128 : c.kind ≠ 128) :
    Calls Try.prog 42 #[ptr q, .int .u64 F] w (ValueC w0 q c B) := by
  obtain ⟨gi, bv, hb, hq, hl, hi⟩ := h.rd
  have c0 := rv0 hb
  have HX : Hid (RS w0 w q c s B st) := h
  clear h hb hq hl hi
  have e0 : (c.kind == 0) = false := beq_false_of_ne h0
  have e1 : (c.kind == 1) = false := beq_false_of_ne h1
  have e2 : (c.kind == 2) = false := beq_false_of_ne h2
  have e3 : (c.kind == 3) = false := beq_false_of_ne h3
  have e4 : (c.kind == 4) = false := beq_false_of_ne h4
  have e5 : (c.kind == 5) = false := beq_false_of_ne h5
  have e10 : (c.kind == 10) = false := beq_false_of_ne h10
  have e15 : (c.kind == 15) = false := beq_false_of_ne h15
  have e6 : (c.kind == 6) = false := beq_false_of_ne h6
  have e9 : (c.kind == 9) = false := beq_false_of_ne h9
  have e7 : (c.kind == 7) = false := beq_false_of_ne h7
  have e193 : (c.kind == 193) = false := beq_false_of_ne h193
  have e128 : (c.kind == 128) = false := beq_false_of_ne h128
  go_enter Try.func42, Try.ntmps42
  go_wp2
  go_end0
  exact ⟨⟨_, rfl⟩, _, _, HX.out⟩
end Tlv
end Go.Proofs.Ytobkgaceallegaa
