/- Texts of the seat, one behind the other. No condition of its own. -/
import Derived.Test.YtbahelhohkhkmaaMb5
set_option linter.unusedVariables false
set_option linter.unusedSimpArgs false
/- Which chunks are good. No condition of its own. -/
namespace Go.Proofs.Ytbahelhohkhkmaa
namespace Tlv
open Go Go.RowKit
set_option maxRecDepth 100000
theorem usedC_0 {c : Ck} (hk : c.kind = 0) : usedC c = { ck0 0 with kind := 0, ptsn := c.ptsn, pstr := c.pstr, pseq := c.pseq, pb := c.pb, pe := c.pe, pu := c.pu, text := c.text } := by simp [usedC, hk]
theorem usedS_0 {c : Ck} (hk : c.kind = 0) (s : Sv) : usedS c s = { sv0 with tA := s.tA, tN := s.tN, tC := s.tC } := by simp [usedS, hk]
theorem usedC_1 {c : Ck} (hk : c.kind = 1) : usedC c = { ck0 1 with kind := 1, tag := c.tag, win := c.win, out := c.out, inn := c.inn, tsn := c.tsn, rand := c.rand, addrs := c.addrs } := by simp [usedC, hk]
theorem usedS_1 {c : Ck} (hk : c.kind = 1) (s : Sv) : usedS c s = { sv0 with rA := s.rA, rN := s.rN, rC := s.rC, aA := s.aA, aN := s.aN, aC := s.aC } := by simp [usedS, hk]
theorem usedC_2 {c : Ck} (hk : c.kind = 2) : usedC c = { ck0 2 with kind := 2, tag := c.tag, win := c.win, out := c.out, inn := c.inn, tsn := c.tsn, rand := c.rand, addrs := c.addrs, info := c.info } := by simp [usedC, hk]
theorem usedS_2 {c : Ck} (hk : c.kind = 2) (s : Sv) : usedS c s = { sv0 with rA := s.rA, rN := s.rN, rC := s.rC, aA := s.aA, aN := s.aN, aC := s.aC, iA := s.iA, iN := s.iN, iC := s.iC } := by simp [usedS, hk]
theorem usedC_3 {c : Ck} (hk : c.kind = 3) : usedC c = { ck0 3 with kind := 3, tsn := c.tsn, win := c.win, gaps := c.gaps, dups := c.dups } := by simp [usedC, hk]
theorem usedS_3 {c : Ck} (hk : c.kind = 3) (s : Sv) : usedS c s = { sv0 with gA := s.gA, gN := s.gN, gC := s.gC, dA := s.dA, dN := s.dN, dC := s.dC } := by simp [usedS, hk]
theorem usedC_4 {c : Ck} (hk : c.kind = 4) : usedC c = { ck0 4 with kind := 4, info := c.info } := by simp [usedC, hk]
theorem usedS_4 {c : Ck} (hk : c.kind = 4) (s : Sv) : usedS c s = { sv0 with iA := s.iA, iN := s.iN, iC := s.iC } := by simp [usedS, hk]
theorem usedC_5 {c : Ck} (hk : c.kind = 5) : usedC c = { ck0 5 with kind := 5, info := c.info } := by simp [usedC, hk]
theorem usedS_5 {c : Ck} (hk : c.kind = 5) (s : Sv) : usedS c s = { sv0 with iA := s.iA, iN := s.iN, iC := s.iC } := by simp [usedS, hk]
theorem usedC_10 {c : Ck} (hk : c.kind = 10) : usedC c = { ck0 10 with kind := 10, info := c.info } := by simp [usedC, hk]
theorem usedS_10 {c : Ck} (hk : c.kind = 10) (s : Sv) : usedS c s = { sv0 with iA := s.iA, iN := s.iN, iC := s.iC } := by simp [usedS, hk]
theorem usedC_15 {c : Ck} (hk : c.kind = 15) : usedC c = { ck0 15 with kind := 15, info := c.info } := by simp [usedC, hk]
theorem usedS_15 {c : Ck} (hk : c.kind = 15) (s : Sv) : usedS c s = { sv0 with iA := s.iA, iN := s.iN, iC := s.iC } := by simp [usedS, hk]
theorem usedC_6 {c : Ck} (hk : c.kind = 6) : usedC c = { ck0 6 with kind := 6, cause := c.cause } := by simp [usedC, hk]
theorem usedS_6 {c : Ck} (hk : c.kind = 6) (s : Sv) : usedS c s = sv0 := by simp [usedS, hk]
theorem usedC_9 {c : Ck} (hk : c.kind = 9) : usedC c = { ck0 9 with kind := 9, cause := c.cause } := by simp [usedC, hk]
theorem usedS_9 {c : Ck} (hk : c.kind = 9) (s : Sv) : usedS c s = sv0 := by simp [usedS, hk]
theorem usedC_7 {c : Ck} (hk : c.kind = 7) : usedC c = { ck0 7 with kind := 7, tsn := c.tsn } := by simp [usedC, hk]
theorem usedS_7 {c : Ck} (hk : c.kind = 7) (s : Sv) : usedS c s = sv0 := by simp [usedS, hk]
theorem usedC_193 {c : Ck} (hk : c.kind = 193) : usedC c = { ck0 193 with kind := 193, serial := c.serial, ops := c.ops } := by simp [usedC, hk]
theorem usedS_193 {c : Ck} (hk : c.kind = 193) (s : Sv) : usedS c s = { sv0 with oA := s.oA, oN := s.oN, oC := s.oC } := by simp [usedS, hk]
theorem usedC_128 {c : Ck} (hk : c.kind = 128) : usedC c = { ck0 128 with kind := 128, serial := c.serial, ok := c.ok } := by simp [usedC, hk]
theorem usedS_128 {c : Ck} (hk : c.kind = 128) (s : Sv) : usedS c s = sv0 := by simp [usedS, hk]
theorem CkAt.used {w : World} {c : Ck} {s : Sv} (h : CkAt w s c) : CkAt w (usedS c s) (usedC c) := by
 have z1 := BytesAt.none w
 have z2 := NumsAt.nothing .i64 w
 have z3 := NumsAt.nothing .u32 w
 have z4 := PairsAt.nil w
 by_cases h0 : c.kind = 0
 ·
  rw [usedC_0 h0, usedS_0 h0]; exact ⟨h.t, z1, z2, z1, z4, z3, z4⟩
 by_cases h1 : c.kind = 1
 ·
  rw [usedC_1 h1, usedS_1 h1]; exact ⟨z1, h.r, h.a, z1, z4, z3, z4⟩
 by_cases h2 : c.kind = 2
 ·
  rw [usedC_2 h2, usedS_2 h2]; exact ⟨z1, h.r, h.a, h.i, z4, z3, z4⟩
 by_cases h3 : c.kind = 3
 ·
  rw [usedC_3 h3, usedS_3 h3]; exact ⟨z1, z1, z2, z1, h.g, h.d, z4⟩
 by_cases h4 : c.kind = 4
 ·
  rw [usedC_4 h4, usedS_4 h4]; exact ⟨z1, z1, z2, h.i, z4, z3, z4⟩
 by_cases h5 : c.kind = 5
 ·
  rw [usedC_5 h5, usedS_5 h5]; exact ⟨z1, z1, z2, h.i, z4, z3, z4⟩
 by_cases h10 : c.kind = 10
 ·
  rw [usedC_10 h10, usedS_10 h10]; exact ⟨z1, z1, z2, h.i, z4, z3, z4⟩
 by_cases h15 : c.kind = 15
 ·
  rw [usedC_15 h15, usedS_15 h15]; exact ⟨z1, z1, z2, h.i, z4, z3, z4⟩
 by_cases h6 : c.kind = 6
 ·
  rw [usedC_6 h6, usedS_6 h6]; exact ⟨z1, z1, z2, z1, z4, z3, z4⟩
 by_cases h9 : c.kind = 9
 ·
  rw [usedC_9 h9, usedS_9 h9]; exact ⟨z1, z1, z2, z1, z4, z3, z4⟩
 by_cases h7 : c.kind = 7
 ·
  rw [usedC_7 h7, usedS_7 h7]; exact ⟨z1, z1, z2, z1, z4, z3, z4⟩
 by_cases h193 : c.kind = 193
 ·
  rw [usedC_193 h193, usedS_193 h193]; exact ⟨z1, z1, z2, z1, z4, z3, h.o⟩
 by_cases h128 : c.kind = 128
 ·
  rw [usedC_128 h128, usedS_128 h128]; exact ⟨z1, z1, z2, z1, z4, z3, z4⟩
 rw [show usedC c = ck0 c.kind by simp [usedC, *], show usedS c s = sv0 by simp [usedS, *]]
 exact ⟨z1, z1, z2, z1, z4, z3, z4⟩
/-- Which chunks are good. -/
def goodB (c : Ck) : Bool := (((knB c.kind) && ((fitsB c))) && ((sameB c (usedC c))))
set_option maxHeartbeats 4000000 in
theorem goodC_any {w : World} {c : Ck} {s : Sv} (ha : CkAt w s c) :
  Calls Try.prog 12 #[.agg (CV c s)] w fun e w' => e = .returned (.bool (goodB c)) ∧ Ext w w' := by
 unfold goodB
 go_enter Try.func12, Try.ntmps12
 go_wp2_with (first
  | (refine wl_box (C := CV c s) rfl rfl rfl ?_; intro w1 hb1 he1 hx; clear hx))
 have HA : CkAt w1.drew s c := (ha.ext he1).ext (Ext.drew _)
 have hb1d : Blk w1.drew w.heap.size (CV c s) 38 := hb1
 refine wp_region_facts (fun t => bif Nat.ble 3 t && Nat.ble t 15 then some (t - 3) else bif Nat.beq t 2 then some 13 else none) 16 Ext
  [Is (.pointer (some ⟨w.heap.size, 0, none⟩)),
   Is (.int .i64 c.kind),
   Is (.bool (knB c.kind)),
   Is (.bool (knB c.kind)),
   Under (((knB c.kind))) (.agg (CV c s)),
   Under (((knB c.kind))) (.bool (fitsB c)),
   Is (.bool ((knB c.kind) && ((fitsB c)))),
   Is (.bool ((knB c.kind) && ((fitsB c)))),
   Under ((((knB c.kind) && ((fitsB c))))) (.agg (CV c s)),
   Under ((((knB c.kind) && ((fitsB c))))) (.agg (CV c s)),
   Under ((((knB c.kind) && ((fitsB c))))) (.agg (CV (usedC c) (usedS c s))),
   Under ((((knB c.kind) && ((fitsB c))))) (.bool (sameB c (usedC c))),
   Is (.bool (((knB c.kind) && ((fitsB c))) && ((sameB c (usedC c))))),
   Is (.bool (((knB c.kind) && ((fitsB c))) && ((sameB c (usedC c)))))]
  rfl (by kernel_rfl) (by kernel_rfl) rfl Ext.refl (fun _ _ _ => Ext.trans) (Ks (Ks (Ks (Ks (Ku (Ku (Ks (Ks (Ku (Ku (Ku (Ku (Ks (Ks (KeepAll.nil))))))))))))))) ?_ ?_
 ·
  refine Gc (ln1 (gd0 rfl) rfl (ouI rfl) (fun _ _ h _ => h) (fun r wx hR h1 => by simp [execOp, h1, go_sem])) ?_
  refine Gc (ln1 (gd0 rfl) rfl (ouI rfl) (fun _ _ h _ => h) (fun r wx hR h1 => exg one3 rfl h1 (cv0 (hb1d.ext hR)))) ?_
  refine Gc ?_ ?_
  ·
   rintro r wx hR ⟨h1, h2, _⟩
   replace h1 : r (.func 22) = .func (.func 22) #[] #[] := h1
   replace h2 : r (.tmp 4) = .int .i64 c.kind := h2
   refine give_func #[.int .i64 c.kind] rfl h1 Try.call22 (by simp [h2]) ?_
   refine (known_any _ _).mono ?_
   rintro e wz ⟨rfl, hez⟩
   exact ⟨_, rfl, hez, rfl⟩
  refine Gc (ln1 (gd0 rfl) rfl (ouI rfl) (fun _ _ h _ => h) (fun r wx hR h1 => exec_mv (.inl rfl) h1)) ?_
  refine Gc (ln1 (gdU rfl (fun _ _ h => h) (want_t _)) rfl (ouU rfl) (fun _ _ h _ => h) (fun r wx hR h1 => exec_loadW rowC rfl h1 (hb1d.ext hR) rfl)) ?_
  refine Gc ?_ ?_
  ·
   rintro r wx hR ⟨h1, h2, _⟩
   replace h1 : r (.func 34) = .func (.func 34) #[] #[] := h1
   replace h2 : Under (((knB c.kind))) (.agg (CV c s)) wx (r (.tmp 7)) := h2
   intro gb hgb
   refine guard_u (C := ((knB c.kind))) (b := (knB c.kind)) (want := true) hgb (want_t _) (fun hc => ?_) (fun hc => un_ hc)
   replace h2 := h2.get hc
   refine give_func #[.agg (CV c s)] rfl h1 Try.call34 (by simp [h2]) ?_
   refine (fits_any (HA.ext hR)).mono ?_
   rintro e wz ⟨rfl, hez⟩
   exact ⟨_, rfl, hez, uy hc⟩
  refine Gc (lnA (gd0 rfl) rfl (ouI rfl) (fun _ _ h _ => h) (fun _ _ h c hb => Eq.trans h (if_pos (by first | exact hb | (rw [hb]; rfl) | (rw [c, hb]; rfl))))) ?_
  refine Gc (ln1 (gd0 rfl) rfl (ouI rfl) (fun _ _ h _ => h) (fun r wx hR h1 => exec_mv (.inl rfl) h1)) ?_
  refine Gc (ln1 (gdU rfl (fun _ _ h => h) (want_t _)) rfl (ouU rfl) (fun _ _ h _ => h) (fun r wx hR h1 => exec_loadW rowC rfl h1 (hb1d.ext hR) rfl)) ?_
  refine Gc (ln1 (gdU rfl (fun _ _ h => h) (want_t _)) rfl (ouU rfl) (fun _ _ h _ => h) (fun r wx hR h1 => exec_loadW rowC rfl h1 (hb1d.ext hR) rfl)) ?_
  refine Gc ?_ ?_
  ·
   rintro r wx hR ⟨h1, h2, _⟩
   replace h1 : r (.func 35) = .func (.func 35) #[] #[] := h1
   replace h2 : Under ((((knB c.kind) && ((fitsB c))))) (.agg (CV c s)) wx (r (.tmp 12)) := h2
   intro gb hgb
   refine guard_u (C := (((knB c.kind) && ((fitsB c))))) (b := ((knB c.kind) && ((fitsB c)))) (want := true) hgb (want_t _) (fun hc => ?_) (fun hc => un_ hc)
   replace h2 := h2.get hc
   refine give_func #[.agg (CV c s)] rfl h1 Try.call35 (by simp [h2]) ?_
   refine (used_any c s).mono ?_
   rintro e wz ⟨rfl, hez⟩
   exact ⟨_, rfl, hez, uy hc⟩
  refine Gc ?_ ?_
  ·
   rintro r wx hR ⟨h1, h2, h3, _⟩
   replace h1 : r (.func 25) = .func (.func 25) #[] #[] := h1
   replace h2 : Under ((((knB c.kind) && ((fitsB c))))) (.agg (CV c s)) wx (r (.tmp 11)) := h2
   replace h3 : Under ((((knB c.kind) && ((fitsB c))))) (.agg (CV (usedC c) (usedS c s))) wx (r (.tmp 13)) := h3
   intro gb hgb
   refine guard_u (C := (((knB c.kind) && ((fitsB c))))) (b := ((knB c.kind) && ((fitsB c)))) (want := true) hgb (want_t _) (fun hc => ?_) (fun hc => un_ hc)
   replace h2 := h2.get hc
   replace h3 := h3.get hc
   refine give_func #[.agg (CV c s), .agg (CV (usedC c) (usedS c s))] rfl h1 Try.call25 (by simp [h2, h3]) ?_
   refine (same_any (HA.ext hR) (HA.used.ext hR)).mono ?_
   rintro e wz ⟨rfl, hez⟩
   exact ⟨_, rfl, hez, uy hc⟩
  refine Gc (lnA (gd0 rfl) rfl (ouI rfl) (fun _ _ h _ => h) (fun _ _ h c hb => Eq.trans h (if_pos (by first | exact hb | (rw [hb]; rfl) | (rw [c, hb]; rfl))))) ?_
  refine Gc (ln1 (gd0 rfl) rfl (ouI rfl) (fun _ _ h _ => h) (fun r wx hR h1 => exec_mv (.inr rfl) h1)) ?_
  exact GoodAll.nil
 ·
  intro vs wE aE hR hold haE
  have hv : vs 13 = .bool (((knB c.kind) && ((fitsB c))) && ((sameB c (usedC c)))) := hold.at 13
  refine ‹∀ (a : Act) (w : World), Code.wp Try.prog Code.ret _ a w → _› _ _ ?_
  refine wp_ret ?_
  have hs : aE.tmps[2]? = some (.bool (((knB c.kind) && ((fitsB c))) && ((sameB c (usedC c))))) := by rw [haE, ← hv]; kernel_rfl
  have hdf : aE.defers = [] := by rw [haE]; exact putAll_defers _ _ _ _
  clear haE
  refine bodyPost_ret (v := .bool (((knB c.kind) && ((fitsB c))) && ((sameB c (usedC c))))) ?_ hdf ⟨rfl, he1.trans ((Ext.drew _).trans hR)⟩
  simp [results, Try.results12, go_sem, hs]
set_option maxRecDepth 100000
/-- An Out that lies above w0, as all that it owns: what lay in w0 stands. -/
def OC (w0 w : World) (g : Nat) (l : List Nat) : Prop := w0.heap.size ≤ g ∧ Ext w0 w ∧ ∃ v, OutAt w w0.heap.size g v l
theorem OC.ext {w0 w w' : World} {g : Nat} {l : List Nat} (h : OC w0 w g l) (he : Ext w w') : OC w0 w' g l := by
 obtain ⟨h1, h2, v, h3⟩ := h
 exact ⟨h1, h2.trans he, v, h3.ext he⟩
theorem OC.out {w0 w : World} {g : Nat} {l : List Nat} (h : OC w0 w g l) : Ext w0 w := h.2.1
theorem OC.new {w w1 : World} (hb : Blk w1 w.heap.size #[.slice none 0 0] 74) (he : Ext w w1) : OC w w1 w.heap.size [] :=
 ⟨Nat.le_refl _, he, _, hb, OB.nil _ _⟩
/-- Blocks that are no bytes and no Out stand. -/
def Kept (g : Nat) (w w' : World) : Prop := ∀ q C t, Blk w q C t → t ≠ 5 → q ≠ g → Blk w' q C t
theorem Kept.trans {g : Nat} {a b c : World} (h : Kept g a b) (k : Kept g b c) : Kept g a c := fun q C t h1 h2 h3 => k q C t (h q C t h1 h2 h3) h2 h3
theorem Kept.ext {g : Nat} {a b : World} (h : Ext a b) : Kept g a b := fun q C t h1 _ _ => h1.ext h
/-- What a call on it leaves. -/
def PutIs (w0 w : World) (g : Nat) (l : List Nat) (e : Ending) (w' : World) : Prop := (∃ y, e = .returned y) ∧ OC w0 w' g l ∧ Kept g w w'
theorem ocNum {w0 w : World} {g : Nat} {l : List Nat} (h : OC w0 w g l) (N : Nat) (n : Int) (hl : l.length ≤ 900000) :
  Calls Try.prog 27 #[ptr g, .int .u64 (N : Int), .int .i64 n] w (PutIs w0 w g (l ++ numB N n)) := by
 obtain ⟨h1, h2, v, h3⟩ := h
 refine (outNum_any h3 N n hl h2.size).mono ?_
 rintro e w' ⟨hy, v', h4, hm⟩
 exact ⟨hy, ⟨h1, hm.extO h3 h2 (Nat.le_refl _) h1, v', h4⟩, fun q C t hb ht hq => hm.blk h3 hb ht hq⟩
theorem ocPut {w0 w : World} {g : Nat} {l m : List Nat} {x : Value} (h : OC w0 w g l) (hx : BytesAt w x m) (hl : l.length + m.length ≤ 1000000) :
  Calls Try.prog 29 #[ptr g, x] w (PutIs w0 w g (l ++ m)) := by
 obtain ⟨h1, h2, v, h3⟩ := h
 refine (outPut_any h3 hx hl h2.size).mono ?_
 rintro e w' ⟨hy, v', h4, hm⟩
 exact ⟨hy, ⟨h1, hm.extO h3 h2 (Nat.le_refl _) h1, v', h4⟩, fun q C t hb ht hq => hm.blk h3 hb ht hq⟩
theorem ocPad {w0 w : World} {g : Nat} {l : List Nat} (h : OC w0 w g l) (hl : l.length ≤ 900000) :
  Calls Try.prog 30 #[ptr g] w (PutIs w0 w g (padB l)) := by
 obtain ⟨h1, h2, v, h3⟩ := h
 refine (outPad_any h3 hl h2.size).mono ?_
 rintro e w' ⟨hy, v', h4, hm⟩
 exact ⟨hy, ⟨h1, hm.extO h3 h2 (Nat.le_refl _) h1, v', h4⟩, fun q C t hb ht hq => hm.blk h3 hb ht hq⟩
theorem ocBytes {w0 w : World} {g : Nat} {l : List Nat} (h : OC w0 w g l) (hl : l.length ≤ 1000000) :
  Calls Try.prog 31 #[ptr g] w fun e w' => ∃ a n c, e = .returned (.slice a n c) ∧ n = l.length ∧ OB w' w0.heap.size (.slice a n c) l ∧ Ext w w' := by
 obtain ⟨h1, h2, v, h3⟩ := h
 refine (outBytes_any h3 hl).mono ?_
 rintro e w' ⟨a, n, c, rfl, hn, ho, he⟩
 exact ⟨a, n, c, rfl, hn, ho.base h2.size, he⟩
theorem writeB_one (p : Par) : writeB [p] = parB p := by simp [writeB]
theorem parB_le (p : Par) (h : p.2.length ≤ 4000) : (parB p).length ≤ 4010 := by rw [parB_len]; have := pads_lt p.2.length; omega
set_option maxHeartbeats 4000000 in
theorem putParam_any {w0 w : World} {g : Nat} {l m : List Nat} {a : Option Addr} {n cp : Nat} (h : OC w0 w g l) (K : Int) (hK : 0 ≤ K ∧ K ≤ 65535) (hu : BytesAt w (.slice a n cp) m) (hm : m.length ≤ 4000) (hl : l.length ≤ 100000) :
  Calls Try.prog 63 #[ptr g, .int .i64 K, .slice a n cp] w (PutIs w0 w g (l ++ parB (K, m))) := by
 have HX : Hid (OC w0 w g l ∧ BytesAt w (.slice a n cp) m ∧ l.length ≤ 100000 ∧ (writeB [(K, m)]).length ≤ 700000 ∧ ∀ p ∈ [(K, m)], goodP p = true) :=
  ⟨h, hu, hl, by rw [writeB_one]; have := parB_le (K, m) hm; omega, fun p hp => by simp at hp; subst hp; exact (goodP_iff _).2 ⟨hK.1, hK.2, hm⟩⟩
 clear h hu hl hK hm
 go_enter Try.func63, Try.ntmps63
 go_wp2_with (first
  | (go_at_call 89; refine (write_good (L := [(K, m)]) (ParsAt.one w _ rfl HX.out.2.1) HX.out.2.2.2.1 (by simp) HX.out.2.2.2.2).mono ?_; rintro e w2 ⟨he2, a2, n2, c2, rfl, hn2, ho2⟩; rw [writeB_one] at ho2; clear hn2; have HE2 : Hid (Ext w w2) := (Ext.alloc _ _).trans he2; clear he2)
  | (go_at_call 29; refine (ocPut (HX.out.1.ext HE2.out) ho2.bytes (by have := parB_le (K, m) ((goodP_iff _).1 (HX.out.2.2.2.2 _ (List.mem_singleton.2 rfl))).2.2; have := HX.out.2.2.1; omega)).mono ?_; rintro e w3 ⟨⟨y, rfl⟩, h3, k3⟩))
 go_end0
 exact ⟨⟨_, rfl⟩, h3, (Kept.ext HE2.out).trans k3⟩
theorem numB4 (N : Nat) : numB N 4 = be N 4 := rfl
theorem numB1 (N : Nat) : numB N 1 = be N 1 := rfl
set_option maxHeartbeats 4000000 in
theorem putAddr_any {w0 w : World} {g : Nat} {l : List Nat} (h : OC w0 w g l) (K : Int) (hK : 0 ≤ K ∧ K ≤ 65535) (A : Nat) (hA : A < 2147483648) (hl : l.length ≤ 100000) :
  Calls Try.prog 88 #[ptr g, .int .i64 K, .int .i64 (A : Int)] w (PutIs w0 w g (l ++ parB (K, be A 4))) := by
 have hc : IntKind.u64.wrap (A : Int) = (A : Int) := by rw [IntKind.wrap_u64]; omega
 have HX : Hid (OC w0 w g l ∧ l.length ≤ 100000 ∧ (0 ≤ K ∧ K ≤ 65535)) := ⟨h, hl, hK⟩
 clear h hl hK
 go_enter Try.func88, Try.ntmps88
 go_wp2_with (first
  | (refine wl_alloc rfl rfl zeroO ?_; intro w1 hb1 he1 hx; clear hx; have hV := OC.new hb1 he1; clear hb1; have HE1 : Hid (Ext w w1) := he1; clear he1)
  | (go_at_call 27; refine (ocNum hV A 4 (by simp)).mono ?_; rintro e w2 ⟨⟨y, rfl⟩, hV2, k2⟩; rw [List.nil_append, numB4] at hV2)
  | (go_at_call 31; refine (ocBytes hV2 (by rw [be_len]; omega)).mono ?_; rintro e w3 ⟨a3, n3, c3, rfl, hn3, ho3, he3⟩; clear hn3)
  | (go_at_call 63; refine (putParam_any ((HX.out.1.ext hV2.out).ext he3) K HX.out.2.2 ho3.bytes (by rw [be_len]; omega) HX.out.2.1).mono ?_; rintro e w4 ⟨⟨y4, rfl⟩, h4, k4⟩))
 go_end0
 exact ⟨⟨_, rfl⟩, h4, fun q C t hb ht hq => k4 q C t ((k2 q C t (hb.ext HE1.out) ht (Nat.ne_of_lt hb.lt)).ext he3) ht hq⟩
set_option maxRecDepth 100000
set_option maxHeartbeats 2000000 in
theorem flagsOf_any (c : Ck) (s : Sv) (w : World) : Calls Try.prog 28 #[.agg (PV c s)] w fun e w' => e = .returned (.int .u64 (flagN c.pb c.pe c.pu : Nat)) ∧ Ext w w' := by
 cases h1 : c.pb <;> cases h2 : c.pe <;> cases h3 : c.pu
 all_goals
  go_enter Try.func28, Try.ntmps28
  go_wp2_with (first
   | (refine wl_box (C := PV c s) rfl rfl rfl ?_; intro w1 hb1 he1 hx; clear hx; have c3 := pv3 hb1; have c4 := pv4 hb1; have c5 := pv5 hb1))
  go_ret
  exact ⟨rfl, he1⟩
/-- Parameters of addresses, of ops. -/
def pAddrs (L : List Int) : List Par := L.map fun a => (5, be a.toNat 4)
def pOps (L : List (Int × Int)) : List Par := L.map fun p => (49152 + p.1, be p.2.toNat 4)
def startV (c : Ck) : List Nat := be c.tag 4 ++ (be c.win.toNat 4 ++ (be c.out.toNat 2 ++ (be c.inn.toNat 2 ++ (be c.tsn 4 ++ (parB (32770, c.rand) ++ (writeB (pAddrs c.addrs) ++ if c.kind = 2 then parB (7, c.info) else []))))))
theorem take_snocD {α : Type} (d : α) {L : List α} {k : Nat} (h : k < L.length) : L.take (k + 1) = L.take k ++ [L.getD k d] := by
 rw [List.take_succ_eq_append_getElem h]; simp [List.getD_eq_getElem?_getD, h]
theorem pAddrs_snoc {L : List Int} {k : Nat} (h : k < L.length) : writeB (pAddrs (L.take (k + 1))) = writeB (pAddrs (L.take k)) ++ parB (5, be (L.getD k 0).toNat 4) := by
 rw [take_snocD 0 h]; simp [pAddrs, writeB]
theorem pOps_snoc {L : List (Int × Int)} {k : Nat} (h : k < L.length) : writeB (pOps (L.take (k + 1))) = writeB (pOps (L.take k)) ++ parB (49152 + (L.getD k (0, 0)).1, be (L.getD k (0, 0)).2.toNat 4) := by
 rw [take_snocD (0, 0) h]; simp [pOps, writeB]
theorem pAddrs_len (L : List Int) (k : Nat) : (writeB (pAddrs (L.take k))).length ≤ 8 * k := by
 induction k with
 | zero => simp [pAddrs, writeB]
 | succ k ih =>
  rcases Nat.lt_or_ge k L.length with h | h
  ·
   rw [pAddrs_snoc h, List.length_append, parB_len, be_len]; have : pads 4 = 0 := rfl; simp only [this]; omega
  ·
   rw [List.take_of_length_le (by omega)]; rw [List.take_of_length_le h] at ih; omega
theorem pOps_len (L : List (Int × Int)) (k : Nat) : (writeB (pOps (L.take k))).length ≤ 8 * k := by
 induction k with
 | zero => simp [pOps, writeB]
 | succ k ih =>
  rcases Nat.lt_or_ge k L.length with h | h
  ·
   rw [pOps_snoc h, List.length_append, parB_len, be_len]; have : pads 4 = 0 := rfl; simp only [this]; omega
  ·
   rw [List.take_of_length_le (by omega)]; rw [List.take_of_length_le h] at ih; omega
theorem all_getD {α : Type} {f : α → Bool} {L : List α} (h : L.all f = true) (d : α) {k : Nat} (hk : k < L.length) : f (L.getD k d) = true := List.all_eq_true.1 h _ (getD_mem L d k hk)
theorem adB_nat {a : Int} (h : adB a = true) : ∃ A : Nat, a = (A : Int) ∧ A < 2147483648 := by
 have := (inB_iff _ _ _).1 h
 exact ⟨a.toNat, by omega, by omega⟩
set_option maxHeartbeats 16000000 in
theorem putStart_any {w0 w : World} {g : Nat} {l : List Nat} {c : Ck} {s : Sv} (h : OC w0 w g l) (hc : CkAt w0 s c) (hf : Fit c) (hl : l.length ≤ 1000)
  (hw : 0 ≤ c.win ∧ c.win ≤ 2147483647) (ho : 0 ≤ c.out ∧ c.out ≤ 8) (hi : 0 ≤ c.inn ∧ c.inn ≤ 8) (hr : c.rand.length ≤ 64) (han : c.addrs.length ≤ 4) (had : adsB c.addrs = true) (hin : c.info.length ≤ 300) :
  Calls Try.prog 61 #[ptr g, .agg (CV c s)] w (PutIs w0 w g (l ++ startV c)) := by
 obtain ⟨W, hW⟩ : ∃ W : Nat, c.win = (W : Int) := ⟨c.win.toNat, by omega⟩
 obtain ⟨O, hO⟩ : ∃ W : Nat, c.out = (W : Int) := ⟨c.out.toNat, by omega⟩
 obtain ⟨I, hI⟩ : ∃ W : Nat, c.inn = (W : Int) := ⟨c.inn.toNat, by omega⟩
 have hgq : w.heap.size ≠ g := by obtain ⟨_, _, v, hv⟩ := h; exact (Nat.ne_of_lt hv.blk.lt).symm
 have HX : Hid (CkAt w0 s c ∧ Fit c ∧ l.length ≤ 1000 ∧ w.heap.size ≠ g ∧ c.rand.length ≤ 4000 ∧ c.addrs.length ≤ 4 ∧ adsB c.addrs = true ∧ c.info.length ≤ 300) := ⟨hc, hf, hl, hgq, by omega, han, had, hin⟩
 have HC : Hid (CkAt w0 s c) := hc
 have HV : Hid (startV c = be c.tag 4 ++ (be W 4 ++ (be O 2 ++ (be I 2 ++ (be c.tsn 4 ++ (parB (32770, c.rand) ++ (writeB (pAddrs c.addrs) ++ if c.kind = 2 then parB (7, c.info) else []))))))) := show _ = _ by
  unfold startV; rw [hW, hO, hI]; rfl
 have wW : IntKind.u64.wrap (W : Int) = (W : Int) := by rw [IntKind.wrap_u64]; omega
 have wO : IntKind.u64.wrap (O : Int) = (O : Int) := by rw [IntKind.wrap_u64]; omega
 have wI : IntKind.u64.wrap (I : Int) = (I : Int) := by rw [IntKind.wrap_u64]; omega
 have wT : IntKind.u64.wrap (c.tag : Int) = (c.tag : Int) := by rw [IntKind.wrap_u64]; have := hf.tag; omega
 have wN : IntKind.u64.wrap (c.tsn : Int) = (c.tsn : Int) := by rw [IntKind.wrap_u64]; have := hf.tsn; omega
 have h0 := h
 have hN : Hid (s.aN = c.addrs.length) := (nums_len hc.a).1
 clear h hc hf hl hw ho hi hr han had hin hgq
 go_enter Try.func61, Try.ntmps61
 go_wp2_with (first
  | (have q := st6; clear q; go_at_call 63; refine (putParam_any st6 32770 (by decide) (HC.out.r.ext st6.out) HX.out.2.2.2.2.1 (by have := HX.out.2.2.1; simp only [List.length_append, be_len]; omega)).mono ?_; rintro e w7 ⟨⟨y7, rfl⟩, st7, kk⟩; replace hb := kk _ _ _ hb (by decide) HX.out.2.2.2.1; replace HK : Hid (Kept g w w7) := HK.out.trans kk; clear kk; have c14_7 := cv14 hb)
  | (have q := st5; clear q; go_at_call 27; refine (ocNum st5 c.tsn 4 (by have := HX.out.2.2.1; (try simp only [List.length_append, be_len]); omega)).mono ?_; rintro e w6 ⟨⟨y6, rfl⟩, st6, kk⟩; rw [numB4] at st6; replace hb := kk _ _ _ hb (by decide) HX.out.2.2.2.1; replace HK : Hid (Kept g w w6) := HK.out.trans kk; clear kk; have c13_6 := cv13 hb)
  | (have q := st4; clear q; go_at_call 27; refine (ocNum st4 I 2 (by have := HX.out.2.2.1; (try simp only [List.length_append, be_len]); omega)).mono ?_; rintro e w5 ⟨⟨y5, rfl⟩, st5, kk⟩; rw [numB2] at st5; replace hb := kk _ _ _ hb (by decide) HX.out.2.2.2.1; replace HK : Hid (Kept g w w5) := HK.out.trans kk; clear kk; have c12_5 := cv12 hb)
  | (have q := st3; clear q; go_at_call 27; refine (ocNum st3 O 2 (by have := HX.out.2.2.1; (try simp only [List.length_append, be_len]); omega)).mono ?_; rintro e w4 ⟨⟨y4, rfl⟩, st4, kk⟩; rw [numB2] at st4; replace hb := kk _ _ _ hb (by decide) HX.out.2.2.2.1; replace HK : Hid (Kept g w w4) := HK.out.trans kk; clear kk; have c11_4 := cv11 hb)
  | (have q := st2; clear q; go_at_call 27; refine (ocNum st2 W 4 (by have := HX.out.2.2.1; (try simp only [List.length_append, be_len]); omega)).mono ?_; rintro e w3 ⟨⟨y3, rfl⟩, st3, kk⟩; rw [numB4] at st3; replace hb := kk _ _ _ hb (by decide) HX.out.2.2.2.1; replace HK : Hid (Kept g w w3) := HK.out.trans kk; clear kk; have c10_3 := cv10 hb)
  | (have q := st1; clear q; go_at_call 27; refine (ocNum st1 c.tag 4 (by have := HX.out.2.2.1; (try simp only [List.length_append, be_len]); omega)).mono ?_; rintro e w2 ⟨⟨y2, rfl⟩, st2, kk⟩; rw [numB4] at st2; replace hb := kk _ _ _ hb (by decide) HX.out.2.2.2.1; replace HK : Hid (Kept g w w2) := HK.out.trans kk; clear kk; have c9_2 := cv9 hb)
  | (refine wl_box (C := CV c s) rfl rfl rfl ?_; intro w1 hb he1 hx; clear hx; have st1 := h0.ext he1; have HK : Hid (Kept g w w1) := Kept.ext he1; clear he1; have c8_1 := cv8 hb))
 rw [show (((((l ++ be c.tag 4) ++ be W 4) ++ be O 2) ++ be I 2) ++ be c.tsn 4) ++ parB (32770, c.rand) = l ++ (be c.tag 4 ++ (be W 4 ++ (be O 2 ++ (be I 2 ++ (be c.tsn 4 ++ parB (32770, c.rand)))))) by simp only [List.append_assoc]] at st7
 obtain ⟨L7, hL7⟩ : ∃ L, L = l ++ (be c.tag 4 ++ (be W 4 ++ (be O 2 ++ (be I 2 ++ (be c.tsn 4 ++ parB (32770, c.rand)))))) := ⟨_, rfl⟩
 rw [← hL7] at st7
 have HL7 : Hid (l ++ startV c = L7 ++ (writeB (pAddrs c.addrs) ++ if c.kind = 2 then parB (7, c.info) else []) ∧ L7.length ≤ 6000) := ⟨by rw [HV.out, hL7]; simp only [List.append_assoc], by
  rw [hL7]
  have h1 := parB_le (32770, c.rand) HX.out.2.2.2.2.1
  have h2 := HX.out.2.2.1
  simp only [List.length_append, be_len]; omega⟩
 clear hL7 st1 st2 st3 st4 st5 st6 c8_1 c9_2 c10_3 c11_4 c12_5 c13_6 c14_7 wW wO wI wT wN hW hO hI HV
 have HS : Hid (OC w0 w7 g L7 ∧ Blk w7 w.heap.size (CV c s) 38 ∧ Kept g w w7) := ⟨st7, hb, HK.out⟩
 clear st7 hb HK
 obtain ⟨aA, haA⟩ : ∃ x, x = s.aA := ⟨_, rfl⟩
 obtain ⟨n, hn⟩ : ∃ n, n = c.addrs.length := ⟨_, rfl⟩
 rw [hN.out, ← hn, ← haA]
 have HAt : Hid (NumsAt .i64 w0 (.slice aA n s.aC) c.addrs) := show NumsAt .i64 w0 _ _ by rw [haA, hn, ← hN.out]; exact HC.out.a
 clear haA
 have hn4 : n ≤ 4 := by rw [hn]; exact HX.out.2.2.2.2.2.1
 have HN : Hid (n = c.addrs.length) := hn
 clear hn
 go_loopg [38] n (fun gm t wr => ∃ k : Nat, k ≤ n ∧ gm = n - k ∧ t = .int .i64 (k : Int) ∧ Hid (OC w0 wr g (L7 ++ writeB (pAddrs (c.addrs.take k))) ∧ Blk wr w.heap.size (CV c s) 38 ∧ Kept g w wr))
 case atStart => exact ⟨0, Nat.zero_le _, rfl, rfl, by rw [show L7 ++ writeB (pAddrs (c.addrs.take 0)) = L7 by simp [pAddrs, writeB]]; exact HS.out.1, HS.out.2.1, HS.out.2.2⟩
 case round =>
  obtain ⟨k, hk, rfl, rfl, HR⟩ := hrel
  by_cases hlt : k < n
  ·
   have hd : decide ((k : Int) < (n : Int)) = true := decide_eq_true (by omega)
   have hkL : k < c.addrs.length := by rw [← HN.out]; exact hlt
   have hkn : (k : Int) < (n : Int) := by omega
   obtain ⟨b, off, rfl, hc0⟩ := HAt.out.cellAt k hkL
   obtain ⟨A, hA, hA2⟩ := adB_nat (all_getD HX.out.2.2.2.2.2.2.1 0 hkL)
   replace hc0 := HR.out.1.out.cell hc0
   rw [hA] at hc0
   have HA : Hid (writeB (pAddrs (c.addrs.take (k + 1))) = writeB (pAddrs (c.addrs.take k)) ++ parB (5, be A 4)) := show _ = _ by rw [pAddrs_snoc hkL, hA]; rfl
   clear hA hkL
   go_wp2_with (first
    | (go_at_call 88; refine (putAddr_any HR.out.1 5 (by decide) A hA2 (by have h1 := pAddrs_len c.addrs k; have h2 := HL7.out.2; rw [List.length_append]; omega)).mono ?_; rintro e w8 ⟨⟨y8, rfl⟩, st8, k8⟩))
   go_roundg (n - (k + 1))
   case measure => omega
   case rel => exact ⟨k + 1, by omega, rfl, by simp, by rw [HA.out, ← List.append_assoc]; exact st8, k8 _ _ _ HR.out.2.1 (by decide) HX.out.2.2.2.1, HR.out.2.2.trans k8⟩
  ·
   have hd : decide ((k : Int) < (n : Int)) = false := decide_eq_false (by omega)
   have c0 := cv0 HR.out.2.1
   have c15 := cv15 HR.out.2.1
   have HE : Hid (OC w0 wr g (L7 ++ writeB (pAddrs c.addrs)) ∧ (L7 ++ writeB (pAddrs c.addrs)).length ≤ 7000) := by
    have h1 := HR.out.1
    rw [List.take_of_length_le (by rw [← HN.out]; omega)] at h1
    refine ⟨h1, ?_⟩
    have h2 := pAddrs_len c.addrs n
    rw [List.take_of_length_le (by rw [← HN.out]; exact Nat.le_refl _)] at h2
    have h3 := HL7.out.2
    rw [List.length_append]; omega
   by_cases hk2 : c.kind = 2
   ·
    go_wp2_with (first
     | (go_at_call 63; refine (putParam_any HE.out.1 7 (by decide) (HC.out.i.ext HE.out.1.out) (by have := HX.out.2.2.2.2.2.2.2; omega) (by have := HE.out.2; omega)).mono ?_; rintro e w9 ⟨⟨y9, rfl⟩, st9, k9⟩))
    go_end0
    exact ⟨⟨_, rfl⟩, by rw [HL7.out.1, if_pos hk2, ← List.append_assoc]; exact st9, HR.out.2.2.trans k9⟩
   ·
    have hk2' : (c.kind == 2) = false := beq_false_of_ne hk2
    go_wp2
    go_end0
    exact ⟨⟨_, rfl⟩, by rw [HL7.out.1, if_neg hk2, List.append_nil]; exact HE.out.1, HR.out.2.2⟩
set_option maxRecDepth 100000
theorem zeroOp : (Try.prog.info? 69).bind (·.zero) = some (.agg #[.int .i64 0, .int .i64 0]) := by kernel_rfl
theorem OC.lt {w0 w : World} {g : Nat} {l : List Nat} (h : OC w0 w g l) : g < w.heap.size := by obtain ⟨_, _, v, hv⟩ := h; exact hv.blk.lt
theorem OC.but {w0 w w' : World} {g q : Nat} {l : List Nat} (h : OC w0 w g l) (hq : w0.heap.size ≤ q) (hg : q ≠ g) {t : Nat} {C : Array Value} (hb : Blk w q C t) (ht : t ≠ 5) (hk : KeepBut (· = q) w w') : OC w0 w' g l := by
 obtain ⟨h1, h2, v, h3⟩ := h
 exact ⟨h1, h2.of_but hk (fun k e => by subst e; exact hq), v, h3.but hk (fun e => hg e.symm) (fun k e e2 => h3.own.ne hb ht k e e2)⟩
theorem Kept.new {g : Nat} {w w1 w2 : World} (h : Ext w w1) (hk : KeepBut (· = w.heap.size) w1 w2) : Kept g w w2 := fun q C t hb ht hq => (hb.ext h).but hk (Nat.ne_of_lt hb.lt)
def opsV (c : Ck) : List Nat := be c.serial 4 ++ writeB (pOps c.ops)
theorem opB_at {p : Int × Int} (h : opB p = true) : (1 ≤ p.1 ∧ p.1 ≤ 4) ∧ ∃ A : Nat, p.2 = (A : Int) ∧ A < 2147483648 := by
 unfold opB at h
 rw [Bool.and_eq_true] at h
 refine ⟨?_, adB_nat h.2⟩
 have := h.1
 simp [opK] at this
 omega
set_option maxHeartbeats 16000000 in
theorem putOps_any {w0 w : World} {g : Nat} {l : List Nat} {c : Ck} {s : Sv} (h : OC w0 w g l) (hc : CkAt w0 s c) (hf : Fit c) (hl : l.length ≤ 1000) (hon : c.ops.length ≤ 9) (hop : opsB c.ops = true) :
  Calls Try.prog 64 #[ptr g, .agg (CV c s)] w (PutIs w0 w g (l ++ opsV c)) := by
 have hgq : w.heap.size ≠ g := (Nat.ne_of_lt h.lt).symm
 have HX : Hid (CkAt w0 s c ∧ Fit c ∧ l.length ≤ 1000 ∧ w.heap.size ≠ g ∧ c.ops.length ≤ 9 ∧ opsB c.ops = true) := ⟨hc, hf, hl, hgq, hon, hop⟩
 have wN : IntKind.u64.wrap (c.serial : Int) = (c.serial : Int) := by rw [IntKind.wrap_u64]; have := hf.serial; omega
 have h0 := h
 have hN : Hid (s.oN = c.ops.length) := hc.o.len.1
 have HC : Hid (CkAt w0 s c) := hc
 clear h hc hf hl hgq hon hop
 go_enter Try.func64, Try.ntmps64
 go_wp2_with (first
  | (have q := st1; clear q; go_at_call 27; refine (ocNum st1 c.serial 4 (by have := HX.out.2.2.1; (try simp only [List.length_append, be_len]); omega)).mono ?_; rintro e w2 ⟨⟨y2, rfl⟩, st2, kk⟩; rw [numB4] at st2; replace hb := kk _ _ _ hb (by decide) HX.out.2.2.2.1; replace HK : Hid (Kept g w w2) := HK.out.trans kk; clear kk; have c20_2 := cv20 hb)
  | (refine wl_box (C := CV c s) rfl rfl rfl ?_; intro w1 hb he1 hx; clear hx; have st1 := h0.ext he1; have HK : Hid (Kept g w w1) := Kept.ext he1; clear he1; have c19_1 := cv19 hb))
 obtain ⟨L7, hL7⟩ : ∃ L, L = l ++ be c.serial 4 := ⟨_, rfl⟩
 rw [← hL7] at st2
 have HL7 : Hid (l ++ opsV c = L7 ++ writeB (pOps c.ops) ∧ L7.length ≤ 6000) := ⟨by rw [hL7]; unfold opsV; rw [List.append_assoc], by
  rw [hL7]
  have h2 := HX.out.2.2.1
  simp only [List.length_append, be_len]; omega⟩
 clear hL7 st1 c19_1 c20_2 wN
 have HS : Hid (OC w0 w2 g L7 ∧ Kept g w w2) := ⟨st2, HK.out⟩
 clear st2 hb HK
 obtain ⟨aA, haA⟩ : ∃ x, x = s.oA := ⟨_, rfl⟩
 obtain ⟨n, hn⟩ : ∃ n, n = c.ops.length := ⟨_, rfl⟩
 rw [hN.out, ← hn, ← haA]
 have HAt : Hid (PairsAt w0 (.slice aA n s.oC) c.ops) := show PairsAt w0 _ _ by rw [haA, hn, ← hN.out]; exact HC.out.o
 clear haA
 have hn9 : n ≤ 9 := by rw [hn]; exact HX.out.2.2.2.2.1
 have HN : Hid (n = c.ops.length) := hn
 clear hn
 go_loopg [14] n (fun gm t wr => ∃ k : Nat, k ≤ n ∧ gm = n - k ∧ t = .int .i64 (k : Int) ∧ Hid (OC w0 wr g (L7 ++ writeB (pOps (c.ops.take k))) ∧ Kept g w wr))
 case atStart => exact ⟨0, Nat.zero_le _, rfl, rfl, by rw [show L7 ++ writeB (pOps (c.ops.take 0)) = L7 by simp [pOps, writeB]]; exact HS.out.1, HS.out.2⟩
 case round =>
  obtain ⟨k, hk, rfl, rfl, HR⟩ := hrel
  by_cases hlt : k < n
  ·
   have hd : decide ((k : Int) < (n : Int)) = true := decide_eq_true (by omega)
   have hkL : k < c.ops.length := by rw [← HN.out]; exact hlt
   have hkn : (k : Int) < (n : Int) := by omega
   obtain ⟨b, off, rfl, hc0, hc1⟩ := HAt.out.cellAt k hkL
   obtain ⟨hK, A, hA, hA2⟩ := opB_at (all_getD HX.out.2.2.2.2.2 (0, 0) hkL)
   replace hc0 := HR.out.1.out.cell hc0
   replace hc1 := HR.out.1.out.cell hc1
   obtain ⟨K, hKe⟩ : ∃ K, K = (c.ops.getD k (0, 0)).1 := ⟨_, rfl⟩
   rw [hA] at hc1
   have HA : Hid (writeB (pOps (c.ops.take (k + 1))) = writeB (pOps (c.ops.take k)) ++ parB (49152 + K, be A 4)) := show _ = _ by rw [pOps_snoc hkL, hA, hKe]; rfl
   rw [← hKe] at hc0 hK
   obtain ⟨hK1, hK2⟩ := hK
   clear hA hkL hKe
   go_wp2_with (first
    | (refine wl_loadP rfl rowOp rfl rfl hc0 hc1 ?_)
    | (refine wl_alloc rfl rfl zeroOp ?_; intro w3 hb3 he3 hx; clear hx)
    | (refine wl_store (D := #[.int .i64 K, .int .i64 (A : Int)]) rfl rowOp rfl rfl rfl hb3 rfl rfl (one_pair _ _) ?_; intro w4 hb4 hk4 hx; clear hx; have d0 := hb4.cell 0; have d1 := hb4.cell 1; have st4 := (HR.out.1.ext he3).but (Nat.le_trans HR.out.1.out.size (Nat.le_refl _)) (Nat.ne_of_lt HR.out.1.lt).symm hb3 (by decide) hk4; have HK4 : Hid (Kept g wr w4) := Kept.new he3 hk4)
    | (go_at_call 88; refine (putAddr_any st4 (49152 + K) (by omega) A hA2 (by have h1 := pOps_len c.ops k; have h2 := HL7.out.2; rw [List.length_append]; omega)).mono ?_; rintro e w8 ⟨⟨y8, rfl⟩, st8, k8⟩))
   go_roundg (n - (k + 1))
   case measure => omega
   case rel => exact ⟨k + 1, by omega, rfl, by simp, by rw [HA.out, ← List.append_assoc]; exact st8, HR.out.2.trans (HK4.out.trans k8)⟩
  ·
   have hd : decide ((k : Int) < (n : Int)) = false := decide_eq_false (by omega)
   have HE : Hid (OC w0 wr g (L7 ++ writeB (pOps c.ops))) := by
    have h1 := HR.out.1
    rw [List.take_of_length_le (by rw [← HN.out]; omega)] at h1
    exact h1
   go_wp2
   go_end0
   exact ⟨⟨_, rfl⟩, by rw [HL7.out.1]; exact HE.out, HR.out.2⟩
/-- The bytes of gaps, of Dups. -/
def gapV (L : List (Int × Int)) : List Nat := L.flatMap fun p => be p.1.toNat 2 ++ be p.2.toNat 2
def dupV (L : List Nat) : List Nat := L.flatMap fun d => be d 4
def sackV (c : Ck) : List Nat := be c.tsn 4 ++ (be c.win.toNat 4 ++ (be c.gaps.length 2 ++ (be c.dups.length 2 ++ (gapV c.gaps ++ dupV c.dups))))
theorem gapV_snoc {L : List (Int × Int)} {k : Nat} (h : k < L.length) : gapV (L.take (k + 1)) = gapV (L.take k) ++ (be (L.getD k (0, 0)).1.toNat 2 ++ be (L.getD k (0, 0)).2.toNat 2) := by
 rw [take_snocD (0, 0) h]; simp [gapV]
theorem dupV_snoc {L : List Nat} {k : Nat} (h : k < L.length) : dupV (L.take (k + 1)) = dupV (L.take k) ++ be (L.getD k 0) 4 := by
 rw [take_snocD 0 h]; simp [dupV]
theorem gapV_len : ∀ (L : List (Int × Int)), (gapV L).length = 4 * L.length
 | [] => rfl
 | p :: L => by
  have := gapV_len L
  unfold gapV at *
  rw [List.flatMap_cons, List.length_append, List.length_append, be_len, be_len, this, List.length_cons]; omega
theorem dupV_len : ∀ (L : List Nat), (dupV L).length = 4 * L.length
 | [] => rfl
 | p :: L => by
  have := dupV_len L
  unfold dupV at *
  rw [List.flatMap_cons, List.length_append, be_len, this, List.length_cons]; omega
theorem gapsB_at : ∀ (L : List (Int × Int)) (a : Int), -1 ≤ a → gapsB a L = true → ∀ k, k < L.length → 1 ≤ (L.getD k (0, 0)).1 ∧ (L.getD k (0, 0)).1 ≤ (L.getD k (0, 0)).2 ∧ (L.getD k (0, 0)).2 ≤ 65535
 | [], _, _, _, k, hk => by simp at hk
 | p :: L, a, ha, h, k, hk => by
  rw [gapsB_cons, Bool.and_eq_true] at h
  have h1 : a + 2 ≤ p.1 ∧ p.1 ≤ p.2 ∧ p.2 ≤ 65535 := by
   have := h.1
   simp at this
   omega
  cases k with
  | zero => simpa using ⟨by omega, h1.2.1, h1.2.2⟩
  | succ k =>
   have := gapsB_at L p.2 (by omega) h.2 k (by simpa using hk)
   simpa using this
set_option maxHeartbeats 16000000 in
theorem putSack_any {w0 w : World} {g : Nat} {l : List Nat} {c : Ck} {s : Sv} (h : OC w0 w g l) (hc : CkAt w0 s c) (hf : Fit c) (hl : l.length ≤ 1000) (hw : 0 ≤ c.win ∧ c.win ≤ 2147483647) (hgn : c.gaps.length ≤ 16) (hgp : gapsB (-1) c.gaps = true) (hdn : c.dups.length ≤ 16) :
  Calls Try.prog 62 #[ptr g, .agg (CV c s)] w (PutIs w0 w g (l ++ sackV c)) := by
 obtain ⟨W, hW⟩ : ∃ W : Nat, c.win = (W : Int) := ⟨c.win.toNat, by omega⟩
 have hgq : w.heap.size ≠ g := (Nat.ne_of_lt h.lt).symm
 have HX : Hid (CkAt w0 s c ∧ Fit c ∧ l.length ≤ 1000 ∧ w.heap.size ≠ g ∧ c.gaps.length ≤ 16 ∧ gapsB (-1) c.gaps = true ∧ c.dups.length ≤ 16) := ⟨hc, hf, hl, hgq, hgn, hgp, hdn⟩
 have wW : IntKind.u64.wrap (W : Int) = (W : Int) := by rw [IntKind.wrap_u64]; omega
 have wN : IntKind.u64.wrap (c.tsn : Int) = (c.tsn : Int) := by rw [IntKind.wrap_u64]; have := hf.tsn; omega
 have hgN : s.gN = c.gaps.length := hc.g.len.1
 have hdN : s.dN = c.dups.length := by have := (nums_len hc.d).1; rwa [ci_len] at this
 have wG : IntKind.u64.wrap (c.gaps.length : Int) = (c.gaps.length : Int) := by rw [IntKind.wrap_u64]; omega
 have wD : IntKind.u64.wrap (c.dups.length : Int) = (c.dups.length : Int) := by rw [IntKind.wrap_u64]; omega
 have HV : Hid (l ++ sackV c = ((((l ++ be c.tsn 4) ++ be W 4) ++ be c.gaps.length 2) ++ be c.dups.length 2) ++ (gapV c.gaps ++ dupV c.dups)) := show _ = _ by
  unfold sackV; rw [hW]; simp only [List.append_assoc]; rfl
 have HGN : Hid (s.gN = c.gaps.length ∧ s.dN = c.dups.length) := ⟨hgN, hdN⟩
 have h0 := h
 have HC : Hid (CkAt w0 s c) := hc
 obtain ⟨N, hNg⟩ : ∃ n, n = c.gaps.length := ⟨_, rfl⟩
 obtain ⟨M, hMd⟩ : ∃ n, n = c.dups.length := ⟨_, rfl⟩
 have hN16 : N ≤ 16 := by omega
 have hM16 : M ≤ 16 := by omega
 rw [← hNg] at wG hgN HV
 rw [← hMd] at wD hdN HV
 have HN : Hid (N = c.gaps.length ∧ M = c.dups.length) := ⟨hNg, hMd⟩
 clear h hc hf hl hgq hw hgn hgp hdn hNg hMd
 go_enter Try.func62, Try.ntmps62
 go_wp2_with (first
  | (have q := st4; clear q; go_at_call 27; refine (ocNum st4 M 2 (by have := HX.out.2.2.1; (try simp only [List.length_append, be_len]); omega)).mono ?_; rintro e w5 ⟨⟨y5, rfl⟩, st5, kk⟩; rw [numB2] at st5; replace hb := kk _ _ _ hb (by decide) HX.out.2.2.2.1; replace HK : Hid (Kept g w w5) := HK.out.trans kk; clear kk; have c16_5 := cv16 hb)
  | (have q := st3; clear q; go_at_call 27; refine (ocNum st3 N 2 (by have := HX.out.2.2.1; (try simp only [List.length_append, be_len]); omega)).mono ?_; rintro e w4 ⟨⟨y4, rfl⟩, st4, kk⟩; rw [numB2] at st4; replace hb := kk _ _ _ hb (by decide) HX.out.2.2.2.1; replace HK : Hid (Kept g w w4) := HK.out.trans kk; clear kk; have c17_4 := cv17 hb)
  | (have q := st2; clear q; go_at_call 27; refine (ocNum st2 W 4 (by have := HX.out.2.2.1; (try simp only [List.length_append, be_len]); omega)).mono ?_; rintro e w3 ⟨⟨y3, rfl⟩, st3, kk⟩; rw [numB4] at st3; replace hb := kk _ _ _ hb (by decide) HX.out.2.2.2.1; replace HK : Hid (Kept g w w3) := HK.out.trans kk; clear kk; have c16_3 := cv16 hb)
  | (have q := st1; clear q; go_at_call 27; refine (ocNum st1 c.tsn 4 (by have := HX.out.2.2.1; (try simp only [List.length_append, be_len]); omega)).mono ?_; rintro e w2 ⟨⟨y2, rfl⟩, st2, kk⟩; rw [numB4] at st2; replace hb := kk _ _ _ hb (by decide) HX.out.2.2.2.1; replace HK : Hid (Kept g w w2) := HK.out.trans kk; clear kk; have c9_2 := cv9 hb)
  | (refine wl_box (C := CV c s) rfl rfl rfl ?_; intro w1 hb he1 hx; clear hx; have st1 := h0.ext he1; have HK : Hid (Kept g w w1) := Kept.ext he1; clear he1; have c12_1 := cv12 hb))
 obtain ⟨L7, hL7⟩ : ∃ L, L = (((l ++ be c.tsn 4) ++ be W 4) ++ be N 2) ++ be M 2 := ⟨_, rfl⟩
 rw [← hL7] at st5
 have HL7 : Hid (l ++ sackV c = L7 ++ (gapV c.gaps ++ dupV c.dups) ∧ L7.length ≤ 6000) := ⟨by rw [hL7]; exact HV.out, by
  rw [hL7]
  have h2 := HX.out.2.2.1
  simp only [List.length_append, be_len]; omega⟩
 clear hL7 st1 st2 st3 st4 c12_1 c9_2 c16_3 c17_4 c16_5 wN wW wG wD HV hW
 have HS : Hid (OC w0 w5 g L7 ∧ Blk w5 w.heap.size (CV c s) 38 ∧ Kept g w w5) := ⟨st5, hb, HK.out⟩
 clear st5 hb HK
 obtain ⟨aA, haA⟩ : ∃ x, x = s.gA := ⟨_, rfl⟩
 rw [← haA]
 have HAt : Hid (PairsAt w0 (.slice aA N s.gC) c.gaps) := show PairsAt w0 _ _ by rw [haA, HN.out.1, ← HGN.out.1]; exact HC.out.g
 clear haA hgN
 go_loopg [33] N (fun gm t wr => ∃ k : Nat, k ≤ N ∧ gm = N - k ∧ t = .int .i64 (k : Int) ∧ Hid (OC w0 wr g (L7 ++ gapV (c.gaps.take k)) ∧ Blk wr w.heap.size (CV c s) 38 ∧ Kept g w wr))
 case atStart => exact ⟨0, Nat.zero_le _, rfl, rfl, by rw [show L7 ++ gapV (c.gaps.take 0) = L7 by simp [gapV]]; exact HS.out.1, HS.out.2⟩
 case round =>
  obtain ⟨k, hk, rfl, rfl, HR⟩ := hrel
  by_cases hlt : k < N
  ·
   have hd : decide ((k : Int) < (N : Int)) = true := decide_eq_true (by omega)
   have hkL : k < c.gaps.length := by rw [← HN.out.1]; exact hlt
   have hkn : (k : Int) < (N : Int) := by omega
   obtain ⟨b, off, rfl, hc0, hc1⟩ := HAt.out.cellAt k hkL
   obtain ⟨hg1, hg2, hg3⟩ := gapsB_at c.gaps (-1) (by omega) HX.out.2.2.2.2.2.1 k hkL
   replace hc0 := HR.out.1.out.cell hc0
   replace hc1 := HR.out.1.out.cell hc1
   obtain ⟨A, hA⟩ : ∃ A : Nat, (c.gaps.getD k (0, 0)).1 = (A : Int) := ⟨_, (Int.toNat_of_nonneg (by omega)).symm⟩
   obtain ⟨B, hB⟩ : ∃ A : Nat, (c.gaps.getD k (0, 0)).2 = (A : Int) := ⟨_, (Int.toNat_of_nonneg (by omega)).symm⟩
   rw [hA] at hc0 hg1 hg2
   rw [hB] at hc1 hg2 hg3
   have HA : Hid (gapV (c.gaps.take (k + 1)) = gapV (c.gaps.take k) ++ (be A 2 ++ be B 2)) := show _ = _ by rw [gapV_snoc hkL, hA, hB]; rfl
   have HLK : Hid ((L7 ++ gapV (c.gaps.take k)).length ≤ 7000) := by
    have h1 := gapV_len (c.gaps.take k)
    have h2 := HL7.out.2
    have h3 := HX.out.2.2.2.2.1
    rw [List.length_take] at h1
    show _ ≤ _
    rw [List.length_append, h1]; omega
   have wA : IntKind.u64.wrap (A : Int) = (A : Int) := by rw [IntKind.wrap_u64]; omega
   have wB : IntKind.u64.wrap (B : Int) = (B : Int) := by rw [IntKind.wrap_u64]; omega
   clear hA hB hkL hg1 hg2 hg3
   go_wp2_with (first
    | (refine wl_loadP rfl rowGp rfl rfl hc0 hc1 ?_)
    | (refine wl_alloc rfl rfl zeroGp ?_; intro w6 hb6 he6 hx; clear hx)
    | (refine wl_store (D := #[.int .i64 (A : Int), .int .i64 (B : Int)]) rfl rowGp rfl rfl rfl hb6 rfl rfl (one_pair _ _) ?_; intro w7 hb7 hk7 hx; clear hx; have d0 := hb7.cell 0; have st7 := (HR.out.1.ext he6).but (Nat.le_trans HR.out.1.out.size (Nat.le_refl _)) (Nat.ne_of_lt HR.out.1.lt).symm hb6 (by decide) hk7; have HK7 : Hid (Kept g wr w7 ∧ wr.heap.size ≠ g) := ⟨Kept.new he6 hk7, (Nat.ne_of_lt HR.out.1.lt).symm⟩)
    | (have q := st8; clear q; go_at_call 27; refine (ocNum st8 B 2 (by have := HLK.out; simp only [List.length_append, be_len] at *; omega)).mono ?_; rintro e w9 ⟨⟨y9, rfl⟩, st9, k9⟩; rw [numB2] at st9)
    | (have q := st7; clear q; go_at_call 27; refine (ocNum st7 A 2 (by have := HLK.out; omega)).mono ?_; rintro e w8 ⟨⟨y8, rfl⟩, st8, k8⟩; rw [numB2] at st8; have d1 := (k8 _ _ _ hb7 (by decide) HK7.out.2).cell 1))
   go_roundg (N - (k + 1))
   case measure => omega
   case rel =>
    have kk := HK7.out.1.trans (k8.trans k9)
    exact ⟨k + 1, by omega, rfl, by simp, by rw [HA.out, ← List.append_assoc, ← List.append_assoc]; exact st9, kk _ _ _ HR.out.2.1 (by decide) HX.out.2.2.2.1, HR.out.2.2.trans kk⟩
  ·
   have hd : decide ((k : Int) < (N : Int)) = false := decide_eq_false (by omega)
   obtain ⟨L8, hL8⟩ : ∃ L, L = L7 ++ gapV c.gaps := ⟨_, rfl⟩
   have HL8 : Hid (l ++ sackV c = L8 ++ dupV c.dups ∧ L8.length ≤ 6500) := ⟨by rw [hL8, HL7.out.1, List.append_assoc], by
    have h1 := gapV_len c.gaps
    have h2 := HL7.out.2
    have h3 := HX.out.2.2.2.2.1
    rw [hL8, List.length_append, h1]; omega⟩
   have HE : Hid (OC w0 wr g L8 ∧ Blk wr w.heap.size (CV c s) 38 ∧ Kept g w wr) := by
    have h1 := HR.out.1
    rw [List.take_of_length_le (by rw [← HN.out.1]; omega), ← hL8] at h1
    exact ⟨h1, HR.out.2⟩
   clear hL8
   have c17 := cv17 HE.out.2.1
   go_wp2_with fail
   obtain ⟨bA, hbA⟩ : ∃ x, x = s.dA := ⟨_, rfl⟩
   rw [← hbA]
   have HBt : Hid (NumsAt .u32 w0 (.slice bA M s.dC) (ci c.dups)) := show NumsAt .u32 w0 _ _ by rw [hbA, HN.out.2, ← HGN.out.2]; exact HC.out.d
   clear hbA hdN c17
   go_loopg [51] M (fun gm t wi => ∃ k : Nat, k ≤ M ∧ gm = M - k ∧ t = .int .i64 (k : Int) ∧ Hid (OC w0 wi g (L8 ++ dupV (c.dups.take k)) ∧ Kept g w wi))
   case atStart => exact ⟨0, Nat.zero_le _, rfl, rfl, by rw [show L8 ++ dupV (c.dups.take 0) = L8 by simp [dupV]]; exact HE.out.1, HE.out.2.2⟩
   case round =>
    obtain ⟨j, hj, rfl, rfl, HQ⟩ := hrel
    by_cases hlt2 : j < M
    ·
     have hd2 : decide ((j : Int) < (M : Int)) = true := decide_eq_true (by omega)
     have hjL : j < c.dups.length := by rw [← HN.out.2]; exact hlt2
     have hjn : (j : Int) < (M : Int) := by omega
     obtain ⟨b, off, rfl, hc0⟩ := HBt.out.cellAt j (by rw [ci_len]; exact hjL)
     rw [ci_get] at hc0
     replace hc0 := HQ.out.1.out.cell hc0
     have hA3 : c.dups.getD j 0 < 4294967296 := HX.out.2.1.dups _ (getD_mem _ _ _ hjL)
     obtain ⟨A, hA⟩ : ∃ A : Nat, A = c.dups.getD j 0 := ⟨_, rfl⟩
     rw [← hA] at hc0 hA3
     have HA : Hid (dupV (c.dups.take (j + 1)) = dupV (c.dups.take j) ++ be A 4) := show _ = _ by rw [dupV_snoc hjL, hA]
     have HLK : Hid ((L8 ++ dupV (c.dups.take j)).length ≤ 7000) := by
      have h1 := dupV_len (c.dups.take j)
      have h2 := HL8.out.2
      have h3 := HX.out.2.2.2.2.2.2
      rw [List.length_take] at h1
      show _ ≤ _
      rw [List.length_append, h1]; omega
     have wA : IntKind.u64.wrap (A : Int) = (A : Int) := by rw [IntKind.wrap_u64]; omega
     clear hA hjL hA3
     go_wp2_with (first
      | (go_at_call 27; refine (ocNum HQ.out.1 A 4 (by have := HLK.out; omega)).mono ?_; rintro e w8 ⟨⟨y8, rfl⟩, st8, k8⟩; rw [numB4] at st8))
     go_roundg (M - (j + 1))
     case measure => omega
     case rel => exact ⟨j + 1, by omega, rfl, by simp, by rw [HA.out, ← List.append_assoc]; exact st8, HQ.out.2.trans k8⟩
    ·
     have hd2 : decide ((j : Int) < (M : Int)) = false := decide_eq_false (by omega)
     have HF : Hid (OC w0 wr g (L8 ++ dupV c.dups)) := by
      have h1 := HQ.out.1
      rw [List.take_of_length_le (by rw [← HN.out.2]; omega)] at h1
      exact h1
     go_wp2
     go_end0
     exact ⟨⟨_, rfl⟩, by rw [HL8.out.1]; exact HF.out, HQ.out.2⟩
set_option maxRecDepth 100000
theorem ci_inj {l m : List Nat} (h : ci l = ci m) : l = m := by
 unfold ci at h
 exact (List.map_inj_right (f := fun x : Nat => (x : Int)) (fun a b hab => Int.ofNat.inj hab)).1 h
theorem sameB_eq {c d : Ck} (h : sameB c d = true) : c = d := by
 cases c
 cases d
 simp only [sameB, samePB, Bool.and_eq_true, beq_iff_eq, decide_eq_true_eq] at h
 obtain ⟨⟨⟨⟨⟨⟨⟨⟨⟨⟨⟨⟨⟨⟨⟨h1, ⟨⟨⟨⟨⟨p1, p2⟩, p3⟩, p4⟩, p5⟩, p6⟩, p7⟩, h3⟩, h4⟩, h5⟩, h6⟩, h7⟩, h8⟩, h9⟩, h10⟩, h11⟩, h12⟩, h13⟩, h14⟩, h15⟩, h16⟩ := h
 have e12 := ci_inj h12
 have q1 := Int.ofNat.inj p1
 have q2 := Int.ofNat.inj p2
 have q3 := Int.ofNat.inj p3
 have q4 := Int.ofNat.inj h3
 have q5 := Int.ofNat.inj h7
 have q6 := Int.ofNat.inj h14
 simp_all
theorem sameB_refl (c : Ck) : sameB c c = true := by simp [sameB, samePB]
theorem sameB_iff (c d : Ck) : sameB c d = true ↔ c = d := ⟨sameB_eq, fun h => by subst h; exact sameB_refl c⟩
/-- What a good chunk is. -/
structure GoodC (c : Ck) : Prop where
 kn : knB c.kind = true
 fits : fitsB c = true
 use : c = usedC c
theorem goodB_iff (c : Ck) : goodB c = true ↔ GoodC c := by
 unfold goodB
 rw [Bool.and_eq_true, Bool.and_eq_true, sameB_iff]
 exact ⟨fun h => ⟨h.1.1, h.1.2, h.2⟩, fun h => ⟨⟨h.kn, h.fits⟩, h.use⟩⟩
theorem knB_cases {k : Int} (h : knB k = true) : k = 0 ∨ k = 1 ∨ k = 2 ∨ k = 3 ∨ k = 4 ∨ k = 5 ∨ k = 6 ∨ k = 7 ∨ k = 8 ∨ k = 9 ∨ k = 10 ∨ k = 11 ∨ k = 14 ∨ k = 15 ∨ k = 128 ∨ k = 193 := by
 simpa [knB, kinds] using h
/-- The value of a chunk. -/
def valB (c : Ck) : List Nat :=
 if c.kind = 0 then ((be c.ptsn 4 ++ be c.pstr 2) ++ be c.pseq 2) ++ c.text
 else if c.kind = 1 ∨ c.kind = 2 then startV c
 else if c.kind = 3 then sackV c
 else if c.kind = 4 ∨ c.kind = 5 then parB (1, c.info)
 else if c.kind = 6 ∨ c.kind = 9 then be c.cause.toNat 2 ++ be 4 2
 else if c.kind = 7 then be c.tsn 4
 else if c.kind = 10 ∨ c.kind = 15 then c.info
 else if c.kind = 193 then opsV c
 else if c.kind = 128 then be c.serial 4 ++ be (if c.ok = true then 1 else 0) 4
 else []
/-- The bytes of a chunk. -/
def bytesB (c : Ck) : List Nat := padB (((be c.kind.toNat 1 ++ be (flagN c.pb c.pe c.pu) 1) ++ be ((valB c).length + 4) 2) ++ valB c)
/-- What a chunk of the kinds that begin is. -/
structure StartC (c : Ck) : Prop where
 tag : c.tag ≠ 0
 win : 0 ≤ c.win ∧ c.win ≤ 2147483647
 out : 1 ≤ c.out ∧ c.out ≤ 8
 inn : 1 ≤ c.inn ∧ c.inn ≤ 8
 rand : 1 ≤ c.rand.length ∧ c.rand.length ≤ 64
 addrs : 1 ≤ c.addrs.length ∧ c.addrs.length ≤ 4
 ads : adsB c.addrs = true
theorem startB_iff (c : Ck) : startB c = true ↔ StartC c := by
 unfold startB
 simp only [Bool.and_eq_true, inB_iff, bne_iff_ne]
 constructor
 ·
  rintro ⟨⟨⟨⟨⟨h1, h2⟩, h3⟩, h4⟩, h5⟩, h6, h7⟩
  exact ⟨by omega, h2, h3, h4, by omega, by omega, h7⟩
 ·
  rintro ⟨h1, h2, h3, h4, h5, h6, h7⟩
  exact ⟨⟨⟨⟨⟨by omega, h2⟩, h3⟩, h4⟩, by omega⟩, by omega, h7⟩
theorem good_0 {c : Ck} (h : GoodC c) (hk : c.kind = 0) : 1 ≤ c.text.length ∧ c.text.length ≤ 64 := by
 have := h.fits; simp only [fitsB, hk, if_true, inB_iff] at this; omega
theorem good_1 {c : Ck} (h : GoodC c) (hk : c.kind = 1) : StartC c := by
 have := h.fits; simp [fitsB, hk] at this; exact (startB_iff c).1 this
theorem good_2 {c : Ck} (h : GoodC c) (hk : c.kind = 2) : StartC c ∧ 1 ≤ c.info.length ∧ c.info.length ≤ 300 := by
 have := h.fits; simp [fitsB, hk] at this
 exact ⟨(startB_iff c).1 this.1, by have := (inB_iff _ _ _).1 this.2; omega⟩
theorem good_3 {c : Ck} (h : GoodC c) (hk : c.kind = 3) : (0 ≤ c.win ∧ c.win ≤ 2147483647) ∧ gapsB (-1) c.gaps = true ∧ c.gaps.length ≤ 16 ∧ c.dups.length ≤ 16 := by
 have := h.fits; simp [fitsB, hk] at this
 exact ⟨(inB_iff _ _ _).1 this.1.1, this.1.2.1, by omega, by omega⟩
theorem good_info {c : Ck} (h : GoodC c) (hk : c.kind = 4 ∨ c.kind = 5 ∨ c.kind = 10) : 1 ≤ c.info.length ∧ c.info.length ≤ 300 := by
 have := h.fits
 have : inB (c.info.length : Int) 1 300 = true := by rcases hk with hk | hk | hk <;> simpa [fitsB, hk] using this
 have := (inB_iff _ _ _).1 this; omega
theorem good_15 {c : Ck} (h : GoodC c) (hk : c.kind = 15) : c.info.length = 32 := by
 have := h.fits; simp [fitsB, hk] at this; omega
theorem good_cause {c : Ck} (h : GoodC c) (hk : c.kind = 6 ∨ c.kind = 9) : 0 ≤ c.cause ∧ c.cause ≤ 65535 := by
 have := h.fits
 have : inB c.cause 0 65535 = true := by rcases hk with hk | hk <;> simpa [fitsB, hk] using this
 exact (inB_iff _ _ _).1 this
theorem good_193 {c : Ck} (h : GoodC c) (hk : c.kind = 193) : (1 ≤ c.ops.length ∧ c.ops.length ≤ 9) ∧ opsB c.ops = true := by
 have := h.fits; simp [fitsB, hk] at this
 exact ⟨by have := (inB_iff _ _ _).1 this.1; omega, this.2⟩
theorem startV_len {c : Ck} (h : StartC c) (hi : c.info.length ≤ 300) : (startV c).length ≤ 600 := by
 unfold startV
 have h1 := h.rand
 have h2 := h.addrs
 have h3 := pAddrs_len c.addrs c.addrs.length
 rw [List.take_length] at h3
 have h4 := pads_lt c.rand.length
 have h5 := pads_lt c.info.length
 simp only [List.length_append, be_len, parB_len]
 split
 ·
  rw [parB_len]; dsimp only; omega
 ·
  simp only [List.length_nil]; omega
theorem valB_len {c : Ck} (h : GoodC c) : (valB c).length ≤ 600 := by
 unfold valB
 split
 ·
  rename_i hk
  have := good_0 h hk
  simp only [List.length_append, be_len]; omega
 split
 ·
  rename_i _ hk
  rcases hk with hk | hk
  ·
   refine startV_len (good_1 h hk) ?_
   have := h.use; rw [usedC_1 hk] at this; rw [this]; simp [ck0]
  ·
   exact startV_len (good_2 h hk).1 (good_2 h hk).2.2
 split
 ·
  rename_i _ _ hk
  have := good_3 h hk
  unfold sackV
  simp only [List.length_append, be_len, gapV_len, dupV_len]; omega
 split
 ·
  rename_i _ _ _ hk
  have := good_info h (hk.imp id .inl)
  have h4 := pads_lt c.info.length
  rw [parB_len]; dsimp only; omega
 split
 ·
  simp only [List.length_append, be_len]; omega
 split
 ·
  simp only [be_len]; omega
 split
 ·
  rename_i _ _ _ _ _ _ hk
  rcases hk with hk | hk
  ·
   have := good_info h (.inr (.inr hk)); omega
  ·
   have := good_15 h hk; omega
 split
 ·
  rename_i _ _ _ _ _ _ _ hk
  have := good_193 h hk
  unfold opsV
  have h3 := pOps_len c.ops c.ops.length
  rw [List.take_length] at h3
  simp only [List.length_append, be_len]; omega
 split
 ·
  simp only [List.length_append, be_len]; omega
 ·
  simp
set_option maxRecDepth 100000
/-- What a good chunk is, in plain words. -/
structure Yes (c : Ck) : Prop where
 kn : knB c.kind = true
 win : 0 ≤ c.win ∧ c.win ≤ 2147483647
 cause : 0 ≤ c.cause ∧ c.cause ≤ 65535
 txt : c.kind = 0 → 1 ≤ c.text.length ∧ c.text.length ≤ 64
 blank : c.kind ≠ 0 → c.ptsn = 0 ∧ c.pstr = 0 ∧ c.pseq = 0 ∧ c.pb = false ∧ c.pe = false ∧ c.pu = false ∧ c.text.length = 0
 beg : (c.kind = 1 ∨ c.kind = 2) → c.tag ≠ 0 ∧ (1 ≤ c.out ∧ c.out ≤ 8) ∧ (1 ≤ c.inn ∧ c.inn ≤ 8) ∧ (1 ≤ c.rand.length ∧ c.rand.length ≤ 64) ∧ (1 ≤ c.addrs.length ∧ c.addrs.length ≤ 4)
 nbeg : ¬ (c.kind = 1 ∨ c.kind = 2) → c.tag = 0 ∧ c.out = 0 ∧ c.inn = 0 ∧ c.rand.length = 0 ∧ c.addrs.length = 0
 ads : adsB c.addrs = true
 w0 : c.win ≠ 0 → c.kind = 1 ∨ c.kind = 2 ∨ c.kind = 3
 t0 : c.tsn ≠ 0 → c.kind = 1 ∨ c.kind = 2 ∨ c.kind = 3 ∨ c.kind = 7
 c0 : c.cause ≠ 0 → c.kind = 6 ∨ c.kind = 9
 i1 : (c.kind = 2 ∨ c.kind = 4 ∨ c.kind = 5 ∨ c.kind = 10) → 1 ≤ c.info.length ∧ c.info.length ≤ 300
 i2 : c.kind = 15 → c.info.length = 32
 i3 : ¬ (c.kind = 2 ∨ c.kind = 4 ∨ c.kind = 5 ∨ c.kind = 10) → c.kind ≠ 15 → c.info.length = 0
 gd : c.kind ≠ 3 → c.gaps.length = 0 ∧ c.dups.length = 0
 gl : c.gaps.length ≤ 16 ∧ c.dups.length ≤ 16
 gps : gapsB (-1) c.gaps = true
 o1 : c.kind = 193 → 1 ≤ c.ops.length ∧ c.ops.length ≤ 9
 o2 : c.kind ≠ 193 → c.ops.length = 0
 s0 : c.serial ≠ 0 → c.kind = 193 ∨ c.kind = 128
 k0 : c.ok = true → c.kind = 128
 opsy : opsB c.ops = true
/-- What a gap is held against. -/
def pvG (a : Int) (L : List (Int × Int)) (k : Nat) : Int := if k = 0 then a else (L.getD (k - 1) (0, 0)).2
theorem pvG_succ (a : Int) (p : Int × Int) (L : List (Int × Int)) (k : Nat) : pvG a (p :: L) (k + 1) = pvG p.2 L k := by
 cases k <;> simp [pvG]
theorem gapsB_iff : ∀ (L : List (Int × Int)) (a : Int), -1 ≤ a → (gapsB a L = true ↔ ∀ k, k < L.length → (1 ≤ (L.getD k (0, 0)).1 ∧ (L.getD k (0, 0)).2 ≤ 65535 ∧ (L.getD k (0, 0)).1 ≤ (L.getD k (0, 0)).2 ∧ pvG a L k + 2 ≤ (L.getD k (0, 0)).1)) := by
 intro L
 induction L with
 | nil => intro a _; exact ⟨fun _ k hk => absurd hk (by simp), fun _ => rfl⟩
 | cons p L ih =>
  intro a ha
  rw [gapsB_cons, Bool.and_eq_true, Bool.not_eq_true', Bool.or_eq_false_iff, Bool.or_eq_false_iff, decide_eq_false_iff_not, decide_eq_false_iff_not, decide_eq_false_iff_not]
  constructor
  ·
   rintro ⟨⟨h1, h2, h3⟩, h4⟩ k hk
   cases k with
   | zero => simp [pvG]; omega
   | succ k =>
    have := (ih p.2 (by omega)).1 h4 k (by simpa using hk)
    rw [pvG_succ]
    simpa using this
  ·
   intro h
   have h0 := h 0 (by simp)
   simp [pvG] at h0
   refine ⟨by omega, (ih p.2 (by omega)).2 fun k hk => ?_⟩
   have := h (k + 1) (by simpa using hk)
   rw [pvG_succ] at this
   simpa using this
theorem good_yes_0 {c : Ck} (hk : c.kind = 0) (g : GoodC c) : Yes c := by
 have hu := g.use
 rw [show usedC c = _ from usedC_0 hk] at hu
 have e_tag : c.tag = 0 := congrArg Ck.tag hu
 have e_win : c.win = 0 := congrArg Ck.win hu
 have e_out : c.out = 0 := congrArg Ck.out hu
 have e_inn : c.inn = 0 := congrArg Ck.inn hu
 have e_tsn : c.tsn = 0 := congrArg Ck.tsn hu
 have e_rand : c.rand = [] := congrArg Ck.rand hu
 have e_addrs : c.addrs = [] := congrArg Ck.addrs hu
 have e_info : c.info = [] := congrArg Ck.info hu
 have e_gaps : c.gaps = [] := congrArg Ck.gaps hu
 have e_dups : c.dups = [] := congrArg Ck.dups hu
 have e_cause : c.cause = 0 := congrArg Ck.cause hu
 have e_serial : c.serial = 0 := congrArg Ck.serial hu
 have e_ops : c.ops = [] := congrArg Ck.ops hu
 have e_ok : c.ok = false := congrArg Ck.ok hu
 clear hu
 have hf := good_0 g hk
 have l_rand : c.rand.length = 0 := by rw [e_rand]; rfl
 have l_addrs : c.addrs.length = 0 := by rw [e_addrs]; rfl
 have l_info : c.info.length = 0 := by rw [e_info]; rfl
 have l_gaps : c.gaps.length = 0 := by rw [e_gaps]; rfl
 have l_dups : c.dups.length = 0 := by rw [e_dups]; rfl
 have l_ops : c.ops.length = 0 := by rw [e_ops]; rfl
 exact ⟨g.kn, (by omega), (by omega), (by omega), fun h => absurd hk h, (by omega), (by omega), (by rw [e_addrs]; rfl), (by omega), (by omega), (by omega), (by omega), (by omega), (by omega), fun _ => ⟨l_gaps, l_dups⟩, (by omega), (by rw [e_gaps]; rfl), (by omega), (by omega), (by omega), (by rw [e_ok]; intro h; cases h), (by rw [e_ops]; rfl)⟩
theorem yes_good_0 {c : Ck} (hk : c.kind = 0) (y : Yes c) : GoodC c := by
 obtain ⟨y1, y2, y3, y4, y5, y6, y7, y8, y9, y10, y11, y12, y13, y14, y15, y16, y17, y18, y19, y20, y21, y22⟩ := y
 obtain ⟨e_tag, e_out, e_inn, l_rand, l_addrs⟩ := y7 (by omega)
 have e_win : c.win = 0 := by omega
 have e_tsn : c.tsn = 0 := by omega
 have l_info : c.info.length = 0 := y14 (by omega) (by omega)
 obtain ⟨l_gaps, l_dups⟩ := y15 (by omega)
 have e_cause : c.cause = 0 := by omega
 have e_serial : c.serial = 0 := by omega
 have l_ops : c.ops.length = 0 := y19 (by omega)
 have e_ok : c.ok = false := by cases h : c.ok with | true => have := y21 h; omega | false => rfl
 have e_rand : c.rand = [] := List.length_eq_zero_iff.1 l_rand
 have e_addrs : c.addrs = [] := List.length_eq_zero_iff.1 l_addrs
 have e_info : c.info = [] := List.length_eq_zero_iff.1 l_info
 have e_gaps : c.gaps = [] := List.length_eq_zero_iff.1 l_gaps
 have e_dups : c.dups = [] := List.length_eq_zero_iff.1 l_dups
 have e_ops : c.ops = [] := List.length_eq_zero_iff.1 l_ops
 refine ⟨y1, by have := y4 hk;  simp only [fitsB, hk, if_true, inB_iff];  omega, ?_⟩
 rw [show usedC c = _ from usedC_0 hk]
 clear y1 y2 y3 y4 y5 y6 y7 y8 y9 y10 y11 y12 y13 y14 y15 y16 y17 y18 y19 y20 y21 y22
 cases c
 simp only at *
 subst hk e_tag e_win e_out e_inn e_tsn e_rand e_addrs e_info e_gaps e_dups e_cause e_serial e_ops e_ok
 rfl
theorem good_yes_1 {c : Ck} (hk : c.kind = 1) (g : GoodC c) : Yes c := by
 have hu := g.use
 rw [show usedC c = _ from usedC_1 hk] at hu
 have e_ptsn : c.ptsn = 0 := congrArg Ck.ptsn hu
 have e_pstr : c.pstr = 0 := congrArg Ck.pstr hu
 have e_pseq : c.pseq = 0 := congrArg Ck.pseq hu
 have e_pb : c.pb = false := congrArg Ck.pb hu
 have e_pe : c.pe = false := congrArg Ck.pe hu
 have e_pu : c.pu = false := congrArg Ck.pu hu
 have e_text : c.text = [] := congrArg Ck.text hu
 have e_info : c.info = [] := congrArg Ck.info hu
 have e_gaps : c.gaps = [] := congrArg Ck.gaps hu
 have e_dups : c.dups = [] := congrArg Ck.dups hu
 have e_cause : c.cause = 0 := congrArg Ck.cause hu
 have e_serial : c.serial = 0 := congrArg Ck.serial hu
 have e_ops : c.ops = [] := congrArg Ck.ops hu
 have e_ok : c.ok = false := congrArg Ck.ok hu
 clear hu
 have hf := good_1 g hk
 obtain ⟨f1, f2, f3, f4, f5, f6, f7⟩ := hf
 have l_text : c.text.length = 0 := by rw [e_text]; rfl
 have l_info : c.info.length = 0 := by rw [e_info]; rfl
 have l_gaps : c.gaps.length = 0 := by rw [e_gaps]; rfl
 have l_dups : c.dups.length = 0 := by rw [e_dups]; rfl
 have l_ops : c.ops.length = 0 := by rw [e_ops]; rfl
 exact ⟨g.kn, (by omega), (by omega), (by omega), fun _ => ⟨e_ptsn, e_pstr, e_pseq, e_pb, e_pe, e_pu, l_text⟩, fun _ => ⟨f1, f3, f4, f5, f6⟩, (by omega), f7, (by omega), (by omega), (by omega), (by omega), (by omega), (by omega), fun _ => ⟨l_gaps, l_dups⟩, (by omega), (by rw [e_gaps]; rfl), (by omega), (by omega), (by omega), (by rw [e_ok]; intro h; cases h), (by rw [e_ops]; rfl)⟩
theorem yes_good_1 {c : Ck} (hk : c.kind = 1) (y : Yes c) : GoodC c := by
 obtain ⟨y1, y2, y3, y4, y5, y6, y7, y8, y9, y10, y11, y12, y13, y14, y15, y16, y17, y18, y19, y20, y21, y22⟩ := y
 obtain ⟨e_ptsn, e_pstr, e_pseq, e_pb, e_pe, e_pu, l_text⟩ := y5 (by omega)
 have l_info : c.info.length = 0 := y14 (by omega) (by omega)
 obtain ⟨l_gaps, l_dups⟩ := y15 (by omega)
 have e_cause : c.cause = 0 := by omega
 have e_serial : c.serial = 0 := by omega
 have l_ops : c.ops.length = 0 := y19 (by omega)
 have e_ok : c.ok = false := by cases h : c.ok with | true => have := y21 h; omega | false => rfl
 have e_text : c.text = [] := List.length_eq_zero_iff.1 l_text
 have e_info : c.info = [] := List.length_eq_zero_iff.1 l_info
 have e_gaps : c.gaps = [] := List.length_eq_zero_iff.1 l_gaps
 have e_dups : c.dups = [] := List.length_eq_zero_iff.1 l_dups
 have e_ops : c.ops = [] := List.length_eq_zero_iff.1 l_ops
 refine ⟨y1, by have h := y6 (.inl hk);  simp only [fitsB, hk, Int.reduceEq, if_false, if_true];  exact (startB_iff c).2 ⟨h.1, y2, h.2.1, h.2.2.1, h.2.2.2.1, h.2.2.2.2, y8⟩, ?_⟩
 rw [show usedC c = _ from usedC_1 hk]
 clear y1 y2 y3 y4 y5 y6 y7 y8 y9 y10 y11 y12 y13 y14 y15 y16 y17 y18 y19 y20 y21 y22
 cases c
 simp only at *
 subst hk e_ptsn e_pstr e_pseq e_pb e_pe e_pu e_text e_info e_gaps e_dups e_cause e_serial e_ops e_ok
 rfl
theorem good_yes_2 {c : Ck} (hk : c.kind = 2) (g : GoodC c) : Yes c := by
 have hu := g.use
 rw [show usedC c = _ from usedC_2 hk] at hu
 have e_ptsn : c.ptsn = 0 := congrArg Ck.ptsn hu
 have e_pstr : c.pstr = 0 := congrArg Ck.pstr hu
 have e_pseq : c.pseq = 0 := congrArg Ck.pseq hu
 have e_pb : c.pb = false := congrArg Ck.pb hu
 have e_pe : c.pe = false := congrArg Ck.pe hu
 have e_pu : c.pu = false := congrArg Ck.pu hu
 have e_text : c.text = [] := congrArg Ck.text hu
 have e_gaps : c.gaps = [] := congrArg Ck.gaps hu
 have e_dups : c.dups = [] := congrArg Ck.dups hu
 have e_cause : c.cause = 0 := congrArg Ck.cause hu
 have e_serial : c.serial = 0 := congrArg Ck.serial hu
 have e_ops : c.ops = [] := congrArg Ck.ops hu
 have e_ok : c.ok = false := congrArg Ck.ok hu
 clear hu
 have hf := good_2 g hk
 obtain ⟨⟨f1, f2, f3, f4, f5, f6, f7⟩, f8⟩ := hf
 have l_text : c.text.length = 0 := by rw [e_text]; rfl
 have l_gaps : c.gaps.length = 0 := by rw [e_gaps]; rfl
 have l_dups : c.dups.length = 0 := by rw [e_dups]; rfl
 have l_ops : c.ops.length = 0 := by rw [e_ops]; rfl
 exact ⟨g.kn, (by omega), (by omega), (by omega), fun _ => ⟨e_ptsn, e_pstr, e_pseq, e_pb, e_pe, e_pu, l_text⟩, fun _ => ⟨f1, f3, f4, f5, f6⟩, (by omega), f7, (by omega), (by omega), (by omega), (by omega), (by omega), (by omega), fun _ => ⟨l_gaps, l_dups⟩, (by omega), (by rw [e_gaps]; rfl), (by omega), (by omega), (by omega), (by rw [e_ok]; intro h; cases h), (by rw [e_ops]; rfl)⟩
theorem yes_good_2 {c : Ck} (hk : c.kind = 2) (y : Yes c) : GoodC c := by
 obtain ⟨y1, y2, y3, y4, y5, y6, y7, y8, y9, y10, y11, y12, y13, y14, y15, y16, y17, y18, y19, y20, y21, y22⟩ := y
 obtain ⟨e_ptsn, e_pstr, e_pseq, e_pb, e_pe, e_pu, l_text⟩ := y5 (by omega)
 obtain ⟨l_gaps, l_dups⟩ := y15 (by omega)
 have e_cause : c.cause = 0 := by omega
 have e_serial : c.serial = 0 := by omega
 have l_ops : c.ops.length = 0 := y19 (by omega)
 have e_ok : c.ok = false := by cases h : c.ok with | true => have := y21 h; omega | false => rfl
 have e_text : c.text = [] := List.length_eq_zero_iff.1 l_text
 have e_gaps : c.gaps = [] := List.length_eq_zero_iff.1 l_gaps
 have e_dups : c.dups = [] := List.length_eq_zero_iff.1 l_dups
 have e_ops : c.ops = [] := List.length_eq_zero_iff.1 l_ops
 refine ⟨y1, by have h := y6 (.inr hk);  have h2 := y12 (.inl hk);  simp only [fitsB, hk, Int.reduceEq, if_false, if_true, Bool.and_eq_true, inB_iff];  exact ⟨(startB_iff c).2 ⟨h.1, y2, h.2.1, h.2.2.1, h.2.2.2.1, h.2.2.2.2, y8⟩, by omega, by omega⟩, ?_⟩
 rw [show usedC c = _ from usedC_2 hk]
 clear y1 y2 y3 y4 y5 y6 y7 y8 y9 y10 y11 y12 y13 y14 y15 y16 y17 y18 y19 y20 y21 y22
 cases c
 simp only at *
 subst hk e_ptsn e_pstr e_pseq e_pb e_pe e_pu e_text e_gaps e_dups e_cause e_serial e_ops e_ok
 rfl
theorem good_yes_3 {c : Ck} (hk : c.kind = 3) (g : GoodC c) : Yes c := by
 have hu := g.use
 rw [show usedC c = _ from usedC_3 hk] at hu
 have e_ptsn : c.ptsn = 0 := congrArg Ck.ptsn hu
 have e_pstr : c.pstr = 0 := congrArg Ck.pstr hu
 have e_pseq : c.pseq = 0 := congrArg Ck.pseq hu
 have e_pb : c.pb = false := congrArg Ck.pb hu
 have e_pe : c.pe = false := congrArg Ck.pe hu
 have e_pu : c.pu = false := congrArg Ck.pu hu
 have e_text : c.text = [] := congrArg Ck.text hu
 have e_tag : c.tag = 0 := congrArg Ck.tag hu
 have e_out : c.out = 0 := congrArg Ck.out hu
 have e_inn : c.inn = 0 := congrArg Ck.inn hu
 have e_rand : c.rand = [] := congrArg Ck.rand hu
 have e_addrs : c.addrs = [] := congrArg Ck.addrs hu
 have e_info : c.info = [] := congrArg Ck.info hu
 have e_cause : c.cause = 0 := congrArg Ck.cause hu
 have e_serial : c.serial = 0 := congrArg Ck.serial hu
 have e_ops : c.ops = [] := congrArg Ck.ops hu
 have e_ok : c.ok = false := congrArg Ck.ok hu
 clear hu
 have hf := good_3 g hk
 obtain ⟨f1, f2, f3, f4⟩ := hf
 have l_text : c.text.length = 0 := by rw [e_text]; rfl
 have l_rand : c.rand.length = 0 := by rw [e_rand]; rfl
 have l_addrs : c.addrs.length = 0 := by rw [e_addrs]; rfl
 have l_info : c.info.length = 0 := by rw [e_info]; rfl
 have l_ops : c.ops.length = 0 := by rw [e_ops]; rfl
 exact ⟨g.kn, (by omega), (by omega), (by omega), fun _ => ⟨e_ptsn, e_pstr, e_pseq, e_pb, e_pe, e_pu, l_text⟩, (by omega), (by omega), (by rw [e_addrs]; rfl), (by omega), (by omega), (by omega), (by omega), (by omega), (by omega), fun h => absurd hk h, (by omega), f2, (by omega), (by omega), (by omega), (by rw [e_ok]; intro h; cases h), (by rw [e_ops]; rfl)⟩
theorem yes_good_3 {c : Ck} (hk : c.kind = 3) (y : Yes c) : GoodC c := by
 obtain ⟨y1, y2, y3, y4, y5, y6, y7, y8, y9, y10, y11, y12, y13, y14, y15, y16, y17, y18, y19, y20, y21, y22⟩ := y
 obtain ⟨e_ptsn, e_pstr, e_pseq, e_pb, e_pe, e_pu, l_text⟩ := y5 (by omega)
 obtain ⟨e_tag, e_out, e_inn, l_rand, l_addrs⟩ := y7 (by omega)
 have l_info : c.info.length = 0 := y14 (by omega) (by omega)
 have e_cause : c.cause = 0 := by omega
 have e_serial : c.serial = 0 := by omega
 have l_ops : c.ops.length = 0 := y19 (by omega)
 have e_ok : c.ok = false := by cases h : c.ok with | true => have := y21 h; omega | false => rfl
 have e_text : c.text = [] := List.length_eq_zero_iff.1 l_text
 have e_rand : c.rand = [] := List.length_eq_zero_iff.1 l_rand
 have e_addrs : c.addrs = [] := List.length_eq_zero_iff.1 l_addrs
 have e_info : c.info = [] := List.length_eq_zero_iff.1 l_info
 have e_ops : c.ops = [] := List.length_eq_zero_iff.1 l_ops
 refine ⟨y1, by simp only [fitsB, hk, Int.reduceEq, if_false, if_true, Bool.and_eq_true, inB_iff, decide_eq_true_eq];  exact ⟨⟨y2, y17, by omega⟩, by omega⟩, ?_⟩
 rw [show usedC c = _ from usedC_3 hk]
 clear y1 y2 y3 y4 y5 y6 y7 y8 y9 y10 y11 y12 y13 y14 y15 y16 y17 y18 y19 y20 y21 y22
 cases c
 simp only at *
 subst hk e_ptsn e_pstr e_pseq e_pb e_pe e_pu e_text e_tag e_out e_inn e_rand e_addrs e_info e_cause e_serial e_ops e_ok
 rfl
theorem good_yes_4 {c : Ck} (hk : c.kind = 4) (g : GoodC c) : Yes c := by
 have hu := g.use
 rw [show usedC c = _ from usedC_4 hk] at hu
 have e_ptsn : c.ptsn = 0 := congrArg Ck.ptsn hu
 have e_pstr : c.pstr = 0 := congrArg Ck.pstr hu
 have e_pseq : c.pseq = 0 := congrArg Ck.pseq hu
 have e_pb : c.pb = false := congrArg Ck.pb hu
 have e_pe : c.pe = false := congrArg Ck.pe hu
 have e_pu : c.pu = false := congrArg Ck.pu hu
 have e_text : c.text = [] := congrArg Ck.text hu
 have e_tag : c.tag = 0 := congrArg Ck.tag hu
 have e_win : c.win = 0 := congrArg Ck.win hu
 have e_out : c.out = 0 := congrArg Ck.out hu
 have e_inn : c.inn = 0 := congrArg Ck.inn hu
 have e_tsn : c.tsn = 0 := congrArg Ck.tsn hu
 have e_rand : c.rand = [] := congrArg Ck.rand hu
 have e_addrs : c.addrs = [] := congrArg Ck.addrs hu
 have e_gaps : c.gaps = [] := congrArg Ck.gaps hu
 have e_dups : c.dups = [] := congrArg Ck.dups hu
 have e_cause : c.cause = 0 := congrArg Ck.cause hu
 have e_serial : c.serial = 0 := congrArg Ck.serial hu
 have e_ops : c.ops = [] := congrArg Ck.ops hu
 have e_ok : c.ok = false := congrArg Ck.ok hu
 clear hu
 have hf := good_info g (.inl hk)
 have l_text : c.text.length = 0 := by rw [e_text]; rfl
 have l_rand : c.rand.length = 0 := by rw [e_rand]; rfl
 have l_addrs : c.addrs.length = 0 := by rw [e_addrs]; rfl
 have l_gaps : c.gaps.length = 0 := by rw [e_gaps]; rfl
 have l_dups : c.dups.length = 0 := by rw [e_dups]; rfl
 have l_ops : c.ops.length = 0 := by rw [e_ops]; rfl
 exact ⟨g.kn, (by omega), (by omega), (by omega), fun _ => ⟨e_ptsn, e_pstr, e_pseq, e_pb, e_pe, e_pu, l_text⟩, (by omega), (by omega), (by rw [e_addrs]; rfl), (by omega), (by omega), (by omega), (by omega), (by omega), (by omega), fun _ => ⟨l_gaps, l_dups⟩, (by omega), (by rw [e_gaps]; rfl), (by omega), (by omega), (by omega), (by rw [e_ok]; intro h; cases h), (by rw [e_ops]; rfl)⟩
theorem yes_good_4 {c : Ck} (hk : c.kind = 4) (y : Yes c) : GoodC c := by
 obtain ⟨y1, y2, y3, y4, y5, y6, y7, y8, y9, y10, y11, y12, y13, y14, y15, y16, y17, y18, y19, y20, y21, y22⟩ := y
 obtain ⟨e_ptsn, e_pstr, e_pseq, e_pb, e_pe, e_pu, l_text⟩ := y5 (by omega)
 obtain ⟨e_tag, e_out, e_inn, l_rand, l_addrs⟩ := y7 (by omega)
 have e_win : c.win = 0 := by omega
 have e_tsn : c.tsn = 0 := by omega
 obtain ⟨l_gaps, l_dups⟩ := y15 (by omega)
 have e_cause : c.cause = 0 := by omega
 have e_serial : c.serial = 0 := by omega
 have l_ops : c.ops.length = 0 := y19 (by omega)
 have e_ok : c.ok = false := by cases h : c.ok with | true => have := y21 h; omega | false => rfl
 have e_text : c.text = [] := List.length_eq_zero_iff.1 l_text
 have e_rand : c.rand = [] := List.length_eq_zero_iff.1 l_rand
 have e_addrs : c.addrs = [] := List.length_eq_zero_iff.1 l_addrs
 have e_gaps : c.gaps = [] := List.length_eq_zero_iff.1 l_gaps
 have e_dups : c.dups = [] := List.length_eq_zero_iff.1 l_dups
 have e_ops : c.ops = [] := List.length_eq_zero_iff.1 l_ops
 refine ⟨y1, by have := y12 (by omega);  simp only [fitsB, hk, Int.reduceEq, if_false, if_true, inB_iff, true_or, or_true];  omega, ?_⟩
 rw [show usedC c = _ from usedC_4 hk]
 clear y1 y2 y3 y4 y5 y6 y7 y8 y9 y10 y11 y12 y13 y14 y15 y16 y17 y18 y19 y20 y21 y22
 cases c
 simp only at *
 subst hk e_ptsn e_pstr e_pseq e_pb e_pe e_pu e_text e_tag e_win e_out e_inn e_tsn e_rand e_addrs e_gaps e_dups e_cause e_serial e_ops e_ok
 rfl
theorem good_yes_5 {c : Ck} (hk : c.kind = 5) (g : GoodC c) : Yes c := by
 have hu := g.use
 rw [show usedC c = _ from usedC_5 hk] at hu
 have e_ptsn : c.ptsn = 0 := congrArg Ck.ptsn hu
 have e_pstr : c.pstr = 0 := congrArg Ck.pstr hu
 have e_pseq : c.pseq = 0 := congrArg Ck.pseq hu
 have e_pb : c.pb = false := congrArg Ck.pb hu
 have e_pe : c.pe = false := congrArg Ck.pe hu
 have e_pu : c.pu = false := congrArg Ck.pu hu
 have e_text : c.text = [] := congrArg Ck.text hu
 have e_tag : c.tag = 0 := congrArg Ck.tag hu
 have e_win : c.win = 0 := congrArg Ck.win hu
 have e_out : c.out = 0 := congrArg Ck.out hu
 have e_inn : c.inn = 0 := congrArg Ck.inn hu
 have e_tsn : c.tsn = 0 := congrArg Ck.tsn hu
 have e_rand : c.rand = [] := congrArg Ck.rand hu
 have e_addrs : c.addrs = [] := congrArg Ck.addrs hu
 have e_gaps : c.gaps = [] := congrArg Ck.gaps hu
 have e_dups : c.dups = [] := congrArg Ck.dups hu
 have e_cause : c.cause = 0 := congrArg Ck.cause hu
 have e_serial : c.serial = 0 := congrArg Ck.serial hu
 have e_ops : c.ops = [] := congrArg Ck.ops hu
 have e_ok : c.ok = false := congrArg Ck.ok hu
 clear hu
 have hf := good_info g (.inr (.inl hk))
 have l_text : c.text.length = 0 := by rw [e_text]; rfl
 have l_rand : c.rand.length = 0 := by rw [e_rand]; rfl
 have l_addrs : c.addrs.length = 0 := by rw [e_addrs]; rfl
 have l_gaps : c.gaps.length = 0 := by rw [e_gaps]; rfl
 have l_dups : c.dups.length = 0 := by rw [e_dups]; rfl
 have l_ops : c.ops.length = 0 := by rw [e_ops]; rfl
 exact ⟨g.kn, (by omega), (by omega), (by omega), fun _ => ⟨e_ptsn, e_pstr, e_pseq, e_pb, e_pe, e_pu, l_text⟩, (by omega), (by omega), (by rw [e_addrs]; rfl), (by omega), (by omega), (by omega), (by omega), (by omega), (by omega), fun _ => ⟨l_gaps, l_dups⟩, (by omega), (by rw [e_gaps]; rfl), (by omega), (by omega), (by omega), (by rw [e_ok]; intro h; cases h), (by rw [e_ops]; rfl)⟩
theorem yes_good_5 {c : Ck} (hk : c.kind = 5) (y : Yes c) : GoodC c := by
 obtain ⟨y1, y2, y3, y4, y5, y6, y7, y8, y9, y10, y11, y12, y13, y14, y15, y16, y17, y18, y19, y20, y21, y22⟩ := y
 obtain ⟨e_ptsn, e_pstr, e_pseq, e_pb, e_pe, e_pu, l_text⟩ := y5 (by omega)
 obtain ⟨e_tag, e_out, e_inn, l_rand, l_addrs⟩ := y7 (by omega)
 have e_win : c.win = 0 := by omega
 have e_tsn : c.tsn = 0 := by omega
 obtain ⟨l_gaps, l_dups⟩ := y15 (by omega)
 have e_cause : c.cause = 0 := by omega
 have e_serial : c.serial = 0 := by omega
 have l_ops : c.ops.length = 0 := y19 (by omega)
 have e_ok : c.ok = false := by cases h : c.ok with | true => have := y21 h; omega | false => rfl
 have e_text : c.text = [] := List.length_eq_zero_iff.1 l_text
 have e_rand : c.rand = [] := List.length_eq_zero_iff.1 l_rand
 have e_addrs : c.addrs = [] := List.length_eq_zero_iff.1 l_addrs
 have e_gaps : c.gaps = [] := List.length_eq_zero_iff.1 l_gaps
 have e_dups : c.dups = [] := List.length_eq_zero_iff.1 l_dups
 have e_ops : c.ops = [] := List.length_eq_zero_iff.1 l_ops
 refine ⟨y1, by have := y12 (by omega);  simp only [fitsB, hk, Int.reduceEq, if_false, if_true, inB_iff, true_or, or_true];  omega, ?_⟩
 rw [show usedC c = _ from usedC_5 hk]
 clear y1 y2 y3 y4 y5 y6 y7 y8 y9 y10 y11 y12 y13 y14 y15 y16 y17 y18 y19 y20 y21 y22
 cases c
 simp only at *
 subst hk e_ptsn e_pstr e_pseq e_pb e_pe e_pu e_text e_tag e_win e_out e_inn e_tsn e_rand e_addrs e_gaps e_dups e_cause e_serial e_ops e_ok
 rfl
theorem good_yes_6 {c : Ck} (hk : c.kind = 6) (g : GoodC c) : Yes c := by
 have hu := g.use
 rw [show usedC c = _ from usedC_6 hk] at hu
 have e_ptsn : c.ptsn = 0 := congrArg Ck.ptsn hu
 have e_pstr : c.pstr = 0 := congrArg Ck.pstr hu
 have e_pseq : c.pseq = 0 := congrArg Ck.pseq hu
 have e_pb : c.pb = false := congrArg Ck.pb hu
 have e_pe : c.pe = false := congrArg Ck.pe hu
 have e_pu : c.pu = false := congrArg Ck.pu hu
 have e_text : c.text = [] := congrArg Ck.text hu
 have e_tag : c.tag = 0 := congrArg Ck.tag hu
 have e_win : c.win = 0 := congrArg Ck.win hu
 have e_out : c.out = 0 := congrArg Ck.out hu
 have e_inn : c.inn = 0 := congrArg Ck.inn hu
 have e_tsn : c.tsn = 0 := congrArg Ck.tsn hu
 have e_rand : c.rand = [] := congrArg Ck.rand hu
 have e_addrs : c.addrs = [] := congrArg Ck.addrs hu
 have e_info : c.info = [] := congrArg Ck.info hu
 have e_gaps : c.gaps = [] := congrArg Ck.gaps hu
 have e_dups : c.dups = [] := congrArg Ck.dups hu
 have e_serial : c.serial = 0 := congrArg Ck.serial hu
 have e_ops : c.ops = [] := congrArg Ck.ops hu
 have e_ok : c.ok = false := congrArg Ck.ok hu
 clear hu
 have hf := good_cause g (.inl hk)
 have l_text : c.text.length = 0 := by rw [e_text]; rfl
 have l_rand : c.rand.length = 0 := by rw [e_rand]; rfl
 have l_addrs : c.addrs.length = 0 := by rw [e_addrs]; rfl
 have l_info : c.info.length = 0 := by rw [e_info]; rfl
 have l_gaps : c.gaps.length = 0 := by rw [e_gaps]; rfl
 have l_dups : c.dups.length = 0 := by rw [e_dups]; rfl
 have l_ops : c.ops.length = 0 := by rw [e_ops]; rfl
 exact ⟨g.kn, (by omega), (by omega), (by omega), fun _ => ⟨e_ptsn, e_pstr, e_pseq, e_pb, e_pe, e_pu, l_text⟩, (by omega), (by omega), (by rw [e_addrs]; rfl), (by omega), (by omega), (by omega), (by omega), (by omega), (by omega), fun _ => ⟨l_gaps, l_dups⟩, (by omega), (by rw [e_gaps]; rfl), (by omega), (by omega), (by omega), (by rw [e_ok]; intro h; cases h), (by rw [e_ops]; rfl)⟩
theorem yes_good_6 {c : Ck} (hk : c.kind = 6) (y : Yes c) : GoodC c := by
 obtain ⟨y1, y2, y3, y4, y5, y6, y7, y8, y9, y10, y11, y12, y13, y14, y15, y16, y17, y18, y19, y20, y21, y22⟩ := y
 obtain ⟨e_ptsn, e_pstr, e_pseq, e_pb, e_pe, e_pu, l_text⟩ := y5 (by omega)
 obtain ⟨e_tag, e_out, e_inn, l_rand, l_addrs⟩ := y7 (by omega)
 have e_win : c.win = 0 := by omega
 have e_tsn : c.tsn = 0 := by omega
 have l_info : c.info.length = 0 := y14 (by omega) (by omega)
 obtain ⟨l_gaps, l_dups⟩ := y15 (by omega)
 have e_serial : c.serial = 0 := by omega
 have l_ops : c.ops.length = 0 := y19 (by omega)
 have e_ok : c.ok = false := by cases h : c.ok with | true => have := y21 h; omega | false => rfl
 have e_text : c.text = [] := List.length_eq_zero_iff.1 l_text
 have e_rand : c.rand = [] := List.length_eq_zero_iff.1 l_rand
 have e_addrs : c.addrs = [] := List.length_eq_zero_iff.1 l_addrs
 have e_info : c.info = [] := List.length_eq_zero_iff.1 l_info
 have e_gaps : c.gaps = [] := List.length_eq_zero_iff.1 l_gaps
 have e_dups : c.dups = [] := List.length_eq_zero_iff.1 l_dups
 have e_ops : c.ops = [] := List.length_eq_zero_iff.1 l_ops
 refine ⟨y1, by simp only [fitsB, hk, Int.reduceEq, if_false, if_true, or_self, inB_iff, true_or, or_true];  omega, ?_⟩
 rw [show usedC c = _ from usedC_6 hk]
 clear y1 y2 y3 y4 y5 y6 y7 y8 y9 y10 y11 y12 y13 y14 y15 y16 y17 y18 y19 y20 y21 y22
 cases c
 simp only at *
 subst hk e_ptsn e_pstr e_pseq e_pb e_pe e_pu e_text e_tag e_win e_out e_inn e_tsn e_rand e_addrs e_info e_gaps e_dups e_serial e_ops e_ok
 rfl
theorem good_yes_7 {c : Ck} (hk : c.kind = 7) (g : GoodC c) : Yes c := by
 have hu := g.use
 rw [show usedC c = _ from usedC_7 hk] at hu
 have e_ptsn : c.ptsn = 0 := congrArg Ck.ptsn hu
 have e_pstr : c.pstr = 0 := congrArg Ck.pstr hu
 have e_pseq : c.pseq = 0 := congrArg Ck.pseq hu
 have e_pb : c.pb = false := congrArg Ck.pb hu
 have e_pe : c.pe = false := congrArg Ck.pe hu
 have e_pu : c.pu = false := congrArg Ck.pu hu
 have e_text : c.text = [] := congrArg Ck.text hu
 have e_tag : c.tag = 0 := congrArg Ck.tag hu
 have e_win : c.win = 0 := congrArg Ck.win hu
 have e_out : c.out = 0 := congrArg Ck.out hu
 have e_inn : c.inn = 0 := congrArg Ck.inn hu
 have e_rand : c.rand = [] := congrArg Ck.rand hu
 have e_addrs : c.addrs = [] := congrArg Ck.addrs hu
 have e_info : c.info = [] := congrArg Ck.info hu
 have e_gaps : c.gaps = [] := congrArg Ck.gaps hu
 have e_dups : c.dups = [] := congrArg Ck.dups hu
 have e_cause : c.cause = 0 := congrArg Ck.cause hu
 have e_serial : c.serial = 0 := congrArg Ck.serial hu
 have e_ops : c.ops = [] := congrArg Ck.ops hu
 have e_ok : c.ok = false := congrArg Ck.ok hu
 clear hu
 have l_text : c.text.length = 0 := by rw [e_text]; rfl
 have l_rand : c.rand.length = 0 := by rw [e_rand]; rfl
 have l_addrs : c.addrs.length = 0 := by rw [e_addrs]; rfl
 have l_info : c.info.length = 0 := by rw [e_info]; rfl
 have l_gaps : c.gaps.length = 0 := by rw [e_gaps]; rfl
 have l_dups : c.dups.length = 0 := by rw [e_dups]; rfl
 have l_ops : c.ops.length = 0 := by rw [e_ops]; rfl
 exact ⟨g.kn, (by omega), (by omega), (by omega), fun _ => ⟨e_ptsn, e_pstr, e_pseq, e_pb, e_pe, e_pu, l_text⟩, (by omega), (by omega), (by rw [e_addrs]; rfl), (by omega), (by omega), (by omega), (by omega), (by omega), (by omega), fun _ => ⟨l_gaps, l_dups⟩, (by omega), (by rw [e_gaps]; rfl), (by omega), (by omega), (by omega), (by rw [e_ok]; intro h; cases h), (by rw [e_ops]; rfl)⟩
theorem yes_good_7 {c : Ck} (hk : c.kind = 7) (y : Yes c) : GoodC c := by
 obtain ⟨y1, y2, y3, y4, y5, y6, y7, y8, y9, y10, y11, y12, y13, y14, y15, y16, y17, y18, y19, y20, y21, y22⟩ := y
 obtain ⟨e_ptsn, e_pstr, e_pseq, e_pb, e_pe, e_pu, l_text⟩ := y5 (by omega)
 obtain ⟨e_tag, e_out, e_inn, l_rand, l_addrs⟩ := y7 (by omega)
 have e_win : c.win = 0 := by omega
 have l_info : c.info.length = 0 := y14 (by omega) (by omega)
 obtain ⟨l_gaps, l_dups⟩ := y15 (by omega)
 have e_cause : c.cause = 0 := by omega
 have e_serial : c.serial = 0 := by omega
 have l_ops : c.ops.length = 0 := y19 (by omega)
 have e_ok : c.ok = false := by cases h : c.ok with | true => have := y21 h; omega | false => rfl
 have e_text : c.text = [] := List.length_eq_zero_iff.1 l_text
 have e_rand : c.rand = [] := List.length_eq_zero_iff.1 l_rand
 have e_addrs : c.addrs = [] := List.length_eq_zero_iff.1 l_addrs
 have e_info : c.info = [] := List.length_eq_zero_iff.1 l_info
 have e_gaps : c.gaps = [] := List.length_eq_zero_iff.1 l_gaps
 have e_dups : c.dups = [] := List.length_eq_zero_iff.1 l_dups
 have e_ops : c.ops = [] := List.length_eq_zero_iff.1 l_ops
 refine ⟨y1, by simp only [fitsB, hk, Int.reduceEq, if_false, or_self], ?_⟩
 rw [show usedC c = _ from usedC_7 hk]
 clear y1 y2 y3 y4 y5 y6 y7 y8 y9 y10 y11 y12 y13 y14 y15 y16 y17 y18 y19 y20 y21 y22
 cases c
 simp only at *
 subst hk e_ptsn e_pstr e_pseq e_pb e_pe e_pu e_text e_tag e_win e_out e_inn e_rand e_addrs e_info e_gaps e_dups e_cause e_serial e_ops e_ok
 rfl
theorem good_yes_8 {c : Ck} (hk : c.kind = 8) (g : GoodC c) : Yes c := by
 have hu := g.use
 rw [show usedC c = _ from by simp only [usedC, hk, reduceIte, Int.reduceEq]; rfl] at hu
 have e_ptsn : c.ptsn = 0 := congrArg Ck.ptsn hu
 have e_pstr : c.pstr = 0 := congrArg Ck.pstr hu
 have e_pseq : c.pseq = 0 := congrArg Ck.pseq hu
 have e_pb : c.pb = false := congrArg Ck.pb hu
 have e_pe : c.pe = false := congrArg Ck.pe hu
 have e_pu : c.pu = false := congrArg Ck.pu hu
 have e_text : c.text = [] := congrArg Ck.text hu
 have e_tag : c.tag = 0 := congrArg Ck.tag hu
 have e_win : c.win = 0 := congrArg Ck.win hu
 have e_out : c.out = 0 := congrArg Ck.out hu
 have e_inn : c.inn = 0 := congrArg Ck.inn hu
 have e_tsn : c.tsn = 0 := congrArg Ck.tsn hu
 have e_rand : c.rand = [] := congrArg Ck.rand hu
 have e_addrs : c.addrs = [] := congrArg Ck.addrs hu
 have e_info : c.info = [] := congrArg Ck.info hu
 have e_gaps : c.gaps = [] := congrArg Ck.gaps hu
 have e_dups : c.dups = [] := congrArg Ck.dups hu
 have e_cause : c.cause = 0 := congrArg Ck.cause hu
 have e_serial : c.serial = 0 := congrArg Ck.serial hu
 have e_ops : c.ops = [] := congrArg Ck.ops hu
 have e_ok : c.ok = false := congrArg Ck.ok hu
 clear hu
 have l_text : c.text.length = 0 := by rw [e_text]; rfl
 have l_rand : c.rand.length = 0 := by rw [e_rand]; rfl
 have l_addrs : c.addrs.length = 0 := by rw [e_addrs]; rfl
 have l_info : c.info.length = 0 := by rw [e_info]; rfl
 have l_gaps : c.gaps.length = 0 := by rw [e_gaps]; rfl
 have l_dups : c.dups.length = 0 := by rw [e_dups]; rfl
 have l_ops : c.ops.length = 0 := by rw [e_ops]; rfl
 exact ⟨g.kn, (by omega), (by omega), (by omega), fun _ => ⟨e_ptsn, e_pstr, e_pseq, e_pb, e_pe, e_pu, l_text⟩, (by omega), (by omega), (by rw [e_addrs]; rfl), (by omega), (by omega), (by omega), (by omega), (by omega), (by omega), fun _ => ⟨l_gaps, l_dups⟩, (by omega), (by rw [e_gaps]; rfl), (by omega), (by omega), (by omega), (by rw [e_ok]; intro h; cases h), (by rw [e_ops]; rfl)⟩
theorem yes_good_8 {c : Ck} (hk : c.kind = 8) (y : Yes c) : GoodC c := by
 obtain ⟨y1, y2, y3, y4, y5, y6, y7, y8, y9, y10, y11, y12, y13, y14, y15, y16, y17, y18, y19, y20, y21, y22⟩ := y
 obtain ⟨e_ptsn, e_pstr, e_pseq, e_pb, e_pe, e_pu, l_text⟩ := y5 (by omega)
 obtain ⟨e_tag, e_out, e_inn, l_rand, l_addrs⟩ := y7 (by omega)
 have e_win : c.win = 0 := by omega
 have e_tsn : c.tsn = 0 := by omega
 have l_info : c.info.length = 0 := y14 (by omega) (by omega)
 obtain ⟨l_gaps, l_dups⟩ := y15 (by omega)
 have e_cause : c.cause = 0 := by omega
 have e_serial : c.serial = 0 := by omega
 have l_ops : c.ops.length = 0 := y19 (by omega)
 have e_ok : c.ok = false := by cases h : c.ok with | true => have := y21 h; omega | false => rfl
 have e_text : c.text = [] := List.length_eq_zero_iff.1 l_text
 have e_rand : c.rand = [] := List.length_eq_zero_iff.1 l_rand
 have e_addrs : c.addrs = [] := List.length_eq_zero_iff.1 l_addrs
 have e_info : c.info = [] := List.length_eq_zero_iff.1 l_info
 have e_gaps : c.gaps = [] := List.length_eq_zero_iff.1 l_gaps
 have e_dups : c.dups = [] := List.length_eq_zero_iff.1 l_dups
 have e_ops : c.ops = [] := List.length_eq_zero_iff.1 l_ops
 refine ⟨y1, by simp only [fitsB, hk, Int.reduceEq, if_false, or_self], ?_⟩
 rw [show usedC c = _ from by simp only [usedC, hk, reduceIte, Int.reduceEq]; rfl]
 clear y1 y2 y3 y4 y5 y6 y7 y8 y9 y10 y11 y12 y13 y14 y15 y16 y17 y18 y19 y20 y21 y22
 cases c
 simp only at *
 subst hk e_ptsn e_pstr e_pseq e_pb e_pe e_pu e_text e_tag e_win e_out e_inn e_tsn e_rand e_addrs e_info e_gaps e_dups e_cause e_serial e_ops e_ok
 rfl
theorem good_yes_9 {c : Ck} (hk : c.kind = 9) (g : GoodC c) : Yes c := by
 have hu := g.use
 rw [show usedC c = _ from usedC_9 hk] at hu
 have e_ptsn : c.ptsn = 0 := congrArg Ck.ptsn hu
 have e_pstr : c.pstr = 0 := congrArg Ck.pstr hu
 have e_pseq : c.pseq = 0 := congrArg Ck.pseq hu
 have e_pb : c.pb = false := congrArg Ck.pb hu
 have e_pe : c.pe = false := congrArg Ck.pe hu
 have e_pu : c.pu = false := congrArg Ck.pu hu
 have e_text : c.text = [] := congrArg Ck.text hu
 have e_tag : c.tag = 0 := congrArg Ck.tag hu
 have e_win : c.win = 0 := congrArg Ck.win hu
 have e_out : c.out = 0 := congrArg Ck.out hu
 have e_inn : c.inn = 0 := congrArg Ck.inn hu
 have e_tsn : c.tsn = 0 := congrArg Ck.tsn hu
 have e_rand : c.rand = [] := congrArg Ck.rand hu
 have e_addrs : c.addrs = [] := congrArg Ck.addrs hu
 have e_info : c.info = [] := congrArg Ck.info hu
 have e_gaps : c.gaps = [] := congrArg Ck.gaps hu
 have e_dups : c.dups = [] := congrArg Ck.dups hu
 have e_serial : c.serial = 0 := congrArg Ck.serial hu
 have e_ops : c.ops = [] := congrArg Ck.ops hu
 have e_ok : c.ok = false := congrArg Ck.ok hu
 clear hu
 have hf := good_cause g (.inr hk)
 have l_text : c.text.length = 0 := by rw [e_text]; rfl
 have l_rand : c.rand.length = 0 := by rw [e_rand]; rfl
 have l_addrs : c.addrs.length = 0 := by rw [e_addrs]; rfl
 have l_info : c.info.length = 0 := by rw [e_info]; rfl
 have l_gaps : c.gaps.length = 0 := by rw [e_gaps]; rfl
 have l_dups : c.dups.length = 0 := by rw [e_dups]; rfl
 have l_ops : c.ops.length = 0 := by rw [e_ops]; rfl
 exact ⟨g.kn, (by omega), (by omega), (by omega), fun _ => ⟨e_ptsn, e_pstr, e_pseq, e_pb, e_pe, e_pu, l_text⟩, (by omega), (by omega), (by rw [e_addrs]; rfl), (by omega), (by omega), (by omega), (by omega), (by omega), (by omega), fun _ => ⟨l_gaps, l_dups⟩, (by omega), (by rw [e_gaps]; rfl), (by omega), (by omega), (by omega), (by rw [e_ok]; intro h; cases h), (by rw [e_ops]; rfl)⟩
theorem yes_good_9 {c : Ck} (hk : c.kind = 9) (y : Yes c) : GoodC c := by
 obtain ⟨y1, y2, y3, y4, y5, y6, y7, y8, y9, y10, y11, y12, y13, y14, y15, y16, y17, y18, y19, y20, y21, y22⟩ := y
 obtain ⟨e_ptsn, e_pstr, e_pseq, e_pb, e_pe, e_pu, l_text⟩ := y5 (by omega)
 obtain ⟨e_tag, e_out, e_inn, l_rand, l_addrs⟩ := y7 (by omega)
 have e_win : c.win = 0 := by omega
 have e_tsn : c.tsn = 0 := by omega
 have l_info : c.info.length = 0 := y14 (by omega) (by omega)
 obtain ⟨l_gaps, l_dups⟩ := y15 (by omega)
 have e_serial : c.serial = 0 := by omega
 have l_ops : c.ops.length = 0 := y19 (by omega)
 have e_ok : c.ok = false := by cases h : c.ok with | true => have := y21 h; omega | false => rfl
 have e_text : c.text = [] := List.length_eq_zero_iff.1 l_text
 have e_rand : c.rand = [] := List.length_eq_zero_iff.1 l_rand
 have e_addrs : c.addrs = [] := List.length_eq_zero_iff.1 l_addrs
 have e_info : c.info = [] := List.length_eq_zero_iff.1 l_info
 have e_gaps : c.gaps = [] := List.length_eq_zero_iff.1 l_gaps
 have e_dups : c.dups = [] := List.length_eq_zero_iff.1 l_dups
 have e_ops : c.ops = [] := List.length_eq_zero_iff.1 l_ops
 refine ⟨y1, by simp only [fitsB, hk, Int.reduceEq, if_false, if_true, or_self, inB_iff, true_or, or_true];  omega, ?_⟩
 rw [show usedC c = _ from usedC_9 hk]
 clear y1 y2 y3 y4 y5 y6 y7 y8 y9 y10 y11 y12 y13 y14 y15 y16 y17 y18 y19 y20 y21 y22
 cases c
 simp only at *
 subst hk e_ptsn e_pstr e_pseq e_pb e_pe e_pu e_text e_tag e_win e_out e_inn e_tsn e_rand e_addrs e_info e_gaps e_dups e_serial e_ops e_ok
 rfl
theorem good_yes_10 {c : Ck} (hk : c.kind = 10) (g : GoodC c) : Yes c := by
 have hu := g.use
 rw [show usedC c = _ from usedC_10 hk] at hu
 have e_ptsn : c.ptsn = 0 := congrArg Ck.ptsn hu
 have e_pstr : c.pstr = 0 := congrArg Ck.pstr hu
 have e_pseq : c.pseq = 0 := congrArg Ck.pseq hu
 have e_pb : c.pb = false := congrArg Ck.pb hu
 have e_pe : c.pe = false := congrArg Ck.pe hu
 have e_pu : c.pu = false := congrArg Ck.pu hu
 have e_text : c.text = [] := congrArg Ck.text hu
 have e_tag : c.tag = 0 := congrArg Ck.tag hu
 have e_win : c.win = 0 := congrArg Ck.win hu
 have e_out : c.out = 0 := congrArg Ck.out hu
 have e_inn : c.inn = 0 := congrArg Ck.inn hu
 have e_tsn : c.tsn = 0 := congrArg Ck.tsn hu
 have e_rand : c.rand = [] := congrArg Ck.rand hu
 have e_addrs : c.addrs = [] := congrArg Ck.addrs hu
 have e_gaps : c.gaps = [] := congrArg Ck.gaps hu
 have e_dups : c.dups = [] := congrArg Ck.dups hu
 have e_cause : c.cause = 0 := congrArg Ck.cause hu
 have e_serial : c.serial = 0 := congrArg Ck.serial hu
 have e_ops : c.ops = [] := congrArg Ck.ops hu
 have e_ok : c.ok = false := congrArg Ck.ok hu
 clear hu
 have hf := good_info g (.inr (.inr hk))
 have l_text : c.text.length = 0 := by rw [e_text]; rfl
 have l_rand : c.rand.length = 0 := by rw [e_rand]; rfl
 have l_addrs : c.addrs.length = 0 := by rw [e_addrs]; rfl
 have l_gaps : c.gaps.length = 0 := by rw [e_gaps]; rfl
 have l_dups : c.dups.length = 0 := by rw [e_dups]; rfl
 have l_ops : c.ops.length = 0 := by rw [e_ops]; rfl
 exact ⟨g.kn, (by omega), (by omega), (by omega), fun _ => ⟨e_ptsn, e_pstr, e_pseq, e_pb, e_pe, e_pu, l_text⟩, (by omega), (by omega), (by rw [e_addrs]; rfl), (by omega), (by omega), (by omega), (by omega), (by omega), (by omega), fun _ => ⟨l_gaps, l_dups⟩, (by omega), (by rw [e_gaps]; rfl), (by omega), (by omega), (by omega), (by rw [e_ok]; intro h; cases h), (by rw [e_ops]; rfl)⟩
theorem yes_good_10 {c : Ck} (hk : c.kind = 10) (y : Yes c) : GoodC c := by
 obtain ⟨y1, y2, y3, y4, y5, y6, y7, y8, y9, y10, y11, y12, y13, y14, y15, y16, y17, y18, y19, y20, y21, y22⟩ := y
 obtain ⟨e_ptsn, e_pstr, e_pseq, e_pb, e_pe, e_pu, l_text⟩ := y5 (by omega)
 obtain ⟨e_tag, e_out, e_inn, l_rand, l_addrs⟩ := y7 (by omega)
 have e_win : c.win = 0 := by omega
 have e_tsn : c.tsn = 0 := by omega
 obtain ⟨l_gaps, l_dups⟩ := y15 (by omega)
 have e_cause : c.cause = 0 := by omega
 have e_serial : c.serial = 0 := by omega
 have l_ops : c.ops.length = 0 := y19 (by omega)
 have e_ok : c.ok = false := by cases h : c.ok with | true => have := y21 h; omega | false => rfl
 have e_text : c.text = [] := List.length_eq_zero_iff.1 l_text
 have e_rand : c.rand = [] := List.length_eq_zero_iff.1 l_rand
 have e_addrs : c.addrs = [] := List.length_eq_zero_iff.1 l_addrs
 have e_gaps : c.gaps = [] := List.length_eq_zero_iff.1 l_gaps
 have e_dups : c.dups = [] := List.length_eq_zero_iff.1 l_dups
 have e_ops : c.ops = [] := List.length_eq_zero_iff.1 l_ops
 refine ⟨y1, by have := y12 (by omega);  simp only [fitsB, hk, Int.reduceEq, if_false, if_true, inB_iff, true_or, or_true];  omega, ?_⟩
 rw [show usedC c = _ from usedC_10 hk]
 clear y1 y2 y3 y4 y5 y6 y7 y8 y9 y10 y11 y12 y13 y14 y15 y16 y17 y18 y19 y20 y21 y22
 cases c
 simp only at *
 subst hk e_ptsn e_pstr e_pseq e_pb e_pe e_pu e_text e_tag e_win e_out e_inn e_tsn e_rand e_addrs e_gaps e_dups e_cause e_serial e_ops e_ok
 rfl
theorem good_yes_11 {c : Ck} (hk : c.kind = 11) (g : GoodC c) : Yes c := by
 have hu := g.use
 rw [show usedC c = _ from by simp only [usedC, hk, reduceIte, Int.reduceEq]; rfl] at hu
 have e_ptsn : c.ptsn = 0 := congrArg Ck.ptsn hu
 have e_pstr : c.pstr = 0 := congrArg Ck.pstr hu
 have e_pseq : c.pseq = 0 := congrArg Ck.pseq hu
 have e_pb : c.pb = false := congrArg Ck.pb hu
 have e_pe : c.pe = false := congrArg Ck.pe hu
 have e_pu : c.pu = false := congrArg Ck.pu hu
 have e_text : c.text = [] := congrArg Ck.text hu
 have e_tag : c.tag = 0 := congrArg Ck.tag hu
 have e_win : c.win = 0 := congrArg Ck.win hu
 have e_out : c.out = 0 := congrArg Ck.out hu
 have e_inn : c.inn = 0 := congrArg Ck.inn hu
 have e_tsn : c.tsn = 0 := congrArg Ck.tsn hu
 have e_rand : c.rand = [] := congrArg Ck.rand hu
 have e_addrs : c.addrs = [] := congrArg Ck.addrs hu
 have e_info : c.info = [] := congrArg Ck.info hu
 have e_gaps : c.gaps = [] := congrArg Ck.gaps hu
 have e_dups : c.dups = [] := congrArg Ck.dups hu
 have e_cause : c.cause = 0 := congrArg Ck.cause hu
 have e_serial : c.serial = 0 := congrArg Ck.serial hu
 have e_ops : c.ops = [] := congrArg Ck.ops hu
 have e_ok : c.ok = false := congrArg Ck.ok hu
 clear hu
 have l_text : c.text.length = 0 := by rw [e_text]; rfl
 have l_rand : c.rand.length = 0 := by rw [e_rand]; rfl
 have l_addrs : c.addrs.length = 0 := by rw [e_addrs]; rfl
 have l_info : c.info.length = 0 := by rw [e_info]; rfl
 have l_gaps : c.gaps.length = 0 := by rw [e_gaps]; rfl
 have l_dups : c.dups.length = 0 := by rw [e_dups]; rfl
 have l_ops : c.ops.length = 0 := by rw [e_ops]; rfl
 exact ⟨g.kn, (by omega), (by omega), (by omega), fun _ => ⟨e_ptsn, e_pstr, e_pseq, e_pb, e_pe, e_pu, l_text⟩, (by omega), (by omega), (by rw [e_addrs]; rfl), (by omega), (by omega), (by omega), (by omega), (by omega), (by omega), fun _ => ⟨l_gaps, l_dups⟩, (by omega), (by rw [e_gaps]; rfl), (by omega), (by omega), (by omega), (by rw [e_ok]; intro h; cases h), (by rw [e_ops]; rfl)⟩
theorem yes_good_11 {c : Ck} (hk : c.kind = 11) (y : Yes c) : GoodC c := by
 obtain ⟨y1, y2, y3, y4, y5, y6, y7, y8, y9, y10, y11, y12, y13, y14, y15, y16, y17, y18, y19, y20, y21, y22⟩ := y
 obtain ⟨e_ptsn, e_pstr, e_pseq, e_pb, e_pe, e_pu, l_text⟩ := y5 (by omega)
 obtain ⟨e_tag, e_out, e_inn, l_rand, l_addrs⟩ := y7 (by omega)
 have e_win : c.win = 0 := by omega
 have e_tsn : c.tsn = 0 := by omega
 have l_info : c.info.length = 0 := y14 (by omega) (by omega)
 obtain ⟨l_gaps, l_dups⟩ := y15 (by omega)
 have e_cause : c.cause = 0 := by omega
 have e_serial : c.serial = 0 := by omega
 have l_ops : c.ops.length = 0 := y19 (by omega)
 have e_ok : c.ok = false := by cases h : c.ok with | true => have := y21 h; omega | false => rfl
 have e_text : c.text = [] := List.length_eq_zero_iff.1 l_text
 have e_rand : c.rand = [] := List.length_eq_zero_iff.1 l_rand
 have e_addrs : c.addrs = [] := List.length_eq_zero_iff.1 l_addrs
 have e_info : c.info = [] := List.length_eq_zero_iff.1 l_info
 have e_gaps : c.gaps = [] := List.length_eq_zero_iff.1 l_gaps
 have e_dups : c.dups = [] := List.length_eq_zero_iff.1 l_dups
 have e_ops : c.ops = [] := List.length_eq_zero_iff.1 l_ops
 refine ⟨y1, by simp only [fitsB, hk, Int.reduceEq, if_false, or_self], ?_⟩
 rw [show usedC c = _ from by simp only [usedC, hk, reduceIte, Int.reduceEq]; rfl]
 clear y1 y2 y3 y4 y5 y6 y7 y8 y9 y10 y11 y12 y13 y14 y15 y16 y17 y18 y19 y20 y21 y22
 cases c
 simp only at *
 subst hk e_ptsn e_pstr e_pseq e_pb e_pe e_pu e_text e_tag e_win e_out e_inn e_tsn e_rand e_addrs e_info e_gaps e_dups e_cause e_serial e_ops e_ok
 rfl
theorem good_yes_14 {c : Ck} (hk : c.kind = 14) (g : GoodC c) : Yes c := by
 have hu := g.use
 rw [show usedC c = _ from by simp only [usedC, hk, reduceIte, Int.reduceEq]; rfl] at hu
 have e_ptsn : c.ptsn = 0 := congrArg Ck.ptsn hu
 have e_pstr : c.pstr = 0 := congrArg Ck.pstr hu
 have e_pseq : c.pseq = 0 := congrArg Ck.pseq hu
 have e_pb : c.pb = false := congrArg Ck.pb hu
 have e_pe : c.pe = false := congrArg Ck.pe hu
 have e_pu : c.pu = false := congrArg Ck.pu hu
 have e_text : c.text = [] := congrArg Ck.text hu
 have e_tag : c.tag = 0 := congrArg Ck.tag hu
 have e_win : c.win = 0 := congrArg Ck.win hu
 have e_out : c.out = 0 := congrArg Ck.out hu
 have e_inn : c.inn = 0 := congrArg Ck.inn hu
 have e_tsn : c.tsn = 0 := congrArg Ck.tsn hu
 have e_rand : c.rand = [] := congrArg Ck.rand hu
 have e_addrs : c.addrs = [] := congrArg Ck.addrs hu
 have e_info : c.info = [] := congrArg Ck.info hu
 have e_gaps : c.gaps = [] := congrArg Ck.gaps hu
 have e_dups : c.dups = [] := congrArg Ck.dups hu
 have e_cause : c.cause = 0 := congrArg Ck.cause hu
 have e_serial : c.serial = 0 := congrArg Ck.serial hu
 have e_ops : c.ops = [] := congrArg Ck.ops hu
 have e_ok : c.ok = false := congrArg Ck.ok hu
 clear hu
 have l_text : c.text.length = 0 := by rw [e_text]; rfl
 have l_rand : c.rand.length = 0 := by rw [e_rand]; rfl
 have l_addrs : c.addrs.length = 0 := by rw [e_addrs]; rfl
 have l_info : c.info.length = 0 := by rw [e_info]; rfl
 have l_gaps : c.gaps.length = 0 := by rw [e_gaps]; rfl
 have l_dups : c.dups.length = 0 := by rw [e_dups]; rfl
 have l_ops : c.ops.length = 0 := by rw [e_ops]; rfl
 exact ⟨g.kn, (by omega), (by omega), (by omega), fun _ => ⟨e_ptsn, e_pstr, e_pseq, e_pb, e_pe, e_pu, l_text⟩, (by omega), (by omega), (by rw [e_addrs]; rfl), (by omega), (by omega), (by omega), (by omega), (by omega), (by omega), fun _ => ⟨l_gaps, l_dups⟩, (by omega), (by rw [e_gaps]; rfl), (by omega), (by omega), (by omega), (by rw [e_ok]; intro h; cases h), (by rw [e_ops]; rfl)⟩
theorem yes_good_14 {c : Ck} (hk : c.kind = 14) (y : Yes c) : GoodC c := by
 obtain ⟨y1, y2, y3, y4, y5, y6, y7, y8, y9, y10, y11, y12, y13, y14, y15, y16, y17, y18, y19, y20, y21, y22⟩ := y
 obtain ⟨e_ptsn, e_pstr, e_pseq, e_pb, e_pe, e_pu, l_text⟩ := y5 (by omega)
 obtain ⟨e_tag, e_out, e_inn, l_rand, l_addrs⟩ := y7 (by omega)
 have e_win : c.win = 0 := by omega
 have e_tsn : c.tsn = 0 := by omega
 have l_info : c.info.length = 0 := y14 (by omega) (by omega)
 obtain ⟨l_gaps, l_dups⟩ := y15 (by omega)
 have e_cause : c.cause = 0 := by omega
 have e_serial : c.serial = 0 := by omega
 have l_ops : c.ops.length = 0 := y19 (by omega)
 have e_ok : c.ok = false := by cases h : c.ok with | true => have := y21 h; omega | false => rfl
 have e_text : c.text = [] := List.length_eq_zero_iff.1 l_text
 have e_rand : c.rand = [] := List.length_eq_zero_iff.1 l_rand
 have e_addrs : c.addrs = [] := List.length_eq_zero_iff.1 l_addrs
 have e_info : c.info = [] := List.length_eq_zero_iff.1 l_info
 have e_gaps : c.gaps = [] := List.length_eq_zero_iff.1 l_gaps
 have e_dups : c.dups = [] := List.length_eq_zero_iff.1 l_dups
 have e_ops : c.ops = [] := List.length_eq_zero_iff.1 l_ops
 refine ⟨y1, by simp only [fitsB, hk, Int.reduceEq, if_false, or_self], ?_⟩
 rw [show usedC c = _ from by simp only [usedC, hk, reduceIte, Int.reduceEq]; rfl]
 clear y1 y2 y3 y4 y5 y6 y7 y8 y9 y10 y11 y12 y13 y14 y15 y16 y17 y18 y19 y20 y21 y22
 cases c
 simp only at *
 subst hk e_ptsn e_pstr e_pseq e_pb e_pe e_pu e_text e_tag e_win e_out e_inn e_tsn e_rand e_addrs e_info e_gaps e_dups e_cause e_serial e_ops e_ok
 rfl
theorem good_yes_15 {c : Ck} (hk : c.kind = 15) (g : GoodC c) : Yes c := by
 have hu := g.use
 rw [show usedC c = _ from usedC_15 hk] at hu
 have e_ptsn : c.ptsn = 0 := congrArg Ck.ptsn hu
 have e_pstr : c.pstr = 0 := congrArg Ck.pstr hu
 have e_pseq : c.pseq = 0 := congrArg Ck.pseq hu
 have e_pb : c.pb = false := congrArg Ck.pb hu
 have e_pe : c.pe = false := congrArg Ck.pe hu
 have e_pu : c.pu = false := congrArg Ck.pu hu
 have e_text : c.text = [] := congrArg Ck.text hu
 have e_tag : c.tag = 0 := congrArg Ck.tag hu
 have e_win : c.win = 0 := congrArg Ck.win hu
 have e_out : c.out = 0 := congrArg Ck.out hu
 have e_inn : c.inn = 0 := congrArg Ck.inn hu
 have e_tsn : c.tsn = 0 := congrArg Ck.tsn hu
 have e_rand : c.rand = [] := congrArg Ck.rand hu
 have e_addrs : c.addrs = [] := congrArg Ck.addrs hu
 have e_gaps : c.gaps = [] := congrArg Ck.gaps hu
 have e_dups : c.dups = [] := congrArg Ck.dups hu
 have e_cause : c.cause = 0 := congrArg Ck.cause hu
 have e_serial : c.serial = 0 := congrArg Ck.serial hu
 have e_ops : c.ops = [] := congrArg Ck.ops hu
 have e_ok : c.ok = false := congrArg Ck.ok hu
 clear hu
 have hf := good_15 g hk
 have l_text : c.text.length = 0 := by rw [e_text]; rfl
 have l_rand : c.rand.length = 0 := by rw [e_rand]; rfl
 have l_addrs : c.addrs.length = 0 := by rw [e_addrs]; rfl
 have l_gaps : c.gaps.length = 0 := by rw [e_gaps]; rfl
 have l_dups : c.dups.length = 0 := by rw [e_dups]; rfl
 have l_ops : c.ops.length = 0 := by rw [e_ops]; rfl
 exact ⟨g.kn, (by omega), (by omega), (by omega), fun _ => ⟨e_ptsn, e_pstr, e_pseq, e_pb, e_pe, e_pu, l_text⟩, (by omega), (by omega), (by rw [e_addrs]; rfl), (by omega), (by omega), (by omega), (by omega), (by omega), (by omega), fun _ => ⟨l_gaps, l_dups⟩, (by omega), (by rw [e_gaps]; rfl), (by omega), (by omega), (by omega), (by rw [e_ok]; intro h; cases h), (by rw [e_ops]; rfl)⟩
theorem yes_good_15 {c : Ck} (hk : c.kind = 15) (y : Yes c) : GoodC c := by
 obtain ⟨y1, y2, y3, y4, y5, y6, y7, y8, y9, y10, y11, y12, y13, y14, y15, y16, y17, y18, y19, y20, y21, y22⟩ := y
 obtain ⟨e_ptsn, e_pstr, e_pseq, e_pb, e_pe, e_pu, l_text⟩ := y5 (by omega)
 obtain ⟨e_tag, e_out, e_inn, l_rand, l_addrs⟩ := y7 (by omega)
 have e_win : c.win = 0 := by omega
 have e_tsn : c.tsn = 0 := by omega
 obtain ⟨l_gaps, l_dups⟩ := y15 (by omega)
 have e_cause : c.cause = 0 := by omega
 have e_serial : c.serial = 0 := by omega
 have l_ops : c.ops.length = 0 := y19 (by omega)
 have e_ok : c.ok = false := by cases h : c.ok with | true => have := y21 h; omega | false => rfl
 have e_text : c.text = [] := List.length_eq_zero_iff.1 l_text
 have e_rand : c.rand = [] := List.length_eq_zero_iff.1 l_rand
 have e_addrs : c.addrs = [] := List.length_eq_zero_iff.1 l_addrs
 have e_gaps : c.gaps = [] := List.length_eq_zero_iff.1 l_gaps
 have e_dups : c.dups = [] := List.length_eq_zero_iff.1 l_dups
 have e_ops : c.ops = [] := List.length_eq_zero_iff.1 l_ops
 refine ⟨y1, by have := y13 hk;  simp only [fitsB, hk, Int.reduceEq, if_false, if_true, or_self, beq_iff_eq];  omega, ?_⟩
 rw [show usedC c = _ from usedC_15 hk]
 clear y1 y2 y3 y4 y5 y6 y7 y8 y9 y10 y11 y12 y13 y14 y15 y16 y17 y18 y19 y20 y21 y22
 cases c
 simp only at *
 subst hk e_ptsn e_pstr e_pseq e_pb e_pe e_pu e_text e_tag e_win e_out e_inn e_tsn e_rand e_addrs e_gaps e_dups e_cause e_serial e_ops e_ok
 rfl
theorem good_yes_128 {c : Ck} (hk : c.kind = 128) (g : GoodC c) : Yes c := by
 have hu := g.use
 rw [show usedC c = _ from usedC_128 hk] at hu
 have e_ptsn : c.ptsn = 0 := congrArg Ck.ptsn hu
 have e_pstr : c.pstr = 0 := congrArg Ck.pstr hu
 have e_pseq : c.pseq = 0 := congrArg Ck.pseq hu
 have e_pb : c.pb = false := congrArg Ck.pb hu
 have e_pe : c.pe = false := congrArg Ck.pe hu
 have e_pu : c.pu = false := congrArg Ck.pu hu
 have e_text : c.text = [] := congrArg Ck.text hu
 have e_tag : c.tag = 0 := congrArg Ck.tag hu
 have e_win : c.win = 0 := congrArg Ck.win hu
 have e_out : c.out = 0 := congrArg Ck.out hu
 have e_inn : c.inn = 0 := congrArg Ck.inn hu
 have e_tsn : c.tsn = 0 := congrArg Ck.tsn hu
 have e_rand : c.rand = [] := congrArg Ck.rand hu
 have e_addrs : c.addrs = [] := congrArg Ck.addrs hu
 have e_info : c.info = [] := congrArg Ck.info hu
 have e_gaps : c.gaps = [] := congrArg Ck.gaps hu
 have e_dups : c.dups = [] := congrArg Ck.dups hu
 have e_cause : c.cause = 0 := congrArg Ck.cause hu
 have e_ops : c.ops = [] := congrArg Ck.ops hu
 clear hu
 have l_text : c.text.length = 0 := by rw [e_text]; rfl
 have l_rand : c.rand.length = 0 := by rw [e_rand]; rfl
 have l_addrs : c.addrs.length = 0 := by rw [e_addrs]; rfl
 have l_info : c.info.length = 0 := by rw [e_info]; rfl
 have l_gaps : c.gaps.length = 0 := by rw [e_gaps]; rfl
 have l_dups : c.dups.length = 0 := by rw [e_dups]; rfl
 have l_ops : c.ops.length = 0 := by rw [e_ops]; rfl
 exact ⟨g.kn, (by omega), (by omega), (by omega), fun _ => ⟨e_ptsn, e_pstr, e_pseq, e_pb, e_pe, e_pu, l_text⟩, (by omega), (by omega), (by rw [e_addrs]; rfl), (by omega), (by omega), (by omega), (by omega), (by omega), (by omega), fun _ => ⟨l_gaps, l_dups⟩, (by omega), (by rw [e_gaps]; rfl), (by omega), (by omega), (by omega), fun _ => hk, (by rw [e_ops]; rfl)⟩
theorem yes_good_128 {c : Ck} (hk : c.kind = 128) (y : Yes c) : GoodC c := by
 obtain ⟨y1, y2, y3, y4, y5, y6, y7, y8, y9, y10, y11, y12, y13, y14, y15, y16, y17, y18, y19, y20, y21, y22⟩ := y
 obtain ⟨e_ptsn, e_pstr, e_pseq, e_pb, e_pe, e_pu, l_text⟩ := y5 (by omega)
 obtain ⟨e_tag, e_out, e_inn, l_rand, l_addrs⟩ := y7 (by omega)
 have e_win : c.win = 0 := by omega
 have e_tsn : c.tsn = 0 := by omega
 have l_info : c.info.length = 0 := y14 (by omega) (by omega)
 obtain ⟨l_gaps, l_dups⟩ := y15 (by omega)
 have e_cause : c.cause = 0 := by omega
 have l_ops : c.ops.length = 0 := y19 (by omega)
 have e_text : c.text = [] := List.length_eq_zero_iff.1 l_text
 have e_rand : c.rand = [] := List.length_eq_zero_iff.1 l_rand
 have e_addrs : c.addrs = [] := List.length_eq_zero_iff.1 l_addrs
 have e_info : c.info = [] := List.length_eq_zero_iff.1 l_info
 have e_gaps : c.gaps = [] := List.length_eq_zero_iff.1 l_gaps
 have e_dups : c.dups = [] := List.length_eq_zero_iff.1 l_dups
 have e_ops : c.ops = [] := List.length_eq_zero_iff.1 l_ops
 refine ⟨y1, by simp only [fitsB, hk, Int.reduceEq, if_false, or_self], ?_⟩
 rw [show usedC c = _ from usedC_128 hk]
 clear y1 y2 y3 y4 y5 y6 y7 y8 y9 y10 y11 y12 y13 y14 y15 y16 y17 y18 y19 y20 y21 y22
 cases c
 simp only at *
 subst hk e_ptsn e_pstr e_pseq e_pb e_pe e_pu e_text e_tag e_win e_out e_inn e_tsn e_rand e_addrs e_info e_gaps e_dups e_cause e_ops
 rfl
theorem good_yes_193 {c : Ck} (hk : c.kind = 193) (g : GoodC c) : Yes c := by
 have hu := g.use
 rw [show usedC c = _ from usedC_193 hk] at hu
 have e_ptsn : c.ptsn = 0 := congrArg Ck.ptsn hu
 have e_pstr : c.pstr = 0 := congrArg Ck.pstr hu
 have e_pseq : c.pseq = 0 := congrArg Ck.pseq hu
 have e_pb : c.pb = false := congrArg Ck.pb hu
 have e_pe : c.pe = false := congrArg Ck.pe hu
 have e_pu : c.pu = false := congrArg Ck.pu hu
 have e_text : c.text = [] := congrArg Ck.text hu
 have e_tag : c.tag = 0 := congrArg Ck.tag hu
 have e_win : c.win = 0 := congrArg Ck.win hu
 have e_out : c.out = 0 := congrArg Ck.out hu
 have e_inn : c.inn = 0 := congrArg Ck.inn hu
 have e_tsn : c.tsn = 0 := congrArg Ck.tsn hu
 have e_rand : c.rand = [] := congrArg Ck.rand hu
 have e_addrs : c.addrs = [] := congrArg Ck.addrs hu
 have e_info : c.info = [] := congrArg Ck.info hu
 have e_gaps : c.gaps = [] := congrArg Ck.gaps hu
 have e_dups : c.dups = [] := congrArg Ck.dups hu
 have e_cause : c.cause = 0 := congrArg Ck.cause hu
 have e_ok : c.ok = false := congrArg Ck.ok hu
 clear hu
 have hf := good_193 g hk
 obtain ⟨f1, f2⟩ := hf
 have l_text : c.text.length = 0 := by rw [e_text]; rfl
 have l_rand : c.rand.length = 0 := by rw [e_rand]; rfl
 have l_addrs : c.addrs.length = 0 := by rw [e_addrs]; rfl
 have l_info : c.info.length = 0 := by rw [e_info]; rfl
 have l_gaps : c.gaps.length = 0 := by rw [e_gaps]; rfl
 have l_dups : c.dups.length = 0 := by rw [e_dups]; rfl
 exact ⟨g.kn, (by omega), (by omega), (by omega), fun _ => ⟨e_ptsn, e_pstr, e_pseq, e_pb, e_pe, e_pu, l_text⟩, (by omega), (by omega), (by rw [e_addrs]; rfl), (by omega), (by omega), (by omega), (by omega), (by omega), (by omega), fun _ => ⟨l_gaps, l_dups⟩, (by omega), (by rw [e_gaps]; rfl), (by omega), (by omega), (by omega), (by rw [e_ok]; intro h; cases h), f2⟩
theorem yes_good_193 {c : Ck} (hk : c.kind = 193) (y : Yes c) : GoodC c := by
 obtain ⟨y1, y2, y3, y4, y5, y6, y7, y8, y9, y10, y11, y12, y13, y14, y15, y16, y17, y18, y19, y20, y21, y22⟩ := y
 obtain ⟨e_ptsn, e_pstr, e_pseq, e_pb, e_pe, e_pu, l_text⟩ := y5 (by omega)
 obtain ⟨e_tag, e_out, e_inn, l_rand, l_addrs⟩ := y7 (by omega)
 have e_win : c.win = 0 := by omega
 have e_tsn : c.tsn = 0 := by omega
 have l_info : c.info.length = 0 := y14 (by omega) (by omega)
 obtain ⟨l_gaps, l_dups⟩ := y15 (by omega)
 have e_cause : c.cause = 0 := by omega
 have e_ok : c.ok = false := by cases h : c.ok with | true => have := y21 h; omega | false => rfl
 have e_text : c.text = [] := List.length_eq_zero_iff.1 l_text
 have e_rand : c.rand = [] := List.length_eq_zero_iff.1 l_rand
 have e_addrs : c.addrs = [] := List.length_eq_zero_iff.1 l_addrs
 have e_info : c.info = [] := List.length_eq_zero_iff.1 l_info
 have e_gaps : c.gaps = [] := List.length_eq_zero_iff.1 l_gaps
 have e_dups : c.dups = [] := List.length_eq_zero_iff.1 l_dups
 refine ⟨y1, by have := y18 hk;  simp only [fitsB, hk, Int.reduceEq, if_false, if_true, or_self, Bool.and_eq_true, inB_iff];  exact ⟨by omega, y22⟩, ?_⟩
 rw [show usedC c = _ from usedC_193 hk]
 clear y1 y2 y3 y4 y5 y6 y7 y8 y9 y10 y11 y12 y13 y14 y15 y16 y17 y18 y19 y20 y21 y22
 cases c
 simp only at *
 subst hk e_ptsn e_pstr e_pseq e_pb e_pe e_pu e_text e_tag e_win e_out e_inn e_tsn e_rand e_addrs e_info e_gaps e_dups e_cause e_ok
 rfl
theorem yes_iff (c : Ck) : Yes c ↔ GoodC c := by
 constructor
 ·
  intro y
  rcases knB_cases y.kn with h | h | h | h | h | h | h | h | h | h | h | h | h | h | h | h
  ·
   exact yes_good_0 h y
  ·
   exact yes_good_1 h y
  ·
   exact yes_good_2 h y
  ·
   exact yes_good_3 h y
  ·
   exact yes_good_4 h y
  ·
   exact yes_good_5 h y
  ·
   exact yes_good_6 h y
  ·
   exact yes_good_7 h y
  ·
   exact yes_good_8 h y
  ·
   exact yes_good_9 h y
  ·
   exact yes_good_10 h y
  ·
   exact yes_good_11 h y
  ·
   exact yes_good_14 h y
  ·
   exact yes_good_15 h y
  ·
   exact yes_good_128 h y
  ·
   exact yes_good_193 h y
 ·
  intro g
  rcases knB_cases g.kn with h | h | h | h | h | h | h | h | h | h | h | h | h | h | h | h
  ·
   exact good_yes_0 h g
  ·
   exact good_yes_1 h g
  ·
   exact good_yes_2 h g
  ·
   exact good_yes_3 h g
  ·
   exact good_yes_4 h g
  ·
   exact good_yes_5 h g
  ·
   exact good_yes_6 h g
  ·
   exact good_yes_7 h g
  ·
   exact good_yes_8 h g
  ·
   exact good_yes_9 h g
  ·
   exact good_yes_10 h g
  ·
   exact good_yes_11 h g
  ·
   exact good_yes_14 h g
  ·
   exact good_yes_15 h g
  ·
   exact good_yes_128 h g
  ·
   exact good_yes_193 h g
end Tlv
end Go.Proofs.Ytbahelhohkhkmaa
