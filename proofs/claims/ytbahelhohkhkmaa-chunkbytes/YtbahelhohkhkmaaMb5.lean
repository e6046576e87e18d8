/- Texts of the seat, one behind the other. No condition of its own. -/
import Derived.Test.YtbahelhohkhkmaaMb4
set_option linter.unusedVariables false
set_option linter.unusedSimpArgs false
/- Whether what a chunk's kind uses is within its bounds. No condition of its own. -/
namespace Go.Proofs.Ytbahelhohkhkmaa
namespace Tlv
open Go Go.RowKit
set_option maxRecDepth 100000
abbrev st_0 (c : Ck) : Bool := ((((c.tag : Int) : Int) != (0 : Int)) && ((inB c.win 0 2147483647)))
abbrev st_1 (c : Ck) : Bool := ((st_0 c) && ((inB (c.out) (1) (8))))
abbrev st_2 (c : Ck) : Bool := ((st_1 c) && ((inB (c.inn) (1) (8))))
abbrev st_3 (c : Ck) : Bool := ((st_2 c) && ((inB ((c.rand.length : Int)) (1) (64))))
abbrev st_4 (c : Ck) : Bool := ((st_3 c) && ((inB (c.addrs.length : Int) 1 4 && adsB c.addrs)))
def startB (c : Ck) : Bool := ((((((((c.tag : Int) : Int) != (0 : Int)) && ((inB c.win 0 2147483647))) && ((inB (c.out) (1) (8)))) && ((inB (c.inn) (1) (8)))) && ((inB ((c.rand.length : Int)) (1) (64)))) && ((inB (c.addrs.length : Int) 1 4 && adsB c.addrs)))
set_option maxHeartbeats 4000000 in
theorem startFits_any {w : World} {c : Ck} {s : Sv} (ha : CkAt w s c) :
  Calls Try.prog 70 #[.agg (CV c s)] w fun e w' => e = .returned (.bool (startB c)) ∧ Ext w w' := by
 have hrl : s.rN = c.rand.length := (bytes_len ha.r).1
 unfold startB
 go_enter Try.func70, Try.ntmps70
 refine wp_seq_k (fun K hK => ?_)
 have HK := Stop.mk hK
 clear hK
 go_wp2_with (first
  | (refine wl_box (C := CV c s) rfl rfl rfl ?_; intro w1 hb1 he1 hx; clear hx))
 refine HK.go _ _ ?_
 refine wp_seq_k (fun K2 hK2 => ?_)
 have HA := ha.ext he1
 refine wp_line (fun t => bif Nat.ble 3 t && Nat.ble t 30 then some (t - 3) else bif Nat.beq t 2 then some 28 else none) 31 Ext
  [Is (.pointer (some ⟨w.heap.size, 8, none⟩)),
   Is (.int .u32 (c.tag : Int)),
   Is (.bool (((c.tag : Int) : Int) != (0 : Int))),
   Is (.bool (((c.tag : Int) : Int) != (0 : Int))),
   Under (((((c.tag : Int) : Int) != (0 : Int)))) (.agg (CV c s)),
   Under (((((c.tag : Int) : Int) != (0 : Int)))) (.bool (inB c.win 0 2147483647)),
   Is (.bool (st_0 c)),
   Is (.bool (st_0 c)),
   Under (((st_0 c))) (.pointer (some ⟨w.heap.size, 10, none⟩)),
   Under (((st_0 c))) (.int .i64 c.out),
   Under (((st_0 c))) (.bool (inB (c.out) (1) (8))),
   Is (.bool (st_1 c)),
   Is (.bool (st_1 c)),
   Under (((st_1 c))) (.pointer (some ⟨w.heap.size, 11, none⟩)),
   Under (((st_1 c))) (.int .i64 c.inn),
   Under (((st_1 c))) (.bool (inB (c.inn) (1) (8))),
   Is (.bool (st_2 c)),
   Is (.bool (st_2 c)),
   Under (((st_2 c))) (.pointer (some ⟨w.heap.size, 13, none⟩)),
   Under (((st_2 c))) (.slice s.rA s.rN s.rC),
   Under (((st_2 c))) (.int .i64 (c.rand.length : Int)),
   Under (((st_2 c))) (.bool (inB ((c.rand.length : Int)) (1) (64))),
   Is (.bool (st_3 c)),
   Is (.bool (st_3 c)),
   Under (((st_3 c))) (.pointer (some ⟨w.heap.size, 14, none⟩)),
   Under (((st_3 c))) (.slice s.aA s.aN s.aC),
   Under (((st_3 c))) (.bool (inB (c.addrs.length : Int) 1 4 && adsB c.addrs)),
   Is (.bool (st_4 c)),
   Is (.bool (st_4 c))]
  rfl (by kernel_rfl) rfl Ext.refl (fun _ _ _ => Ext.trans) (Ks (Ks (Ks (Ks (Ku (Ku (Ks (Ks (Ku (Ku (Ku (Ks (Ks (Ku (Ku (Ku (Ks (Ks (Ku (Ku (Ku (Ku (Ks (Ks (Ku (Ku (Ku (Ks (Ks (KeepAll.nil)))))))))))))))))))))))))))))) ?_ ?_
 ·
  refine Gc (ln1 (gd0 rfl) rfl (ouI rfl) (fun _ _ h _ => h) (fun r wx hR h1 => by simp [execOp, h1, go_sem])) ?_
  refine Gc (ln1 (gd0 rfl) rfl (ouI rfl) (fun _ _ h _ => h) (fun r wx hR h1 => exg one22 rfl h1 (cv8 (hb1.ext hR)))) ?_
  refine Gc (ln2 (gd0 rfl) rfl (ouI rfl) (fun _ _ h _ => h) (fun _ _ h _ => h) (fun r wx hR h1 h2 => by simp [execOp, h1, h2, go_sem])) ?_
  refine Gc (ln1 (gd0 rfl) rfl (ouI rfl) (fun _ _ h _ => h) (fun r wx hR h1 => exec_mv (.inl rfl) h1)) ?_
  refine Gc (ln1 (gdU rfl (fun _ _ h => h) (want_t _)) rfl (ouU rfl) (fun _ _ h _ => h) (fun r wx hR h1 => exec_loadW rowC rfl h1 (hb1.ext hR) rfl)) ?_
  refine Gc ?_ ?_
  ·
   rintro r wx hR ⟨h1, h2, _⟩
   replace h1 : r (.func 72) = .func (.func 72) #[] #[] := h1
   replace h2 : Under (((((c.tag : Int) : Int) != (0 : Int)))) (.agg (CV c s)) wx (r (.tmp 7)) := h2
   intro gb hgb
   refine guard_u (C := ((((c.tag : Int) : Int) != (0 : Int)))) (b := (((c.tag : Int) : Int) != (0 : Int))) (want := true) hgb (want_t _) (fun hc => ?_) (fun hc => un_ hc)
   replace h2 := h2.get hc
   refine give_func #[.agg (CV c s)] rfl h1 Try.call72 (by simp [h2]) ?_
   refine (windowFits_any c s _).mono ?_
   rintro e wz ⟨rfl, hez⟩
   exact ⟨_, rfl, hez, uy hc⟩
  refine Gc (lnA (gd0 rfl) rfl (ouI rfl) (fun _ _ h _ => h) (fun _ _ h c hb => Eq.trans h (if_pos (by first | exact hb | (rw [hb]; rfl) | (rw [c, hb]; rfl))))) ?_
  refine Gc (ln1 (gd0 rfl) rfl (ouI rfl) (fun _ _ h _ => h) (fun r wx hR h1 => exec_mv (.inl rfl) h1)) ?_
  refine Gc (ln1 (gdU rfl (fun _ _ h => h) (want_t _)) rfl (ouU rfl) (fun _ _ h _ => h) (fun r wx hR h1 => by simp [execOp, h1, go_sem])) ?_
  refine Gc (ln1 (gdU rfl (fun _ _ h => h) (want_t _)) rfl (ouU rfl) (fun _ _ h c => Eq.trans h (if_pos c)) (fun r wx hR h1 => exg one3 rfl h1 (cv10 (hb1.ext hR)))) ?_
  refine Gc ?_ ?_
  ·
   rintro r wx hR ⟨h1, h2, h3, h4, _⟩
   replace h1 : r (.func 69) = .func (.func 69) #[] #[] := h1
   replace h2 : Under (((st_0 c))) (.int .i64 c.out) wx (r (.tmp 12)) := h2
   replace h3 : r (.const (.int .i64 1)) = .int .i64 1 := h3
   replace h4 : r (.const (.int .i64 8)) = .int .i64 8 := h4
   intro gb hgb
   refine guard_u (C := ((st_0 c))) (b := (st_0 c)) (want := true) hgb (want_t _) (fun hc => ?_) (fun hc => un_ hc)
   replace h2 := h2.get hc
   refine give_func #[.int .i64 c.out, .int .i64 1, .int .i64 8] rfl h1 Try.call69 (by simp [h2, h3, h4]) ?_
   refine (within_any _ _ _ _).mono ?_
   rintro e wz ⟨rfl, hez⟩
   exact ⟨_, rfl, hez, uy hc⟩
  refine Gc (lnA (gd0 rfl) rfl (ouI rfl) (fun _ _ h _ => h) (fun _ _ h c hb => Eq.trans h (if_pos (by first | exact hb | (rw [hb]; rfl) | (rw [c, hb]; rfl))))) ?_
  refine Gc (ln1 (gd0 rfl) rfl (ouI rfl) (fun _ _ h _ => h) (fun r wx hR h1 => exec_mv (.inl rfl) h1)) ?_
  refine Gc (ln1 (gdU rfl (fun _ _ h => h) (want_t _)) rfl (ouU rfl) (fun _ _ h _ => h) (fun r wx hR h1 => by simp [execOp, h1, go_sem])) ?_
  refine Gc (ln1 (gdU rfl (fun _ _ h => h) (want_t _)) rfl (ouU rfl) (fun _ _ h c => Eq.trans h (if_pos c)) (fun r wx hR h1 => exg one3 rfl h1 (cv11 (hb1.ext hR)))) ?_
  refine Gc ?_ ?_
  ·
   rintro r wx hR ⟨h1, h2, h3, h4, _⟩
   replace h1 : r (.func 69) = .func (.func 69) #[] #[] := h1
   replace h2 : Under (((st_1 c))) (.int .i64 c.inn) wx (r (.tmp 17)) := h2
   replace h3 : r (.const (.int .i64 1)) = .int .i64 1 := h3
   replace h4 : r (.const (.int .i64 8)) = .int .i64 8 := h4
   intro gb hgb
   refine guard_u (C := ((st_1 c))) (b := (st_1 c)) (want := true) hgb (want_t _) (fun hc => ?_) (fun hc => un_ hc)
   replace h2 := h2.get hc
   refine give_func #[.int .i64 c.inn, .int .i64 1, .int .i64 8] rfl h1 Try.call69 (by simp [h2, h3, h4]) ?_
   refine (within_any _ _ _ _).mono ?_
   rintro e wz ⟨rfl, hez⟩
   exact ⟨_, rfl, hez, uy hc⟩
  refine Gc (lnA (gd0 rfl) rfl (ouI rfl) (fun _ _ h _ => h) (fun _ _ h c hb => Eq.trans h (if_pos (by first | exact hb | (rw [hb]; rfl) | (rw [c, hb]; rfl))))) ?_
  refine Gc (ln1 (gd0 rfl) rfl (ouI rfl) (fun _ _ h _ => h) (fun r wx hR h1 => exec_mv (.inl rfl) h1)) ?_
  refine Gc (ln1 (gdU rfl (fun _ _ h => h) (want_t _)) rfl (ouU rfl) (fun _ _ h _ => h) (fun r wx hR h1 => by simp [execOp, h1, go_sem])) ?_
  refine Gc (ln1 (gdU rfl (fun _ _ h => h) (want_t _)) rfl (ouU rfl) (fun _ _ h c => Eq.trans h (if_pos c)) (fun r wx hR h1 => exg oneS rfl h1 (cv13 (hb1.ext hR)))) ?_
  refine Gc (ln1 (gdU rfl (fun _ _ h => h) (want_t _)) rfl (ouU rfl) (fun _ _ h c => Eq.trans h (if_pos c)) (fun r wx hR h1 => by replace h1 : r (.tmp 22) = _ := h1; simp [execOp, h1, hrl, go_sem])) ?_
  refine Gc ?_ ?_
  ·
   rintro r wx hR ⟨h1, h2, h3, h4, _⟩
   replace h1 : r (.func 69) = .func (.func 69) #[] #[] := h1
   replace h2 : Under (((st_2 c))) (.int .i64 (c.rand.length : Int)) wx (r (.tmp 23)) := h2
   replace h3 : r (.const (.int .i64 1)) = .int .i64 1 := h3
   replace h4 : r (.const (.int .i64 64)) = .int .i64 64 := h4
   intro gb hgb
   refine guard_u (C := ((st_2 c))) (b := (st_2 c)) (want := true) hgb (want_t _) (fun hc => ?_) (fun hc => un_ hc)
   replace h2 := h2.get hc
   refine give_func #[.int .i64 (c.rand.length : Int), .int .i64 1, .int .i64 64] rfl h1 Try.call69 (by simp [h2, h3, h4]) ?_
   refine (within_any _ _ _ _).mono ?_
   rintro e wz ⟨rfl, hez⟩
   exact ⟨_, rfl, hez, uy hc⟩
  refine Gc (lnA (gd0 rfl) rfl (ouI rfl) (fun _ _ h _ => h) (fun _ _ h c hb => Eq.trans h (if_pos (by first | exact hb | (rw [hb]; rfl) | (rw [c, hb]; rfl))))) ?_
  refine Gc (ln1 (gd0 rfl) rfl (ouI rfl) (fun _ _ h _ => h) (fun r wx hR h1 => exec_mv (.inl rfl) h1)) ?_
  refine Gc (ln1 (gdU rfl (fun _ _ h => h) (want_t _)) rfl (ouU rfl) (fun _ _ h _ => h) (fun r wx hR h1 => by simp [execOp, h1, go_sem])) ?_
  refine Gc (ln1 (gdU rfl (fun _ _ h => h) (want_t _)) rfl (ouU rfl) (fun _ _ h c => Eq.trans h (if_pos c)) (fun r wx hR h1 => exg oneSA rfl h1 (cv14 (hb1.ext hR)))) ?_
  refine Gc ?_ ?_
  ·
   rintro r wx hR ⟨h1, h2, _⟩
   replace h1 : r (.func 90) = .func (.func 90) #[] #[] := h1
   replace h2 : Under (((st_3 c))) (.slice s.aA s.aN s.aC) wx (r (.tmp 28)) := h2
   intro gb hgb
   refine guard_u (C := ((st_3 c))) (b := (st_3 c)) (want := true) hgb (want_t _) (fun hc => ?_) (fun hc => un_ hc)
   replace h2 := h2.get hc
   refine give_func #[.slice s.aA s.aN s.aC] rfl h1 Try.call90 (by simp [h2]) ?_
   refine (addrsFit_any (HA.a.ext hR)).mono ?_
   rintro e wz ⟨rfl, hez⟩
   exact ⟨_, rfl, hez, uy hc⟩
  refine Gc (lnA (gd0 rfl) rfl (ouI rfl) (fun _ _ h _ => h) (fun _ _ h c hb => Eq.trans h (if_pos (by first | exact hb | (rw [hb]; rfl) | (rw [c, hb]; rfl))))) ?_
  refine Gc (ln1 (gd0 rfl) rfl (ouI rfl) (fun _ _ h _ => h) (fun r wx hR h1 => exec_mv (.inr rfl) h1)) ?_
  exact GoodAll.nil
 ·
  intro vs wE aE hR hold haE
  have hv : vs 28 = .bool ((((((((c.tag : Int) : Int) != (0 : Int)) && ((inB c.win 0 2147483647))) && ((inB (c.out) (1) (8)))) && ((inB (c.inn) (1) (8)))) && ((inB ((c.rand.length : Int)) (1) (64)))) && ((inB (c.addrs.length : Int) 1 4 && adsB c.addrs))) := hold.at 28
  refine ‹∀ (a : Act) (w : World), Code.wp Try.prog Code.ret _ a w → _› _ _ ?_
  refine wp_ret ?_
  have hs : aE.tmps[2]? = some (.bool ((((((((c.tag : Int) : Int) != (0 : Int)) && ((inB c.win 0 2147483647))) && ((inB (c.out) (1) (8)))) && ((inB (c.inn) (1) (8)))) && ((inB ((c.rand.length : Int)) (1) (64)))) && ((inB (c.addrs.length : Int) 1 4 && adsB c.addrs)))) := by rw [haE, ← hv]; kernel_rfl
  have hdf : aE.defers = [] := by rw [haE]; exact putAll_defers _ _ _ _
  clear haE
  refine bodyPost_ret (v := .bool ((((((((c.tag : Int) : Int) != (0 : Int)) && ((inB c.win 0 2147483647))) && ((inB (c.out) (1) (8)))) && ((inB (c.inn) (1) (8)))) && ((inB ((c.rand.length : Int)) (1) (64)))) && ((inB (c.addrs.length : Int) 1 4 && adsB c.addrs)))) ?_ hdf ⟨rfl, he1.trans hR⟩
  simp [results, Try.results70, go_sem, hs]
/-- Whether what a chunk's kind uses is within its bounds. -/
def fitsB (c : Ck) : Bool :=
 if c.kind = 0 then inB (c.text.length : Int) 1 64
 else if c.kind = 1 then startB c
 else if c.kind = 2 then startB c && inB (c.info.length : Int) 1 300
 else if c.kind = 3 then (inB c.win 0 2147483647 && (gapsB (-1) c.gaps && decide ((c.gaps.length : Int) ≤ 16))) && decide ((c.dups.length : Int) ≤ 16)
 else if c.kind = 4 ∨ c.kind = 5 ∨ c.kind = 10 then inB (c.info.length : Int) 1 300
 else if c.kind = 15 then (c.info.length : Int) == 32
 else if c.kind = 6 ∨ c.kind = 9 then inB c.cause 0 65535
 else if c.kind = 193 then inB (c.ops.length : Int) 1 9 && opsB c.ops
 else true
set_option maxHeartbeats 16000000 in
theorem fits_any {w : World} {c : Ck} {s : Sv} (ha : CkAt w s c) :
  Calls Try.prog 34 #[.agg (CV c s)] w fun e w' => e = .returned (.bool (fitsB c)) ∧ Ext w w' := by
 have htl : s.tN = c.text.length := (bytes_len ha.t).1
 have hil : s.iN = c.info.length := (bytes_len ha.i).1
 have hdl : s.dN = c.dups.length := by have := (nums_len ha.d).1; rwa [ci_len] at this
 have HL : Hid (s.tN = c.text.length ∧ s.iN = c.info.length ∧ s.dN = c.dups.length) := ⟨htl, hil, hdl⟩
 clear htl hil hdl
 by_cases hk : c.kind = 0
 ·
  have HE : Hid (fitsB c = inB (c.text.length : Int) 1 64) := show _ = _ by simp [fitsB, hk]
  rw [HE.out]
  rw [← HL.out.1]
  go_enter Try.func34, Try.ntmps34
  go_wp2_with (first
   | (refine wl_box (C := CV c s) rfl rfl rfl ?_; intro w1 hb1 he1 hx; clear hx; have c0 := cv0 hb1; have c7 := cv7 hb1; have c15 := cv15 hb1; have c17 := cv17 hb1; have c18 := cv18 hb1; have c20 := cv20 hb1)
   | (refine wl_load rfl rowC rfl rfl hb1 rfl ?_)
   | (go_at_call 69; refine (within_any _ _ _ _).mono ?_; rintro e w2 ⟨rfl, he2⟩))
  go_ret
  exact ⟨rfl, he1.trans he2⟩
 by_cases hk : c.kind = 1
 ·
  have HE : Hid (fitsB c = startB c) := show _ = _ by simp [fitsB, hk]
  rw [HE.out]
  go_enter Try.func34, Try.ntmps34
  go_wp2_with (first
   | (refine wl_box (C := CV c s) rfl rfl rfl ?_; intro w1 hb1 he1 hx; clear hx; have c0 := cv0 hb1; have c7 := cv7 hb1; have c15 := cv15 hb1; have c17 := cv17 hb1; have c18 := cv18 hb1; have c20 := cv20 hb1)
   | (refine wl_load rfl rowC rfl rfl hb1 rfl ?_)
   | (go_at_call 70; refine (startFits_any (ha.ext he1)).mono ?_; rintro e w2 ⟨rfl, he2⟩))
  go_ret
  exact ⟨rfl, he1.trans he2⟩
 by_cases hk : c.kind = 2
 ·
  have HE : Hid (fitsB c = (startB c && inB (c.info.length : Int) 1 300)) := show _ = _ by simp [fitsB, hk]
  rw [HE.out]
  go_enter Try.func34, Try.ntmps34
  go_wp2_with (first
   | (refine stop_at 7 rfl ?_)
   | (refine wl_box (C := CV c s) rfl rfl rfl ?_; intro w1 hb1 he1 hx; clear hx; have c0 := cv0 hb1; have c7 := cv7 hb1; have c15 := cv15 hb1; have c17 := cv17 hb1; have c18 := cv18 hb1; have c20 := cv20 hb1)
   | (refine wl_load rfl rowC rfl rfl hb1 rfl ?_))
  refine ⟨?_⟩
  have HA := ha.ext he1
  refine wpList_line 0 (fun t => bif Nat.ble 18 t && Nat.ble t 23 then some (t - 18) else bif Nat.beq t 2 then some 6 else none) 62 Ext
   [Is (.agg (CV c s)),
    Is (.bool (startB c)),
    Is (.bool (startB c)),
    Under (((startB c))) (.agg (CV c s)),
    Under (((startB c))) (.bool (inB (c.info.length : Int) 1 300)),
    Is (.bool ((startB c) && ((inB (c.info.length : Int) 1 300)))),
    Is (.bool ((startB c) && ((inB (c.info.length : Int) 1 300))))]
   rfl (by kernel_rfl) rfl Ext.refl (fun _ _ _ => Ext.trans) (Ks (Ks (Ks (Ku (Ku (Ks (Ks (KeepAll.nil)))))))) ?_ ?_ ?_
  ·
   intro i o hi ho
   exact absurd hi (by omega)
  ·
   refine goodFrom 0 ?_
   refine Gc (ln1 (gd0 rfl) rfl (ouI rfl) (fun _ _ h _ => h) (fun r wx hR h1 => exec_loadW rowC rfl h1 (hb1.ext hR) rfl)) ?_
   refine Gc ?_ ?_
   ·
    rintro r wx hR ⟨h1, h2, _⟩
    replace h1 : r (.func 70) = .func (.func 70) #[] #[] := h1
    replace h2 : r (.tmp 18) = .agg (CV c s) := h2
    refine give_func #[.agg (CV c s)] rfl h1 Try.call70 (by simp [h2]) ?_
    refine (startFits_any (HA.ext hR)).mono ?_
    rintro e wz ⟨rfl, hez⟩
    exact ⟨_, rfl, hez, rfl⟩
   refine Gc (ln1 (gd0 rfl) rfl (ouI rfl) (fun _ _ h _ => h) (fun r wx hR h1 => exec_mv (.inl rfl) h1)) ?_
   refine Gc (ln1 (gdU rfl (fun _ _ h => h) (want_t _)) rfl (ouU rfl) (fun _ _ h _ => h) (fun r wx hR h1 => exec_loadW rowC rfl h1 (hb1.ext hR) rfl)) ?_
   refine Gc ?_ ?_
   ·
    rintro r wx hR ⟨h1, h2, _⟩
    replace h1 : r (.func 71) = .func (.func 71) #[] #[] := h1
    replace h2 : Under (((startB c))) (.agg (CV c s)) wx (r (.tmp 21)) := h2
    intro gb hgb
    refine guard_u (C := ((startB c))) (b := (startB c)) (want := true) hgb (want_t _) (fun hc => ?_) (fun hc => un_ hc)
    replace h2 := h2.get hc
    refine give_func #[.agg (CV c s)] rfl h1 Try.call71 (by simp [h2]) ?_
    refine (infoFits_any c s HL.out.2.1 _).mono ?_
    rintro e wz ⟨rfl, hez⟩
    exact ⟨_, rfl, hez, uy hc⟩
   refine Gc (lnA (gd0 rfl) rfl (ouI rfl) (fun _ _ h _ => h) (fun _ _ h c hb => Eq.trans h (if_pos (by first | exact hb | (rw [hb]; rfl) | (rw [c, hb]; rfl))))) ?_
   refine Gc (ln1 (gd0 rfl) rfl (ouI rfl) (fun _ _ h _ => h) (fun r wx hR h1 => exec_mv (.inr rfl) h1)) ?_
   exact GoodAll.nil
  ·
   intro vs wE aE hR hold haE
   have hv : vs 6 = .bool ((startB c) && ((inB (c.info.length : Int) 1 300))) := hold.at 6
   refine ‹∀ (a : Act) (w : World), Code.wp Try.prog Code.ret _ a w → _› _ _ ?_
   refine wp_ret ?_
   have hs : aE.tmps[2]? = some (.bool ((startB c) && ((inB (c.info.length : Int) 1 300)))) := by rw [haE, ← hv]; kernel_rfl
   have hdf : aE.defers = [] := by rw [haE]; exact putAll_defers _ _ _ _
   clear haE
   unfold Exit.then Exit.inBlock; dsimp only
   refine bodyPost_ret (v := .bool ((startB c) && ((inB (c.info.length : Int) 1 300)))) ?_ hdf ⟨rfl, he1.trans hR⟩
   simp [results, Try.results34, go_sem, hs]
 by_cases hk : c.kind = 3
 ·
  have HE : Hid (fitsB c = ((inB c.win 0 2147483647 && (gapsB (-1) c.gaps && decide ((c.gaps.length : Int) ≤ 16))) && decide ((c.dups.length : Int) ≤ 16))) := show _ = _ by simp [fitsB, hk]
  rw [HE.out]
  cases hs : inB c.win 0 2147483647 with
  | true =>
   cases hg : (gapsB (-1) c.gaps && decide ((c.gaps.length : Int) ≤ 16)) with
   | true =>
    rw [← HL.out.2.2]
    go_enter Try.func34, Try.ntmps34
    go_wp2_with (first
     | (refine wl_box (C := CV c s) rfl rfl rfl ?_; intro w1 hb1 he1 hx; clear hx; have c0 := cv0 hb1; have c7 := cv7 hb1; have c15 := cv15 hb1; have c17 := cv17 hb1; have c18 := cv18 hb1; have c20 := cv20 hb1)
     | (refine wl_load rfl rowC rfl rfl hb1 rfl ?_)
     | (go_at_call 72; refine (windowFits_any c s _).mono ?_; rintro e w2 ⟨rfl, he2⟩; rw [hs]; have d16 := cv16 (hb1.ext he2))
     | (go_at_call 73; refine (gapsFit_any ((ha.ext he1).g.ext he2)).mono ?_; rintro e w3 ⟨rfl, he3⟩; rw [hg]; have d17 := cv17 ((hb1.ext he2).ext he3)))
    go_ret
    exact ⟨by simp, (he1.trans he2).trans he3⟩
   | false =>
    go_enter Try.func34, Try.ntmps34
    go_wp2_with (first
     | (refine wl_box (C := CV c s) rfl rfl rfl ?_; intro w1 hb1 he1 hx; clear hx; have c0 := cv0 hb1; have c7 := cv7 hb1; have c15 := cv15 hb1; have c17 := cv17 hb1; have c18 := cv18 hb1; have c20 := cv20 hb1)
     | (refine wl_load rfl rowC rfl rfl hb1 rfl ?_)
     | (go_at_call 72; refine (windowFits_any c s _).mono ?_; rintro e w2 ⟨rfl, he2⟩; rw [hs]; have d16 := cv16 (hb1.ext he2))
     | (go_at_call 73; refine (gapsFit_any ((ha.ext he1).g.ext he2)).mono ?_; rintro e w3 ⟨rfl, he3⟩; rw [hg]; have d17 := cv17 ((hb1.ext he2).ext he3)))
    go_ret
    exact ⟨by simp, (he1.trans he2).trans he3⟩
  | false =>
   go_enter Try.func34, Try.ntmps34
   go_wp2_with (first
    | (refine wl_box (C := CV c s) rfl rfl rfl ?_; intro w1 hb1 he1 hx; clear hx; have c0 := cv0 hb1; have c7 := cv7 hb1; have c15 := cv15 hb1; have c17 := cv17 hb1; have c18 := cv18 hb1; have c20 := cv20 hb1)
    | (refine wl_load rfl rowC rfl rfl hb1 rfl ?_)
    | (go_at_call 72; refine (windowFits_any c s _).mono ?_; rintro e w2 ⟨rfl, he2⟩; rw [hs]))
   go_ret
   exact ⟨by simp, he1.trans he2⟩
 by_cases hk : c.kind = 4
 ·
  have HE : Hid (fitsB c = inB (c.info.length : Int) 1 300) := show _ = _ by simp [fitsB, hk]
  rw [HE.out]
  go_enter Try.func34, Try.ntmps34
  go_wp2_with (first
   | (refine wl_box (C := CV c s) rfl rfl rfl ?_; intro w1 hb1 he1 hx; clear hx; have c0 := cv0 hb1; have c7 := cv7 hb1; have c15 := cv15 hb1; have c17 := cv17 hb1; have c18 := cv18 hb1; have c20 := cv20 hb1)
   | (refine wl_load rfl rowC rfl rfl hb1 rfl ?_)
   | (go_at_call 71; refine (infoFits_any c s HL.out.2.1 _).mono ?_; rintro e w2 ⟨rfl, he2⟩))
  go_ret
  exact ⟨rfl, he1.trans he2⟩
 by_cases hk : c.kind = 5
 ·
  have HE : Hid (fitsB c = inB (c.info.length : Int) 1 300) := show _ = _ by simp [fitsB, hk]
  rw [HE.out]
  go_enter Try.func34, Try.ntmps34
  go_wp2_with (first
   | (refine wl_box (C := CV c s) rfl rfl rfl ?_; intro w1 hb1 he1 hx; clear hx; have c0 := cv0 hb1; have c7 := cv7 hb1; have c15 := cv15 hb1; have c17 := cv17 hb1; have c18 := cv18 hb1; have c20 := cv20 hb1)
   | (refine wl_load rfl rowC rfl rfl hb1 rfl ?_)
   | (go_at_call 71; refine (infoFits_any c s HL.out.2.1 _).mono ?_; rintro e w2 ⟨rfl, he2⟩))
  go_ret
  exact ⟨rfl, he1.trans he2⟩
 by_cases hk : c.kind = 10
 ·
  have HE : Hid (fitsB c = inB (c.info.length : Int) 1 300) := show _ = _ by simp [fitsB, hk]
  rw [HE.out]
  go_enter Try.func34, Try.ntmps34
  go_wp2_with (first
   | (refine wl_box (C := CV c s) rfl rfl rfl ?_; intro w1 hb1 he1 hx; clear hx; have c0 := cv0 hb1; have c7 := cv7 hb1; have c15 := cv15 hb1; have c17 := cv17 hb1; have c18 := cv18 hb1; have c20 := cv20 hb1)
   | (refine wl_load rfl rowC rfl rfl hb1 rfl ?_)
   | (go_at_call 71; refine (infoFits_any c s HL.out.2.1 _).mono ?_; rintro e w2 ⟨rfl, he2⟩))
  go_ret
  exact ⟨rfl, he1.trans he2⟩
 by_cases hk : c.kind = 15
 ·
  have HE : Hid (fitsB c = ((c.info.length : Int) == 32)) := show _ = _ by simp [fitsB, hk]
  rw [HE.out]
  rw [← HL.out.2.1]
  go_enter Try.func34, Try.ntmps34
  go_wp2_with (first
   | (refine wl_box (C := CV c s) rfl rfl rfl ?_; intro w1 hb1 he1 hx; clear hx; have c0 := cv0 hb1; have c7 := cv7 hb1; have c15 := cv15 hb1; have c17 := cv17 hb1; have c18 := cv18 hb1; have c20 := cv20 hb1)
   | (refine wl_load rfl rowC rfl rfl hb1 rfl ?_))
  go_ret
  exact ⟨rfl, he1⟩
 by_cases hk : c.kind = 6
 ·
  have HE : Hid (fitsB c = inB c.cause 0 65535) := show _ = _ by simp [fitsB, hk]
  rw [HE.out]
  go_enter Try.func34, Try.ntmps34
  go_wp2_with (first
   | (refine wl_box (C := CV c s) rfl rfl rfl ?_; intro w1 hb1 he1 hx; clear hx; have c0 := cv0 hb1; have c7 := cv7 hb1; have c15 := cv15 hb1; have c17 := cv17 hb1; have c18 := cv18 hb1; have c20 := cv20 hb1)
   | (refine wl_load rfl rowC rfl rfl hb1 rfl ?_)
   | (go_at_call 69; refine (within_any _ _ _ _).mono ?_; rintro e w2 ⟨rfl, he2⟩))
  go_ret
  exact ⟨rfl, he1.trans he2⟩
 by_cases hk : c.kind = 9
 ·
  have HE : Hid (fitsB c = inB c.cause 0 65535) := show _ = _ by simp [fitsB, hk]
  rw [HE.out]
  go_enter Try.func34, Try.ntmps34
  go_wp2_with (first
   | (refine wl_box (C := CV c s) rfl rfl rfl ?_; intro w1 hb1 he1 hx; clear hx; have c0 := cv0 hb1; have c7 := cv7 hb1; have c15 := cv15 hb1; have c17 := cv17 hb1; have c18 := cv18 hb1; have c20 := cv20 hb1)
   | (refine wl_load rfl rowC rfl rfl hb1 rfl ?_)
   | (go_at_call 69; refine (within_any _ _ _ _).mono ?_; rintro e w2 ⟨rfl, he2⟩))
  go_ret
  exact ⟨rfl, he1.trans he2⟩
 by_cases hk : c.kind = 193
 ·
  have HE : Hid (fitsB c = (inB (c.ops.length : Int) 1 9 && opsB c.ops)) := show _ = _ by simp [fitsB, hk]
  rw [HE.out]
  go_enter Try.func34, Try.ntmps34
  go_wp2_with (first
   | (refine wl_box (C := CV c s) rfl rfl rfl ?_; intro w1 hb1 he1 hx; clear hx; have c0 := cv0 hb1; have c7 := cv7 hb1; have c15 := cv15 hb1; have c17 := cv17 hb1; have c18 := cv18 hb1; have c20 := cv20 hb1)
   | (refine wl_load rfl rowC rfl rfl hb1 rfl ?_)
   | (go_at_call 74; refine (opsFit_any (ha.ext he1).o).mono ?_; rintro e w2 ⟨rfl, he2⟩))
  go_ret
  exact ⟨rfl, he1.trans he2⟩
 have HE : Hid (fitsB c = true) := show _ = _ by simp [fitsB, *]
 rw [HE.out]
 have e0 : (c.kind == 0) = false := beq_false_of_ne (by assumption)
 have e1 : (c.kind == 1) = false := beq_false_of_ne (by assumption)
 have e2 : (c.kind == 2) = false := beq_false_of_ne (by assumption)
 have e3 : (c.kind == 3) = false := beq_false_of_ne (by assumption)
 have e4 : (c.kind == 4) = false := beq_false_of_ne (by assumption)
 have e5 : (c.kind == 5) = false := beq_false_of_ne (by assumption)
 have e10 : (c.kind == 10) = false := beq_false_of_ne (by assumption)
 have e15 : (c.kind == 15) = false := beq_false_of_ne (by assumption)
 have e6 : (c.kind == 6) = false := beq_false_of_ne (by assumption)
 have e9 : (c.kind == 9) = false := beq_false_of_ne (by assumption)
 have e193 : (c.kind == 193) = false := beq_false_of_ne (by assumption)
 go_enter Try.func34, Try.ntmps34
 go_wp2_with (first
  | (refine wl_box (C := CV c s) rfl rfl rfl ?_; intro w1 hb1 he1 hx; clear hx; have c0 := cv0 hb1; have c7 := cv7 hb1; have c15 := cv15 hb1; have c17 := cv17 hb1; have c18 := cv18 hb1; have c20 := cv20 hb1)
  | (refine wl_load rfl rowC rfl rfl hb1 rfl ?_))
 go_ret
 exact ⟨rfl, he1⟩
set_option maxRecDepth 100000
/-- A block's cells become those of D, one by one. -/
structure PutD (g T : Nat) (D : Array Value) (W W' : World) : Prop where
 os : W'.os = W.os
 tape : W'.tape = W.tape
 output : W'.output = W.output
 size : W'.heap.size = W.heap.size
 block : ∀ k, k ≠ g → W'.heap[k]? = W.heap[k]?
 it : ∀ C, Blk W g C T → ∃ C', Blk W' g C' T ∧ C'.size = C.size ∧ ∀ j : Nat, C'[j]? = C[j]? ∨ C'[j]? = D[j]?
theorem PutD.refl {g T : Nat} {D : Array Value} (W : World) : PutD g T D W W := ⟨rfl, rfl, rfl, rfl, fun _ _ => rfl, fun C h => ⟨C, h, rfl, fun _ => .inl rfl⟩⟩
theorem PutD.trans {g T : Nat} {D : Array Value} {a b c : World} (h : PutD g T D a b) (k : PutD g T D b c) : PutD g T D a c :=
 ⟨k.os.trans h.os, k.tape.trans h.tape, k.output.trans h.output, k.size.trans h.size, fun i hi => (k.block i hi).trans (h.block i hi), fun C hC => by
  obtain ⟨C1, h1, s1, d1⟩ := h.it C hC
  obtain ⟨C2, h2, s2, d2⟩ := k.it C1 h1
  refine ⟨C2, h2, s2.trans s1, fun j => ?_⟩
  rcases d2 j with e | e
  ·
   rw [e]; exact d1 j
  ·
   exact .inr e⟩
theorem PutD.other {g T : Nat} {D : Array Value} {a b : World} (h : PutD g T D a b) {q t : Nat} {C : Array Value} (hb : Blk a q C t) (hq : q ≠ g) : Blk b q C t := (h.block q hq).trans hb
/-- A cell that stands as it is to stand. -/
def DoneAt (g T : Nat) (D : Array Value) (j : Nat) : Fact := fun w _ => ∃ C, Blk w g C T ∧ C[j]? = D[j]?
theorem PutD.done {g T : Nat} {D : Array Value} {a b : World} {j : Nat} {v : Value} (h : DoneAt g T D j a v) (k : PutD g T D a b) : DoneAt g T D j b v := by
 obtain ⟨C, h1, h2⟩ := h
 obtain ⟨C', h3, _, h4⟩ := k.it C h1
 refine ⟨C', h3, ?_⟩
 rcases h4 j with e | e
 ·
  rw [e, h2]
 ·
  exact e
theorem doneAt_set {g T j : Nat} {C D : Array Value} {w : World} {v x : Value} (hb : Blk w g C T) (hj : j < C.size) (hd : D[j]? = some v) : PutD g T D w (w.setCell ⟨g, j, none⟩ v) ∧ DoneAt g T D j (w.setCell ⟨g, j, none⟩ v) x := by
 have h1 := hb.set j v
 refine ⟨⟨rfl, rfl, rfl, by simp, fun k hk => block_other hk j v, fun C' hC' => ?_⟩, _, h1, ?_⟩
 ·
  have e : C' = C := by
   have : some (Obj.cells C' T (0, 0)) = some (.cells C T (0, 0)) := hC'.symm.trans hb
   simp only [Option.some.injEq, Obj.cells.injEq] at this
   exact this.1
  subst e
  refine ⟨_, h1, by simp, fun i => ?_⟩
  by_cases hi : j = i
  ·
   subst hi; right; rw [hd]; simp [hj]
  ·
   left; simp [Array.getElem?_setIfInBounds_ne hi]
 ·
  rw [hd]; simp [hj]
theorem PutD.fin {g T : Nat} {C D : Array Value} {a b : World} (h : PutD g T D a b) (hb : Blk a g C T) (hs : C.size = D.size) (hd : ∀ j, j < D.size → (∃ C', Blk b g C' T ∧ C'[j]? = D[j]?) ∨ C[j]? = D[j]?) : Blk b g D T ∧ KeepBut (· = g) a b := by
 obtain ⟨C', h1, s1, d1⟩ := h.it C hb
 have e : C' = D := by
  apply Array.ext_getElem?
  intro j
  rcases Nat.lt_or_ge j D.size with hj | hj
  ·
   rcases hd j hj with ⟨C2, h2, e2⟩ | e2
   ·
    have : some (Obj.cells C' T (0, 0)) = some (.cells C2 T (0, 0)) := h1.symm.trans h2
    simp only [Option.some.injEq, Obj.cells.injEq] at this
    rw [this.1]; exact e2
   ·
    rcases d1 j with e3 | e3
    ·
     rw [e3]; exact e2
    ·
     exact e3
  ·
   rw [Array.getElem?_eq_none hj, Array.getElem?_eq_none (by omega)]
 subst e
 exact ⟨h1, h.os, h.tape, h.output, Nat.le_of_eq h.size.symm, fun k _ hk => h.block k hk⟩
/-- A chunk that is nought but for its kind; no lists. -/
def ck0 (k : Int) : Ck := { kind := k, ptsn := 0, pstr := 0, pseq := 0, pb := false, pe := false, pu := false, text := [], tag := 0, win := 0, out := 0, inn := 0, tsn := 0, rand := [], addrs := [], info := [], gaps := [], dups := [], cause := 0, serial := 0, ops := [], ok := false }
def sv0 : Sv := { tA := none, tN := 0, tC := 0, rA := none, rN := 0, rC := 0, aA := none, aN := 0, aC := 0, iA := none, iN := 0, iC := 0, gA := none, gN := 0, gC := 0, dA := none, dN := 0, dC := 0, oA := none, oN := 0, oC := 0 }
theorem zeroC : (Try.prog.info? 38).bind (·.zero) = some (.agg (CV (ck0 0) sv0)) := by kernel_rfl
/-- The three blocks of the call: what came, what is answered, what is used. -/
structure UsedAt (w wc : World) (g1 g2 g3 : Nat) (c : Ck) (s : Sv) (D : Array Value) : Prop where
 b1 : Blk wc g1 (CV c s) 38
 b2 : Blk wc g2 (CV (ck0 0) sv0) 38
 b3 : Blk wc g3 D 38
 ext : Ext w wc
 n13 : g1 ≠ g3
 n23 : g2 ≠ g3
 lo3 : w.heap.size ≤ g3
 lo : w.heap.size ≤ g2
theorem UsedAt.next {w wc w' : World} {g1 g2 g3 : Nat} {c : Ck} {s : Sv} {D D' : Array Value} (h : UsedAt w wc g1 g2 g3 c s D) (hb : Blk w' g3 D' 38) (hk : KeepBut (· = g3) wc w') : UsedAt w w' g1 g2 g3 c s D' :=
 ⟨h.b1.but hk h.n13, h.b2.but hk h.n23, hb, h.ext.of_but hk (fun q e => by subst e; exact h.lo3), h.n13, h.n23, h.lo3, h.lo⟩
theorem UsedAt.drew {w wc : World} {g1 g2 g3 : Nat} {c : Ck} {s : Sv} {D : Array Value} (h : UsedAt w wc g1 g2 g3 c s D) : UsedAt w wc.drew g1 g2 g3 c s D := ⟨h.b1, h.b2, h.b3, h.ext.trans (Ext.drew _), h.n13, h.n23, h.lo3, h.lo⟩
/-- What of a chunk its kind uses. -/
def usedC (c : Ck) : Ck :=
 if c.kind = 0 then { ck0 0 with kind := 0, ptsn := c.ptsn, pstr := c.pstr, pseq := c.pseq, pb := c.pb, pe := c.pe, pu := c.pu, text := c.text }
 else if c.kind = 1 then { ck0 1 with kind := 1, tag := c.tag, win := c.win, out := c.out, inn := c.inn, tsn := c.tsn, rand := c.rand, addrs := c.addrs }
 else if c.kind = 2 then { ck0 2 with kind := 2, tag := c.tag, win := c.win, out := c.out, inn := c.inn, tsn := c.tsn, rand := c.rand, addrs := c.addrs, info := c.info }
 else if c.kind = 3 then { ck0 3 with kind := 3, tsn := c.tsn, win := c.win, gaps := c.gaps, dups := c.dups }
 else if c.kind = 4 then { ck0 4 with kind := 4, info := c.info }
 else if c.kind = 5 then { ck0 5 with kind := 5, info := c.info }
 else if c.kind = 10 then { ck0 10 with kind := 10, info := c.info }
 else if c.kind = 15 then { ck0 15 with kind := 15, info := c.info }
 else if c.kind = 6 then { ck0 6 with kind := 6, cause := c.cause }
 else if c.kind = 9 then { ck0 9 with kind := 9, cause := c.cause }
 else if c.kind = 7 then { ck0 7 with kind := 7, tsn := c.tsn }
 else if c.kind = 193 then { ck0 193 with kind := 193, serial := c.serial, ops := c.ops }
 else if c.kind = 128 then { ck0 128 with kind := 128, serial := c.serial, ok := c.ok }
 else ck0 c.kind
def usedS (c : Ck) (s : Sv) : Sv :=
 if c.kind = 0 then { sv0 with tA := s.tA, tN := s.tN, tC := s.tC }
 else if c.kind = 1 then { sv0 with rA := s.rA, rN := s.rN, rC := s.rC, aA := s.aA, aN := s.aN, aC := s.aC }
 else if c.kind = 2 then { sv0 with rA := s.rA, rN := s.rN, rC := s.rC, aA := s.aA, aN := s.aN, aC := s.aC, iA := s.iA, iN := s.iN, iC := s.iC }
 else if c.kind = 3 then { sv0 with gA := s.gA, gN := s.gN, gC := s.gC, dA := s.dA, dN := s.dN, dC := s.dC }
 else if c.kind = 4 then { sv0 with iA := s.iA, iN := s.iN, iC := s.iC }
 else if c.kind = 5 then { sv0 with iA := s.iA, iN := s.iN, iC := s.iC }
 else if c.kind = 10 then { sv0 with iA := s.iA, iN := s.iN, iC := s.iC }
 else if c.kind = 15 then { sv0 with iA := s.iA, iN := s.iN, iC := s.iC }
 else if c.kind = 6 then sv0
 else if c.kind = 9 then sv0
 else if c.kind = 7 then sv0
 else if c.kind = 193 then { sv0 with oA := s.oA, oN := s.oN, oC := s.oC }
 else if c.kind = 128 then sv0
 else sv0
set_option maxHeartbeats 8000000 in
theorem used_0 {w : World} {c : Ck} {s : Sv} (hk : c.kind = 0) :
  Calls Try.prog 35 #[.agg (CV c s)] w fun e w' => e = .returned (.agg (CV (usedC c) (usedS c s))) ∧ Ext w w' := by
  have HE : Hid (usedC c = { ck0 0 with kind := 0, ptsn := c.ptsn, pstr := c.pstr, pseq := c.pseq, pb := c.pb, pe := c.pe, pu := c.pu, text := c.text } ∧ usedS c s = { sv0 with tA := s.tA, tN := s.tN, tC := s.tC }) := ⟨by simp [usedC, hk], by simp [usedS, hk]⟩
  rw [HE.out.1, HE.out.2]
  go_enter Try.func35, Try.ntmps35
  go_wp2_with (first
   | (refine wl_box (C := CV c s) rfl rfl rfl ?_; intro w1 hb1 he1 hx1; have HX1 : Hid (w1.heap.size = w.heap.size + 1) := hx1; clear hx1; have c0 := cv0 hb1)
   | (have q := he2; clear q; refine wl_alloc rfl rfl zeroC ?_; intro w3 hb3 he3 hx3; clear hx3; have d0 := cv0 ((hb1.ext he2).ext he3))
   | (refine wl_alloc rfl rfl zeroC ?_; intro w2 hb2 he2 hx2; have HX2 : Hid (w2.heap.size = w1.heap.size + 1) := hx2; clear hx2; have z0 := cv0 (hb1.ext he2))
   | (have q := HU; clear q; refine wl_load rfl rowC rfl rfl HU.out.b3 rfl ?_)
   | (have q := HU; clear q; refine wl_store (D := CV { ck0 0 with kind := 0, ptsn := c.ptsn, pstr := c.pstr, pseq := c.pseq, pb := c.pb, pe := c.pe, pu := c.pu, text := c.text } { sv0 with tA := s.tA, tN := s.tN, tC := s.tC }) rfl rowC rfl rfl rfl HU.out.b2 rfl rfl (CV.one _ _) ?_; intro w9 hb9 hk9 hx9; clear hx9)
   | (refine wl_store (D := CV (ck0 0) sv0) rfl rowC rfl rfl rfl hb3 rfl rfl (CV.one _ _) ?_; intro w4 hb4 hk4 hx4; clear hx4; have HU : Hid (UsedAt w w4 w.heap.size w1.heap.size w2.heap.size c s (CV (ck0 0) sv0)) := ⟨(((hb1.ext he2).ext he3).but hk4 (show ¬ _ = _ by have := HX1.out; have := HX2.out; omega)), ((hb2.ext he3).but hk4 (show ¬ _ = _ by have := HX1.out; have := HX2.out; omega)), hb4, ((he1.trans he2).trans he3).of_but hk4 (fun q e => by subst e; have := HX1.out; have := HX2.out; omega), (by have := HX1.out; have := HX2.out; omega), (by have := HX1.out; have := HX2.out; omega), (by have := HX1.out; have := HX2.out; omega), (by have := HX1.out; omega)⟩; clear c0 d0 z0 hb1 hb2 hb3 hb4 he1 he2 he3 hk4; have f0 := cv0 HU.out.b1; clear HX1 HX2; generalize w.heap.size = g1 at *; generalize w1.heap.size = g2 at *; generalize w2.heap.size = g3 at *)
   | (have q := HU; clear q; refine wl_loadM rfl rowPc rfl rfl HU.out.b1 (PV c s).toList (CV.piece c s) rfl ?_)
   | (have q := HU; clear q; refine wl_storeM (D := PV c s) rfl rowPc rfl rfl rfl HU.out.b3 rfl (of_decide_eq_true rfl) (PV.one _ _) ?_; intro w7 hb7 hk7 hx7; clear hx7; replace HU : Hid (UsedAt w w7 g1 g2 g3 c s (CV { ck0 0 with kind := 0, ptsn := c.ptsn, pstr := c.pstr, pseq := c.pseq, pb := c.pb, pe := c.pe, pu := c.pu, text := c.text } { sv0 with tA := s.tA, tN := s.tN, tC := s.tC })) := HU.out.next hb7 hk7))
  refine bodyPost_ret (results_cell_row (fn := Try.f35) (p := 2) rfl _ w9 _ _ _ (0, 0) _ rfl hb9 Try.underlying38 rfl (by kernel_rfl)) rfl ?_
  exact ⟨rfl, HU.out.ext.of_but hk9 (fun q e => by subst e; exact HU.out.lo)⟩
set_option maxHeartbeats 8000000 in
theorem used_1 {w : World} {c : Ck} {s : Sv} (hk : c.kind = 1) :
  Calls Try.prog 35 #[.agg (CV c s)] w fun e w' => e = .returned (.agg (CV (usedC c) (usedS c s))) ∧ Ext w w' := by
  have HE : Hid (usedC c = { ck0 1 with kind := 1, tag := c.tag, win := c.win, out := c.out, inn := c.inn, tsn := c.tsn, rand := c.rand, addrs := c.addrs } ∧ usedS c s = { sv0 with rA := s.rA, rN := s.rN, rC := s.rC, aA := s.aA, aN := s.aN, aC := s.aC }) := ⟨by simp [usedC, hk], by simp [usedS, hk]⟩
  rw [HE.out.1, HE.out.2]
  go_enter Try.func35, Try.ntmps35
  go_wp2_with (first
   | (refine wl_box (C := CV c s) rfl rfl rfl ?_; intro w1 hb1 he1 hx1; have HX1 : Hid (w1.heap.size = w.heap.size + 1) := hx1; clear hx1; have c0 := cv0 hb1)
   | (have q := he2; clear q; refine wl_alloc rfl rfl zeroC ?_; intro w3 hb3 he3 hx3; clear hx3; have d0 := cv0 ((hb1.ext he2).ext he3))
   | (refine wl_alloc rfl rfl zeroC ?_; intro w2 hb2 he2 hx2; have HX2 : Hid (w2.heap.size = w1.heap.size + 1) := hx2; clear hx2; have z0 := cv0 (hb1.ext he2))
   | (have q := HU; clear q; refine wl_load rfl rowC rfl rfl HU.out.b3 rfl ?_)
   | (have q := HU; clear q; refine wl_store (D := CV { ck0 1 with kind := 1, tag := c.tag, win := c.win, out := c.out, inn := c.inn, tsn := c.tsn, rand := c.rand, addrs := c.addrs } { sv0 with rA := s.rA, rN := s.rN, rC := s.rC, aA := s.aA, aN := s.aN, aC := s.aC }) rfl rowC rfl rfl rfl HU.out.b2 rfl rfl (CV.one _ _) ?_; intro w9 hb9 hk9 hx9; clear hx9)
   | (refine wl_store (D := CV (ck0 1) sv0) rfl rowC rfl rfl rfl hb3 rfl rfl (CV.one _ _) ?_; intro w4 hb4 hk4 hx4; clear hx4; have HU : Hid (UsedAt w w4 w.heap.size w1.heap.size w2.heap.size c s (CV (ck0 1) sv0)) := ⟨(((hb1.ext he2).ext he3).but hk4 (show ¬ _ = _ by have := HX1.out; have := HX2.out; omega)), ((hb2.ext he3).but hk4 (show ¬ _ = _ by have := HX1.out; have := HX2.out; omega)), hb4, ((he1.trans he2).trans he3).of_but hk4 (fun q e => by subst e; have := HX1.out; have := HX2.out; omega), (by have := HX1.out; have := HX2.out; omega), (by have := HX1.out; have := HX2.out; omega), (by have := HX1.out; have := HX2.out; omega), (by have := HX1.out; omega)⟩; clear c0 d0 z0 hb1 hb2 hb3 hb4 he1 he2 he3 hk4; have f0 := cv0 HU.out.b1; clear HX1 HX2; generalize w.heap.size = g1 at *; generalize w1.heap.size = g2 at *; generalize w2.heap.size = g3 at *))
  refine wp_region_facts (fun t => bif Nat.ble 17 t && Nat.ble t 27 then some (t - 17) else bif Nat.beq t 28 then some 12 else bif Nat.beq t 29 then some 14 else bif Nat.beq t 30 then some 16 else bif Nat.beq t 31 then some 18 else none) 94 (PutD g3 38 (CV { ck0 1 with kind := 1, tag := c.tag, win := c.win, out := c.out, inn := c.inn, tsn := c.tsn } sv0))
   [Is (.pointer (some ⟨g1, 8, none⟩)), Is (.int .u32 (c.tag : Int)), Is (.pointer (some ⟨g1, 9, none⟩)), Is (.int .i64 c.win), Is (.pointer (some ⟨g1, 10, none⟩)), Is (.int .i64 c.out), Is (.pointer (some ⟨g1, 11, none⟩)), Is (.int .i64 c.inn), Is (.pointer (some ⟨g1, 12, none⟩)), Is (.int .u32 (c.tsn : Int)), Is (.pointer (some ⟨g3, 8, none⟩)), DoneAt g3 38 (CV { ck0 1 with kind := 1, tag := c.tag, win := c.win, out := c.out, inn := c.inn, tsn := c.tsn } sv0) 8, Is (.pointer (some ⟨g3, 9, none⟩)), DoneAt g3 38 (CV { ck0 1 with kind := 1, tag := c.tag, win := c.win, out := c.out, inn := c.inn, tsn := c.tsn } sv0) 9, Is (.pointer (some ⟨g3, 10, none⟩)), DoneAt g3 38 (CV { ck0 1 with kind := 1, tag := c.tag, win := c.win, out := c.out, inn := c.inn, tsn := c.tsn } sv0) 10, Is (.pointer (some ⟨g3, 11, none⟩)), DoneAt g3 38 (CV { ck0 1 with kind := 1, tag := c.tag, win := c.win, out := c.out, inn := c.inn, tsn := c.tsn } sv0) 11, Is (.pointer (some ⟨g3, 12, none⟩)), DoneAt g3 38 (CV { ck0 1 with kind := 1, tag := c.tag, win := c.win, out := c.out, inn := c.inn, tsn := c.tsn } sv0) 12]
   rfl (by kernel_rfl) (by kernel_rfl) rfl PutD.refl (fun _ _ _ => PutD.trans) ?_ ?_ ?_
  ·
   exact Ks (Ks (Ks (Ks (Ks (Ks (Ks (Ks (Ks (Ks (Ks (KeepAll.cons (fun _ _ _ h k => PutD.done k h) (Ks (KeepAll.cons (fun _ _ _ h k => PutD.done k h) (Ks (KeepAll.cons (fun _ _ _ h k => PutD.done k h) (Ks (KeepAll.cons (fun _ _ _ h k => PutD.done k h) (Ks (KeepAll.cons (fun _ _ _ h k => PutD.done k h) (KeepAll.nil))))))))))))))))))))
  ·
   refine Gc (lr1 PutD.refl rfl rfl rfl (fun _ _ h => h) (fun r wx hR h1 => by simp [execOp, h1, go_sem])) ?_
   refine Gc (lr1 PutD.refl rfl rfl rfl (fun _ _ h => h) (fun r wx hR h1 => exg one22 rfl h1 (cv8 (hR.other HU.out.b1 HU.out.n13)))) ?_
   refine Gc (lr1 PutD.refl rfl rfl rfl (fun _ _ h => h) (fun r wx hR h1 => by simp [execOp, h1, go_sem])) ?_
   refine Gc (lr1 PutD.refl rfl rfl rfl (fun _ _ h => h) (fun r wx hR h1 => exg one3 rfl h1 (cv9 (hR.other HU.out.b1 HU.out.n13)))) ?_
   refine Gc (lr1 PutD.refl rfl rfl rfl (fun _ _ h => h) (fun r wx hR h1 => by simp [execOp, h1, go_sem])) ?_
   refine Gc (lr1 PutD.refl rfl rfl rfl (fun _ _ h => h) (fun r wx hR h1 => exg one3 rfl h1 (cv10 (hR.other HU.out.b1 HU.out.n13)))) ?_
   refine Gc (lr1 PutD.refl rfl rfl rfl (fun _ _ h => h) (fun r wx hR h1 => by simp [execOp, h1, go_sem])) ?_
   refine Gc (lr1 PutD.refl rfl rfl rfl (fun _ _ h => h) (fun r wx hR h1 => exg one3 rfl h1 (cv11 (hR.other HU.out.b1 HU.out.n13)))) ?_
   refine Gc (lr1 PutD.refl rfl rfl rfl (fun _ _ h => h) (fun r wx hR h1 => by simp [execOp, h1, go_sem])) ?_
   refine Gc (lr1 PutD.refl rfl rfl rfl (fun _ _ h => h) (fun r wx hR h1 => exg one22 rfl h1 (cv12 (hR.other HU.out.b1 HU.out.n13)))) ?_
   refine Gc (lr1 PutD.refl rfl rfl rfl (fun _ _ h => h) (fun r wx hR h1 => by simp [execOp, h1, go_sem])) ?_
   refine Gc ?_ ?_
   ·
    rintro r wx hR ⟨h1, h2, _⟩
    replace h1 : r (.tmp 27) = .pointer (some ⟨g3, 8, none⟩) := h1
    replace h2 : r (.tmp 18) = .int .u32 (c.tag : Int) := h2
    obtain ⟨C1, hb1, hs1, _⟩ := hR.it _ HU.out.b3
    exact give_skip (exec_set one22 rfl h1 h2 rfl rfl hb1 (by rw [hs1]; exact of_decide_eq_true rfl)) (doneAt_set hb1 (by rw [hs1]; exact of_decide_eq_true rfl) (x := undef) rfl)
   refine Gc (lr1 PutD.refl rfl rfl rfl (fun _ _ h => h) (fun r wx hR h1 => by simp [execOp, h1, go_sem])) ?_
   refine Gc ?_ ?_
   ·
    rintro r wx hR ⟨h1, h2, _⟩
    replace h1 : r (.tmp 28) = .pointer (some ⟨g3, 9, none⟩) := h1
    replace h2 : r (.tmp 20) = .int .i64 c.win := h2
    obtain ⟨C1, hb1, hs1, _⟩ := hR.it _ HU.out.b3
    exact give_skip (exec_set one3 rfl h1 h2 rfl rfl hb1 (by rw [hs1]; exact of_decide_eq_true rfl)) (doneAt_set hb1 (by rw [hs1]; exact of_decide_eq_true rfl) (x := undef) rfl)
   refine Gc (lr1 PutD.refl rfl rfl rfl (fun _ _ h => h) (fun r wx hR h1 => by simp [execOp, h1, go_sem])) ?_
   refine Gc ?_ ?_
   ·
    rintro r wx hR ⟨h1, h2, _⟩
    replace h1 : r (.tmp 29) = .pointer (some ⟨g3, 10, none⟩) := h1
    replace h2 : r (.tmp 22) = .int .i64 c.out := h2
    obtain ⟨C1, hb1, hs1, _⟩ := hR.it _ HU.out.b3
    exact give_skip (exec_set one3 rfl h1 h2 rfl rfl hb1 (by rw [hs1]; exact of_decide_eq_true rfl)) (doneAt_set hb1 (by rw [hs1]; exact of_decide_eq_true rfl) (x := undef) rfl)
   refine Gc (lr1 PutD.refl rfl rfl rfl (fun _ _ h => h) (fun r wx hR h1 => by simp [execOp, h1, go_sem])) ?_
   refine Gc ?_ ?_
   ·
    rintro r wx hR ⟨h1, h2, _⟩
    replace h1 : r (.tmp 30) = .pointer (some ⟨g3, 11, none⟩) := h1
    replace h2 : r (.tmp 24) = .int .i64 c.inn := h2
    obtain ⟨C1, hb1, hs1, _⟩ := hR.it _ HU.out.b3
    exact give_skip (exec_set one3 rfl h1 h2 rfl rfl hb1 (by rw [hs1]; exact of_decide_eq_true rfl)) (doneAt_set hb1 (by rw [hs1]; exact of_decide_eq_true rfl) (x := undef) rfl)
   refine Gc (lr1 PutD.refl rfl rfl rfl (fun _ _ h => h) (fun r wx hR h1 => by simp [execOp, h1, go_sem])) ?_
   refine Gc ?_ ?_
   ·
    rintro r wx hR ⟨h1, h2, _⟩
    replace h1 : r (.tmp 31) = .pointer (some ⟨g3, 12, none⟩) := h1
    replace h2 : r (.tmp 26) = .int .u32 (c.tsn : Int) := h2
    obtain ⟨C1, hb1, hs1, _⟩ := hR.it _ HU.out.b3
    exact give_skip (exec_set one22 rfl h1 h2 rfl rfl hb1 (by rw [hs1]; exact of_decide_eq_true rfl)) (doneAt_set hb1 (by rw [hs1]; exact of_decide_eq_true rfl) (x := undef) rfl)
   exact GoodAll.nil
  ·
   intro vs w14 a7 hR hold ha7
   have hv0 : vs 0 = (.pointer (some ⟨g1, 8, none⟩)) := hold.at 0
   have hv1 : vs 1 = (.int .u32 (c.tag : Int)) := hold.at 1
   have hv2 : vs 2 = (.pointer (some ⟨g1, 9, none⟩)) := hold.at 2
   have hv3 : vs 3 = (.int .i64 c.win) := hold.at 3
   have hv4 : vs 4 = (.pointer (some ⟨g1, 10, none⟩)) := hold.at 4
   have hv5 : vs 5 = (.int .i64 c.out) := hold.at 5
   have hv6 : vs 6 = (.pointer (some ⟨g1, 11, none⟩)) := hold.at 6
   have hv7 : vs 7 = (.int .i64 c.inn) := hold.at 7
   have hv8 : vs 8 = (.pointer (some ⟨g1, 12, none⟩)) := hold.at 8
   have hv9 : vs 9 = (.int .u32 (c.tsn : Int)) := hold.at 9
   have hv10 : vs 10 = (.pointer (some ⟨g3, 8, none⟩)) := hold.at 10
   have hv12 : vs 12 = (.pointer (some ⟨g3, 9, none⟩)) := hold.at 12
   have hv14 : vs 14 = (.pointer (some ⟨g3, 10, none⟩)) := hold.at 14
   have hv16 : vs 16 = (.pointer (some ⟨g3, 11, none⟩)) := hold.at 16
   have hv18 : vs 18 = (.pointer (some ⟨g3, 12, none⟩)) := hold.at 18
   have hbw14 := hR.fin HU.out.b3 rfl (fun j hj => by
    match j with
    | 0 => exact .inr rfl
    | 1 => exact .inr rfl
    | 2 => exact .inr rfl
    | 3 => exact .inr rfl
    | 4 => exact .inr rfl
    | 5 => exact .inr rfl
    | 6 => exact .inr rfl
    | 7 => exact .inr rfl
    | 8 => exact .inl (hold.at 11)
    | 9 => exact .inl (hold.at 13)
    | 10 => exact .inl (hold.at 15)
    | 11 => exact .inl (hold.at 17)
    | 12 => exact .inl (hold.at 19)
    | 13 => exact .inr rfl
    | 14 => exact .inr rfl
    | 15 => exact .inr rfl
    | 16 => exact .inr rfl
    | 17 => exact .inr rfl
    | 18 => exact .inr rfl
    | 19 => exact .inr rfl
    | 20 => exact .inr rfl
    | 21 => exact .inr rfl
    | j + 22 => exact absurd hj (by rw [CV.size]; omega))
   replace HU : Hid (UsedAt w w14 g1 g2 g3 c s (CV { ck0 1 with kind := 1, tag := c.tag, win := c.win, out := c.out, inn := c.inn, tsn := c.tsn } sv0)) := (HU.out.drew).next hbw14.1 hbw14.2
   simp only [putAll, Act.put, hv0, hv1, hv2, hv3, hv4, hv5, hv6, hv7, hv8, hv9, hv10, hv12, hv14, hv16, hv18, List.setIfInBounds_toArray, List.set_cons_succ, List.set_cons_zero] at ha7
   subst ha7
   clear hold hR hbw14 hv0 hv1 hv2 hv3 hv4 hv5 hv6 hv7 hv8 hv9 hv10 hv12 hv14 hv16 hv18
   have f0 := cv0 HU.out.b1
   go_wp2_with (first
    | (have q := HU; clear q; refine wl_load rfl rowC rfl rfl HU.out.b3 rfl ?_)
    | (have q := HU; clear q; refine wl_store (D := CV { ck0 1 with kind := 1, tag := c.tag, win := c.win, out := c.out, inn := c.inn, tsn := c.tsn, rand := c.rand, addrs := c.addrs } { sv0 with rA := s.rA, rN := s.rN, rC := s.rC, aA := s.aA, aN := s.aN, aC := s.aC }) rfl rowC rfl rfl rfl HU.out.b2 rfl rfl (CV.one _ _) ?_; intro w9 hb9 hk9 hx9; clear hx9))
   refine wp_region_facts (fun t => bif Nat.ble 32 t && Nat.ble t 36 then some (t - 32) else bif Nat.beq t 37 then some 6 else none) 94 (PutD g3 38 (CV { ck0 1 with kind := 1, tag := c.tag, win := c.win, out := c.out, inn := c.inn, tsn := c.tsn, rand := c.rand, addrs := c.addrs } { sv0 with rA := s.rA, rN := s.rN, rC := s.rC, aA := s.aA, aN := s.aN, aC := s.aC }))
    [Is (.pointer (some ⟨g1, 13, none⟩)), Is (.slice s.rA s.rN s.rC), Is (.pointer (some ⟨g1, 14, none⟩)), Is (.slice s.aA s.aN s.aC), Is (.pointer (some ⟨g3, 13, none⟩)), DoneAt g3 38 (CV { ck0 1 with kind := 1, tag := c.tag, win := c.win, out := c.out, inn := c.inn, tsn := c.tsn, rand := c.rand, addrs := c.addrs } { sv0 with rA := s.rA, rN := s.rN, rC := s.rC, aA := s.aA, aN := s.aN, aC := s.aC }) 13, Is (.pointer (some ⟨g3, 14, none⟩)), DoneAt g3 38 (CV { ck0 1 with kind := 1, tag := c.tag, win := c.win, out := c.out, inn := c.inn, tsn := c.tsn, rand := c.rand, addrs := c.addrs } { sv0 with rA := s.rA, rN := s.rN, rC := s.rC, aA := s.aA, aN := s.aN, aC := s.aC }) 14]
    rfl (by kernel_rfl) (by kernel_rfl) rfl PutD.refl (fun _ _ _ => PutD.trans) ?_ ?_ ?_
   ·
    exact Ks (Ks (Ks (Ks (Ks (KeepAll.cons (fun _ _ _ h k => PutD.done k h) (Ks (KeepAll.cons (fun _ _ _ h k => PutD.done k h) (KeepAll.nil))))))))
   ·
    refine Gc (lr1 PutD.refl rfl rfl rfl (fun _ _ h => h) (fun r wx hR h1 => by simp [execOp, h1, go_sem])) ?_
    refine Gc (lr1 PutD.refl rfl rfl rfl (fun _ _ h => h) (fun r wx hR h1 => exg oneS rfl h1 (cv13 (hR.other HU.out.b1 HU.out.n13)))) ?_
    refine Gc (lr1 PutD.refl rfl rfl rfl (fun _ _ h => h) (fun r wx hR h1 => by simp [execOp, h1, go_sem])) ?_
    refine Gc (lr1 PutD.refl rfl rfl rfl (fun _ _ h => h) (fun r wx hR h1 => exg oneSA rfl h1 (cv14 (hR.other HU.out.b1 HU.out.n13)))) ?_
    refine Gc (lr1 PutD.refl rfl rfl rfl (fun _ _ h => h) (fun r wx hR h1 => by simp [execOp, h1, go_sem])) ?_
    refine Gc ?_ ?_
    ·
     rintro r wx hR ⟨h1, h2, _⟩
     replace h1 : r (.tmp 36) = .pointer (some ⟨g3, 13, none⟩) := h1
     replace h2 : r (.tmp 33) = .slice s.rA s.rN s.rC := h2
     obtain ⟨C1, hb1, hs1, _⟩ := hR.it _ HU.out.b3
     exact give_skip (exec_set oneS rfl h1 h2 rfl rfl hb1 (by rw [hs1]; exact of_decide_eq_true rfl)) (doneAt_set hb1 (by rw [hs1]; exact of_decide_eq_true rfl) (x := undef) rfl)
    refine Gc (lr1 PutD.refl rfl rfl rfl (fun _ _ h => h) (fun r wx hR h1 => by simp [execOp, h1, go_sem])) ?_
    refine Gc ?_ ?_
    ·
     rintro r wx hR ⟨h1, h2, _⟩
     replace h1 : r (.tmp 37) = .pointer (some ⟨g3, 14, none⟩) := h1
     replace h2 : r (.tmp 35) = .slice s.aA s.aN s.aC := h2
     obtain ⟨C1, hb1, hs1, _⟩ := hR.it _ HU.out.b3
     exact give_skip (exec_set oneSA rfl h1 h2 rfl rfl hb1 (by rw [hs1]; exact of_decide_eq_true rfl)) (doneAt_set hb1 (by rw [hs1]; exact of_decide_eq_true rfl) (x := undef) rfl)
    exact GoodAll.nil
   ·
    intro vs w15 a7 hR hold ha7
    have hv0 : vs 0 = (.pointer (some ⟨g1, 13, none⟩)) := hold.at 0
    have hv1 : vs 1 = (.slice s.rA s.rN s.rC) := hold.at 1
    have hv2 : vs 2 = (.pointer (some ⟨g1, 14, none⟩)) := hold.at 2
    have hv3 : vs 3 = (.slice s.aA s.aN s.aC) := hold.at 3
    have hv4 : vs 4 = (.pointer (some ⟨g3, 13, none⟩)) := hold.at 4
    have hv6 : vs 6 = (.pointer (some ⟨g3, 14, none⟩)) := hold.at 6
    have hbw15 := hR.fin HU.out.b3 rfl (fun j hj => by
     match j with
     | 0 => exact .inr rfl
     | 1 => exact .inr rfl
     | 2 => exact .inr rfl
     | 3 => exact .inr rfl
     | 4 => exact .inr rfl
     | 5 => exact .inr rfl
     | 6 => exact .inr rfl
     | 7 => exact .inr rfl
     | 8 => exact .inr rfl
     | 9 => exact .inr rfl
     | 10 => exact .inr rfl
     | 11 => exact .inr rfl
     | 12 => exact .inr rfl
     | 13 => exact .inl (hold.at 5)
     | 14 => exact .inl (hold.at 7)
     | 15 => exact .inr rfl
     | 16 => exact .inr rfl
     | 17 => exact .inr rfl
     | 18 => exact .inr rfl
     | 19 => exact .inr rfl
     | 20 => exact .inr rfl
     | 21 => exact .inr rfl
     | j + 22 => exact absurd hj (by rw [CV.size]; omega))
    replace HU : Hid (UsedAt w w15 g1 g2 g3 c s (CV { ck0 1 with kind := 1, tag := c.tag, win := c.win, out := c.out, inn := c.inn, tsn := c.tsn, rand := c.rand, addrs := c.addrs } { sv0 with rA := s.rA, rN := s.rN, rC := s.rC, aA := s.aA, aN := s.aN, aC := s.aC })) := (HU.out.drew).next hbw15.1 hbw15.2
    simp only [putAll, Act.put, hv0, hv1, hv2, hv3, hv4, hv6, List.setIfInBounds_toArray, List.set_cons_succ, List.set_cons_zero] at ha7
    subst ha7
    clear hold hR hbw15 hv0 hv1 hv2 hv3 hv4 hv6
    have f0 := cv0 HU.out.b1
    go_wp2_with (first
     | (have q := HU; clear q; refine wl_load rfl rowC rfl rfl HU.out.b3 rfl ?_)
     | (have q := HU; clear q; refine wl_store (D := CV { ck0 1 with kind := 1, tag := c.tag, win := c.win, out := c.out, inn := c.inn, tsn := c.tsn, rand := c.rand, addrs := c.addrs } { sv0 with rA := s.rA, rN := s.rN, rC := s.rC, aA := s.aA, aN := s.aN, aC := s.aC }) rfl rowC rfl rfl rfl HU.out.b2 rfl rfl (CV.one _ _) ?_; intro w9 hb9 hk9 hx9; clear hx9))
    refine bodyPost_ret (results_cell_row (fn := Try.f35) (p := 2) rfl _ w9 _ _ _ (0, 0) _ rfl hb9 Try.underlying38 rfl (by kernel_rfl)) rfl ?_
    exact ⟨rfl, HU.out.ext.of_but hk9 (fun q e => by subst e; exact HU.out.lo)⟩
set_option maxHeartbeats 8000000 in
theorem used_2 {w : World} {c : Ck} {s : Sv} (hk : c.kind = 2) :
  Calls Try.prog 35 #[.agg (CV c s)] w fun e w' => e = .returned (.agg (CV (usedC c) (usedS c s))) ∧ Ext w w' := by
  have HE : Hid (usedC c = { ck0 2 with kind := 2, tag := c.tag, win := c.win, out := c.out, inn := c.inn, tsn := c.tsn, rand := c.rand, addrs := c.addrs, info := c.info } ∧ usedS c s = { sv0 with rA := s.rA, rN := s.rN, rC := s.rC, aA := s.aA, aN := s.aN, aC := s.aC, iA := s.iA, iN := s.iN, iC := s.iC }) := ⟨by simp [usedC, hk], by simp [usedS, hk]⟩
  rw [HE.out.1, HE.out.2]
  go_enter Try.func35, Try.ntmps35
  go_wp2_with (first
   | (refine wl_box (C := CV c s) rfl rfl rfl ?_; intro w1 hb1 he1 hx1; have HX1 : Hid (w1.heap.size = w.heap.size + 1) := hx1; clear hx1; have c0 := cv0 hb1)
   | (have q := he2; clear q; refine wl_alloc rfl rfl zeroC ?_; intro w3 hb3 he3 hx3; clear hx3; have d0 := cv0 ((hb1.ext he2).ext he3))
   | (refine wl_alloc rfl rfl zeroC ?_; intro w2 hb2 he2 hx2; have HX2 : Hid (w2.heap.size = w1.heap.size + 1) := hx2; clear hx2; have z0 := cv0 (hb1.ext he2))
   | (have q := HU; clear q; refine wl_load rfl rowC rfl rfl HU.out.b3 rfl ?_)
   | (have q := HU; clear q; refine wl_store (D := CV { ck0 2 with kind := 2, tag := c.tag, win := c.win, out := c.out, inn := c.inn, tsn := c.tsn, rand := c.rand, addrs := c.addrs, info := c.info } { sv0 with rA := s.rA, rN := s.rN, rC := s.rC, aA := s.aA, aN := s.aN, aC := s.aC, iA := s.iA, iN := s.iN, iC := s.iC }) rfl rowC rfl rfl rfl HU.out.b2 rfl rfl (CV.one _ _) ?_; intro w9 hb9 hk9 hx9; clear hx9)
   | (refine wl_store (D := CV (ck0 2) sv0) rfl rowC rfl rfl rfl hb3 rfl rfl (CV.one _ _) ?_; intro w4 hb4 hk4 hx4; clear hx4; have HU : Hid (UsedAt w w4 w.heap.size w1.heap.size w2.heap.size c s (CV (ck0 2) sv0)) := ⟨(((hb1.ext he2).ext he3).but hk4 (show ¬ _ = _ by have := HX1.out; have := HX2.out; omega)), ((hb2.ext he3).but hk4 (show ¬ _ = _ by have := HX1.out; have := HX2.out; omega)), hb4, ((he1.trans he2).trans he3).of_but hk4 (fun q e => by subst e; have := HX1.out; have := HX2.out; omega), (by have := HX1.out; have := HX2.out; omega), (by have := HX1.out; have := HX2.out; omega), (by have := HX1.out; have := HX2.out; omega), (by have := HX1.out; omega)⟩; clear c0 d0 z0 hb1 hb2 hb3 hb4 he1 he2 he3 hk4; have f0 := cv0 HU.out.b1; clear HX1 HX2; generalize w.heap.size = g1 at *; generalize w1.heap.size = g2 at *; generalize w2.heap.size = g3 at *))
  refine wp_region_facts (fun t => bif Nat.ble 17 t && Nat.ble t 27 then some (t - 17) else bif Nat.beq t 28 then some 12 else bif Nat.beq t 29 then some 14 else bif Nat.beq t 30 then some 16 else bif Nat.beq t 31 then some 18 else none) 94 (PutD g3 38 (CV { ck0 2 with kind := 2, tag := c.tag, win := c.win, out := c.out, inn := c.inn, tsn := c.tsn } sv0))
   [Is (.pointer (some ⟨g1, 8, none⟩)), Is (.int .u32 (c.tag : Int)), Is (.pointer (some ⟨g1, 9, none⟩)), Is (.int .i64 c.win), Is (.pointer (some ⟨g1, 10, none⟩)), Is (.int .i64 c.out), Is (.pointer (some ⟨g1, 11, none⟩)), Is (.int .i64 c.inn), Is (.pointer (some ⟨g1, 12, none⟩)), Is (.int .u32 (c.tsn : Int)), Is (.pointer (some ⟨g3, 8, none⟩)), DoneAt g3 38 (CV { ck0 2 with kind := 2, tag := c.tag, win := c.win, out := c.out, inn := c.inn, tsn := c.tsn } sv0) 8, Is (.pointer (some ⟨g3, 9, none⟩)), DoneAt g3 38 (CV { ck0 2 with kind := 2, tag := c.tag, win := c.win, out := c.out, inn := c.inn, tsn := c.tsn } sv0) 9, Is (.pointer (some ⟨g3, 10, none⟩)), DoneAt g3 38 (CV { ck0 2 with kind := 2, tag := c.tag, win := c.win, out := c.out, inn := c.inn, tsn := c.tsn } sv0) 10, Is (.pointer (some ⟨g3, 11, none⟩)), DoneAt g3 38 (CV { ck0 2 with kind := 2, tag := c.tag, win := c.win, out := c.out, inn := c.inn, tsn := c.tsn } sv0) 11, Is (.pointer (some ⟨g3, 12, none⟩)), DoneAt g3 38 (CV { ck0 2 with kind := 2, tag := c.tag, win := c.win, out := c.out, inn := c.inn, tsn := c.tsn } sv0) 12]
   rfl (by kernel_rfl) (by kernel_rfl) rfl PutD.refl (fun _ _ _ => PutD.trans) ?_ ?_ ?_
  ·
   exact Ks (Ks (Ks (Ks (Ks (Ks (Ks (Ks (Ks (Ks (Ks (KeepAll.cons (fun _ _ _ h k => PutD.done k h) (Ks (KeepAll.cons (fun _ _ _ h k => PutD.done k h) (Ks (KeepAll.cons (fun _ _ _ h k => PutD.done k h) (Ks (KeepAll.cons (fun _ _ _ h k => PutD.done k h) (Ks (KeepAll.cons (fun _ _ _ h k => PutD.done k h) (KeepAll.nil))))))))))))))))))))
  ·
   refine Gc (lr1 PutD.refl rfl rfl rfl (fun _ _ h => h) (fun r wx hR h1 => by simp [execOp, h1, go_sem])) ?_
   refine Gc (lr1 PutD.refl rfl rfl rfl (fun _ _ h => h) (fun r wx hR h1 => exg one22 rfl h1 (cv8 (hR.other HU.out.b1 HU.out.n13)))) ?_
   refine Gc (lr1 PutD.refl rfl rfl rfl (fun _ _ h => h) (fun r wx hR h1 => by simp [execOp, h1, go_sem])) ?_
   refine Gc (lr1 PutD.refl rfl rfl rfl (fun _ _ h => h) (fun r wx hR h1 => exg one3 rfl h1 (cv9 (hR.other HU.out.b1 HU.out.n13)))) ?_
   refine Gc (lr1 PutD.refl rfl rfl rfl (fun _ _ h => h) (fun r wx hR h1 => by simp [execOp, h1, go_sem])) ?_
   refine Gc (lr1 PutD.refl rfl rfl rfl (fun _ _ h => h) (fun r wx hR h1 => exg one3 rfl h1 (cv10 (hR.other HU.out.b1 HU.out.n13)))) ?_
   refine Gc (lr1 PutD.refl rfl rfl rfl (fun _ _ h => h) (fun r wx hR h1 => by simp [execOp, h1, go_sem])) ?_
   refine Gc (lr1 PutD.refl rfl rfl rfl (fun _ _ h => h) (fun r wx hR h1 => exg one3 rfl h1 (cv11 (hR.other HU.out.b1 HU.out.n13)))) ?_
   refine Gc (lr1 PutD.refl rfl rfl rfl (fun _ _ h => h) (fun r wx hR h1 => by simp [execOp, h1, go_sem])) ?_
   refine Gc (lr1 PutD.refl rfl rfl rfl (fun _ _ h => h) (fun r wx hR h1 => exg one22 rfl h1 (cv12 (hR.other HU.out.b1 HU.out.n13)))) ?_
   refine Gc (lr1 PutD.refl rfl rfl rfl (fun _ _ h => h) (fun r wx hR h1 => by simp [execOp, h1, go_sem])) ?_
   refine Gc ?_ ?_
   ·
    rintro r wx hR ⟨h1, h2, _⟩
    replace h1 : r (.tmp 27) = .pointer (some ⟨g3, 8, none⟩) := h1
    replace h2 : r (.tmp 18) = .int .u32 (c.tag : Int) := h2
    obtain ⟨C1, hb1, hs1, _⟩ := hR.it _ HU.out.b3
    exact give_skip (exec_set one22 rfl h1 h2 rfl rfl hb1 (by rw [hs1]; exact of_decide_eq_true rfl)) (doneAt_set hb1 (by rw [hs1]; exact of_decide_eq_true rfl) (x := undef) rfl)
   refine Gc (lr1 PutD.refl rfl rfl rfl (fun _ _ h => h) (fun r wx hR h1 => by simp [execOp, h1, go_sem])) ?_
   refine Gc ?_ ?_
   ·
    rintro r wx hR ⟨h1, h2, _⟩
    replace h1 : r (.tmp 28) = .pointer (some ⟨g3, 9, none⟩) := h1
    replace h2 : r (.tmp 20) = .int .i64 c.win := h2
    obtain ⟨C1, hb1, hs1, _⟩ := hR.it _ HU.out.b3
    exact give_skip (exec_set one3 rfl h1 h2 rfl rfl hb1 (by rw [hs1]; exact of_decide_eq_true rfl)) (doneAt_set hb1 (by rw [hs1]; exact of_decide_eq_true rfl) (x := undef) rfl)
   refine Gc (lr1 PutD.refl rfl rfl rfl (fun _ _ h => h) (fun r wx hR h1 => by simp [execOp, h1, go_sem])) ?_
   refine Gc ?_ ?_
   ·
    rintro r wx hR ⟨h1, h2, _⟩
    replace h1 : r (.tmp 29) = .pointer (some ⟨g3, 10, none⟩) := h1
    replace h2 : r (.tmp 22) = .int .i64 c.out := h2
    obtain ⟨C1, hb1, hs1, _⟩ := hR.it _ HU.out.b3
    exact give_skip (exec_set one3 rfl h1 h2 rfl rfl hb1 (by rw [hs1]; exact of_decide_eq_true rfl)) (doneAt_set hb1 (by rw [hs1]; exact of_decide_eq_true rfl) (x := undef) rfl)
   refine Gc (lr1 PutD.refl rfl rfl rfl (fun _ _ h => h) (fun r wx hR h1 => by simp [execOp, h1, go_sem])) ?_
   refine Gc ?_ ?_
   ·
    rintro r wx hR ⟨h1, h2, _⟩
    replace h1 : r (.tmp 30) = .pointer (some ⟨g3, 11, none⟩) := h1
    replace h2 : r (.tmp 24) = .int .i64 c.inn := h2
    obtain ⟨C1, hb1, hs1, _⟩ := hR.it _ HU.out.b3
    exact give_skip (exec_set one3 rfl h1 h2 rfl rfl hb1 (by rw [hs1]; exact of_decide_eq_true rfl)) (doneAt_set hb1 (by rw [hs1]; exact of_decide_eq_true rfl) (x := undef) rfl)
   refine Gc (lr1 PutD.refl rfl rfl rfl (fun _ _ h => h) (fun r wx hR h1 => by simp [execOp, h1, go_sem])) ?_
   refine Gc ?_ ?_
   ·
    rintro r wx hR ⟨h1, h2, _⟩
    replace h1 : r (.tmp 31) = .pointer (some ⟨g3, 12, none⟩) := h1
    replace h2 : r (.tmp 26) = .int .u32 (c.tsn : Int) := h2
    obtain ⟨C1, hb1, hs1, _⟩ := hR.it _ HU.out.b3
    exact give_skip (exec_set one22 rfl h1 h2 rfl rfl hb1 (by rw [hs1]; exact of_decide_eq_true rfl)) (doneAt_set hb1 (by rw [hs1]; exact of_decide_eq_true rfl) (x := undef) rfl)
   exact GoodAll.nil
  ·
   intro vs w14 a7 hR hold ha7
   have hv0 : vs 0 = (.pointer (some ⟨g1, 8, none⟩)) := hold.at 0
   have hv1 : vs 1 = (.int .u32 (c.tag : Int)) := hold.at 1
   have hv2 : vs 2 = (.pointer (some ⟨g1, 9, none⟩)) := hold.at 2
   have hv3 : vs 3 = (.int .i64 c.win) := hold.at 3
   have hv4 : vs 4 = (.pointer (some ⟨g1, 10, none⟩)) := hold.at 4
   have hv5 : vs 5 = (.int .i64 c.out) := hold.at 5
   have hv6 : vs 6 = (.pointer (some ⟨g1, 11, none⟩)) := hold.at 6
   have hv7 : vs 7 = (.int .i64 c.inn) := hold.at 7
   have hv8 : vs 8 = (.pointer (some ⟨g1, 12, none⟩)) := hold.at 8
   have hv9 : vs 9 = (.int .u32 (c.tsn : Int)) := hold.at 9
   have hv10 : vs 10 = (.pointer (some ⟨g3, 8, none⟩)) := hold.at 10
   have hv12 : vs 12 = (.pointer (some ⟨g3, 9, none⟩)) := hold.at 12
   have hv14 : vs 14 = (.pointer (some ⟨g3, 10, none⟩)) := hold.at 14
   have hv16 : vs 16 = (.pointer (some ⟨g3, 11, none⟩)) := hold.at 16
   have hv18 : vs 18 = (.pointer (some ⟨g3, 12, none⟩)) := hold.at 18
   have hbw14 := hR.fin HU.out.b3 rfl (fun j hj => by
    match j with
    | 0 => exact .inr rfl
    | 1 => exact .inr rfl
    | 2 => exact .inr rfl
    | 3 => exact .inr rfl
    | 4 => exact .inr rfl
    | 5 => exact .inr rfl
    | 6 => exact .inr rfl
    | 7 => exact .inr rfl
    | 8 => exact .inl (hold.at 11)
    | 9 => exact .inl (hold.at 13)
    | 10 => exact .inl (hold.at 15)
    | 11 => exact .inl (hold.at 17)
    | 12 => exact .inl (hold.at 19)
    | 13 => exact .inr rfl
    | 14 => exact .inr rfl
    | 15 => exact .inr rfl
    | 16 => exact .inr rfl
    | 17 => exact .inr rfl
    | 18 => exact .inr rfl
    | 19 => exact .inr rfl
    | 20 => exact .inr rfl
    | 21 => exact .inr rfl
    | j + 22 => exact absurd hj (by rw [CV.size]; omega))
   replace HU : Hid (UsedAt w w14 g1 g2 g3 c s (CV { ck0 2 with kind := 2, tag := c.tag, win := c.win, out := c.out, inn := c.inn, tsn := c.tsn } sv0)) := (HU.out.drew).next hbw14.1 hbw14.2
   simp only [putAll, Act.put, hv0, hv1, hv2, hv3, hv4, hv5, hv6, hv7, hv8, hv9, hv10, hv12, hv14, hv16, hv18, List.setIfInBounds_toArray, List.set_cons_succ, List.set_cons_zero] at ha7
   subst ha7
   clear hold hR hbw14 hv0 hv1 hv2 hv3 hv4 hv5 hv6 hv7 hv8 hv9 hv10 hv12 hv14 hv16 hv18
   have f0 := cv0 HU.out.b1
   go_wp2_with (first
    | (have q := HU; clear q; refine wl_load rfl rowC rfl rfl HU.out.b3 rfl ?_)
    | (have q := HU; clear q; refine wl_store (D := CV { ck0 2 with kind := 2, tag := c.tag, win := c.win, out := c.out, inn := c.inn, tsn := c.tsn, rand := c.rand, addrs := c.addrs, info := c.info } { sv0 with rA := s.rA, rN := s.rN, rC := s.rC, aA := s.aA, aN := s.aN, aC := s.aC, iA := s.iA, iN := s.iN, iC := s.iC }) rfl rowC rfl rfl rfl HU.out.b2 rfl rfl (CV.one _ _) ?_; intro w9 hb9 hk9 hx9; clear hx9))
   refine wp_region_facts (fun t => bif Nat.ble 32 t && Nat.ble t 36 then some (t - 32) else bif Nat.beq t 37 then some 6 else none) 94 (PutD g3 38 (CV { ck0 2 with kind := 2, tag := c.tag, win := c.win, out := c.out, inn := c.inn, tsn := c.tsn, rand := c.rand, addrs := c.addrs } { sv0 with rA := s.rA, rN := s.rN, rC := s.rC, aA := s.aA, aN := s.aN, aC := s.aC }))
    [Is (.pointer (some ⟨g1, 13, none⟩)), Is (.slice s.rA s.rN s.rC), Is (.pointer (some ⟨g1, 14, none⟩)), Is (.slice s.aA s.aN s.aC), Is (.pointer (some ⟨g3, 13, none⟩)), DoneAt g3 38 (CV { ck0 2 with kind := 2, tag := c.tag, win := c.win, out := c.out, inn := c.inn, tsn := c.tsn, rand := c.rand, addrs := c.addrs } { sv0 with rA := s.rA, rN := s.rN, rC := s.rC, aA := s.aA, aN := s.aN, aC := s.aC }) 13, Is (.pointer (some ⟨g3, 14, none⟩)), DoneAt g3 38 (CV { ck0 2 with kind := 2, tag := c.tag, win := c.win, out := c.out, inn := c.inn, tsn := c.tsn, rand := c.rand, addrs := c.addrs } { sv0 with rA := s.rA, rN := s.rN, rC := s.rC, aA := s.aA, aN := s.aN, aC := s.aC }) 14]
    rfl (by kernel_rfl) (by kernel_rfl) rfl PutD.refl (fun _ _ _ => PutD.trans) ?_ ?_ ?_
   ·
    exact Ks (Ks (Ks (Ks (Ks (KeepAll.cons (fun _ _ _ h k => PutD.done k h) (Ks (KeepAll.cons (fun _ _ _ h k => PutD.done k h) (KeepAll.nil))))))))
   ·
    refine Gc (lr1 PutD.refl rfl rfl rfl (fun _ _ h => h) (fun r wx hR h1 => by simp [execOp, h1, go_sem])) ?_
    refine Gc (lr1 PutD.refl rfl rfl rfl (fun _ _ h => h) (fun r wx hR h1 => exg oneS rfl h1 (cv13 (hR.other HU.out.b1 HU.out.n13)))) ?_
    refine Gc (lr1 PutD.refl rfl rfl rfl (fun _ _ h => h) (fun r wx hR h1 => by simp [execOp, h1, go_sem])) ?_
    refine Gc (lr1 PutD.refl rfl rfl rfl (fun _ _ h => h) (fun r wx hR h1 => exg oneSA rfl h1 (cv14 (hR.other HU.out.b1 HU.out.n13)))) ?_
    refine Gc (lr1 PutD.refl rfl rfl rfl (fun _ _ h => h) (fun r wx hR h1 => by simp [execOp, h1, go_sem])) ?_
    refine Gc ?_ ?_
    ·
     rintro r wx hR ⟨h1, h2, _⟩
     replace h1 : r (.tmp 36) = .pointer (some ⟨g3, 13, none⟩) := h1
     replace h2 : r (.tmp 33) = .slice s.rA s.rN s.rC := h2
     obtain ⟨C1, hb1, hs1, _⟩ := hR.it _ HU.out.b3
     exact give_skip (exec_set oneS rfl h1 h2 rfl rfl hb1 (by rw [hs1]; exact of_decide_eq_true rfl)) (doneAt_set hb1 (by rw [hs1]; exact of_decide_eq_true rfl) (x := undef) rfl)
    refine Gc (lr1 PutD.refl rfl rfl rfl (fun _ _ h => h) (fun r wx hR h1 => by simp [execOp, h1, go_sem])) ?_
    refine Gc ?_ ?_
    ·
     rintro r wx hR ⟨h1, h2, _⟩
     replace h1 : r (.tmp 37) = .pointer (some ⟨g3, 14, none⟩) := h1
     replace h2 : r (.tmp 35) = .slice s.aA s.aN s.aC := h2
     obtain ⟨C1, hb1, hs1, _⟩ := hR.it _ HU.out.b3
     exact give_skip (exec_set oneSA rfl h1 h2 rfl rfl hb1 (by rw [hs1]; exact of_decide_eq_true rfl)) (doneAt_set hb1 (by rw [hs1]; exact of_decide_eq_true rfl) (x := undef) rfl)
    exact GoodAll.nil
   ·
    intro vs w15 a7 hR hold ha7
    have hv0 : vs 0 = (.pointer (some ⟨g1, 13, none⟩)) := hold.at 0
    have hv1 : vs 1 = (.slice s.rA s.rN s.rC) := hold.at 1
    have hv2 : vs 2 = (.pointer (some ⟨g1, 14, none⟩)) := hold.at 2
    have hv3 : vs 3 = (.slice s.aA s.aN s.aC) := hold.at 3
    have hv4 : vs 4 = (.pointer (some ⟨g3, 13, none⟩)) := hold.at 4
    have hv6 : vs 6 = (.pointer (some ⟨g3, 14, none⟩)) := hold.at 6
    have hbw15 := hR.fin HU.out.b3 rfl (fun j hj => by
     match j with
     | 0 => exact .inr rfl
     | 1 => exact .inr rfl
     | 2 => exact .inr rfl
     | 3 => exact .inr rfl
     | 4 => exact .inr rfl
     | 5 => exact .inr rfl
     | 6 => exact .inr rfl
     | 7 => exact .inr rfl
     | 8 => exact .inr rfl
     | 9 => exact .inr rfl
     | 10 => exact .inr rfl
     | 11 => exact .inr rfl
     | 12 => exact .inr rfl
     | 13 => exact .inl (hold.at 5)
     | 14 => exact .inl (hold.at 7)
     | 15 => exact .inr rfl
     | 16 => exact .inr rfl
     | 17 => exact .inr rfl
     | 18 => exact .inr rfl
     | 19 => exact .inr rfl
     | 20 => exact .inr rfl
     | 21 => exact .inr rfl
     | j + 22 => exact absurd hj (by rw [CV.size]; omega))
    replace HU : Hid (UsedAt w w15 g1 g2 g3 c s (CV { ck0 2 with kind := 2, tag := c.tag, win := c.win, out := c.out, inn := c.inn, tsn := c.tsn, rand := c.rand, addrs := c.addrs } { sv0 with rA := s.rA, rN := s.rN, rC := s.rC, aA := s.aA, aN := s.aN, aC := s.aC })) := (HU.out.drew).next hbw15.1 hbw15.2
    simp only [putAll, Act.put, hv0, hv1, hv2, hv3, hv4, hv6, List.setIfInBounds_toArray, List.set_cons_succ, List.set_cons_zero] at ha7
    subst ha7
    clear hold hR hbw15 hv0 hv1 hv2 hv3 hv4 hv6
    have f0 := cv0 HU.out.b1
    have f1 := cv15 HU.out.b1
    go_wp2_with (first
     | (have q := HU; clear q; refine wl_load rfl rowC rfl rfl HU.out.b3 rfl ?_)
     | (have q := HU; clear q; refine wl_store (D := CV { ck0 2 with kind := 2, tag := c.tag, win := c.win, out := c.out, inn := c.inn, tsn := c.tsn, rand := c.rand, addrs := c.addrs, info := c.info } { sv0 with rA := s.rA, rN := s.rN, rC := s.rC, aA := s.aA, aN := s.aN, aC := s.aC, iA := s.iA, iN := s.iN, iC := s.iC }) rfl rowC rfl rfl rfl HU.out.b2 rfl rfl (CV.one _ _) ?_; intro w9 hb9 hk9 hx9; clear hx9)
     | (have q := HU; clear q; refine wl_set (v := .slice s.iA s.iN s.iC) rfl oneS rfl rfl rfl rfl rfl HU.out.b3 (of_decide_eq_true rfl) ?_; intro w7 hb7 hk7 hx7; clear hx7; replace HU : Hid (UsedAt w w7 g1 g2 g3 c s (CV { ck0 2 with kind := 2, tag := c.tag, win := c.win, out := c.out, inn := c.inn, tsn := c.tsn, rand := c.rand, addrs := c.addrs, info := c.info } { sv0 with rA := s.rA, rN := s.rN, rC := s.rC, aA := s.aA, aN := s.aN, aC := s.aC, iA := s.iA, iN := s.iN, iC := s.iC })) := HU.out.next hb7 hk7))
    refine bodyPost_ret (results_cell_row (fn := Try.f35) (p := 2) rfl _ w9 _ _ _ (0, 0) _ rfl hb9 Try.underlying38 rfl (by kernel_rfl)) rfl ?_
    exact ⟨rfl, HU.out.ext.of_but hk9 (fun q e => by subst e; exact HU.out.lo)⟩
set_option maxHeartbeats 8000000 in
theorem used_3 {w : World} {c : Ck} {s : Sv} (hk : c.kind = 3) :
  Calls Try.prog 35 #[.agg (CV c s)] w fun e w' => e = .returned (.agg (CV (usedC c) (usedS c s))) ∧ Ext w w' := by
  have HE : Hid (usedC c = { ck0 3 with kind := 3, tsn := c.tsn, win := c.win, gaps := c.gaps, dups := c.dups } ∧ usedS c s = { sv0 with gA := s.gA, gN := s.gN, gC := s.gC, dA := s.dA, dN := s.dN, dC := s.dC }) := ⟨by simp [usedC, hk], by simp [usedS, hk]⟩
  rw [HE.out.1, HE.out.2]
  go_enter Try.func35, Try.ntmps35
  go_wp2_with (first
   | (refine wl_box (C := CV c s) rfl rfl rfl ?_; intro w1 hb1 he1 hx1; have HX1 : Hid (w1.heap.size = w.heap.size + 1) := hx1; clear hx1; have c0 := cv0 hb1)
   | (have q := he2; clear q; refine wl_alloc rfl rfl zeroC ?_; intro w3 hb3 he3 hx3; clear hx3; have d0 := cv0 ((hb1.ext he2).ext he3))
   | (refine wl_alloc rfl rfl zeroC ?_; intro w2 hb2 he2 hx2; have HX2 : Hid (w2.heap.size = w1.heap.size + 1) := hx2; clear hx2; have z0 := cv0 (hb1.ext he2))
   | (have q := HU; clear q; refine wl_load rfl rowC rfl rfl HU.out.b3 rfl ?_)
   | (have q := HU; clear q; refine wl_store (D := CV { ck0 3 with kind := 3, tsn := c.tsn, win := c.win, gaps := c.gaps, dups := c.dups } { sv0 with gA := s.gA, gN := s.gN, gC := s.gC, dA := s.dA, dN := s.dN, dC := s.dC }) rfl rowC rfl rfl rfl HU.out.b2 rfl rfl (CV.one _ _) ?_; intro w9 hb9 hk9 hx9; clear hx9)
   | (refine wl_store (D := CV (ck0 3) sv0) rfl rowC rfl rfl rfl hb3 rfl rfl (CV.one _ _) ?_; intro w4 hb4 hk4 hx4; clear hx4; have HU : Hid (UsedAt w w4 w.heap.size w1.heap.size w2.heap.size c s (CV (ck0 3) sv0)) := ⟨(((hb1.ext he2).ext he3).but hk4 (show ¬ _ = _ by have := HX1.out; have := HX2.out; omega)), ((hb2.ext he3).but hk4 (show ¬ _ = _ by have := HX1.out; have := HX2.out; omega)), hb4, ((he1.trans he2).trans he3).of_but hk4 (fun q e => by subst e; have := HX1.out; have := HX2.out; omega), (by have := HX1.out; have := HX2.out; omega), (by have := HX1.out; have := HX2.out; omega), (by have := HX1.out; have := HX2.out; omega), (by have := HX1.out; omega)⟩; clear c0 d0 z0 hb1 hb2 hb3 hb4 he1 he2 he3 hk4; have f0 := cv0 HU.out.b1; clear HX1 HX2; generalize w.heap.size = g1 at *; generalize w1.heap.size = g2 at *; generalize w2.heap.size = g3 at *))
  refine wp_region_facts (fun t => bif Nat.ble 46 t && Nat.ble t 54 then some (t - 46) else bif Nat.beq t 55 then some 10 else bif Nat.beq t 56 then some 12 else bif Nat.beq t 57 then some 14 else none) 94 (PutD g3 38 (CV { ck0 3 with kind := 3, tsn := c.tsn, win := c.win, gaps := c.gaps, dups := c.dups } { sv0 with gA := s.gA, gN := s.gN, gC := s.gC, dA := s.dA, dN := s.dN, dC := s.dC }))
   [Is (.pointer (some ⟨g1, 12, none⟩)), Is (.int .u32 (c.tsn : Int)), Is (.pointer (some ⟨g1, 9, none⟩)), Is (.int .i64 c.win), Is (.pointer (some ⟨g1, 16, none⟩)), Is (.slice s.gA s.gN s.gC), Is (.pointer (some ⟨g1, 17, none⟩)), Is (.slice s.dA s.dN s.dC), Is (.pointer (some ⟨g3, 12, none⟩)), DoneAt g3 38 (CV { ck0 3 with kind := 3, tsn := c.tsn, win := c.win, gaps := c.gaps, dups := c.dups } { sv0 with gA := s.gA, gN := s.gN, gC := s.gC, dA := s.dA, dN := s.dN, dC := s.dC }) 12, Is (.pointer (some ⟨g3, 9, none⟩)), DoneAt g3 38 (CV { ck0 3 with kind := 3, tsn := c.tsn, win := c.win, gaps := c.gaps, dups := c.dups } { sv0 with gA := s.gA, gN := s.gN, gC := s.gC, dA := s.dA, dN := s.dN, dC := s.dC }) 9, Is (.pointer (some ⟨g3, 16, none⟩)), DoneAt g3 38 (CV { ck0 3 with kind := 3, tsn := c.tsn, win := c.win, gaps := c.gaps, dups := c.dups } { sv0 with gA := s.gA, gN := s.gN, gC := s.gC, dA := s.dA, dN := s.dN, dC := s.dC }) 16, Is (.pointer (some ⟨g3, 17, none⟩)), DoneAt g3 38 (CV { ck0 3 with kind := 3, tsn := c.tsn, win := c.win, gaps := c.gaps, dups := c.dups } { sv0 with gA := s.gA, gN := s.gN, gC := s.gC, dA := s.dA, dN := s.dN, dC := s.dC }) 17]
   rfl (by kernel_rfl) (by kernel_rfl) rfl PutD.refl (fun _ _ _ => PutD.trans) ?_ ?_ ?_
  ·
   exact Ks (Ks (Ks (Ks (Ks (Ks (Ks (Ks (Ks (KeepAll.cons (fun _ _ _ h k => PutD.done k h) (Ks (KeepAll.cons (fun _ _ _ h k => PutD.done k h) (Ks (KeepAll.cons (fun _ _ _ h k => PutD.done k h) (Ks (KeepAll.cons (fun _ _ _ h k => PutD.done k h) (KeepAll.nil))))))))))))))))
  ·
   refine Gc (lr1 PutD.refl rfl rfl rfl (fun _ _ h => h) (fun r wx hR h1 => by simp [execOp, h1, go_sem])) ?_
   refine Gc (lr1 PutD.refl rfl rfl rfl (fun _ _ h => h) (fun r wx hR h1 => exg one22 rfl h1 (cv12 (hR.other HU.out.b1 HU.out.n13)))) ?_
   refine Gc (lr1 PutD.refl rfl rfl rfl (fun _ _ h => h) (fun r wx hR h1 => by simp [execOp, h1, go_sem])) ?_
   refine Gc (lr1 PutD.refl rfl rfl rfl (fun _ _ h => h) (fun r wx hR h1 => exg one3 rfl h1 (cv9 (hR.other HU.out.b1 HU.out.n13)))) ?_
   refine Gc (lr1 PutD.refl rfl rfl rfl (fun _ _ h => h) (fun r wx hR h1 => by simp [execOp, h1, go_sem])) ?_
   refine Gc (lr1 PutD.refl rfl rfl rfl (fun _ _ h => h) (fun r wx hR h1 => exg oneSG rfl h1 (cv16 (hR.other HU.out.b1 HU.out.n13)))) ?_
   refine Gc (lr1 PutD.refl rfl rfl rfl (fun _ _ h => h) (fun r wx hR h1 => by simp [execOp, h1, go_sem])) ?_
   refine Gc (lr1 PutD.refl rfl rfl rfl (fun _ _ h => h) (fun r wx hR h1 => exg oneSD rfl h1 (cv17 (hR.other HU.out.b1 HU.out.n13)))) ?_
   refine Gc (lr1 PutD.refl rfl rfl rfl (fun _ _ h => h) (fun r wx hR h1 => by simp [execOp, h1, go_sem])) ?_
   refine Gc ?_ ?_
   ·
    rintro r wx hR ⟨h1, h2, _⟩
    replace h1 : r (.tmp 54) = .pointer (some ⟨g3, 12, none⟩) := h1
    replace h2 : r (.tmp 47) = .int .u32 (c.tsn : Int) := h2
    obtain ⟨C1, hb1, hs1, _⟩ := hR.it _ HU.out.b3
    exact give_skip (exec_set one22 rfl h1 h2 rfl rfl hb1 (by rw [hs1]; exact of_decide_eq_true rfl)) (doneAt_set hb1 (by rw [hs1]; exact of_decide_eq_true rfl) (x := undef) rfl)
   refine Gc (lr1 PutD.refl rfl rfl rfl (fun _ _ h => h) (fun r wx hR h1 => by simp [execOp, h1, go_sem])) ?_
   refine Gc ?_ ?_
   ·
    rintro r wx hR ⟨h1, h2, _⟩
    replace h1 : r (.tmp 55) = .pointer (some ⟨g3, 9, none⟩) := h1
    replace h2 : r (.tmp 49) = .int .i64 c.win := h2
    obtain ⟨C1, hb1, hs1, _⟩ := hR.it _ HU.out.b3
    exact give_skip (exec_set one3 rfl h1 h2 rfl rfl hb1 (by rw [hs1]; exact of_decide_eq_true rfl)) (doneAt_set hb1 (by rw [hs1]; exact of_decide_eq_true rfl) (x := undef) rfl)
   refine Gc (lr1 PutD.refl rfl rfl rfl (fun _ _ h => h) (fun r wx hR h1 => by simp [execOp, h1, go_sem])) ?_
   refine Gc ?_ ?_
   ·
    rintro r wx hR ⟨h1, h2, _⟩
    replace h1 : r (.tmp 56) = .pointer (some ⟨g3, 16, none⟩) := h1
    replace h2 : r (.tmp 51) = .slice s.gA s.gN s.gC := h2
    obtain ⟨C1, hb1, hs1, _⟩ := hR.it _ HU.out.b3
    exact give_skip (exec_set oneSG rfl h1 h2 rfl rfl hb1 (by rw [hs1]; exact of_decide_eq_true rfl)) (doneAt_set hb1 (by rw [hs1]; exact of_decide_eq_true rfl) (x := undef) rfl)
   refine Gc (lr1 PutD.refl rfl rfl rfl (fun _ _ h => h) (fun r wx hR h1 => by simp [execOp, h1, go_sem])) ?_
   refine Gc ?_ ?_
   ·
    rintro r wx hR ⟨h1, h2, _⟩
    replace h1 : r (.tmp 57) = .pointer (some ⟨g3, 17, none⟩) := h1
    replace h2 : r (.tmp 53) = .slice s.dA s.dN s.dC := h2
    obtain ⟨C1, hb1, hs1, _⟩ := hR.it _ HU.out.b3
    exact give_skip (exec_set oneSD rfl h1 h2 rfl rfl hb1 (by rw [hs1]; exact of_decide_eq_true rfl)) (doneAt_set hb1 (by rw [hs1]; exact of_decide_eq_true rfl) (x := undef) rfl)
   exact GoodAll.nil
  ·
   intro vs w14 a7 hR hold ha7
   have hv0 : vs 0 = (.pointer (some ⟨g1, 12, none⟩)) := hold.at 0
   have hv1 : vs 1 = (.int .u32 (c.tsn : Int)) := hold.at 1
   have hv2 : vs 2 = (.pointer (some ⟨g1, 9, none⟩)) := hold.at 2
   have hv3 : vs 3 = (.int .i64 c.win) := hold.at 3
   have hv4 : vs 4 = (.pointer (some ⟨g1, 16, none⟩)) := hold.at 4
   have hv5 : vs 5 = (.slice s.gA s.gN s.gC) := hold.at 5
   have hv6 : vs 6 = (.pointer (some ⟨g1, 17, none⟩)) := hold.at 6
   have hv7 : vs 7 = (.slice s.dA s.dN s.dC) := hold.at 7
   have hv8 : vs 8 = (.pointer (some ⟨g3, 12, none⟩)) := hold.at 8
   have hv10 : vs 10 = (.pointer (some ⟨g3, 9, none⟩)) := hold.at 10
   have hv12 : vs 12 = (.pointer (some ⟨g3, 16, none⟩)) := hold.at 12
   have hv14 : vs 14 = (.pointer (some ⟨g3, 17, none⟩)) := hold.at 14
   have hbw14 := hR.fin HU.out.b3 rfl (fun j hj => by
    match j with
    | 0 => exact .inr rfl
    | 1 => exact .inr rfl
    | 2 => exact .inr rfl
    | 3 => exact .inr rfl
    | 4 => exact .inr rfl
    | 5 => exact .inr rfl
    | 6 => exact .inr rfl
    | 7 => exact .inr rfl
    | 8 => exact .inr rfl
    | 9 => exact .inl (hold.at 11)
    | 10 => exact .inr rfl
    | 11 => exact .inr rfl
    | 12 => exact .inl (hold.at 9)
    | 13 => exact .inr rfl
    | 14 => exact .inr rfl
    | 15 => exact .inr rfl
    | 16 => exact .inl (hold.at 13)
    | 17 => exact .inl (hold.at 15)
    | 18 => exact .inr rfl
    | 19 => exact .inr rfl
    | 20 => exact .inr rfl
    | 21 => exact .inr rfl
    | j + 22 => exact absurd hj (by rw [CV.size]; omega))
   replace HU : Hid (UsedAt w w14 g1 g2 g3 c s (CV { ck0 3 with kind := 3, tsn := c.tsn, win := c.win, gaps := c.gaps, dups := c.dups } { sv0 with gA := s.gA, gN := s.gN, gC := s.gC, dA := s.dA, dN := s.dN, dC := s.dC })) := (HU.out.drew).next hbw14.1 hbw14.2
   simp only [putAll, Act.put, hv0, hv1, hv2, hv3, hv4, hv5, hv6, hv7, hv8, hv10, hv12, hv14, List.setIfInBounds_toArray, List.set_cons_succ, List.set_cons_zero] at ha7
   subst ha7
   clear hold hR hbw14 hv0 hv1 hv2 hv3 hv4 hv5 hv6 hv7 hv8 hv10 hv12 hv14
   have f0 := cv0 HU.out.b1
   go_wp2_with (first
    | (have q := HU; clear q; refine wl_load rfl rowC rfl rfl HU.out.b3 rfl ?_)
    | (have q := HU; clear q; refine wl_store (D := CV { ck0 3 with kind := 3, tsn := c.tsn, win := c.win, gaps := c.gaps, dups := c.dups } { sv0 with gA := s.gA, gN := s.gN, gC := s.gC, dA := s.dA, dN := s.dN, dC := s.dC }) rfl rowC rfl rfl rfl HU.out.b2 rfl rfl (CV.one _ _) ?_; intro w9 hb9 hk9 hx9; clear hx9))
   refine bodyPost_ret (results_cell_row (fn := Try.f35) (p := 2) rfl _ w9 _ _ _ (0, 0) _ rfl hb9 Try.underlying38 rfl (by kernel_rfl)) rfl ?_
   exact ⟨rfl, HU.out.ext.of_but hk9 (fun q e => by subst e; exact HU.out.lo)⟩
set_option maxHeartbeats 8000000 in
theorem used_4 {w : World} {c : Ck} {s : Sv} (hk : c.kind = 4) :
  Calls Try.prog 35 #[.agg (CV c s)] w fun e w' => e = .returned (.agg (CV (usedC c) (usedS c s))) ∧ Ext w w' := by
  have HE : Hid (usedC c = { ck0 4 with kind := 4, info := c.info } ∧ usedS c s = { sv0 with iA := s.iA, iN := s.iN, iC := s.iC }) := ⟨by simp [usedC, hk], by simp [usedS, hk]⟩
  rw [HE.out.1, HE.out.2]
  go_enter Try.func35, Try.ntmps35
  go_wp2_with (first
   | (refine wl_box (C := CV c s) rfl rfl rfl ?_; intro w1 hb1 he1 hx1; have HX1 : Hid (w1.heap.size = w.heap.size + 1) := hx1; clear hx1; have c0 := cv0 hb1)
   | (have q := he2; clear q; refine wl_alloc rfl rfl zeroC ?_; intro w3 hb3 he3 hx3; clear hx3; have d0 := cv0 ((hb1.ext he2).ext he3))
   | (refine wl_alloc rfl rfl zeroC ?_; intro w2 hb2 he2 hx2; have HX2 : Hid (w2.heap.size = w1.heap.size + 1) := hx2; clear hx2; have z0 := cv0 (hb1.ext he2))
   | (have q := HU; clear q; refine wl_load rfl rowC rfl rfl HU.out.b3 rfl ?_)
   | (have q := HU; clear q; refine wl_store (D := CV { ck0 4 with kind := 4, info := c.info } { sv0 with iA := s.iA, iN := s.iN, iC := s.iC }) rfl rowC rfl rfl rfl HU.out.b2 rfl rfl (CV.one _ _) ?_; intro w9 hb9 hk9 hx9; clear hx9)
   | (refine wl_store (D := CV (ck0 4) sv0) rfl rowC rfl rfl rfl hb3 rfl rfl (CV.one _ _) ?_; intro w4 hb4 hk4 hx4; clear hx4; have HU : Hid (UsedAt w w4 w.heap.size w1.heap.size w2.heap.size c s (CV (ck0 4) sv0)) := ⟨(((hb1.ext he2).ext he3).but hk4 (show ¬ _ = _ by have := HX1.out; have := HX2.out; omega)), ((hb2.ext he3).but hk4 (show ¬ _ = _ by have := HX1.out; have := HX2.out; omega)), hb4, ((he1.trans he2).trans he3).of_but hk4 (fun q e => by subst e; have := HX1.out; have := HX2.out; omega), (by have := HX1.out; have := HX2.out; omega), (by have := HX1.out; have := HX2.out; omega), (by have := HX1.out; have := HX2.out; omega), (by have := HX1.out; omega)⟩; clear c0 d0 z0 hb1 hb2 hb3 hb4 he1 he2 he3 hk4; have f0 := cv0 HU.out.b1; have f1 := cv15 HU.out.b1; clear HX1 HX2; generalize w.heap.size = g1 at *; generalize w1.heap.size = g2 at *; generalize w2.heap.size = g3 at *)
   | (have q := HU; clear q; refine wl_set (v := .slice s.iA s.iN s.iC) rfl oneS rfl rfl rfl rfl rfl HU.out.b3 (of_decide_eq_true rfl) ?_; intro w7 hb7 hk7 hx7; clear hx7; replace HU : Hid (UsedAt w w7 g1 g2 g3 c s (CV { ck0 4 with kind := 4, info := c.info } { sv0 with iA := s.iA, iN := s.iN, iC := s.iC })) := HU.out.next hb7 hk7))
  refine bodyPost_ret (results_cell_row (fn := Try.f35) (p := 2) rfl _ w9 _ _ _ (0, 0) _ rfl hb9 Try.underlying38 rfl (by kernel_rfl)) rfl ?_
  exact ⟨rfl, HU.out.ext.of_but hk9 (fun q e => by subst e; exact HU.out.lo)⟩
set_option maxHeartbeats 8000000 in
theorem used_5 {w : World} {c : Ck} {s : Sv} (hk : c.kind = 5) :
  Calls Try.prog 35 #[.agg (CV c s)] w fun e w' => e = .returned (.agg (CV (usedC c) (usedS c s))) ∧ Ext w w' := by
  have HE : Hid (usedC c = { ck0 5 with kind := 5, info := c.info } ∧ usedS c s = { sv0 with iA := s.iA, iN := s.iN, iC := s.iC }) := ⟨by simp [usedC, hk], by simp [usedS, hk]⟩
  rw [HE.out.1, HE.out.2]
  go_enter Try.func35, Try.ntmps35
  go_wp2_with (first
   | (refine wl_box (C := CV c s) rfl rfl rfl ?_; intro w1 hb1 he1 hx1; have HX1 : Hid (w1.heap.size = w.heap.size + 1) := hx1; clear hx1; have c0 := cv0 hb1)
   | (have q := he2; clear q; refine wl_alloc rfl rfl zeroC ?_; intro w3 hb3 he3 hx3; clear hx3; have d0 := cv0 ((hb1.ext he2).ext he3))
   | (refine wl_alloc rfl rfl zeroC ?_; intro w2 hb2 he2 hx2; have HX2 : Hid (w2.heap.size = w1.heap.size + 1) := hx2; clear hx2; have z0 := cv0 (hb1.ext he2))
   | (have q := HU; clear q; refine wl_load rfl rowC rfl rfl HU.out.b3 rfl ?_)
   | (have q := HU; clear q; refine wl_store (D := CV { ck0 5 with kind := 5, info := c.info } { sv0 with iA := s.iA, iN := s.iN, iC := s.iC }) rfl rowC rfl rfl rfl HU.out.b2 rfl rfl (CV.one _ _) ?_; intro w9 hb9 hk9 hx9; clear hx9)
   | (refine wl_store (D := CV (ck0 5) sv0) rfl rowC rfl rfl rfl hb3 rfl rfl (CV.one _ _) ?_; intro w4 hb4 hk4 hx4; clear hx4; have HU : Hid (UsedAt w w4 w.heap.size w1.heap.size w2.heap.size c s (CV (ck0 5) sv0)) := ⟨(((hb1.ext he2).ext he3).but hk4 (show ¬ _ = _ by have := HX1.out; have := HX2.out; omega)), ((hb2.ext he3).but hk4 (show ¬ _ = _ by have := HX1.out; have := HX2.out; omega)), hb4, ((he1.trans he2).trans he3).of_but hk4 (fun q e => by subst e; have := HX1.out; have := HX2.out; omega), (by have := HX1.out; have := HX2.out; omega), (by have := HX1.out; have := HX2.out; omega), (by have := HX1.out; have := HX2.out; omega), (by have := HX1.out; omega)⟩; clear c0 d0 z0 hb1 hb2 hb3 hb4 he1 he2 he3 hk4; have f0 := cv0 HU.out.b1; have f1 := cv15 HU.out.b1; clear HX1 HX2; generalize w.heap.size = g1 at *; generalize w1.heap.size = g2 at *; generalize w2.heap.size = g3 at *)
   | (have q := HU; clear q; refine wl_set (v := .slice s.iA s.iN s.iC) rfl oneS rfl rfl rfl rfl rfl HU.out.b3 (of_decide_eq_true rfl) ?_; intro w7 hb7 hk7 hx7; clear hx7; replace HU : Hid (UsedAt w w7 g1 g2 g3 c s (CV { ck0 5 with kind := 5, info := c.info } { sv0 with iA := s.iA, iN := s.iN, iC := s.iC })) := HU.out.next hb7 hk7))
  refine bodyPost_ret (results_cell_row (fn := Try.f35) (p := 2) rfl _ w9 _ _ _ (0, 0) _ rfl hb9 Try.underlying38 rfl (by kernel_rfl)) rfl ?_
  exact ⟨rfl, HU.out.ext.of_but hk9 (fun q e => by subst e; exact HU.out.lo)⟩
set_option maxHeartbeats 8000000 in
theorem used_10 {w : World} {c : Ck} {s : Sv} (hk : c.kind = 10) :
  Calls Try.prog 35 #[.agg (CV c s)] w fun e w' => e = .returned (.agg (CV (usedC c) (usedS c s))) ∧ Ext w w' := by
  have HE : Hid (usedC c = { ck0 10 with kind := 10, info := c.info } ∧ usedS c s = { sv0 with iA := s.iA, iN := s.iN, iC := s.iC }) := ⟨by simp [usedC, hk], by simp [usedS, hk]⟩
  rw [HE.out.1, HE.out.2]
  go_enter Try.func35, Try.ntmps35
  go_wp2_with (first
   | (refine wl_box (C := CV c s) rfl rfl rfl ?_; intro w1 hb1 he1 hx1; have HX1 : Hid (w1.heap.size = w.heap.size + 1) := hx1; clear hx1; have c0 := cv0 hb1)
   | (have q := he2; clear q; refine wl_alloc rfl rfl zeroC ?_; intro w3 hb3 he3 hx3; clear hx3; have d0 := cv0 ((hb1.ext he2).ext he3))
   | (refine wl_alloc rfl rfl zeroC ?_; intro w2 hb2 he2 hx2; have HX2 : Hid (w2.heap.size = w1.heap.size + 1) := hx2; clear hx2; have z0 := cv0 (hb1.ext he2))
   | (have q := HU; clear q; refine wl_load rfl rowC rfl rfl HU.out.b3 rfl ?_)
   | (have q := HU; clear q; refine wl_store (D := CV { ck0 10 with kind := 10, info := c.info } { sv0 with iA := s.iA, iN := s.iN, iC := s.iC }) rfl rowC rfl rfl rfl HU.out.b2 rfl rfl (CV.one _ _) ?_; intro w9 hb9 hk9 hx9; clear hx9)
   | (refine wl_store (D := CV (ck0 10) sv0) rfl rowC rfl rfl rfl hb3 rfl rfl (CV.one _ _) ?_; intro w4 hb4 hk4 hx4; clear hx4; have HU : Hid (UsedAt w w4 w.heap.size w1.heap.size w2.heap.size c s (CV (ck0 10) sv0)) := ⟨(((hb1.ext he2).ext he3).but hk4 (show ¬ _ = _ by have := HX1.out; have := HX2.out; omega)), ((hb2.ext he3).but hk4 (show ¬ _ = _ by have := HX1.out; have := HX2.out; omega)), hb4, ((he1.trans he2).trans he3).of_but hk4 (fun q e => by subst e; have := HX1.out; have := HX2.out; omega), (by have := HX1.out; have := HX2.out; omega), (by have := HX1.out; have := HX2.out; omega), (by have := HX1.out; have := HX2.out; omega), (by have := HX1.out; omega)⟩; clear c0 d0 z0 hb1 hb2 hb3 hb4 he1 he2 he3 hk4; have f0 := cv0 HU.out.b1; have f1 := cv15 HU.out.b1; clear HX1 HX2; generalize w.heap.size = g1 at *; generalize w1.heap.size = g2 at *; generalize w2.heap.size = g3 at *)
   | (have q := HU; clear q; refine wl_set (v := .slice s.iA s.iN s.iC) rfl oneS rfl rfl rfl rfl rfl HU.out.b3 (of_decide_eq_true rfl) ?_; intro w7 hb7 hk7 hx7; clear hx7; replace HU : Hid (UsedAt w w7 g1 g2 g3 c s (CV { ck0 10 with kind := 10, info := c.info } { sv0 with iA := s.iA, iN := s.iN, iC := s.iC })) := HU.out.next hb7 hk7))
  refine bodyPost_ret (results_cell_row (fn := Try.f35) (p := 2) rfl _ w9 _ _ _ (0, 0) _ rfl hb9 Try.underlying38 rfl (by kernel_rfl)) rfl ?_
  exact ⟨rfl, HU.out.ext.of_but hk9 (fun q e => by subst e; exact HU.out.lo)⟩
set_option maxHeartbeats 8000000 in
theorem used_15 {w : World} {c : Ck} {s : Sv} (hk : c.kind = 15) :
  Calls Try.prog 35 #[.agg (CV c s)] w fun e w' => e = .returned (.agg (CV (usedC c) (usedS c s))) ∧ Ext w w' := by
  have HE : Hid (usedC c = { ck0 15 with kind := 15, info := c.info } ∧ usedS c s = { sv0 with iA := s.iA, iN := s.iN, iC := s.iC }) := ⟨by simp [usedC, hk], by simp [usedS, hk]⟩
  rw [HE.out.1, HE.out.2]
  go_enter Try.func35, Try.ntmps35
  go_wp2_with (first
   | (refine wl_box (C := CV c s) rfl rfl rfl ?_; intro w1 hb1 he1 hx1; have HX1 : Hid (w1.heap.size = w.heap.size + 1) := hx1; clear hx1; have c0 := cv0 hb1)
   | (have q := he2; clear q; refine wl_alloc rfl rfl zeroC ?_; intro w3 hb3 he3 hx3; clear hx3; have d0 := cv0 ((hb1.ext he2).ext he3))
   | (refine wl_alloc rfl rfl zeroC ?_; intro w2 hb2 he2 hx2; have HX2 : Hid (w2.heap.size = w1.heap.size + 1) := hx2; clear hx2; have z0 := cv0 (hb1.ext he2))
   | (have q := HU; clear q; refine wl_load rfl rowC rfl rfl HU.out.b3 rfl ?_)
   | (have q := HU; clear q; refine wl_store (D := CV { ck0 15 with kind := 15, info := c.info } { sv0 with iA := s.iA, iN := s.iN, iC := s.iC }) rfl rowC rfl rfl rfl HU.out.b2 rfl rfl (CV.one _ _) ?_; intro w9 hb9 hk9 hx9; clear hx9)
   | (refine wl_store (D := CV (ck0 15) sv0) rfl rowC rfl rfl rfl hb3 rfl rfl (CV.one _ _) ?_; intro w4 hb4 hk4 hx4; clear hx4; have HU : Hid (UsedAt w w4 w.heap.size w1.heap.size w2.heap.size c s (CV (ck0 15) sv0)) := ⟨(((hb1.ext he2).ext he3).but hk4 (show ¬ _ = _ by have := HX1.out; have := HX2.out; omega)), ((hb2.ext he3).but hk4 (show ¬ _ = _ by have := HX1.out; have := HX2.out; omega)), hb4, ((he1.trans he2).trans he3).of_but hk4 (fun q e => by subst e; have := HX1.out; have := HX2.out; omega), (by have := HX1.out; have := HX2.out; omega), (by have := HX1.out; have := HX2.out; omega), (by have := HX1.out; have := HX2.out; omega), (by have := HX1.out; omega)⟩; clear c0 d0 z0 hb1 hb2 hb3 hb4 he1 he2 he3 hk4; have f0 := cv0 HU.out.b1; have f1 := cv15 HU.out.b1; clear HX1 HX2; generalize w.heap.size = g1 at *; generalize w1.heap.size = g2 at *; generalize w2.heap.size = g3 at *)
   | (have q := HU; clear q; refine wl_set (v := .slice s.iA s.iN s.iC) rfl oneS rfl rfl rfl rfl rfl HU.out.b3 (of_decide_eq_true rfl) ?_; intro w7 hb7 hk7 hx7; clear hx7; replace HU : Hid (UsedAt w w7 g1 g2 g3 c s (CV { ck0 15 with kind := 15, info := c.info } { sv0 with iA := s.iA, iN := s.iN, iC := s.iC })) := HU.out.next hb7 hk7))
  refine bodyPost_ret (results_cell_row (fn := Try.f35) (p := 2) rfl _ w9 _ _ _ (0, 0) _ rfl hb9 Try.underlying38 rfl (by kernel_rfl)) rfl ?_
  exact ⟨rfl, HU.out.ext.of_but hk9 (fun q e => by subst e; exact HU.out.lo)⟩
set_option maxHeartbeats 8000000 in
theorem used_6 {w : World} {c : Ck} {s : Sv} (hk : c.kind = 6) :
  Calls Try.prog 35 #[.agg (CV c s)] w fun e w' => e = .returned (.agg (CV (usedC c) (usedS c s))) ∧ Ext w w' := by
  have HE : Hid (usedC c = { ck0 6 with kind := 6, cause := c.cause } ∧ usedS c s = sv0) := ⟨by simp [usedC, hk], by simp [usedS, hk]⟩
  rw [HE.out.1, HE.out.2]
  go_enter Try.func35, Try.ntmps35
  go_wp2_with (first
   | (refine wl_box (C := CV c s) rfl rfl rfl ?_; intro w1 hb1 he1 hx1; have HX1 : Hid (w1.heap.size = w.heap.size + 1) := hx1; clear hx1; have c0 := cv0 hb1)
   | (have q := he2; clear q; refine wl_alloc rfl rfl zeroC ?_; intro w3 hb3 he3 hx3; clear hx3; have d0 := cv0 ((hb1.ext he2).ext he3))
   | (refine wl_alloc rfl rfl zeroC ?_; intro w2 hb2 he2 hx2; have HX2 : Hid (w2.heap.size = w1.heap.size + 1) := hx2; clear hx2; have z0 := cv0 (hb1.ext he2))
   | (have q := HU; clear q; refine wl_load rfl rowC rfl rfl HU.out.b3 rfl ?_)
   | (have q := HU; clear q; refine wl_store (D := CV { ck0 6 with kind := 6, cause := c.cause } sv0) rfl rowC rfl rfl rfl HU.out.b2 rfl rfl (CV.one _ _) ?_; intro w9 hb9 hk9 hx9; clear hx9)
   | (refine wl_store (D := CV (ck0 6) sv0) rfl rowC rfl rfl rfl hb3 rfl rfl (CV.one _ _) ?_; intro w4 hb4 hk4 hx4; clear hx4; have HU : Hid (UsedAt w w4 w.heap.size w1.heap.size w2.heap.size c s (CV (ck0 6) sv0)) := ⟨(((hb1.ext he2).ext he3).but hk4 (show ¬ _ = _ by have := HX1.out; have := HX2.out; omega)), ((hb2.ext he3).but hk4 (show ¬ _ = _ by have := HX1.out; have := HX2.out; omega)), hb4, ((he1.trans he2).trans he3).of_but hk4 (fun q e => by subst e; have := HX1.out; have := HX2.out; omega), (by have := HX1.out; have := HX2.out; omega), (by have := HX1.out; have := HX2.out; omega), (by have := HX1.out; have := HX2.out; omega), (by have := HX1.out; omega)⟩; clear c0 d0 z0 hb1 hb2 hb3 hb4 he1 he2 he3 hk4; have f0 := cv0 HU.out.b1; have f1 := cv18 HU.out.b1; clear HX1 HX2; generalize w.heap.size = g1 at *; generalize w1.heap.size = g2 at *; generalize w2.heap.size = g3 at *)
   | (have q := HU; clear q; refine wl_set (v := .int .i64 c.cause) rfl one3 rfl rfl rfl rfl rfl HU.out.b3 (of_decide_eq_true rfl) ?_; intro w7 hb7 hk7 hx7; clear hx7; replace HU : Hid (UsedAt w w7 g1 g2 g3 c s (CV { ck0 6 with kind := 6, cause := c.cause } sv0)) := HU.out.next hb7 hk7))
  refine bodyPost_ret (results_cell_row (fn := Try.f35) (p := 2) rfl _ w9 _ _ _ (0, 0) _ rfl hb9 Try.underlying38 rfl (by kernel_rfl)) rfl ?_
  exact ⟨rfl, HU.out.ext.of_but hk9 (fun q e => by subst e; exact HU.out.lo)⟩
set_option maxHeartbeats 8000000 in
theorem used_9 {w : World} {c : Ck} {s : Sv} (hk : c.kind = 9) :
  Calls Try.prog 35 #[.agg (CV c s)] w fun e w' => e = .returned (.agg (CV (usedC c) (usedS c s))) ∧ Ext w w' := by
  have HE : Hid (usedC c = { ck0 9 with kind := 9, cause := c.cause } ∧ usedS c s = sv0) := ⟨by simp [usedC, hk], by simp [usedS, hk]⟩
  rw [HE.out.1, HE.out.2]
  go_enter Try.func35, Try.ntmps35
  go_wp2_with (first
   | (refine wl_box (C := CV c s) rfl rfl rfl ?_; intro w1 hb1 he1 hx1; have HX1 : Hid (w1.heap.size = w.heap.size + 1) := hx1; clear hx1; have c0 := cv0 hb1)
   | (have q := he2; clear q; refine wl_alloc rfl rfl zeroC ?_; intro w3 hb3 he3 hx3; clear hx3; have d0 := cv0 ((hb1.ext he2).ext he3))
   | (refine wl_alloc rfl rfl zeroC ?_; intro w2 hb2 he2 hx2; have HX2 : Hid (w2.heap.size = w1.heap.size + 1) := hx2; clear hx2; have z0 := cv0 (hb1.ext he2))
   | (have q := HU; clear q; refine wl_load rfl rowC rfl rfl HU.out.b3 rfl ?_)
   | (have q := HU; clear q; refine wl_store (D := CV { ck0 9 with kind := 9, cause := c.cause } sv0) rfl rowC rfl rfl rfl HU.out.b2 rfl rfl (CV.one _ _) ?_; intro w9 hb9 hk9 hx9; clear hx9)
   | (refine wl_store (D := CV (ck0 9) sv0) rfl rowC rfl rfl rfl hb3 rfl rfl (CV.one _ _) ?_; intro w4 hb4 hk4 hx4; clear hx4; have HU : Hid (UsedAt w w4 w.heap.size w1.heap.size w2.heap.size c s (CV (ck0 9) sv0)) := ⟨(((hb1.ext he2).ext he3).but hk4 (show ¬ _ = _ by have := HX1.out; have := HX2.out; omega)), ((hb2.ext he3).but hk4 (show ¬ _ = _ by have := HX1.out; have := HX2.out; omega)), hb4, ((he1.trans he2).trans he3).of_but hk4 (fun q e => by subst e; have := HX1.out; have := HX2.out; omega), (by have := HX1.out; have := HX2.out; omega), (by have := HX1.out; have := HX2.out; omega), (by have := HX1.out; have := HX2.out; omega), (by have := HX1.out; omega)⟩; clear c0 d0 z0 hb1 hb2 hb3 hb4 he1 he2 he3 hk4; have f0 := cv0 HU.out.b1; have f1 := cv18 HU.out.b1; clear HX1 HX2; generalize w.heap.size = g1 at *; generalize w1.heap.size = g2 at *; generalize w2.heap.size = g3 at *)
   | (have q := HU; clear q; refine wl_set (v := .int .i64 c.cause) rfl one3 rfl rfl rfl rfl rfl HU.out.b3 (of_decide_eq_true rfl) ?_; intro w7 hb7 hk7 hx7; clear hx7; replace HU : Hid (UsedAt w w7 g1 g2 g3 c s (CV { ck0 9 with kind := 9, cause := c.cause } sv0)) := HU.out.next hb7 hk7))
  refine bodyPost_ret (results_cell_row (fn := Try.f35) (p := 2) rfl _ w9 _ _ _ (0, 0) _ rfl hb9 Try.underlying38 rfl (by kernel_rfl)) rfl ?_
  exact ⟨rfl, HU.out.ext.of_but hk9 (fun q e => by subst e; exact HU.out.lo)⟩
set_option maxHeartbeats 8000000 in
theorem used_7 {w : World} {c : Ck} {s : Sv} (hk : c.kind = 7) :
  Calls Try.prog 35 #[.agg (CV c s)] w fun e w' => e = .returned (.agg (CV (usedC c) (usedS c s))) ∧ Ext w w' := by
  have HE : Hid (usedC c = { ck0 7 with kind := 7, tsn := c.tsn } ∧ usedS c s = sv0) := ⟨by simp [usedC, hk], by simp [usedS, hk]⟩
  rw [HE.out.1, HE.out.2]
  go_enter Try.func35, Try.ntmps35
  go_wp2_with (first
   | (refine wl_box (C := CV c s) rfl rfl rfl ?_; intro w1 hb1 he1 hx1; have HX1 : Hid (w1.heap.size = w.heap.size + 1) := hx1; clear hx1; have c0 := cv0 hb1)
   | (have q := he2; clear q; refine wl_alloc rfl rfl zeroC ?_; intro w3 hb3 he3 hx3; clear hx3; have d0 := cv0 ((hb1.ext he2).ext he3))
   | (refine wl_alloc rfl rfl zeroC ?_; intro w2 hb2 he2 hx2; have HX2 : Hid (w2.heap.size = w1.heap.size + 1) := hx2; clear hx2; have z0 := cv0 (hb1.ext he2))
   | (have q := HU; clear q; refine wl_load rfl rowC rfl rfl HU.out.b3 rfl ?_)
   | (have q := HU; clear q; refine wl_store (D := CV { ck0 7 with kind := 7, tsn := c.tsn } sv0) rfl rowC rfl rfl rfl HU.out.b2 rfl rfl (CV.one _ _) ?_; intro w9 hb9 hk9 hx9; clear hx9)
   | (refine wl_store (D := CV (ck0 7) sv0) rfl rowC rfl rfl rfl hb3 rfl rfl (CV.one _ _) ?_; intro w4 hb4 hk4 hx4; clear hx4; have HU : Hid (UsedAt w w4 w.heap.size w1.heap.size w2.heap.size c s (CV (ck0 7) sv0)) := ⟨(((hb1.ext he2).ext he3).but hk4 (show ¬ _ = _ by have := HX1.out; have := HX2.out; omega)), ((hb2.ext he3).but hk4 (show ¬ _ = _ by have := HX1.out; have := HX2.out; omega)), hb4, ((he1.trans he2).trans he3).of_but hk4 (fun q e => by subst e; have := HX1.out; have := HX2.out; omega), (by have := HX1.out; have := HX2.out; omega), (by have := HX1.out; have := HX2.out; omega), (by have := HX1.out; have := HX2.out; omega), (by have := HX1.out; omega)⟩; clear c0 d0 z0 hb1 hb2 hb3 hb4 he1 he2 he3 hk4; have f0 := cv0 HU.out.b1; have f1 := cv12 HU.out.b1; clear HX1 HX2; generalize w.heap.size = g1 at *; generalize w1.heap.size = g2 at *; generalize w2.heap.size = g3 at *)
   | (have q := HU; clear q; refine wl_set (v := .int .u32 (c.tsn : Int)) rfl one22 rfl rfl rfl rfl rfl HU.out.b3 (of_decide_eq_true rfl) ?_; intro w7 hb7 hk7 hx7; clear hx7; replace HU : Hid (UsedAt w w7 g1 g2 g3 c s (CV { ck0 7 with kind := 7, tsn := c.tsn } sv0)) := HU.out.next hb7 hk7))
  refine bodyPost_ret (results_cell_row (fn := Try.f35) (p := 2) rfl _ w9 _ _ _ (0, 0) _ rfl hb9 Try.underlying38 rfl (by kernel_rfl)) rfl ?_
  exact ⟨rfl, HU.out.ext.of_but hk9 (fun q e => by subst e; exact HU.out.lo)⟩
set_option maxHeartbeats 8000000 in
theorem used_193 {w : World} {c : Ck} {s : Sv} (hk : c.kind = 193) :
  Calls Try.prog 35 #[.agg (CV c s)] w fun e w' => e = .returned (.agg (CV (usedC c) (usedS c s))) ∧ Ext w w' := by
  have HE : Hid (usedC c = { ck0 193 with kind := 193, serial := c.serial, ops := c.ops } ∧ usedS c s = { sv0 with oA := s.oA, oN := s.oN, oC := s.oC }) := ⟨by simp [usedC, hk], by simp [usedS, hk]⟩
  rw [HE.out.1, HE.out.2]
  go_enter Try.func35, Try.ntmps35
  go_wp2_with (first
   | (refine wl_box (C := CV c s) rfl rfl rfl ?_; intro w1 hb1 he1 hx1; have HX1 : Hid (w1.heap.size = w.heap.size + 1) := hx1; clear hx1; have c0 := cv0 hb1)
   | (have q := he2; clear q; refine wl_alloc rfl rfl zeroC ?_; intro w3 hb3 he3 hx3; clear hx3; have d0 := cv0 ((hb1.ext he2).ext he3))
   | (refine wl_alloc rfl rfl zeroC ?_; intro w2 hb2 he2 hx2; have HX2 : Hid (w2.heap.size = w1.heap.size + 1) := hx2; clear hx2; have z0 := cv0 (hb1.ext he2))
   | (have q := HU; clear q; refine wl_load rfl rowC rfl rfl HU.out.b3 rfl ?_)
   | (have q := HU; clear q; refine wl_store (D := CV { ck0 193 with kind := 193, serial := c.serial, ops := c.ops } { sv0 with oA := s.oA, oN := s.oN, oC := s.oC }) rfl rowC rfl rfl rfl HU.out.b2 rfl rfl (CV.one _ _) ?_; intro w9 hb9 hk9 hx9; clear hx9)
   | (refine wl_store (D := CV (ck0 193) sv0) rfl rowC rfl rfl rfl hb3 rfl rfl (CV.one _ _) ?_; intro w4 hb4 hk4 hx4; clear hx4; have HU : Hid (UsedAt w w4 w.heap.size w1.heap.size w2.heap.size c s (CV (ck0 193) sv0)) := ⟨(((hb1.ext he2).ext he3).but hk4 (show ¬ _ = _ by have := HX1.out; have := HX2.out; omega)), ((hb2.ext he3).but hk4 (show ¬ _ = _ by have := HX1.out; have := HX2.out; omega)), hb4, ((he1.trans he2).trans he3).of_but hk4 (fun q e => by subst e; have := HX1.out; have := HX2.out; omega), (by have := HX1.out; have := HX2.out; omega), (by have := HX1.out; have := HX2.out; omega), (by have := HX1.out; have := HX2.out; omega), (by have := HX1.out; omega)⟩; clear c0 d0 z0 hb1 hb2 hb3 hb4 he1 he2 he3 hk4; have f0 := cv0 HU.out.b1; clear HX1 HX2; generalize w.heap.size = g1 at *; generalize w1.heap.size = g2 at *; generalize w2.heap.size = g3 at *))
  refine wp_region_facts (fun t => bif Nat.ble 79 t && Nat.ble t 83 then some (t - 79) else bif Nat.beq t 84 then some 6 else none) 94 (PutD g3 38 (CV { ck0 193 with kind := 193, serial := c.serial, ops := c.ops } { sv0 with oA := s.oA, oN := s.oN, oC := s.oC }))
   [Is (.pointer (some ⟨g1, 19, none⟩)), Is (.int .u32 (c.serial : Int)), Is (.pointer (some ⟨g1, 20, none⟩)), Is (.slice s.oA s.oN s.oC), Is (.pointer (some ⟨g3, 19, none⟩)), DoneAt g3 38 (CV { ck0 193 with kind := 193, serial := c.serial, ops := c.ops } { sv0 with oA := s.oA, oN := s.oN, oC := s.oC }) 19, Is (.pointer (some ⟨g3, 20, none⟩)), DoneAt g3 38 (CV { ck0 193 with kind := 193, serial := c.serial, ops := c.ops } { sv0 with oA := s.oA, oN := s.oN, oC := s.oC }) 20]
   rfl (by kernel_rfl) (by kernel_rfl) rfl PutD.refl (fun _ _ _ => PutD.trans) ?_ ?_ ?_
  ·
   exact Ks (Ks (Ks (Ks (Ks (KeepAll.cons (fun _ _ _ h k => PutD.done k h) (Ks (KeepAll.cons (fun _ _ _ h k => PutD.done k h) (KeepAll.nil))))))))
  ·
   refine Gc (lr1 PutD.refl rfl rfl rfl (fun _ _ h => h) (fun r wx hR h1 => by simp [execOp, h1, go_sem])) ?_
   refine Gc (lr1 PutD.refl rfl rfl rfl (fun _ _ h => h) (fun r wx hR h1 => exg one22 rfl h1 (cv19 (hR.other HU.out.b1 HU.out.n13)))) ?_
   refine Gc (lr1 PutD.refl rfl rfl rfl (fun _ _ h => h) (fun r wx hR h1 => by simp [execOp, h1, go_sem])) ?_
   refine Gc (lr1 PutD.refl rfl rfl rfl (fun _ _ h => h) (fun r wx hR h1 => exg oneSO rfl h1 (cv20 (hR.other HU.out.b1 HU.out.n13)))) ?_
   refine Gc (lr1 PutD.refl rfl rfl rfl (fun _ _ h => h) (fun r wx hR h1 => by simp [execOp, h1, go_sem])) ?_
   refine Gc ?_ ?_
   ·
    rintro r wx hR ⟨h1, h2, _⟩
    replace h1 : r (.tmp 83) = .pointer (some ⟨g3, 19, none⟩) := h1
    replace h2 : r (.tmp 80) = .int .u32 (c.serial : Int) := h2
    obtain ⟨C1, hb1, hs1, _⟩ := hR.it _ HU.out.b3
    exact give_skip (exec_set one22 rfl h1 h2 rfl rfl hb1 (by rw [hs1]; exact of_decide_eq_true rfl)) (doneAt_set hb1 (by rw [hs1]; exact of_decide_eq_true rfl) (x := undef) rfl)
   refine Gc (lr1 PutD.refl rfl rfl rfl (fun _ _ h => h) (fun r wx hR h1 => by simp [execOp, h1, go_sem])) ?_
   refine Gc ?_ ?_
   ·
    rintro r wx hR ⟨h1, h2, _⟩
    replace h1 : r (.tmp 84) = .pointer (some ⟨g3, 20, none⟩) := h1
    replace h2 : r (.tmp 82) = .slice s.oA s.oN s.oC := h2
    obtain ⟨C1, hb1, hs1, _⟩ := hR.it _ HU.out.b3
    exact give_skip (exec_set oneSO rfl h1 h2 rfl rfl hb1 (by rw [hs1]; exact of_decide_eq_true rfl)) (doneAt_set hb1 (by rw [hs1]; exact of_decide_eq_true rfl) (x := undef) rfl)
   exact GoodAll.nil
  ·
   intro vs w14 a7 hR hold ha7
   have hv0 : vs 0 = (.pointer (some ⟨g1, 19, none⟩)) := hold.at 0
   have hv1 : vs 1 = (.int .u32 (c.serial : Int)) := hold.at 1
   have hv2 : vs 2 = (.pointer (some ⟨g1, 20, none⟩)) := hold.at 2
   have hv3 : vs 3 = (.slice s.oA s.oN s.oC) := hold.at 3
   have hv4 : vs 4 = (.pointer (some ⟨g3, 19, none⟩)) := hold.at 4
   have hv6 : vs 6 = (.pointer (some ⟨g3, 20, none⟩)) := hold.at 6
   have hbw14 := hR.fin HU.out.b3 rfl (fun j hj => by
    match j with
    | 0 => exact .inr rfl
    | 1 => exact .inr rfl
    | 2 => exact .inr rfl
    | 3 => exact .inr rfl
    | 4 => exact .inr rfl
    | 5 => exact .inr rfl
    | 6 => exact .inr rfl
    | 7 => exact .inr rfl
    | 8 => exact .inr rfl
    | 9 => exact .inr rfl
    | 10 => exact .inr rfl
    | 11 => exact .inr rfl
    | 12 => exact .inr rfl
    | 13 => exact .inr rfl
    | 14 => exact .inr rfl
    | 15 => exact .inr rfl
    | 16 => exact .inr rfl
    | 17 => exact .inr rfl
    | 18 => exact .inr rfl
    | 19 => exact .inl (hold.at 5)
    | 20 => exact .inl (hold.at 7)
    | 21 => exact .inr rfl
    | j + 22 => exact absurd hj (by rw [CV.size]; omega))
   replace HU : Hid (UsedAt w w14 g1 g2 g3 c s (CV { ck0 193 with kind := 193, serial := c.serial, ops := c.ops } { sv0 with oA := s.oA, oN := s.oN, oC := s.oC })) := (HU.out.drew).next hbw14.1 hbw14.2
   simp only [putAll, Act.put, hv0, hv1, hv2, hv3, hv4, hv6, List.setIfInBounds_toArray, List.set_cons_succ, List.set_cons_zero] at ha7
   subst ha7
   clear hold hR hbw14 hv0 hv1 hv2 hv3 hv4 hv6
   have f0 := cv0 HU.out.b1
   go_wp2_with (first
    | (have q := HU; clear q; refine wl_load rfl rowC rfl rfl HU.out.b3 rfl ?_)
    | (have q := HU; clear q; refine wl_store (D := CV { ck0 193 with kind := 193, serial := c.serial, ops := c.ops } { sv0 with oA := s.oA, oN := s.oN, oC := s.oC }) rfl rowC rfl rfl rfl HU.out.b2 rfl rfl (CV.one _ _) ?_; intro w9 hb9 hk9 hx9; clear hx9))
   refine bodyPost_ret (results_cell_row (fn := Try.f35) (p := 2) rfl _ w9 _ _ _ (0, 0) _ rfl hb9 Try.underlying38 rfl (by kernel_rfl)) rfl ?_
   exact ⟨rfl, HU.out.ext.of_but hk9 (fun q e => by subst e; exact HU.out.lo)⟩
set_option maxHeartbeats 8000000 in
theorem used_128 {w : World} {c : Ck} {s : Sv} (hk : c.kind = 128) :
  Calls Try.prog 35 #[.agg (CV c s)] w fun e w' => e = .returned (.agg (CV (usedC c) (usedS c s))) ∧ Ext w w' := by
  have HE : Hid (usedC c = { ck0 128 with kind := 128, serial := c.serial, ok := c.ok } ∧ usedS c s = sv0) := ⟨by simp [usedC, hk], by simp [usedS, hk]⟩
  rw [HE.out.1, HE.out.2]
  go_enter Try.func35, Try.ntmps35
  go_wp2_with (first
   | (refine wl_box (C := CV c s) rfl rfl rfl ?_; intro w1 hb1 he1 hx1; have HX1 : Hid (w1.heap.size = w.heap.size + 1) := hx1; clear hx1; have c0 := cv0 hb1)
   | (have q := he2; clear q; refine wl_alloc rfl rfl zeroC ?_; intro w3 hb3 he3 hx3; clear hx3; have d0 := cv0 ((hb1.ext he2).ext he3))
   | (refine wl_alloc rfl rfl zeroC ?_; intro w2 hb2 he2 hx2; have HX2 : Hid (w2.heap.size = w1.heap.size + 1) := hx2; clear hx2; have z0 := cv0 (hb1.ext he2))
   | (have q := HU; clear q; refine wl_load rfl rowC rfl rfl HU.out.b3 rfl ?_)
   | (have q := HU; clear q; refine wl_store (D := CV { ck0 128 with kind := 128, serial := c.serial, ok := c.ok } sv0) rfl rowC rfl rfl rfl HU.out.b2 rfl rfl (CV.one _ _) ?_; intro w9 hb9 hk9 hx9; clear hx9)
   | (refine wl_store (D := CV (ck0 128) sv0) rfl rowC rfl rfl rfl hb3 rfl rfl (CV.one _ _) ?_; intro w4 hb4 hk4 hx4; clear hx4; have HU : Hid (UsedAt w w4 w.heap.size w1.heap.size w2.heap.size c s (CV (ck0 128) sv0)) := ⟨(((hb1.ext he2).ext he3).but hk4 (show ¬ _ = _ by have := HX1.out; have := HX2.out; omega)), ((hb2.ext he3).but hk4 (show ¬ _ = _ by have := HX1.out; have := HX2.out; omega)), hb4, ((he1.trans he2).trans he3).of_but hk4 (fun q e => by subst e; have := HX1.out; have := HX2.out; omega), (by have := HX1.out; have := HX2.out; omega), (by have := HX1.out; have := HX2.out; omega), (by have := HX1.out; have := HX2.out; omega), (by have := HX1.out; omega)⟩; clear c0 d0 z0 hb1 hb2 hb3 hb4 he1 he2 he3 hk4; have f0 := cv0 HU.out.b1; clear HX1 HX2; generalize w.heap.size = g1 at *; generalize w1.heap.size = g2 at *; generalize w2.heap.size = g3 at *))
  refine wp_region_facts (fun t => bif Nat.ble 87 t && Nat.ble t 91 then some (t - 87) else bif Nat.beq t 92 then some 6 else none) 94 (PutD g3 38 (CV { ck0 128 with kind := 128, serial := c.serial, ok := c.ok } sv0))
   [Is (.pointer (some ⟨g1, 19, none⟩)), Is (.int .u32 (c.serial : Int)), Is (.pointer (some ⟨g1, 21, none⟩)), Is (.bool c.ok), Is (.pointer (some ⟨g3, 19, none⟩)), DoneAt g3 38 (CV { ck0 128 with kind := 128, serial := c.serial, ok := c.ok } sv0) 19, Is (.pointer (some ⟨g3, 21, none⟩)), DoneAt g3 38 (CV { ck0 128 with kind := 128, serial := c.serial, ok := c.ok } sv0) 21]
   rfl (by kernel_rfl) (by kernel_rfl) rfl PutD.refl (fun _ _ _ => PutD.trans) ?_ ?_ ?_
  ·
   exact Ks (Ks (Ks (Ks (Ks (KeepAll.cons (fun _ _ _ h k => PutD.done k h) (Ks (KeepAll.cons (fun _ _ _ h k => PutD.done k h) (KeepAll.nil))))))))
  ·
   refine Gc (lr1 PutD.refl rfl rfl rfl (fun _ _ h => h) (fun r wx hR h1 => by simp [execOp, h1, go_sem])) ?_
   refine Gc (lr1 PutD.refl rfl rfl rfl (fun _ _ h => h) (fun r wx hR h1 => exg one22 rfl h1 (cv19 (hR.other HU.out.b1 HU.out.n13)))) ?_
   refine Gc (lr1 PutD.refl rfl rfl rfl (fun _ _ h => h) (fun r wx hR h1 => by simp [execOp, h1, go_sem])) ?_
   refine Gc (lr1 PutD.refl rfl rfl rfl (fun _ _ h => h) (fun r wx hR h1 => exg one4 rfl h1 (cv21 (hR.other HU.out.b1 HU.out.n13)))) ?_
   refine Gc (lr1 PutD.refl rfl rfl rfl (fun _ _ h => h) (fun r wx hR h1 => by simp [execOp, h1, go_sem])) ?_
   refine Gc ?_ ?_
   ·
    rintro r wx hR ⟨h1, h2, _⟩
    replace h1 : r (.tmp 91) = .pointer (some ⟨g3, 19, none⟩) := h1
    replace h2 : r (.tmp 88) = .int .u32 (c.serial : Int) := h2
    obtain ⟨C1, hb1, hs1, _⟩ := hR.it _ HU.out.b3
    exact give_skip (exec_set one22 rfl h1 h2 rfl rfl hb1 (by rw [hs1]; exact of_decide_eq_true rfl)) (doneAt_set hb1 (by rw [hs1]; exact of_decide_eq_true rfl) (x := undef) rfl)
   refine Gc (lr1 PutD.refl rfl rfl rfl (fun _ _ h => h) (fun r wx hR h1 => by simp [execOp, h1, go_sem])) ?_
   refine Gc ?_ ?_
   ·
    rintro r wx hR ⟨h1, h2, _⟩
    replace h1 : r (.tmp 92) = .pointer (some ⟨g3, 21, none⟩) := h1
    replace h2 : r (.tmp 90) = .bool c.ok := h2
    obtain ⟨C1, hb1, hs1, _⟩ := hR.it _ HU.out.b3
    exact give_skip (exec_set one4 rfl h1 h2 rfl rfl hb1 (by rw [hs1]; exact of_decide_eq_true rfl)) (doneAt_set hb1 (by rw [hs1]; exact of_decide_eq_true rfl) (x := undef) rfl)
   exact GoodAll.nil
  ·
   intro vs w14 a7 hR hold ha7
   have hv0 : vs 0 = (.pointer (some ⟨g1, 19, none⟩)) := hold.at 0
   have hv1 : vs 1 = (.int .u32 (c.serial : Int)) := hold.at 1
   have hv2 : vs 2 = (.pointer (some ⟨g1, 21, none⟩)) := hold.at 2
   have hv3 : vs 3 = (.bool c.ok) := hold.at 3
   have hv4 : vs 4 = (.pointer (some ⟨g3, 19, none⟩)) := hold.at 4
   have hv6 : vs 6 = (.pointer (some ⟨g3, 21, none⟩)) := hold.at 6
   have hbw14 := hR.fin HU.out.b3 rfl (fun j hj => by
    match j with
    | 0 => exact .inr rfl
    | 1 => exact .inr rfl
    | 2 => exact .inr rfl
    | 3 => exact .inr rfl
    | 4 => exact .inr rfl
    | 5 => exact .inr rfl
    | 6 => exact .inr rfl
    | 7 => exact .inr rfl
    | 8 => exact .inr rfl
    | 9 => exact .inr rfl
    | 10 => exact .inr rfl
    | 11 => exact .inr rfl
    | 12 => exact .inr rfl
    | 13 => exact .inr rfl
    | 14 => exact .inr rfl
    | 15 => exact .inr rfl
    | 16 => exact .inr rfl
    | 17 => exact .inr rfl
    | 18 => exact .inr rfl
    | 19 => exact .inl (hold.at 5)
    | 20 => exact .inr rfl
    | 21 => exact .inl (hold.at 7)
    | j + 22 => exact absurd hj (by rw [CV.size]; omega))
   replace HU : Hid (UsedAt w w14 g1 g2 g3 c s (CV { ck0 128 with kind := 128, serial := c.serial, ok := c.ok } sv0)) := (HU.out.drew).next hbw14.1 hbw14.2
   simp only [putAll, Act.put, hv0, hv1, hv2, hv3, hv4, hv6, List.setIfInBounds_toArray, List.set_cons_succ, List.set_cons_zero] at ha7
   subst ha7
   clear hold hR hbw14 hv0 hv1 hv2 hv3 hv4 hv6
   have f0 := cv0 HU.out.b1
   go_wp2_with (first
    | (have q := HU; clear q; refine wl_load rfl rowC rfl rfl HU.out.b3 rfl ?_)
    | (have q := HU; clear q; refine wl_store (D := CV { ck0 128 with kind := 128, serial := c.serial, ok := c.ok } sv0) rfl rowC rfl rfl rfl HU.out.b2 rfl rfl (CV.one _ _) ?_; intro w9 hb9 hk9 hx9; clear hx9))
   refine bodyPost_ret (results_cell_row (fn := Try.f35) (p := 2) rfl _ w9 _ _ _ (0, 0) _ rfl hb9 Try.underlying38 rfl (by kernel_rfl)) rfl ?_
   exact ⟨rfl, HU.out.ext.of_but hk9 (fun q e => by subst e; exact HU.out.lo)⟩
set_option maxHeartbeats 8000000 in
theorem used_no {w : World} {c : Ck} {s : Sv} (h0 : c.kind ≠ 0) (h1 : c.kind ≠ 1) (h2 : c.kind ≠ 2) (h3 : c.kind ≠ 3) (h4 : c.kind ≠ 4) (h5 : c.kind ≠ 5) (h10 : c.kind ≠ 10) (h15 : c.kind ≠ 15) (h6 : c.kind ≠ 6) (h9 : c.kind ≠ 9) (h7 : c.kind ≠ 7) (h193 : c.kind ≠ 193) (h128 : c.kind ≠ 128) :
  Calls Try.prog 35 #[.agg (CV c s)] w fun e w' => e = .returned (.agg (CV (usedC c) (usedS c s))) ∧ Ext w w' := by
  have HE : Hid (usedC c = ck0 c.kind ∧ usedS c s = sv0) := ⟨by simp [usedC, *], by simp [usedS, *]⟩
  rw [HE.out.1, HE.out.2]
  have e0 : (c.kind == 0) = false := beq_false_of_ne h0
  have e1 : (c.kind == 1) = false := beq_false_of_ne h1
  have e2 : (c.kind == 2) = false := beq_false_of_ne h2
  have e3 : (c.kind == 3) = false := beq_false_of_ne h3
  have e4 : (c.kind == 4) = false := beq_false_of_ne h4
  have e5 : (c.kind == 5) = false := beq_false_of_ne h5
  have e10 : (c.kind == 10) = false := beq_false_of_ne h10
  have e15 : (c.kind == 15) = false := beq_false_of_ne h15
  have e6 : (c.kind == 6) = false := beq_false_of_ne h6
  have e9 : (c.kind == 9) = false := beq_false_of_ne h9
  have e7 : (c.kind == 7) = false := beq_false_of_ne h7
  have e193 : (c.kind == 193) = false := beq_false_of_ne h193
  have e128 : (c.kind == 128) = false := beq_false_of_ne h128
  go_enter Try.func35, Try.ntmps35
  go_wp2_with (first
   | (refine wl_box (C := CV c s) rfl rfl rfl ?_; intro w1 hb1 he1 hx1; have HX1 : Hid (w1.heap.size = w.heap.size + 1) := hx1; clear hx1; have c0 := cv0 hb1)
   | (have q := he2; clear q; refine wl_alloc rfl rfl zeroC ?_; intro w3 hb3 he3 hx3; clear hx3; have d0 := cv0 ((hb1.ext he2).ext he3))
   | (refine wl_alloc rfl rfl zeroC ?_; intro w2 hb2 he2 hx2; have HX2 : Hid (w2.heap.size = w1.heap.size + 1) := hx2; clear hx2; have z0 := cv0 (hb1.ext he2))
   | (have q := HU; clear q; refine wl_load rfl rowC rfl rfl HU.out.b3 rfl ?_)
   | (have q := HU; clear q; refine wl_store (D := CV (ck0 c.kind) sv0) rfl rowC rfl rfl rfl HU.out.b2 rfl rfl (CV.one _ _) ?_; intro w9 hb9 hk9 hx9; clear hx9)
   | (refine wl_store (D := CV (ck0 c.kind) sv0) rfl rowC rfl rfl rfl hb3 rfl rfl (CV.one _ _) ?_; intro w4 hb4 hk4 hx4; clear hx4; have HU : Hid (UsedAt w w4 w.heap.size w1.heap.size w2.heap.size c s (CV (ck0 c.kind) sv0)) := ⟨(((hb1.ext he2).ext he3).but hk4 (show ¬ _ = _ by have := HX1.out; have := HX2.out; omega)), ((hb2.ext he3).but hk4 (show ¬ _ = _ by have := HX1.out; have := HX2.out; omega)), hb4, ((he1.trans he2).trans he3).of_but hk4 (fun q e => by subst e; have := HX1.out; have := HX2.out; omega), (by have := HX1.out; have := HX2.out; omega), (by have := HX1.out; have := HX2.out; omega), (by have := HX1.out; have := HX2.out; omega), (by have := HX1.out; omega)⟩; clear c0 d0 z0 hb1 hb2 hb3 hb4 he1 he2 he3 hk4; have f0 := cv0 HU.out.b1; clear HX1 HX2; generalize w.heap.size = g1 at *; generalize w1.heap.size = g2 at *; generalize w2.heap.size = g3 at *))
  refine bodyPost_ret (results_cell_row (fn := Try.f35) (p := 2) rfl _ w9 _ _ _ (0, 0) _ rfl hb9 Try.underlying38 rfl (by kernel_rfl)) rfl ?_
  exact ⟨rfl, HU.out.ext.of_but hk9 (fun q e => by subst e; exact HU.out.lo)⟩
theorem used_any {w : World} (c : Ck) (s : Sv) :
  Calls Try.prog 35 #[.agg (CV c s)] w fun e w' => e = .returned (.agg (CV (usedC c) (usedS c s))) ∧ Ext w w' := by
 by_cases h0 : c.kind = 0
 ·
  exact used_0 h0
 by_cases h1 : c.kind = 1
 ·
  exact used_1 h1
 by_cases h2 : c.kind = 2
 ·
  exact used_2 h2
 by_cases h3 : c.kind = 3
 ·
  exact used_3 h3
 by_cases h4 : c.kind = 4
 ·
  exact used_4 h4
 by_cases h5 : c.kind = 5
 ·
  exact used_5 h5
 by_cases h10 : c.kind = 10
 ·
  exact used_10 h10
 by_cases h15 : c.kind = 15
 ·
  exact used_15 h15
 by_cases h6 : c.kind = 6
 ·
  exact used_6 h6
 by_cases h9 : c.kind = 9
 ·
  exact used_9 h9
 by_cases h7 : c.kind = 7
 ·
  exact used_7 h7
 by_cases h193 : c.kind = 193
 ·
  exact used_193 h193
 by_cases h128 : c.kind = 128
 ·
  exact used_128 h128
 exact used_no h0 h1 h2 h3 h4 h5 h10 h15 h6 h9 h7 h193 h128
end Tlv
end Go.Proofs.Ytbahelhohkhkmaa
