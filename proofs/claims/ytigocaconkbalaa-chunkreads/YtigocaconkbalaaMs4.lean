/- Texts of the seat, one behind the other. No condition of its own. -/
import Derived.Test.YtigocaconkbalaaMs3
set_option linter.unusedVariables false
set_option linter.unusedSimpArgs false
set_option maxHeartbeats 32000000
set_option maxRecDepth 100000
namespace Go.Proofs.Ytigocaconkbalaa
namespace Tlv
open Go Go.RowKit
abbrev sb_0 (c d : Ck) : Bool := ((c.kind == d.kind) && (samePB c d))
abbrev sb_1 (c d : Ck) : Bool := ((sb_0 c d) && ((c.tag : Int) == (d.tag : Int)))
abbrev sb_2 (c d : Ck) : Bool := ((sb_1 c d) && (c.win == d.win))
abbrev sb_3 (c d : Ck) : Bool := ((sb_2 c d) && (c.out == d.out))
abbrev sb_4 (c d : Ck) : Bool := ((sb_3 c d) && (c.inn == d.inn))
abbrev sb_5 (c d : Ck) : Bool := ((sb_4 c d) && ((c.tsn : Int) == (d.tsn : Int)))
abbrev sb_6 (c d : Ck) : Bool := ((sb_5 c d) && (decide (c.rand = d.rand)))
abbrev sb_7 (c d : Ck) : Bool := ((sb_6 c d) && (decide (c.addrs = d.addrs)))
abbrev sb_8 (c d : Ck) : Bool := ((sb_7 c d) && (decide (c.info = d.info)))
abbrev sb_9 (c d : Ck) : Bool := ((sb_8 c d) && (decide (c.gaps = d.gaps)))
abbrev sb_10 (c d : Ck) : Bool := ((sb_9 c d) && (decide (ci c.dups = ci d.dups)))
abbrev sb_11 (c d : Ck) : Bool := ((sb_10 c d) && (c.cause == d.cause))
abbrev sb_12 (c d : Ck) : Bool := ((sb_11 c d) && ((c.serial : Int) == (d.serial : Int)))
abbrev sb_13 (c d : Ck) : Bool := ((sb_12 c d) && (decide (c.ops = d.ops)))
abbrev sb_14 (c d : Ck) : Bool := ((sb_13 c d) && ((c.ok) == (d.ok)))
def sameB (c d : Ck) : Bool := ((((((((((((((((c.kind == d.kind) && (samePB c d)) && ((c.tag : Int) == (d.tag : Int))) && (c.win == d.win)) && (c.out == d.out)) && (c.inn == d.inn)) && ((c.tsn : Int) == (d.tsn : Int))) && (decide (c.rand = d.rand))) && (decide (c.addrs = d.addrs))) && (decide (c.info = d.info))) && (decide (c.gaps = d.gaps))) && (decide (ci c.dups = ci d.dups))) && (c.cause == d.cause)) && ((c.serial : Int) == (d.serial : Int))) && (decide (c.ops = d.ops))) && ((c.ok) == (d.ok)))
theorem same_any {w : World} {c d : Ck} {s u : Sv} (ha : CkAt w s c) (hb : CkAt w u d) :
  Calls Try.prog 25 #[.agg (CV c s), .agg (CV d u)] w fun e w' => e = .returned (.bool (sameB c d)) ∧ Ext w w' := by
 unfold sameB
 go_enter Try.func25, Try.ntmps25
 refine wp_seq_k (fun K hK => ?_)
 have HK := Stop.mk hK
 clear hK
 go_wp2_with (first
  | (have q := he1; clear q; refine wl_box (C := CV d u) rfl rfl rfl ?_; intro w2 hb2 he2 hx; clear hx; have hb1' := hb1.ext he2)
  | (refine wl_box (C := CV c s) rfl rfl rfl ?_; intro w1 hb1 he1 hx; clear hx))
 refine HK.go _ _ ?_
 refine wp_seq_k (fun K2 hK2 => ?_)
 have HA := ha.ext (he1.trans he2)
 have HB := hb.ext (he1.trans he2)
 refine wp_line (fun t => bif Nat.ble 5 t && Nat.ble t 114 then some (t - 5) else bif Nat.beq t 4 then some 110 else none) 115 Ext
  [Is (.pointer (some ⟨w.heap.size, 0, none⟩)),
   Is (.int .i64 c.kind),
   Is (.pointer (some ⟨w1.heap.size, 0, none⟩)),
   Is (.int .i64 d.kind),
   Is (.bool (c.kind == d.kind)),
   Is (.bool (c.kind == d.kind)),
   Under (c.kind == d.kind) (.pointer (some ⟨w.heap.size, 1, none⟩)),
   Under (c.kind == d.kind) (.agg (PV c s)),
   Under (c.kind == d.kind) (.pointer (some ⟨w1.heap.size, 1, none⟩)),
   Under (c.kind == d.kind) (.agg (PV d u)),
   Under (c.kind == d.kind) (.bool (samePB c d)),
   Is (.bool (sb_0 c d)),
   Is (.bool (sb_0 c d)),
   Under (sb_0 c d) (.pointer (some ⟨w.heap.size, 8, none⟩)),
   Under (sb_0 c d) (.int .u32 (c.tag : Int)),
   Under (sb_0 c d) (.pointer (some ⟨w1.heap.size, 8, none⟩)),
   Under (sb_0 c d) (.int .u32 (d.tag : Int)),
   Under (sb_0 c d) (.bool ((c.tag : Int) == (d.tag : Int))),
   Is (.bool (sb_1 c d)),
   Is (.bool (sb_1 c d)),
   Under (sb_1 c d) (.pointer (some ⟨w.heap.size, 9, none⟩)),
   Under (sb_1 c d) (.int .i64 c.win),
   Under (sb_1 c d) (.pointer (some ⟨w1.heap.size, 9, none⟩)),
   Under (sb_1 c d) (.int .i64 d.win),
   Under (sb_1 c d) (.bool (c.win == d.win)),
   Is (.bool (sb_2 c d)),
   Is (.bool (sb_2 c d)),
   Under (sb_2 c d) (.pointer (some ⟨w.heap.size, 10, none⟩)),
   Under (sb_2 c d) (.int .i64 c.out),
   Under (sb_2 c d) (.pointer (some ⟨w1.heap.size, 10, none⟩)),
   Under (sb_2 c d) (.int .i64 d.out),
   Under (sb_2 c d) (.bool (c.out == d.out)),
   Is (.bool (sb_3 c d)),
   Is (.bool (sb_3 c d)),
   Under (sb_3 c d) (.pointer (some ⟨w.heap.size, 11, none⟩)),
   Under (sb_3 c d) (.int .i64 c.inn),
   Under (sb_3 c d) (.pointer (some ⟨w1.heap.size, 11, none⟩)),
   Under (sb_3 c d) (.int .i64 d.inn),
   Under (sb_3 c d) (.bool (c.inn == d.inn)),
   Is (.bool (sb_4 c d)),
   Is (.bool (sb_4 c d)),
   Under (sb_4 c d) (.pointer (some ⟨w.heap.size, 12, none⟩)),
   Under (sb_4 c d) (.int .u32 (c.tsn : Int)),
   Under (sb_4 c d) (.pointer (some ⟨w1.heap.size, 12, none⟩)),
   Under (sb_4 c d) (.int .u32 (d.tsn : Int)),
   Under (sb_4 c d) (.bool ((c.tsn : Int) == (d.tsn : Int))),
   Is (.bool (sb_5 c d)),
   Is (.bool (sb_5 c d)),
   Under (sb_5 c d) (.pointer (some ⟨w.heap.size, 13, none⟩)),
   Under (sb_5 c d) (.slice s.rA s.rN s.rC),
   Under (sb_5 c d) (.pointer (some ⟨w1.heap.size, 13, none⟩)),
   Under (sb_5 c d) (.slice u.rA u.rN u.rC),
   Under (sb_5 c d) (.bool (decide (c.rand = d.rand))),
   Is (.bool (sb_6 c d)),
   Is (.bool (sb_6 c d)),
   Under (sb_6 c d) (.pointer (some ⟨w.heap.size, 14, none⟩)),
   Under (sb_6 c d) (.slice s.aA s.aN s.aC),
   Under (sb_6 c d) (.pointer (some ⟨w1.heap.size, 14, none⟩)),
   Under (sb_6 c d) (.slice u.aA u.aN u.aC),
   Under (sb_6 c d) (.bool (decide (c.addrs = d.addrs))),
   Is (.bool (sb_7 c d)),
   Is (.bool (sb_7 c d)),
   Under (sb_7 c d) (.pointer (some ⟨w.heap.size, 15, none⟩)),
   Under (sb_7 c d) (.slice s.iA s.iN s.iC),
   Under (sb_7 c d) (.pointer (some ⟨w1.heap.size, 15, none⟩)),
   Under (sb_7 c d) (.slice u.iA u.iN u.iC),
   Under (sb_7 c d) (.bool (decide (c.info = d.info))),
   Is (.bool (sb_8 c d)),
   Is (.bool (sb_8 c d)),
   Under (sb_8 c d) (.pointer (some ⟨w.heap.size, 16, none⟩)),
   Under (sb_8 c d) (.slice s.gA s.gN s.gC),
   Under (sb_8 c d) (.pointer (some ⟨w1.heap.size, 16, none⟩)),
   Under (sb_8 c d) (.slice u.gA u.gN u.gC),
   Under (sb_8 c d) (.bool (decide (c.gaps = d.gaps))),
   Is (.bool (sb_9 c d)),
   Is (.bool (sb_9 c d)),
   Under (sb_9 c d) (.pointer (some ⟨w.heap.size, 17, none⟩)),
   Under (sb_9 c d) (.slice s.dA s.dN s.dC),
   Under (sb_9 c d) (.pointer (some ⟨w1.heap.size, 17, none⟩)),
   Under (sb_9 c d) (.slice u.dA u.dN u.dC),
   Under (sb_9 c d) (.bool (decide (ci c.dups = ci d.dups))),
   Is (.bool (sb_10 c d)),
   Is (.bool (sb_10 c d)),
   Under (sb_10 c d) (.pointer (some ⟨w.heap.size, 18, none⟩)),
   Under (sb_10 c d) (.int .i64 c.cause),
   Under (sb_10 c d) (.pointer (some ⟨w1.heap.size, 18, none⟩)),
   Under (sb_10 c d) (.int .i64 d.cause),
   Under (sb_10 c d) (.bool (c.cause == d.cause)),
   Is (.bool (sb_11 c d)),
   Is (.bool (sb_11 c d)),
   Under (sb_11 c d) (.pointer (some ⟨w.heap.size, 19, none⟩)),
   Under (sb_11 c d) (.int .u32 (c.serial : Int)),
   Under (sb_11 c d) (.pointer (some ⟨w1.heap.size, 19, none⟩)),
   Under (sb_11 c d) (.int .u32 (d.serial : Int)),
   Under (sb_11 c d) (.bool ((c.serial : Int) == (d.serial : Int))),
   Is (.bool (sb_12 c d)),
   Is (.bool (sb_12 c d)),
   Under (sb_12 c d) (.pointer (some ⟨w.heap.size, 20, none⟩)),
   Under (sb_12 c d) (.slice s.oA s.oN s.oC),
   Under (sb_12 c d) (.pointer (some ⟨w1.heap.size, 20, none⟩)),
   Under (sb_12 c d) (.slice u.oA u.oN u.oC),
   Under (sb_12 c d) (.bool (decide (c.ops = d.ops))),
   Is (.bool (sb_13 c d)),
   Is (.bool (sb_13 c d)),
   Under (sb_13 c d) (.pointer (some ⟨w.heap.size, 21, none⟩)),
   Under (sb_13 c d) (.bool c.ok),
   Under (sb_13 c d) (.pointer (some ⟨w1.heap.size, 21, none⟩)),
   Under (sb_13 c d) (.bool d.ok),
   Under (sb_13 c d) (.bool ((c.ok) == (d.ok))),
   Is (.bool (sb_14 c d)),
   Is (.bool (sb_14 c d))]
  rfl (by kernel_rfl) rfl Ext.refl (fun _ _ _ => Ext.trans) (Ks (Ks (Ks (Ks (Ks (Ks (Ku (Ku (Ku (Ku (Ku (Ks (Ks (Ku (Ku (Ku (Ku (Ku (Ks (Ks (Ku (Ku (Ku (Ku (Ku (Ks (Ks (Ku (Ku (Ku (Ku (Ku (Ks (Ks (Ku (Ku (Ku (Ku (Ku (Ks (Ks (Ku (Ku (Ku (Ku (Ku (Ks (Ks (Ku (Ku (Ku (Ku (Ku (Ks (Ks (Ku (Ku (Ku (Ku (Ku (Ks (Ks (Ku (Ku (Ku (Ku (Ku (Ks (Ks (Ku (Ku (Ku (Ku (Ku (Ks (Ks (Ku (Ku (Ku (Ku (Ku (Ks (Ks (Ku (Ku (Ku (Ku (Ku (Ks (Ks (Ku (Ku (Ku (Ku (Ku (Ks (Ks (Ku (Ku (Ku (Ku (Ku (Ks (Ks (Ku (Ku (Ku (Ku (Ku (Ks (Ks (KeepAll.nil)))))))))))))))))))))))))))))))))))))))))))))))))))))))))))))))))))))))))))))))))))))))))))))))))))))))))))))))) ?_ ?_
 ·
  refine Gc (ln1 (gd0 rfl) rfl (ouI rfl) iA (fun r wx hR h1 => by simp [execOp, h1, go_sem])) ?_
  refine Gc (ln1 (gd0 rfl) rfl (ouI rfl) iA (fun r wx hR h1 => exg one3 rfl h1 (cv0 (hb1'.ext hR)))) ?_
  refine Gc (ln1 (gd0 rfl) rfl (ouI rfl) iA (fun r wx hR h1 => by simp [execOp, h1, go_sem])) ?_
  refine Gc (ln1 (gd0 rfl) rfl (ouI rfl) iA (fun r wx hR h1 => exg one3 rfl h1 (cv0 (hb2.ext hR)))) ?_
  refine Gc (ln2 (gd0 rfl) rfl (ouI rfl) iA iA (fun r wx hR h1 h2 => by simp [execOp, h1, h2, go_sem])) ?_
  refine Gc (lmv rfl (.inl rfl) rfl rfl iB) ?_
  refine Gc (ln1 (gT rfl iB) rfl (ouU rfl) iA (fun r wx hR h1 => by simp [execOp, h1, go_sem])) ?_
  refine Gc (ln1 (gT rfl iB) rfl (ouU rfl) iC (fun r wx hR h1 => exec_load rowPc rfl h1 (hb1'.ext hR) (PV c s).toList (CV.piece c s) rfl)) ?_
  refine Gc (ln1 (gT rfl iB) rfl (ouU rfl) iA (fun r wx hR h1 => by simp [execOp, h1, go_sem])) ?_
  refine Gc (ln1 (gT rfl iB) rfl (ouU rfl) iC (fun r wx hR h1 => exec_load rowPc rfl h1 (hb2.ext hR) (PV d u).toList (CV.piece d u) rfl)) ?_
  refine Gc ?_ ?_
  ·
   rintro r wx hR ⟨h1, h2, h3, _⟩
   replace h1 : r (.func 56) = .func (.func 56) #[] #[] := h1
   replace h2 : Under (c.kind == d.kind) (.agg (PV c s)) wx (r (.tmp 12)) := h2
   replace h3 : Under (c.kind == d.kind) (.agg (PV d u)) wx (r (.tmp 14)) := h3
   intro gb hgb
   refine guard_u (C := (c.kind == d.kind)) (b := (c.kind == d.kind)) (want := true) hgb (want_t _) (fun hc => ?_) (fun hc => un_ hc)
   replace h2 := h2.get hc
   replace h3 := h3.get hc
   refine give_func #[.agg (PV c s), .agg (PV d u)] rfl h1 Try.call56 (by simp [h2, h3]) ?_
   refine (samePiece_any (c := c) (d := d) (HA.t.ext hR) (HB.t.ext hR)).mono ?_
   rintro e wz ⟨rfl, hez⟩
   exact ⟨_, rfl, hez, uy hc⟩
  refine Gc (lnA (gd0 rfl) rfl (ouI rfl) iA iD) ?_
  refine Gc (lmv rfl (.inl rfl) rfl rfl iB) ?_
  refine Gc (ln1 (gT rfl iB) rfl (ouU rfl) iA (fun r wx hR h1 => by simp [execOp, h1, go_sem])) ?_
  refine Gc (ln1 (gT rfl iB) rfl (ouU rfl) iC (fun r wx hR h1 => exg one22 rfl h1 (cv8 (hb1'.ext hR)))) ?_
  refine Gc (ln1 (gT rfl iB) rfl (ouU rfl) iA (fun r wx hR h1 => by simp [execOp, h1, go_sem])) ?_
  refine Gc (ln1 (gT rfl iB) rfl (ouU rfl) iC (fun r wx hR h1 => exg one22 rfl h1 (cv8 (hb2.ext hR)))) ?_
  refine Gc (ln2 (gT rfl iB) rfl (ouU rfl) iC iC (fun r wx hR h1 h2 => by simp [execOp, h1, h2, go_sem])) ?_
  refine Gc (lnA (gd0 rfl) rfl (ouI rfl) iA iD) ?_
  refine Gc (lmv rfl (.inl rfl) rfl rfl iB) ?_
  refine Gc (ln1 (gT rfl iB) rfl (ouU rfl) iA (fun r wx hR h1 => by simp [execOp, h1, go_sem])) ?_
  refine Gc (ln1 (gT rfl iB) rfl (ouU rfl) iC (fun r wx hR h1 => exg one3 rfl h1 (cv9 (hb1'.ext hR)))) ?_
  refine Gc (ln1 (gT rfl iB) rfl (ouU rfl) iA (fun r wx hR h1 => by simp [execOp, h1, go_sem])) ?_
  refine Gc (ln1 (gT rfl iB) rfl (ouU rfl) iC (fun r wx hR h1 => exg one3 rfl h1 (cv9 (hb2.ext hR)))) ?_
  refine Gc (ln2 (gT rfl iB) rfl (ouU rfl) iC iC (fun r wx hR h1 h2 => by simp [execOp, h1, h2, go_sem])) ?_
  refine Gc (lnA (gd0 rfl) rfl (ouI rfl) iA iD) ?_
  refine Gc (lmv rfl (.inl rfl) rfl rfl iB) ?_
  refine Gc (ln1 (gT rfl iB) rfl (ouU rfl) iA (fun r wx hR h1 => by simp [execOp, h1, go_sem])) ?_
  refine Gc (ln1 (gT rfl iB) rfl (ouU rfl) iC (fun r wx hR h1 => exg one3 rfl h1 (cv10 (hb1'.ext hR)))) ?_
  refine Gc (ln1 (gT rfl iB) rfl (ouU rfl) iA (fun r wx hR h1 => by simp [execOp, h1, go_sem])) ?_
  refine Gc (ln1 (gT rfl iB) rfl (ouU rfl) iC (fun r wx hR h1 => exg one3 rfl h1 (cv10 (hb2.ext hR)))) ?_
  refine Gc (ln2 (gT rfl iB) rfl (ouU rfl) iC iC (fun r wx hR h1 h2 => by simp [execOp, h1, h2, go_sem])) ?_
  refine Gc (lnA (gd0 rfl) rfl (ouI rfl) iA iD) ?_
  refine Gc (lmv rfl (.inl rfl) rfl rfl iB) ?_
  refine Gc (ln1 (gT rfl iB) rfl (ouU rfl) iA (fun r wx hR h1 => by simp [execOp, h1, go_sem])) ?_
  refine Gc (ln1 (gT rfl iB) rfl (ouU rfl) iC (fun r wx hR h1 => exg one3 rfl h1 (cv11 (hb1'.ext hR)))) ?_
  refine Gc (ln1 (gT rfl iB) rfl (ouU rfl) iA (fun r wx hR h1 => by simp [execOp, h1, go_sem])) ?_
  refine Gc (ln1 (gT rfl iB) rfl (ouU rfl) iC (fun r wx hR h1 => exg one3 rfl h1 (cv11 (hb2.ext hR)))) ?_
  refine Gc (ln2 (gT rfl iB) rfl (ouU rfl) iC iC (fun r wx hR h1 h2 => by simp [execOp, h1, h2, go_sem])) ?_
  refine Gc (lnA (gd0 rfl) rfl (ouI rfl) iA iD) ?_
  refine Gc (lmv rfl (.inl rfl) rfl rfl iB) ?_
  refine Gc (ln1 (gT rfl iB) rfl (ouU rfl) iA (fun r wx hR h1 => by simp [execOp, h1, go_sem])) ?_
  refine Gc (ln1 (gT rfl iB) rfl (ouU rfl) iC (fun r wx hR h1 => exg one22 rfl h1 (cv12 (hb1'.ext hR)))) ?_
  refine Gc (ln1 (gT rfl iB) rfl (ouU rfl) iA (fun r wx hR h1 => by simp [execOp, h1, go_sem])) ?_
  refine Gc (ln1 (gT rfl iB) rfl (ouU rfl) iC (fun r wx hR h1 => exg one22 rfl h1 (cv12 (hb2.ext hR)))) ?_
  refine Gc (ln2 (gT rfl iB) rfl (ouU rfl) iC iC (fun r wx hR h1 h2 => by simp [execOp, h1, h2, go_sem])) ?_
  refine Gc (lnA (gd0 rfl) rfl (ouI rfl) iA iD) ?_
  refine Gc (lmv rfl (.inl rfl) rfl rfl iB) ?_
  refine Gc (ln1 (gT rfl iB) rfl (ouU rfl) iA (fun r wx hR h1 => by simp [execOp, h1, go_sem])) ?_
  refine Gc (ln1 (gT rfl iB) rfl (ouU rfl) iC (fun r wx hR h1 => exg oneS rfl h1 (cv13 (hb1'.ext hR)))) ?_
  refine Gc (ln1 (gT rfl iB) rfl (ouU rfl) iA (fun r wx hR h1 => by simp [execOp, h1, go_sem])) ?_
  refine Gc (ln1 (gT rfl iB) rfl (ouU rfl) iC (fun r wx hR h1 => exg oneS rfl h1 (cv13 (hb2.ext hR)))) ?_
  refine Gc ?_ ?_
  ·
   rintro r wx hR ⟨h1, h2, h3, _⟩
   replace h1 : r (.func 43) = .func (.func 43) #[] #[] := h1
   replace h2 : Under (sb_5 c d) (.slice s.rA s.rN s.rC) wx (r (.tmp 54)) := h2
   replace h3 : Under (sb_5 c d) (.slice u.rA u.rN u.rC) wx (r (.tmp 56)) := h3
   intro gb hgb
   refine guard_u (C := (sb_5 c d)) (b := (sb_5 c d)) (want := true) hgb (want_t _) (fun hc => ?_) (fun hc => un_ hc)
   replace h2 := h2.get hc
   replace h3 := h3.get hc
   refine give_func #[.slice s.rA s.rN s.rC, .slice u.rA u.rN u.rC] rfl h1 Try.call43 (by simp [h2, h3]) ?_
   refine (equal_any (HA.r.ext hR) (HB.r.ext hR)).mono ?_
   rintro e wz ⟨rfl, hez⟩
   exact ⟨_, rfl, hez, uy hc⟩
  refine Gc (lnA (gd0 rfl) rfl (ouI rfl) iA iD) ?_
  refine Gc (lmv rfl (.inl rfl) rfl rfl iB) ?_
  refine Gc (ln1 (gT rfl iB) rfl (ouU rfl) iA (fun r wx hR h1 => by simp [execOp, h1, go_sem])) ?_
  refine Gc (ln1 (gT rfl iB) rfl (ouU rfl) iC (fun r wx hR h1 => exg oneSA rfl h1 (cv14 (hb1'.ext hR)))) ?_
  refine Gc (ln1 (gT rfl iB) rfl (ouU rfl) iA (fun r wx hR h1 => by simp [execOp, h1, go_sem])) ?_
  refine Gc (ln1 (gT rfl iB) rfl (ouU rfl) iC (fun r wx hR h1 => exg oneSA rfl h1 (cv14 (hb2.ext hR)))) ?_
  refine Gc ?_ ?_
  ·
   rintro r wx hR ⟨h1, h2, h3, _⟩
   replace h1 : r (.func 57) = .func (.func 57) #[] #[] := h1
   replace h2 : Under (sb_6 c d) (.slice s.aA s.aN s.aC) wx (r (.tmp 61)) := h2
   replace h3 : Under (sb_6 c d) (.slice u.aA u.aN u.aC) wx (r (.tmp 63)) := h3
   intro gb hgb
   refine guard_u (C := (sb_6 c d)) (b := (sb_6 c d)) (want := true) hgb (want_t _) (fun hc => ?_) (fun hc => un_ hc)
   replace h2 := h2.get hc
   replace h3 := h3.get hc
   refine give_func #[.slice s.aA s.aN s.aC, .slice u.aA u.aN u.aC] rfl h1 Try.call57 (by simp [h2, h3]) ?_
   refine (eqA_any (HA.a.ext hR) (HB.a.ext hR)).mono ?_
   rintro e wz ⟨rfl, hez⟩
   exact ⟨_, rfl, hez, uy hc⟩
  refine Gc (lnA (gd0 rfl) rfl (ouI rfl) iA iD) ?_
  refine Gc (lmv rfl (.inl rfl) rfl rfl iB) ?_
  refine Gc (ln1 (gT rfl iB) rfl (ouU rfl) iA (fun r wx hR h1 => by simp [execOp, h1, go_sem])) ?_
  refine Gc (ln1 (gT rfl iB) rfl (ouU rfl) iC (fun r wx hR h1 => exg oneS rfl h1 (cv15 (hb1'.ext hR)))) ?_
  refine Gc (ln1 (gT rfl iB) rfl (ouU rfl) iA (fun r wx hR h1 => by simp [execOp, h1, go_sem])) ?_
  refine Gc (ln1 (gT rfl iB) rfl (ouU rfl) iC (fun r wx hR h1 => exg oneS rfl h1 (cv15 (hb2.ext hR)))) ?_
  refine Gc ?_ ?_
  ·
   rintro r wx hR ⟨h1, h2, h3, _⟩
   replace h1 : r (.func 43) = .func (.func 43) #[] #[] := h1
   replace h2 : Under (sb_7 c d) (.slice s.iA s.iN s.iC) wx (r (.tmp 68)) := h2
   replace h3 : Under (sb_7 c d) (.slice u.iA u.iN u.iC) wx (r (.tmp 70)) := h3
   intro gb hgb
   refine guard_u (C := (sb_7 c d)) (b := (sb_7 c d)) (want := true) hgb (want_t _) (fun hc => ?_) (fun hc => un_ hc)
   replace h2 := h2.get hc
   replace h3 := h3.get hc
   refine give_func #[.slice s.iA s.iN s.iC, .slice u.iA u.iN u.iC] rfl h1 Try.call43 (by simp [h2, h3]) ?_
   refine (equal_any (HA.i.ext hR) (HB.i.ext hR)).mono ?_
   rintro e wz ⟨rfl, hez⟩
   exact ⟨_, rfl, hez, uy hc⟩
  refine Gc (lnA (gd0 rfl) rfl (ouI rfl) iA iD) ?_
  refine Gc (lmv rfl (.inl rfl) rfl rfl iB) ?_
  refine Gc (ln1 (gT rfl iB) rfl (ouU rfl) iA (fun r wx hR h1 => by simp [execOp, h1, go_sem])) ?_
  refine Gc (ln1 (gT rfl iB) rfl (ouU rfl) iC (fun r wx hR h1 => exg oneSG rfl h1 (cv16 (hb1'.ext hR)))) ?_
  refine Gc (ln1 (gT rfl iB) rfl (ouU rfl) iA (fun r wx hR h1 => by simp [execOp, h1, go_sem])) ?_
  refine Gc (ln1 (gT rfl iB) rfl (ouU rfl) iC (fun r wx hR h1 => exg oneSG rfl h1 (cv16 (hb2.ext hR)))) ?_
  refine Gc ?_ ?_
  ·
   rintro r wx hR ⟨h1, h2, h3, _⟩
   replace h1 : r (.func 58) = .func (.func 58) #[] #[] := h1
   replace h2 : Under (sb_8 c d) (.slice s.gA s.gN s.gC) wx (r (.tmp 75)) := h2
   replace h3 : Under (sb_8 c d) (.slice u.gA u.gN u.gC) wx (r (.tmp 77)) := h3
   intro gb hgb
   refine guard_u (C := (sb_8 c d)) (b := (sb_8 c d)) (want := true) hgb (want_t _) (fun hc => ?_) (fun hc => un_ hc)
   replace h2 := h2.get hc
   replace h3 := h3.get hc
   refine give_func #[.slice s.gA s.gN s.gC, .slice u.gA u.gN u.gC] rfl h1 Try.call58 (by simp [h2, h3]) ?_
   refine (eqG_any (HA.g.ext hR) (HB.g.ext hR)).mono ?_
   rintro e wz ⟨rfl, hez⟩
   exact ⟨_, rfl, hez, uy hc⟩
  refine Gc (lnA (gd0 rfl) rfl (ouI rfl) iA iD) ?_
  refine Gc (lmv rfl (.inl rfl) rfl rfl iB) ?_
  refine Gc (ln1 (gT rfl iB) rfl (ouU rfl) iA (fun r wx hR h1 => by simp [execOp, h1, go_sem])) ?_
  refine Gc (ln1 (gT rfl iB) rfl (ouU rfl) iC (fun r wx hR h1 => exg oneSD rfl h1 (cv17 (hb1'.ext hR)))) ?_
  refine Gc (ln1 (gT rfl iB) rfl (ouU rfl) iA (fun r wx hR h1 => by simp [execOp, h1, go_sem])) ?_
  refine Gc (ln1 (gT rfl iB) rfl (ouU rfl) iC (fun r wx hR h1 => exg oneSD rfl h1 (cv17 (hb2.ext hR)))) ?_
  refine Gc ?_ ?_
  ·
   rintro r wx hR ⟨h1, h2, h3, _⟩
   replace h1 : r (.func 59) = .func (.func 59) #[] #[] := h1
   replace h2 : Under (sb_9 c d) (.slice s.dA s.dN s.dC) wx (r (.tmp 82)) := h2
   replace h3 : Under (sb_9 c d) (.slice u.dA u.dN u.dC) wx (r (.tmp 84)) := h3
   intro gb hgb
   refine guard_u (C := (sb_9 c d)) (b := (sb_9 c d)) (want := true) hgb (want_t _) (fun hc => ?_) (fun hc => un_ hc)
   replace h2 := h2.get hc
   replace h3 := h3.get hc
   refine give_func #[.slice s.dA s.dN s.dC, .slice u.dA u.dN u.dC] rfl h1 Try.call59 (by simp [h2, h3]) ?_
   refine (eqD_any (HA.d.ext hR) (HB.d.ext hR)).mono ?_
   rintro e wz ⟨rfl, hez⟩
   exact ⟨_, rfl, hez, uy hc⟩
  refine Gc (lnA (gd0 rfl) rfl (ouI rfl) iA iD) ?_
  refine Gc (lmv rfl (.inl rfl) rfl rfl iB) ?_
  refine Gc (ln1 (gT rfl iB) rfl (ouU rfl) iA (fun r wx hR h1 => by simp [execOp, h1, go_sem])) ?_
  refine Gc (ln1 (gT rfl iB) rfl (ouU rfl) iC (fun r wx hR h1 => exg one3 rfl h1 (cv18 (hb1'.ext hR)))) ?_
  refine Gc (ln1 (gT rfl iB) rfl (ouU rfl) iA (fun r wx hR h1 => by simp [execOp, h1, go_sem])) ?_
  refine Gc (ln1 (gT rfl iB) rfl (ouU rfl) iC (fun r wx hR h1 => exg one3 rfl h1 (cv18 (hb2.ext hR)))) ?_
  refine Gc (ln2 (gT rfl iB) rfl (ouU rfl) iC iC (fun r wx hR h1 h2 => by simp [execOp, h1, h2, go_sem])) ?_
  refine Gc (lnA (gd0 rfl) rfl (ouI rfl) iA iD) ?_
  refine Gc (lmv rfl (.inl rfl) rfl rfl iB) ?_
  refine Gc (ln1 (gT rfl iB) rfl (ouU rfl) iA (fun r wx hR h1 => by simp [execOp, h1, go_sem])) ?_
  refine Gc (ln1 (gT rfl iB) rfl (ouU rfl) iC (fun r wx hR h1 => exg one22 rfl h1 (cv19 (hb1'.ext hR)))) ?_
  refine Gc (ln1 (gT rfl iB) rfl (ouU rfl) iA (fun r wx hR h1 => by simp [execOp, h1, go_sem])) ?_
  refine Gc (ln1 (gT rfl iB) rfl (ouU rfl) iC (fun r wx hR h1 => exg one22 rfl h1 (cv19 (hb2.ext hR)))) ?_
  refine Gc (ln2 (gT rfl iB) rfl (ouU rfl) iC iC (fun r wx hR h1 h2 => by simp [execOp, h1, h2, go_sem])) ?_
  refine Gc (lnA (gd0 rfl) rfl (ouI rfl) iA iD) ?_
  refine Gc (lmv rfl (.inl rfl) rfl rfl iB) ?_
  refine Gc (ln1 (gT rfl iB) rfl (ouU rfl) iA (fun r wx hR h1 => by simp [execOp, h1, go_sem])) ?_
  refine Gc (ln1 (gT rfl iB) rfl (ouU rfl) iC (fun r wx hR h1 => exg oneSO rfl h1 (cv20 (hb1'.ext hR)))) ?_
  refine Gc (ln1 (gT rfl iB) rfl (ouU rfl) iA (fun r wx hR h1 => by simp [execOp, h1, go_sem])) ?_
  refine Gc (ln1 (gT rfl iB) rfl (ouU rfl) iC (fun r wx hR h1 => exg oneSO rfl h1 (cv20 (hb2.ext hR)))) ?_
  refine Gc ?_ ?_
  ·
   rintro r wx hR ⟨h1, h2, h3, _⟩
   replace h1 : r (.func 60) = .func (.func 60) #[] #[] := h1
   replace h2 : Under (sb_12 c d) (.slice s.oA s.oN s.oC) wx (r (.tmp 103)) := h2
   replace h3 : Under (sb_12 c d) (.slice u.oA u.oN u.oC) wx (r (.tmp 105)) := h3
   intro gb hgb
   refine guard_u (C := (sb_12 c d)) (b := (sb_12 c d)) (want := true) hgb (want_t _) (fun hc => ?_) (fun hc => un_ hc)
   replace h2 := h2.get hc
   replace h3 := h3.get hc
   refine give_func #[.slice s.oA s.oN s.oC, .slice u.oA u.oN u.oC] rfl h1 Try.call60 (by simp [h2, h3]) ?_
   refine (eqO_any (HA.o.ext hR) (HB.o.ext hR)).mono ?_
   rintro e wz ⟨rfl, hez⟩
   exact ⟨_, rfl, hez, uy hc⟩
  refine Gc (lnA (gd0 rfl) rfl (ouI rfl) iA iD) ?_
  refine Gc (lmv rfl (.inl rfl) rfl rfl iB) ?_
  refine Gc (ln1 (gT rfl iB) rfl (ouU rfl) iA (fun r wx hR h1 => by simp [execOp, h1, go_sem])) ?_
  refine Gc (ln1 (gT rfl iB) rfl (ouU rfl) iC (fun r wx hR h1 => exg one4 rfl h1 (cv21 (hb1'.ext hR)))) ?_
  refine Gc (ln1 (gT rfl iB) rfl (ouU rfl) iA (fun r wx hR h1 => by simp [execOp, h1, go_sem])) ?_
  refine Gc (ln1 (gT rfl iB) rfl (ouU rfl) iC (fun r wx hR h1 => exg one4 rfl h1 (cv21 (hb2.ext hR)))) ?_
  refine Gc (ln2 (gT rfl iB) rfl (ouU rfl) iC iC (fun r wx hR h1 h2 => by simp [execOp, h1, h2, go_sem])) ?_
  refine Gc (lnA (gd0 rfl) rfl (ouI rfl) iA iD) ?_
  refine Gc (lmv rfl (.inr rfl) rfl rfl iB) ?_
  exact GoodAll.nil
 ·
  intro vs wE aE hR hold haE
  have hv : vs 110 = .bool ((((((((((((((((c.kind == d.kind) && (samePB c d)) && ((c.tag : Int) == (d.tag : Int))) && (c.win == d.win)) && (c.out == d.out)) && (c.inn == d.inn)) && ((c.tsn : Int) == (d.tsn : Int))) && (decide (c.rand = d.rand))) && (decide (c.addrs = d.addrs))) && (decide (c.info = d.info))) && (decide (c.gaps = d.gaps))) && (decide (ci c.dups = ci d.dups))) && (c.cause == d.cause)) && ((c.serial : Int) == (d.serial : Int))) && (decide (c.ops = d.ops))) && ((c.ok) == (d.ok))) := hold.at 110
  refine ‹∀ (a : Act) (w : World), Code.wp Try.prog Code.ret _ a w → _› _ _ ?_
  refine wp_ret ?_
  have hs : aE.tmps[4]? = some (.bool ((((((((((((((((c.kind == d.kind) && (samePB c d)) && ((c.tag : Int) == (d.tag : Int))) && (c.win == d.win)) && (c.out == d.out)) && (c.inn == d.inn)) && ((c.tsn : Int) == (d.tsn : Int))) && (decide (c.rand = d.rand))) && (decide (c.addrs = d.addrs))) && (decide (c.info = d.info))) && (decide (c.gaps = d.gaps))) && (decide (ci c.dups = ci d.dups))) && (c.cause == d.cause)) && ((c.serial : Int) == (d.serial : Int))) && (decide (c.ops = d.ops))) && ((c.ok) == (d.ok)))) := by rw [haE, ← hv]; kernel_rfl
  have hdf : aE.defers = [] := by rw [haE]; exact putAll_defers _ _ _ _
  clear haE
  refine bodyPost_ret (v := .bool ((((((((((((((((c.kind == d.kind) && (samePB c d)) && ((c.tag : Int) == (d.tag : Int))) && (c.win == d.win)) && (c.out == d.out)) && (c.inn == d.inn)) && ((c.tsn : Int) == (d.tsn : Int))) && (decide (c.rand = d.rand))) && (decide (c.addrs = d.addrs))) && (decide (c.info = d.info))) && (decide (c.gaps = d.gaps))) && (decide (ci c.dups = ci d.dups))) && (c.cause == d.cause)) && ((c.serial : Int) == (d.serial : Int))) && (decide (c.ops = d.ops))) && ((c.ok) == (d.ok)))) ?_ hdf ⟨rfl, (he1.trans he2).trans hR⟩
  simp [results, Try.results25, go_sem, hs]
theorem indexO_any {w : World} {a : Option Addr} {n cp : Nat} {L : List (Int × Int)} (h : PairsAt w (.slice a n cp) L) :
  Calls Try.prog 101 #[.slice a n cp, .func (.func 92) #[] #[]] w (FindIs w (opsB L)) := by
 have HN : Hid (PairsAt w (.slice a n cp) L ∧ n = L.length) := ⟨h, h.len.1⟩
 have hmx := h.len.2.1
 unfold maxLen at hmx
 clear h
 go_enter Try.func101, Try.ntmps101
 go_wp2
 go_loopg [8] n (fun gm t wr => ∃ k : Nat, k ≤ n ∧ gm = n - k ∧ t = .int .i64 (k : Int) ∧ Hid (Ext w wr ∧ ∀ j, j < k → opB (L.getD j (0, 0)) = true))
 case atStart => exact ⟨0, Nat.zero_le _, rfl, rfl, Ext.refl _, fun j hj => by omega⟩
 case round =>
  obtain ⟨k, hk, rfl, rfl, HR⟩ := hrel
  by_cases hlt : k < n
  ·
   have hd : decide ((k : Int) < (n : Int)) = true := decide_eq_true (by omega)
   have hkL : k < L.length := by rw [← HN.out.2]; exact hlt
   obtain ⟨b, off, rfl, hc0, hc1⟩ := HN.out.1.cellAt k hkL
   replace hc0 := HR.out.1.cell hc0
   replace hc1 := HR.out.1.cell hc1
   have HKL : Hid (k < L.length) := hkL
   clear hkL
   obtain ⟨p, hp⟩ : ∃ p, p = L.getD k (0, 0) := ⟨_, rfl⟩
   rw [← hp] at hc0 hc1
   obtain ⟨x, y⟩ := p
   dsimp only at hc0 hc1
   have HXX : Hid ((x, y) = L.getD k (0, 0)) := hp
   clear hp
   have hkn : (k : Int) < (n : Int) := by omega
   cases hb : opB (x, y) with
   | true =>
    go_wp2_with (first
     | (refine wl_loadP rfl rowOp rfl rfl hc0 hc1 ?_)
     | (go_at_call 92; refine (opsC_any _ _ _).mono ?_; rintro e w2 ⟨rfl, he2⟩; rw [hb]))
    go_roundg (n - (k + 1))
    case measure => omega
    case rel =>
     refine ⟨k + 1, by omega, rfl, by simp, HR.out.1.trans he2, fun j hj => ?_⟩
     by_cases hjk : j = k
     ·
      subst hjk; rw [← HXX.out]; exact hb
     ·
      exact HR.out.2 j (by omega)
   | false =>
    have HF : Hid (opsB L = false) := not_all_at (0, 0) HKL.out (by rw [← HXX.out]; exact hb)
    go_wp2_with (first
     | (refine wl_loadP rfl rowOp rfl rfl hc0 hc1 ?_)
     | (go_at_call 92; refine (opsC_any _ _ _).mono ?_; rintro e w2 ⟨rfl, he2⟩; rw [hb]))
    go_ret
    exact ⟨_, rfl, by rw [HF.out]; simp, HR.out.1.trans he2⟩
  ·
   have hd : decide ((k : Int) < (n : Int)) = false := decide_eq_false (by omega)
   have HF : Hid (opsB L = true) := all_at (0, 0) (fun j hj => HR.out.2 j (by have := HN.out.2; omega))
   go_wp2
   go_ret
   exact ⟨_, rfl, by rw [HF.out]; rfl, HR.out.1⟩
theorem hasA_any {w : World} {a : Option Addr} {n cp : Nat} {L : List Int} (h : NumsAt .i64 w (.slice a n cp) L) :
  Calls Try.prog 99 #[.slice a n cp, .func (.func 100) #[] #[]] w fun e w' => e = .returned (.bool (!adsB L)) ∧ Ext w w' := by
 go_enter Try.func99, Try.ntmps99
 go_wp2_with (first
  | (go_at_call 103; refine (indexA_any h).mono ?_; rintro e w2 ⟨i, rfl, hi, he2⟩))
 go_ret
 exact ⟨rfl, he2⟩
theorem hasO_any {w : World} {a : Option Addr} {n cp : Nat} {L : List (Int × Int)} (h : PairsAt w (.slice a n cp) L) :
  Calls Try.prog 91 #[.slice a n cp, .func (.func 92) #[] #[]] w fun e w' => e = .returned (.bool (!opsB L)) ∧ Ext w w' := by
 go_enter Try.func91, Try.ntmps91
 go_wp2_with (first
  | (go_at_call 101; refine (indexO_any h).mono ?_; rintro e w2 ⟨i, rfl, hi, he2⟩))
 go_ret
 exact ⟨rfl, he2⟩
theorem addrsFit_any {w : World} {a : Option Addr} {n cp : Nat} {L : List Int} (h : NumsAt .i64 w (.slice a n cp) L) :
  Calls Try.prog 90 #[.slice a n cp] w fun e w' => e = .returned (.bool (inB (L.length : Int) 1 4 && adsB L)) ∧ Ext w w' := by
 have HA := h
 have hn : n = L.length := (nums_len h).1
 rw [← hn]
 have e1 : ∀ b : Bool, (inB (n : Int) 1 4 && b) = (inB (n : Int) 1 4 && (!(!b))) := fun b => by cases b <;> simp
 rw [e1]
 clear hn h e1
 go_enter Try.func90, Try.ntmps90
 refine wp_seq_k (fun K hK => ?_)
 have HK := Stop.mk hK
 clear hK
 go_wp2
 refine HK.go _ _ ?_
 refine wp_seq_k (fun K2 hK2 => ?_)
 refine wp_line (fun t => bif Nat.ble 3 t && Nat.ble t 10 then some (t - 3) else bif Nat.beq t 2 then some 8 else none) 11 Ext
  [Is (.slice a n cp),
   Is (.int .i64 (n : Int)),
   Is (.bool (inB (n : Int) (1) (4))),
   Is (.bool (inB (n : Int) (1) (4))),
   Under (inB (n : Int) (1) (4)) (.slice a n cp),
   Under (inB (n : Int) (1) (4)) (.bool (!adsB L)),
   Under (inB (n : Int) (1) (4)) (.bool (!(!adsB L))),
   Is (.bool ((inB (n : Int) (1) (4)) && (!(!adsB L)))),
   Is (.bool ((inB (n : Int) (1) (4)) && (!(!adsB L))))]
  rfl (by kernel_rfl) rfl Ext.refl (fun _ _ _ => Ext.trans) (Ks (Ks (Ks (Ks (Ku (Ku (Ku (Ks (Ks (KeepAll.nil)))))))))) ?_ ?_
 ·
  refine Gc (lmv rfl (.inl rfl) rfl rfl iB) ?_
  refine Gc (ln1 (gd0 rfl) rfl (ouI rfl) iA (fun r wx hR h1 => by replace h1 : r (.tmp 3) = _ := h1; simp [execOp, h1, go_sem])) ?_
  refine Gc ?_ ?_
  ·
   rintro r wx hR ⟨h1, h2, h3, h4, _⟩
   replace h1 : r (.func 69) = .func (.func 69) #[] #[] := h1
   replace h2 : r (.tmp 4) = .int .i64 (n : Int) := h2
   replace h3 : r (.const (.int .i64 1)) = .int .i64 1 := h3
   replace h4 : r (.const (.int .i64 4)) = .int .i64 4 := h4
   refine give_func #[.int .i64 (n : Int), .int .i64 1, .int .i64 4] rfl h1 Try.call69 (by simp [h2, h3, h4]) ?_
   refine (within_any _ _ _ _).mono ?_
   rintro e wz ⟨rfl, hez⟩
   exact ⟨_, rfl, hez, rfl⟩
  refine Gc (lmv rfl (.inl rfl) rfl rfl iB) ?_
  refine Gc (ln1 (gT rfl iB) rfl (ouU rfl) iA (fun r wx hR h1 => exec_mv (.inl rfl) h1)) ?_
  refine Gc ?_ ?_
  ·
   rintro r wx hR ⟨h1, h2, h3, _⟩
   replace h1 : r (.func 99) = .func (.func 99) #[] #[] := h1
   replace h2 : Under (inB (n : Int) (1) (4)) (.slice a n cp) wx (r (.tmp 7)) := h2
   replace h3 : r (.func 100) = .func (.func 100) #[] #[] := h3
   intro gb hgb
   refine guard_u (C := (inB (n : Int) (1) (4))) (b := (inB (n : Int) (1) (4))) (want := true) hgb (want_t _) (fun hc => ?_) (fun hc => un_ hc)
   replace h2 := h2.get hc
   refine give_func #[.slice a n cp, .func (.func 100) #[] #[]] rfl h1 Try.call99 (by simp [h2, h3]) ?_
   refine (hasA_any (HA.ext hR)).mono ?_
   rintro e wz ⟨rfl, hez⟩
   exact ⟨_, rfl, hez, uy hc⟩
  refine Gc (ln1 (gT rfl iB) rfl (ouU rfl) iC (fun r wx hR h1 => by simp [execOp, h1, go_sem])) ?_
  refine Gc (lnA (gd0 rfl) rfl (ouI rfl) iA iD) ?_
  refine Gc (lmv rfl (.inr rfl) rfl rfl iB) ?_
  exact GoodAll.nil
 ·
  intro vs wE aE hR hold haE
  have hv : vs 8 = .bool ((inB (n : Int) (1) (4)) && (!(!adsB L))) := hold.at 8
  refine ‹∀ (a : Act) (w : World), Code.wp Try.prog Code.ret _ a w → _› _ _ ?_
  refine wp_ret ?_
  have hs : aE.tmps[2]? = some (.bool ((inB (n : Int) (1) (4)) && (!(!adsB L)))) := by rw [haE, ← hv]; kernel_rfl
  have hdf : aE.defers = [] := by rw [haE]; exact putAll_defers _ _ _ _
  clear haE
  refine bodyPost_ret (v := .bool ((inB (n : Int) (1) (4)) && (!(!adsB L)))) ?_ hdf ⟨rfl, hR⟩
  simp [results, Try.results90, go_sem, hs]
theorem opsFit_any {w : World} {a : Option Addr} {n cp : Nat} {L : List (Int × Int)} (h : PairsAt w (.slice a n cp) L) :
  Calls Try.prog 74 #[.slice a n cp] w fun e w' => e = .returned (.bool (inB (L.length : Int) 1 9 && opsB L)) ∧ Ext w w' := by
 have HA := h
 have hn : n = L.length := h.len.1
 rw [← hn]
 have e1 : ∀ b : Bool, (inB (n : Int) 1 9 && b) = (inB (n : Int) 1 9 && (!(!b))) := fun b => by cases b <;> simp
 rw [e1]
 clear hn h e1
 go_enter Try.func74, Try.ntmps74
 refine wp_seq_k (fun K hK => ?_)
 have HK := Stop.mk hK
 clear hK
 go_wp2
 refine HK.go _ _ ?_
 refine wp_seq_k (fun K2 hK2 => ?_)
 refine wp_line (fun t => bif Nat.ble 3 t && Nat.ble t 10 then some (t - 3) else bif Nat.beq t 2 then some 8 else none) 11 Ext
  [Is (.slice a n cp),
   Is (.int .i64 (n : Int)),
   Is (.bool (inB (n : Int) (1) (9))),
   Is (.bool (inB (n : Int) (1) (9))),
   Under (inB (n : Int) (1) (9)) (.slice a n cp),
   Under (inB (n : Int) (1) (9)) (.bool (!opsB L)),
   Under (inB (n : Int) (1) (9)) (.bool (!(!opsB L))),
   Is (.bool ((inB (n : Int) (1) (9)) && (!(!opsB L)))),
   Is (.bool ((inB (n : Int) (1) (9)) && (!(!opsB L))))]
  rfl (by kernel_rfl) rfl Ext.refl (fun _ _ _ => Ext.trans) (Ks (Ks (Ks (Ks (Ku (Ku (Ku (Ks (Ks (KeepAll.nil)))))))))) ?_ ?_
 ·
  refine Gc (lmv rfl (.inl rfl) rfl rfl iB) ?_
  refine Gc (ln1 (gd0 rfl) rfl (ouI rfl) iA (fun r wx hR h1 => by replace h1 : r (.tmp 3) = _ := h1; simp [execOp, h1, go_sem])) ?_
  refine Gc ?_ ?_
  ·
   rintro r wx hR ⟨h1, h2, h3, h4, _⟩
   replace h1 : r (.func 69) = .func (.func 69) #[] #[] := h1
   replace h2 : r (.tmp 4) = .int .i64 (n : Int) := h2
   replace h3 : r (.const (.int .i64 1)) = .int .i64 1 := h3
   replace h4 : r (.const (.int .i64 9)) = .int .i64 9 := h4
   refine give_func #[.int .i64 (n : Int), .int .i64 1, .int .i64 9] rfl h1 Try.call69 (by simp [h2, h3, h4]) ?_
   refine (within_any _ _ _ _).mono ?_
   rintro e wz ⟨rfl, hez⟩
   exact ⟨_, rfl, hez, rfl⟩
  refine Gc (lmv rfl (.inl rfl) rfl rfl iB) ?_
  refine Gc (ln1 (gT rfl iB) rfl (ouU rfl) iA (fun r wx hR h1 => exec_mv (.inl rfl) h1)) ?_
  refine Gc ?_ ?_
  ·
   rintro r wx hR ⟨h1, h2, h3, _⟩
   replace h1 : r (.func 91) = .func (.func 91) #[] #[] := h1
   replace h2 : Under (inB (n : Int) (1) (9)) (.slice a n cp) wx (r (.tmp 7)) := h2
   replace h3 : r (.func 92) = .func (.func 92) #[] #[] := h3
   intro gb hgb
   refine guard_u (C := (inB (n : Int) (1) (9))) (b := (inB (n : Int) (1) (9))) (want := true) hgb (want_t _) (fun hc => ?_) (fun hc => un_ hc)
   replace h2 := h2.get hc
   refine give_func #[.slice a n cp, .func (.func 92) #[] #[]] rfl h1 Try.call91 (by simp [h2, h3]) ?_
   refine (hasO_any (HA.ext hR)).mono ?_
   rintro e wz ⟨rfl, hez⟩
   exact ⟨_, rfl, hez, uy hc⟩
  refine Gc (ln1 (gT rfl iB) rfl (ouU rfl) iC (fun r wx hR h1 => by simp [execOp, h1, go_sem])) ?_
  refine Gc (lnA (gd0 rfl) rfl (ouI rfl) iA iD) ?_
  refine Gc (lmv rfl (.inr rfl) rfl rfl iB) ?_
  exact GoodAll.nil
 ·
  intro vs wE aE hR hold haE
  have hv : vs 8 = .bool ((inB (n : Int) (1) (9)) && (!(!opsB L))) := hold.at 8
  refine ‹∀ (a : Act) (w : World), Code.wp Try.prog Code.ret _ a w → _› _ _ ?_
  refine wp_ret ?_
  have hs : aE.tmps[2]? = some (.bool ((inB (n : Int) (1) (9)) && (!(!opsB L)))) := by rw [haE, ← hv]; kernel_rfl
  have hdf : aE.defers = [] := by rw [haE]; exact putAll_defers _ _ _ _
  clear haE
  refine bodyPost_ret (v := .bool ((inB (n : Int) (1) (9)) && (!(!opsB L)))) ?_ hdf ⟨rfl, hR⟩
  simp [results, Try.results74, go_sem, hs]
def gapsB (a : Int) : List (Int × Int) → Bool
 | [] => true
 | p :: L => !(decide (p.1 < a + 2) || (decide (p.1 > p.2) || decide (p.2 > 65535))) && gapsB p.2 L
theorem gapsB_cons (a : Int) (p : Int × Int) (L : List (Int × Int)) : gapsB a (p :: L) = (!(decide (p.1 < a + 2) || (decide (p.1 > p.2) || decide (p.2 > 65535))) && gapsB p.2 L) := rfl
theorem one_pair (x y : Int) : ∀ v ∈ (#[Value.int .i64 x, .int .i64 y] : Array Value).toList, v.oneCell' = true := by
 intro v hv
 simp at hv
 rcases hv with rfl | rfl <;> rfl
theorem zeroGp : (Try.prog.info? 67).bind (·.zero) = some (.agg #[.int .i64 0, .int .i64 0]) := by kernel_rfl
theorem drop_pair {L : List (Int × Int)} {k : Nat} (h : k < L.length) : L.drop k = L.getD k (0, 0) :: L.drop (k + 1) := by
 rw [List.drop_eq_getElem_cons h]; simp [List.getD_eq_getElem?_getD, h]
theorem gapsFit_any {w : World} {a : Option Addr} {n cp : Nat} {L : List (Int × Int)} (h : PairsAt w (.slice a n cp) L) :
  Calls Try.prog 73 #[.slice a n cp] w fun e w' => e = .returned (.bool (gapsB (-1) L && decide ((L.length : Int) ≤ 16))) ∧ Ext w w' := by
 have HN : Hid (PairsAt w (.slice a n cp) L ∧ n = L.length) := ⟨h, h.len.1⟩
 have hmx := h.len.2.1
 unfold maxLen at hmx
 clear h
 obtain ⟨G, hG⟩ : ∃ G, G = gapsB (-1) L := ⟨_, rfl⟩
 rw [← HN.out.2, ← hG]
 have HG : Hid (G = gapsB (-1) (L.drop 0)) := hG
 clear hG
 go_enter Try.func73, Try.ntmps73
 go_wp2
 go_loopg [3, 8] n (fun gm u t wr => ∃ (k : Nat) (z : Int), k ≤ n ∧ gm = n - k ∧ u = .int .i64 z ∧ t = .int .i64 (k : Int) ∧ -1 ≤ z ∧ z ≤ 65535 ∧ Hid (Ext w wr ∧ G = gapsB z (L.drop k)))
 case atStart => exact ⟨0, -1, Nat.zero_le _, rfl, rfl, rfl, by omega, by omega, Ext.refl _, HG.out⟩
 case round =>
  obtain ⟨k, z, hk, rfl, rfl, rfl, hz1, hz2, HR⟩ := hrel
  by_cases hlt : k < n
  ·
   have hd : decide ((k : Int) < (n : Int)) = true := decide_eq_true (by omega)
   have hkL : k < L.length := by rw [← HN.out.2]; exact hlt
   obtain ⟨b, off, rfl, hc0, hc1⟩ := HN.out.1.cellAt k hkL
   replace hc0 := HR.out.1.cell hc0
   replace hc1 := HR.out.1.cell hc1
   have HKL : Hid (L.drop k = L.getD k (0, 0) :: L.drop (k + 1)) := drop_pair hkL
   clear hkL
   obtain ⟨p, hp⟩ : ∃ p, p = L.getD k (0, 0) := ⟨_, rfl⟩
   rw [← hp] at hc0 hc1 HKL
   clear hp
   obtain ⟨x, y⟩ := p
   dsimp only at hc0 hc1
   have HQ : Hid (G = (!(decide (x < z + 2) || (decide (x > y) || decide (y > 65535))) && gapsB y (L.drop (k + 1)))) := HR.out.2.trans (by rw [HKL.out]; rfl)
   clear HKL
   by_cases h1 : x < z + 2
   ·
    have d1 : decide (x < z + 2) = true := decide_eq_true h1
    have HF : Hid (G = false) := HQ.out.trans (by rw [d1]; rfl)
    clear HQ
    go_wp2_with (first
     | (refine wl_loadP rfl rowGp rfl rfl hc0 hc1 ?_)
     | (refine wl_alloc rfl rfl zeroGp ?_; intro w2 hb2 he2 hx; clear hx)
     | (refine wl_store (D := #[.int .i64 x, .int .i64 y]) rfl rowGp rfl rfl rfl hb2 rfl rfl (one_pair x y) ?_; intro w3 hb3 hk3 hx; clear hx; have d0 := hb3.cell 0; have d1' := hb3.cell 1))
    go_ret
    exact ⟨by rw [HF.out]; rfl, HR.out.1.trans (he2.of_but hk3 (fun q e => by subst e; exact Nat.le_refl _))⟩
   have d1 : decide (x < z + 2) = false := decide_eq_false h1
   by_cases h2 : x > y
   ·
    have d2 : decide (x > y) = true := decide_eq_true h2
    have d2' : decide (y < x) = true := decide_eq_true h2
    have HF : Hid (G = false) := HQ.out.trans (by rw [d1, d2]; rfl)
    clear HQ
    go_wp2_with (first
     | (refine wl_loadP rfl rowGp rfl rfl hc0 hc1 ?_)
     | (refine wl_alloc rfl rfl zeroGp ?_; intro w2 hb2 he2 hx; clear hx)
     | (refine wl_store (D := #[.int .i64 x, .int .i64 y]) rfl rowGp rfl rfl rfl hb2 rfl rfl (one_pair x y) ?_; intro w3 hb3 hk3 hx; clear hx; have d0 := hb3.cell 0; have d1' := hb3.cell 1))
    go_ret
    exact ⟨by rw [HF.out]; rfl, HR.out.1.trans (he2.of_but hk3 (fun q e => by subst e; exact Nat.le_refl _))⟩
   have d2 : decide (x > y) = false := decide_eq_false h2
   have d2' : decide (y < x) = false := decide_eq_false h2
   by_cases h3 : y > 65535
   ·
    have d3 : decide (y > 65535) = true := decide_eq_true h3
    have d3' : decide (65535 < y) = true := decide_eq_true h3
    have HF : Hid (G = false) := HQ.out.trans (by rw [d1, d2, d3]; rfl)
    clear HQ
    go_wp2_with (first
     | (refine wl_loadP rfl rowGp rfl rfl hc0 hc1 ?_)
     | (refine wl_alloc rfl rfl zeroGp ?_; intro w2 hb2 he2 hx; clear hx)
     | (refine wl_store (D := #[.int .i64 x, .int .i64 y]) rfl rowGp rfl rfl rfl hb2 rfl rfl (one_pair x y) ?_; intro w3 hb3 hk3 hx; clear hx; have d0 := hb3.cell 0; have d1' := hb3.cell 1))
    go_ret
    exact ⟨by rw [HF.out]; rfl, HR.out.1.trans (he2.of_but hk3 (fun q e => by subst e; exact Nat.le_refl _))⟩
   have d3 : decide (y > 65535) = false := decide_eq_false h3
   have d3' : decide (65535 < y) = false := decide_eq_false h3
   have HF : Hid (G = gapsB y (L.drop (k + 1))) := HQ.out.trans (by rw [d1, d2, d3]; rfl)
   clear HQ
   have hy1 : -1 ≤ y := by omega
   have hy2 : y ≤ 65535 := by omega
   go_wp2_with (first
    | (refine wl_loadP rfl rowGp rfl rfl hc0 hc1 ?_)
    | (refine wl_alloc rfl rfl zeroGp ?_; intro w2 hb2 he2 hx; clear hx)
    | (refine wl_store (D := #[.int .i64 x, .int .i64 y]) rfl rowGp rfl rfl rfl hb2 rfl rfl (one_pair x y) ?_; intro w3 hb3 hk3 hx; clear hx; have d0 := hb3.cell 0; have d1' := hb3.cell 1))
   go_roundg (n - (k + 1))
   case measure => omega
   case rel => exact ⟨k + 1, y, by omega, rfl, rfl, by simp, hy1, hy2, HR.out.1.trans (he2.of_but hk3 (fun q e => by subst e; exact Nat.le_refl _)), HF.out⟩
  ·
   have hd : decide ((k : Int) < (n : Int)) = false := decide_eq_false (by omega)
   have HF : Hid (G = true) := HR.out.2.trans (by rw [List.drop_eq_nil_of_le (by rw [← HN.out.2]; omega)]; rfl)
   go_wp2
   go_ret
   exact ⟨by rw [HF.out]; simp, HR.out.1⟩
abbrev st_0 (c : Ck) : Bool := (((c.tag : Int) != 0) && (inB c.win 0 2147483647))
abbrev st_1 (c : Ck) : Bool := ((st_0 c) && (inB (c.out) (1) (8)))
abbrev st_2 (c : Ck) : Bool := ((st_1 c) && (inB (c.inn) (1) (8)))
abbrev st_3 (c : Ck) : Bool := ((st_2 c) && (inB (c.rand.length : Int) (1) (64)))
abbrev st_4 (c : Ck) : Bool := ((st_3 c) && (inB (c.addrs.length : Int) 1 4 && adsB c.addrs))
def startB (c : Ck) : Bool := (((((((c.tag : Int) != 0) && (inB c.win 0 2147483647)) && (inB (c.out) (1) (8))) && (inB (c.inn) (1) (8))) && (inB (c.rand.length : Int) (1) (64))) && (inB (c.addrs.length : Int) 1 4 && adsB c.addrs))
theorem startFits_any {w : World} {c : Ck} {s : Sv} (ha : CkAt w s c) :
  Calls Try.prog 70 #[.agg (CV c s)] w fun e w' => e = .returned (.bool (startB c)) ∧ Ext w w' := by
 have hrl : s.rN = c.rand.length := (bytes_len ha.r).1
 unfold startB
 go_enter Try.func70, Try.ntmps70
 refine wp_seq_k (fun K hK => ?_)
 have HK := Stop.mk hK
 clear hK
 go_wp2_with (first
  | (refine wl_box (C := CV c s) rfl rfl rfl ?_; intro w1 hb1 he1 hx; clear hx))
 refine HK.go _ _ ?_
 refine wp_seq_k (fun K2 hK2 => ?_)
 have HA := ha.ext he1
 refine wp_line (fun t => bif Nat.ble 3 t && Nat.ble t 30 then some (t - 3) else bif Nat.beq t 2 then some 28 else none) 31 Ext
  [Is (.pointer (some ⟨w.heap.size, 8, none⟩)),
   Is (.int .u32 (c.tag : Int)),
   Is (.bool ((c.tag : Int) != 0)),
   Is (.bool ((c.tag : Int) != 0)),
   Under ((c.tag : Int) != 0) (.agg (CV c s)),
   Under ((c.tag : Int) != 0) (.bool (inB c.win 0 2147483647)),
   Is (.bool (st_0 c)),
   Is (.bool (st_0 c)),
   Under (st_0 c) (.pointer (some ⟨w.heap.size, 10, none⟩)),
   Under (st_0 c) (.int .i64 c.out),
   Under (st_0 c) (.bool (inB (c.out) (1) (8))),
   Is (.bool (st_1 c)),
   Is (.bool (st_1 c)),
   Under (st_1 c) (.pointer (some ⟨w.heap.size, 11, none⟩)),
   Under (st_1 c) (.int .i64 c.inn),
   Under (st_1 c) (.bool (inB (c.inn) (1) (8))),
   Is (.bool (st_2 c)),
   Is (.bool (st_2 c)),
   Under (st_2 c) (.pointer (some ⟨w.heap.size, 13, none⟩)),
   Under (st_2 c) (.slice s.rA s.rN s.rC),
   Under (st_2 c) (.int .i64 (c.rand.length : Int)),
   Under (st_2 c) (.bool (inB (c.rand.length : Int) (1) (64))),
   Is (.bool (st_3 c)),
   Is (.bool (st_3 c)),
   Under (st_3 c) (.pointer (some ⟨w.heap.size, 14, none⟩)),
   Under (st_3 c) (.slice s.aA s.aN s.aC),
   Under (st_3 c) (.bool (inB (c.addrs.length : Int) 1 4 && adsB c.addrs)),
   Is (.bool (st_4 c)),
   Is (.bool (st_4 c))]
  rfl (by kernel_rfl) rfl Ext.refl (fun _ _ _ => Ext.trans) (Ks (Ks (Ks (Ks (Ku (Ku (Ks (Ks (Ku (Ku (Ku (Ks (Ks (Ku (Ku (Ku (Ks (Ks (Ku (Ku (Ku (Ku (Ks (Ks (Ku (Ku (Ku (Ks (Ks (KeepAll.nil)))))))))))))))))))))))))))))) ?_ ?_
 ·
  refine Gc (ln1 (gd0 rfl) rfl (ouI rfl) iA (fun r wx hR h1 => by simp [execOp, h1, go_sem])) ?_
  refine Gc (ln1 (gd0 rfl) rfl (ouI rfl) iA (fun r wx hR h1 => exg one22 rfl h1 (cv8 (hb1.ext hR)))) ?_
  refine Gc (ln2 (gd0 rfl) rfl (ouI rfl) iA iA (fun r wx hR h1 h2 => by simp [execOp, h1, h2, go_sem])) ?_
  refine Gc (lmv rfl (.inl rfl) rfl rfl iB) ?_
  refine Gc (ln1 (gT rfl iB) rfl (ouU rfl) iA (fun r wx hR h1 => exec_loadW rowC rfl h1 (hb1.ext hR) rfl)) ?_
  refine Gc ?_ ?_
  ·
   rintro r wx hR ⟨h1, h2, _⟩
   replace h1 : r (.func 72) = .func (.func 72) #[] #[] := h1
   replace h2 : Under ((c.tag : Int) != 0) (.agg (CV c s)) wx (r (.tmp 7)) := h2
   intro gb hgb
   refine guard_u (C := ((c.tag : Int) != 0)) (b := ((c.tag : Int) != 0)) (want := true) hgb (want_t _) (fun hc => ?_) (fun hc => un_ hc)
   replace h2 := h2.get hc
   refine give_func #[.agg (CV c s)] rfl h1 Try.call72 (by simp [h2]) ?_
   refine (windowFits_any c s _).mono ?_
   rintro e wz ⟨rfl, hez⟩
   exact ⟨_, rfl, hez, uy hc⟩
  refine Gc (lnA (gd0 rfl) rfl (ouI rfl) iA iD) ?_
  refine Gc (lmv rfl (.inl rfl) rfl rfl iB) ?_
  refine Gc (ln1 (gT rfl iB) rfl (ouU rfl) iA (fun r wx hR h1 => by simp [execOp, h1, go_sem])) ?_
  refine Gc (ln1 (gT rfl iB) rfl (ouU rfl) iC (fun r wx hR h1 => exg one3 rfl h1 (cv10 (hb1.ext hR)))) ?_
  refine Gc ?_ ?_
  ·
   rintro r wx hR ⟨h1, h2, h3, h4, _⟩
   replace h1 : r (.func 69) = .func (.func 69) #[] #[] := h1
   replace h2 : Under (st_0 c) (.int .i64 c.out) wx (r (.tmp 12)) := h2
   replace h3 : r (.const (.int .i64 1)) = .int .i64 1 := h3
   replace h4 : r (.const (.int .i64 8)) = .int .i64 8 := h4
   intro gb hgb
   refine guard_u (C := (st_0 c)) (b := (st_0 c)) (want := true) hgb (want_t _) (fun hc => ?_) (fun hc => un_ hc)
   replace h2 := h2.get hc
   refine give_func #[.int .i64 c.out, .int .i64 1, .int .i64 8] rfl h1 Try.call69 (by simp [h2, h3, h4]) ?_
   refine (within_any _ _ _ _).mono ?_
   rintro e wz ⟨rfl, hez⟩
   exact ⟨_, rfl, hez, uy hc⟩
  refine Gc (lnA (gd0 rfl) rfl (ouI rfl) iA iD) ?_
  refine Gc (lmv rfl (.inl rfl) rfl rfl iB) ?_
  refine Gc (ln1 (gT rfl iB) rfl (ouU rfl) iA (fun r wx hR h1 => by simp [execOp, h1, go_sem])) ?_
  refine Gc (ln1 (gT rfl iB) rfl (ouU rfl) iC (fun r wx hR h1 => exg one3 rfl h1 (cv11 (hb1.ext hR)))) ?_
  refine Gc ?_ ?_
  ·
   rintro r wx hR ⟨h1, h2, h3, h4, _⟩
   replace h1 : r (.func 69) = .func (.func 69) #[] #[] := h1
   replace h2 : Under (st_1 c) (.int .i64 c.inn) wx (r (.tmp 17)) := h2
   replace h3 : r (.const (.int .i64 1)) = .int .i64 1 := h3
   replace h4 : r (.const (.int .i64 8)) = .int .i64 8 := h4
   intro gb hgb
   refine guard_u (C := (st_1 c)) (b := (st_1 c)) (want := true) hgb (want_t _) (fun hc => ?_) (fun hc => un_ hc)
   replace h2 := h2.get hc
   refine give_func #[.int .i64 c.inn, .int .i64 1, .int .i64 8] rfl h1 Try.call69 (by simp [h2, h3, h4]) ?_
   refine (within_any _ _ _ _).mono ?_
   rintro e wz ⟨rfl, hez⟩
   exact ⟨_, rfl, hez, uy hc⟩
  refine Gc (lnA (gd0 rfl) rfl (ouI rfl) iA iD) ?_
  refine Gc (lmv rfl (.inl rfl) rfl rfl iB) ?_
  refine Gc (ln1 (gT rfl iB) rfl (ouU rfl) iA (fun r wx hR h1 => by simp [execOp, h1, go_sem])) ?_
  refine Gc (ln1 (gT rfl iB) rfl (ouU rfl) iC (fun r wx hR h1 => exg oneS rfl h1 (cv13 (hb1.ext hR)))) ?_
  refine Gc (ln1 (gT rfl iB) rfl (ouU rfl) iC (fun r wx hR h1 => by replace h1 : r (.tmp 22) = _ := h1; simp [execOp, h1, hrl, go_sem])) ?_
  refine Gc ?_ ?_
  ·
   rintro r wx hR ⟨h1, h2, h3, h4, _⟩
   replace h1 : r (.func 69) = .func (.func 69) #[] #[] := h1
   replace h2 : Under (st_2 c) (.int .i64 (c.rand.length : Int)) wx (r (.tmp 23)) := h2
   replace h3 : r (.const (.int .i64 1)) = .int .i64 1 := h3
   replace h4 : r (.const (.int .i64 64)) = .int .i64 64 := h4
   intro gb hgb
   refine guard_u (C := (st_2 c)) (b := (st_2 c)) (want := true) hgb (want_t _) (fun hc => ?_) (fun hc => un_ hc)
   replace h2 := h2.get hc
   refine give_func #[.int .i64 (c.rand.length : Int), .int .i64 1, .int .i64 64] rfl h1 Try.call69 (by simp [h2, h3, h4]) ?_
   refine (within_any _ _ _ _).mono ?_
   rintro e wz ⟨rfl, hez⟩
   exact ⟨_, rfl, hez, uy hc⟩
  refine Gc (lnA (gd0 rfl) rfl (ouI rfl) iA iD) ?_
  refine Gc (lmv rfl (.inl rfl) rfl rfl iB) ?_
  refine Gc (ln1 (gT rfl iB) rfl (ouU rfl) iA (fun r wx hR h1 => by simp [execOp, h1, go_sem])) ?_
  refine Gc (ln1 (gT rfl iB) rfl (ouU rfl) iC (fun r wx hR h1 => exg oneSA rfl h1 (cv14 (hb1.ext hR)))) ?_
  refine Gc ?_ ?_
  ·
   rintro r wx hR ⟨h1, h2, _⟩
   replace h1 : r (.func 90) = .func (.func 90) #[] #[] := h1
   replace h2 : Under (st_3 c) (.slice s.aA s.aN s.aC) wx (r (.tmp 28)) := h2
   intro gb hgb
   refine guard_u (C := (st_3 c)) (b := (st_3 c)) (want := true) hgb (want_t _) (fun hc => ?_) (fun hc => un_ hc)
   replace h2 := h2.get hc
   refine give_func #[.slice s.aA s.aN s.aC] rfl h1 Try.call90 (by simp [h2]) ?_
   refine (addrsFit_any (HA.a.ext hR)).mono ?_
   rintro e wz ⟨rfl, hez⟩
   exact ⟨_, rfl, hez, uy hc⟩
  refine Gc (lnA (gd0 rfl) rfl (ouI rfl) iA iD) ?_
  refine Gc (lmv rfl (.inr rfl) rfl rfl iB) ?_
  exact GoodAll.nil
 ·
  intro vs wE aE hR hold haE
  have hv : vs 28 = .bool (((((((c.tag : Int) != 0) && (inB c.win 0 2147483647)) && (inB (c.out) (1) (8))) && (inB (c.inn) (1) (8))) && (inB (c.rand.length : Int) (1) (64))) && (inB (c.addrs.length : Int) 1 4 && adsB c.addrs)) := hold.at 28
  refine ‹∀ (a : Act) (w : World), Code.wp Try.prog Code.ret _ a w → _› _ _ ?_
  refine wp_ret ?_
  have hs : aE.tmps[2]? = some (.bool (((((((c.tag : Int) != 0) && (inB c.win 0 2147483647)) && (inB (c.out) (1) (8))) && (inB (c.inn) (1) (8))) && (inB (c.rand.length : Int) (1) (64))) && (inB (c.addrs.length : Int) 1 4 && adsB c.addrs))) := by rw [haE, ← hv]; kernel_rfl
  have hdf : aE.defers = [] := by rw [haE]; exact putAll_defers _ _ _ _
  clear haE
  refine bodyPost_ret (v := .bool (((((((c.tag : Int) != 0) && (inB c.win 0 2147483647)) && (inB (c.out) (1) (8))) && (inB (c.inn) (1) (8))) && (inB (c.rand.length : Int) (1) (64))) && (inB (c.addrs.length : Int) 1 4 && adsB c.addrs))) ?_ hdf ⟨rfl, he1.trans hR⟩
  simp [results, Try.results70, go_sem, hs]
def fitsB (c : Ck) : Bool :=
 if c.kind = 0 then inB (c.text.length : Int) 1 64
 else if c.kind = 1 then startB c
 else if c.kind = 2 then startB c && inB (c.info.length : Int) 1 300
 else if c.kind = 3 then (inB c.win 0 2147483647 && (gapsB (-1) c.gaps && decide ((c.gaps.length : Int) ≤ 16))) && decide ((c.dups.length : Int) ≤ 16)
 else if c.kind = 4 ∨ c.kind = 5 ∨ c.kind = 10 then inB (c.info.length : Int) 1 300
 else if c.kind = 15 then (c.info.length : Int) == 32
 else if c.kind = 6 ∨ c.kind = 9 then inB c.cause 0 65535
 else if c.kind = 193 then inB (c.ops.length : Int) 1 9 && opsB c.ops
 else true
theorem fits_any {w : World} {c : Ck} {s : Sv} (ha : CkAt w s c) :
  Calls Try.prog 34 #[.agg (CV c s)] w fun e w' => e = .returned (.bool (fitsB c)) ∧ Ext w w' := by
 have htl : s.tN = c.text.length := (bytes_len ha.t).1
 have hil : s.iN = c.info.length := (bytes_len ha.i).1
 have hdl : s.dN = c.dups.length := by have := (nums_len ha.d).1; rwa [ci_len] at this
 have HL : Hid (s.tN = c.text.length ∧ s.iN = c.info.length ∧ s.dN = c.dups.length) := ⟨htl, hil, hdl⟩
 clear htl hil hdl
 by_cases hk : c.kind = 0
 ·
  have HE : Hid (fitsB c = inB (c.text.length : Int) 1 64) := show _ = _ by simp [fitsB, hk]
  rw [HE.out]
  rw [← HL.out.1]
  go_enter Try.func34, Try.ntmps34
  go_wp2_with (first
   | (refine wl_box (C := CV c s) rfl rfl rfl ?_; intro w1 hb1 he1 hx; clear hx; have c0 := cv0 hb1; have c7 := cv7 hb1; have c15 := cv15 hb1; have c17 := cv17 hb1; have c18 := cv18 hb1; have c20 := cv20 hb1)
   | (refine wl_load rfl rowC rfl rfl hb1 rfl ?_)
   | (go_at_call 69; refine (within_any _ _ _ _).mono ?_; rintro e w2 ⟨rfl, he2⟩))
  go_ret
  exact ⟨rfl, he1.trans he2⟩
 by_cases hk : c.kind = 1
 ·
  have HE : Hid (fitsB c = startB c) := show _ = _ by simp [fitsB, hk]
  rw [HE.out]
  go_enter Try.func34, Try.ntmps34
  go_wp2_with (first
   | (refine wl_box (C := CV c s) rfl rfl rfl ?_; intro w1 hb1 he1 hx; clear hx; have c0 := cv0 hb1; have c7 := cv7 hb1; have c15 := cv15 hb1; have c17 := cv17 hb1; have c18 := cv18 hb1; have c20 := cv20 hb1)
   | (refine wl_load rfl rowC rfl rfl hb1 rfl ?_)
   | (go_at_call 70; refine (startFits_any (ha.ext he1)).mono ?_; rintro e w2 ⟨rfl, he2⟩))
  go_ret
  exact ⟨rfl, he1.trans he2⟩
 by_cases hk : c.kind = 2
 ·
  have HE : Hid (fitsB c = (startB c && inB (c.info.length : Int) 1 300)) := show _ = _ by simp [fitsB, hk]
  rw [HE.out]
  go_enter Try.func34, Try.ntmps34
  go_wp2_with (first
   | (refine stop_at 7 rfl ?_)
   | (refine wl_box (C := CV c s) rfl rfl rfl ?_; intro w1 hb1 he1 hx; clear hx; have c0 := cv0 hb1; have c7 := cv7 hb1; have c15 := cv15 hb1; have c17 := cv17 hb1; have c18 := cv18 hb1; have c20 := cv20 hb1)
   | (refine wl_load rfl rowC rfl rfl hb1 rfl ?_))
  refine ⟨?_⟩
  have HA := ha.ext he1
  refine wpList_line 0 (fun t => bif Nat.ble 18 t && Nat.ble t 23 then some (t - 18) else bif Nat.beq t 2 then some 6 else none) 62 Ext
   [Is (.agg (CV c s)),
    Is (.bool (startB c)),
    Is (.bool (startB c)),
    Under (startB c) (.agg (CV c s)),
    Under (startB c) (.bool (inB (c.info.length : Int) 1 300)),
    Is (.bool ((startB c) && (inB (c.info.length : Int) 1 300))),
    Is (.bool ((startB c) && (inB (c.info.length : Int) 1 300)))]
   rfl (by kernel_rfl) rfl Ext.refl (fun _ _ _ => Ext.trans) (Ks (Ks (Ks (Ku (Ku (Ks (Ks (KeepAll.nil)))))))) ?_ ?_ ?_
  ·
   intro i o hi ho
   exact absurd hi (by omega)
  ·
   refine goodFrom 0 ?_
   refine Gc (ln1 (gd0 rfl) rfl (ouI rfl) iA (fun r wx hR h1 => exec_loadW rowC rfl h1 (hb1.ext hR) rfl)) ?_
   refine Gc ?_ ?_
   ·
    rintro r wx hR ⟨h1, h2, _⟩
    replace h1 : r (.func 70) = .func (.func 70) #[] #[] := h1
    replace h2 : r (.tmp 18) = .agg (CV c s) := h2
    refine give_func #[.agg (CV c s)] rfl h1 Try.call70 (by simp [h2]) ?_
    refine (startFits_any (HA.ext hR)).mono ?_
    rintro e wz ⟨rfl, hez⟩
    exact ⟨_, rfl, hez, rfl⟩
   refine Gc (lmv rfl (.inl rfl) rfl rfl iB) ?_
   refine Gc (ln1 (gT rfl iB) rfl (ouU rfl) iA (fun r wx hR h1 => exec_loadW rowC rfl h1 (hb1.ext hR) rfl)) ?_
   refine Gc ?_ ?_
   ·
    rintro r wx hR ⟨h1, h2, _⟩
    replace h1 : r (.func 71) = .func (.func 71) #[] #[] := h1
    replace h2 : Under (startB c) (.agg (CV c s)) wx (r (.tmp 21)) := h2
    intro gb hgb
    refine guard_u (C := (startB c)) (b := (startB c)) (want := true) hgb (want_t _) (fun hc => ?_) (fun hc => un_ hc)
    replace h2 := h2.get hc
    refine give_func #[.agg (CV c s)] rfl h1 Try.call71 (by simp [h2]) ?_
    refine (infoFits_any c s HL.out.2.1 _).mono ?_
    rintro e wz ⟨rfl, hez⟩
    exact ⟨_, rfl, hez, uy hc⟩
   refine Gc (lnA (gd0 rfl) rfl (ouI rfl) iA iD) ?_
   refine Gc (lmv rfl (.inr rfl) rfl rfl iB) ?_
   exact GoodAll.nil
  ·
   intro vs wE aE hR hold haE
   have hv : vs 6 = .bool ((startB c) && (inB (c.info.length : Int) 1 300)) := hold.at 6
   refine ‹∀ (a : Act) (w : World), Code.wp Try.prog Code.ret _ a w → _› _ _ ?_
   refine wp_ret ?_
   have hs : aE.tmps[2]? = some (.bool ((startB c) && (inB (c.info.length : Int) 1 300))) := by rw [haE, ← hv]; kernel_rfl
   have hdf : aE.defers = [] := by rw [haE]; exact putAll_defers _ _ _ _
   clear haE
   unfold Exit.then Exit.inBlock; dsimp only
   refine bodyPost_ret (v := .bool ((startB c) && (inB (c.info.length : Int) 1 300))) ?_ hdf ⟨rfl, he1.trans hR⟩
   simp [results, Try.results34, go_sem, hs]
 by_cases hk : c.kind = 3
 ·
  have HE : Hid (fitsB c = ((inB c.win 0 2147483647 && (gapsB (-1) c.gaps && decide ((c.gaps.length : Int) ≤ 16))) && decide ((c.dups.length : Int) ≤ 16))) := show _ = _ by simp [fitsB, hk]
  rw [HE.out]
  cases hs : inB c.win 0 2147483647 with
  | true =>
   cases hg : (gapsB (-1) c.gaps && decide ((c.gaps.length : Int) ≤ 16)) with
   | true =>
    rw [← HL.out.2.2]
    go_enter Try.func34, Try.ntmps34
    go_wp2_with (first
     | (refine wl_box (C := CV c s) rfl rfl rfl ?_; intro w1 hb1 he1 hx; clear hx; have c0 := cv0 hb1; have c7 := cv7 hb1; have c15 := cv15 hb1; have c17 := cv17 hb1; have c18 := cv18 hb1; have c20 := cv20 hb1)
     | (refine wl_load rfl rowC rfl rfl hb1 rfl ?_)
     | (go_at_call 72; refine (windowFits_any c s _).mono ?_; rintro e w2 ⟨rfl, he2⟩; rw [hs]; have d16 := cv16 (hb1.ext he2))
     | (go_at_call 73; refine (gapsFit_any ((ha.ext he1).g.ext he2)).mono ?_; rintro e w3 ⟨rfl, he3⟩; rw [hg]; have d17 := cv17 ((hb1.ext he2).ext he3)))
    go_ret
    exact ⟨by simp, (he1.trans he2).trans he3⟩
   | false =>
    go_enter Try.func34, Try.ntmps34
    go_wp2_with (first
     | (refine wl_box (C := CV c s) rfl rfl rfl ?_; intro w1 hb1 he1 hx; clear hx; have c0 := cv0 hb1; have c7 := cv7 hb1; have c15 := cv15 hb1; have c17 := cv17 hb1; have c18 := cv18 hb1; have c20 := cv20 hb1)
     | (refine wl_load rfl rowC rfl rfl hb1 rfl ?_)
     | (go_at_call 72; refine (windowFits_any c s _).mono ?_; rintro e w2 ⟨rfl, he2⟩; rw [hs]; have d16 := cv16 (hb1.ext he2))
     | (go_at_call 73; refine (gapsFit_any ((ha.ext he1).g.ext he2)).mono ?_; rintro e w3 ⟨rfl, he3⟩; rw [hg]; have d17 := cv17 ((hb1.ext he2).ext he3)))
    go_ret
    exact ⟨by simp, (he1.trans he2).trans he3⟩
  | false =>
   go_enter Try.func34, Try.ntmps34
   go_wp2_with (first
    | (refine wl_box (C := CV c s) rfl rfl rfl ?_; intro w1 hb1 he1 hx; clear hx; have c0 := cv0 hb1; have c7 := cv7 hb1; have c15 := cv15 hb1; have c17 := cv17 hb1; have c18 := cv18 hb1; have c20 := cv20 hb1)
    | (refine wl_load rfl rowC rfl rfl hb1 rfl ?_)
    | (go_at_call 72; refine (windowFits_any c s _).mono ?_; rintro e w2 ⟨rfl, he2⟩; rw [hs]))
   go_ret
   exact ⟨by simp, he1.trans he2⟩
 by_cases hk : c.kind = 4
 ·
  have HE : Hid (fitsB c = inB (c.info.length : Int) 1 300) := show _ = _ by simp [fitsB, hk]
  rw [HE.out]
  go_enter Try.func34, Try.ntmps34
  go_wp2_with (first
   | (refine wl_box (C := CV c s) rfl rfl rfl ?_; intro w1 hb1 he1 hx; clear hx; have c0 := cv0 hb1; have c7 := cv7 hb1; have c15 := cv15 hb1; have c17 := cv17 hb1; have c18 := cv18 hb1; have c20 := cv20 hb1)
   | (refine wl_load rfl rowC rfl rfl hb1 rfl ?_)
   | (go_at_call 71; refine (infoFits_any c s HL.out.2.1 _).mono ?_; rintro e w2 ⟨rfl, he2⟩))
  go_ret
  exact ⟨rfl, he1.trans he2⟩
 by_cases hk : c.kind = 5
 ·
  have HE : Hid (fitsB c = inB (c.info.length : Int) 1 300) := show _ = _ by simp [fitsB, hk]
  rw [HE.out]
  go_enter Try.func34, Try.ntmps34
  go_wp2_with (first
   | (refine wl_box (C := CV c s) rfl rfl rfl ?_; intro w1 hb1 he1 hx; clear hx; have c0 := cv0 hb1; have c7 := cv7 hb1; have c15 := cv15 hb1; have c17 := cv17 hb1; have c18 := cv18 hb1; have c20 := cv20 hb1)
   | (refine wl_load rfl rowC rfl rfl hb1 rfl ?_)
   | (go_at_call 71; refine (infoFits_any c s HL.out.2.1 _).mono ?_; rintro e w2 ⟨rfl, he2⟩))
  go_ret
  exact ⟨rfl, he1.trans he2⟩
 by_cases hk : c.kind = 10
 ·
  have HE : Hid (fitsB c = inB (c.info.length : Int) 1 300) := show _ = _ by simp [fitsB, hk]
  rw [HE.out]
  go_enter Try.func34, Try.ntmps34
  go_wp2_with (first
   | (refine wl_box (C := CV c s) rfl rfl rfl ?_; intro w1 hb1 he1 hx; clear hx; have c0 := cv0 hb1; have c7 := cv7 hb1; have c15 := cv15 hb1; have c17 := cv17 hb1; have c18 := cv18 hb1; have c20 := cv20 hb1)
   | (refine wl_load rfl rowC rfl rfl hb1 rfl ?_)
   | (go_at_call 71; refine (infoFits_any c s HL.out.2.1 _).mono ?_; rintro e w2 ⟨rfl, he2⟩))
  go_ret
  exact ⟨rfl, he1.trans he2⟩
 by_cases hk : c.kind = 15
 ·
  have HE : Hid (fitsB c = ((c.info.length : Int) == 32)) := show _ = _ by simp [fitsB, hk]
  rw [HE.out]
  rw [← HL.out.2.1]
  go_enter Try.func34, Try.ntmps34
  go_wp2_with (first
   | (refine wl_box (C := CV c s) rfl rfl rfl ?_; intro w1 hb1 he1 hx; clear hx; have c0 := cv0 hb1; have c7 := cv7 hb1; have c15 := cv15 hb1; have c17 := cv17 hb1; have c18 := cv18 hb1; have c20 := cv20 hb1)
   | (refine wl_load rfl rowC rfl rfl hb1 rfl ?_))
  go_ret
  exact ⟨rfl, he1⟩
 by_cases hk : c.kind = 6
 ·
  have HE : Hid (fitsB c = inB c.cause 0 65535) := show _ = _ by simp [fitsB, hk]
  rw [HE.out]
  go_enter Try.func34, Try.ntmps34
  go_wp2_with (first
   | (refine wl_box (C := CV c s) rfl rfl rfl ?_; intro w1 hb1 he1 hx; clear hx; have c0 := cv0 hb1; have c7 := cv7 hb1; have c15 := cv15 hb1; have c17 := cv17 hb1; have c18 := cv18 hb1; have c20 := cv20 hb1)
   | (refine wl_load rfl rowC rfl rfl hb1 rfl ?_)
   | (go_at_call 69; refine (within_any _ _ _ _).mono ?_; rintro e w2 ⟨rfl, he2⟩))
  go_ret
  exact ⟨rfl, he1.trans he2⟩
 by_cases hk : c.kind = 9
 ·
  have HE : Hid (fitsB c = inB c.cause 0 65535) := show _ = _ by simp [fitsB, hk]
  rw [HE.out]
  go_enter Try.func34, Try.ntmps34
  go_wp2_with (first
   | (refine wl_box (C := CV c s) rfl rfl rfl ?_; intro w1 hb1 he1 hx; clear hx; have c0 := cv0 hb1; have c7 := cv7 hb1; have c15 := cv15 hb1; have c17 := cv17 hb1; have c18 := cv18 hb1; have c20 := cv20 hb1)
   | (refine wl_load rfl rowC rfl rfl hb1 rfl ?_)
   | (go_at_call 69; refine (within_any _ _ _ _).mono ?_; rintro e w2 ⟨rfl, he2⟩))
  go_ret
  exact ⟨rfl, he1.trans he2⟩
 by_cases hk : c.kind = 193
 ·
  have HE : Hid (fitsB c = (inB (c.ops.length : Int) 1 9 && opsB c.ops)) := show _ = _ by simp [fitsB, hk]
  rw [HE.out]
  go_enter Try.func34, Try.ntmps34
  go_wp2_with (first
   | (refine wl_box (C := CV c s) rfl rfl rfl ?_; intro w1 hb1 he1 hx; clear hx; have c0 := cv0 hb1; have c7 := cv7 hb1; have c15 := cv15 hb1; have c17 := cv17 hb1; have c18 := cv18 hb1; have c20 := cv20 hb1)
   | (refine wl_load rfl rowC rfl rfl hb1 rfl ?_)
   | (go_at_call 74; refine (opsFit_any (ha.ext he1).o).mono ?_; rintro e w2 ⟨rfl, he2⟩))
  go_ret
  exact ⟨rfl, he1.trans he2⟩
 have HE : Hid (fitsB c = true) := show _ = _ by simp [fitsB, *]
 rw [HE.out]
 have e0 : (c.kind == 0) = false := beq_false_of_ne (by assumption)
 have e1 : (c.kind == 1) = false := beq_false_of_ne (by assumption)
 have e2 : (c.kind == 2) = false := beq_false_of_ne (by assumption)
 have e3 : (c.kind == 3) = false := beq_false_of_ne (by assumption)
 have e4 : (c.kind == 4) = false := beq_false_of_ne (by assumption)
 have e5 : (c.kind == 5) = false := beq_false_of_ne (by assumption)
 have e10 : (c.kind == 10) = false := beq_false_of_ne (by assumption)
 have e15 : (c.kind == 15) = false := beq_false_of_ne (by assumption)
 have e6 : (c.kind == 6) = false := beq_false_of_ne (by assumption)
 have e9 : (c.kind == 9) = false := beq_false_of_ne (by assumption)
 have e193 : (c.kind == 193) = false := beq_false_of_ne (by assumption)
 go_enter Try.func34, Try.ntmps34
 go_wp2_with (first
  | (refine wl_box (C := CV c s) rfl rfl rfl ?_; intro w1 hb1 he1 hx; clear hx; have c0 := cv0 hb1; have c7 := cv7 hb1; have c15 := cv15 hb1; have c17 := cv17 hb1; have c18 := cv18 hb1; have c20 := cv20 hb1)
  | (refine wl_load rfl rowC rfl rfl hb1 rfl ?_))
 go_ret
 exact ⟨rfl, he1⟩
end Tlv
end Go.Proofs.Ytigocaconkbalaa
