/- Texts of the seat, one behind the other. No condition of its own. -/
import Derived.Test.YtigocaconkbalaaMs9
import Derived.ArgAppend
import Derived.Deep.CutRange
set_option linter.unusedVariables false
set_option linter.unusedSimpArgs false
set_option maxHeartbeats 32000000
set_option maxRecDepth 100000
namespace Go.Proofs.Ytigocaconkbalaa
namespace Tlv
open Go Go.RowKit
theorem gapsS_len (V : List Nat) (s : Option Nat) : ∀ k, (gapsS V s k).2.length = k
 | 0 => rfl
 | k + 1 => by rw [gapsS, List.length_append, gapsS_len V s k]; rfl
theorem dupsS_len (V : List Nat) (s : Option Nat) : ∀ k, (dupsS V s k).2.length = k
 | 0 => rfl
 | k + 1 => by rw [dupsS, List.length_append, dupsS_len V s k]; rfl
theorem leftS_le (V : List Nat) (s : Option Nat) : leftS V s ≤ V.length := by
 cases s with
 | none => exact Nat.zero_le _
 | some a => exact Nat.sub_le _ _
theorem met_no {L : Nat → Bool} {i j : Nat} (h : L i = true → L j = true) (hj : L j = false) : L i = false := by
 cases hi : L i with
 | false => rfl
 | true => exact absurd ((h hi).symm.trans hj) (by decide)
theorem give_one_pair {t e : TypeId} {w : World} {r : Operand → Value} {o : Oper} {K : Value → World → Prop} {x : Operand} {p : Int × Int} (ho : o.op = .buildSlice t 1 #[(0, x)]) (hT : PrT t e) (hx : r x = .agg #[.int .i64 p.1, .int .i64 p.2])
  (h : K (.slice (some ⟨w.heap.size, 0, none⟩) 1 1) (w.alloc (.cells #[.int .i64 p.1, .int .i64 p.2] e))) : give Try.prog K ((execOp r o).run Try.prog w) := by
 obtain ⟨i, hi, hinf⟩ := Option.map_eq_some_iff.1 hT.info
 simp only [Prod.mk.injEq] at hinf
 refine gvo (v := .slice (some ⟨w.heap.size, 0, none⟩) 1 1) (w' := w.alloc (.cells #[.int .i64 p.1, .int .i64 p.2] e)) ?_ h
 simp [execOp, ho, hx, go_sem, run_underlying hT.ut, hi, hinf.1, hinf.2.1, hinf.2.2, sizeOf, typeInfo, zeroValue]
theorem give_one_num {t e : TypeId} {k : IntKind} {by8 : Nat} {w : World} {r : Operand → Value} {o : Oper} {K : Value → World → Prop} {x : Operand} {z : Int} (ho : o.op = .buildSlice t 1 #[(0, x)]) (hT : NumT Try.prog t e k by8) (hx : r x = .int k z)
  (h : K (.slice (some ⟨w.heap.size, 0, none⟩) 1 1) (w.alloc (.cells #[.int k z] e))) : give Try.prog K ((execOp r o).run Try.prog w) := by
 obtain ⟨i, hi, hz, hs, hby⟩ := hT.ex
 refine gvo (v := .slice (some ⟨w.heap.size, 0, none⟩) 1 1) (w' := w.alloc (.cells #[.int k z] e)) ?_ h
 simp [execOp, ho, hx, go_sem, run_underlying hT.ut, hi, hz, hs, hby, sizeOf, typeInfo, zeroValue]
structure SackG (w0 : World) (q : Nat) (V : List Nat) (c : Ck) (s : Sv) (st : Option Nat) (L : Nat → Bool) (vs : Nat → Value) (wx : World) : Prop where
 A : L 12 = false → RS w0 wx q c s V (bif L 9 then (numS V (numS V st 2).1 2).1 else bif L 7 then (numS V st 2).1 else st)
 B : L 12 = true → L 16 = false → ∃ ad n cap gi bv, vs 12 = .slice ad n cap ∧ Half w0 wx q c ({ c with gaps := c.gaps ++ [((((numS V st 2).2 : Nat) : Int), (((numS V (numS V st 2).1 2).2 : Nat) : Int))] }) s { s with gA := ad, gN := n, gC := cap } V (numS V (numS V st 2).1 2).1 gi bv
 C : L 16 = true → ∃ s2, RS w0 wx q ({ c with gaps := c.gaps ++ [((((numS V st 2).2 : Nat) : Int), (((numS V (numS V st 2).1 2).2 : Nat) : Int))] }) s2 V (numS V (numS V st 2).1 2).1
 S : L 11 = true → L 12 = false → PairsAt wx (vs 11) [((((numS V st 2).2 : Nat) : Int), (((numS V (numS V st 2).1 2).2 : Nat) : Int))]
 k0 : L 0 = true → vs 0 = ptr q
 k1 : L 1 = true → vs 1 = ptr q
 k2 : L 2 = true → vs 2 = ptr q
 k3 : L 3 = true → vs 3 = ptr q
 k4 : L 4 = true → vs 4 = .pointer (some ⟨q, 16, none⟩)
 k5 : L 5 = true → vs 5 = .slice s.gA s.gN s.gC
 k6 : L 6 = true → vs 6 = ptr q
 k7 : L 7 = true → vs 7 = .int .i64 ((numS V st 2).2 : Nat)
 k8 : L 8 = true → vs 8 = ptr q
 k9 : L 9 = true → vs 9 = .int .i64 ((numS V (numS V st 2).1 2).2 : Nat)
 k10 : L 10 = true → vs 10 = .agg #[.int .i64 ((numS V st 2).2 : Nat), .int .i64 ((numS V (numS V st 2).1 2).2 : Nat)]
 k13 : L 13 = true → vs 13 = ptr q
 k14 : L 14 = true → vs 14 = ptr q
 k15 : L 15 = true → vs 15 = .pointer (some ⟨q, 16, none⟩)
 d11_7 : L 11 = true → L 7 = true
 d9_7 : L 9 = true → L 7 = true
 d11_9 : L 11 = true → L 9 = true
 d10_7 : L 10 = true → L 7 = true
 d10_9 : L 10 = true → L 9 = true
 d12_5 : L 12 = true → L 5 = true
 d12_11 : L 12 = true → L 11 = true
 d16_12 : L 16 = true → L 12 = true
structure SackD (w0 : World) (q : Nat) (V : List Nat) (c : Ck) (s : Sv) (st : Option Nat) (L : Nat → Bool) (vs : Nat → Value) (wx : World) : Prop where
 A : L 9 = false → RS w0 wx q c s V (bif L 7 then (numS V st 4).1 else st)
 B : L 9 = true → L 13 = false → ∃ ad n cap gi bv, vs 9 = .slice ad n cap ∧ Half w0 wx q c ({ c with dups := c.dups ++ [(numS V st 4).2] }) s { s with dA := ad, dN := n, dC := cap } V (numS V st 4).1 gi bv
 C : L 13 = true → ∃ s2, RS w0 wx q ({ c with dups := c.dups ++ [(numS V st 4).2] }) s2 V (numS V st 4).1
 S : L 8 = true → L 9 = false → NumsAt .u32 wx (vs 8) [(((numS V st 4).2 : Nat) : Int)]
 k0 : L 0 = true → vs 0 = ptr q
 k1 : L 1 = true → vs 1 = ptr q
 k2 : L 2 = true → vs 2 = ptr q
 k3 : L 3 = true → vs 3 = ptr q
 k4 : L 4 = true → vs 4 = .pointer (some ⟨q, 17, none⟩)
 k5 : L 5 = true → vs 5 = .slice s.dA s.dN s.dC
 k6 : L 6 = true → vs 6 = ptr q
 k7 : L 7 = true → vs 7 = .int .u32 ((numS V st 4).2 : Nat)
 k10 : L 10 = true → vs 10 = ptr q
 k11 : L 11 = true → vs 11 = ptr q
 k12 : L 12 = true → vs 12 = .pointer (some ⟨q, 17, none⟩)
 d8_7 : L 8 = true → L 7 = true
 d9_5 : L 9 = true → L 5 = true
 d9_8 : L 9 = true → L 8 = true
 d13_9 : L 13 = true → L 9 = true
theorem wl_min {w : World} {ops : Array Oper} {rest : List Oper} {o : Oper} {a : Act} {Q : Exit → Act → World → Prop} (hgd : o.guard = none) {x y : Operand} {m n : Nat} (k : Nat) (hk : k = min m n) (ho : o.op = .call { callee := .builtin .min, args := #[x, y], argTypes := #[3, 3] }) (hx : a.eval x = .int .i64 (m : Int)) (hy : a.eval y = .int .i64 (n : Int))
  (h : wpList Try.prog ops Q rest (a.put o.dst (.int .i64 (k : Int))) w) : wpList Try.prog ops Q (o :: rest) a w := by
 have hr : (Builtin.min_ #[3, 3] o.type #[.int .i64 (m : Int), .int .i64 (n : Int)]).run Try.prog w = .ok (.int .i64 (k : Int)) w := by
  rcases Nat.lt_or_ge n m with hl | hl
  ·
   have e : k = n := by rw [hk]; omega
   subst e
   simp [Builtin.min_, Builtin.min2, go_sem, hl]
  ·
   have e : k = m := by rw [hk]; omega
   subst e
   have : ¬ n < k := by omega
   simp [Builtin.min_, Builtin.min2, go_sem, this]
 refine wpList_of_run hgd (v := .int .i64 (k : Int)) (w' := w) ?_ h
 simp only [execOp, ho, resolve, invoke, builtin, Sem.run_bind, Sem.run_pure, Result.andThen_ok, List.map_toArray, List.map_cons, List.map_nil, hx, hy, hr]
theorem sack_any {w0 w : World} {q : Nat} {V : List Nat} (h : RS w0 w q (ck0 3) sv0 V (some 0)) (hA : AllB V) (hV : V.length ≤ 1000000) :
  Calls Try.prog 82 #[ptr q] w (TookIs w0 q (rdSack V) V) := by
 have HX : Hid (AllB V ∧ V.length ≤ 1000000) := ⟨hA, hV⟩
 have HR0 : Hid (RS w0 w q (ck0 3) sv0 V (some 0)) := h
 obtain ⟨n4, hn4⟩ : ∃ n, n = leftS V (st4 V) / 4 := ⟨_, rfl⟩
 have hl4 : leftS V (st4 V) ≤ 1000000 := Nat.le_trans (leftS_le V _) hV
 have hq : wrap64 (((leftS V (st4 V) : Nat) : Int) / 4) = (n4 : Int) := by unfold wrap64; omega
 obtain ⟨N, hN⟩ : ∃ n, n = nGaps V := ⟨_, rfl⟩
 have HN : Hid (N = min (numS V (st2 V) 2).2 n4) := show _ = _ by rw [hN, hn4]; rfl
 have HNG : Hid (N = nGaps V) := hN
 have hN4 : N ≤ 65535 := by have := HN.out; have := numS2_lt hA (st2 V); omega
 clear h hA hV hN hn4 hl4
 go_enter Try.func82, Try.ntmps82
 refine wp_seq_k (fun K0 hK => ?_)
 have HK0 := Stop.mk hK
 clear hK
 go_wp2_with (first
  | (refine wl_setR HR3.out rfl one3 9 rfl (by first | rfl | go_simp) (by first | rfl | go_simp) rfl rfl (by decide) ({ ck0 3 with tsn := (numS V (some 0) 4).2, win := ((numS V (st1 V) 4).2 : Nat) }) (sv0) (fun z => rfl) ⟨HR3.out.own.t, HR3.out.own.r, HR3.out.own.a, HR3.out.own.i, HR3.out.own.g, HR3.out.own.d, HR3.out.own.o⟩ { HR3.out.fit with win := w64_num HX.out.1 _ _ (by decide) } ?_; intro y4 hr; have HR4 : Hid (RS w0 y4 q ({ ck0 3 with tsn := (numS V (some 0) 4).2, win := ((numS V (st1 V) 4).2 : Nat) }) (sv0) V (st2 V)) := hr; clear hr)
  | (refine wl_setR HR2.out rfl one22 12 rfl (by first | rfl | go_simp) (by first | rfl | go_simp) rfl rfl (by decide) ({ ck0 3 with tsn := (numS V (some 0) 4).2 }) (sv0) (fun z => rfl) ⟨HR2.out.own.t, HR2.out.own.r, HR2.out.own.a, HR2.out.own.i, HR2.out.own.g, HR2.out.own.d, HR2.out.own.o⟩ { HR2.out.fit with tsn := numS_u32 HX.out.1 _ } ?_; intro y3 hr; have HR3 : Hid (RS w0 y3 q ({ ck0 3 with tsn := (numS V (some 0) 4).2 }) (sv0) V (st2 V)) := hr; clear hr)
  | (go_at_call 80; refine (number_any HR1.out HX.out.1 HX.out.2 4 (by decide)).mono ?_; rintro e y2 ⟨rfl, hr⟩; have HR2 : Hid (RS w0 y2 q (ck0 3) (sv0) V (st2 V)) := hr; clear hr)
  | (go_at_call 79; refine (word_any HR0.out HX.out.1 HX.out.2).mono ?_; rintro e y1 ⟨rfl, hr⟩; have HR1 : Hid (RS w0 y1 q (ck0 3) (sv0) V (st1 V)) := hr; clear hr))
 refine HK0.go _ _ ?_
 clear HK0
 refine wp_seq_k (fun K1 hK => ?_)
 have HK1 := Stop.mk hK
 clear hK
 go_wp2_with (first
  | (go_at_call 80; refine (number_any HR5.out HX.out.1 HX.out.2 2 (by decide)).mono ?_; rintro e y6 ⟨rfl, hr⟩; have HR6 : Hid (RS w0 y6 q ({ ck0 3 with tsn := (numS V (some 0) 4).2, win := ((numS V (st1 V) 4).2 : Nat) }) (sv0) V (st4 V)) := hr; clear hr; obtain ⟨gi6, bv6, hgg6⟩ := HR6.out.g; have hg6 : Hid (RSg w0 y6 q (hdSack V) sv0 V (st4 V) gi6 bv6) := hgg6; clear hgg6; have c22 := rv22 hg6.out.hb)
  | (go_at_call 80; refine (number_any HR4.out HX.out.1 HX.out.2 2 (by decide)).mono ?_; rintro e y5 ⟨rfl, hr⟩; have HR5 : Hid (RS w0 y5 q ({ ck0 3 with tsn := (numS V (some 0) 4).2, win := ((numS V (st1 V) 4).2 : Nat) }) (sv0) V (st3 V)) := hr; clear hr))
 refine HK1.go _ _ ?_
 clear HK1
 go_wp2_with (first
  | (have q_ := HR6; clear q_; go_at_call 49; refine (left_any hg6.out.hi HX.out.2).mono ?_; rintro e w6 ⟨rfl, he6⟩)
  | (refine wl_min rfl N HN.out rfl (by first | rfl | go_simp) (by first | rfl | go_simp) ?_))
 go_loopg [28] N (fun gm t wr => ∃ (k : Nat) (s : Sv), k ≤ N ∧ gm = N - k ∧ t = .int .i64 (k : Int) ∧ Hid (RS w0 wr q ({ hdSack V with gaps := (gapsS V (st4 V) k).2 }) s V ((gapsS V (st4 V) k).1)))
 case atStart => exact ⟨0, _, Nat.zero_le _, rfl, rfl, HR6.out.grow he6⟩
 case round =>
  obtain ⟨k, s, hk, rfl, rfl, HR⟩ := hrel
  by_cases hlt : k < N
  ·
   have hd : decide ((k : Int) < (N : Int)) = true := decide_eq_true (by omega)
   have HLn : Hid (({ hdSack V with gaps := (gapsS V (st4 V) k).2 } : Ck).gaps.length ≤ 100000) := show (gapsS V (st4 V) k).2.length ≤ 100000 by rw [gapsS_len]; omega
   go_wp2_with fail
   refine wp_region_W (SackG w0 q V ({ hdSack V with gaps := (gapsS V (st4 V) k).2 }) s ((gapsS V (st4 V) k).1)) (fun t => bif Nat.ble 30 t && Nat.ble t 45 then some (t - 30) else none) 71 rfl (by kernel_rfl) rfl (fun vs => ⟨fun _ => HR.out.grow (Ext.drew _), fun h => by simp at h, fun h => by simp at h, fun h => by simp at h, fun h => by simp at h, fun h => by simp at h, fun h => by simp at h, fun h => by simp at h, fun h => by simp at h, fun h => by simp at h, fun h => by simp at h, fun h => by simp at h, fun h => by simp at h, fun h => by simp at h, fun h => by simp at h, fun h => by simp at h, fun h => by simp at h, fun h => by simp at h, fun h => by simp at h, fun h => by simp at h, fun h => by simp at h, fun h => by simp at h, fun h => by simp at h, fun h => by simp at h, fun h => by simp at h, fun h => by simp at h⟩) ?_ ?_
   ·
    refine Ow ⟨rfl, ?_⟩ (Ow ⟨rfl, ?_⟩ (Ow ⟨rfl, ?_⟩ (Ow ⟨rfl, ?_⟩ (Ow ⟨rfl, ?_⟩ (Ow ⟨rfl, ?_⟩ (Ow ⟨rfl, ?_⟩ (Ow ⟨rfl, ?_⟩ (Ow ⟨rfl, ?_⟩ (Ow ⟨rfl, ?_⟩ (Ow ⟨rfl, ?_⟩ (Ow ⟨rfl, ?_⟩ (Ow ⟨rfl, ?_⟩ (Ow ⟨rfl, ?_⟩ (Ow ⟨rfl, ?_⟩ (Ow ⟨rfl, ?_⟩ (Ow ⟨rfl, ?_⟩ OwedVs.nil))))))))))))))))
    ·
     rintro L vs wx r H hl hL ⟨h1, _⟩
     replace h1 : r (.tmp 0) = ptr q := h1
     exact give_move (.inl rfl) (by rw [h1]; exact { H with k0 := fun _ => rfl })
    ·
     rintro L vs wx r H hl hL ⟨h1, _⟩
     replace h1 : r (.tmp 0) = ptr q := h1
     exact give_move (.inl rfl) (by rw [h1]; exact { H with k1 := fun _ => rfl })
    ·
     rintro L vs wx r H hl hL ⟨h1, _⟩
     replace h1 : r (.tmp 31) = ptr q := Eq.trans h1 (H.k1 (hL 1 (by kernel_rfl)))
     exact gvo (by simp [execOp, h1, ptr, go_sem]; done) { H with k2 := fun _ => rfl }
    ·
     rintro L vs wx r H hl hL ⟨h1, _⟩
     replace h1 : r (.tmp 32) = ptr q := Eq.trans h1 (H.k2 (hL 2 (by kernel_rfl)))
     exact gvo (by simp [execOp, h1, ptr, go_sem]; done) { H with k3 := fun _ => rfl }
    ·
     rintro L vs wx r H hl hL ⟨h1, _⟩
     replace h1 : r (.tmp 33) = ptr q := Eq.trans h1 (H.k3 (hL 3 (by kernel_rfl)))
     exact gvo (by simp [execOp, h1, ptr, go_sem]; done) { H with k4 := fun _ => rfl }
    ·
     rintro L vs wx r H hl hL ⟨h1, _⟩
     replace h1 : r (.tmp 34) = .pointer (some ⟨q, 16, none⟩) := Eq.trans h1 (H.k4 (hL 4 (by kernel_rfl)))
     obtain ⟨gi, bv, hg⟩ := (H.A (met_no H.d12_5 hl)).g
     exact gvo (exg oneSG rfl h1 (rv16 hg.hb)) { H with k5 := fun _ => rfl, d12_5 := fun _ => rfl }
    ·
     rintro L vs wx r H hl hL ⟨h1, _⟩
     replace h1 : r (.tmp 0) = ptr q := h1
     exact give_move (.inl rfl) (by rw [h1]; exact { H with k6 := fun _ => rfl })
    ·
     rintro L vs wx r H hl hL ⟨h1, h2, h3, _⟩
     replace h1 : r (.func 80) = .func (.func 80) #[] #[] := h1
     replace h2 : r (.tmp 36) = ptr q := Eq.trans h2 (H.k6 (hL 6 (by kernel_rfl)))
     replace h3 : r (.const (.int .i64 2)) = .int .i64 2 := h3
     have h9 : L 9 = false := met_no H.d9_7 hl
     have hBS : L 11 = false := met_no H.d11_9 h9
     have hAP : L 12 = false := met_no H.d12_11 hBS
     have hA : RS w0 wx q ({ hdSack V with gaps := (gapsS V (st4 V) k).2 }) s V ((gapsS V (st4 V) k).1) := by have := H.A hAP; rw [h9, hl] at this; exact this
     have hST : L 16 = false := met_no H.d16_12 hAP
     refine give_func #[ptr q, .int .i64 2] rfl h1 Try.call80 (by simp [h2, h3]) ?_
     refine (number_any hA HX.out.1 HX.out.2 2 (by decide)).mono ?_
     rintro e w' ⟨rfl, hr⟩
     exact ⟨_, rfl, { H with A := fun _ => (by show RS w0 _ q ({ hdSack V with gaps := (gapsS V (st4 V) k).2 }) s V (bif L 9 then _ else _); rw [h9]; exact hr), B := fun h => absurd (h.symm.trans hAP) (by decide), C := fun h => absurd (h.symm.trans hST) (by decide), S := fun h => absurd (h.symm.trans hBS) (by decide), k7 := fun _ => rfl, d11_7 := fun _ => rfl, d9_7 := fun _ => rfl, d10_7 := fun _ => rfl }⟩
    ·
     rintro L vs wx r H hl hL ⟨h1, _⟩
     replace h1 : r (.tmp 0) = ptr q := h1
     exact give_move (.inl rfl) (by rw [h1]; exact { H with k8 := fun _ => rfl })
    ·
     rintro L vs wx r H hl hL ⟨h1, h2, h3, _⟩
     replace h1 : r (.func 80) = .func (.func 80) #[] #[] := h1
     replace h2 : r (.tmp 38) = ptr q := Eq.trans h2 (H.k8 (hL 8 (by kernel_rfl)))
     replace h3 : r (.const (.int .i64 2)) = .int .i64 2 := h3
     have h7 : L 7 = true := hL 7 (by kernel_rfl)
     have hBS : L 11 = false := met_no H.d11_9 hl
     have hAP : L 12 = false := met_no H.d12_11 hBS
     have hA : RS w0 wx q ({ hdSack V with gaps := (gapsS V (st4 V) k).2 }) s V (numS V ((gapsS V (st4 V) k).1) 2).1 := by have := H.A hAP; rw [hl, h7] at this; exact this
     have hST : L 16 = false := met_no H.d16_12 hAP
     refine give_func #[ptr q, .int .i64 2] rfl h1 Try.call80 (by simp [h2, h3]) ?_
     refine (number_any hA HX.out.1 HX.out.2 2 (by decide)).mono ?_
     rintro e w' ⟨rfl, hr⟩
     exact ⟨_, rfl, { H with A := fun _ => hr, B := fun h => absurd (h.symm.trans hAP) (by decide), C := fun h => absurd (h.symm.trans hST) (by decide), S := fun h => absurd (h.symm.trans hBS) (by decide), k9 := fun _ => rfl, d9_7 := fun _ => h7, d11_9 := fun _ => rfl, d10_9 := fun _ => rfl }⟩
    ·
     rintro L vs wx r H hl hL ⟨h1, h2, _⟩
     replace h1 : r (.tmp 37) = .int .i64 ((numS V ((gapsS V (st4 V) k).1) 2).2 : Nat) := Eq.trans h1 (H.k7 (hL 7 (by kernel_rfl)))
     replace h2 : r (.tmp 39) = .int .i64 ((numS V (numS V ((gapsS V (st4 V) k).1) 2).1 2).2 : Nat) := Eq.trans h2 (H.k9 (hL 9 (by kernel_rfl)))
     refine gvo (v := .agg #[.int .i64 ((numS V ((gapsS V (st4 V) k).1) 2).2 : Nat), .int .i64 ((numS V (numS V ((gapsS V (st4 V) k).1) 2).1 2).2 : Nat)]) (w' := wx) ?_ { H with k10 := fun _ => rfl, d10_7 := fun _ => hL 7 (by kernel_rfl), d10_9 := fun _ => hL 9 (by kernel_rfl) }
     have hb := run_build (P := Try.prog) wx 67 #[(0, .int .i64 ((numS V ((gapsS V (st4 V) k).1) 2).2 : Nat)), (1, .int .i64 ((numS V (numS V ((gapsS V (st4 V) k).1) 2).1 2).2 : Nat))] #[.int .i64 ((numS V ((gapsS V (st4 V) k).1) 2).2 : Nat), .int .i64 ((numS V (numS V ((gapsS V (st4 V) k).1) 2).1 2).2 : Nat)] (by kernel_rfl)
     simp [execOp, h1, h2, hb]
    ·
     rintro L vs wx r H hl hL ⟨h1, _⟩
     replace h1 : r (.tmp 40) = .agg #[.int .i64 ((numS V ((gapsS V (st4 V) k).1) 2).2 : Nat), .int .i64 ((numS V (numS V ((gapsS V (st4 V) k).1) 2).1 2).2 : Nat)] := Eq.trans h1 (H.k10 (hL 10 (by kernel_rfl)))
     have hAP : L 12 = false := met_no H.d12_11 hl
     have hST : L 16 = false := met_no H.d16_12 hAP
     exact give_one_pair rfl prG h1 { H with A := fun h => (H.A h).grow (Ext.alloc _ _), B := fun h => absurd (h.symm.trans hAP) (by decide), C := fun h => absurd (h.symm.trans hST) (by decide), S := fun _ _ => pairs_one wx (_, _) _, d11_7 := fun _ => H.d10_7 (hL 10 (by kernel_rfl)), d11_9 := fun _ => H.d10_9 (hL 10 (by kernel_rfl)), d12_11 := fun _ => rfl }
    ·
     rintro L vs wx r H hl hL ⟨h1, h2, _⟩
     have hA : RS w0 wx q ({ hdSack V with gaps := (gapsS V (st4 V) k).2 }) s V (numS V (numS V ((gapsS V (st4 V) k).1) 2).1 2).1 := by have := H.A hl; rw [H.d11_9 (hL 11 (by kernel_rfl))] at this; exact this
     have hST : L 16 = false := met_no H.d16_12 hl
     replace h1 : r (.tmp 35) = .slice s.gA s.gN s.gC := Eq.trans h1 (H.k5 (hL 5 (by kernel_rfl)))
     replace h2 : r (.tmp 41) = vs 11 := h2
     exact give_app_g hA (H.S (hL 11 (by kernel_rfl)) hl) HLn.out ⟨w64_num HX.out.1 _ _ (by decide), w64_num HX.out.1 _ _ (by decide)⟩ rfl h1 h2 (fun ad n cap w' gi bv hf _ => { H with A := fun h => absurd h (by simp [met1]), B := fun _ _ => ⟨ad, n, cap, gi, bv, rfl, hf⟩, C := fun h => absurd (h.symm.trans hST) (by decide), S := fun _ h => absurd h (by simp [met1]), d12_5 := fun _ => hL 5 (by kernel_rfl), d12_11 := fun _ => hL 11 (by kernel_rfl), d16_12 := fun _ => rfl })
    ·
     rintro L vs wx r H hl hL ⟨h1, _⟩
     replace h1 : r (.tmp 30) = ptr q := Eq.trans h1 (H.k0 (hL 0 (by kernel_rfl)))
     exact gvo (by simp [execOp, h1, ptr, go_sem]; done) { H with k13 := fun _ => rfl }
    ·
     rintro L vs wx r H hl hL ⟨h1, _⟩
     replace h1 : r (.tmp 43) = ptr q := Eq.trans h1 (H.k13 (hL 13 (by kernel_rfl)))
     exact gvo (by simp [execOp, h1, ptr, go_sem]; done) { H with k14 := fun _ => rfl }
    ·
     rintro L vs wx r H hl hL ⟨h1, _⟩
     replace h1 : r (.tmp 44) = ptr q := Eq.trans h1 (H.k14 (hL 14 (by kernel_rfl)))
     exact gvo (by simp [execOp, h1, ptr, go_sem]; done) { H with k15 := fun _ => rfl }
    ·
     rintro L vs wx r H hl hL ⟨h1, h2, _⟩
     replace h1 : r (.tmp 45) = .pointer (some ⟨q, 16, none⟩) := Eq.trans h1 (H.k15 (hL 15 (by kernel_rfl)))
     obtain ⟨ad, n, cap, gi, bv, e, hf⟩ := H.B (hL 12 (by kernel_rfl)) hl
     replace h2 : r (.tmp 42) = .slice ad n cap := Eq.trans h2 e
     exact give_skip (exec_set oneSG rfl h1 h2 rfl rfl hf.hb (show 16 < (RV ({ hdSack V with gaps := (gapsS V (st4 V) k).2 }) s (ptr gi)).size from (by decide : 16 < 23))) { H with A := fun h => absurd (h.symm.trans (hL 12 (by kernel_rfl))) (by decide), B := fun _ h => absurd h (by simp [met1]), C := fun _ => ⟨_, hf.store (fun z => rfl)⟩, S := fun _ h => absurd (h.symm.trans (hL 12 (by kernel_rfl))) (by decide), d16_12 := fun _ => hL 12 (by kernel_rfl) }
   ·
    intro vs2 a2 w8 H ha2
    obtain ⟨s2, hr2⟩ := H.C rfl
    have HR2 : Hid (RS w0 w8 q ({ hdSack V with gaps := (gapsS V (st4 V) (k + 1)).2 }) s2 V ((gapsS V (st4 V) (k + 1)).1)) := hr2
    clear hr2 H
    simp only [putAll, Act.put, Nat.zero_add, Nat.reduceAdd, List.setIfInBounds_toArray, List.set_cons_succ, List.set_cons_zero] at ha2
    subst ha2
    go_wp2
    go_roundg (N - (k + 1))
    case measure => omega
    case rel => exact ⟨k + 1, s2, by omega, rfl, by simp, HR2.out⟩
  ·
   have hd : decide ((k : Int) < (N : Int)) = false := decide_eq_false (by omega)
   have hkN : k = nGaps V := by have := HNG.out; omega
   rw [hkN] at HR
   have HR7 : Hid (RS w0 wr q ({ hdSack V with gaps := (gapsS V (st4 V) (nGaps V)).2 }) s V (sgS V)) := HR
   have HS2 : Hid ((gapsS V (st4 V) (nGaps V)).2.length ≤ 100000) := show _ ≤ _ by rw [gapsS_len, ← HNG.out]; omega
   obtain ⟨gi7, bv7, hgg7⟩ := HR7.out.g
   have hg7 : Hid (RSg w0 wr q ({ hdSack V with gaps := (gapsS V (st4 V) (nGaps V)).2 }) s V (sgS V) gi7 bv7) := hgg7
   have c22b := rv22 hg7.out.hb
   obtain ⟨n5, hn5⟩ : ∃ n, n = leftS V (sgS V) / 4 := ⟨_, rfl⟩
   have hl5 : leftS V (sgS V) ≤ 1000000 := Nat.le_trans (leftS_le V _) HX.out.2
   have hq5 : wrap64 (((leftS V (sgS V) : Nat) : Int) / 4) = (n5 : Int) := by unfold wrap64; omega
   obtain ⟨M, hM⟩ : ∃ n, n = nDups V := ⟨_, rfl⟩
   have HM : Hid (M = min (numS V (st3 V) 2).2 n5) := show _ = _ by rw [hM, hn5]; rfl
   have HMG : Hid (M = nDups V) := hM
   have hM4 : M ≤ 65535 := by have := HM.out; have := numS2_lt HX.out.1 (st3 V); omega
   clear hgg7 HR hkN hM hn5 hl5 c22 hq
   go_wp2_with (first
    | (refine wl_min rfl M HM.out rfl (by first | rfl | go_simp) (by first | rfl | go_simp) ?_)
    | (have q_ := HR7; clear q_; go_at_call 49; refine (left_any hg7.out.hi HX.out.2).mono ?_; rintro e w7 ⟨rfl, he7⟩))
   clear hd c22b hq5 hlt hk
   go_loopg [55] M (fun gm t wr => ∃ (k : Nat) (s : Sv), k ≤ M ∧ gm = M - k ∧ t = .int .i64 (k : Int) ∧ Hid (RS w0 wr q ({ hdSack V with gaps := (gapsS V (st4 V) (nGaps V)).2, dups := (dupsS V (sgS V) k).2 }) s V ((dupsS V (sgS V) k).1)))
   case atStart => exact ⟨0, _, Nat.zero_le _, rfl, rfl, HR7.out.grow he7⟩
   case round =>
    obtain ⟨k, s, hk, rfl, rfl, HR⟩ := hrel
    by_cases hlt : k < M
    ·
     have hd : decide ((k : Int) < (M : Int)) = true := decide_eq_true (by omega)
     have HLn : Hid (({ hdSack V with gaps := (gapsS V (st4 V) (nGaps V)).2, dups := (dupsS V (sgS V) k).2 } : Ck).dups.length ≤ 100000) := show (dupsS V (sgS V) k).2.length ≤ 100000 by rw [dupsS_len]; omega
     go_wp2_with fail
     refine wp_region_W (SackD w0 q V ({ hdSack V with gaps := (gapsS V (st4 V) (nGaps V)).2, dups := (dupsS V (sgS V) k).2 }) s ((dupsS V (sgS V) k).1)) (fun t => bif Nat.ble 57 t && Nat.ble t 69 then some (t - 57) else none) 71 rfl (by kernel_rfl) rfl (fun vs => ⟨fun _ => HR.out.grow (Ext.drew _), fun h => by simp at h, fun h => by simp at h, fun h => by simp at h, fun h => by simp at h, fun h => by simp at h, fun h => by simp at h, fun h => by simp at h, fun h => by simp at h, fun h => by simp at h, fun h => by simp at h, fun h => by simp at h, fun h => by simp at h, fun h => by simp at h, fun h => by simp at h, fun h => by simp at h, fun h => by simp at h, fun h => by simp at h, fun h => by simp at h⟩) ?_ ?_
     ·
      refine Ow ⟨rfl, ?_⟩ (Ow ⟨rfl, ?_⟩ (Ow ⟨rfl, ?_⟩ (Ow ⟨rfl, ?_⟩ (Ow ⟨rfl, ?_⟩ (Ow ⟨rfl, ?_⟩ (Ow ⟨rfl, ?_⟩ (Ow ⟨rfl, ?_⟩ (Ow ⟨rfl, ?_⟩ (Ow ⟨rfl, ?_⟩ (Ow ⟨rfl, ?_⟩ (Ow ⟨rfl, ?_⟩ (Ow ⟨rfl, ?_⟩ (Ow ⟨rfl, ?_⟩ OwedVs.nil)))))))))))))
      ·
       rintro L vs wx r H hl hL ⟨h1, _⟩
       replace h1 : r (.tmp 0) = ptr q := h1
       exact give_move (.inl rfl) (by rw [h1]; exact { H with k0 := fun _ => rfl })
      ·
       rintro L vs wx r H hl hL ⟨h1, _⟩
       replace h1 : r (.tmp 0) = ptr q := h1
       exact give_move (.inl rfl) (by rw [h1]; exact { H with k1 := fun _ => rfl })
      ·
       rintro L vs wx r H hl hL ⟨h1, _⟩
       replace h1 : r (.tmp 58) = ptr q := Eq.trans h1 (H.k1 (hL 1 (by kernel_rfl)))
       exact gvo (by simp [execOp, h1, ptr, go_sem]; done) { H with k2 := fun _ => rfl }
      ·
       rintro L vs wx r H hl hL ⟨h1, _⟩
       replace h1 : r (.tmp 59) = ptr q := Eq.trans h1 (H.k2 (hL 2 (by kernel_rfl)))
       exact gvo (by simp [execOp, h1, ptr, go_sem]; done) { H with k3 := fun _ => rfl }
      ·
       rintro L vs wx r H hl hL ⟨h1, _⟩
       replace h1 : r (.tmp 60) = ptr q := Eq.trans h1 (H.k3 (hL 3 (by kernel_rfl)))
       exact gvo (by simp [execOp, h1, ptr, go_sem]; done) { H with k4 := fun _ => rfl }
      ·
       rintro L vs wx r H hl hL ⟨h1, _⟩
       replace h1 : r (.tmp 61) = .pointer (some ⟨q, 17, none⟩) := Eq.trans h1 (H.k4 (hL 4 (by kernel_rfl)))
       obtain ⟨gi, bv, hg⟩ := (H.A (met_no H.d9_5 hl)).g
       exact gvo (exg oneSD rfl h1 (rv17 hg.hb)) { H with k5 := fun _ => rfl, d9_5 := fun _ => rfl }
      ·
       rintro L vs wx r H hl hL ⟨h1, _⟩
       replace h1 : r (.tmp 0) = ptr q := h1
       exact give_move (.inl rfl) (by rw [h1]; exact { H with k6 := fun _ => rfl })
      ·
       rintro L vs wx r H hl hL ⟨h1, h2, _⟩
       replace h1 : r (.func 79) = .func (.func 79) #[] #[] := h1
       replace h2 : r (.tmp 63) = ptr q := Eq.trans h2 (H.k6 (hL 6 (by kernel_rfl)))
       have hBS : L 8 = false := met_no H.d8_7 hl
       have hAP : L 9 = false := met_no H.d9_8 hBS
       have hA : RS w0 wx q ({ hdSack V with gaps := (gapsS V (st4 V) (nGaps V)).2, dups := (dupsS V (sgS V) k).2 }) s V ((dupsS V (sgS V) k).1) := by have := H.A hAP; rw [hl] at this; exact this
       have hST : L 13 = false := met_no H.d13_9 hAP
       refine give_func #[ptr q] rfl h1 Try.call79 (by simp [h2]) ?_
       refine (word_any hA HX.out.1 HX.out.2).mono ?_
       rintro e w' ⟨rfl, hr⟩
       exact ⟨_, rfl, { H with A := fun _ => hr, B := fun h => absurd (h.symm.trans hAP) (by decide), C := fun h => absurd (h.symm.trans hST) (by decide), S := fun h => absurd (h.symm.trans hBS) (by decide), k7 := fun _ => rfl, d8_7 := fun _ => rfl }⟩
      ·
       rintro L vs wx r H hl hL ⟨h1, _⟩
       replace h1 : r (.tmp 64) = .int .u32 ((numS V ((dupsS V (sgS V) k).1) 4).2 : Nat) := Eq.trans h1 (H.k7 (hL 7 (by kernel_rfl)))
       have hAP : L 9 = false := met_no H.d9_8 hl
       have hST : L 13 = false := met_no H.d13_9 hAP
       exact give_one_num rfl numTD h1 { H with A := fun h => (H.A h).grow (Ext.alloc _ _), B := fun h => absurd (h.symm.trans hAP) (by decide), C := fun h => absurd (h.symm.trans hST) (by decide), S := fun _ _ => NumsAt.one wx _ _ _ rfl, d8_7 := fun _ => hL 7 (by kernel_rfl), d9_8 := fun _ => rfl }
      ·
       rintro L vs wx r H hl hL ⟨h1, h2, _⟩
       have hA : RS w0 wx q ({ hdSack V with gaps := (gapsS V (st4 V) (nGaps V)).2, dups := (dupsS V (sgS V) k).2 }) s V (numS V ((dupsS V (sgS V) k).1) 4).1 := by have := H.A hl; rw [H.d8_7 (hL 8 (by kernel_rfl))] at this; exact this
       have hST : L 13 = false := met_no H.d13_9 hl
       replace h1 : r (.tmp 62) = .slice s.dA s.dN s.dC := Eq.trans h1 (H.k5 (hL 5 (by kernel_rfl)))
       replace h2 : r (.tmp 65) = vs 8 := h2
       exact give_app_d hA (H.S (hL 8 (by kernel_rfl)) hl) HLn.out (numS_u32 HX.out.1 _) rfl h1 h2 (fun ad n cap w' gi bv hf _ => { H with A := fun h => absurd h (by simp [met1]), B := fun _ _ => ⟨ad, n, cap, gi, bv, rfl, hf⟩, C := fun h => absurd (h.symm.trans hST) (by decide), S := fun _ h => absurd h (by simp [met1]), d9_5 := fun _ => hL 5 (by kernel_rfl), d9_8 := fun _ => hL 8 (by kernel_rfl), d13_9 := fun _ => rfl })
      ·
       rintro L vs wx r H hl hL ⟨h1, _⟩
       replace h1 : r (.tmp 57) = ptr q := Eq.trans h1 (H.k0 (hL 0 (by kernel_rfl)))
       exact gvo (by simp [execOp, h1, ptr, go_sem]; done) { H with k10 := fun _ => rfl }
      ·
       rintro L vs wx r H hl hL ⟨h1, _⟩
       replace h1 : r (.tmp 67) = ptr q := Eq.trans h1 (H.k10 (hL 10 (by kernel_rfl)))
       exact gvo (by simp [execOp, h1, ptr, go_sem]; done) { H with k11 := fun _ => rfl }
      ·
       rintro L vs wx r H hl hL ⟨h1, _⟩
       replace h1 : r (.tmp 68) = ptr q := Eq.trans h1 (H.k11 (hL 11 (by kernel_rfl)))
       exact gvo (by simp [execOp, h1, ptr, go_sem]; done) { H with k12 := fun _ => rfl }
      ·
       rintro L vs wx r H hl hL ⟨h1, h2, _⟩
       replace h1 : r (.tmp 69) = .pointer (some ⟨q, 17, none⟩) := Eq.trans h1 (H.k12 (hL 12 (by kernel_rfl)))
       obtain ⟨ad, n, cap, gi, bv, e, hf⟩ := H.B (hL 9 (by kernel_rfl)) hl
       replace h2 : r (.tmp 66) = .slice ad n cap := Eq.trans h2 e
       exact give_skip (exec_set oneSD rfl h1 h2 rfl rfl hf.hb (show 17 < (RV ({ hdSack V with gaps := (gapsS V (st4 V) (nGaps V)).2, dups := (dupsS V (sgS V) k).2 }) s (ptr gi)).size from (by decide : 17 < 23))) { H with A := fun h => absurd (h.symm.trans (hL 9 (by kernel_rfl))) (by decide), B := fun _ h => absurd h (by simp [met1]), C := fun _ => ⟨_, hf.store (fun z => rfl)⟩, S := fun _ h => absurd (h.symm.trans (hL 9 (by kernel_rfl))) (by decide), d13_9 := fun _ => hL 9 (by kernel_rfl) }
     ·
      intro vs2 a2 w8 H ha2
      obtain ⟨s2, hr2⟩ := H.C rfl
      have HR2 : Hid (RS w0 w8 q ({ hdSack V with gaps := (gapsS V (st4 V) (nGaps V)).2, dups := (dupsS V (sgS V) (k + 1)).2 }) s2 V ((dupsS V (sgS V) (k + 1)).1)) := hr2
      clear hr2 H
      simp only [putAll, Act.put, Nat.zero_add, Nat.reduceAdd, List.setIfInBounds_toArray, List.set_cons_succ, List.set_cons_zero] at ha2
      subst ha2
      go_wp2
      go_roundg (M - (k + 1))
      case measure => omega
      case rel => exact ⟨k + 1, s2, by omega, rfl, by simp, HR2.out⟩
    ·
     have hd : decide ((k : Int) < (M : Int)) = false := decide_eq_false (by omega)
     have hkM : k = nDups V := by have := HMG.out; omega
     rw [hkM] at HR
     go_wp2
     go_end0
     exact ⟨⟨_, rfl⟩, _, _, HR.out⟩
theorem addrOf_any {w : World} {k : Int} {u : Value} {m : List Nat} (hu : BytesAt w u m) (hm : m.length ≤ 1000000) :
  Calls Try.prog 96 #[.agg #[.int .i64 k, u]] w fun e w' => e = .returned (.int .i64 (addrV m)) ∧ Ext w w' := by
 obtain ⟨a0, c0, rfl, _, _⟩ := hu.form
 have HM : Hid (m.length ≤ 1000000) := hm
 have HU : Hid (BytesAt w (.slice a0 m.length c0) m) := hu
 have hn := numS_u32 hu.1 (some 0)
 have hw : IntKind.i64.wrap (((numS m (some 0) 4).2 : Nat) : Int) = (((numS m (some 0) 4).2 : Nat) : Int) := by rw [IntKind.wrap_i64]; omega
 obtain ⟨l, hl⟩ : ∃ l, l = m.length := ⟨_, rfl⟩
 rw [← hl] at HU ⊢
 clear hu hm hl
 unfold addrV
 go_enter Try.func96, Try.ntmps96
 go_wp2_with (first
  | (refine wl_box (C := #[.int .i64 k, .slice a0 l c0]) rfl rfl rfl ?_; intro w1 hb1 he1 hx; clear hx; have c1 : w1.cell? ⟨w.heap.size, 1, none⟩ = some (.slice a0 l c0) := hb1.cell 1; clear hb1)
  | (go_at_call 39; refine (read_any (HU.out.ext he1) HM.out).mono ?_; rintro e w2 ⟨g1, bv1, rfl, hlo1, hin1, he2⟩)
  | (go_at_call 40; refine (inNum_any hin1 HM.out 4).mono ?_; rintro e w3 ⟨rfl, hi3, hk3⟩))
 go_ret
 exact ⟨rfl, (he1.trans he2).of_but hk3 (fun k e => by subst e; exact Nat.le_trans he1.size hlo1)⟩
theorem paramsR {w : World} {v : Value} {B : List Nat} (hv : BytesAt w v B) (hB : B.length ≤ 100000) :
  Calls Try.prog 95 #[v] w fun e w' => Ext w w' ∧ ∃ lv er, e = .returned (.tuple #[lv, er]) ∧ OwnL 138 w' w.heap.size lv ((readAll B).getD []) := by
 cases h : readAll B with
 | none => exact (params_none hv hB h).mono fun e w' hh => ⟨hh.1, _, _, hh.2, OwnL.nil _ _ _⟩
 | some L => exact (params_some hv hB h).mono fun e w' hh => ⟨hh.1, hh.2.elim fun lv h2 => ⟨lv, _, h2⟩⟩
theorem OwnL.at {w : World} {base : Nat} {a : Option Addr} {n c : Nat} {L : List Par} {e : TypeId} (h : OwnL e w base (.slice a n c) L) (k : Nat) (hk : k < L.length) : ∃ b u, a = some ⟨b, 0, none⟩ ∧ w.cell? ⟨b, k * 2, none⟩ = some (.int .i64 (L.getD k (0, [])).1) ∧ w.cell? ⟨b, k * 2 + 1, none⟩ = some u ∧ OB w base u (L.getD k (0, [])).2 := by
 obtain ⟨M, rfl, hr, ho⟩ := h
 rw [List.length_map] at hk
 have hm : M[k]? = some M[k] := by simp [hk]
 have hg : (M.map (·.1)).getD k (0, []) = M[k].1 := by simp [List.getD_eq_getElem?_getD, hk]
 rcases hr.2 with ⟨e1, h0⟩ | ⟨g, cap, cur, e1, hb, hgb, hnc, hcm, hcs, htk⟩
 ·
  have : M.length = 0 := h0
  omega
 ·
  simp only [Value.slice.injEq] at e1
  obtain ⟨h1, h2⟩ := pc_get hm
  have hbk : Blk w g cur e := hgb
  rw [← htk, List.getElem?_take] at h1 h2
  rw [if_pos (by omega)] at h1 h2
  rw [hg]
  refine ⟨g, M[k].2, e1.1, ?_, ?_, ho _ (List.mem_of_getElem? hm)⟩
  ·
   rw [hbk.cell]; simpa using h1
  ·
   rw [hbk.cell]; simpa using h2
theorem OwnL.len {w : World} {base : Nat} {a : Option Addr} {n c : Nat} {L : List Par} {e : TypeId} (h : OwnL e w base (.slice a n c) L) : n = L.length := by
 obtain ⟨a', c', e1⟩ := h.form
 simp only [Value.slice.injEq] at e1
 exact e1.2.1
theorem OwnL.butR {w w' : World} {base e e' g n size base' : Nat} {v u : Value} {L : List Par} {xs : List Value} (h : OwnL e w base v L) (ho : w.ownsRow base' e' size u n xs) (h1 : e ≠ e') (h5 : 5 ≠ e') (hk : KeepBut (fun k => u.ownBlock = some k) w w') : OwnL e w' base v L :=
 h.but hk (fun k C hb _ e2 => hb.elim (fun hb => ownsRow_ne ho hb h1 _ e2 rfl) (fun hb => ownsRow_ne ho hb h5 _ e2 rfl))
theorem OwnL.butB {w w' : World} {base e g t : Nat} {v : Value} {L : List Par} {C : Array Value} (h : OwnL e w base v L) (hb : Blk w g C t) (h1 : t ≠ e) (h5 : t ≠ 5) (hk : KeepBut (· = g) w w') : OwnL e w' base v L :=
 h.but hk (fun k D hd _ e2 => by
  subst e2
  have key : ∀ {E : Nat}, Blk w k D E → t = E := fun hd => by
   have : some (Obj.cells C t (0, 0)) = some (.cells D _ (0, 0)) := hb.symm.trans hd
   simp only [Option.some.injEq, Obj.cells.injEq] at this
   exact this.2.1
  exact hd.elim (fun hd => h1 (key hd)) (fun hd => h5 (key hd)))
structure ParsA (w0 : World) (q g5 : Nat) (V : List Nat) (c : Ck) (s : Sv) (st : Option Nat) (K : Int) (u : Value) (m : List Nat) (lv : Value) (Lp : List Par) (L : Nat → Bool) (vs : Nat → Value) (wx : World) : Prop where
 A : L 9 = false → RS w0 wx q c s V st ∧ Blk wx g5 #[.int .i64 K, u] 138 ∧ BytesAt wx u m
 P : OwnL 138 wx w0.heap.size lv Lp
 B : L 9 = true → L 13 = false → ∃ ad n cap gi bv, vs 9 = .slice ad n cap ∧ Half w0 wx q c ({ c with addrs := c.addrs ++ [addrV m] }) s { s with aA := ad, aN := n, aC := cap } V st gi bv
 C : L 13 = true → ∃ s2, RS w0 wx q ({ c with addrs := c.addrs ++ [addrV m] }) s2 V st
 S : L 8 = true → L 9 = false → NumsAt .i64 wx (vs 8) [addrV m]
 k0 : L 0 = true → vs 0 = ptr q
 k1 : L 1 = true → vs 1 = ptr q
 k2 : L 2 = true → vs 2 = ptr q
 k3 : L 3 = true → vs 3 = ptr q
 k4 : L 4 = true → vs 4 = .pointer (some ⟨q, 14, none⟩)
 k5 : L 5 = true → vs 5 = .slice s.aA s.aN s.aC
 k6 : L 6 = true → vs 6 = .agg #[.int .i64 K, u]
 k7 : L 7 = true → vs 7 = .int .i64 (addrV m)
 k10 : L 10 = true → vs 10 = ptr q
 k11 : L 11 = true → vs 11 = ptr q
 k12 : L 12 = true → vs 12 = .pointer (some ⟨q, 14, none⟩)
 d7_6 : L 7 = true → L 6 = true
 d9_5 : L 9 = true → L 5 = true
 d9_8 : L 9 = true → L 8 = true
 d13_9 : L 13 = true → L 9 = true
 d8_7 : L 8 = true → L 7 = true
structure ParsO (w0 : World) (q g5 : Nat) (V : List Nat) (c : Ck) (s : Sv) (st : Option Nat) (K : Int) (u : Value) (m : List Nat) (lv : Value) (Lp : List Par) (L : Nat → Bool) (vs : Nat → Value) (wx : World) : Prop where
 A : L 13 = false → RS w0 wx q c s V st ∧ Blk wx g5 #[.int .i64 K, u] 138 ∧ BytesAt wx u m
 P : OwnL 138 wx w0.heap.size lv Lp
 B : L 13 = true → L 17 = false → ∃ ad n cap gi bv, vs 13 = .slice ad n cap ∧ Half w0 wx q c ({ c with ops := c.ops ++ [(K - 49152, addrV m)] }) s { s with oA := ad, oN := n, oC := cap } V st gi bv
 C : L 17 = true → ∃ s2, RS w0 wx q ({ c with ops := c.ops ++ [(K - 49152, addrV m)] }) s2 V st
 S : L 12 = true → L 13 = false → PairsAt wx (vs 12) [(K - 49152, addrV m)]
 k0 : L 0 = true → vs 0 = ptr q
 k1 : L 1 = true → vs 1 = ptr q
 k2 : L 2 = true → vs 2 = ptr q
 k3 : L 3 = true → vs 3 = ptr q
 k4 : L 4 = true → vs 4 = .pointer (some ⟨q, 20, none⟩)
 k5 : L 5 = true → vs 5 = .slice s.oA s.oN s.oC
 k6 : L 6 = true → vs 6 = ptr g5
 k7 : L 7 = true → vs 7 = .int .i64 K
 k8 : L 8 = true → vs 8 = .int .i64 (K - 49152)
 k9 : L 9 = true → vs 9 = .agg #[.int .i64 K, u]
 k10 : L 10 = true → vs 10 = .int .i64 (addrV m)
 k11 : L 11 = true → vs 11 = .agg #[.int .i64 (K - 49152), .int .i64 (addrV m)]
 k14 : L 14 = true → vs 14 = ptr q
 k15 : L 15 = true → vs 15 = ptr q
 k16 : L 16 = true → vs 16 = .pointer (some ⟨q, 20, none⟩)
 d10_9 : L 10 = true → L 9 = true
 d13_5 : L 13 = true → L 5 = true
 d13_12 : L 13 = true → L 12 = true
 d17_13 : L 17 = true → L 13 = true
 d12_11 : L 12 = true → L 11 = true
 d11_10 : L 11 = true → L 10 = true
 d11_8 : L 11 = true → L 8 = true
 d8_7 : L 8 = true → L 7 = true
theorem wl_setRk {w0 w : World} {q : Nat} {c : Ck} {s : Sv} {B : List Nat} {st : Option Nat} (h : RS w0 w q c s B st) {ops : Array Oper} {rest : List Oper} {o : Oper} {a : Act} {Q : Exit → Act → World → Prop} (hgd : o.guard = none) {t : TypeId} (hT : OneT Try.prog t) {x y : Operand} (j : Nat) {v : Value} (ho : o.op = .store t x y) (hx : a.eval x = .pointer (some ⟨q, j, none⟩)) (hy : a.eval y = v) (hv : v.cells = #[v]) (h1 : v.oneCell' = true) (hj : j < 23) (c' : Ck) (s' : Sv) (hset : ∀ z, (RV c s z).setIfInBounds j v = RV c' s' z) (hown : OwnC w w0.heap.size s' c') (hfit : Fit c')
  (hk : ∀ w', RS w0 w' q c' s' B st → (∃ C, Blk w q C 91) → KeepBut (· = q) w w' → wpList Try.prog ops Q rest (a.put o.dst undef) w') : wpList Try.prog ops Q (o :: rest) a w := by
 obtain ⟨gi, bv, hb, hq, hl, hi⟩ := h.rd
 refine wl_set hgd hT ho hx hy hv h1 hb (show j < (RV c s (ptr gi)).size from hj) ?_
 intro w' hb' hk' _
 rw [hset] at hb'
 exact hk w' (h.put hb hq hl hi hb' hk' hown hfit) ⟨_, hb⟩ hk'
theorem parsT_one (d : Ck) (p : Par) : parsT d [p] = parK d p := rfl
theorem parK_r (d : Ck) (m : List Nat) : parK d (32770, m) = { d with rand := m } := by simp [parK]
theorem parK_a (d : Ck) (m : List Nat) : parK d (5, m) = { d with addrs := d.addrs ++ [addrV m] } := by simp [parK]
theorem parK_1 (d : Ck) (m : List Nat) : parK d (1, m) = { d with info := m } := by simp [parK]
theorem parK_7 (d : Ck) (m : List Nat) : parK d (7, m) = { d with info := m } := by simp [parK]
theorem parK_o {K : Int} (h : K = 49153 ∨ K = 49154 ∨ K = 49156) (d : Ck) (m : List Nat) : parK d (K, m) = { d with ops := d.ops ++ [(K - 49152, addrV m)] } := by
 rcases h with rfl | rfl | rfl <;> simp [parK]
theorem parK_no {K : Int} (h1 : K ≠ 32770) (h2 : K ≠ 5) (h3 : K ≠ 1) (h4 : K ≠ 7) (h5 : K ≠ 49153) (h6 : K ≠ 49154) (h7 : K ≠ 49156) (d : Ck) (m : List Nat) : parK d (K, m) = d := by
 simp [parK, h1, h2, h3, h4, h5, h6, h7]
theorem parK_len (d : Ck) (p : Par) : (parK d p).addrs.length ≤ d.addrs.length + 1 ∧ (parK d p).ops.length ≤ d.ops.length + 1 := by
 unfold parK
 split
 ·
  exact ⟨Nat.le_succ _, Nat.le_succ _⟩
 split
 ·
  exact ⟨by simp, Nat.le_succ _⟩
 split
 ·
  exact ⟨Nat.le_succ _, Nat.le_succ _⟩
 split
 ·
  exact ⟨Nat.le_succ _, by simp⟩
 ·
  exact ⟨Nat.le_succ _, Nat.le_succ _⟩
theorem parsT_len : ∀ (L : List Par) (d : Ck), (parsT d L).addrs.length ≤ d.addrs.length + L.length ∧ (parsT d L).ops.length ≤ d.ops.length + L.length
 | [], d => ⟨Nat.le_refl _, Nat.le_refl _⟩
 | p :: L, d => by
  have h1 := parK_len d p
  have h2 := parsT_len L (parK d p)
  have e : parsT d (p :: L) = parsT (parK d p) L := rfl
  rw [e, List.length_cons]
  omega
theorem readAll_val : ∀ (n : Nat) (b : List Nat) (L : List Par), b.length ≤ n → readAll b = some L → ∀ p ∈ L, p.2.length ≤ b.length := by
 intro n
 induction n with
 | zero =>
  intro b L hb h p hp
  have : b = [] := List.eq_nil_of_length_eq_zero (by omega)
  subst this
  rw [readAll_nil] at h
  cases h
  cases hp
 | succ n ih =>
  intro b L hb h p hp
  by_cases h0 : b = []
  ·
   subst h0; rw [readAll_nil] at h; cases h; cases hp
  cases hk : okP b with
  | false => rw [readAll_bad h0 hk] at h; cases h
  | true =>
   rw [readAll_ok h0 hk] at h
   obtain ⟨L2, h2, rfl⟩ := Option.map_eq_some_iff.1 h
   have h4 := allP_pos hk
   rcases List.mem_cons.1 hp with rfl | hp
   ·
    unfold headP; simp only [List.length_drop, List.length_take]; omega
   ·
    have := ih (b.drop (allP b)) L2 (by rw [List.length_drop]; have : 0 < b.length := List.length_pos_iff.2 h0; omega) h2 p hp
    rw [List.length_drop] at this; omega
theorem addrV_w64 {m : List Nat} (h : AllB m) : W64 (addrV m) := w64_num h _ _ (by decide)
theorem paramsR_any {w0 w : World} {q : Nat} {c : Ck} {s : Sv} {V : List Nat} {st : Option Nat} (h : RS w0 w q c s V st) (hV : V.length ≤ 100000) (hc : c.addrs.length = 0 ∧ c.ops.length = 0) :
  Calls Try.prog 81 #[ptr q] w (TookIs w0 q (rdPars c (rdRest V st)) V) := by
 have HRl0 : Hid (RS w0 w q c s V st) := h
 have HX : Hid ((rdRest V st).length ≤ 100000 ∧ V.length ≤ 1000000) := ⟨Nat.le_trans (takeS_len _ _ _) hV, by omega⟩
 obtain ⟨Lp, hLp⟩ : ∃ L, L = (readAll (rdRest V st)).getD [] := ⟨_, rfl⟩
 have hlen : Lp.length ≤ 25000 := by
  rw [hLp]
  cases hr : readAll (rdRest V st) with
  | none => simp
  | some L =>
   have := readAll_len _ _ _ (Nat.le_refl _) hr
   have := HX.out.1
   show L.length ≤ 25000
   omega
 have HLp : Hid (Lp = (readAll (rdRest V st)).getD []) := hLp
 have HC : Hid (c.addrs.length = 0 ∧ c.ops.length = 0) := hc
 obtain ⟨N, hN⟩ : ∃ n, n = Lp.length := ⟨_, rfl⟩
 have HN : Hid (N = Lp.length) := hN
 rw [← hN] at hlen
 obtain ⟨sE, hsE⟩ : ∃ x, x = rdRestS V st := ⟨_, rfl⟩
 unfold rdPars
 rw [← HLp.out]
 clear h hV hc hLp hN
 go_enter Try.func81, Try.ntmps81
 refine wp_seq_k (fun K0 hK => ?_)
 have HK0 := Stop.mk hK
 clear hK
 go_wp2_with (first
  | (have q_ := HR1; clear q_; go_at_call 95; refine (paramsR HO1.out.bytes HX.out.1).mono ?_; rintro e w2 ⟨he2, lv, er, rfl, hL⟩; rw [← HLp.out] at hL; obtain ⟨la, lc, rfl⟩ := hL.form; rw [← HN.out] at hL ⊢; have HR2 : Hid (RS w0 w2 q c s V sE ∧ OwnL 138 w2 w0.heap.size (.slice la N lc) Lp) := ⟨HR1.out.grow he2, hL.base HR1.out.ext.size⟩; clear hL he2)
  | (go_at_call 83; refine (rest_any HRl0.out HX.out.2).mono ?_; rintro e w1 ⟨ra, rc, rfl, ho, hr⟩; rw [← hsE] at hr; have HO1 : Hid (OB w1 w0.heap.size (.slice ra (rdRest V st).length rc) (rdRest V st)) := ho; have HR1 : Hid (RS w0 w1 q c s V sE) := hr; clear hr ho))
 refine HK0.go _ _ ?_
 clear HK0 hsE
 go_wp2
 go_loopg [14] N (fun gm t wr => ∃ (k : Nat) (s : Sv), k ≤ N ∧ gm = N - k ∧ t = .int .i64 (k : Int) ∧ Hid (RS w0 wr q (parsT c (Lp.take k)) s V sE ∧ OwnL 138 wr w0.heap.size (.slice la N lc) Lp))
 case atStart => exact ⟨0, s, Nat.zero_le _, rfl, rfl, HR2.out⟩
 case round =>
  obtain ⟨k, s, hk, rfl, rfl, HRl⟩ := hrel
  by_cases hlt : k < N
  ·
   have hd : decide ((k : Int) < (N : Int)) = true := decide_eq_true (by omega)
   have hkn : (k : Int) < (N : Int) := by omega
   have hkL : k < Lp.length := by rw [← HN.out]; exact hlt
   obtain ⟨b, u, rfl, hc0, hc1, hou⟩ := HRl.out.2.at k hkL
   obtain ⟨p, hp⟩ : ∃ p, p = Lp.getD k (0, []) := ⟨_, rfl⟩
   rw [← hp] at hc0 hou
   have HT : Hid (Lp.take (k + 1) = Lp.take k ++ [p]) := show _ = _ by rw [hp]; exact take_snocD (0, []) hkL
   obtain ⟨K, m⟩ := p
   dsimp only at hc0 hou
   obtain ⟨ua, uc, rfl⟩ := hou.form
   obtain ⟨l, hl⟩ : ∃ l, l = m.length := ⟨_, rfl⟩
   rw [← hl] at hc1 hou
   have hml : m.length ≤ 1000000 := by
    have h0 := HLp.out
    have h1 : (K, m) ∈ Lp := by rw [hp]; exact getD_mem Lp _ k hkL
    cases hr : readAll (rdRest V st) with
    | none => rw [hr] at h0; subst h0; cases h1
    | some L =>
     rw [hr] at h0
     have h2 : (K, m) ∈ L := by rw [show Lp = L from h0] at h1; exact h1
     exact Nat.le_trans (readAll_val _ _ _ (Nat.le_refl _) hr (K, m) h2) (Nat.le_trans HX.out.1 (by decide))
   have HM : Hid (m.length ≤ 1000000) := hml
   have HW : Hid (W64 (addrV m)) := addrV_w64 hou.all
   obtain ⟨d, hd0⟩ : ∃ d, d = parsT c (Lp.take k) := ⟨_, rfl⟩
   have HLs : Hid (d.addrs.length ≤ 100000 ∧ d.ops.length ≤ 100000) := by
    have h1 := parsT_len (Lp.take k) c
    have h2 := HC.out
    rw [← hd0, List.length_take] at h1
    exact ⟨by omega, by omega⟩
   rw [← hd0] at HRl
   have HD0 : Hid (d = parsT c (Lp.take k)) := hd0
   have HOu : Hid (OB wr w0.heap.size (.slice ua l uc) m) := hou
   clear hp hd0 hl hml hou hkL HRl0 HR2 HR1 HO1
   by_cases n1 : K = 32770
   ·
    subst n1
    go_wp2_with (first
     | (refine wl_setRk HR.out.1 rfl oneS 13 rfl (by first | rfl | go_simp) (by first | rfl | go_simp) rfl rfl (by decide) ({ d with rand := m }) ({ s with rA := ua, rN := l, rC := uc }) (fun z => rfl) ⟨HR.out.1.own.t, HO7.out, HR.out.1.own.a, HR.out.1.own.i, HR.out.1.own.g, HR.out.1.own.d, HR.out.1.own.o⟩ { HR.out.1.fit with } ?_; rintro w8 hr ⟨C8, hb8⟩ hk8; have HR8 : Hid (RS w0 w8 q ({ d with rand := m }) ({ s with rA := ua, rN := l, rC := uc }) V sE ∧ OwnL 138 w8 w0.heap.size (.slice (some ⟨b, 0, none⟩) N lc) Lp) := ⟨hr, HR.out.2.2.2.butB hb8 (by decide) (by decide) hk8⟩; clear hr hb8 hk8)
     | (have q_ := hb6; clear q_; refine wl_store (D := #[.int .i64 (32770), .slice ua l uc]) rfl rowP rfl rfl rfl hb6 rfl rfl (one_par _ _ rfl) ?_; intro w7 hb7 hk7 hx; clear hx; have he7 : Ext wr w7 := he6.of_but hk7 (fun k e => by subst e; exact Nat.le_refl _); have HR : Hid (RS w0 w7 q d s V sE ∧ Blk w7 wr.heap.size #[.int .i64 (32770), .slice ua l uc] 138 ∧ BytesAt w7 (.slice ua l uc) m ∧ OwnL 138 w7 w0.heap.size (.slice (some ⟨b, 0, none⟩) N lc) Lp) := ⟨HRl.out.1.grow he7, hb7, HOu.out.bytes.ext he7, HRl.out.2.ext he7⟩; have HO7 : Hid (OB w7 w0.heap.size (.slice ua l uc) m) := HOu.out.ext he7; have x0 : w7.cell? ⟨wr.heap.size, 0, none⟩ = some (.int .i64 (32770)) := hb7.cell 0; have x1 : w7.cell? ⟨wr.heap.size, 1, none⟩ = some (.slice ua l uc) := hb7.cell 1; clear hb6 hb7 hk7 he7 he6 hc0 hc1)
     | (refine wl_alloc rfl rfl zeroP ?_; intro w6 hb6 he6 hx; clear hx)
     | (refine wl_loadP rfl rowP rfl rfl hc0 hc1 ?_))
    go_roundg (N - (k + 1))
    case measure => omega
    case rel => exact ⟨k + 1, _, by omega, rfl, by simp, by rw [HT.out, parsT_app, parsT_one, ← HD0.out, parK_r]; exact HR8.out⟩
   by_cases n2 : K = 5
   ·
    subst n2
    go_wp2_with (first
     | (have q_ := hb6; clear q_; refine wl_store (D := #[.int .i64 (5), .slice ua l uc]) rfl rowP rfl rfl rfl hb6 rfl rfl (one_par _ _ rfl) ?_; intro w7 hb7 hk7 hx; clear hx; have he7 : Ext wr w7 := he6.of_but hk7 (fun k e => by subst e; exact Nat.le_refl _); have HR : Hid (RS w0 w7 q d s V sE ∧ Blk w7 wr.heap.size #[.int .i64 (5), .slice ua l uc] 138 ∧ BytesAt w7 (.slice ua l uc) m ∧ OwnL 138 w7 w0.heap.size (.slice (some ⟨b, 0, none⟩) N lc) Lp) := ⟨HRl.out.1.grow he7, hb7, HOu.out.bytes.ext he7, HRl.out.2.ext he7⟩; have HO7 : Hid (OB w7 w0.heap.size (.slice ua l uc) m) := HOu.out.ext he7; have x0 : w7.cell? ⟨wr.heap.size, 0, none⟩ = some (.int .i64 (5)) := hb7.cell 0; have x1 : w7.cell? ⟨wr.heap.size, 1, none⟩ = some (.slice ua l uc) := hb7.cell 1; clear hb6 hb7 hk7 he7 he6 hc0 hc1)
     | (refine wl_alloc rfl rfl zeroP ?_; intro w6 hb6 he6 hx; clear hx)
     | (refine wl_loadP rfl rowP rfl rfl hc0 hc1 ?_))
    have HLn : Hid (d.addrs.length ≤ 100000) := HLs.out.1
    have HFp : Hid (W64 (addrV m)) := HW.out
    refine wp_region_W (ParsA w0 q wr.heap.size V d s sE (5) (.slice ua l uc) m (.slice (some ⟨b, 0, none⟩) N lc) Lp) (fun t => bif Nat.ble 30 t && Nat.ble t 42 then some (t - 30) else none) 74 rfl (by kernel_rfl) rfl (fun vs => ⟨fun _ => ⟨HR.out.1.grow (Ext.drew _), HR.out.2.1.ext (Ext.drew _), HR.out.2.2.1.ext (Ext.drew _)⟩, HR.out.2.2.2.ext (Ext.drew _), fun h => by simp at h, fun h => by simp at h, fun h => by simp at h, fun h => by simp at h, fun h => by simp at h, fun h => by simp at h, fun h => by simp at h, fun h => by simp at h, fun h => by simp at h, fun h => by simp at h, fun h => by simp at h, fun h => by simp at h, fun h => by simp at h, fun h => by simp at h, fun h => by simp at h, fun h => by simp at h, fun h => by simp at h, fun h => by simp at h, fun h => by simp at h⟩) ?_ ?_
    ·
     refine Ow ⟨rfl, ?_⟩ (Ow ⟨rfl, ?_⟩ (Ow ⟨rfl, ?_⟩ (Ow ⟨rfl, ?_⟩ (Ow ⟨rfl, ?_⟩ (Ow ⟨rfl, ?_⟩ (Ow ⟨rfl, ?_⟩ (Ow ⟨rfl, ?_⟩ (Ow ⟨rfl, ?_⟩ (Ow ⟨rfl, ?_⟩ (Ow ⟨rfl, ?_⟩ (Ow ⟨rfl, ?_⟩ (Ow ⟨rfl, ?_⟩ (Ow ⟨rfl, ?_⟩ OwedVs.nil)))))))))))))
     ·
      rintro L vs wx r H hl hL ⟨h1, _⟩
      replace h1 : r (.tmp 0) = ptr q := h1
      exact give_move (.inl rfl) (by rw [h1]; exact { H with k0 := fun _ => rfl })
     ·
      rintro L vs wx r H hl hL ⟨h1, _⟩
      replace h1 : r (.tmp 0) = ptr q := h1
      exact give_move (.inl rfl) (by rw [h1]; exact { H with k1 := fun _ => rfl })
     ·
      rintro L vs wx r H hl hL ⟨h1, _⟩
      replace h1 : r (.tmp 31) = ptr q := Eq.trans h1 (H.k1 (hL 1 (by kernel_rfl)))
      exact gvo (by simp [execOp, h1, ptr, go_sem]; done) { H with k2 := fun _ => rfl }
     ·
      rintro L vs wx r H hl hL ⟨h1, _⟩
      replace h1 : r (.tmp 32) = ptr q := Eq.trans h1 (H.k2 (hL 2 (by kernel_rfl)))
      exact gvo (by simp [execOp, h1, ptr, go_sem]; done) { H with k3 := fun _ => rfl }
     ·
      rintro L vs wx r H hl hL ⟨h1, _⟩
      replace h1 : r (.tmp 33) = ptr q := Eq.trans h1 (H.k3 (hL 3 (by kernel_rfl)))
      exact gvo (by simp [execOp, h1, ptr, go_sem]; done) { H with k4 := fun _ => rfl }
     ·
      rintro L vs wx r H hl hL ⟨h1, _⟩
      replace h1 : r (.tmp 34) = .pointer (some ⟨q, 14, none⟩) := Eq.trans h1 (H.k4 (hL 4 (by kernel_rfl)))
      have hAP : L 9 = false := met_no H.d9_5 hl
      obtain ⟨gi, bv, hg⟩ := (H.A hAP).1.g
      exact gvo (exg oneSA rfl h1 (rv14 hg.hb)) { H with k5 := fun _ => rfl, d9_5 := fun _ => rfl }
     ·
      rintro L vs wx r H hl hL ⟨h1, _⟩
      replace h1 : r (.tmp 5) = ptr wr.heap.size := h1
      have hCA : L 7 = false := met_no H.d7_6 hl
      have hBS : L 8 = false := met_no H.d8_7 hCA
      have hAP : L 9 = false := met_no H.d9_8 hBS
      exact gvo (exec_loadW rowP rfl h1 (H.A hAP).2.1 rfl) { H with k6 := fun _ => rfl, d7_6 := fun _ => rfl }
     ·
      rintro L vs wx r H hl hL ⟨h1, h2, _⟩
      replace h1 : r (.func 96) = .func (.func 96) #[] #[] := h1
      replace h2 : r (.tmp 36) = .agg #[.int .i64 (5), .slice ua l uc] := Eq.trans h2 (H.k6 (hL 6 (by kernel_rfl)))
      have hBS : L 8 = false := met_no H.d8_7 hl
      have hAP : L 9 = false := met_no H.d9_8 hBS
      have hST : L 13 = false := met_no H.d13_9 hAP
      refine give_func #[.agg #[.int .i64 (5), .slice ua l uc]] rfl h1 Try.call96 (by simp [h2]) ?_
      refine (addrOf_any (H.A hAP).2.2 HM.out).mono ?_
      rintro e w' ⟨rfl, he⟩
      exact ⟨_, rfl, { H with A := fun _ => ⟨(H.A hAP).1.grow he, (H.A hAP).2.1.ext he, (H.A hAP).2.2.ext he⟩, P := H.P.ext he, B := fun h => absurd (h.symm.trans hAP) (by decide), C := fun h => absurd (h.symm.trans hST) (by decide), S := fun h => absurd (h.symm.trans hBS) (by decide), k7 := fun _ => rfl, d7_6 := fun _ => hL 6 (by kernel_rfl), d8_7 := fun _ => rfl }⟩
     ·
      rintro L vs wx r H hl hL ⟨h1, _⟩
      replace h1 : r (.tmp 37) = .int .i64 (addrV m) := Eq.trans h1 (H.k7 (hL 7 (by kernel_rfl)))
      have hAP : L 9 = false := met_no H.d9_8 hl
      have hST : L 13 = false := met_no H.d13_9 hAP
      exact give_one_num rfl numTA h1 { H with A := fun h => ⟨(H.A h).1.grow (Ext.alloc _ _), (H.A h).2.1.ext (Ext.alloc _ _), (H.A h).2.2.ext (Ext.alloc _ _)⟩, P := H.P.ext (Ext.alloc _ _), B := fun h => absurd (h.symm.trans hAP) (by decide), C := fun h => absurd (h.symm.trans hST) (by decide), S := fun _ _ => NumsAt.one wx _ _ _ rfl, d9_8 := fun _ => rfl, d8_7 := fun _ => hL 7 (by kernel_rfl) }
     ·
      rintro L vs wx r H hl hL ⟨h1, h2, _⟩
      have hST : L 13 = false := met_no H.d13_9 hl
      replace h1 : r (.tmp 35) = .slice s.aA s.aN s.aC := Eq.trans h1 (H.k5 (hL 5 (by kernel_rfl)))
      replace h2 : r (.tmp 38) = vs 8 := h2
      exact give_app_a (H.A hl).1 (H.S (hL 8 (by kernel_rfl)) hl) HLn.out HFp.out rfl h1 h2 (fun ad n cap w' gi bv hf hkk => { H with A := fun h => absurd h (by simp [met1]), P := H.P.butR (g := 0) (H.A hl).1.own.a.1 (by decide) (by decide) hkk, B := fun _ _ => ⟨ad, n, cap, gi, bv, rfl, hf⟩, C := fun h => absurd (h.symm.trans hST) (by decide), S := fun _ h => absurd h (by simp [met1]), d9_5 := fun _ => hL 5 (by kernel_rfl), d9_8 := fun _ => hL 8 (by kernel_rfl), d13_9 := fun _ => rfl })
     ·
      rintro L vs wx r H hl hL ⟨h1, _⟩
      replace h1 : r (.tmp 30) = ptr q := Eq.trans h1 (H.k0 (hL 0 (by kernel_rfl)))
      exact gvo (by simp [execOp, h1, ptr, go_sem]; done) { H with k10 := fun _ => rfl }
     ·
      rintro L vs wx r H hl hL ⟨h1, _⟩
      replace h1 : r (.tmp 40) = ptr q := Eq.trans h1 (H.k10 (hL 10 (by kernel_rfl)))
      exact gvo (by simp [execOp, h1, ptr, go_sem]; done) { H with k11 := fun _ => rfl }
     ·
      rintro L vs wx r H hl hL ⟨h1, _⟩
      replace h1 : r (.tmp 41) = ptr q := Eq.trans h1 (H.k11 (hL 11 (by kernel_rfl)))
      exact gvo (by simp [execOp, h1, ptr, go_sem]; done) { H with k12 := fun _ => rfl }
     ·
      rintro L vs wx r H hl hL ⟨h1, h2, _⟩
      replace h1 : r (.tmp 42) = .pointer (some ⟨q, 14, none⟩) := Eq.trans h1 (H.k12 (hL 12 (by kernel_rfl)))
      obtain ⟨ad, n, cap, gi, bv, e, hf⟩ := H.B (hL 9 (by kernel_rfl)) hl
      replace h2 : r (.tmp 39) = .slice ad n cap := Eq.trans h2 e
      have hk : KeepBut (· = q) wx (wx.setCell ⟨q, 14, none⟩ (.slice ad n cap)) := ⟨rfl, rfl, rfl, by simp, fun k _ hk => block_other hk 14 _⟩
      exact give_skip (exec_set oneSA rfl h1 h2 rfl rfl hf.hb (show 14 < (RV d s (ptr gi)).size from (by decide : 14 < 23))) { H with A := fun h => absurd (h.symm.trans (hL 9 (by kernel_rfl))) (by decide), P := H.P.butB hf.hb (by decide) (by decide) hk, B := fun _ h => absurd h (by simp [met1]), C := fun _ => ⟨_, hf.store (fun z => rfl)⟩, S := fun _ h => absurd (h.symm.trans (hL 9 (by kernel_rfl))) (by decide), d13_9 := fun _ => hL 9 (by kernel_rfl) }
    ·
     intro vs2 a2 w8 H ha2
     obtain ⟨s2, hr2⟩ := H.C rfl
     have HR8 : Hid (RS w0 w8 q _ s2 V sE ∧ OwnL 138 w8 w0.heap.size (.slice (some ⟨b, 0, none⟩) N lc) Lp) := ⟨hr2, H.P⟩
     clear hr2 H
     simp only [putAll, Act.put, Nat.zero_add, Nat.reduceAdd, List.setIfInBounds_toArray, List.set_cons_succ, List.set_cons_zero] at ha2
     subst ha2
     go_wp2
     go_roundg (N - (k + 1))
     case measure => omega
     case rel => exact ⟨k + 1, s2, by omega, rfl, by simp, by rw [HT.out, parsT_app, parsT_one, ← HD0.out, parK_a]; exact HR8.out⟩
   by_cases n3 : K = 1
   ·
    subst n3
    go_wp2_with (first
     | (refine wl_setRk HR.out.1 rfl oneS 15 rfl (by first | rfl | go_simp) (by first | rfl | go_simp) rfl rfl (by decide) ({ d with info := m }) ({ s with iA := ua, iN := l, iC := uc }) (fun z => rfl) ⟨HR.out.1.own.t, HR.out.1.own.r, HR.out.1.own.a, HO7.out, HR.out.1.own.g, HR.out.1.own.d, HR.out.1.own.o⟩ { HR.out.1.fit with } ?_; rintro w8 hr ⟨C8, hb8⟩ hk8; have HR8 : Hid (RS w0 w8 q ({ d with info := m }) ({ s with iA := ua, iN := l, iC := uc }) V sE ∧ OwnL 138 w8 w0.heap.size (.slice (some ⟨b, 0, none⟩) N lc) Lp) := ⟨hr, HR.out.2.2.2.butB hb8 (by decide) (by decide) hk8⟩; clear hr hb8 hk8)
     | (have q_ := hb6; clear q_; refine wl_store (D := #[.int .i64 (1), .slice ua l uc]) rfl rowP rfl rfl rfl hb6 rfl rfl (one_par _ _ rfl) ?_; intro w7 hb7 hk7 hx; clear hx; have he7 : Ext wr w7 := he6.of_but hk7 (fun k e => by subst e; exact Nat.le_refl _); have HR : Hid (RS w0 w7 q d s V sE ∧ Blk w7 wr.heap.size #[.int .i64 (1), .slice ua l uc] 138 ∧ BytesAt w7 (.slice ua l uc) m ∧ OwnL 138 w7 w0.heap.size (.slice (some ⟨b, 0, none⟩) N lc) Lp) := ⟨HRl.out.1.grow he7, hb7, HOu.out.bytes.ext he7, HRl.out.2.ext he7⟩; have HO7 : Hid (OB w7 w0.heap.size (.slice ua l uc) m) := HOu.out.ext he7; have x0 : w7.cell? ⟨wr.heap.size, 0, none⟩ = some (.int .i64 (1)) := hb7.cell 0; have x1 : w7.cell? ⟨wr.heap.size, 1, none⟩ = some (.slice ua l uc) := hb7.cell 1; clear hb6 hb7 hk7 he7 he6 hc0 hc1)
     | (refine wl_alloc rfl rfl zeroP ?_; intro w6 hb6 he6 hx; clear hx)
     | (refine wl_loadP rfl rowP rfl rfl hc0 hc1 ?_))
    go_roundg (N - (k + 1))
    case measure => omega
    case rel => exact ⟨k + 1, _, by omega, rfl, by simp, by rw [HT.out, parsT_app, parsT_one, ← HD0.out, parK_1]; exact HR8.out⟩
   by_cases n4 : K = 7
   ·
    subst n4
    go_wp2_with (first
     | (refine wl_setRk HR.out.1 rfl oneS 15 rfl (by first | rfl | go_simp) (by first | rfl | go_simp) rfl rfl (by decide) ({ d with info := m }) ({ s with iA := ua, iN := l, iC := uc }) (fun z => rfl) ⟨HR.out.1.own.t, HR.out.1.own.r, HR.out.1.own.a, HO7.out, HR.out.1.own.g, HR.out.1.own.d, HR.out.1.own.o⟩ { HR.out.1.fit with } ?_; rintro w8 hr ⟨C8, hb8⟩ hk8; have HR8 : Hid (RS w0 w8 q ({ d with info := m }) ({ s with iA := ua, iN := l, iC := uc }) V sE ∧ OwnL 138 w8 w0.heap.size (.slice (some ⟨b, 0, none⟩) N lc) Lp) := ⟨hr, HR.out.2.2.2.butB hb8 (by decide) (by decide) hk8⟩; clear hr hb8 hk8)
     | (have q_ := hb6; clear q_; refine wl_store (D := #[.int .i64 (7), .slice ua l uc]) rfl rowP rfl rfl rfl hb6 rfl rfl (one_par _ _ rfl) ?_; intro w7 hb7 hk7 hx; clear hx; have he7 : Ext wr w7 := he6.of_but hk7 (fun k e => by subst e; exact Nat.le_refl _); have HR : Hid (RS w0 w7 q d s V sE ∧ Blk w7 wr.heap.size #[.int .i64 (7), .slice ua l uc] 138 ∧ BytesAt w7 (.slice ua l uc) m ∧ OwnL 138 w7 w0.heap.size (.slice (some ⟨b, 0, none⟩) N lc) Lp) := ⟨HRl.out.1.grow he7, hb7, HOu.out.bytes.ext he7, HRl.out.2.ext he7⟩; have HO7 : Hid (OB w7 w0.heap.size (.slice ua l uc) m) := HOu.out.ext he7; have x0 : w7.cell? ⟨wr.heap.size, 0, none⟩ = some (.int .i64 (7)) := hb7.cell 0; have x1 : w7.cell? ⟨wr.heap.size, 1, none⟩ = some (.slice ua l uc) := hb7.cell 1; clear hb6 hb7 hk7 he7 he6 hc0 hc1)
     | (refine wl_alloc rfl rfl zeroP ?_; intro w6 hb6 he6 hx; clear hx)
     | (refine wl_loadP rfl rowP rfl rfl hc0 hc1 ?_))
    go_roundg (N - (k + 1))
    case measure => omega
    case rel => exact ⟨k + 1, _, by omega, rfl, by simp, by rw [HT.out, parsT_app, parsT_one, ← HD0.out, parK_7]; exact HR8.out⟩
   by_cases n5 : K = 49153
   ·
    subst n5
    go_wp2_with (first
     | (have q_ := hb6; clear q_; refine wl_store (D := #[.int .i64 (49153), .slice ua l uc]) rfl rowP rfl rfl rfl hb6 rfl rfl (one_par _ _ rfl) ?_; intro w7 hb7 hk7 hx; clear hx; have he7 : Ext wr w7 := he6.of_but hk7 (fun k e => by subst e; exact Nat.le_refl _); have HR : Hid (RS w0 w7 q d s V sE ∧ Blk w7 wr.heap.size #[.int .i64 (49153), .slice ua l uc] 138 ∧ BytesAt w7 (.slice ua l uc) m ∧ OwnL 138 w7 w0.heap.size (.slice (some ⟨b, 0, none⟩) N lc) Lp) := ⟨HRl.out.1.grow he7, hb7, HOu.out.bytes.ext he7, HRl.out.2.ext he7⟩; have HO7 : Hid (OB w7 w0.heap.size (.slice ua l uc) m) := HOu.out.ext he7; have x0 : w7.cell? ⟨wr.heap.size, 0, none⟩ = some (.int .i64 (49153)) := hb7.cell 0; have x1 : w7.cell? ⟨wr.heap.size, 1, none⟩ = some (.slice ua l uc) := hb7.cell 1; clear hb6 hb7 hk7 he7 he6 hc0 hc1)
     | (refine wl_alloc rfl rfl zeroP ?_; intro w6 hb6 he6 hx; clear hx)
     | (refine wl_loadP rfl rowP rfl rfl hc0 hc1 ?_))
    have HLn : Hid (d.ops.length ≤ 100000) := HLs.out.2
    have HFp : Hid (W64 ((49153 : Int) - 49152) ∧ W64 (addrV m)) := ⟨by unfold W64; decide, HW.out⟩
    have HKw : IntKind.i64.wrap ((49153 : Int) - 49152) = 49153 - 49152 := by decide
    refine wp_region_W (ParsO w0 q wr.heap.size V d s sE (49153) (.slice ua l uc) m (.slice (some ⟨b, 0, none⟩) N lc) Lp) (fun t => bif Nat.ble 56 t && Nat.ble t 72 then some (t - 56) else none) 74 rfl (by kernel_rfl) rfl (fun vs => ⟨fun _ => ⟨HR.out.1.grow (Ext.drew _), HR.out.2.1.ext (Ext.drew _), HR.out.2.2.1.ext (Ext.drew _)⟩, HR.out.2.2.2.ext (Ext.drew _), fun h => by simp at h, fun h => by simp at h, fun h => by simp at h, fun h => by simp at h, fun h => by simp at h, fun h => by simp at h, fun h => by simp at h, fun h => by simp at h, fun h => by simp at h, fun h => by simp at h, fun h => by simp at h, fun h => by simp at h, fun h => by simp at h, fun h => by simp at h, fun h => by simp at h, fun h => by simp at h, fun h => by simp at h, fun h => by simp at h, fun h => by simp at h, fun h => by simp at h, fun h => by simp at h, fun h => by simp at h, fun h => by simp at h, fun h => by simp at h, fun h => by simp at h, fun h => by simp at h⟩) ?_ ?_
    ·
     refine Ow ⟨rfl, ?_⟩ (Ow ⟨rfl, ?_⟩ (Ow ⟨rfl, ?_⟩ (Ow ⟨rfl, ?_⟩ (Ow ⟨rfl, ?_⟩ (Ow ⟨rfl, ?_⟩ (Ow ⟨rfl, ?_⟩ (Ow ⟨rfl, ?_⟩ (Ow ⟨rfl, ?_⟩ (Ow ⟨rfl, ?_⟩ (Ow ⟨rfl, ?_⟩ (Ow ⟨rfl, ?_⟩ (Ow ⟨rfl, ?_⟩ (Ow ⟨rfl, ?_⟩ (Ow ⟨rfl, ?_⟩ (Ow ⟨rfl, ?_⟩ (Ow ⟨rfl, ?_⟩ (Ow ⟨rfl, ?_⟩ OwedVs.nil)))))))))))))))))
     ·
      rintro L vs wx r H hl hL ⟨h1, _⟩
      replace h1 : r (.tmp 0) = ptr q := h1
      exact give_move (.inl rfl) (by rw [h1]; exact { H with k0 := fun _ => rfl })
     ·
      rintro L vs wx r H hl hL ⟨h1, _⟩
      replace h1 : r (.tmp 0) = ptr q := h1
      exact give_move (.inl rfl) (by rw [h1]; exact { H with k1 := fun _ => rfl })
     ·
      rintro L vs wx r H hl hL ⟨h1, _⟩
      replace h1 : r (.tmp 57) = ptr q := Eq.trans h1 (H.k1 (hL 1 (by kernel_rfl)))
      exact gvo (by simp [execOp, h1, ptr, go_sem]; done) { H with k2 := fun _ => rfl }
     ·
      rintro L vs wx r H hl hL ⟨h1, _⟩
      replace h1 : r (.tmp 58) = ptr q := Eq.trans h1 (H.k2 (hL 2 (by kernel_rfl)))
      exact gvo (by simp [execOp, h1, ptr, go_sem]; done) { H with k3 := fun _ => rfl }
     ·
      rintro L vs wx r H hl hL ⟨h1, _⟩
      replace h1 : r (.tmp 59) = ptr q := Eq.trans h1 (H.k3 (hL 3 (by kernel_rfl)))
      exact gvo (by simp [execOp, h1, ptr, go_sem]; done) { H with k4 := fun _ => rfl }
     ·
      rintro L vs wx r H hl hL ⟨h1, _⟩
      replace h1 : r (.tmp 60) = .pointer (some ⟨q, 20, none⟩) := Eq.trans h1 (H.k4 (hL 4 (by kernel_rfl)))
      have hAP : L 13 = false := met_no H.d13_5 hl
      obtain ⟨gi, bv, hg⟩ := (H.A hAP).1.g
      exact gvo (exg oneSO rfl h1 (rv20 hg.hb)) { H with k5 := fun _ => rfl, d13_5 := fun _ => rfl }
     ·
      rintro L vs wx r H hl hL ⟨h1, _⟩
      replace h1 : r (.tmp 5) = ptr wr.heap.size := h1
      exact gvo (by simp [execOp, h1, ptr, go_sem]; done) { H with k6 := fun _ => rfl }
     ·
      rintro L vs wx r H hl hL ⟨h1, _⟩
      replace h1 : r (.tmp 62) = ptr wr.heap.size := Eq.trans h1 (H.k6 (hL 6 (by kernel_rfl)))
      have h8 : L 8 = false := met_no H.d8_7 hl
      have h11 : L 11 = false := met_no H.d11_8 h8
      have hBS : L 12 = false := met_no H.d12_11 h11
      have hAP : L 13 = false := met_no H.d13_12 hBS
      exact gvo (exg one3 rfl h1 ((H.A hAP).2.1.cell 0)) { H with k7 := fun _ => rfl, d8_7 := fun _ => rfl }
     ·
      rintro L vs wx r H hl hL ⟨h1, h2, _⟩
      replace h1 : r (.tmp 63) = .int .i64 (49153) := Eq.trans h1 (H.k7 (hL 7 (by kernel_rfl)))
      replace h2 : r (.const (.int .i64 49152)) = .int .i64 49152 := h2
      exact gvo (by simp [execOp, h1, h2, go_sem]; decide) { H with k8 := fun _ => rfl, d11_8 := fun _ => rfl, d8_7 := fun _ => hL 7 (by kernel_rfl) }
     ·
      rintro L vs wx r H hl hL ⟨h1, _⟩
      replace h1 : r (.tmp 5) = ptr wr.heap.size := h1
      have hCA : L 10 = false := met_no H.d10_9 hl
      have h11 : L 11 = false := met_no H.d11_10 hCA
      have hBS : L 12 = false := met_no H.d12_11 h11
      have hAP : L 13 = false := met_no H.d13_12 hBS
      exact gvo (exec_loadW rowP rfl h1 (H.A hAP).2.1 rfl) { H with k9 := fun _ => rfl, d10_9 := fun _ => rfl }
     ·
      rintro L vs wx r H hl hL ⟨h1, h2, _⟩
      replace h1 : r (.func 96) = .func (.func 96) #[] #[] := h1
      replace h2 : r (.tmp 65) = .agg #[.int .i64 (49153), .slice ua l uc] := Eq.trans h2 (H.k9 (hL 9 (by kernel_rfl)))
      have h11 : L 11 = false := met_no H.d11_10 hl
      have hBS : L 12 = false := met_no H.d12_11 h11
      have hAP : L 13 = false := met_no H.d13_12 hBS
      have hST : L 17 = false := met_no H.d17_13 hAP
      refine give_func #[.agg #[.int .i64 (49153), .slice ua l uc]] rfl h1 Try.call96 (by simp [h2]) ?_
      refine (addrOf_any (H.A hAP).2.2 HM.out).mono ?_
      rintro e w' ⟨rfl, he⟩
      exact ⟨_, rfl, { H with A := fun _ => ⟨(H.A hAP).1.grow he, (H.A hAP).2.1.ext he, (H.A hAP).2.2.ext he⟩, P := H.P.ext he, B := fun h => absurd (h.symm.trans hAP) (by decide), C := fun h => absurd (h.symm.trans hST) (by decide), S := fun h => absurd (h.symm.trans hBS) (by decide), k10 := fun _ => rfl, d10_9 := fun _ => hL 9 (by kernel_rfl), d11_10 := fun _ => rfl }⟩
     ·
      rintro L vs wx r H hl hL ⟨h1, h2, _⟩
      replace h1 : r (.tmp 64) = .int .i64 ((49153) - 49152) := Eq.trans h1 (H.k8 (hL 8 (by kernel_rfl)))
      replace h2 : r (.tmp 66) = .int .i64 (addrV m) := Eq.trans h2 (H.k10 (hL 10 (by kernel_rfl)))
      refine gvo (v := .agg #[.int .i64 ((49153) - 49152), .int .i64 (addrV m)]) (w' := wx) ?_ { H with k11 := fun _ => rfl, d12_11 := fun _ => rfl, d11_10 := fun _ => hL 10 (by kernel_rfl), d11_8 := fun _ => hL 8 (by kernel_rfl) }
      have hb := run_build (P := Try.prog) wx 69 #[(0, .int .i64 ((49153) - 49152)), (1, .int .i64 (addrV m))] #[.int .i64 ((49153) - 49152), .int .i64 (addrV m)] (by kernel_rfl)
      simp only [Int.reduceSub] at hb
      simp [execOp, h1, h2, hb]
     ·
      rintro L vs wx r H hl hL ⟨h1, _⟩
      replace h1 : r (.tmp 67) = .agg #[.int .i64 ((49153) - 49152), .int .i64 (addrV m)] := Eq.trans h1 (H.k11 (hL 11 (by kernel_rfl)))
      have hAP : L 13 = false := met_no H.d13_12 hl
      have hST : L 17 = false := met_no H.d17_13 hAP
      exact give_one_pair rfl prO h1 { H with A := fun h => ⟨(H.A h).1.grow (Ext.alloc _ _), (H.A h).2.1.ext (Ext.alloc _ _), (H.A h).2.2.ext (Ext.alloc _ _)⟩, P := H.P.ext (Ext.alloc _ _), B := fun h => absurd (h.symm.trans hAP) (by decide), C := fun h => absurd (h.symm.trans hST) (by decide), S := fun _ _ => pairs_one wx (_, _) _, d13_12 := fun _ => rfl, d12_11 := fun _ => hL 11 (by kernel_rfl) }
     ·
      rintro L vs wx r H hl hL ⟨h1, h2, _⟩
      have hST : L 17 = false := met_no H.d17_13 hl
      replace h1 : r (.tmp 61) = .slice s.oA s.oN s.oC := Eq.trans h1 (H.k5 (hL 5 (by kernel_rfl)))
      replace h2 : r (.tmp 68) = vs 12 := h2
      exact give_app_o (H.A hl).1 (H.S (hL 12 (by kernel_rfl)) hl) HLn.out HFp.out rfl h1 h2 (fun ad n cap w' gi bv hf hkk => { H with A := fun h => absurd h (by simp [met1]), P := H.P.butR (g := 0) (H.A hl).1.own.o.1 (by decide) (by decide) hkk, B := fun _ _ => ⟨ad, n, cap, gi, bv, rfl, hf⟩, C := fun h => absurd (h.symm.trans hST) (by decide), S := fun _ h => absurd h (by simp [met1]), d13_5 := fun _ => hL 5 (by kernel_rfl), d13_12 := fun _ => hL 12 (by kernel_rfl), d17_13 := fun _ => rfl })
     ·
      rintro L vs wx r H hl hL ⟨h1, _⟩
      replace h1 : r (.tmp 56) = ptr q := Eq.trans h1 (H.k0 (hL 0 (by kernel_rfl)))
      exact gvo (by simp [execOp, h1, ptr, go_sem]; done) { H with k14 := fun _ => rfl }
     ·
      rintro L vs wx r H hl hL ⟨h1, _⟩
      replace h1 : r (.tmp 70) = ptr q := Eq.trans h1 (H.k14 (hL 14 (by kernel_rfl)))
      exact gvo (by simp [execOp, h1, ptr, go_sem]; done) { H with k15 := fun _ => rfl }
     ·
      rintro L vs wx r H hl hL ⟨h1, _⟩
      replace h1 : r (.tmp 71) = ptr q := Eq.trans h1 (H.k15 (hL 15 (by kernel_rfl)))
      exact gvo (by simp [execOp, h1, ptr, go_sem]; done) { H with k16 := fun _ => rfl }
     ·
      rintro L vs wx r H hl hL ⟨h1, h2, _⟩
      replace h1 : r (.tmp 72) = .pointer (some ⟨q, 20, none⟩) := Eq.trans h1 (H.k16 (hL 16 (by kernel_rfl)))
      obtain ⟨ad, n, cap, gi, bv, e, hf⟩ := H.B (hL 13 (by kernel_rfl)) hl
      replace h2 : r (.tmp 69) = .slice ad n cap := Eq.trans h2 e
      have hk : KeepBut (· = q) wx (wx.setCell ⟨q, 20, none⟩ (.slice ad n cap)) := ⟨rfl, rfl, rfl, by simp, fun k _ hk => block_other hk 20 _⟩
      exact give_skip (exec_set oneSO rfl h1 h2 rfl rfl hf.hb (show 20 < (RV d s (ptr gi)).size from (by decide : 20 < 23))) { H with A := fun h => absurd (h.symm.trans (hL 13 (by kernel_rfl))) (by decide), P := H.P.butB hf.hb (by decide) (by decide) hk, B := fun _ h => absurd h (by simp [met1]), C := fun _ => ⟨_, hf.store (fun z => rfl)⟩, S := fun _ h => absurd (h.symm.trans (hL 13 (by kernel_rfl))) (by decide), d17_13 := fun _ => hL 13 (by kernel_rfl) }
    ·
     intro vs2 a2 w8 H ha2
     obtain ⟨s2, hr2⟩ := H.C rfl
     have HR8 : Hid (RS w0 w8 q _ s2 V sE ∧ OwnL 138 w8 w0.heap.size (.slice (some ⟨b, 0, none⟩) N lc) Lp) := ⟨hr2, H.P⟩
     clear hr2 H
     simp only [putAll, Act.put, Nat.zero_add, Nat.reduceAdd, List.setIfInBounds_toArray, List.set_cons_succ, List.set_cons_zero] at ha2
     subst ha2
     go_wp2
     go_roundg (N - (k + 1))
     case measure => omega
     case rel => exact ⟨k + 1, s2, by omega, rfl, by simp, by rw [HT.out, parsT_app, parsT_one, ← HD0.out, parK_o (by decide)]; exact HR8.out⟩
   by_cases n6 : K = 49154
   ·
    subst n6
    go_wp2_with (first
     | (have q_ := hb6; clear q_; refine wl_store (D := #[.int .i64 (49154), .slice ua l uc]) rfl rowP rfl rfl rfl hb6 rfl rfl (one_par _ _ rfl) ?_; intro w7 hb7 hk7 hx; clear hx; have he7 : Ext wr w7 := he6.of_but hk7 (fun k e => by subst e; exact Nat.le_refl _); have HR : Hid (RS w0 w7 q d s V sE ∧ Blk w7 wr.heap.size #[.int .i64 (49154), .slice ua l uc] 138 ∧ BytesAt w7 (.slice ua l uc) m ∧ OwnL 138 w7 w0.heap.size (.slice (some ⟨b, 0, none⟩) N lc) Lp) := ⟨HRl.out.1.grow he7, hb7, HOu.out.bytes.ext he7, HRl.out.2.ext he7⟩; have HO7 : Hid (OB w7 w0.heap.size (.slice ua l uc) m) := HOu.out.ext he7; have x0 : w7.cell? ⟨wr.heap.size, 0, none⟩ = some (.int .i64 (49154)) := hb7.cell 0; have x1 : w7.cell? ⟨wr.heap.size, 1, none⟩ = some (.slice ua l uc) := hb7.cell 1; clear hb6 hb7 hk7 he7 he6 hc0 hc1)
     | (refine wl_alloc rfl rfl zeroP ?_; intro w6 hb6 he6 hx; clear hx)
     | (refine wl_loadP rfl rowP rfl rfl hc0 hc1 ?_))
    have HLn : Hid (d.ops.length ≤ 100000) := HLs.out.2
    have HFp : Hid (W64 ((49154 : Int) - 49152) ∧ W64 (addrV m)) := ⟨by unfold W64; decide, HW.out⟩
    have HKw : IntKind.i64.wrap ((49154 : Int) - 49152) = 49154 - 49152 := by decide
    refine wp_region_W (ParsO w0 q wr.heap.size V d s sE (49154) (.slice ua l uc) m (.slice (some ⟨b, 0, none⟩) N lc) Lp) (fun t => bif Nat.ble 56 t && Nat.ble t 72 then some (t - 56) else none) 74 rfl (by kernel_rfl) rfl (fun vs => ⟨fun _ => ⟨HR.out.1.grow (Ext.drew _), HR.out.2.1.ext (Ext.drew _), HR.out.2.2.1.ext (Ext.drew _)⟩, HR.out.2.2.2.ext (Ext.drew _), fun h => by simp at h, fun h => by simp at h, fun h => by simp at h, fun h => by simp at h, fun h => by simp at h, fun h => by simp at h, fun h => by simp at h, fun h => by simp at h, fun h => by simp at h, fun h => by simp at h, fun h => by simp at h, fun h => by simp at h, fun h => by simp at h, fun h => by simp at h, fun h => by simp at h, fun h => by simp at h, fun h => by simp at h, fun h => by simp at h, fun h => by simp at h, fun h => by simp at h, fun h => by simp at h, fun h => by simp at h, fun h => by simp at h, fun h => by simp at h, fun h => by simp at h, fun h => by simp at h⟩) ?_ ?_
    ·
     refine Ow ⟨rfl, ?_⟩ (Ow ⟨rfl, ?_⟩ (Ow ⟨rfl, ?_⟩ (Ow ⟨rfl, ?_⟩ (Ow ⟨rfl, ?_⟩ (Ow ⟨rfl, ?_⟩ (Ow ⟨rfl, ?_⟩ (Ow ⟨rfl, ?_⟩ (Ow ⟨rfl, ?_⟩ (Ow ⟨rfl, ?_⟩ (Ow ⟨rfl, ?_⟩ (Ow ⟨rfl, ?_⟩ (Ow ⟨rfl, ?_⟩ (Ow ⟨rfl, ?_⟩ (Ow ⟨rfl, ?_⟩ (Ow ⟨rfl, ?_⟩ (Ow ⟨rfl, ?_⟩ (Ow ⟨rfl, ?_⟩ OwedVs.nil)))))))))))))))))
     ·
      rintro L vs wx r H hl hL ⟨h1, _⟩
      replace h1 : r (.tmp 0) = ptr q := h1
      exact give_move (.inl rfl) (by rw [h1]; exact { H with k0 := fun _ => rfl })
     ·
      rintro L vs wx r H hl hL ⟨h1, _⟩
      replace h1 : r (.tmp 0) = ptr q := h1
      exact give_move (.inl rfl) (by rw [h1]; exact { H with k1 := fun _ => rfl })
     ·
      rintro L vs wx r H hl hL ⟨h1, _⟩
      replace h1 : r (.tmp 57) = ptr q := Eq.trans h1 (H.k1 (hL 1 (by kernel_rfl)))
      exact gvo (by simp [execOp, h1, ptr, go_sem]; done) { H with k2 := fun _ => rfl }
     ·
      rintro L vs wx r H hl hL ⟨h1, _⟩
      replace h1 : r (.tmp 58) = ptr q := Eq.trans h1 (H.k2 (hL 2 (by kernel_rfl)))
      exact gvo (by simp [execOp, h1, ptr, go_sem]; done) { H with k3 := fun _ => rfl }
     ·
      rintro L vs wx r H hl hL ⟨h1, _⟩
      replace h1 : r (.tmp 59) = ptr q := Eq.trans h1 (H.k3 (hL 3 (by kernel_rfl)))
      exact gvo (by simp [execOp, h1, ptr, go_sem]; done) { H with k4 := fun _ => rfl }
     ·
      rintro L vs wx r H hl hL ⟨h1, _⟩
      replace h1 : r (.tmp 60) = .pointer (some ⟨q, 20, none⟩) := Eq.trans h1 (H.k4 (hL 4 (by kernel_rfl)))
      have hAP : L 13 = false := met_no H.d13_5 hl
      obtain ⟨gi, bv, hg⟩ := (H.A hAP).1.g
      exact gvo (exg oneSO rfl h1 (rv20 hg.hb)) { H with k5 := fun _ => rfl, d13_5 := fun _ => rfl }
     ·
      rintro L vs wx r H hl hL ⟨h1, _⟩
      replace h1 : r (.tmp 5) = ptr wr.heap.size := h1
      exact gvo (by simp [execOp, h1, ptr, go_sem]; done) { H with k6 := fun _ => rfl }
     ·
      rintro L vs wx r H hl hL ⟨h1, _⟩
      replace h1 : r (.tmp 62) = ptr wr.heap.size := Eq.trans h1 (H.k6 (hL 6 (by kernel_rfl)))
      have h8 : L 8 = false := met_no H.d8_7 hl
      have h11 : L 11 = false := met_no H.d11_8 h8
      have hBS : L 12 = false := met_no H.d12_11 h11
      have hAP : L 13 = false := met_no H.d13_12 hBS
      exact gvo (exg one3 rfl h1 ((H.A hAP).2.1.cell 0)) { H with k7 := fun _ => rfl, d8_7 := fun _ => rfl }
     ·
      rintro L vs wx r H hl hL ⟨h1, h2, _⟩
      replace h1 : r (.tmp 63) = .int .i64 (49154) := Eq.trans h1 (H.k7 (hL 7 (by kernel_rfl)))
      replace h2 : r (.const (.int .i64 49152)) = .int .i64 49152 := h2
      exact gvo (by simp [execOp, h1, h2, go_sem]; decide) { H with k8 := fun _ => rfl, d11_8 := fun _ => rfl, d8_7 := fun _ => hL 7 (by kernel_rfl) }
     ·
      rintro L vs wx r H hl hL ⟨h1, _⟩
      replace h1 : r (.tmp 5) = ptr wr.heap.size := h1
      have hCA : L 10 = false := met_no H.d10_9 hl
      have h11 : L 11 = false := met_no H.d11_10 hCA
      have hBS : L 12 = false := met_no H.d12_11 h11
      have hAP : L 13 = false := met_no H.d13_12 hBS
      exact gvo (exec_loadW rowP rfl h1 (H.A hAP).2.1 rfl) { H with k9 := fun _ => rfl, d10_9 := fun _ => rfl }
     ·
      rintro L vs wx r H hl hL ⟨h1, h2, _⟩
      replace h1 : r (.func 96) = .func (.func 96) #[] #[] := h1
      replace h2 : r (.tmp 65) = .agg #[.int .i64 (49154), .slice ua l uc] := Eq.trans h2 (H.k9 (hL 9 (by kernel_rfl)))
      have h11 : L 11 = false := met_no H.d11_10 hl
      have hBS : L 12 = false := met_no H.d12_11 h11
      have hAP : L 13 = false := met_no H.d13_12 hBS
      have hST : L 17 = false := met_no H.d17_13 hAP
      refine give_func #[.agg #[.int .i64 (49154), .slice ua l uc]] rfl h1 Try.call96 (by simp [h2]) ?_
      refine (addrOf_any (H.A hAP).2.2 HM.out).mono ?_
      rintro e w' ⟨rfl, he⟩
      exact ⟨_, rfl, { H with A := fun _ => ⟨(H.A hAP).1.grow he, (H.A hAP).2.1.ext he, (H.A hAP).2.2.ext he⟩, P := H.P.ext he, B := fun h => absurd (h.symm.trans hAP) (by decide), C := fun h => absurd (h.symm.trans hST) (by decide), S := fun h => absurd (h.symm.trans hBS) (by decide), k10 := fun _ => rfl, d10_9 := fun _ => hL 9 (by kernel_rfl), d11_10 := fun _ => rfl }⟩
     ·
      rintro L vs wx r H hl hL ⟨h1, h2, _⟩
      replace h1 : r (.tmp 64) = .int .i64 ((49154) - 49152) := Eq.trans h1 (H.k8 (hL 8 (by kernel_rfl)))
      replace h2 : r (.tmp 66) = .int .i64 (addrV m) := Eq.trans h2 (H.k10 (hL 10 (by kernel_rfl)))
      refine gvo (v := .agg #[.int .i64 ((49154) - 49152), .int .i64 (addrV m)]) (w' := wx) ?_ { H with k11 := fun _ => rfl, d12_11 := fun _ => rfl, d11_10 := fun _ => hL 10 (by kernel_rfl), d11_8 := fun _ => hL 8 (by kernel_rfl) }
      have hb := run_build (P := Try.prog) wx 69 #[(0, .int .i64 ((49154) - 49152)), (1, .int .i64 (addrV m))] #[.int .i64 ((49154) - 49152), .int .i64 (addrV m)] (by kernel_rfl)
      simp only [Int.reduceSub] at hb
      simp [execOp, h1, h2, hb]
     ·
      rintro L vs wx r H hl hL ⟨h1, _⟩
      replace h1 : r (.tmp 67) = .agg #[.int .i64 ((49154) - 49152), .int .i64 (addrV m)] := Eq.trans h1 (H.k11 (hL 11 (by kernel_rfl)))
      have hAP : L 13 = false := met_no H.d13_12 hl
      have hST : L 17 = false := met_no H.d17_13 hAP
      exact give_one_pair rfl prO h1 { H with A := fun h => ⟨(H.A h).1.grow (Ext.alloc _ _), (H.A h).2.1.ext (Ext.alloc _ _), (H.A h).2.2.ext (Ext.alloc _ _)⟩, P := H.P.ext (Ext.alloc _ _), B := fun h => absurd (h.symm.trans hAP) (by decide), C := fun h => absurd (h.symm.trans hST) (by decide), S := fun _ _ => pairs_one wx (_, _) _, d13_12 := fun _ => rfl, d12_11 := fun _ => hL 11 (by kernel_rfl) }
     ·
      rintro L vs wx r H hl hL ⟨h1, h2, _⟩
      have hST : L 17 = false := met_no H.d17_13 hl
      replace h1 : r (.tmp 61) = .slice s.oA s.oN s.oC := Eq.trans h1 (H.k5 (hL 5 (by kernel_rfl)))
      replace h2 : r (.tmp 68) = vs 12 := h2
      exact give_app_o (H.A hl).1 (H.S (hL 12 (by kernel_rfl)) hl) HLn.out HFp.out rfl h1 h2 (fun ad n cap w' gi bv hf hkk => { H with A := fun h => absurd h (by simp [met1]), P := H.P.butR (g := 0) (H.A hl).1.own.o.1 (by decide) (by decide) hkk, B := fun _ _ => ⟨ad, n, cap, gi, bv, rfl, hf⟩, C := fun h => absurd (h.symm.trans hST) (by decide), S := fun _ h => absurd h (by simp [met1]), d13_5 := fun _ => hL 5 (by kernel_rfl), d13_12 := fun _ => hL 12 (by kernel_rfl), d17_13 := fun _ => rfl })
     ·
      rintro L vs wx r H hl hL ⟨h1, _⟩
      replace h1 : r (.tmp 56) = ptr q := Eq.trans h1 (H.k0 (hL 0 (by kernel_rfl)))
      exact gvo (by simp [execOp, h1, ptr, go_sem]; done) { H with k14 := fun _ => rfl }
     ·
      rintro L vs wx r H hl hL ⟨h1, _⟩
      replace h1 : r (.tmp 70) = ptr q := Eq.trans h1 (H.k14 (hL 14 (by kernel_rfl)))
      exact gvo (by simp [execOp, h1, ptr, go_sem]; done) { H with k15 := fun _ => rfl }
     ·
      rintro L vs wx r H hl hL ⟨h1, _⟩
      replace h1 : r (.tmp 71) = ptr q := Eq.trans h1 (H.k15 (hL 15 (by kernel_rfl)))
      exact gvo (by simp [execOp, h1, ptr, go_sem]; done) { H with k16 := fun _ => rfl }
     ·
      rintro L vs wx r H hl hL ⟨h1, h2, _⟩
      replace h1 : r (.tmp 72) = .pointer (some ⟨q, 20, none⟩) := Eq.trans h1 (H.k16 (hL 16 (by kernel_rfl)))
      obtain ⟨ad, n, cap, gi, bv, e, hf⟩ := H.B (hL 13 (by kernel_rfl)) hl
      replace h2 : r (.tmp 69) = .slice ad n cap := Eq.trans h2 e
      have hk : KeepBut (· = q) wx (wx.setCell ⟨q, 20, none⟩ (.slice ad n cap)) := ⟨rfl, rfl, rfl, by simp, fun k _ hk => block_other hk 20 _⟩
      exact give_skip (exec_set oneSO rfl h1 h2 rfl rfl hf.hb (show 20 < (RV d s (ptr gi)).size from (by decide : 20 < 23))) { H with A := fun h => absurd (h.symm.trans (hL 13 (by kernel_rfl))) (by decide), P := H.P.butB hf.hb (by decide) (by decide) hk, B := fun _ h => absurd h (by simp [met1]), C := fun _ => ⟨_, hf.store (fun z => rfl)⟩, S := fun _ h => absurd (h.symm.trans (hL 13 (by kernel_rfl))) (by decide), d17_13 := fun _ => hL 13 (by kernel_rfl) }
    ·
     intro vs2 a2 w8 H ha2
     obtain ⟨s2, hr2⟩ := H.C rfl
     have HR8 : Hid (RS w0 w8 q _ s2 V sE ∧ OwnL 138 w8 w0.heap.size (.slice (some ⟨b, 0, none⟩) N lc) Lp) := ⟨hr2, H.P⟩
     clear hr2 H
     simp only [putAll, Act.put, Nat.zero_add, Nat.reduceAdd, List.setIfInBounds_toArray, List.set_cons_succ, List.set_cons_zero] at ha2
     subst ha2
     go_wp2
     go_roundg (N - (k + 1))
     case measure => omega
     case rel => exact ⟨k + 1, s2, by omega, rfl, by simp, by rw [HT.out, parsT_app, parsT_one, ← HD0.out, parK_o (by decide)]; exact HR8.out⟩
   by_cases n7 : K = 49156
   ·
    subst n7
    go_wp2_with (first
     | (have q_ := hb6; clear q_; refine wl_store (D := #[.int .i64 (49156), .slice ua l uc]) rfl rowP rfl rfl rfl hb6 rfl rfl (one_par _ _ rfl) ?_; intro w7 hb7 hk7 hx; clear hx; have he7 : Ext wr w7 := he6.of_but hk7 (fun k e => by subst e; exact Nat.le_refl _); have HR : Hid (RS w0 w7 q d s V sE ∧ Blk w7 wr.heap.size #[.int .i64 (49156), .slice ua l uc] 138 ∧ BytesAt w7 (.slice ua l uc) m ∧ OwnL 138 w7 w0.heap.size (.slice (some ⟨b, 0, none⟩) N lc) Lp) := ⟨HRl.out.1.grow he7, hb7, HOu.out.bytes.ext he7, HRl.out.2.ext he7⟩; have HO7 : Hid (OB w7 w0.heap.size (.slice ua l uc) m) := HOu.out.ext he7; have x0 : w7.cell? ⟨wr.heap.size, 0, none⟩ = some (.int .i64 (49156)) := hb7.cell 0; have x1 : w7.cell? ⟨wr.heap.size, 1, none⟩ = some (.slice ua l uc) := hb7.cell 1; clear hb6 hb7 hk7 he7 he6 hc0 hc1)
     | (refine wl_alloc rfl rfl zeroP ?_; intro w6 hb6 he6 hx; clear hx)
     | (refine wl_loadP rfl rowP rfl rfl hc0 hc1 ?_))
    have HLn : Hid (d.ops.length ≤ 100000) := HLs.out.2
    have HFp : Hid (W64 ((49156 : Int) - 49152) ∧ W64 (addrV m)) := ⟨by unfold W64; decide, HW.out⟩
    have HKw : IntKind.i64.wrap ((49156 : Int) - 49152) = 49156 - 49152 := by decide
    refine wp_region_W (ParsO w0 q wr.heap.size V d s sE (49156) (.slice ua l uc) m (.slice (some ⟨b, 0, none⟩) N lc) Lp) (fun t => bif Nat.ble 56 t && Nat.ble t 72 then some (t - 56) else none) 74 rfl (by kernel_rfl) rfl (fun vs => ⟨fun _ => ⟨HR.out.1.grow (Ext.drew _), HR.out.2.1.ext (Ext.drew _), HR.out.2.2.1.ext (Ext.drew _)⟩, HR.out.2.2.2.ext (Ext.drew _), fun h => by simp at h, fun h => by simp at h, fun h => by simp at h, fun h => by simp at h, fun h => by simp at h, fun h => by simp at h, fun h => by simp at h, fun h => by simp at h, fun h => by simp at h, fun h => by simp at h, fun h => by simp at h, fun h => by simp at h, fun h => by simp at h, fun h => by simp at h, fun h => by simp at h, fun h => by simp at h, fun h => by simp at h, fun h => by simp at h, fun h => by simp at h, fun h => by simp at h, fun h => by simp at h, fun h => by simp at h, fun h => by simp at h, fun h => by simp at h, fun h => by simp at h, fun h => by simp at h⟩) ?_ ?_
    ·
     refine Ow ⟨rfl, ?_⟩ (Ow ⟨rfl, ?_⟩ (Ow ⟨rfl, ?_⟩ (Ow ⟨rfl, ?_⟩ (Ow ⟨rfl, ?_⟩ (Ow ⟨rfl, ?_⟩ (Ow ⟨rfl, ?_⟩ (Ow ⟨rfl, ?_⟩ (Ow ⟨rfl, ?_⟩ (Ow ⟨rfl, ?_⟩ (Ow ⟨rfl, ?_⟩ (Ow ⟨rfl, ?_⟩ (Ow ⟨rfl, ?_⟩ (Ow ⟨rfl, ?_⟩ (Ow ⟨rfl, ?_⟩ (Ow ⟨rfl, ?_⟩ (Ow ⟨rfl, ?_⟩ (Ow ⟨rfl, ?_⟩ OwedVs.nil)))))))))))))))))
     ·
      rintro L vs wx r H hl hL ⟨h1, _⟩
      replace h1 : r (.tmp 0) = ptr q := h1
      exact give_move (.inl rfl) (by rw [h1]; exact { H with k0 := fun _ => rfl })
     ·
      rintro L vs wx r H hl hL ⟨h1, _⟩
      replace h1 : r (.tmp 0) = ptr q := h1
      exact give_move (.inl rfl) (by rw [h1]; exact { H with k1 := fun _ => rfl })
     ·
      rintro L vs wx r H hl hL ⟨h1, _⟩
      replace h1 : r (.tmp 57) = ptr q := Eq.trans h1 (H.k1 (hL 1 (by kernel_rfl)))
      exact gvo (by simp [execOp, h1, ptr, go_sem]; done) { H with k2 := fun _ => rfl }
     ·
      rintro L vs wx r H hl hL ⟨h1, _⟩
      replace h1 : r (.tmp 58) = ptr q := Eq.trans h1 (H.k2 (hL 2 (by kernel_rfl)))
      exact gvo (by simp [execOp, h1, ptr, go_sem]; done) { H with k3 := fun _ => rfl }
     ·
      rintro L vs wx r H hl hL ⟨h1, _⟩
      replace h1 : r (.tmp 59) = ptr q := Eq.trans h1 (H.k3 (hL 3 (by kernel_rfl)))
      exact gvo (by simp [execOp, h1, ptr, go_sem]; done) { H with k4 := fun _ => rfl }
     ·
      rintro L vs wx r H hl hL ⟨h1, _⟩
      replace h1 : r (.tmp 60) = .pointer (some ⟨q, 20, none⟩) := Eq.trans h1 (H.k4 (hL 4 (by kernel_rfl)))
      have hAP : L 13 = false := met_no H.d13_5 hl
      obtain ⟨gi, bv, hg⟩ := (H.A hAP).1.g
      exact gvo (exg oneSO rfl h1 (rv20 hg.hb)) { H with k5 := fun _ => rfl, d13_5 := fun _ => rfl }
     ·
      rintro L vs wx r H hl hL ⟨h1, _⟩
      replace h1 : r (.tmp 5) = ptr wr.heap.size := h1
      exact gvo (by simp [execOp, h1, ptr, go_sem]; done) { H with k6 := fun _ => rfl }
     ·
      rintro L vs wx r H hl hL ⟨h1, _⟩
      replace h1 : r (.tmp 62) = ptr wr.heap.size := Eq.trans h1 (H.k6 (hL 6 (by kernel_rfl)))
      have h8 : L 8 = false := met_no H.d8_7 hl
      have h11 : L 11 = false := met_no H.d11_8 h8
      have hBS : L 12 = false := met_no H.d12_11 h11
      have hAP : L 13 = false := met_no H.d13_12 hBS
      exact gvo (exg one3 rfl h1 ((H.A hAP).2.1.cell 0)) { H with k7 := fun _ => rfl, d8_7 := fun _ => rfl }
     ·
      rintro L vs wx r H hl hL ⟨h1, h2, _⟩
      replace h1 : r (.tmp 63) = .int .i64 (49156) := Eq.trans h1 (H.k7 (hL 7 (by kernel_rfl)))
      replace h2 : r (.const (.int .i64 49152)) = .int .i64 49152 := h2
      exact gvo (by simp [execOp, h1, h2, go_sem]; decide) { H with k8 := fun _ => rfl, d11_8 := fun _ => rfl, d8_7 := fun _ => hL 7 (by kernel_rfl) }
     ·
      rintro L vs wx r H hl hL ⟨h1, _⟩
      replace h1 : r (.tmp 5) = ptr wr.heap.size := h1
      have hCA : L 10 = false := met_no H.d10_9 hl
      have h11 : L 11 = false := met_no H.d11_10 hCA
      have hBS : L 12 = false := met_no H.d12_11 h11
      have hAP : L 13 = false := met_no H.d13_12 hBS
      exact gvo (exec_loadW rowP rfl h1 (H.A hAP).2.1 rfl) { H with k9 := fun _ => rfl, d10_9 := fun _ => rfl }
     ·
      rintro L vs wx r H hl hL ⟨h1, h2, _⟩
      replace h1 : r (.func 96) = .func (.func 96) #[] #[] := h1
      replace h2 : r (.tmp 65) = .agg #[.int .i64 (49156), .slice ua l uc] := Eq.trans h2 (H.k9 (hL 9 (by kernel_rfl)))
      have h11 : L 11 = false := met_no H.d11_10 hl
      have hBS : L 12 = false := met_no H.d12_11 h11
      have hAP : L 13 = false := met_no H.d13_12 hBS
      have hST : L 17 = false := met_no H.d17_13 hAP
      refine give_func #[.agg #[.int .i64 (49156), .slice ua l uc]] rfl h1 Try.call96 (by simp [h2]) ?_
      refine (addrOf_any (H.A hAP).2.2 HM.out).mono ?_
      rintro e w' ⟨rfl, he⟩
      exact ⟨_, rfl, { H with A := fun _ => ⟨(H.A hAP).1.grow he, (H.A hAP).2.1.ext he, (H.A hAP).2.2.ext he⟩, P := H.P.ext he, B := fun h => absurd (h.symm.trans hAP) (by decide), C := fun h => absurd (h.symm.trans hST) (by decide), S := fun h => absurd (h.symm.trans hBS) (by decide), k10 := fun _ => rfl, d10_9 := fun _ => hL 9 (by kernel_rfl), d11_10 := fun _ => rfl }⟩
     ·
      rintro L vs wx r H hl hL ⟨h1, h2, _⟩
      replace h1 : r (.tmp 64) = .int .i64 ((49156) - 49152) := Eq.trans h1 (H.k8 (hL 8 (by kernel_rfl)))
      replace h2 : r (.tmp 66) = .int .i64 (addrV m) := Eq.trans h2 (H.k10 (hL 10 (by kernel_rfl)))
      refine gvo (v := .agg #[.int .i64 ((49156) - 49152), .int .i64 (addrV m)]) (w' := wx) ?_ { H with k11 := fun _ => rfl, d12_11 := fun _ => rfl, d11_10 := fun _ => hL 10 (by kernel_rfl), d11_8 := fun _ => hL 8 (by kernel_rfl) }
      have hb := run_build (P := Try.prog) wx 69 #[(0, .int .i64 ((49156) - 49152)), (1, .int .i64 (addrV m))] #[.int .i64 ((49156) - 49152), .int .i64 (addrV m)] (by kernel_rfl)
      simp only [Int.reduceSub] at hb
      simp [execOp, h1, h2, hb]
     ·
      rintro L vs wx r H hl hL ⟨h1, _⟩
      replace h1 : r (.tmp 67) = .agg #[.int .i64 ((49156) - 49152), .int .i64 (addrV m)] := Eq.trans h1 (H.k11 (hL 11 (by kernel_rfl)))
      have hAP : L 13 = false := met_no H.d13_12 hl
      have hST : L 17 = false := met_no H.d17_13 hAP
      exact give_one_pair rfl prO h1 { H with A := fun h => ⟨(H.A h).1.grow (Ext.alloc _ _), (H.A h).2.1.ext (Ext.alloc _ _), (H.A h).2.2.ext (Ext.alloc _ _)⟩, P := H.P.ext (Ext.alloc _ _), B := fun h => absurd (h.symm.trans hAP) (by decide), C := fun h => absurd (h.symm.trans hST) (by decide), S := fun _ _ => pairs_one wx (_, _) _, d13_12 := fun _ => rfl, d12_11 := fun _ => hL 11 (by kernel_rfl) }
     ·
      rintro L vs wx r H hl hL ⟨h1, h2, _⟩
      have hST : L 17 = false := met_no H.d17_13 hl
      replace h1 : r (.tmp 61) = .slice s.oA s.oN s.oC := Eq.trans h1 (H.k5 (hL 5 (by kernel_rfl)))
      replace h2 : r (.tmp 68) = vs 12 := h2
      exact give_app_o (H.A hl).1 (H.S (hL 12 (by kernel_rfl)) hl) HLn.out HFp.out rfl h1 h2 (fun ad n cap w' gi bv hf hkk => { H with A := fun h => absurd h (by simp [met1]), P := H.P.butR (g := 0) (H.A hl).1.own.o.1 (by decide) (by decide) hkk, B := fun _ _ => ⟨ad, n, cap, gi, bv, rfl, hf⟩, C := fun h => absurd (h.symm.trans hST) (by decide), S := fun _ h => absurd h (by simp [met1]), d13_5 := fun _ => hL 5 (by kernel_rfl), d13_12 := fun _ => hL 12 (by kernel_rfl), d17_13 := fun _ => rfl })
     ·
      rintro L vs wx r H hl hL ⟨h1, _⟩
      replace h1 : r (.tmp 56) = ptr q := Eq.trans h1 (H.k0 (hL 0 (by kernel_rfl)))
      exact gvo (by simp [execOp, h1, ptr, go_sem]; done) { H with k14 := fun _ => rfl }
     ·
      rintro L vs wx r H hl hL ⟨h1, _⟩
      replace h1 : r (.tmp 70) = ptr q := Eq.trans h1 (H.k14 (hL 14 (by kernel_rfl)))
      exact gvo (by simp [execOp, h1, ptr, go_sem]; done) { H with k15 := fun _ => rfl }
     ·
      rintro L vs wx r H hl hL ⟨h1, _⟩
      replace h1 : r (.tmp 71) = ptr q := Eq.trans h1 (H.k15 (hL 15 (by kernel_rfl)))
      exact gvo (by simp [execOp, h1, ptr, go_sem]; done) { H with k16 := fun _ => rfl }
     ·
      rintro L vs wx r H hl hL ⟨h1, h2, _⟩
      replace h1 : r (.tmp 72) = .pointer (some ⟨q, 20, none⟩) := Eq.trans h1 (H.k16 (hL 16 (by kernel_rfl)))
      obtain ⟨ad, n, cap, gi, bv, e, hf⟩ := H.B (hL 13 (by kernel_rfl)) hl
      replace h2 : r (.tmp 69) = .slice ad n cap := Eq.trans h2 e
      have hk : KeepBut (· = q) wx (wx.setCell ⟨q, 20, none⟩ (.slice ad n cap)) := ⟨rfl, rfl, rfl, by simp, fun k _ hk => block_other hk 20 _⟩
      exact give_skip (exec_set oneSO rfl h1 h2 rfl rfl hf.hb (show 20 < (RV d s (ptr gi)).size from (by decide : 20 < 23))) { H with A := fun h => absurd (h.symm.trans (hL 13 (by kernel_rfl))) (by decide), P := H.P.butB hf.hb (by decide) (by decide) hk, B := fun _ h => absurd h (by simp [met1]), C := fun _ => ⟨_, hf.store (fun z => rfl)⟩, S := fun _ h => absurd (h.symm.trans (hL 13 (by kernel_rfl))) (by decide), d17_13 := fun _ => hL 13 (by kernel_rfl) }
    ·
     intro vs2 a2 w8 H ha2
     obtain ⟨s2, hr2⟩ := H.C rfl
     have HR8 : Hid (RS w0 w8 q _ s2 V sE ∧ OwnL 138 w8 w0.heap.size (.slice (some ⟨b, 0, none⟩) N lc) Lp) := ⟨hr2, H.P⟩
     clear hr2 H
     simp only [putAll, Act.put, Nat.zero_add, Nat.reduceAdd, List.setIfInBounds_toArray, List.set_cons_succ, List.set_cons_zero] at ha2
     subst ha2
     go_wp2
     go_roundg (N - (k + 1))
     case measure => omega
     case rel => exact ⟨k + 1, s2, by omega, rfl, by simp, by rw [HT.out, parsT_app, parsT_one, ← HD0.out, parK_o (by decide)]; exact HR8.out⟩
   have e1 : (K == 32770) = false := beq_false_of_ne n1
   have e2 : (K == 5) = false := beq_false_of_ne n2
   have e3 : (K == 1) = false := beq_false_of_ne n3
   have e4 : (K == 7) = false := beq_false_of_ne n4
   have e5 : (K == 49153) = false := beq_false_of_ne n5
   have e6 : (K == 49154) = false := beq_false_of_ne n6
   have e7 : (K == 49156) = false := beq_false_of_ne n7
   go_wp2_with (first
    | (have q_ := hb6; clear q_; refine wl_store (D := #[.int .i64 K, .slice ua l uc]) rfl rowP rfl rfl rfl hb6 rfl rfl (one_par _ _ rfl) ?_; intro w7 hb7 hk7 hx; clear hx; have he7 : Ext wr w7 := he6.of_but hk7 (fun k e => by subst e; exact Nat.le_refl _); have HR : Hid (RS w0 w7 q d s V sE ∧ Blk w7 wr.heap.size #[.int .i64 K, .slice ua l uc] 138 ∧ BytesAt w7 (.slice ua l uc) m ∧ OwnL 138 w7 w0.heap.size (.slice (some ⟨b, 0, none⟩) N lc) Lp) := ⟨HRl.out.1.grow he7, hb7, HOu.out.bytes.ext he7, HRl.out.2.ext he7⟩; have HO7 : Hid (OB w7 w0.heap.size (.slice ua l uc) m) := HOu.out.ext he7; have x0 : w7.cell? ⟨wr.heap.size, 0, none⟩ = some (.int .i64 K) := hb7.cell 0; have x1 : w7.cell? ⟨wr.heap.size, 1, none⟩ = some (.slice ua l uc) := hb7.cell 1; clear hb6 hb7 hk7 he7 he6 hc0 hc1)
    | (refine wl_alloc rfl rfl zeroP ?_; intro w6 hb6 he6 hx; clear hx)
    | (refine wl_loadP rfl rowP rfl rfl hc0 hc1 ?_))
   go_roundg (N - (k + 1))
   case measure => omega
   case rel => exact ⟨k + 1, s, by omega, rfl, by simp, by rw [HT.out, parsT_app, parsT_one, ← HD0.out, parK_no n1 n2 n3 n4 n5 n6 n7]; exact ⟨HR.out.1, HR.out.2.2.2⟩⟩
  ·
   have hd : decide ((k : Int) < (N : Int)) = false := decide_eq_false (by omega)
   have e : Lp.take k = Lp := List.take_of_length_le (by rw [← HN.out]; omega)
   rw [e] at HRl
   go_wp2
   go_end0
   exact ⟨⟨_, rfl⟩, _, _, HRl.out.1⟩
structure Turns (B : Nat) (K Z : List Nat) (a b : World) : Prop where
 os : b.os = a.os
 tape : b.tape = a.tape
 output : b.output = a.output
 size : a.heap.size ≤ b.heap.size
 block : ∀ g, g < a.heap.size → b.heap[g]? = a.heap[g]? ∨ (B ≤ g ∧ ∃ C C' : Array Value, a.heap[g]? = some (.cells C 5 (0, 0)) ∧ b.heap[g]? = some (.cells C' 5 (0, 0)) ∧ C'.size = C.size ∧ C.toList.take K.length = cellsB K ∧ C'.toList.take (K ++ Z).length = cellsB (K ++ Z))
theorem Turns.refl {B : Nat} {K Z : List Nat} (w : World) : Turns B K Z w w := ⟨rfl, rfl, rfl, Nat.le_refl _, fun _ _ => .inl rfl⟩
theorem Turns.trans {B : Nat} {K Z : List Nat} {a b c : World} (h : Turns B K Z a b) (k : Turns B K Z b c) : Turns B K Z a c := by
 refine ⟨k.os.trans h.os, k.tape.trans h.tape, k.output.trans h.output, Nat.le_trans h.size k.size, fun g hg => ?_⟩
 rcases h.block g hg with e1 | ⟨hB, C, C', a1, a2, a3, a4, a5⟩
 ·
  rcases k.block g (Nat.lt_of_lt_of_le hg h.size) with e2 | ⟨hB, D, D', b1, b2, b3, b4, b5⟩
  ·
   exact .inl (e2.trans e1)
  ·
   exact .inr ⟨hB, D, D', by rw [← e1]; exact b1, b2, b3, b4, b5⟩
 ·
  rcases k.block g (Nat.lt_of_lt_of_le hg h.size) with e2 | ⟨_, D, D', b1, b2, b3, b4, b5⟩
  ·
   exact .inr ⟨hB, C, C', a1, e2.trans a2, a3, a4, a5⟩
  ·
   rw [a2] at b1
   simp only [Option.some.injEq, Obj.cells.injEq, and_true] at b1
   subst b1
   exact .inr ⟨hB, C, D', a1, b2, b3.trans a3, a4, b5⟩
theorem Turns.ext {B : Nat} {K Z : List Nat} {a b : World} (h : Turns B K Z a b) (hB : a.heap.size ≤ B) : Ext a b :=
 ⟨h.os, h.tape, h.output, h.size, fun g hg => by
  rcases h.block g hg with e | ⟨hb, _⟩
  ·
   exact e
  ·
   omega⟩
end Tlv
end Go.Proofs.Ytigocaconkbalaa
namespace Go.Proofs.Ytigocaconkbalaa
open Go
section
variable {P : Program} {mk : Tmp → Option Nat} {init : List Oper} {ol : Oper} {a0 : Act} {R : World → World → Prop} {V : Nat → World → Value → Prop} {w0 : World} {Q : Exit → Act → World → Prop} {n : Nat}
end
end Go.Proofs.Ytigocaconkbalaa
namespace Go.Proofs.Ytigocaconkbalaa
namespace Tlv
open Go Go.RowKit
structure Gr (B : Nat) (K F : List Nat) (a b : World) : Prop where
 os : b.os = a.os
 tape : b.tape = a.tape
 output : b.output = a.output
 size : a.heap.size ≤ b.heap.size
 block : ∀ g, g < a.heap.size → b.heap[g]? = a.heap[g]? ∨ (B ≤ g ∧ ∃ C C' : Array Value, a.heap[g]? = some (.cells C 5 (0, 0)) ∧ b.heap[g]? = some (.cells C' 5 (0, 0)) ∧ C'.size = C.size ∧ C.toList.take K.length = cellsB K ∧ ∀ l, l <+: F → C.toList.take l.length = cellsB l → C'.toList.take l.length = cellsB l)
theorem Gr.refl {B : Nat} {K F : List Nat} (w : World) : Gr B K F w w := ⟨rfl, rfl, rfl, Nat.le_refl _, fun _ _ => .inl rfl⟩
theorem Gr.trans {B : Nat} {K F : List Nat} {a b c : World} (h : Gr B K F a b) (k : Gr B K F b c) : Gr B K F a c := by
 refine ⟨k.os.trans h.os, k.tape.trans h.tape, k.output.trans h.output, Nat.le_trans h.size k.size, fun g hg => ?_⟩
 rcases h.block g hg with e1 | ⟨hB, C, C', a1, a2, a3, a4, a5⟩
 ·
  rcases k.block g (Nat.lt_of_lt_of_le hg h.size) with e2 | ⟨hB, D, D', b1, b2, b3, b4, b5⟩
  ·
   exact .inl (e2.trans e1)
  ·
   exact .inr ⟨hB, D, D', by rw [← e1]; exact b1, b2, b3, b4, b5⟩
 ·
  rcases k.block g (Nat.lt_of_lt_of_le hg h.size) with e2 | ⟨_, D, D', b1, b2, b3, b4, b5⟩
  ·
   exact .inr ⟨hB, C, C', a1, e2.trans a2, a3, a4, a5⟩
  ·
   rw [a2] at b1
   simp only [Option.some.injEq, Obj.cells.injEq, and_true] at b1
   subst b1
   exact .inr ⟨hB, C, D', a1, b2, b3.trans a3, a4, fun l hl ht => b5 l hl (a5 l hl ht)⟩
theorem Gr.extO {B : Nat} {K F : List Nat} {w a b : World} (h : Gr B K F a b) (he : Ext w a) (hB : w.heap.size ≤ B) : Ext w b :=
 ⟨h.os.trans he.os, h.tape.trans he.tape, h.output.trans he.output, Nat.le_trans he.size h.size, fun g hg => by
  rcases h.block g (Nat.lt_of_lt_of_le hg he.size) with e | ⟨hb, _⟩
  ·
   exact e.trans (he.block g hg)
  ·
   omega⟩
theorem Gr.blk {B : Nat} {K F : List Nat} {a b : World} (h : Gr B K F a b) {g t : Nat} {C : Array Value} (hb : Blk a g C t) (ht : t ≠ 5) : Blk b g C t := by
 rcases h.block g hb.lt with e | ⟨_, D, D', a1, _⟩
 ·
  exact e.trans hb
 ·
  have : some (Obj.cells C t (0, 0)) = some (.cells D 5 (0, 0)) := hb.symm.trans a1
  simp only [Option.some.injEq, Obj.cells.injEq] at this
  exact absurd this.2.1 ht
theorem be_one {n : Nat} (h : n < 256) : be n 1 = [n] := by
 simp only [be, Nat.pow_zero, Nat.div_one]
 rw [Nat.mod_eq_of_lt h]
def ValQ (w0 w : World) (u : Value) (m : List Nat) : Prop := OB w w0.heap.size u m ∨ BytesAt w0 u m
theorem ValQ.bytes {w0 w : World} {u : Value} {m : List Nat} (h : ValQ w0 w u m) (he : Ext w0 w) : BytesAt w u m := by
 rcases h with h | h
 ·
  exact h.bytes
 ·
  exact h.ext he
theorem ValQ.form {w0 w : World} {u : Value} {m : List Nat} (h : ValQ w0 w u m) : ∃ a c, u = .slice a m.length c := by
 rcases h with h | h
 ·
  exact h.form
 ·
  obtain ⟨a, c, e, _⟩ := h.form
  exact ⟨a, c, e⟩
theorem ValQ.ext {w0 w w' : World} {u : Value} {m : List Nat} (h : ValQ w0 w u m) (he : Ext w w') : ValQ w0 w' u m := h.imp (fun h => h.ext he) id
structure OwnQ (e : TypeId) (w0 w : World) (v : Value) (L : List Par) : Prop where
 it : ∃ M : List (Par × Value), L = M.map (·.1) ∧ w.ownsRow w0.heap.size e 2 v M.length (pc M) ∧ ∀ m ∈ M, ValQ w0 w m.2 m.1.2
theorem OwnQ.nil (e : TypeId) (w0 w : World) : OwnQ e w0 w (.slice none 0 0) [] := ⟨[], rfl, World.ownsRow_nil _ _ _ _, fun m hm => by cases hm⟩
theorem OwnQ.lt {e : TypeId} {w0 w : World} {v : Value} {L : List Par} (h : OwnQ e w0 w v L) {g : Nat} (hg : v.ownBlock = some g) : w0.heap.size ≤ g ∧ ∃ C, Blk w g C e := by
 obtain ⟨M, _, hr, _⟩ := h
 rcases hr.2 with ⟨rfl, _⟩ | ⟨g', cap, cur, rfl, hb, hgb, _⟩
 ·
  cases hg
 ·
  cases hg; exact ⟨hb, cur, hgb⟩
theorem OwnQ.ext {e : TypeId} {w0 w w' : World} {v : Value} {L : List Par} (h : OwnQ e w0 w v L) (he : Ext w w') : OwnQ e w0 w' v L := by
 obtain ⟨M, hM, hr, ho⟩ := id h.it
 exact ⟨M, hM, ownsRow_but hr (KeepBut.ext (S := fun _ => False) he) (fun _ _ h => h), fun m hm => (ho m hm).ext he⟩
theorem OwnQ.form {e : TypeId} {w0 w : World} {v : Value} {L : List Par} (h : OwnQ e w0 w v L) : ∃ a cap, v = .slice a L.length cap := by
 obtain ⟨M, rfl, hr, _⟩ := h
 rw [List.length_map]
 rcases hr.2 with ⟨rfl, h0⟩ | ⟨g, cap, cur, rfl, _⟩
 ·
  exact ⟨none, 0, by rw [h0]⟩
 ·
  exact ⟨_, _, rfl⟩
theorem OwnQ.ne {e t : TypeId} {w0 w : World} {v : Value} {L : List Par} {g : Nat} {C : Array Value} (h : OwnQ e w0 w v L) (hb : Blk w g C t) (ht : t ≠ e) : v.ownBlock ≠ some g := fun hq => by
 obtain ⟨_, D, hD⟩ := h.lt hq
 unfold Blk at hb hD
 rw [hb] at hD
 simp only [Option.some.injEq, Obj.cells.injEq, and_true] at hD
 exact ht hD.2
def afterSeq : Nat → Code → Code
 | 0, c => c
 | n + 1, .seq _ b => afterSeq n b
 | _ + 1, c => c
end Tlv
end Go.Proofs.Ytigocaconkbalaa
