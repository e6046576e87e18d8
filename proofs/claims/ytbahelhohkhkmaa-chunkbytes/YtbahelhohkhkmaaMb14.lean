/- Texts of the seat, one behind the other. No condition of its own. -/
import Derived.Test.YtbahelhohkhkmaaMb13
set_option linter.unusedVariables false
set_option linter.unusedSimpArgs false
/- A reader: parameters, what is read of a value, of a chunk's bytes. No condition of its own. -/
namespace Go.Proofs.Ytbahelhohkhkmaa
namespace Tlv
open Go Go.RowKit
set_option maxRecDepth 100000
theorem wl_setRk {w0 w : World} {q : Nat} {c : Ck} {s : Sv} {B : List Nat} {st : Option Nat} (h : RS w0 w q c s B st) {ops : Array Oper} {rest : List Oper} {o : Oper} {a : Act} {Q : Exit → Act → World → Prop} (hgd : o.guard = none) {t : TypeId} (hT : OneT Try.prog t) {x y : Operand} (j : Nat) {v : Value} (ho : o.op = .store t x y) (hx : a.eval x = .pointer (some ⟨q, j, none⟩)) (hy : a.eval y = v) (hv : v.cells = #[v]) (h1 : v.oneCell' = true) (hj : j < 23) (c' : Ck) (s' : Sv) (hset : ∀ z, (RV c s z).setIfInBounds j v = RV c' s' z) (hown : OwnC w w0.heap.size s' c') (hfit : Fit c')
  (hk : ∀ w', RS w0 w' q c' s' B st → (∃ C, Blk w q C 91) → KeepBut (· = q) w w' → wpList Try.prog ops Q rest (a.put o.dst undef) w') : wpList Try.prog ops Q (o :: rest) a w := by
 obtain ⟨gi, bv, hb, hq, hl, hi⟩ := h.rd
 refine wl_set hgd hT ho hx hy hv h1 hb (show j < (RV c s (ptr gi)).size from hj) ?_
 intro w' hb' hk' _
 rw [hset] at hb'
 exact hk w' (h.put hb hq hl hi hb' hk' hown hfit) ⟨_, hb⟩ hk'
theorem parsT_one (d : Ck) (p : Par) : parsT d [p] = parK d p := rfl
theorem parK_r (d : Ck) (m : List Nat) : parK d (32770, m) = { d with rand := m } := by simp [parK]
theorem parK_a (d : Ck) (m : List Nat) : parK d (5, m) = { d with addrs := d.addrs ++ [addrV m] } := by simp [parK]
theorem parK_1 (d : Ck) (m : List Nat) : parK d (1, m) = { d with info := m } := by simp [parK]
theorem parK_7 (d : Ck) (m : List Nat) : parK d (7, m) = { d with info := m } := by simp [parK]
theorem parK_o {K : Int} (h : K = 49153 ∨ K = 49154 ∨ K = 49156) (d : Ck) (m : List Nat) : parK d (K, m) = { d with ops := d.ops ++ [(K - 49152, addrV m)] } := by
 rcases h with rfl | rfl | rfl <;> simp [parK]
theorem parK_no {K : Int} (h1 : K ≠ 32770) (h2 : K ≠ 5) (h3 : K ≠ 1) (h4 : K ≠ 7) (h5 : K ≠ 49153) (h6 : K ≠ 49154) (h7 : K ≠ 49156) (d : Ck) (m : List Nat) : parK d (K, m) = d := by
 simp [parK, h1, h2, h3, h4, h5, h6, h7]
theorem parK_len (d : Ck) (p : Par) : (parK d p).addrs.length ≤ d.addrs.length + 1 ∧ (parK d p).ops.length ≤ d.ops.length + 1 := by
 unfold parK
 split
 ·
  exact ⟨Nat.le_succ _, Nat.le_succ _⟩
 split
 ·
  exact ⟨by simp, Nat.le_succ _⟩
 split
 ·
  exact ⟨Nat.le_succ _, Nat.le_succ _⟩
 split
 ·
  exact ⟨Nat.le_succ _, by simp⟩
 ·
  exact ⟨Nat.le_succ _, Nat.le_succ _⟩
theorem parsT_len : ∀ (L : List Par) (d : Ck), (parsT d L).addrs.length ≤ d.addrs.length + L.length ∧ (parsT d L).ops.length ≤ d.ops.length + L.length
 | [], d => ⟨Nat.le_refl _, Nat.le_refl _⟩
 | p :: L, d => by
  have h1 := parK_len d p
  have h2 := parsT_len L (parK d p)
  have e : parsT d (p :: L) = parsT (parK d p) L := rfl
  rw [e, List.length_cons]
  omega
theorem readAll_val : ∀ (n : Nat) (b : List Nat) (L : List Par), b.length ≤ n → readAll b = some L → ∀ p ∈ L, p.2.length ≤ b.length := by
 intro n
 induction n with
 | zero =>
  intro b L hb h p hp
  have : b = [] := List.eq_nil_of_length_eq_zero (by omega)
  subst this
  rw [readAll_nil] at h
  cases h
  cases hp
 | succ n ih =>
  intro b L hb h p hp
  by_cases h0 : b = []
  ·
   subst h0; rw [readAll_nil] at h; cases h; cases hp
  cases hk : okP b with
  | false => rw [readAll_bad h0 hk] at h; cases h
  | true =>
   rw [readAll_ok h0 hk] at h
   obtain ⟨L2, h2, rfl⟩ := Option.map_eq_some_iff.1 h
   have h4 := allP_pos hk
   rcases List.mem_cons.1 hp with rfl | hp
   ·
    unfold headP; simp only [List.length_drop, List.length_take]; omega
   ·
    have := ih (b.drop (allP b)) L2 (by rw [List.length_drop]; have : 0 < b.length := List.length_pos_iff.2 h0; omega) h2 p hp
    rw [List.length_drop] at this; omega
theorem addrV_w64 {m : List Nat} (h : AllB m) : W64 (addrV m) := w64_num h _ _ (by decide)
set_option maxHeartbeats 16000000 in
theorem paramsR_any {w0 w : World} {q : Nat} {c : Ck} {s : Sv} {V : List Nat} {st : Option Nat} (h : RS w0 w q c s V st) (hV : V.length ≤ 100000) (hc : c.addrs.length = 0 ∧ c.ops.length = 0) :
  Calls Try.prog 81 #[ptr q] w (TookIs w0 q (rdPars c (rdRest V st)) V) := by
 have HRl0 : Hid (RS w0 w q c s V st) := h
 have HX : Hid ((rdRest V st).length ≤ 100000 ∧ V.length ≤ 1000000) := ⟨Nat.le_trans (takeS_len _ _ _) hV, by omega⟩
 obtain ⟨Lp, hLp⟩ : ∃ L, L = (readAll (rdRest V st)).getD [] := ⟨_, rfl⟩
 have hlen : Lp.length ≤ 25000 := by
  rw [hLp]
  cases hr : readAll (rdRest V st) with
  | none => simp
  | some L =>
   have := readAll_len _ _ _ (Nat.le_refl _) hr
   have := HX.out.1
   show L.length ≤ 25000
   omega
 have HLp : Hid (Lp = (readAll (rdRest V st)).getD []) := hLp
 have HC : Hid (c.addrs.length = 0 ∧ c.ops.length = 0) := hc
 obtain ⟨N, hN⟩ : ∃ n, n = Lp.length := ⟨_, rfl⟩
 have HN : Hid (N = Lp.length) := hN
 rw [← hN] at hlen
 obtain ⟨sE, hsE⟩ : ∃ x, x = rdRestS V st := ⟨_, rfl⟩
 unfold rdPars
 rw [← HLp.out]
 clear h hV hc hLp hN
 go_enter Try.func81, Try.ntmps81
 refine wp_seq_k (fun K0 hK => ?_)
 have HK0 := Stop.mk hK
 clear hK
 go_wp2_with (first
  | (have q_ := HR1; clear q_; go_at_call 95; refine (paramsR HO1.out.bytes HX.out.1).mono ?_; rintro e w2 ⟨he2, lv, er, rfl, hL⟩; rw [← HLp.out] at hL; obtain ⟨la, lc, rfl⟩ := hL.form; rw [← HN.out] at hL ⊢; have HR2 : Hid (RS w0 w2 q c s V sE ∧ OwnL 138 w2 w0.heap.size (.slice la N lc) Lp) := ⟨HR1.out.grow he2, hL.base HR1.out.ext.size⟩; clear hL he2)
  | (go_at_call 83; refine (rest_any HRl0.out HX.out.2).mono ?_; rintro e w1 ⟨ra, rc, rfl, ho, hr⟩; rw [← hsE] at hr; have HO1 : Hid (OB w1 w0.heap.size (.slice ra (rdRest V st).length rc) (rdRest V st)) := ho; have HR1 : Hid (RS w0 w1 q c s V sE) := hr; clear hr ho))
 refine HK0.go _ _ ?_
 clear HK0 hsE
 go_wp2
 go_loopg [14] N (fun gm t wr => ∃ (k : Nat) (s : Sv), k ≤ N ∧ gm = N - k ∧ t = .int .i64 (k : Int) ∧ Hid (RS w0 wr q (parsT c (Lp.take k)) s V sE ∧ OwnL 138 wr w0.heap.size (.slice la N lc) Lp))
 case atStart => exact ⟨0, s, Nat.zero_le _, rfl, rfl, HR2.out⟩
 case round =>
  obtain ⟨k, s, hk, rfl, rfl, HRl⟩ := hrel
  by_cases hlt : k < N
  ·
   have hd : decide ((k : Int) < (N : Int)) = true := decide_eq_true (by omega)
   have hkn : (k : Int) < (N : Int) := by omega
   have hkL : k < Lp.length := by rw [← HN.out]; exact hlt
   obtain ⟨b, u, rfl, hc0, hc1, hou⟩ := HRl.out.2.at k hkL
   obtain ⟨p, hp⟩ : ∃ p, p = Lp.getD k (0, []) := ⟨_, rfl⟩
   rw [← hp] at hc0 hou
   have HT : Hid (Lp.take (k + 1) = Lp.take k ++ [p]) := show _ = _ by rw [hp]; exact take_snocD (0, []) hkL
   obtain ⟨K, m⟩ := p
   dsimp only at hc0 hou
   obtain ⟨ua, uc, rfl⟩ := hou.form
   obtain ⟨l, hl⟩ : ∃ l, l = m.length := ⟨_, rfl⟩
   rw [← hl] at hc1 hou
   have hml : m.length ≤ 1000000 := by
    have h0 := HLp.out
    have h1 : (K, m) ∈ Lp := by rw [hp]; exact getD_mem Lp _ k hkL
    cases hr : readAll (rdRest V st) with
    | none => rw [hr] at h0; subst h0; cases h1
    | some L =>
     rw [hr] at h0
     have h2 : (K, m) ∈ L := by rw [show Lp = L from h0] at h1; exact h1
     exact Nat.le_trans (readAll_val _ _ _ (Nat.le_refl _) hr (K, m) h2) (Nat.le_trans HX.out.1 (by decide))
   have HM : Hid (m.length ≤ 1000000) := hml
   have HW : Hid (W64 (addrV m)) := addrV_w64 hou.all
   obtain ⟨d, hd0⟩ : ∃ d, d = parsT c (Lp.take k) := ⟨_, rfl⟩
   have HLs : Hid (d.addrs.length ≤ 100000 ∧ d.ops.length ≤ 100000) := by
    have h1 := parsT_len (Lp.take k) c
    have h2 := HC.out
    rw [← hd0, List.length_take] at h1
    exact ⟨by omega, by omega⟩
   rw [← hd0] at HRl
   have HD0 : Hid (d = parsT c (Lp.take k)) := hd0
   have HOu : Hid (OB wr w0.heap.size (.slice ua l uc) m) := hou
   clear hp hd0 hl hml hou hkL HRl0 HR2 HR1 HO1
   by_cases n1 : K = 32770
   ·
    subst n1
    go_wp2_with (first
     | (have q_ := HR; clear q_; refine wl_setRk HR.out.1 rfl oneS 13 rfl (by first | rfl | go_simp) (by first | rfl | go_simp) rfl rfl (by decide) ({ d with rand := m }) ({ s with rA := ua, rN := l, rC := uc }) (fun z => rfl) ⟨HR.out.1.own.t, HO7.out, HR.out.1.own.a, HR.out.1.own.i, HR.out.1.own.g, HR.out.1.own.d, HR.out.1.own.o⟩ { HR.out.1.fit with } ?_; rintro w8 hr ⟨C8, hb8⟩ hk8; have HR8 : Hid (RS w0 w8 q ({ d with rand := m }) ({ s with rA := ua, rN := l, rC := uc }) V sE ∧ OwnL 138 w8 w0.heap.size (.slice (some ⟨b, 0, none⟩) N lc) Lp) := ⟨hr, HR.out.2.2.2.butB hb8 (by decide) (by decide) hk8⟩; clear hr hb8 hk8)
     | (have q_ := hb6; clear q_; refine wl_store (D := #[.int .i64 (32770), .slice ua l uc]) rfl rowP rfl rfl rfl hb6 rfl rfl (one_par _ _ rfl) ?_; intro w7 hb7 hk7 hx; clear hx; have he7 : Ext wr w7 := he6.of_but hk7 (fun k e => by subst e; exact Nat.le_refl _); have HR : Hid (RS w0 w7 q d s V sE ∧ Blk w7 wr.heap.size #[.int .i64 (32770), .slice ua l uc] 138 ∧ BytesAt w7 (.slice ua l uc) m ∧ OwnL 138 w7 w0.heap.size (.slice (some ⟨b, 0, none⟩) N lc) Lp) := ⟨HRl.out.1.grow he7, hb7, HOu.out.bytes.ext he7, HRl.out.2.ext he7⟩; have HO7 : Hid (OB w7 w0.heap.size (.slice ua l uc) m) := HOu.out.ext he7; have x0 : w7.cell? ⟨wr.heap.size, 0, none⟩ = some (.int .i64 (32770)) := hb7.cell 0; have x1 : w7.cell? ⟨wr.heap.size, 1, none⟩ = some (.slice ua l uc) := hb7.cell 1; clear hb6 hb7 hk7 he7 he6 hc0 hc1)
     | (refine wl_alloc rfl rfl zeroP ?_; intro w6 hb6 he6 hx; clear hx)
     | (refine wl_loadP rfl rowP rfl rfl hc0 hc1 ?_))
    go_roundg (N - (k + 1))
    case measure => omega
    case rel => exact ⟨k + 1, _, by omega, rfl, by simp, by rw [HT.out, parsT_app, parsT_one, ← HD0.out, parK_r]; exact HR8.out⟩
   by_cases n2 : K = 5
   ·
    subst n2
    go_wp2_with (first
     | (have q_ := hb6; clear q_; refine wl_store (D := #[.int .i64 (5), .slice ua l uc]) rfl rowP rfl rfl rfl hb6 rfl rfl (one_par _ _ rfl) ?_; intro w7 hb7 hk7 hx; clear hx; have he7 : Ext wr w7 := he6.of_but hk7 (fun k e => by subst e; exact Nat.le_refl _); have HR : Hid (RS w0 w7 q d s V sE ∧ Blk w7 wr.heap.size #[.int .i64 (5), .slice ua l uc] 138 ∧ BytesAt w7 (.slice ua l uc) m ∧ OwnL 138 w7 w0.heap.size (.slice (some ⟨b, 0, none⟩) N lc) Lp) := ⟨HRl.out.1.grow he7, hb7, HOu.out.bytes.ext he7, HRl.out.2.ext he7⟩; have HO7 : Hid (OB w7 w0.heap.size (.slice ua l uc) m) := HOu.out.ext he7; have x0 : w7.cell? ⟨wr.heap.size, 0, none⟩ = some (.int .i64 (5)) := hb7.cell 0; have x1 : w7.cell? ⟨wr.heap.size, 1, none⟩ = some (.slice ua l uc) := hb7.cell 1; clear hb6 hb7 hk7 he7 he6 hc0 hc1)
     | (refine wl_alloc rfl rfl zeroP ?_; intro w6 hb6 he6 hx; clear hx)
     | (refine wl_loadP rfl rowP rfl rfl hc0 hc1 ?_))
    have HLn : Hid (d.addrs.length ≤ 100000) := HLs.out.1
    have HFp : Hid (W64 (addrV m)) := HW.out
    refine wp_region_W (ParsA w0 q wr.heap.size V d s sE (5) (.slice ua l uc) m (.slice (some ⟨b, 0, none⟩) N lc) Lp) (fun t => bif Nat.ble 30 t && Nat.ble t 42 then some (t - 30) else none) 74 rfl (by kernel_rfl) rfl (fun vs => ⟨fun _ => ⟨HR.out.1.grow (Ext.drew _), HR.out.2.1.ext (Ext.drew _), HR.out.2.2.1.ext (Ext.drew _)⟩, HR.out.2.2.2.ext (Ext.drew _), fun h => by simp at h, fun h => by simp at h, fun h => by simp at h, fun h => by simp at h, fun h => by simp at h, fun h => by simp at h, fun h => by simp at h, fun h => by simp at h, fun h => by simp at h, fun h => by simp at h, fun h => by simp at h, fun h => by simp at h, fun h => by simp at h, fun h => by simp at h, fun h => by simp at h, fun h => by simp at h, fun h => by simp at h, fun h => by simp at h, fun h => by simp at h⟩) ?_ ?_
    ·
     refine Ow ⟨rfl, ?_⟩ (Ow ⟨rfl, ?_⟩ (Ow ⟨rfl, ?_⟩ (Ow ⟨rfl, ?_⟩ (Ow ⟨rfl, ?_⟩ (Ow ⟨rfl, ?_⟩ (Ow ⟨rfl, ?_⟩ (Ow ⟨rfl, ?_⟩ (Ow ⟨rfl, ?_⟩ (Ow ⟨rfl, ?_⟩ (Ow ⟨rfl, ?_⟩ (Ow ⟨rfl, ?_⟩ (Ow ⟨rfl, ?_⟩ (Ow ⟨rfl, ?_⟩ OwedVs.nil)))))))))))))
     ·
      intro L vs wx r H hl hL hx
      obtain ⟨h1, _⟩ := hx
      replace h1 : r (.tmp 0) = ptr q := h1
      exact give_move (.inl rfl) (by rw [h1]; exact ⟨H.A, H.P, H.B, H.C, H.S, fun _ => rfl, H.k1, H.k2, H.k3, H.k4, H.k5, H.k6, H.k7, H.k10, H.k11, H.k12, H.d7_6, H.d9_5, H.d9_8, H.d13_9, H.d8_7⟩)
     ·
      intro L vs wx r H hl hL hx
      obtain ⟨h1, _⟩ := hx
      replace h1 : r (.tmp 0) = ptr q := h1
      exact give_move (.inl rfl) (by rw [h1]; exact ⟨H.A, H.P, H.B, H.C, H.S, H.k0, fun _ => rfl, H.k2, H.k3, H.k4, H.k5, H.k6, H.k7, H.k10, H.k11, H.k12, H.d7_6, H.d9_5, H.d9_8, H.d13_9, H.d8_7⟩)
     ·
      intro L vs wx r H hl hL hx
      obtain ⟨h1, _⟩ := hx
      replace h1 : r (.tmp 31) = ptr q := Eq.trans h1 (H.k1 (hL 1 (by kernel_rfl)))
      exact gvo (by simp [execOp, h1, ptr, go_sem]; done) ⟨H.A, H.P, H.B, H.C, H.S, H.k0, H.k1, fun _ => rfl, H.k3, H.k4, H.k5, H.k6, H.k7, H.k10, H.k11, H.k12, H.d7_6, H.d9_5, H.d9_8, H.d13_9, H.d8_7⟩
     ·
      intro L vs wx r H hl hL hx
      obtain ⟨h1, _⟩ := hx
      replace h1 : r (.tmp 32) = ptr q := Eq.trans h1 (H.k2 (hL 2 (by kernel_rfl)))
      exact gvo (by simp [execOp, h1, ptr, go_sem]; done) ⟨H.A, H.P, H.B, H.C, H.S, H.k0, H.k1, H.k2, fun _ => rfl, H.k4, H.k5, H.k6, H.k7, H.k10, H.k11, H.k12, H.d7_6, H.d9_5, H.d9_8, H.d13_9, H.d8_7⟩
     ·
      intro L vs wx r H hl hL hx
      obtain ⟨h1, _⟩ := hx
      replace h1 : r (.tmp 33) = ptr q := Eq.trans h1 (H.k3 (hL 3 (by kernel_rfl)))
      exact gvo (by simp [execOp, h1, ptr, go_sem]; done) ⟨H.A, H.P, H.B, H.C, H.S, H.k0, H.k1, H.k2, H.k3, fun _ => rfl, H.k5, H.k6, H.k7, H.k10, H.k11, H.k12, H.d7_6, H.d9_5, H.d9_8, H.d13_9, H.d8_7⟩
     ·
      intro L vs wx r H hl hL hx
      obtain ⟨h1, _⟩ := hx
      replace h1 : r (.tmp 34) = .pointer (some ⟨q, 14, none⟩) := Eq.trans h1 (H.k4 (hL 4 (by kernel_rfl)))
      have hAP : L 9 = false := met_no H.d9_5 hl
      obtain ⟨gi, bv, hg⟩ := (H.A hAP).1.g
      exact gvo (exg oneSA rfl h1 (rv14 hg.hb)) ⟨H.A, H.P, H.B, H.C, H.S, H.k0, H.k1, H.k2, H.k3, H.k4, fun _ => rfl, H.k6, H.k7, H.k10, H.k11, H.k12, H.d7_6, fun _ => rfl, H.d9_8, H.d13_9, H.d8_7⟩
     ·
      intro L vs wx r H hl hL hx
      obtain ⟨h1, _⟩ := hx
      replace h1 : r (.tmp 5) = ptr wr.heap.size := h1
      have hCA : L 7 = false := met_no H.d7_6 hl
      have hBS : L 8 = false := met_no H.d8_7 hCA
      have hAP : L 9 = false := met_no H.d9_8 hBS
      exact gvo (exec_loadW rowP rfl h1 (H.A hAP).2.1 rfl) ⟨H.A, H.P, H.B, H.C, H.S, H.k0, H.k1, H.k2, H.k3, H.k4, H.k5, fun _ => rfl, H.k7, H.k10, H.k11, H.k12, fun _ => rfl, H.d9_5, H.d9_8, H.d13_9, H.d8_7⟩
     ·
      intro L vs wx r H hl hL hx
      obtain ⟨h1, h2, _⟩ := hx
      replace h1 : r (.func 96) = .func (.func 96) #[] #[] := h1
      replace h2 : r (.tmp 36) = .agg #[.int .i64 (5), .slice ua l uc] := Eq.trans h2 (H.k6 (hL 6 (by kernel_rfl)))
      have hBS : L 8 = false := met_no H.d8_7 hl
      have hAP : L 9 = false := met_no H.d9_8 hBS
      have hST : L 13 = false := met_no H.d13_9 hAP
      refine give_func #[.agg #[.int .i64 (5), .slice ua l uc]] rfl h1 Try.call96 (by simp [h2]) ?_
      refine (addrOf_any (H.A hAP).2.2 HM.out).mono ?_
      rintro e w' ⟨rfl, he⟩
      exact ⟨_, rfl, ⟨fun _ => ⟨(H.A hAP).1.grow he, (H.A hAP).2.1.ext he, (H.A hAP).2.2.ext he⟩, H.P.ext he, fun h => absurd (h.symm.trans hAP) (by decide), fun h => absurd (h.symm.trans hST) (by decide), fun h => absurd (h.symm.trans hBS) (by decide), H.k0, H.k1, H.k2, H.k3, H.k4, H.k5, H.k6, fun _ => rfl, H.k10, H.k11, H.k12, fun _ => hL 6 (by kernel_rfl), H.d9_5, H.d9_8, H.d13_9, fun _ => rfl⟩⟩
     ·
      intro L vs wx r H hl hL hx
      obtain ⟨h1, _⟩ := hx
      replace h1 : r (.tmp 37) = .int .i64 (addrV m) := Eq.trans h1 (H.k7 (hL 7 (by kernel_rfl)))
      have hAP : L 9 = false := met_no H.d9_8 hl
      have hST : L 13 = false := met_no H.d13_9 hAP
      exact give_one_num rfl numTA h1 ⟨fun h => ⟨(H.A h).1.grow (Ext.alloc _ _), (H.A h).2.1.ext (Ext.alloc _ _), (H.A h).2.2.ext (Ext.alloc _ _)⟩, H.P.ext (Ext.alloc _ _), fun h => absurd (h.symm.trans hAP) (by decide), fun h => absurd (h.symm.trans hST) (by decide), fun _ _ => NumsAt.one wx _ _ _ rfl, H.k0, H.k1, H.k2, H.k3, H.k4, H.k5, H.k6, H.k7, H.k10, H.k11, H.k12, H.d7_6, H.d9_5, fun _ => rfl, H.d13_9, fun _ => hL 7 (by kernel_rfl)⟩
     ·
      intro L vs wx r H hl hL hx
      obtain ⟨h1, h2, _⟩ := hx
      have hST : L 13 = false := met_no H.d13_9 hl
      replace h1 : r (.tmp 35) = .slice s.aA s.aN s.aC := Eq.trans h1 (H.k5 (hL 5 (by kernel_rfl)))
      replace h2 : r (.tmp 38) = vs 8 := h2
      exact give_app_a (H.A hl).1 (H.S (hL 8 (by kernel_rfl)) hl) HLn.out HFp.out rfl h1 h2 (fun ad n cap w' gi bv hf hkk => ⟨fun h => absurd h (by simp [met1]), H.P.butR (g := 0) (H.A hl).1.own.a.1 (by decide) (by decide) hkk, fun _ _ => ⟨ad, n, cap, gi, bv, rfl, hf⟩, fun h => absurd (h.symm.trans hST) (by decide), fun _ h => absurd h (by simp [met1]), H.k0, H.k1, H.k2, H.k3, H.k4, H.k5, H.k6, H.k7, H.k10, H.k11, H.k12, H.d7_6, fun _ => hL 5 (by kernel_rfl), fun _ => hL 8 (by kernel_rfl), fun _ => rfl, H.d8_7⟩)
     ·
      intro L vs wx r H hl hL hx
      obtain ⟨h1, _⟩ := hx
      replace h1 : r (.tmp 30) = ptr q := Eq.trans h1 (H.k0 (hL 0 (by kernel_rfl)))
      exact gvo (by simp [execOp, h1, ptr, go_sem]; done) ⟨H.A, H.P, H.B, H.C, H.S, H.k0, H.k1, H.k2, H.k3, H.k4, H.k5, H.k6, H.k7, fun _ => rfl, H.k11, H.k12, H.d7_6, H.d9_5, H.d9_8, H.d13_9, H.d8_7⟩
     ·
      intro L vs wx r H hl hL hx
      obtain ⟨h1, _⟩ := hx
      replace h1 : r (.tmp 40) = ptr q := Eq.trans h1 (H.k10 (hL 10 (by kernel_rfl)))
      exact gvo (by simp [execOp, h1, ptr, go_sem]; done) ⟨H.A, H.P, H.B, H.C, H.S, H.k0, H.k1, H.k2, H.k3, H.k4, H.k5, H.k6, H.k7, H.k10, fun _ => rfl, H.k12, H.d7_6, H.d9_5, H.d9_8, H.d13_9, H.d8_7⟩
     ·
      intro L vs wx r H hl hL hx
      obtain ⟨h1, _⟩ := hx
      replace h1 : r (.tmp 41) = ptr q := Eq.trans h1 (H.k11 (hL 11 (by kernel_rfl)))
      exact gvo (by simp [execOp, h1, ptr, go_sem]; done) ⟨H.A, H.P, H.B, H.C, H.S, H.k0, H.k1, H.k2, H.k3, H.k4, H.k5, H.k6, H.k7, H.k10, H.k11, fun _ => rfl, H.d7_6, H.d9_5, H.d9_8, H.d13_9, H.d8_7⟩
     ·
      intro L vs wx r H hl hL hx
      obtain ⟨h1, h2, _⟩ := hx
      replace h1 : r (.tmp 42) = .pointer (some ⟨q, 14, none⟩) := Eq.trans h1 (H.k12 (hL 12 (by kernel_rfl)))
      obtain ⟨ad, n, cap, gi, bv, e, hf⟩ := H.B (hL 9 (by kernel_rfl)) hl
      replace h2 : r (.tmp 39) = .slice ad n cap := Eq.trans h2 e
      have hk : KeepBut (· = q) wx (wx.setCell ⟨q, 14, none⟩ (.slice ad n cap)) := ⟨rfl, rfl, rfl, by simp, fun k _ hk => block_other hk 14 _⟩
      exact give_skip (exec_set oneSA rfl h1 h2 rfl rfl hf.hb (show 14 < (RV d s (ptr gi)).size from (by decide : 14 < 23))) ⟨fun h => absurd (h.symm.trans (hL 9 (by kernel_rfl))) (by decide), H.P.butB hf.hb (by decide) (by decide) hk, fun _ h => absurd h (by simp [met1]), fun _ => ⟨_, hf.store (fun z => rfl)⟩, fun _ h => absurd (h.symm.trans (hL 9 (by kernel_rfl))) (by decide), H.k0, H.k1, H.k2, H.k3, H.k4, H.k5, H.k6, H.k7, H.k10, H.k11, H.k12, H.d7_6, H.d9_5, H.d9_8, fun _ => hL 9 (by kernel_rfl), H.d8_7⟩
    ·
     intro vs2 a2 w8 H ha2
     obtain ⟨s2, hr2⟩ := H.C rfl
     have HR8 : Hid (RS w0 w8 q _ s2 V sE ∧ OwnL 138 w8 w0.heap.size (.slice (some ⟨b, 0, none⟩) N lc) Lp) := ⟨hr2, H.P⟩
     clear hr2 H
     simp only [putAll, Act.put, Nat.zero_add, Nat.reduceAdd, List.setIfInBounds_toArray, List.set_cons_succ, List.set_cons_zero] at ha2
     subst ha2
     go_wp2
     go_roundg (N - (k + 1))
     case measure => omega
     case rel => exact ⟨k + 1, s2, by omega, rfl, by simp, by rw [HT.out, parsT_app, parsT_one, ← HD0.out, parK_a]; exact HR8.out⟩
   by_cases n3 : K = 1
   ·
    subst n3
    go_wp2_with (first
     | (have q_ := HR; clear q_; refine wl_setRk HR.out.1 rfl oneS 15 rfl (by first | rfl | go_simp) (by first | rfl | go_simp) rfl rfl (by decide) ({ d with info := m }) ({ s with iA := ua, iN := l, iC := uc }) (fun z => rfl) ⟨HR.out.1.own.t, HR.out.1.own.r, HR.out.1.own.a, HO7.out, HR.out.1.own.g, HR.out.1.own.d, HR.out.1.own.o⟩ { HR.out.1.fit with } ?_; rintro w8 hr ⟨C8, hb8⟩ hk8; have HR8 : Hid (RS w0 w8 q ({ d with info := m }) ({ s with iA := ua, iN := l, iC := uc }) V sE ∧ OwnL 138 w8 w0.heap.size (.slice (some ⟨b, 0, none⟩) N lc) Lp) := ⟨hr, HR.out.2.2.2.butB hb8 (by decide) (by decide) hk8⟩; clear hr hb8 hk8)
     | (have q_ := hb6; clear q_; refine wl_store (D := #[.int .i64 (1), .slice ua l uc]) rfl rowP rfl rfl rfl hb6 rfl rfl (one_par _ _ rfl) ?_; intro w7 hb7 hk7 hx; clear hx; have he7 : Ext wr w7 := he6.of_but hk7 (fun k e => by subst e; exact Nat.le_refl _); have HR : Hid (RS w0 w7 q d s V sE ∧ Blk w7 wr.heap.size #[.int .i64 (1), .slice ua l uc] 138 ∧ BytesAt w7 (.slice ua l uc) m ∧ OwnL 138 w7 w0.heap.size (.slice (some ⟨b, 0, none⟩) N lc) Lp) := ⟨HRl.out.1.grow he7, hb7, HOu.out.bytes.ext he7, HRl.out.2.ext he7⟩; have HO7 : Hid (OB w7 w0.heap.size (.slice ua l uc) m) := HOu.out.ext he7; have x0 : w7.cell? ⟨wr.heap.size, 0, none⟩ = some (.int .i64 (1)) := hb7.cell 0; have x1 : w7.cell? ⟨wr.heap.size, 1, none⟩ = some (.slice ua l uc) := hb7.cell 1; clear hb6 hb7 hk7 he7 he6 hc0 hc1)
     | (refine wl_alloc rfl rfl zeroP ?_; intro w6 hb6 he6 hx; clear hx)
     | (refine wl_loadP rfl rowP rfl rfl hc0 hc1 ?_))
    go_roundg (N - (k + 1))
    case measure => omega
    case rel => exact ⟨k + 1, _, by omega, rfl, by simp, by rw [HT.out, parsT_app, parsT_one, ← HD0.out, parK_1]; exact HR8.out⟩
   by_cases n4 : K = 7
   ·
    subst n4
    go_wp2_with (first
     | (have q_ := HR; clear q_; refine wl_setRk HR.out.1 rfl oneS 15 rfl (by first | rfl | go_simp) (by first | rfl | go_simp) rfl rfl (by decide) ({ d with info := m }) ({ s with iA := ua, iN := l, iC := uc }) (fun z => rfl) ⟨HR.out.1.own.t, HR.out.1.own.r, HR.out.1.own.a, HO7.out, HR.out.1.own.g, HR.out.1.own.d, HR.out.1.own.o⟩ { HR.out.1.fit with } ?_; rintro w8 hr ⟨C8, hb8⟩ hk8; have HR8 : Hid (RS w0 w8 q ({ d with info := m }) ({ s with iA := ua, iN := l, iC := uc }) V sE ∧ OwnL 138 w8 w0.heap.size (.slice (some ⟨b, 0, none⟩) N lc) Lp) := ⟨hr, HR.out.2.2.2.butB hb8 (by decide) (by decide) hk8⟩; clear hr hb8 hk8)
     | (have q_ := hb6; clear q_; refine wl_store (D := #[.int .i64 (7), .slice ua l uc]) rfl rowP rfl rfl rfl hb6 rfl rfl (one_par _ _ rfl) ?_; intro w7 hb7 hk7 hx; clear hx; have he7 : Ext wr w7 := he6.of_but hk7 (fun k e => by subst e; exact Nat.le_refl _); have HR : Hid (RS w0 w7 q d s V sE ∧ Blk w7 wr.heap.size #[.int .i64 (7), .slice ua l uc] 138 ∧ BytesAt w7 (.slice ua l uc) m ∧ OwnL 138 w7 w0.heap.size (.slice (some ⟨b, 0, none⟩) N lc) Lp) := ⟨HRl.out.1.grow he7, hb7, HOu.out.bytes.ext he7, HRl.out.2.ext he7⟩; have HO7 : Hid (OB w7 w0.heap.size (.slice ua l uc) m) := HOu.out.ext he7; have x0 : w7.cell? ⟨wr.heap.size, 0, none⟩ = some (.int .i64 (7)) := hb7.cell 0; have x1 : w7.cell? ⟨wr.heap.size, 1, none⟩ = some (.slice ua l uc) := hb7.cell 1; clear hb6 hb7 hk7 he7 he6 hc0 hc1)
     | (refine wl_alloc rfl rfl zeroP ?_; intro w6 hb6 he6 hx; clear hx)
     | (refine wl_loadP rfl rowP rfl rfl hc0 hc1 ?_))
    go_roundg (N - (k + 1))
    case measure => omega
    case rel => exact ⟨k + 1, _, by omega, rfl, by simp, by rw [HT.out, parsT_app, parsT_one, ← HD0.out, parK_7]; exact HR8.out⟩
   by_cases n5 : K = 49153
   ·
    subst n5
    go_wp2_with (first
     | (have q_ := hb6; clear q_; refine wl_store (D := #[.int .i64 (49153), .slice ua l uc]) rfl rowP rfl rfl rfl hb6 rfl rfl (one_par _ _ rfl) ?_; intro w7 hb7 hk7 hx; clear hx; have he7 : Ext wr w7 := he6.of_but hk7 (fun k e => by subst e; exact Nat.le_refl _); have HR : Hid (RS w0 w7 q d s V sE ∧ Blk w7 wr.heap.size #[.int .i64 (49153), .slice ua l uc] 138 ∧ BytesAt w7 (.slice ua l uc) m ∧ OwnL 138 w7 w0.heap.size (.slice (some ⟨b, 0, none⟩) N lc) Lp) := ⟨HRl.out.1.grow he7, hb7, HOu.out.bytes.ext he7, HRl.out.2.ext he7⟩; have HO7 : Hid (OB w7 w0.heap.size (.slice ua l uc) m) := HOu.out.ext he7; have x0 : w7.cell? ⟨wr.heap.size, 0, none⟩ = some (.int .i64 (49153)) := hb7.cell 0; have x1 : w7.cell? ⟨wr.heap.size, 1, none⟩ = some (.slice ua l uc) := hb7.cell 1; clear hb6 hb7 hk7 he7 he6 hc0 hc1)
     | (refine wl_alloc rfl rfl zeroP ?_; intro w6 hb6 he6 hx; clear hx)
     | (refine wl_loadP rfl rowP rfl rfl hc0 hc1 ?_))
    have HLn : Hid (d.ops.length ≤ 100000) := HLs.out.2
    have HFp : Hid (W64 ((49153 : Int) - 49152) ∧ W64 (addrV m)) := ⟨by unfold W64; decide, HW.out⟩
    have HKw : IntKind.i64.wrap ((49153 : Int) - 49152) = 49153 - 49152 := by decide
    refine wp_region_W (ParsO w0 q wr.heap.size V d s sE (49153) (.slice ua l uc) m (.slice (some ⟨b, 0, none⟩) N lc) Lp) (fun t => bif Nat.ble 56 t && Nat.ble t 72 then some (t - 56) else none) 74 rfl (by kernel_rfl) rfl (fun vs => ⟨fun _ => ⟨HR.out.1.grow (Ext.drew _), HR.out.2.1.ext (Ext.drew _), HR.out.2.2.1.ext (Ext.drew _)⟩, HR.out.2.2.2.ext (Ext.drew _), fun h => by simp at h, fun h => by simp at h, fun h => by simp at h, fun h => by simp at h, fun h => by simp at h, fun h => by simp at h, fun h => by simp at h, fun h => by simp at h, fun h => by simp at h, fun h => by simp at h, fun h => by simp at h, fun h => by simp at h, fun h => by simp at h, fun h => by simp at h, fun h => by simp at h, fun h => by simp at h, fun h => by simp at h, fun h => by simp at h, fun h => by simp at h, fun h => by simp at h, fun h => by simp at h, fun h => by simp at h, fun h => by simp at h, fun h => by simp at h, fun h => by simp at h, fun h => by simp at h⟩) ?_ ?_
    ·
     refine Ow ⟨rfl, ?_⟩ (Ow ⟨rfl, ?_⟩ (Ow ⟨rfl, ?_⟩ (Ow ⟨rfl, ?_⟩ (Ow ⟨rfl, ?_⟩ (Ow ⟨rfl, ?_⟩ (Ow ⟨rfl, ?_⟩ (Ow ⟨rfl, ?_⟩ (Ow ⟨rfl, ?_⟩ (Ow ⟨rfl, ?_⟩ (Ow ⟨rfl, ?_⟩ (Ow ⟨rfl, ?_⟩ (Ow ⟨rfl, ?_⟩ (Ow ⟨rfl, ?_⟩ (Ow ⟨rfl, ?_⟩ (Ow ⟨rfl, ?_⟩ (Ow ⟨rfl, ?_⟩ (Ow ⟨rfl, ?_⟩ OwedVs.nil)))))))))))))))))
     ·
      intro L vs wx r H hl hL hx
      obtain ⟨h1, _⟩ := hx
      replace h1 : r (.tmp 0) = ptr q := h1
      exact give_move (.inl rfl) (by rw [h1]; exact ⟨H.A, H.P, H.B, H.C, H.S, fun _ => rfl, H.k1, H.k2, H.k3, H.k4, H.k5, H.k6, H.k7, H.k8, H.k9, H.k10, H.k11, H.k14, H.k15, H.k16, H.d10_9, H.d13_5, H.d13_12, H.d17_13, H.d12_11, H.d11_10, H.d11_8, H.d8_7⟩)
     ·
      intro L vs wx r H hl hL hx
      obtain ⟨h1, _⟩ := hx
      replace h1 : r (.tmp 0) = ptr q := h1
      exact give_move (.inl rfl) (by rw [h1]; exact ⟨H.A, H.P, H.B, H.C, H.S, H.k0, fun _ => rfl, H.k2, H.k3, H.k4, H.k5, H.k6, H.k7, H.k8, H.k9, H.k10, H.k11, H.k14, H.k15, H.k16, H.d10_9, H.d13_5, H.d13_12, H.d17_13, H.d12_11, H.d11_10, H.d11_8, H.d8_7⟩)
     ·
      intro L vs wx r H hl hL hx
      obtain ⟨h1, _⟩ := hx
      replace h1 : r (.tmp 57) = ptr q := Eq.trans h1 (H.k1 (hL 1 (by kernel_rfl)))
      exact gvo (by simp [execOp, h1, ptr, go_sem]; done) ⟨H.A, H.P, H.B, H.C, H.S, H.k0, H.k1, fun _ => rfl, H.k3, H.k4, H.k5, H.k6, H.k7, H.k8, H.k9, H.k10, H.k11, H.k14, H.k15, H.k16, H.d10_9, H.d13_5, H.d13_12, H.d17_13, H.d12_11, H.d11_10, H.d11_8, H.d8_7⟩
     ·
      intro L vs wx r H hl hL hx
      obtain ⟨h1, _⟩ := hx
      replace h1 : r (.tmp 58) = ptr q := Eq.trans h1 (H.k2 (hL 2 (by kernel_rfl)))
      exact gvo (by simp [execOp, h1, ptr, go_sem]; done) ⟨H.A, H.P, H.B, H.C, H.S, H.k0, H.k1, H.k2, fun _ => rfl, H.k4, H.k5, H.k6, H.k7, H.k8, H.k9, H.k10, H.k11, H.k14, H.k15, H.k16, H.d10_9, H.d13_5, H.d13_12, H.d17_13, H.d12_11, H.d11_10, H.d11_8, H.d8_7⟩
     ·
      intro L vs wx r H hl hL hx
      obtain ⟨h1, _⟩ := hx
      replace h1 : r (.tmp 59) = ptr q := Eq.trans h1 (H.k3 (hL 3 (by kernel_rfl)))
      exact gvo (by simp [execOp, h1, ptr, go_sem]; done) ⟨H.A, H.P, H.B, H.C, H.S, H.k0, H.k1, H.k2, H.k3, fun _ => rfl, H.k5, H.k6, H.k7, H.k8, H.k9, H.k10, H.k11, H.k14, H.k15, H.k16, H.d10_9, H.d13_5, H.d13_12, H.d17_13, H.d12_11, H.d11_10, H.d11_8, H.d8_7⟩
     ·
      intro L vs wx r H hl hL hx
      obtain ⟨h1, _⟩ := hx
      replace h1 : r (.tmp 60) = .pointer (some ⟨q, 20, none⟩) := Eq.trans h1 (H.k4 (hL 4 (by kernel_rfl)))
      have hAP : L 13 = false := met_no H.d13_5 hl
      obtain ⟨gi, bv, hg⟩ := (H.A hAP).1.g
      exact gvo (exg oneSO rfl h1 (rv20 hg.hb)) ⟨H.A, H.P, H.B, H.C, H.S, H.k0, H.k1, H.k2, H.k3, H.k4, fun _ => rfl, H.k6, H.k7, H.k8, H.k9, H.k10, H.k11, H.k14, H.k15, H.k16, H.d10_9, fun _ => rfl, H.d13_12, H.d17_13, H.d12_11, H.d11_10, H.d11_8, H.d8_7⟩
     ·
      intro L vs wx r H hl hL hx
      obtain ⟨h1, _⟩ := hx
      replace h1 : r (.tmp 5) = ptr wr.heap.size := h1
      exact gvo (by simp [execOp, h1, ptr, go_sem]; done) ⟨H.A, H.P, H.B, H.C, H.S, H.k0, H.k1, H.k2, H.k3, H.k4, H.k5, fun _ => rfl, H.k7, H.k8, H.k9, H.k10, H.k11, H.k14, H.k15, H.k16, H.d10_9, H.d13_5, H.d13_12, H.d17_13, H.d12_11, H.d11_10, H.d11_8, H.d8_7⟩
     ·
      intro L vs wx r H hl hL hx
      obtain ⟨h1, _⟩ := hx
      replace h1 : r (.tmp 62) = ptr wr.heap.size := Eq.trans h1 (H.k6 (hL 6 (by kernel_rfl)))
      have h8 : L 8 = false := met_no H.d8_7 hl
      have h11 : L 11 = false := met_no H.d11_8 h8
      have hBS : L 12 = false := met_no H.d12_11 h11
      have hAP : L 13 = false := met_no H.d13_12 hBS
      exact gvo (exg one3 rfl h1 ((H.A hAP).2.1.cell 0)) ⟨H.A, H.P, H.B, H.C, H.S, H.k0, H.k1, H.k2, H.k3, H.k4, H.k5, H.k6, fun _ => rfl, H.k8, H.k9, H.k10, H.k11, H.k14, H.k15, H.k16, H.d10_9, H.d13_5, H.d13_12, H.d17_13, H.d12_11, H.d11_10, H.d11_8, fun _ => rfl⟩
     ·
      intro L vs wx r H hl hL hx
      obtain ⟨h1, h2, _⟩ := hx
      replace h1 : r (.tmp 63) = .int .i64 (49153) := Eq.trans h1 (H.k7 (hL 7 (by kernel_rfl)))
      replace h2 : r (.const (.int .i64 49152)) = .int .i64 49152 := h2
      exact gvo (by simp [execOp, h1, h2, go_sem]; decide) ⟨H.A, H.P, H.B, H.C, H.S, H.k0, H.k1, H.k2, H.k3, H.k4, H.k5, H.k6, H.k7, fun _ => rfl, H.k9, H.k10, H.k11, H.k14, H.k15, H.k16, H.d10_9, H.d13_5, H.d13_12, H.d17_13, H.d12_11, H.d11_10, fun _ => rfl, fun _ => hL 7 (by kernel_rfl)⟩
     ·
      intro L vs wx r H hl hL hx
      obtain ⟨h1, _⟩ := hx
      replace h1 : r (.tmp 5) = ptr wr.heap.size := h1
      have hCA : L 10 = false := met_no H.d10_9 hl
      have h11 : L 11 = false := met_no H.d11_10 hCA
      have hBS : L 12 = false := met_no H.d12_11 h11
      have hAP : L 13 = false := met_no H.d13_12 hBS
      exact gvo (exec_loadW rowP rfl h1 (H.A hAP).2.1 rfl) ⟨H.A, H.P, H.B, H.C, H.S, H.k0, H.k1, H.k2, H.k3, H.k4, H.k5, H.k6, H.k7, H.k8, fun _ => rfl, H.k10, H.k11, H.k14, H.k15, H.k16, fun _ => rfl, H.d13_5, H.d13_12, H.d17_13, H.d12_11, H.d11_10, H.d11_8, H.d8_7⟩
     ·
      intro L vs wx r H hl hL hx
      obtain ⟨h1, h2, _⟩ := hx
      replace h1 : r (.func 96) = .func (.func 96) #[] #[] := h1
      replace h2 : r (.tmp 65) = .agg #[.int .i64 (49153), .slice ua l uc] := Eq.trans h2 (H.k9 (hL 9 (by kernel_rfl)))
      have h11 : L 11 = false := met_no H.d11_10 hl
      have hBS : L 12 = false := met_no H.d12_11 h11
      have hAP : L 13 = false := met_no H.d13_12 hBS
      have hST : L 17 = false := met_no H.d17_13 hAP
      refine give_func #[.agg #[.int .i64 (49153), .slice ua l uc]] rfl h1 Try.call96 (by simp [h2]) ?_
      refine (addrOf_any (H.A hAP).2.2 HM.out).mono ?_
      rintro e w' ⟨rfl, he⟩
      exact ⟨_, rfl, ⟨fun _ => ⟨(H.A hAP).1.grow he, (H.A hAP).2.1.ext he, (H.A hAP).2.2.ext he⟩, H.P.ext he, fun h => absurd (h.symm.trans hAP) (by decide), fun h => absurd (h.symm.trans hST) (by decide), fun h => absurd (h.symm.trans hBS) (by decide), H.k0, H.k1, H.k2, H.k3, H.k4, H.k5, H.k6, H.k7, H.k8, H.k9, fun _ => rfl, H.k11, H.k14, H.k15, H.k16, fun _ => hL 9 (by kernel_rfl), H.d13_5, H.d13_12, H.d17_13, H.d12_11, fun _ => rfl, H.d11_8, H.d8_7⟩⟩
     ·
      intro L vs wx r H hl hL hx
      obtain ⟨h1, h2, _⟩ := hx
      replace h1 : r (.tmp 64) = .int .i64 ((49153) - 49152) := Eq.trans h1 (H.k8 (hL 8 (by kernel_rfl)))
      replace h2 : r (.tmp 66) = .int .i64 (addrV m) := Eq.trans h2 (H.k10 (hL 10 (by kernel_rfl)))
      refine gvo (v := .agg #[.int .i64 ((49153) - 49152), .int .i64 (addrV m)]) (w' := wx) ?_ ⟨H.A, H.P, H.B, H.C, H.S, H.k0, H.k1, H.k2, H.k3, H.k4, H.k5, H.k6, H.k7, H.k8, H.k9, H.k10, fun _ => rfl, H.k14, H.k15, H.k16, H.d10_9, H.d13_5, H.d13_12, H.d17_13, fun _ => rfl, fun _ => hL 10 (by kernel_rfl), fun _ => hL 8 (by kernel_rfl), H.d8_7⟩
      have hb := run_build (P := Try.prog) wx 69 #[(0, .int .i64 ((49153) - 49152)), (1, .int .i64 (addrV m))] #[.int .i64 ((49153) - 49152), .int .i64 (addrV m)] (by kernel_rfl)
      simp only [Int.reduceSub] at hb
      simp [execOp, h1, h2, hb]
     ·
      intro L vs wx r H hl hL hx
      obtain ⟨h1, _⟩ := hx
      replace h1 : r (.tmp 67) = .agg #[.int .i64 ((49153) - 49152), .int .i64 (addrV m)] := Eq.trans h1 (H.k11 (hL 11 (by kernel_rfl)))
      have hAP : L 13 = false := met_no H.d13_12 hl
      have hST : L 17 = false := met_no H.d17_13 hAP
      exact give_one_pair rfl prO h1 ⟨fun h => ⟨(H.A h).1.grow (Ext.alloc _ _), (H.A h).2.1.ext (Ext.alloc _ _), (H.A h).2.2.ext (Ext.alloc _ _)⟩, H.P.ext (Ext.alloc _ _), fun h => absurd (h.symm.trans hAP) (by decide), fun h => absurd (h.symm.trans hST) (by decide), fun _ _ => pairs_one wx (_, _) _, H.k0, H.k1, H.k2, H.k3, H.k4, H.k5, H.k6, H.k7, H.k8, H.k9, H.k10, H.k11, H.k14, H.k15, H.k16, H.d10_9, H.d13_5, fun _ => rfl, H.d17_13, fun _ => hL 11 (by kernel_rfl), H.d11_10, H.d11_8, H.d8_7⟩
     ·
      intro L vs wx r H hl hL hx
      obtain ⟨h1, h2, _⟩ := hx
      have hST : L 17 = false := met_no H.d17_13 hl
      replace h1 : r (.tmp 61) = .slice s.oA s.oN s.oC := Eq.trans h1 (H.k5 (hL 5 (by kernel_rfl)))
      replace h2 : r (.tmp 68) = vs 12 := h2
      exact give_app_o (H.A hl).1 (H.S (hL 12 (by kernel_rfl)) hl) HLn.out HFp.out rfl h1 h2 (fun ad n cap w' gi bv hf hkk => ⟨fun h => absurd h (by simp [met1]), H.P.butR (g := 0) (H.A hl).1.own.o.1 (by decide) (by decide) hkk, fun _ _ => ⟨ad, n, cap, gi, bv, rfl, hf⟩, fun h => absurd (h.symm.trans hST) (by decide), fun _ h => absurd h (by simp [met1]), H.k0, H.k1, H.k2, H.k3, H.k4, H.k5, H.k6, H.k7, H.k8, H.k9, H.k10, H.k11, H.k14, H.k15, H.k16, H.d10_9, fun _ => hL 5 (by kernel_rfl), fun _ => hL 12 (by kernel_rfl), fun _ => rfl, H.d12_11, H.d11_10, H.d11_8, H.d8_7⟩)
     ·
      intro L vs wx r H hl hL hx
      obtain ⟨h1, _⟩ := hx
      replace h1 : r (.tmp 56) = ptr q := Eq.trans h1 (H.k0 (hL 0 (by kernel_rfl)))
      exact gvo (by simp [execOp, h1, ptr, go_sem]; done) ⟨H.A, H.P, H.B, H.C, H.S, H.k0, H.k1, H.k2, H.k3, H.k4, H.k5, H.k6, H.k7, H.k8, H.k9, H.k10, H.k11, fun _ => rfl, H.k15, H.k16, H.d10_9, H.d13_5, H.d13_12, H.d17_13, H.d12_11, H.d11_10, H.d11_8, H.d8_7⟩
     ·
      intro L vs wx r H hl hL hx
      obtain ⟨h1, _⟩ := hx
      replace h1 : r (.tmp 70) = ptr q := Eq.trans h1 (H.k14 (hL 14 (by kernel_rfl)))
      exact gvo (by simp [execOp, h1, ptr, go_sem]; done) ⟨H.A, H.P, H.B, H.C, H.S, H.k0, H.k1, H.k2, H.k3, H.k4, H.k5, H.k6, H.k7, H.k8, H.k9, H.k10, H.k11, H.k14, fun _ => rfl, H.k16, H.d10_9, H.d13_5, H.d13_12, H.d17_13, H.d12_11, H.d11_10, H.d11_8, H.d8_7⟩
     ·
      intro L vs wx r H hl hL hx
      obtain ⟨h1, _⟩ := hx
      replace h1 : r (.tmp 71) = ptr q := Eq.trans h1 (H.k15 (hL 15 (by kernel_rfl)))
      exact gvo (by simp [execOp, h1, ptr, go_sem]; done) ⟨H.A, H.P, H.B, H.C, H.S, H.k0, H.k1, H.k2, H.k3, H.k4, H.k5, H.k6, H.k7, H.k8, H.k9, H.k10, H.k11, H.k14, H.k15, fun _ => rfl, H.d10_9, H.d13_5, H.d13_12, H.d17_13, H.d12_11, H.d11_10, H.d11_8, H.d8_7⟩
     ·
      intro L vs wx r H hl hL hx
      obtain ⟨h1, h2, _⟩ := hx
      replace h1 : r (.tmp 72) = .pointer (some ⟨q, 20, none⟩) := Eq.trans h1 (H.k16 (hL 16 (by kernel_rfl)))
      obtain ⟨ad, n, cap, gi, bv, e, hf⟩ := H.B (hL 13 (by kernel_rfl)) hl
      replace h2 : r (.tmp 69) = .slice ad n cap := Eq.trans h2 e
      have hk : KeepBut (· = q) wx (wx.setCell ⟨q, 20, none⟩ (.slice ad n cap)) := ⟨rfl, rfl, rfl, by simp, fun k _ hk => block_other hk 20 _⟩
      exact give_skip (exec_set oneSO rfl h1 h2 rfl rfl hf.hb (show 20 < (RV d s (ptr gi)).size from (by decide : 20 < 23))) ⟨fun h => absurd (h.symm.trans (hL 13 (by kernel_rfl))) (by decide), H.P.butB hf.hb (by decide) (by decide) hk, fun _ h => absurd h (by simp [met1]), fun _ => ⟨_, hf.store (fun z => rfl)⟩, fun _ h => absurd (h.symm.trans (hL 13 (by kernel_rfl))) (by decide), H.k0, H.k1, H.k2, H.k3, H.k4, H.k5, H.k6, H.k7, H.k8, H.k9, H.k10, H.k11, H.k14, H.k15, H.k16, H.d10_9, H.d13_5, H.d13_12, fun _ => hL 13 (by kernel_rfl), H.d12_11, H.d11_10, H.d11_8, H.d8_7⟩
    ·
     intro vs2 a2 w8 H ha2
     obtain ⟨s2, hr2⟩ := H.C rfl
     have HR8 : Hid (RS w0 w8 q _ s2 V sE ∧ OwnL 138 w8 w0.heap.size (.slice (some ⟨b, 0, none⟩) N lc) Lp) := ⟨hr2, H.P⟩
     clear hr2 H
     simp only [putAll, Act.put, Nat.zero_add, Nat.reduceAdd, List.setIfInBounds_toArray, List.set_cons_succ, List.set_cons_zero] at ha2
     subst ha2
     go_wp2
     go_roundg (N - (k + 1))
     case measure => omega
     case rel => exact ⟨k + 1, s2, by omega, rfl, by simp, by rw [HT.out, parsT_app, parsT_one, ← HD0.out, parK_o (by decide)]; exact HR8.out⟩
   by_cases n6 : K = 49154
   ·
    subst n6
    go_wp2_with (first
     | (have q_ := hb6; clear q_; refine wl_store (D := #[.int .i64 (49154), .slice ua l uc]) rfl rowP rfl rfl rfl hb6 rfl rfl (one_par _ _ rfl) ?_; intro w7 hb7 hk7 hx; clear hx; have he7 : Ext wr w7 := he6.of_but hk7 (fun k e => by subst e; exact Nat.le_refl _); have HR : Hid (RS w0 w7 q d s V sE ∧ Blk w7 wr.heap.size #[.int .i64 (49154), .slice ua l uc] 138 ∧ BytesAt w7 (.slice ua l uc) m ∧ OwnL 138 w7 w0.heap.size (.slice (some ⟨b, 0, none⟩) N lc) Lp) := ⟨HRl.out.1.grow he7, hb7, HOu.out.bytes.ext he7, HRl.out.2.ext he7⟩; have HO7 : Hid (OB w7 w0.heap.size (.slice ua l uc) m) := HOu.out.ext he7; have x0 : w7.cell? ⟨wr.heap.size, 0, none⟩ = some (.int .i64 (49154)) := hb7.cell 0; have x1 : w7.cell? ⟨wr.heap.size, 1, none⟩ = some (.slice ua l uc) := hb7.cell 1; clear hb6 hb7 hk7 he7 he6 hc0 hc1)
     | (refine wl_alloc rfl rfl zeroP ?_; intro w6 hb6 he6 hx; clear hx)
     | (refine wl_loadP rfl rowP rfl rfl hc0 hc1 ?_))
    have HLn : Hid (d.ops.length ≤ 100000) := HLs.out.2
    have HFp : Hid (W64 ((49154 : Int) - 49152) ∧ W64 (addrV m)) := ⟨by unfold W64; decide, HW.out⟩
    have HKw : IntKind.i64.wrap ((49154 : Int) - 49152) = 49154 - 49152 := by decide
    refine wp_region_W (ParsO w0 q wr.heap.size V d s sE (49154) (.slice ua l uc) m (.slice (some ⟨b, 0, none⟩) N lc) Lp) (fun t => bif Nat.ble 56 t && Nat.ble t 72 then some (t - 56) else none) 74 rfl (by kernel_rfl) rfl (fun vs => ⟨fun _ => ⟨HR.out.1.grow (Ext.drew _), HR.out.2.1.ext (Ext.drew _), HR.out.2.2.1.ext (Ext.drew _)⟩, HR.out.2.2.2.ext (Ext.drew _), fun h => by simp at h, fun h => by simp at h, fun h => by simp at h, fun h => by simp at h, fun h => by simp at h, fun h => by simp at h, fun h => by simp at h, fun h => by simp at h, fun h => by simp at h, fun h => by simp at h, fun h => by simp at h, fun h => by simp at h, fun h => by simp at h, fun h => by simp at h, fun h => by simp at h, fun h => by simp at h, fun h => by simp at h, fun h => by simp at h, fun h => by simp at h, fun h => by simp at h, fun h => by simp at h, fun h => by simp at h, fun h => by simp at h, fun h => by simp at h, fun h => by simp at h, fun h => by simp at h⟩) ?_ ?_
    ·
     refine Ow ⟨rfl, ?_⟩ (Ow ⟨rfl, ?_⟩ (Ow ⟨rfl, ?_⟩ (Ow ⟨rfl, ?_⟩ (Ow ⟨rfl, ?_⟩ (Ow ⟨rfl, ?_⟩ (Ow ⟨rfl, ?_⟩ (Ow ⟨rfl, ?_⟩ (Ow ⟨rfl, ?_⟩ (Ow ⟨rfl, ?_⟩ (Ow ⟨rfl, ?_⟩ (Ow ⟨rfl, ?_⟩ (Ow ⟨rfl, ?_⟩ (Ow ⟨rfl, ?_⟩ (Ow ⟨rfl, ?_⟩ (Ow ⟨rfl, ?_⟩ (Ow ⟨rfl, ?_⟩ (Ow ⟨rfl, ?_⟩ OwedVs.nil)))))))))))))))))
     ·
      intro L vs wx r H hl hL hx
      obtain ⟨h1, _⟩ := hx
      replace h1 : r (.tmp 0) = ptr q := h1
      exact give_move (.inl rfl) (by rw [h1]; exact ⟨H.A, H.P, H.B, H.C, H.S, fun _ => rfl, H.k1, H.k2, H.k3, H.k4, H.k5, H.k6, H.k7, H.k8, H.k9, H.k10, H.k11, H.k14, H.k15, H.k16, H.d10_9, H.d13_5, H.d13_12, H.d17_13, H.d12_11, H.d11_10, H.d11_8, H.d8_7⟩)
     ·
      intro L vs wx r H hl hL hx
      obtain ⟨h1, _⟩ := hx
      replace h1 : r (.tmp 0) = ptr q := h1
      exact give_move (.inl rfl) (by rw [h1]; exact ⟨H.A, H.P, H.B, H.C, H.S, H.k0, fun _ => rfl, H.k2, H.k3, H.k4, H.k5, H.k6, H.k7, H.k8, H.k9, H.k10, H.k11, H.k14, H.k15, H.k16, H.d10_9, H.d13_5, H.d13_12, H.d17_13, H.d12_11, H.d11_10, H.d11_8, H.d8_7⟩)
     ·
      intro L vs wx r H hl hL hx
      obtain ⟨h1, _⟩ := hx
      replace h1 : r (.tmp 57) = ptr q := Eq.trans h1 (H.k1 (hL 1 (by kernel_rfl)))
      exact gvo (by simp [execOp, h1, ptr, go_sem]; done) ⟨H.A, H.P, H.B, H.C, H.S, H.k0, H.k1, fun _ => rfl, H.k3, H.k4, H.k5, H.k6, H.k7, H.k8, H.k9, H.k10, H.k11, H.k14, H.k15, H.k16, H.d10_9, H.d13_5, H.d13_12, H.d17_13, H.d12_11, H.d11_10, H.d11_8, H.d8_7⟩
     ·
      intro L vs wx r H hl hL hx
      obtain ⟨h1, _⟩ := hx
      replace h1 : r (.tmp 58) = ptr q := Eq.trans h1 (H.k2 (hL 2 (by kernel_rfl)))
      exact gvo (by simp [execOp, h1, ptr, go_sem]; done) ⟨H.A, H.P, H.B, H.C, H.S, H.k0, H.k1, H.k2, fun _ => rfl, H.k4, H.k5, H.k6, H.k7, H.k8, H.k9, H.k10, H.k11, H.k14, H.k15, H.k16, H.d10_9, H.d13_5, H.d13_12, H.d17_13, H.d12_11, H.d11_10, H.d11_8, H.d8_7⟩
     ·
      intro L vs wx r H hl hL hx
      obtain ⟨h1, _⟩ := hx
      replace h1 : r (.tmp 59) = ptr q := Eq.trans h1 (H.k3 (hL 3 (by kernel_rfl)))
      exact gvo (by simp [execOp, h1, ptr, go_sem]; done) ⟨H.A, H.P, H.B, H.C, H.S, H.k0, H.k1, H.k2, H.k3, fun _ => rfl, H.k5, H.k6, H.k7, H.k8, H.k9, H.k10, H.k11, H.k14, H.k15, H.k16, H.d10_9, H.d13_5, H.d13_12, H.d17_13, H.d12_11, H.d11_10, H.d11_8, H.d8_7⟩
     ·
      intro L vs wx r H hl hL hx
      obtain ⟨h1, _⟩ := hx
      replace h1 : r (.tmp 60) = .pointer (some ⟨q, 20, none⟩) := Eq.trans h1 (H.k4 (hL 4 (by kernel_rfl)))
      have hAP : L 13 = false := met_no H.d13_5 hl
      obtain ⟨gi, bv, hg⟩ := (H.A hAP).1.g
      exact gvo (exg oneSO rfl h1 (rv20 hg.hb)) ⟨H.A, H.P, H.B, H.C, H.S, H.k0, H.k1, H.k2, H.k3, H.k4, fun _ => rfl, H.k6, H.k7, H.k8, H.k9, H.k10, H.k11, H.k14, H.k15, H.k16, H.d10_9, fun _ => rfl, H.d13_12, H.d17_13, H.d12_11, H.d11_10, H.d11_8, H.d8_7⟩
     ·
      intro L vs wx r H hl hL hx
      obtain ⟨h1, _⟩ := hx
      replace h1 : r (.tmp 5) = ptr wr.heap.size := h1
      exact gvo (by simp [execOp, h1, ptr, go_sem]; done) ⟨H.A, H.P, H.B, H.C, H.S, H.k0, H.k1, H.k2, H.k3, H.k4, H.k5, fun _ => rfl, H.k7, H.k8, H.k9, H.k10, H.k11, H.k14, H.k15, H.k16, H.d10_9, H.d13_5, H.d13_12, H.d17_13, H.d12_11, H.d11_10, H.d11_8, H.d8_7⟩
     ·
      intro L vs wx r H hl hL hx
      obtain ⟨h1, _⟩ := hx
      replace h1 : r (.tmp 62) = ptr wr.heap.size := Eq.trans h1 (H.k6 (hL 6 (by kernel_rfl)))
      have h8 : L 8 = false := met_no H.d8_7 hl
      have h11 : L 11 = false := met_no H.d11_8 h8
      have hBS : L 12 = false := met_no H.d12_11 h11
      have hAP : L 13 = false := met_no H.d13_12 hBS
      exact gvo (exg one3 rfl h1 ((H.A hAP).2.1.cell 0)) ⟨H.A, H.P, H.B, H.C, H.S, H.k0, H.k1, H.k2, H.k3, H.k4, H.k5, H.k6, fun _ => rfl, H.k8, H.k9, H.k10, H.k11, H.k14, H.k15, H.k16, H.d10_9, H.d13_5, H.d13_12, H.d17_13, H.d12_11, H.d11_10, H.d11_8, fun _ => rfl⟩
     ·
      intro L vs wx r H hl hL hx
      obtain ⟨h1, h2, _⟩ := hx
      replace h1 : r (.tmp 63) = .int .i64 (49154) := Eq.trans h1 (H.k7 (hL 7 (by kernel_rfl)))
      replace h2 : r (.const (.int .i64 49152)) = .int .i64 49152 := h2
      exact gvo (by simp [execOp, h1, h2, go_sem]; decide) ⟨H.A, H.P, H.B, H.C, H.S, H.k0, H.k1, H.k2, H.k3, H.k4, H.k5, H.k6, H.k7, fun _ => rfl, H.k9, H.k10, H.k11, H.k14, H.k15, H.k16, H.d10_9, H.d13_5, H.d13_12, H.d17_13, H.d12_11, H.d11_10, fun _ => rfl, fun _ => hL 7 (by kernel_rfl)⟩
     ·
      intro L vs wx r H hl hL hx
      obtain ⟨h1, _⟩ := hx
      replace h1 : r (.tmp 5) = ptr wr.heap.size := h1
      have hCA : L 10 = false := met_no H.d10_9 hl
      have h11 : L 11 = false := met_no H.d11_10 hCA
      have hBS : L 12 = false := met_no H.d12_11 h11
      have hAP : L 13 = false := met_no H.d13_12 hBS
      exact gvo (exec_loadW rowP rfl h1 (H.A hAP).2.1 rfl) ⟨H.A, H.P, H.B, H.C, H.S, H.k0, H.k1, H.k2, H.k3, H.k4, H.k5, H.k6, H.k7, H.k8, fun _ => rfl, H.k10, H.k11, H.k14, H.k15, H.k16, fun _ => rfl, H.d13_5, H.d13_12, H.d17_13, H.d12_11, H.d11_10, H.d11_8, H.d8_7⟩
     ·
      intro L vs wx r H hl hL hx
      obtain ⟨h1, h2, _⟩ := hx
      replace h1 : r (.func 96) = .func (.func 96) #[] #[] := h1
      replace h2 : r (.tmp 65) = .agg #[.int .i64 (49154), .slice ua l uc] := Eq.trans h2 (H.k9 (hL 9 (by kernel_rfl)))
      have h11 : L 11 = false := met_no H.d11_10 hl
      have hBS : L 12 = false := met_no H.d12_11 h11
      have hAP : L 13 = false := met_no H.d13_12 hBS
      have hST : L 17 = false := met_no H.d17_13 hAP
      refine give_func #[.agg #[.int .i64 (49154), .slice ua l uc]] rfl h1 Try.call96 (by simp [h2]) ?_
      refine (addrOf_any (H.A hAP).2.2 HM.out).mono ?_
      rintro e w' ⟨rfl, he⟩
      exact ⟨_, rfl, ⟨fun _ => ⟨(H.A hAP).1.grow he, (H.A hAP).2.1.ext he, (H.A hAP).2.2.ext he⟩, H.P.ext he, fun h => absurd (h.symm.trans hAP) (by decide), fun h => absurd (h.symm.trans hST) (by decide), fun h => absurd (h.symm.trans hBS) (by decide), H.k0, H.k1, H.k2, H.k3, H.k4, H.k5, H.k6, H.k7, H.k8, H.k9, fun _ => rfl, H.k11, H.k14, H.k15, H.k16, fun _ => hL 9 (by kernel_rfl), H.d13_5, H.d13_12, H.d17_13, H.d12_11, fun _ => rfl, H.d11_8, H.d8_7⟩⟩
     ·
      intro L vs wx r H hl hL hx
      obtain ⟨h1, h2, _⟩ := hx
      replace h1 : r (.tmp 64) = .int .i64 ((49154) - 49152) := Eq.trans h1 (H.k8 (hL 8 (by kernel_rfl)))
      replace h2 : r (.tmp 66) = .int .i64 (addrV m) := Eq.trans h2 (H.k10 (hL 10 (by kernel_rfl)))
      refine gvo (v := .agg #[.int .i64 ((49154) - 49152), .int .i64 (addrV m)]) (w' := wx) ?_ ⟨H.A, H.P, H.B, H.C, H.S, H.k0, H.k1, H.k2, H.k3, H.k4, H.k5, H.k6, H.k7, H.k8, H.k9, H.k10, fun _ => rfl, H.k14, H.k15, H.k16, H.d10_9, H.d13_5, H.d13_12, H.d17_13, fun _ => rfl, fun _ => hL 10 (by kernel_rfl), fun _ => hL 8 (by kernel_rfl), H.d8_7⟩
      have hb := run_build (P := Try.prog) wx 69 #[(0, .int .i64 ((49154) - 49152)), (1, .int .i64 (addrV m))] #[.int .i64 ((49154) - 49152), .int .i64 (addrV m)] (by kernel_rfl)
      simp only [Int.reduceSub] at hb
      simp [execOp, h1, h2, hb]
     ·
      intro L vs wx r H hl hL hx
      obtain ⟨h1, _⟩ := hx
      replace h1 : r (.tmp 67) = .agg #[.int .i64 ((49154) - 49152), .int .i64 (addrV m)] := Eq.trans h1 (H.k11 (hL 11 (by kernel_rfl)))
      have hAP : L 13 = false := met_no H.d13_12 hl
      have hST : L 17 = false := met_no H.d17_13 hAP
      exact give_one_pair rfl prO h1 ⟨fun h => ⟨(H.A h).1.grow (Ext.alloc _ _), (H.A h).2.1.ext (Ext.alloc _ _), (H.A h).2.2.ext (Ext.alloc _ _)⟩, H.P.ext (Ext.alloc _ _), fun h => absurd (h.symm.trans hAP) (by decide), fun h => absurd (h.symm.trans hST) (by decide), fun _ _ => pairs_one wx (_, _) _, H.k0, H.k1, H.k2, H.k3, H.k4, H.k5, H.k6, H.k7, H.k8, H.k9, H.k10, H.k11, H.k14, H.k15, H.k16, H.d10_9, H.d13_5, fun _ => rfl, H.d17_13, fun _ => hL 11 (by kernel_rfl), H.d11_10, H.d11_8, H.d8_7⟩
     ·
      intro L vs wx r H hl hL hx
      obtain ⟨h1, h2, _⟩ := hx
      have hST : L 17 = false := met_no H.d17_13 hl
      replace h1 : r (.tmp 61) = .slice s.oA s.oN s.oC := Eq.trans h1 (H.k5 (hL 5 (by kernel_rfl)))
      replace h2 : r (.tmp 68) = vs 12 := h2
      exact give_app_o (H.A hl).1 (H.S (hL 12 (by kernel_rfl)) hl) HLn.out HFp.out rfl h1 h2 (fun ad n cap w' gi bv hf hkk => ⟨fun h => absurd h (by simp [met1]), H.P.butR (g := 0) (H.A hl).1.own.o.1 (by decide) (by decide) hkk, fun _ _ => ⟨ad, n, cap, gi, bv, rfl, hf⟩, fun h => absurd (h.symm.trans hST) (by decide), fun _ h => absurd h (by simp [met1]), H.k0, H.k1, H.k2, H.k3, H.k4, H.k5, H.k6, H.k7, H.k8, H.k9, H.k10, H.k11, H.k14, H.k15, H.k16, H.d10_9, fun _ => hL 5 (by kernel_rfl), fun _ => hL 12 (by kernel_rfl), fun _ => rfl, H.d12_11, H.d11_10, H.d11_8, H.d8_7⟩)
     ·
      intro L vs wx r H hl hL hx
      obtain ⟨h1, _⟩ := hx
      replace h1 : r (.tmp 56) = ptr q := Eq.trans h1 (H.k0 (hL 0 (by kernel_rfl)))
      exact gvo (by simp [execOp, h1, ptr, go_sem]; done) ⟨H.A, H.P, H.B, H.C, H.S, H.k0, H.k1, H.k2, H.k3, H.k4, H.k5, H.k6, H.k7, H.k8, H.k9, H.k10, H.k11, fun _ => rfl, H.k15, H.k16, H.d10_9, H.d13_5, H.d13_12, H.d17_13, H.d12_11, H.d11_10, H.d11_8, H.d8_7⟩
     ·
      intro L vs wx r H hl hL hx
      obtain ⟨h1, _⟩ := hx
      replace h1 : r (.tmp 70) = ptr q := Eq.trans h1 (H.k14 (hL 14 (by kernel_rfl)))
      exact gvo (by simp [execOp, h1, ptr, go_sem]; done) ⟨H.A, H.P, H.B, H.C, H.S, H.k0, H.k1, H.k2, H.k3, H.k4, H.k5, H.k6, H.k7, H.k8, H.k9, H.k10, H.k11, H.k14, fun _ => rfl, H.k16, H.d10_9, H.d13_5, H.d13_12, H.d17_13, H.d12_11, H.d11_10, H.d11_8, H.d8_7⟩
     ·
      intro L vs wx r H hl hL hx
      obtain ⟨h1, _⟩ := hx
      replace h1 : r (.tmp 71) = ptr q := Eq.trans h1 (H.k15 (hL 15 (by kernel_rfl)))
      exact gvo (by simp [execOp, h1, ptr, go_sem]; done) ⟨H.A, H.P, H.B, H.C, H.S, H.k0, H.k1, H.k2, H.k3, H.k4, H.k5, H.k6, H.k7, H.k8, H.k9, H.k10, H.k11, H.k14, H.k15, fun _ => rfl, H.d10_9, H.d13_5, H.d13_12, H.d17_13, H.d12_11, H.d11_10, H.d11_8, H.d8_7⟩
     ·
      intro L vs wx r H hl hL hx
      obtain ⟨h1, h2, _⟩ := hx
      replace h1 : r (.tmp 72) = .pointer (some ⟨q, 20, none⟩) := Eq.trans h1 (H.k16 (hL 16 (by kernel_rfl)))
      obtain ⟨ad, n, cap, gi, bv, e, hf⟩ := H.B (hL 13 (by kernel_rfl)) hl
      replace h2 : r (.tmp 69) = .slice ad n cap := Eq.trans h2 e
      have hk : KeepBut (· = q) wx (wx.setCell ⟨q, 20, none⟩ (.slice ad n cap)) := ⟨rfl, rfl, rfl, by simp, fun k _ hk => block_other hk 20 _⟩
      exact give_skip (exec_set oneSO rfl h1 h2 rfl rfl hf.hb (show 20 < (RV d s (ptr gi)).size from (by decide : 20 < 23))) ⟨fun h => absurd (h.symm.trans (hL 13 (by kernel_rfl))) (by decide), H.P.butB hf.hb (by decide) (by decide) hk, fun _ h => absurd h (by simp [met1]), fun _ => ⟨_, hf.store (fun z => rfl)⟩, fun _ h => absurd (h.symm.trans (hL 13 (by kernel_rfl))) (by decide), H.k0, H.k1, H.k2, H.k3, H.k4, H.k5, H.k6, H.k7, H.k8, H.k9, H.k10, H.k11, H.k14, H.k15, H.k16, H.d10_9, H.d13_5, H.d13_12, fun _ => hL 13 (by kernel_rfl), H.d12_11, H.d11_10, H.d11_8, H.d8_7⟩
    ·
     intro vs2 a2 w8 H ha2
     obtain ⟨s2, hr2⟩ := H.C rfl
     have HR8 : Hid (RS w0 w8 q _ s2 V sE ∧ OwnL 138 w8 w0.heap.size (.slice (some ⟨b, 0, none⟩) N lc) Lp) := ⟨hr2, H.P⟩
     clear hr2 H
     simp only [putAll, Act.put, Nat.zero_add, Nat.reduceAdd, List.setIfInBounds_toArray, List.set_cons_succ, List.set_cons_zero] at ha2
     subst ha2
     go_wp2
     go_roundg (N - (k + 1))
     case measure => omega
     case rel => exact ⟨k + 1, s2, by omega, rfl, by simp, by rw [HT.out, parsT_app, parsT_one, ← HD0.out, parK_o (by decide)]; exact HR8.out⟩
   by_cases n7 : K = 49156
   ·
    subst n7
    go_wp2_with (first
     | (have q_ := hb6; clear q_; refine wl_store (D := #[.int .i64 (49156), .slice ua l uc]) rfl rowP rfl rfl rfl hb6 rfl rfl (one_par _ _ rfl) ?_; intro w7 hb7 hk7 hx; clear hx; have he7 : Ext wr w7 := he6.of_but hk7 (fun k e => by subst e; exact Nat.le_refl _); have HR : Hid (RS w0 w7 q d s V sE ∧ Blk w7 wr.heap.size #[.int .i64 (49156), .slice ua l uc] 138 ∧ BytesAt w7 (.slice ua l uc) m ∧ OwnL 138 w7 w0.heap.size (.slice (some ⟨b, 0, none⟩) N lc) Lp) := ⟨HRl.out.1.grow he7, hb7, HOu.out.bytes.ext he7, HRl.out.2.ext he7⟩; have HO7 : Hid (OB w7 w0.heap.size (.slice ua l uc) m) := HOu.out.ext he7; have x0 : w7.cell? ⟨wr.heap.size, 0, none⟩ = some (.int .i64 (49156)) := hb7.cell 0; have x1 : w7.cell? ⟨wr.heap.size, 1, none⟩ = some (.slice ua l uc) := hb7.cell 1; clear hb6 hb7 hk7 he7 he6 hc0 hc1)
     | (refine wl_alloc rfl rfl zeroP ?_; intro w6 hb6 he6 hx; clear hx)
     | (refine wl_loadP rfl rowP rfl rfl hc0 hc1 ?_))
    have HLn : Hid (d.ops.length ≤ 100000) := HLs.out.2
    have HFp : Hid (W64 ((49156 : Int) - 49152) ∧ W64 (addrV m)) := ⟨by unfold W64; decide, HW.out⟩
    have HKw : IntKind.i64.wrap ((49156 : Int) - 49152) = 49156 - 49152 := by decide
    refine wp_region_W (ParsO w0 q wr.heap.size V d s sE (49156) (.slice ua l uc) m (.slice (some ⟨b, 0, none⟩) N lc) Lp) (fun t => bif Nat.ble 56 t && Nat.ble t 72 then some (t - 56) else none) 74 rfl (by kernel_rfl) rfl (fun vs => ⟨fun _ => ⟨HR.out.1.grow (Ext.drew _), HR.out.2.1.ext (Ext.drew _), HR.out.2.2.1.ext (Ext.drew _)⟩, HR.out.2.2.2.ext (Ext.drew _), fun h => by simp at h, fun h => by simp at h, fun h => by simp at h, fun h => by simp at h, fun h => by simp at h, fun h => by simp at h, fun h => by simp at h, fun h => by simp at h, fun h => by simp at h, fun h => by simp at h, fun h => by simp at h, fun h => by simp at h, fun h => by simp at h, fun h => by simp at h, fun h => by simp at h, fun h => by simp at h, fun h => by simp at h, fun h => by simp at h, fun h => by simp at h, fun h => by simp at h, fun h => by simp at h, fun h => by simp at h, fun h => by simp at h, fun h => by simp at h, fun h => by simp at h, fun h => by simp at h⟩) ?_ ?_
    ·
     refine Ow ⟨rfl, ?_⟩ (Ow ⟨rfl, ?_⟩ (Ow ⟨rfl, ?_⟩ (Ow ⟨rfl, ?_⟩ (Ow ⟨rfl, ?_⟩ (Ow ⟨rfl, ?_⟩ (Ow ⟨rfl, ?_⟩ (Ow ⟨rfl, ?_⟩ (Ow ⟨rfl, ?_⟩ (Ow ⟨rfl, ?_⟩ (Ow ⟨rfl, ?_⟩ (Ow ⟨rfl, ?_⟩ (Ow ⟨rfl, ?_⟩ (Ow ⟨rfl, ?_⟩ (Ow ⟨rfl, ?_⟩ (Ow ⟨rfl, ?_⟩ (Ow ⟨rfl, ?_⟩ (Ow ⟨rfl, ?_⟩ OwedVs.nil)))))))))))))))))
     ·
      intro L vs wx r H hl hL hx
      obtain ⟨h1, _⟩ := hx
      replace h1 : r (.tmp 0) = ptr q := h1
      exact give_move (.inl rfl) (by rw [h1]; exact ⟨H.A, H.P, H.B, H.C, H.S, fun _ => rfl, H.k1, H.k2, H.k3, H.k4, H.k5, H.k6, H.k7, H.k8, H.k9, H.k10, H.k11, H.k14, H.k15, H.k16, H.d10_9, H.d13_5, H.d13_12, H.d17_13, H.d12_11, H.d11_10, H.d11_8, H.d8_7⟩)
     ·
      intro L vs wx r H hl hL hx
      obtain ⟨h1, _⟩ := hx
      replace h1 : r (.tmp 0) = ptr q := h1
      exact give_move (.inl rfl) (by rw [h1]; exact ⟨H.A, H.P, H.B, H.C, H.S, H.k0, fun _ => rfl, H.k2, H.k3, H.k4, H.k5, H.k6, H.k7, H.k8, H.k9, H.k10, H.k11, H.k14, H.k15, H.k16, H.d10_9, H.d13_5, H.d13_12, H.d17_13, H.d12_11, H.d11_10, H.d11_8, H.d8_7⟩)
     ·
      intro L vs wx r H hl hL hx
      obtain ⟨h1, _⟩ := hx
      replace h1 : r (.tmp 57) = ptr q := Eq.trans h1 (H.k1 (hL 1 (by kernel_rfl)))
      exact gvo (by simp [execOp, h1, ptr, go_sem]; done) ⟨H.A, H.P, H.B, H.C, H.S, H.k0, H.k1, fun _ => rfl, H.k3, H.k4, H.k5, H.k6, H.k7, H.k8, H.k9, H.k10, H.k11, H.k14, H.k15, H.k16, H.d10_9, H.d13_5, H.d13_12, H.d17_13, H.d12_11, H.d11_10, H.d11_8, H.d8_7⟩
     ·
      intro L vs wx r H hl hL hx
      obtain ⟨h1, _⟩ := hx
      replace h1 : r (.tmp 58) = ptr q := Eq.trans h1 (H.k2 (hL 2 (by kernel_rfl)))
      exact gvo (by simp [execOp, h1, ptr, go_sem]; done) ⟨H.A, H.P, H.B, H.C, H.S, H.k0, H.k1, H.k2, fun _ => rfl, H.k4, H.k5, H.k6, H.k7, H.k8, H.k9, H.k10, H.k11, H.k14, H.k15, H.k16, H.d10_9, H.d13_5, H.d13_12, H.d17_13, H.d12_11, H.d11_10, H.d11_8, H.d8_7⟩
     ·
      intro L vs wx r H hl hL hx
      obtain ⟨h1, _⟩ := hx
      replace h1 : r (.tmp 59) = ptr q := Eq.trans h1 (H.k3 (hL 3 (by kernel_rfl)))
      exact gvo (by simp [execOp, h1, ptr, go_sem]; done) ⟨H.A, H.P, H.B, H.C, H.S, H.k0, H.k1, H.k2, H.k3, fun _ => rfl, H.k5, H.k6, H.k7, H.k8, H.k9, H.k10, H.k11, H.k14, H.k15, H.k16, H.d10_9, H.d13_5, H.d13_12, H.d17_13, H.d12_11, H.d11_10, H.d11_8, H.d8_7⟩
     ·
      intro L vs wx r H hl hL hx
      obtain ⟨h1, _⟩ := hx
      replace h1 : r (.tmp 60) = .pointer (some ⟨q, 20, none⟩) := Eq.trans h1 (H.k4 (hL 4 (by kernel_rfl)))
      have hAP : L 13 = false := met_no H.d13_5 hl
      obtain ⟨gi, bv, hg⟩ := (H.A hAP).1.g
      exact gvo (exg oneSO rfl h1 (rv20 hg.hb)) ⟨H.A, H.P, H.B, H.C, H.S, H.k0, H.k1, H.k2, H.k3, H.k4, fun _ => rfl, H.k6, H.k7, H.k8, H.k9, H.k10, H.k11, H.k14, H.k15, H.k16, H.d10_9, fun _ => rfl, H.d13_12, H.d17_13, H.d12_11, H.d11_10, H.d11_8, H.d8_7⟩
     ·
      intro L vs wx r H hl hL hx
      obtain ⟨h1, _⟩ := hx
      replace h1 : r (.tmp 5) = ptr wr.heap.size := h1
      exact gvo (by simp [execOp, h1, ptr, go_sem]; done) ⟨H.A, H.P, H.B, H.C, H.S, H.k0, H.k1, H.k2, H.k3, H.k4, H.k5, fun _ => rfl, H.k7, H.k8, H.k9, H.k10, H.k11, H.k14, H.k15, H.k16, H.d10_9, H.d13_5, H.d13_12, H.d17_13, H.d12_11, H.d11_10, H.d11_8, H.d8_7⟩
     ·
      intro L vs wx r H hl hL hx
      obtain ⟨h1, _⟩ := hx
      replace h1 : r (.tmp 62) = ptr wr.heap.size := Eq.trans h1 (H.k6 (hL 6 (by kernel_rfl)))
      have h8 : L 8 = false := met_no H.d8_7 hl
      have h11 : L 11 = false := met_no H.d11_8 h8
      have hBS : L 12 = false := met_no H.d12_11 h11
      have hAP : L 13 = false := met_no H.d13_12 hBS
      exact gvo (exg one3 rfl h1 ((H.A hAP).2.1.cell 0)) ⟨H.A, H.P, H.B, H.C, H.S, H.k0, H.k1, H.k2, H.k3, H.k4, H.k5, H.k6, fun _ => rfl, H.k8, H.k9, H.k10, H.k11, H.k14, H.k15, H.k16, H.d10_9, H.d13_5, H.d13_12, H.d17_13, H.d12_11, H.d11_10, H.d11_8, fun _ => rfl⟩
     ·
      intro L vs wx r H hl hL hx
      obtain ⟨h1, h2, _⟩ := hx
      replace h1 : r (.tmp 63) = .int .i64 (49156) := Eq.trans h1 (H.k7 (hL 7 (by kernel_rfl)))
      replace h2 : r (.const (.int .i64 49152)) = .int .i64 49152 := h2
      exact gvo (by simp [execOp, h1, h2, go_sem]; decide) ⟨H.A, H.P, H.B, H.C, H.S, H.k0, H.k1, H.k2, H.k3, H.k4, H.k5, H.k6, H.k7, fun _ => rfl, H.k9, H.k10, H.k11, H.k14, H.k15, H.k16, H.d10_9, H.d13_5, H.d13_12, H.d17_13, H.d12_11, H.d11_10, fun _ => rfl, fun _ => hL 7 (by kernel_rfl)⟩
     ·
      intro L vs wx r H hl hL hx
      obtain ⟨h1, _⟩ := hx
      replace h1 : r (.tmp 5) = ptr wr.heap.size := h1
      have hCA : L 10 = false := met_no H.d10_9 hl
      have h11 : L 11 = false := met_no H.d11_10 hCA
      have hBS : L 12 = false := met_no H.d12_11 h11
      have hAP : L 13 = false := met_no H.d13_12 hBS
      exact gvo (exec_loadW rowP rfl h1 (H.A hAP).2.1 rfl) ⟨H.A, H.P, H.B, H.C, H.S, H.k0, H.k1, H.k2, H.k3, H.k4, H.k5, H.k6, H.k7, H.k8, fun _ => rfl, H.k10, H.k11, H.k14, H.k15, H.k16, fun _ => rfl, H.d13_5, H.d13_12, H.d17_13, H.d12_11, H.d11_10, H.d11_8, H.d8_7⟩
     ·
      intro L vs wx r H hl hL hx
      obtain ⟨h1, h2, _⟩ := hx
      replace h1 : r (.func 96) = .func (.func 96) #[] #[] := h1
      replace h2 : r (.tmp 65) = .agg #[.int .i64 (49156), .slice ua l uc] := Eq.trans h2 (H.k9 (hL 9 (by kernel_rfl)))
      have h11 : L 11 = false := met_no H.d11_10 hl
      have hBS : L 12 = false := met_no H.d12_11 h11
      have hAP : L 13 = false := met_no H.d13_12 hBS
      have hST : L 17 = false := met_no H.d17_13 hAP
      refine give_func #[.agg #[.int .i64 (49156), .slice ua l uc]] rfl h1 Try.call96 (by simp [h2]) ?_
      refine (addrOf_any (H.A hAP).2.2 HM.out).mono ?_
      rintro e w' ⟨rfl, he⟩
      exact ⟨_, rfl, ⟨fun _ => ⟨(H.A hAP).1.grow he, (H.A hAP).2.1.ext he, (H.A hAP).2.2.ext he⟩, H.P.ext he, fun h => absurd (h.symm.trans hAP) (by decide), fun h => absurd (h.symm.trans hST) (by decide), fun h => absurd (h.symm.trans hBS) (by decide), H.k0, H.k1, H.k2, H.k3, H.k4, H.k5, H.k6, H.k7, H.k8, H.k9, fun _ => rfl, H.k11, H.k14, H.k15, H.k16, fun _ => hL 9 (by kernel_rfl), H.d13_5, H.d13_12, H.d17_13, H.d12_11, fun _ => rfl, H.d11_8, H.d8_7⟩⟩
     ·
      intro L vs wx r H hl hL hx
      obtain ⟨h1, h2, _⟩ := hx
      replace h1 : r (.tmp 64) = .int .i64 ((49156) - 49152) := Eq.trans h1 (H.k8 (hL 8 (by kernel_rfl)))
      replace h2 : r (.tmp 66) = .int .i64 (addrV m) := Eq.trans h2 (H.k10 (hL 10 (by kernel_rfl)))
      refine gvo (v := .agg #[.int .i64 ((49156) - 49152), .int .i64 (addrV m)]) (w' := wx) ?_ ⟨H.A, H.P, H.B, H.C, H.S, H.k0, H.k1, H.k2, H.k3, H.k4, H.k5, H.k6, H.k7, H.k8, H.k9, H.k10, fun _ => rfl, H.k14, H.k15, H.k16, H.d10_9, H.d13_5, H.d13_12, H.d17_13, fun _ => rfl, fun _ => hL 10 (by kernel_rfl), fun _ => hL 8 (by kernel_rfl), H.d8_7⟩
      have hb := run_build (P := Try.prog) wx 69 #[(0, .int .i64 ((49156) - 49152)), (1, .int .i64 (addrV m))] #[.int .i64 ((49156) - 49152), .int .i64 (addrV m)] (by kernel_rfl)
      simp only [Int.reduceSub] at hb
      simp [execOp, h1, h2, hb]
     ·
      intro L vs wx r H hl hL hx
      obtain ⟨h1, _⟩ := hx
      replace h1 : r (.tmp 67) = .agg #[.int .i64 ((49156) - 49152), .int .i64 (addrV m)] := Eq.trans h1 (H.k11 (hL 11 (by kernel_rfl)))
      have hAP : L 13 = false := met_no H.d13_12 hl
      have hST : L 17 = false := met_no H.d17_13 hAP
      exact give_one_pair rfl prO h1 ⟨fun h => ⟨(H.A h).1.grow (Ext.alloc _ _), (H.A h).2.1.ext (Ext.alloc _ _), (H.A h).2.2.ext (Ext.alloc _ _)⟩, H.P.ext (Ext.alloc _ _), fun h => absurd (h.symm.trans hAP) (by decide), fun h => absurd (h.symm.trans hST) (by decide), fun _ _ => pairs_one wx (_, _) _, H.k0, H.k1, H.k2, H.k3, H.k4, H.k5, H.k6, H.k7, H.k8, H.k9, H.k10, H.k11, H.k14, H.k15, H.k16, H.d10_9, H.d13_5, fun _ => rfl, H.d17_13, fun _ => hL 11 (by kernel_rfl), H.d11_10, H.d11_8, H.d8_7⟩
     ·
      intro L vs wx r H hl hL hx
      obtain ⟨h1, h2, _⟩ := hx
      have hST : L 17 = false := met_no H.d17_13 hl
      replace h1 : r (.tmp 61) = .slice s.oA s.oN s.oC := Eq.trans h1 (H.k5 (hL 5 (by kernel_rfl)))
      replace h2 : r (.tmp 68) = vs 12 := h2
      exact give_app_o (H.A hl).1 (H.S (hL 12 (by kernel_rfl)) hl) HLn.out HFp.out rfl h1 h2 (fun ad n cap w' gi bv hf hkk => ⟨fun h => absurd h (by simp [met1]), H.P.butR (g := 0) (H.A hl).1.own.o.1 (by decide) (by decide) hkk, fun _ _ => ⟨ad, n, cap, gi, bv, rfl, hf⟩, fun h => absurd (h.symm.trans hST) (by decide), fun _ h => absurd h (by simp [met1]), H.k0, H.k1, H.k2, H.k3, H.k4, H.k5, H.k6, H.k7, H.k8, H.k9, H.k10, H.k11, H.k14, H.k15, H.k16, H.d10_9, fun _ => hL 5 (by kernel_rfl), fun _ => hL 12 (by kernel_rfl), fun _ => rfl, H.d12_11, H.d11_10, H.d11_8, H.d8_7⟩)
     ·
      intro L vs wx r H hl hL hx
      obtain ⟨h1, _⟩ := hx
      replace h1 : r (.tmp 56) = ptr q := Eq.trans h1 (H.k0 (hL 0 (by kernel_rfl)))
      exact gvo (by simp [execOp, h1, ptr, go_sem]; done) ⟨H.A, H.P, H.B, H.C, H.S, H.k0, H.k1, H.k2, H.k3, H.k4, H.k5, H.k6, H.k7, H.k8, H.k9, H.k10, H.k11, fun _ => rfl, H.k15, H.k16, H.d10_9, H.d13_5, H.d13_12, H.d17_13, H.d12_11, H.d11_10, H.d11_8, H.d8_7⟩
     ·
      intro L vs wx r H hl hL hx
      obtain ⟨h1, _⟩ := hx
      replace h1 : r (.tmp 70) = ptr q := Eq.trans h1 (H.k14 (hL 14 (by kernel_rfl)))
      exact gvo (by simp [execOp, h1, ptr, go_sem]; done) ⟨H.A, H.P, H.B, H.C, H.S, H.k0, H.k1, H.k2, H.k3, H.k4, H.k5, H.k6, H.k7, H.k8, H.k9, H.k10, H.k11, H.k14, fun _ => rfl, H.k16, H.d10_9, H.d13_5, H.d13_12, H.d17_13, H.d12_11, H.d11_10, H.d11_8, H.d8_7⟩
     ·
      intro L vs wx r H hl hL hx
      obtain ⟨h1, _⟩ := hx
      replace h1 : r (.tmp 71) = ptr q := Eq.trans h1 (H.k15 (hL 15 (by kernel_rfl)))
      exact gvo (by simp [execOp, h1, ptr, go_sem]; done) ⟨H.A, H.P, H.B, H.C, H.S, H.k0, H.k1, H.k2, H.k3, H.k4, H.k5, H.k6, H.k7, H.k8, H.k9, H.k10, H.k11, H.k14, H.k15, fun _ => rfl, H.d10_9, H.d13_5, H.d13_12, H.d17_13, H.d12_11, H.d11_10, H.d11_8, H.d8_7⟩
     ·
      intro L vs wx r H hl hL hx
      obtain ⟨h1, h2, _⟩ := hx
      replace h1 : r (.tmp 72) = .pointer (some ⟨q, 20, none⟩) := Eq.trans h1 (H.k16 (hL 16 (by kernel_rfl)))
      obtain ⟨ad, n, cap, gi, bv, e, hf⟩ := H.B (hL 13 (by kernel_rfl)) hl
      replace h2 : r (.tmp 69) = .slice ad n cap := Eq.trans h2 e
      have hk : KeepBut (· = q) wx (wx.setCell ⟨q, 20, none⟩ (.slice ad n cap)) := ⟨rfl, rfl, rfl, by simp, fun k _ hk => block_other hk 20 _⟩
      exact give_skip (exec_set oneSO rfl h1 h2 rfl rfl hf.hb (show 20 < (RV d s (ptr gi)).size from (by decide : 20 < 23))) ⟨fun h => absurd (h.symm.trans (hL 13 (by kernel_rfl))) (by decide), H.P.butB hf.hb (by decide) (by decide) hk, fun _ h => absurd h (by simp [met1]), fun _ => ⟨_, hf.store (fun z => rfl)⟩, fun _ h => absurd (h.symm.trans (hL 13 (by kernel_rfl))) (by decide), H.k0, H.k1, H.k2, H.k3, H.k4, H.k5, H.k6, H.k7, H.k8, H.k9, H.k10, H.k11, H.k14, H.k15, H.k16, H.d10_9, H.d13_5, H.d13_12, fun _ => hL 13 (by kernel_rfl), H.d12_11, H.d11_10, H.d11_8, H.d8_7⟩
    ·
     intro vs2 a2 w8 H ha2
     obtain ⟨s2, hr2⟩ := H.C rfl
     have HR8 : Hid (RS w0 w8 q _ s2 V sE ∧ OwnL 138 w8 w0.heap.size (.slice (some ⟨b, 0, none⟩) N lc) Lp) := ⟨hr2, H.P⟩
     clear hr2 H
     simp only [putAll, Act.put, Nat.zero_add, Nat.reduceAdd, List.setIfInBounds_toArray, List.set_cons_succ, List.set_cons_zero] at ha2
     subst ha2
     go_wp2
     go_roundg (N - (k + 1))
     case measure => omega
     case rel => exact ⟨k + 1, s2, by omega, rfl, by simp, by rw [HT.out, parsT_app, parsT_one, ← HD0.out, parK_o (by decide)]; exact HR8.out⟩
   have e1 : (K == 32770) = false := beq_false_of_ne n1
   have e2 : (K == 5) = false := beq_false_of_ne n2
   have e3 : (K == 1) = false := beq_false_of_ne n3
   have e4 : (K == 7) = false := beq_false_of_ne n4
   have e5 : (K == 49153) = false := beq_false_of_ne n5
   have e6 : (K == 49154) = false := beq_false_of_ne n6
   have e7 : (K == 49156) = false := beq_false_of_ne n7
   go_wp2_with (first
    | (have q_ := hb6; clear q_; refine wl_store (D := #[.int .i64 K, .slice ua l uc]) rfl rowP rfl rfl rfl hb6 rfl rfl (one_par _ _ rfl) ?_; intro w7 hb7 hk7 hx; clear hx; have he7 : Ext wr w7 := he6.of_but hk7 (fun k e => by subst e; exact Nat.le_refl _); have HR : Hid (RS w0 w7 q d s V sE ∧ Blk w7 wr.heap.size #[.int .i64 K, .slice ua l uc] 138 ∧ BytesAt w7 (.slice ua l uc) m ∧ OwnL 138 w7 w0.heap.size (.slice (some ⟨b, 0, none⟩) N lc) Lp) := ⟨HRl.out.1.grow he7, hb7, HOu.out.bytes.ext he7, HRl.out.2.ext he7⟩; have HO7 : Hid (OB w7 w0.heap.size (.slice ua l uc) m) := HOu.out.ext he7; have x0 : w7.cell? ⟨wr.heap.size, 0, none⟩ = some (.int .i64 K) := hb7.cell 0; have x1 : w7.cell? ⟨wr.heap.size, 1, none⟩ = some (.slice ua l uc) := hb7.cell 1; clear hb6 hb7 hk7 he7 he6 hc0 hc1)
    | (refine wl_alloc rfl rfl zeroP ?_; intro w6 hb6 he6 hx; clear hx)
    | (refine wl_loadP rfl rowP rfl rfl hc0 hc1 ?_))
   go_roundg (N - (k + 1))
   case measure => omega
   case rel => exact ⟨k + 1, s, by omega, rfl, by simp, by rw [HT.out, parsT_app, parsT_one, ← HD0.out, parK_no n1 n2 n3 n4 n5 n6 n7]; exact ⟨HR.out.1, HR.out.2.2.2⟩⟩
  ·
   have hd : decide ((k : Int) < (N : Int)) = false := decide_eq_false (by omega)
   have e : Lp.take k = Lp := List.take_of_length_le (by rw [← HN.out]; omega)
   rw [e] at HRl
   go_wp2
   go_end0
   exact ⟨⟨_, rfl⟩, _, _, HRl.out.1⟩
set_option maxRecDepth 100000
set_option maxHeartbeats 16000000 in
theorem valueR_0 {w0 w : World} {q : Nat} {V : List Nat} {F : Nat} (hF : F < 256) (h : RS w0 w q (ck0 0) sv0 V (some 0)) (hA : AllB V) (hV : V.length ≤ 100000) :
  Calls Try.prog 42 #[ptr q, .int .u64 (F : Int)] w (TookIs w0 q (rdPiece F V) V) := by
 obtain ⟨gi, bv, hg⟩ := h.g
 have c0 : w.cell? ⟨q, 0, none⟩ = some (.int .i64 0) := rv0 hg.hb
 have HX : Hid (AllB V ∧ V.length ≤ 1000000) := ⟨hA, by omega⟩
 have HB : Hid (V.length ≤ 100000) := hV
 have HR0 : Hid (RS w0 w q (ck0 0) sv0 V (some 0)) := h
 clear h hA hV hg
 go_enter Try.func42, Try.ntmps42
 go_wp2_with (first
  | (go_at_call 78; refine (piece_any hF HR0.out HX.out.1 HX.out.2).mono ?_; rintro e yz ⟨⟨zz, rfl⟩, hz⟩; have HZ : Hid (∃ s2 st2, RS w0 yz q (rdPiece F V) s2 V st2) := hz; clear hz))
 go_end0
 exact ⟨⟨_, rfl⟩, HZ.out⟩
set_option maxHeartbeats 16000000 in
theorem valueR_3 {w0 w : World} {q : Nat} {V : List Nat} {F : Nat} (hF : F < 256) (h : RS w0 w q (ck0 3) sv0 V (some 0)) (hA : AllB V) (hV : V.length ≤ 100000) :
  Calls Try.prog 42 #[ptr q, .int .u64 (F : Int)] w (TookIs w0 q (rdSack V) V) := by
 obtain ⟨gi, bv, hg⟩ := h.g
 have c0 : w.cell? ⟨q, 0, none⟩ = some (.int .i64 3) := rv0 hg.hb
 have HX : Hid (AllB V ∧ V.length ≤ 1000000) := ⟨hA, by omega⟩
 have HB : Hid (V.length ≤ 100000) := hV
 have HR0 : Hid (RS w0 w q (ck0 3) sv0 V (some 0)) := h
 clear h hA hV hg
 go_enter Try.func42, Try.ntmps42
 go_wp2_with (first
  | (go_at_call 82; refine (sack_any HR0.out HX.out.1 HX.out.2).mono ?_; rintro e yz ⟨⟨zz, rfl⟩, hz⟩; have HZ : Hid (∃ s2 st2, RS w0 yz q (rdSack V) s2 V st2) := hz; clear hz))
 go_end0
 exact ⟨⟨_, rfl⟩, HZ.out⟩
set_option maxHeartbeats 16000000 in
theorem valueR_4 {w0 w : World} {q : Nat} {V : List Nat} {F : Nat} (hF : F < 256) (h : RS w0 w q (ck0 4) sv0 V (some 0)) (hA : AllB V) (hV : V.length ≤ 100000) :
  Calls Try.prog 42 #[ptr q, .int .u64 (F : Int)] w (TookIs w0 q (rdPars (ck0 4) (rdRest V (some 0))) V) := by
 obtain ⟨gi, bv, hg⟩ := h.g
 have c0 : w.cell? ⟨q, 0, none⟩ = some (.int .i64 4) := rv0 hg.hb
 have HX : Hid (AllB V ∧ V.length ≤ 1000000) := ⟨hA, by omega⟩
 have HB : Hid (V.length ≤ 100000) := hV
 have HR0 : Hid (RS w0 w q (ck0 4) sv0 V (some 0)) := h
 clear h hA hV hg
 go_enter Try.func42, Try.ntmps42
 go_wp2_with (first
  | (have q_ := HR0; clear q_; go_at_call 81; refine (paramsR_any HR0.out HB.out ⟨rfl, rfl⟩).mono ?_; rintro e yz ⟨⟨zz, rfl⟩, hz⟩; have HZ : Hid (∃ s2 st2, RS w0 yz q (rdPars (ck0 4) (rdRest V (some 0))) s2 V st2) := hz; clear hz))
 go_end0
 exact ⟨⟨_, rfl⟩, HZ.out⟩
set_option maxHeartbeats 16000000 in
theorem valueR_5 {w0 w : World} {q : Nat} {V : List Nat} {F : Nat} (hF : F < 256) (h : RS w0 w q (ck0 5) sv0 V (some 0)) (hA : AllB V) (hV : V.length ≤ 100000) :
  Calls Try.prog 42 #[ptr q, .int .u64 (F : Int)] w (TookIs w0 q (rdPars (ck0 5) (rdRest V (some 0))) V) := by
 obtain ⟨gi, bv, hg⟩ := h.g
 have c0 : w.cell? ⟨q, 0, none⟩ = some (.int .i64 5) := rv0 hg.hb
 have HX : Hid (AllB V ∧ V.length ≤ 1000000) := ⟨hA, by omega⟩
 have HB : Hid (V.length ≤ 100000) := hV
 have HR0 : Hid (RS w0 w q (ck0 5) sv0 V (some 0)) := h
 clear h hA hV hg
 go_enter Try.func42, Try.ntmps42
 go_wp2_with (first
  | (have q_ := HR0; clear q_; go_at_call 81; refine (paramsR_any HR0.out HB.out ⟨rfl, rfl⟩).mono ?_; rintro e yz ⟨⟨zz, rfl⟩, hz⟩; have HZ : Hid (∃ s2 st2, RS w0 yz q (rdPars (ck0 5) (rdRest V (some 0))) s2 V st2) := hz; clear hz))
 go_end0
 exact ⟨⟨_, rfl⟩, HZ.out⟩
set_option maxHeartbeats 16000000 in
theorem valueR_193 {w0 w : World} {q : Nat} {V : List Nat} {F : Nat} (hF : F < 256) (h : RS w0 w q (ck0 193) sv0 V (some 0)) (hA : AllB V) (hV : V.length ≤ 100000) :
  Calls Try.prog 42 #[ptr q, .int .u64 (F : Int)] w (TookIs w0 q (rdPars { ck0 193 with serial := (numS V (some 0) 4).2 } (rdRest V (st1 V))) V) := by
 obtain ⟨gi, bv, hg⟩ := h.g
 have c0 : w.cell? ⟨q, 0, none⟩ = some (.int .i64 193) := rv0 hg.hb
 have HX : Hid (AllB V ∧ V.length ≤ 1000000) := ⟨hA, by omega⟩
 have HB : Hid (V.length ≤ 100000) := hV
 have HR0 : Hid (RS w0 w q (ck0 193) sv0 V (some 0)) := h
 clear h hA hV hg
 go_enter Try.func42, Try.ntmps42
 go_wp2_with (first
  | (have q_ := HR2; clear q_; go_at_call 81; refine (paramsR_any HR2.out HB.out ⟨rfl, rfl⟩).mono ?_; rintro e yz ⟨⟨zz, rfl⟩, hz⟩; have HZ : Hid (∃ s2 st2, RS w0 yz q (rdPars { ck0 193 with serial := (numS V (some 0) 4).2 } (rdRest V (st1 V))) s2 V st2) := hz; clear hz)
  | (have q_ := HR1; clear q_; refine wl_setR HR1.out rfl one22 19 rfl (by first | rfl | go_simp) (by first | rfl | go_simp) rfl rfl (by decide) ({ ck0 193 with serial := (numS V (some 0) 4).2 }) (sv0) (fun z => rfl) ⟨HR1.out.own.t, HR1.out.own.r, HR1.out.own.a, HR1.out.own.i, HR1.out.own.g, HR1.out.own.d, HR1.out.own.o⟩ { HR1.out.fit with serial := numS_u32 HX.out.1 _ } ?_; intro y2 hr; have HR2 : Hid (RS w0 y2 q ({ ck0 193 with serial := (numS V (some 0) 4).2 }) (sv0) V (st1 V)) := hr; clear hr)
  | (have q_ := HR0; clear q_; go_at_call 79; refine (word_any HR0.out HX.out.1 HX.out.2).mono ?_; rintro e y1 ⟨rfl, hr⟩; have HR1 : Hid (RS w0 y1 q (ck0 193) (sv0) V (st1 V)) := hr; clear hr))
 go_end0
 exact ⟨⟨_, rfl⟩, HZ.out⟩
set_option maxHeartbeats 16000000 in
theorem valueR_1 {w0 w : World} {q : Nat} {V : List Nat} {F : Nat} (hF : F < 256) (h : RS w0 w q (ck0 1) sv0 V (some 0)) (hA : AllB V) (hV : V.length ≤ 100000) :
  Calls Try.prog 42 #[ptr q, .int .u64 (F : Int)] w (TookIs w0 q (rdPars (hdStart 1 V) (rdRest V (st5 V))) V) := by
 obtain ⟨gi, bv, hg⟩ := h.g
 have c0 : w.cell? ⟨q, 0, none⟩ = some (.int .i64 1) := rv0 hg.hb
 have HX : Hid (AllB V ∧ V.length ≤ 1000000) := ⟨hA, by omega⟩
 have HB : Hid (V.length ≤ 100000) := hV
 have HR0 : Hid (RS w0 w q (ck0 1) sv0 V (some 0)) := h
 clear h hA hV hg
 go_enter Try.func42, Try.ntmps42
 go_wp2_with (first
  | (have q_ := HR10; clear q_; go_at_call 81; refine (paramsR_any HR10.out HB.out ⟨rfl, rfl⟩).mono ?_; rintro e yz ⟨⟨zz, rfl⟩, hz⟩; have HZ : Hid (∃ s2 st2, RS w0 yz q (rdPars (hdStart 1 V) (rdRest V (st5 V))) s2 V st2) := hz; clear hz)
  | (have q_ := HR9; clear q_; refine wl_setR HR9.out rfl one22 12 rfl (by first | rfl | go_simp) (by first | rfl | go_simp) rfl rfl (by decide) ({ ck0 1 with tag := (numS V (some 0) 4).2, win := ((numS V (st1 V) 4).2 : Nat), out := ((numS V (st2 V) 2).2 : Nat), inn := ((numS V (st3 V) 2).2 : Nat), tsn := (numS V (st4 V) 4).2 }) (sv0) (fun z => rfl) ⟨HR9.out.own.t, HR9.out.own.r, HR9.out.own.a, HR9.out.own.i, HR9.out.own.g, HR9.out.own.d, HR9.out.own.o⟩ { HR9.out.fit with tsn := numS_u32 HX.out.1 _ } ?_; intro y10 hr; have HR10 : Hid (RS w0 y10 q ({ ck0 1 with tag := (numS V (some 0) 4).2, win := ((numS V (st1 V) 4).2 : Nat), out := ((numS V (st2 V) 2).2 : Nat), inn := ((numS V (st3 V) 2).2 : Nat), tsn := (numS V (st4 V) 4).2 }) (sv0) V (st5 V)) := hr; clear hr)
  | (have q_ := HR8; clear q_; go_at_call 79; refine (word_any HR8.out HX.out.1 HX.out.2).mono ?_; rintro e y9 ⟨rfl, hr⟩; have HR9 : Hid (RS w0 y9 q ({ ck0 1 with tag := (numS V (some 0) 4).2, win := ((numS V (st1 V) 4).2 : Nat), out := ((numS V (st2 V) 2).2 : Nat), inn := ((numS V (st3 V) 2).2 : Nat) }) (sv0) V (st5 V)) := hr; clear hr)
  | (have q_ := HR7; clear q_; refine wl_setR HR7.out rfl one3 11 rfl (by first | rfl | go_simp) (by first | rfl | go_simp) rfl rfl (by decide) ({ ck0 1 with tag := (numS V (some 0) 4).2, win := ((numS V (st1 V) 4).2 : Nat), out := ((numS V (st2 V) 2).2 : Nat), inn := ((numS V (st3 V) 2).2 : Nat) }) (sv0) (fun z => rfl) ⟨HR7.out.own.t, HR7.out.own.r, HR7.out.own.a, HR7.out.own.i, HR7.out.own.g, HR7.out.own.d, HR7.out.own.o⟩ { HR7.out.fit with inn := w64_num HX.out.1 _ _ (by decide) } ?_; intro y8 hr; have HR8 : Hid (RS w0 y8 q ({ ck0 1 with tag := (numS V (some 0) 4).2, win := ((numS V (st1 V) 4).2 : Nat), out := ((numS V (st2 V) 2).2 : Nat), inn := ((numS V (st3 V) 2).2 : Nat) }) (sv0) V (st4 V)) := hr; clear hr)
  | (have q_ := HR6; clear q_; refine wl_setR HR6.out rfl one3 10 rfl (by first | rfl | go_simp) (by first | rfl | go_simp) rfl rfl (by decide) ({ ck0 1 with tag := (numS V (some 0) 4).2, win := ((numS V (st1 V) 4).2 : Nat), out := ((numS V (st2 V) 2).2 : Nat) }) (sv0) (fun z => rfl) ⟨HR6.out.own.t, HR6.out.own.r, HR6.out.own.a, HR6.out.own.i, HR6.out.own.g, HR6.out.own.d, HR6.out.own.o⟩ { HR6.out.fit with out := w64_num HX.out.1 _ _ (by decide) } ?_; intro y7 hr; have HR7 : Hid (RS w0 y7 q ({ ck0 1 with tag := (numS V (some 0) 4).2, win := ((numS V (st1 V) 4).2 : Nat), out := ((numS V (st2 V) 2).2 : Nat) }) (sv0) V (st4 V)) := hr; clear hr)
  | (have q_ := HR5; clear q_; go_at_call 80; refine (number_any HR5.out HX.out.1 HX.out.2 2 (by decide)).mono ?_; rintro e y6 ⟨rfl, hr⟩; have HR6 : Hid (RS w0 y6 q ({ ck0 1 with tag := (numS V (some 0) 4).2, win := ((numS V (st1 V) 4).2 : Nat) }) (sv0) V (st4 V)) := hr; clear hr)
  | (have q_ := HR4; clear q_; go_at_call 80; refine (number_any HR4.out HX.out.1 HX.out.2 2 (by decide)).mono ?_; rintro e y5 ⟨rfl, hr⟩; have HR5 : Hid (RS w0 y5 q ({ ck0 1 with tag := (numS V (some 0) 4).2, win := ((numS V (st1 V) 4).2 : Nat) }) (sv0) V (st3 V)) := hr; clear hr)
  | (have q_ := HR3; clear q_; refine wl_setR HR3.out rfl one3 9 rfl (by first | rfl | go_simp) (by first | rfl | go_simp) rfl rfl (by decide) ({ ck0 1 with tag := (numS V (some 0) 4).2, win := ((numS V (st1 V) 4).2 : Nat) }) (sv0) (fun z => rfl) ⟨HR3.out.own.t, HR3.out.own.r, HR3.out.own.a, HR3.out.own.i, HR3.out.own.g, HR3.out.own.d, HR3.out.own.o⟩ { HR3.out.fit with win := w64_num HX.out.1 _ _ (by decide) } ?_; intro y4 hr; have HR4 : Hid (RS w0 y4 q ({ ck0 1 with tag := (numS V (some 0) 4).2, win := ((numS V (st1 V) 4).2 : Nat) }) (sv0) V (st2 V)) := hr; clear hr)
  | (have q_ := HR2; clear q_; refine wl_setR HR2.out rfl one22 8 rfl (by first | rfl | go_simp) (by first | rfl | go_simp) rfl rfl (by decide) ({ ck0 1 with tag := (numS V (some 0) 4).2 }) (sv0) (fun z => rfl) ⟨HR2.out.own.t, HR2.out.own.r, HR2.out.own.a, HR2.out.own.i, HR2.out.own.g, HR2.out.own.d, HR2.out.own.o⟩ { HR2.out.fit with tag := numS_u32 HX.out.1 _ } ?_; intro y3 hr; have HR3 : Hid (RS w0 y3 q ({ ck0 1 with tag := (numS V (some 0) 4).2 }) (sv0) V (st2 V)) := hr; clear hr)
  | (have q_ := HR1; clear q_; go_at_call 80; refine (number_any HR1.out HX.out.1 HX.out.2 4 (by decide)).mono ?_; rintro e y2 ⟨rfl, hr⟩; have HR2 : Hid (RS w0 y2 q (ck0 1) (sv0) V (st2 V)) := hr; clear hr)
  | (have q_ := HR0; clear q_; go_at_call 79; refine (word_any HR0.out HX.out.1 HX.out.2).mono ?_; rintro e y1 ⟨rfl, hr⟩; have HR1 : Hid (RS w0 y1 q (ck0 1) (sv0) V (st1 V)) := hr; clear hr))
 go_end0
 exact ⟨⟨_, rfl⟩, HZ.out⟩
set_option maxHeartbeats 16000000 in
theorem valueR_2 {w0 w : World} {q : Nat} {V : List Nat} {F : Nat} (hF : F < 256) (h : RS w0 w q (ck0 2) sv0 V (some 0)) (hA : AllB V) (hV : V.length ≤ 100000) :
  Calls Try.prog 42 #[ptr q, .int .u64 (F : Int)] w (TookIs w0 q (rdPars (hdStart 2 V) (rdRest V (st5 V))) V) := by
 obtain ⟨gi, bv, hg⟩ := h.g
 have c0 : w.cell? ⟨q, 0, none⟩ = some (.int .i64 2) := rv0 hg.hb
 have HX : Hid (AllB V ∧ V.length ≤ 1000000) := ⟨hA, by omega⟩
 have HB : Hid (V.length ≤ 100000) := hV
 have HR0 : Hid (RS w0 w q (ck0 2) sv0 V (some 0)) := h
 clear h hA hV hg
 go_enter Try.func42, Try.ntmps42
 go_wp2_with (first
  | (have q_ := HR10; clear q_; go_at_call 81; refine (paramsR_any HR10.out HB.out ⟨rfl, rfl⟩).mono ?_; rintro e yz ⟨⟨zz, rfl⟩, hz⟩; have HZ : Hid (∃ s2 st2, RS w0 yz q (rdPars (hdStart 2 V) (rdRest V (st5 V))) s2 V st2) := hz; clear hz)
  | (have q_ := HR9; clear q_; refine wl_setR HR9.out rfl one22 12 rfl (by first | rfl | go_simp) (by first | rfl | go_simp) rfl rfl (by decide) ({ ck0 2 with tag := (numS V (some 0) 4).2, win := ((numS V (st1 V) 4).2 : Nat), out := ((numS V (st2 V) 2).2 : Nat), inn := ((numS V (st3 V) 2).2 : Nat), tsn := (numS V (st4 V) 4).2 }) (sv0) (fun z => rfl) ⟨HR9.out.own.t, HR9.out.own.r, HR9.out.own.a, HR9.out.own.i, HR9.out.own.g, HR9.out.own.d, HR9.out.own.o⟩ { HR9.out.fit with tsn := numS_u32 HX.out.1 _ } ?_; intro y10 hr; have HR10 : Hid (RS w0 y10 q ({ ck0 2 with tag := (numS V (some 0) 4).2, win := ((numS V (st1 V) 4).2 : Nat), out := ((numS V (st2 V) 2).2 : Nat), inn := ((numS V (st3 V) 2).2 : Nat), tsn := (numS V (st4 V) 4).2 }) (sv0) V (st5 V)) := hr; clear hr)
  | (have q_ := HR8; clear q_; go_at_call 79; refine (word_any HR8.out HX.out.1 HX.out.2).mono ?_; rintro e y9 ⟨rfl, hr⟩; have HR9 : Hid (RS w0 y9 q ({ ck0 2 with tag := (numS V (some 0) 4).2, win := ((numS V (st1 V) 4).2 : Nat), out := ((numS V (st2 V) 2).2 : Nat), inn := ((numS V (st3 V) 2).2 : Nat) }) (sv0) V (st5 V)) := hr; clear hr)
  | (have q_ := HR7; clear q_; refine wl_setR HR7.out rfl one3 11 rfl (by first | rfl | go_simp) (by first | rfl | go_simp) rfl rfl (by decide) ({ ck0 2 with tag := (numS V (some 0) 4).2, win := ((numS V (st1 V) 4).2 : Nat), out := ((numS V (st2 V) 2).2 : Nat), inn := ((numS V (st3 V) 2).2 : Nat) }) (sv0) (fun z => rfl) ⟨HR7.out.own.t, HR7.out.own.r, HR7.out.own.a, HR7.out.own.i, HR7.out.own.g, HR7.out.own.d, HR7.out.own.o⟩ { HR7.out.fit with inn := w64_num HX.out.1 _ _ (by decide) } ?_; intro y8 hr; have HR8 : Hid (RS w0 y8 q ({ ck0 2 with tag := (numS V (some 0) 4).2, win := ((numS V (st1 V) 4).2 : Nat), out := ((numS V (st2 V) 2).2 : Nat), inn := ((numS V (st3 V) 2).2 : Nat) }) (sv0) V (st4 V)) := hr; clear hr)
  | (have q_ := HR6; clear q_; refine wl_setR HR6.out rfl one3 10 rfl (by first | rfl | go_simp) (by first | rfl | go_simp) rfl rfl (by decide) ({ ck0 2 with tag := (numS V (some 0) 4).2, win := ((numS V (st1 V) 4).2 : Nat), out := ((numS V (st2 V) 2).2 : Nat) }) (sv0) (fun z => rfl) ⟨HR6.out.own.t, HR6.out.own.r, HR6.out.own.a, HR6.out.own.i, HR6.out.own.g, HR6.out.own.d, HR6.out.own.o⟩ { HR6.out.fit with out := w64_num HX.out.1 _ _ (by decide) } ?_; intro y7 hr; have HR7 : Hid (RS w0 y7 q ({ ck0 2 with tag := (numS V (some 0) 4).2, win := ((numS V (st1 V) 4).2 : Nat), out := ((numS V (st2 V) 2).2 : Nat) }) (sv0) V (st4 V)) := hr; clear hr)
  | (have q_ := HR5; clear q_; go_at_call 80; refine (number_any HR5.out HX.out.1 HX.out.2 2 (by decide)).mono ?_; rintro e y6 ⟨rfl, hr⟩; have HR6 : Hid (RS w0 y6 q ({ ck0 2 with tag := (numS V (some 0) 4).2, win := ((numS V (st1 V) 4).2 : Nat) }) (sv0) V (st4 V)) := hr; clear hr)
  | (have q_ := HR4; clear q_; go_at_call 80; refine (number_any HR4.out HX.out.1 HX.out.2 2 (by decide)).mono ?_; rintro e y5 ⟨rfl, hr⟩; have HR5 : Hid (RS w0 y5 q ({ ck0 2 with tag := (numS V (some 0) 4).2, win := ((numS V (st1 V) 4).2 : Nat) }) (sv0) V (st3 V)) := hr; clear hr)
  | (have q_ := HR3; clear q_; refine wl_setR HR3.out rfl one3 9 rfl (by first | rfl | go_simp) (by first | rfl | go_simp) rfl rfl (by decide) ({ ck0 2 with tag := (numS V (some 0) 4).2, win := ((numS V (st1 V) 4).2 : Nat) }) (sv0) (fun z => rfl) ⟨HR3.out.own.t, HR3.out.own.r, HR3.out.own.a, HR3.out.own.i, HR3.out.own.g, HR3.out.own.d, HR3.out.own.o⟩ { HR3.out.fit with win := w64_num HX.out.1 _ _ (by decide) } ?_; intro y4 hr; have HR4 : Hid (RS w0 y4 q ({ ck0 2 with tag := (numS V (some 0) 4).2, win := ((numS V (st1 V) 4).2 : Nat) }) (sv0) V (st2 V)) := hr; clear hr)
  | (have q_ := HR2; clear q_; refine wl_setR HR2.out rfl one22 8 rfl (by first | rfl | go_simp) (by first | rfl | go_simp) rfl rfl (by decide) ({ ck0 2 with tag := (numS V (some 0) 4).2 }) (sv0) (fun z => rfl) ⟨HR2.out.own.t, HR2.out.own.r, HR2.out.own.a, HR2.out.own.i, HR2.out.own.g, HR2.out.own.d, HR2.out.own.o⟩ { HR2.out.fit with tag := numS_u32 HX.out.1 _ } ?_; intro y3 hr; have HR3 : Hid (RS w0 y3 q ({ ck0 2 with tag := (numS V (some 0) 4).2 }) (sv0) V (st2 V)) := hr; clear hr)
  | (have q_ := HR1; clear q_; go_at_call 80; refine (number_any HR1.out HX.out.1 HX.out.2 4 (by decide)).mono ?_; rintro e y2 ⟨rfl, hr⟩; have HR2 : Hid (RS w0 y2 q (ck0 2) (sv0) V (st2 V)) := hr; clear hr)
  | (have q_ := HR0; clear q_; go_at_call 79; refine (word_any HR0.out HX.out.1 HX.out.2).mono ?_; rintro e y1 ⟨rfl, hr⟩; have HR1 : Hid (RS w0 y1 q (ck0 2) (sv0) V (st1 V)) := hr; clear hr))
 go_end0
 exact ⟨⟨_, rfl⟩, HZ.out⟩
/-- What a reader takes of any value. -/
theorem value_anyR {w0 w : World} {q : Nat} {V : List Nat} {F k : Nat} (hF : F < 256) (h : RS w0 w q (ck0 (k : Int)) sv0 V (some 0)) (hA : AllB V) (hV : V.length ≤ 100000) :
  Calls Try.prog 42 #[ptr q, .int .u64 (F : Int)] w (TookIs w0 q (rdC (k : Int) F V) V) := by
 have hV1 : V.length ≤ 1000000 := by omega
 by_cases k0 : k = 0
 ·
  subst k0
  rw [show ((0 : Nat) : Int) = 0 from rfl] at h ⊢
  rw [rdC, if_pos (by decide)]
  exact valueR_0 hF h hA hV
 by_cases k1 : k = 1
 ·
  subst k1
  rw [show ((1 : Nat) : Int) = 1 from rfl] at h ⊢
  rw [rdC, if_neg (by decide), if_pos (by decide)]
  exact valueR_1 hF h hA hV
 by_cases k2 : k = 2
 ·
  subst k2
  rw [show ((2 : Nat) : Int) = 2 from rfl] at h ⊢
  rw [rdC, if_neg (by decide), if_pos (by decide)]
  exact valueR_2 hF h hA hV
 by_cases k3 : k = 3
 ·
  subst k3
  rw [show ((3 : Nat) : Int) = 3 from rfl] at h ⊢
  rw [rdC, if_neg (by decide), if_neg (by decide), if_pos (by decide)]
  exact valueR_3 hF h hA hV
 by_cases k4 : k = 4
 ·
  subst k4
  rw [show ((4 : Nat) : Int) = 4 from rfl] at h ⊢
  rw [rdC, if_neg (by decide), if_neg (by decide), if_neg (by decide), if_pos (by decide)]
  exact valueR_4 hF h hA hV
 by_cases k5 : k = 5
 ·
  subst k5
  rw [show ((5 : Nat) : Int) = 5 from rfl] at h ⊢
  rw [rdC, if_neg (by decide), if_neg (by decide), if_neg (by decide), if_pos (by decide)]
  exact valueR_5 hF h hA hV
 by_cases k6 : k = 6
 ·
  subst k6
  rw [show ((6 : Nat) : Int) = 6 from rfl] at h ⊢
  rw [rdC, if_neg (by decide), if_neg (by decide), if_neg (by decide), if_neg (by decide), if_pos (by decide)]
  exact valueR_6 h hA hV1
 by_cases k7 : k = 7
 ·
  subst k7
  rw [show ((7 : Nat) : Int) = 7 from rfl] at h ⊢
  rw [rdC, if_neg (by decide), if_neg (by decide), if_neg (by decide), if_neg (by decide), if_neg (by decide), if_pos (by decide)]
  exact valueR_7 h hA hV1
 by_cases k9 : k = 9
 ·
  subst k9
  rw [show ((9 : Nat) : Int) = 9 from rfl] at h ⊢
  rw [rdC, if_neg (by decide), if_neg (by decide), if_neg (by decide), if_neg (by decide), if_pos (by decide)]
  exact valueR_9 h hA hV1
 by_cases k10 : k = 10
 ·
  subst k10
  rw [show ((10 : Nat) : Int) = 10 from rfl] at h ⊢
  rw [rdC, if_neg (by decide), if_neg (by decide), if_neg (by decide), if_neg (by decide), if_neg (by decide), if_neg (by decide), if_pos (by decide)]
  exact valueR_10 h hA hV1
 by_cases k15 : k = 15
 ·
  subst k15
  rw [show ((15 : Nat) : Int) = 15 from rfl] at h ⊢
  rw [rdC, if_neg (by decide), if_neg (by decide), if_neg (by decide), if_neg (by decide), if_neg (by decide), if_neg (by decide), if_pos (by decide)]
  exact valueR_15 h hA hV1
 by_cases k128 : k = 128
 ·
  subst k128
  rw [show ((128 : Nat) : Int) = 128 from rfl] at h ⊢
  rw [rdC, if_neg (by decide), if_neg (by decide), if_neg (by decide), if_neg (by decide), if_neg (by decide), if_neg (by decide), if_neg (by decide), if_neg (by decide), if_pos (by decide)]
  exact valueR_128 h hA hV1
 by_cases k193 : k = 193
 ·
  subst k193
  rw [show ((193 : Nat) : Int) = 193 from rfl] at h ⊢
  rw [rdC, if_neg (by decide), if_neg (by decide), if_neg (by decide), if_neg (by decide), if_neg (by decide), if_neg (by decide), if_neg (by decide), if_pos (by decide)]
  exact valueR_193 hF h hA hV
 have e : rdC (k : Int) F V = ck0 (k : Int) := by
  rw [rdC, if_neg (by omega), if_neg (by omega), if_neg (by omega), if_neg (by omega), if_neg (by omega), if_neg (by omega), if_neg (by omega), if_neg (by omega), if_neg (by omega)]
 rw [e]
 exact valueR_no h (show (k : Int) ≠ 0 by omega) (show (k : Int) ≠ 1 by omega) (show (k : Int) ≠ 2 by omega) (show (k : Int) ≠ 3 by omega) (show (k : Int) ≠ 4 by omega) (show (k : Int) ≠ 5 by omega) (show (k : Int) ≠ 10 by omega) (show (k : Int) ≠ 15 by omega) (show (k : Int) ≠ 6 by omega) (show (k : Int) ≠ 9 by omega) (show (k : Int) ≠ 7 by omega) (show (k : Int) ≠ 193 by omega) (show (k : Int) ≠ 128 by omega)
theorem hdV_len {B : List Nat} (h : AllB B) : (hdV B).length ≤ 65535 := by
 unfold hdV
 have hL : hdL B < 65536 := numS2_lt h _
 unfold takeS
 cases hdS3 B with
 | none => simp
 | some a =>
  simp only
  split
  ·
   rw [List.length_take]; omega
  ·
   simp
/-- What is read of any bytes. -/
theorem readC_any {w : World} {v : Value} {B : List Nat} (hv : BytesAt w v B) (hB : B.length ≤ 1000000) :
  Calls Try.prog 17 #[v] w (ReadIs w B (rdC (hdK B : Int) (hdF B) (hdV B))) :=
 readC_of hv hB _ fun w0 w' q h => value_anyR (numS_u8 hv.1 _) h (takeS_all hv.1 _ _) (Nat.le_trans (hdV_len hv.1) (by decide))
/-- A good chunk's bytes are read to it. -/
theorem readC_good {w : World} {v : Value} {c : Ck} (hg : GoodC c) (hf : Fit c) (hv : BytesAt w v (bytesB c)) (hB : (bytesB c).length ≤ 1000000) :
  Calls Try.prog 17 #[v] w fun e w' => Ext w w' ∧ ∃ s, e = .returned (.tuple #[.agg (CV c s), .nilIface]) ∧ CkAt w' s c := by
 have h := readC_any hv hB
 rw [rd_bytes hg hf rfl] at h
 refine h.mono fun e w' hh => ?_
 obtain ⟨he, ⟨_, _, _, s, h1, h2⟩ | ⟨hn, _⟩⟩ := hh
 ·
  exact ⟨he, s, h1, h2⟩
 ·
  exact absurd ⟨(goodB_iff c).2 hg, rfl⟩ hn
end Tlv
end Go.Proofs.Ytbahelhohkhkmaa
