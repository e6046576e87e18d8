/- Texts of the seat, one behind the other. No condition of its own. -/
import Derived.Test.YtfhoielfekeihaaDoorMgM6
/- A cookie's bytes, by the program. Condition: the tables hold what the text lays. -/
namespace Go.Proofs.YtfhoielfekeihaaDoor
namespace Tlv
open Go Go.RowKit
set_option linter.unusedVariables false
set_option linter.unusedSimpArgs false
set_option maxRecDepth 100000


/-- A cookie's bytes. -/
def makeK (K : List Nat) (c : Co) : List Nat := laidK c ++ Mac.tag K (laidK c)
theorem laidK_le {c : Co} (h : goodK c = true) : (laidK c).length ≤ 200 := by
  have := goodK_nums h
  rw [laidK_len]; omega
theorem laidK_ge (c : Co) : 49 ≤ (laidK c).length := by rw [laidK_len]; omega
theorem makeK_len (K : List Nat) (c : Co) : (makeK K c).length = (laidK c).length + 32 := by unfold makeK; rw [List.length_append, Mac.tag_len]
theorem makeK_all (K : List Nat) {c : Co} (h : AllB (laidK c)) : AllB (makeK K c) := h.app (Mac.tag_all _ _)
/-- What Make answers. -/
def MakeIs (w : World) (K : List Nat) (c : Co) (e : Ending) (w' : World) : Prop :=
  Ext w w' ∧ ((goodK c = false ∧ e = .returned (.tuple #[.slice none 0 0, errF])) ∨ (goodK c = true ∧ ∃ a n cp, e = .returned (.tuple #[.slice a n cp, .nilIface]) ∧ n = (makeK K c).length ∧ OB w' w.heap.size (.slice a n cp) (makeK K c)))
set_option maxHeartbeats 8000000 in
theorem make_any {w : World} {kv : Value} {K : List Nat} {c : Co} {s : So} (hT : Tabs w) (hk : BytesAt w kv K) (hK : K.length ≤ 90000) (ha : CoAt w s c) (hf : FitC c) :
    Calls Tryd.prog 10 #[kv, .agg (KV c s)] w (MakeIs w K c) := by
  cases hgd : goodK c with
  | false =>
    obtain ⟨ka, kc, rfl, _, _⟩ := hk.form
    rename_i z1 z2
    clear z1 z2
    go_enter Tryd.func10, Tryd.ntmps10
    go_wp2_with (first
      | (refine wl_box (C := KV c s) rfl rfl rfl ?_; intro w1 hb1 he1 hx; clear hx)
      | (refine wl_load rfl rowC rfl rfl hb1 rfl ?_)
      | (go_at_call 12; refine (goodK_any (ha.ext he1)).mono ?_; rintro e w2 ⟨rfl, he2⟩; rw [hgd]))
    go_ret2
    exact ⟨he1.trans he2, .inl ⟨hgd, rfl⟩⟩
  | true =>
    obtain ⟨ka, kc, rfl, _, _⟩ := hk.form
    rename_i z1 z2
    clear z1 z2
    obtain ⟨V, hV⟩ : ∃ V, V = laidK c := ⟨_, rfl⟩
    obtain ⟨D, hD⟩ : ∃ D, D = Mac.tag K V := ⟨_, rfl⟩
    have HX : Hid (Tabs w ∧ BytesAt w (.slice ka K.length kc) K ∧ K.length ≤ 90000 ∧ CoAt w s c ∧ FitC c ∧ goodK c = true) := ⟨hT, hk, hK, ha, hf, hgd⟩
    have HV : Hid (V = laidK c ∧ V.length ≤ 200) := ⟨hV, by rw [hV]; exact laidK_le hgd⟩
    have HD : Hid (D = Mac.tag K V ∧ D.length = 32 ∧ Sha.AllB D ∧ makeK K c = V ++ D) := ⟨hD, by rw [hD]; exact Mac.tag_len _ _, by rw [hD]; exact Mac.tag_all _ _, by rw [hD, hV]; rfl⟩
    clear hT hk hK hf hV hD
    go_enter Tryd.func10, Tryd.ntmps10
    go_wp2_with (first
      | (have q := st9; clear q; go_at_call 23; refine (ocBytes st9 (by have := HV.out.2; have := HD.out.2.1; rw [List.length_append]; omega)).mono ?_; rintro e wz ⟨az, nz, cz, rfl, hnz, hoz, hez⟩; have HZ : Hid (nz = (V ++ D).length) := hnz; clear hnz)
      | (have q := he8; clear q; go_at_call 24; refine (ocPut st8 (bytes_ofBlk hb8 HD.out.2.2.1 HD.out.2.1 (by decide)) (by have := HV.out.2; have := HD.out.2.1; omega)).mono ?_; rintro e w9 ⟨⟨y9, rfl⟩, st9, kk9⟩; clear kk9)
      | (have q := he6; clear q; refine wl_alloc rfl rfl zero25 ?_; intro w7 hb7 he7 hx; clear hx; refine wl_store (D := bA D) rfl row25 rfl rfl rfl hb7 (by rw [bA_size, HD.out.2.1]) rfl (bA_one _) ?_; intro w8 hb8 hk8 hx; clear hx; have he8 := he7.of_but hk8 (fun k e => by subst e; exact Nat.le_refl _); have st8 := st6.ext he8; clear hk8 he7 hb7)
      | (have q := st5; clear q; go_at_call 22; refine (macSum_one rfl (HX.out.1.ext HE5.out) (HX.out.2.1.ext HE5.out) hoz5.bytes HX.out.2.2.1 (by have := HV.out.2; omega)).mono ?_; rintro e w6 ⟨rfl, he6⟩; rw [← HD.out.1]; have st6 := st5.ext he6)
      | (have q := st4; clear q; go_at_call 23; refine (ocBytes st4 (by have := HV.out.2; omega)).mono ?_; rintro e w5 ⟨a5, n5, c5, rfl, hn5, hoz5, he5⟩; clear hn5; have st5 := st4.ext he5; have HE5 : Hid (Ext w w5) := (he1.trans he2).trans (st5.out))
      | (have q := st3; clear q; go_at_call 21; refine (write_any9 st3 (HX.out.2.2.2.1.ext (he1.trans he2)) HX.out.2.2.2.2.1 HX.out.2.2.2.2.2 (by simp)).mono ?_; rintro e w4 ⟨⟨y4, rfl⟩, st4, kk4⟩; clear kk4; rw [List.nil_append, ← HV.out.1] at st4)
      | (have q := st3; clear q; refine wl_load rfl rowC rfl rfl (hb1.ext (he2.trans st3.out)) rfl ?_)
      | (have q := he2; clear q; refine wl_alloc rfl rfl zeroO ?_; intro w3 hb3 he3 hx; clear hx; have st3 := OC.new hb3 he3; clear hb3 he3)
      | (refine wl_box (C := KV c s) rfl rfl rfl ?_; intro w1 hb1 he1 hx; clear hx)
      | (refine wl_load rfl rowC rfl rfl hb1 rfl ?_)
      | (go_at_call 12; refine (goodK_any (ha.ext he1)).mono ?_; rintro e w2 ⟨rfl, he2⟩; rw [hgd]))
    go_ret2
    exact ⟨((he1.trans he2).trans st9.out).trans hez, .inr ⟨hgd, _, _, _, rfl, by rw [HD.out.2.2.2]; exact HZ.out, by rw [HD.out.2.2.2]; exact hoz.base (he1.trans he2).size⟩⟩
end Tlv
end Go.Proofs.YtfhoielfekeihaaDoor

/- What is read of a cookie's bytes. No condition of its own. -/
namespace Go.Proofs.YtfhoielfekeihaaDoor
namespace Tlv
open Go Go.RowKit
set_option linter.unusedVariables false
set_option linter.unusedSimpArgs false
set_option maxRecDepth 100000


theorem be_fold (n k : Nat) : ∀ a : Nat, (be n k).foldl (fun a b => 256 * a + b) a = a * 256 ^ k + n % 256 ^ k := by
  induction k with
  | zero => intro a; simp [be, Nat.mod_one]
  | succ k ih =>
    intro a
    rw [be, List.foldl_cons, ih, Nat.mod_pow_succ, Nat.pow_succ]
    generalize n / 256 ^ k % 256 = x
    generalize n % 256 ^ k = y
    generalize 256 ^ k = z
    rw [Nat.add_mul, Nat.mul_comm x z, show 256 * a * z = a * (z * 256) by rw [Nat.mul_comm 256 a, Nat.mul_assoc, Nat.mul_comm 256 z]]
    omega
theorem val_be {n k : Nat} (h : n < 256 ^ k) : val (be n k) = n := by
  unfold val; rw [be_fold, Nat.mod_eq_of_lt h]; omega
theorem take_at {P Q R B : List Nat} {a : Nat} {n : Int} (hB : B = P ++ (Q ++ R)) (ha : a = P.length) (hn : n = (Q.length : Int)) : takeS B (some a) n = (some (a + Q.length), Q) := by
  subst hB ha hn
  rw [takeS_yes (by omega) (by simp; omega), Int.toNat_natCast, List.drop_left, List.take_left]
theorem numS_at {P R B : List Nat} {n k a : Nat} (hk : k = 1 ∨ k = 2 ∨ k = 4 ∨ k = 8) (hn : n < 256 ^ k) (hB : B = P ++ (be n k ++ R)) (ha : a = P.length) : numS B (some a) (k : Int) = (some (a + k), n) := by
  have hs : isSz (k : Int) = true := by rcases hk with rfl | rfl | rfl | rfl <;> rfl
  unfold numS
  rw [if_pos hs, take_at hB ha (by rw [be_len]), be_len, val_be hn]
theorem num4_at {P R B : List Nat} {n a : Nat} (hn : n < 4294967296) (hB : B = P ++ (be n 4 ++ R)) (ha : a = P.length) : numS B (some a) 4 = (some (a + 4), n) := numS_at (k := 4) (.inr (.inr (.inl rfl))) hn hB ha
theorem num2_at {P R B : List Nat} {n a : Nat} (hn : n < 65536) (hB : B = P ++ (be n 2 ++ R)) (ha : a = P.length) : numS B (some a) 2 = (some (a + 2), n) := numS_at (k := 2) (.inr (.inl rfl)) hn hB ha
theorem num1_at {P R B : List Nat} {n a : Nat} (hn : n < 256) (hB : B = P ++ (be n 1 ++ R)) (ha : a = P.length) : numS B (some a) 1 = (some (a + 1), n) := numS_at (k := 1) (.inl rfl) hn hB ha
theorem num8_at {P R B : List Nat} {n a : Nat} (hn : n < 18446744073709551616) (hB : B = P ++ (be n 8 ++ R)) (ha : a = P.length) : numS B (some a) 8 = (some (a + 8), n) := numS_at (k := 8) (.inr (.inr (.inr rfl))) hn hB ha
theorem numS_u32 {B : List Nat} (h : AllB B) (s : Option Nat) : (numS B s 4).2 < 4294967296 := by
  unfold numS
  rw [if_pos (by decide)]
  refine val_lt (takeS_all h s 4) 4 ?_
  unfold takeS
  cases s with
  | none => simp
  | some a =>
    simp only
    split
    · rw [List.length_take]; simp; omega
    · simp
theorem numS_u8 {B : List Nat} (h : AllB B) (s : Option Nat) : (numS B s 1).2 < 256 := by
  unfold numS
  rw [if_pos (by decide)]
  refine val_lt (takeS_all h s 1) 1 ?_
  unfold takeS
  cases s with
  | none => simp
  | some a =>
    simp only
    split
    · rw [List.length_take]; simp; omega
    · simp
theorem numS_w8 {B : List Nat} (h : AllB B) (s : Option Nat) : W64 (((numS B s 1).2 : Nat) : Int) := by have := numS_u8 h s; unfold W64; omega
theorem numS_w4 {B : List Nat} (h : AllB B) (s : Option Nat) : W64 (((numS B s 4).2 : Nat) : Int) := by have := numS_u32 h s; unfold W64; omega
theorem wrap_w64 (n : Int) : W64 (wrap64 n) := by unfold wrap64 W64; omega
/-- Addresses that are read one behind the other. -/
def adS (B : List Nat) (s : Option Nat) : Nat → Option Nat × List Int
  | 0 => (s, [])
  | i + 1 => ((numS B (adS B s i).1 4).1, (adS B s i).2 ++ [((((numS B (adS B s i).1 4).2 : Nat)) : Int)])
theorem adS_len (B : List Nat) (s : Option Nat) : ∀ k, (adS B s k).2.length = k
  | 0 => rfl
  | k + 1 => by rw [adS, List.length_append, adS_len B s k]; rfl
/-! Where it reads. -/
def q1 (B : List Nat) : Option Nat := (numS B (some 0) 8).1
def q2 (B : List Nat) : Option Nat := (numS B (q1 B) 8).1
def q3 (B : List Nat) : Option Nat := (numS B (q2 B) 4).1
def q4 (B : List Nat) : Option Nat := (numS B (q3 B) 4).1
def q5 (B : List Nat) : Option Nat := (numS B (q4 B) 4).1
def q6 (B : List Nat) : Option Nat := (numS B (q5 B) 4).1
def q7 (B : List Nat) : Option Nat := (numS B (q6 B) 4).1
def q8 (B : List Nat) : Option Nat := (numS B (q7 B) 1).1
def q9 (B : List Nat) : Option Nat := (numS B (q8 B) 1).1
def q10 (B : List Nat) : Option Nat := (numS B (q9 B) 1).1
def nA (B : List Nat) : Nat := (numS B (q9 B) 1).2
def q11 (B : List Nat) : Option Nat := (adS B (q10 B) (nA B)).1
def q12 (B : List Nat) : Option Nat := (numS B (q11 B) 1).1
def nM (B : List Nat) : Nat := (numS B (q11 B) 1).2
def q13 (B : List Nat) : Option Nat := (takeS B (q12 B) (nM B)).1
def q14 (B : List Nat) : Option Nat := (numS B (q13 B) 1).1
def nP (B : List Nat) : Nat := (numS B (q13 B) 1).2
def q15 (B : List Nat) : Option Nat := (takeS B (q14 B) (nP B)).1
def q16 (B : List Nat) : Option Nat := (numS B (q15 B) 4).1
def q17 (B : List Nat) : Option Nat := (numS B (q16 B) 4).1
/-- What is read. -/
def readK (B : List Nat) : Co :=
  ⟨wrap64 ((numS B (some 0) 8).2 : Nat), wrap64 ((numS B (q1 B) 8).2 : Nat), (numS B (q2 B) 4).2, (numS B (q3 B) 4).2, (numS B (q4 B) 4).2, (numS B (q5 B) 4).2, ((numS B (q6 B) 4).2 : Nat), ((numS B (q7 B) 1).2 : Nat), ((numS B (q8 B) 1).2 : Nat), (adS B (q10 B) (nA B)).2, (takeS B (q12 B) (nM B)).2, (takeS B (q14 B) (nP B)).2, (numS B (q15 B) 4).2, (numS B (q16 B) 4).2⟩
/-- Whether just that was there. -/
def endK (B : List Nat) : Bool := endS B (q17 B)
theorem readK_fit {B : List Nat} (h : AllB B) : FitC (readK B) :=
  ⟨wrap_w64 _, wrap_w64 _, numS_u32 h _, numS_u32 h _, numS_u32 h _, numS_u32 h _, numS_w4 h _, numS_w8 h _, numS_w8 h _, by
    show ∀ x ∈ (adS B (q10 B) (nA B)).2, W64 x
    have : ∀ k, ∀ x ∈ (adS B (q10 B) k).2, W64 x := by
      intro k
      induction k with
      | zero => intro x hx; simp [adS] at hx
      | succ k ih =>
        intro x hx
        rw [adS, List.mem_append, List.mem_singleton] at hx
        rcases hx with hx | rfl
        · exact ih x hx
        · exact numS_w4 h _
    exact this _, numS_u32 h _, numS_u32 h _⟩
theorem readK_allM {B : List Nat} (h : AllB B) : AllB (readK B).mr ∧ AllB (readK B).pr := ⟨takeS_all h _ _, takeS_all h _ _⟩

/-! ### A good cookie's bytes are read to it -/
theorem adsV_app (L M : List Int) : adsV (L ++ M) = adsV L ++ adsV M := by simp [adsV]
theorem adsV_cut {L : List Int} {k : Nat} (hk : k < L.length) : adsV L = adsV (L.take k) ++ (be (L.getD k 0).toNat 4 ++ adsV (L.drop (k + 1))) := by
  have e : L = L.take k ++ ([L.getD k 0] ++ L.drop (k + 1)) := by
    have : L.drop k = L.getD k 0 :: L.drop (k + 1) := by rw [List.drop_eq_getElem_cons hk]; simp [List.getD_eq_getElem?_getD, hk]
    calc L = L.take k ++ L.drop k := (List.take_append_drop k L).symm
      _ = _ := by rw [this]; rfl
  conv => lhs; rw [e, adsV_app, adsV_app]
  simp [adsV]
theorem adS_at {P R B : List Nat} {L : List Int} {a : Nat} (hL : ∀ x ∈ L, 1 ≤ x ∧ x ≤ 2147483647) (hB : B = P ++ (adsV L ++ R)) (ha : a = P.length) : ∀ k, k ≤ L.length → adS B (some a) k = (some (a + 4 * k), L.take k) := by
  intro k
  induction k with
  | zero => intro _; simp [adS]
  | succ k ih =>
    intro hk
    have h1 := ih (by omega)
    have hx := mem_getD hL 0 (show k < L.length by omega)
    have h2 : numS B (some (a + 4 * k)) 4 = (some (a + 4 * k + 4), (L.getD k 0).toNat) := by
      refine num4_at (P := P ++ adsV (L.take k)) (R := adsV (L.drop (k + 1)) ++ R) (by omega) ?_ ?_
      · rw [hB, adsV_cut (show k < L.length by omega)]; simp only [List.append_assoc]
      · rw [List.length_append, adsV_len, List.length_take, ha]; omega
    rw [adS, h1]
    dsimp only
    rw [h2]
    dsimp only
    rw [Int.toNat_of_nonneg (by omega)]
    have h3 : L.take (k + 1) = L.take k ++ [L.getD k 0] := by
      rw [List.take_succ_eq_append_getElem (show k < L.length by omega)]
      simp [List.getD_eq_getElem?_getD, show k < L.length by omega]
    rw [h3, show a + 4 * k + 4 = a + 4 * (k + 1) by omega]
set_option maxHeartbeats 4000000 in
theorem read_laid {c : Co} (hg : goodK c = true) (hf : FitC c) : readK (laidK c) = c ∧ endK (laidK c) = true := by
  have hn := goodK_nums hg
  obtain ⟨made, life, mine, peers, mtsn, ptsn, win, out, inn, addrs, mr, pr, tm, tp⟩ := c
  dsimp only at hn
  obtain ⟨M, rfl⟩ : ∃ W : Nat, made = (W : Int) := ⟨made.toNat, by omega⟩
  obtain ⟨L, rfl⟩ : ∃ W : Nat, life = (W : Int) := ⟨life.toNat, by omega⟩
  obtain ⟨W, rfl⟩ : ∃ W : Nat, win = (W : Int) := ⟨win.toNat, by omega⟩
  obtain ⟨O, rfl⟩ : ∃ W : Nat, out = (W : Int) := ⟨out.toNat, by omega⟩
  obtain ⟨I, rfl⟩ : ∃ W : Nat, inn = (W : Int) := ⟨inn.toNat, by omega⟩
  have f1 := hf.mine
  have f2 := hf.peers
  have f3 := hf.mtsn
  have f4 := hf.ptsn
  have f5 := hf.tm
  have f6 := hf.tp
  dsimp only at f1 f2 f3 f4 f5 f6
  obtain ⟨B, hB⟩ : ∃ B, B = laidK ⟨(M : Int), (L : Int), mine, peers, mtsn, ptsn, (W : Int), (O : Int), (I : Int), addrs, mr, pr, tm, tp⟩ := ⟨_, rfl⟩
  rw [← hB]
  have e : B = be M 8 ++ (be L 8 ++ (be mine 4 ++ (be peers 4 ++ (be mtsn 4 ++ (be ptsn 4 ++ (be W 4 ++ (be O 1 ++ (be I 1 ++ (be addrs.length 1 ++ (adsV addrs ++ (be mr.length 1 ++ (mr ++ (be pr.length 1 ++ (pr ++ (be tm 4 ++ (be tp 4)))))))))))))))) := by
    rw [hB]
    unfold laidK headV tailV
    dsimp only
    simp only [Int.toNat_natCast, List.append_assoc]
  clear hB
  have n0 : numS B (some 0) 8 = (some 8, M) := num8_at (P := []) (R := be L 8 ++ (be mine 4 ++ (be peers 4 ++ (be mtsn 4 ++ (be ptsn 4 ++ (be W 4 ++ (be O 1 ++ (be I 1 ++ (be addrs.length 1 ++ (adsV addrs ++ (be mr.length 1 ++ (mr ++ (be pr.length 1 ++ (pr ++ (be tm 4 ++ (be tp 4)))))))))))))))) (B := B) (a := 0) (by omega) (by rw [e] <;> simp only [List.append_assoc, List.append_nil, List.nil_append]) (by simp only [List.length_append, be_len, adsV_len, List.length_nil])
  have n1 : numS B (some 8) 8 = (some 16, L) := num8_at (P := be M 8) (R := be mine 4 ++ (be peers 4 ++ (be mtsn 4 ++ (be ptsn 4 ++ (be W 4 ++ (be O 1 ++ (be I 1 ++ (be addrs.length 1 ++ (adsV addrs ++ (be mr.length 1 ++ (mr ++ (be pr.length 1 ++ (pr ++ (be tm 4 ++ (be tp 4))))))))))))))) (B := B) (a := 8) (by omega) (by rw [e] <;> simp only [List.append_assoc, List.append_nil, List.nil_append]) (by simp only [List.length_append, be_len, adsV_len, List.length_nil])
  have n2 : numS B (some 16) 4 = (some 20, mine) := num4_at (P := be M 8 ++ (be L 8)) (R := be peers 4 ++ (be mtsn 4 ++ (be ptsn 4 ++ (be W 4 ++ (be O 1 ++ (be I 1 ++ (be addrs.length 1 ++ (adsV addrs ++ (be mr.length 1 ++ (mr ++ (be pr.length 1 ++ (pr ++ (be tm 4 ++ (be tp 4)))))))))))))) (B := B) (a := 16) (by omega) (by rw [e] <;> simp only [List.append_assoc, List.append_nil, List.nil_append]) (by simp only [List.length_append, be_len, adsV_len, List.length_nil])
  have n3 : numS B (some 20) 4 = (some 24, peers) := num4_at (P := be M 8 ++ (be L 8 ++ (be mine 4))) (R := be mtsn 4 ++ (be ptsn 4 ++ (be W 4 ++ (be O 1 ++ (be I 1 ++ (be addrs.length 1 ++ (adsV addrs ++ (be mr.length 1 ++ (mr ++ (be pr.length 1 ++ (pr ++ (be tm 4 ++ (be tp 4))))))))))))) (B := B) (a := 20) (by omega) (by rw [e] <;> simp only [List.append_assoc, List.append_nil, List.nil_append]) (by simp only [List.length_append, be_len, adsV_len, List.length_nil])
  have n4 : numS B (some 24) 4 = (some 28, mtsn) := num4_at (P := be M 8 ++ (be L 8 ++ (be mine 4 ++ (be peers 4)))) (R := be ptsn 4 ++ (be W 4 ++ (be O 1 ++ (be I 1 ++ (be addrs.length 1 ++ (adsV addrs ++ (be mr.length 1 ++ (mr ++ (be pr.length 1 ++ (pr ++ (be tm 4 ++ (be tp 4)))))))))))) (B := B) (a := 24) (by omega) (by rw [e] <;> simp only [List.append_assoc, List.append_nil, List.nil_append]) (by simp only [List.length_append, be_len, adsV_len, List.length_nil])
  have n5 : numS B (some 28) 4 = (some 32, ptsn) := num4_at (P := be M 8 ++ (be L 8 ++ (be mine 4 ++ (be peers 4 ++ (be mtsn 4))))) (R := be W 4 ++ (be O 1 ++ (be I 1 ++ (be addrs.length 1 ++ (adsV addrs ++ (be mr.length 1 ++ (mr ++ (be pr.length 1 ++ (pr ++ (be tm 4 ++ (be tp 4))))))))))) (B := B) (a := 28) (by omega) (by rw [e] <;> simp only [List.append_assoc, List.append_nil, List.nil_append]) (by simp only [List.length_append, be_len, adsV_len, List.length_nil])
  have n6 : numS B (some 32) 4 = (some 36, W) := num4_at (P := be M 8 ++ (be L 8 ++ (be mine 4 ++ (be peers 4 ++ (be mtsn 4 ++ (be ptsn 4)))))) (R := be O 1 ++ (be I 1 ++ (be addrs.length 1 ++ (adsV addrs ++ (be mr.length 1 ++ (mr ++ (be pr.length 1 ++ (pr ++ (be tm 4 ++ (be tp 4)))))))))) (B := B) (a := 32) (by omega) (by rw [e] <;> simp only [List.append_assoc, List.append_nil, List.nil_append]) (by simp only [List.length_append, be_len, adsV_len, List.length_nil])
  have n7 : numS B (some 36) 1 = (some 37, O) := num1_at (P := be M 8 ++ (be L 8 ++ (be mine 4 ++ (be peers 4 ++ (be mtsn 4 ++ (be ptsn 4 ++ (be W 4))))))) (R := be I 1 ++ (be addrs.length 1 ++ (adsV addrs ++ (be mr.length 1 ++ (mr ++ (be pr.length 1 ++ (pr ++ (be tm 4 ++ (be tp 4))))))))) (B := B) (a := 36) (by omega) (by rw [e] <;> simp only [List.append_assoc, List.append_nil, List.nil_append]) (by simp only [List.length_append, be_len, adsV_len, List.length_nil])
  have n8 : numS B (some 37) 1 = (some 38, I) := num1_at (P := be M 8 ++ (be L 8 ++ (be mine 4 ++ (be peers 4 ++ (be mtsn 4 ++ (be ptsn 4 ++ (be W 4 ++ (be O 1)))))))) (R := be addrs.length 1 ++ (adsV addrs ++ (be mr.length 1 ++ (mr ++ (be pr.length 1 ++ (pr ++ (be tm 4 ++ (be tp 4)))))))) (B := B) (a := 37) (by omega) (by rw [e] <;> simp only [List.append_assoc, List.append_nil, List.nil_append]) (by simp only [List.length_append, be_len, adsV_len, List.length_nil])
  have n9 : numS B (some 38) 1 = (some 39, addrs.length) := num1_at (P := be M 8 ++ (be L 8 ++ (be mine 4 ++ (be peers 4 ++ (be mtsn 4 ++ (be ptsn 4 ++ (be W 4 ++ (be O 1 ++ (be I 1))))))))) (R := adsV addrs ++ (be mr.length 1 ++ (mr ++ (be pr.length 1 ++ (pr ++ (be tm 4 ++ (be tp 4))))))) (B := B) (a := 38) (by omega) (by rw [e] <;> simp only [List.append_assoc, List.append_nil, List.nil_append]) (by simp only [List.length_append, be_len, adsV_len, List.length_nil])
  have a10 : adS B (some 39) addrs.length = (some (39 + 4 * addrs.length), addrs) := by
    have := adS_at (P := be M 8 ++ (be L 8 ++ (be mine 4 ++ (be peers 4 ++ (be mtsn 4 ++ (be ptsn 4 ++ (be W 4 ++ (be O 1 ++ (be I 1 ++ (be addrs.length 1)))))))))) (R := be mr.length 1 ++ (mr ++ (be pr.length 1 ++ (pr ++ (be tm 4 ++ (be tp 4)))))) (B := B) (a := 39) hn.2.2.2.2.2.2.2.2.1 (by rw [e] <;> simp only [List.append_assoc, List.append_nil, List.nil_append]) (by simp only [List.length_append, be_len, adsV_len, List.length_nil]) addrs.length (Nat.le_refl _)
    rwa [List.take_length] at this
  obtain ⟨A, hA⟩ : ∃ A, A = 39 + 4 * addrs.length := ⟨_, rfl⟩
  rw [← hA] at a10
  have n11 : numS B (some A) 1 = (some (A + 1), mr.length) := num1_at (P := be M 8 ++ (be L 8 ++ (be mine 4 ++ (be peers 4 ++ (be mtsn 4 ++ (be ptsn 4 ++ (be W 4 ++ (be O 1 ++ (be I 1 ++ (be addrs.length 1 ++ (adsV addrs))))))))))) (R := mr ++ (be pr.length 1 ++ (pr ++ (be tm 4 ++ (be tp 4))))) (B := B) (a := A) (by omega) (by rw [e] <;> simp only [List.append_assoc, List.append_nil, List.nil_append]) (by simp only [List.length_append, be_len, adsV_len, List.length_nil] <;> omega)
  have t12 : takeS B (some (A + 1)) (mr.length : Nat) = (some (A + 1 + mr.length), mr) := take_at (P := be M 8 ++ (be L 8 ++ (be mine 4 ++ (be peers 4 ++ (be mtsn 4 ++ (be ptsn 4 ++ (be W 4 ++ (be O 1 ++ (be I 1 ++ (be addrs.length 1 ++ (adsV addrs ++ (be mr.length 1)))))))))))) (Q := mr) (R := be pr.length 1 ++ (pr ++ (be tm 4 ++ (be tp 4)))) (by rw [e]; simp only [List.append_assoc]) (by simp only [List.length_append, be_len, adsV_len]; omega) rfl
  have n13 : numS B (some (A + 1 + mr.length)) 1 = (some (A + 1 + mr.length + 1), pr.length) := num1_at (P := be M 8 ++ (be L 8 ++ (be mine 4 ++ (be peers 4 ++ (be mtsn 4 ++ (be ptsn 4 ++ (be W 4 ++ (be O 1 ++ (be I 1 ++ (be addrs.length 1 ++ (adsV addrs ++ (be mr.length 1 ++ (mr))))))))))))) (R := pr ++ (be tm 4 ++ (be tp 4))) (B := B) (a := (A + 1 + mr.length)) (by omega) (by rw [e] <;> simp only [List.append_assoc, List.append_nil, List.nil_append]) (by simp only [List.length_append, be_len, adsV_len, List.length_nil] <;> omega)
  have t14 : takeS B (some (A + 1 + mr.length + 1)) (pr.length : Nat) = (some (A + 1 + mr.length + 1 + pr.length), pr) := take_at (P := be M 8 ++ (be L 8 ++ (be mine 4 ++ (be peers 4 ++ (be mtsn 4 ++ (be ptsn 4 ++ (be W 4 ++ (be O 1 ++ (be I 1 ++ (be addrs.length 1 ++ (adsV addrs ++ (be mr.length 1 ++ (mr ++ (be pr.length 1)))))))))))))) (Q := pr) (R := be tm 4 ++ (be tp 4)) (by rw [e]; simp only [List.append_assoc]) (by simp only [List.length_append, be_len, adsV_len]; omega) rfl
  have n15 : numS B (some (A + 1 + mr.length + 1 + pr.length)) 4 = (some (A + 1 + mr.length + 1 + pr.length + 4), tm) := num4_at (P := be M 8 ++ (be L 8 ++ (be mine 4 ++ (be peers 4 ++ (be mtsn 4 ++ (be ptsn 4 ++ (be W 4 ++ (be O 1 ++ (be I 1 ++ (be addrs.length 1 ++ (adsV addrs ++ (be mr.length 1 ++ (mr ++ (be pr.length 1 ++ (pr))))))))))))))) (R := be tp 4) (B := B) (a := (A + 1 + mr.length + 1 + pr.length)) f5 (by rw [e] <;> simp only [List.append_assoc, List.append_nil, List.nil_append]) (by simp only [List.length_append, be_len, adsV_len, List.length_nil] <;> omega)
  have n16 : numS B (some (A + 1 + mr.length + 1 + pr.length + 4)) 4 = (some (A + 1 + mr.length + 1 + pr.length + 4 + 4), tp) := num4_at (P := be M 8 ++ (be L 8 ++ (be mine 4 ++ (be peers 4 ++ (be mtsn 4 ++ (be ptsn 4 ++ (be W 4 ++ (be O 1 ++ (be I 1 ++ (be addrs.length 1 ++ (adsV addrs ++ (be mr.length 1 ++ (mr ++ (be pr.length 1 ++ (pr ++ (be tm 4)))))))))))))))) (R := []) (B := B) (a := (A + 1 + mr.length + 1 + pr.length + 4)) f6 (by rw [e] <;> simp only [List.append_assoc, List.append_nil, List.nil_append]) (by simp only [List.length_append, be_len, adsV_len, List.length_nil] <;> omega)
  have k1 : q1 B = some 8 := by unfold q1; rw [n0]
  have k2 : q2 B = some 16 := by unfold q2; rw [k1, n1]
  have k3 : q3 B = some 20 := by unfold q3; rw [k2, n2]
  have k4 : q4 B = some 24 := by unfold q4; rw [k3, n3]
  have k5 : q5 B = some 28 := by unfold q5; rw [k4, n4]
  have k6 : q6 B = some 32 := by unfold q6; rw [k5, n5]
  have k7 : q7 B = some 36 := by unfold q7; rw [k6, n6]
  have k8 : q8 B = some 37 := by unfold q8; rw [k7, n7]
  have k9 : q9 B = some 38 := by unfold q9; rw [k8, n8]
  have k10 : q10 B = some 39 := by unfold q10; rw [k9, n9]
  have kA : nA B = addrs.length := by unfold nA; rw [k9, n9]
  have k11 : q11 B = some A := by unfold q11; rw [k10, kA, a10]
  have k12 : q12 B = some (A + 1) := by unfold q12; rw [k11, n11]
  have kM : nM B = mr.length := by unfold nM; rw [k11, n11]
  have k13 : q13 B = some (A + 1 + mr.length) := by unfold q13; rw [k12, kM, t12]
  have k14 : q14 B = some (A + 1 + mr.length + 1) := by unfold q14; rw [k13, n13]
  have kP : nP B = pr.length := by unfold nP; rw [k13, n13]
  have k15 : q15 B = some (A + 1 + mr.length + 1 + pr.length) := by unfold q15; rw [k14, kP, t14]
  have k16 : q16 B = some (A + 1 + mr.length + 1 + pr.length + 4) := by unfold q16; rw [k15, n15]
  have k17 : q17 B = some (A + 1 + mr.length + 1 + pr.length + 4 + 4) := by unfold q17; rw [k16, n16]
  have w1 : wrap64 (M : Int) = (M : Int) := by unfold wrap64; omega
  have w2 : wrap64 (L : Int) = (L : Int) := by unfold wrap64; omega
  refine ⟨?_, ?_⟩
  · unfold readK
    rw [k1, k2, k3, k4, k5, k6, k7, k8, k10, k12, k14, k15, k16, kA, kM, kP, n0, n1, n2, n3, n4, n5, n6, n7, n8, a10, t12, t14, n15, n16]
    dsimp only
    rw [w1, w2]
  · unfold endK
    rw [k17]
    have hl : B.length = A + 1 + mr.length + 1 + pr.length + 4 + 4 := by
      rw [e]; simp only [List.length_append, be_len, adsV_len]; omega
    unfold endS leftS
    simp [hl]
end Tlv
end Go.Proofs.YtfhoielfekeihaaDoor

/- A law on regions that draw their order: one invariant over what was met, the slots and the world. No condition of its own. -/
namespace Go.Proofs.YtfhoielfekeihaaDoor
open Go
set_option linter.unusedVariables false

/-- What was met, as a function. -/
def metF (l : Array Bool) : Nat → Bool := fun i => l.getD i true
def met1 (L : Nat → Bool) (i : Nat) : Nat → Bool := fun j => j == i || L j
theorem metF_set (l : Array Bool) (i : Nat) (h : i < l.size) : metF (l.setIfInBounds i true) = met1 (metF l) i := by
  funext j
  unfold metF met1
  by_cases hj : i = j
  · subst hj; simp [h]
  · have h2 : (j == i) = false := beq_false_of_ne (fun e => hj e.symm)
    rw [h2, Bool.false_or, getD_set_ne true hj]
/-- What is owed for an operation without guard. -/
def OwedJ (P : Program) (J : (Nat → Bool) → Act → World → Prop) (i : Nat) (o : Oper) : Prop :=
  o.guard = none ∧ ∀ (L : Nat → Bool) (a : Act) (w : World), J L a w → L i = false → (∀ e ∈ o.after.toList, Region.binds .any e = true → L e.on = true) → give P (fun v w' => J (met1 L i) (a.put o.dst v) w') ((execOp a.eval o).run P w)
def OwedAll (P : Program) (J : (Nat → Bool) → Act → World → Prop) : Nat → List Oper → Prop
  | _, [] => True
  | i, o :: l => OwedJ P J i o ∧ OwedAll P J (i + 1) l
theorem OwedAll.at {P : Program} {J : (Nat → Bool) → Act → World → Prop} : ∀ {ops : List Oper} {k : Nat}, OwedAll P J k ops → ∀ i o, ops[i]? = some o → OwedJ P J (k + i) o
  | [], _, _, i, o, h => by simp at h
  | o1 :: l, k, hA, 0, o, h => by simp at h; subst h; exact hA.1
  | o1 :: l, k, hA, i + 1, o, h => by
    have := OwedAll.at hA.2 i o (by simpa using h)
    rwa [show k + 1 + i = k + (i + 1) by omega] at this
theorem OwedAll.nil {P : Program} {J : (Nat → Bool) → Act → World → Prop} {i : Nat} : OwedAll P J i [] := trivial
theorem OwedAll.cons {P : Program} {J : (Nat → Bool) → Act → World → Prop} {i : Nat} {o : Oper} {l : List Oper} (hg : o.guard = none) (h : ∀ (L : Nat → Bool) (a : Act) (w : World), J L a w → L i = false → (∀ e ∈ o.after.toList, Region.binds .any e = true → L e.on = true) → give P (fun v w' => J (met1 L i) (a.put o.dst v) w') ((execOp a.eval o).run P w)) (hl : OwedAll P J (i + 1) l) : OwedAll P J i (o :: l) := ⟨⟨hg, h⟩, hl⟩
/-- The edges lead back. -/
def backB (ops : List Oper) : Bool := (List.range ops.length).all fun i => match ops[i]? with
  | none => true
  | some o => o.after.toList.all fun e => !(Region.binds .any e) || decide (e.on < i)
theorem inv_any {P : Program} {ops : List Oper} {Q : Exit → Act → World → Prop} (J : (Nat → Bool) → Act → World → Prop) (hb : backB ops = true) (hG : OwedAll P J 0 ops)
    (hQ : ∀ a w, J (fun _ => true) a w → Q .normal a w) :
    ∀ (fuel : Nat) (listed : Array Bool) (a : Act) (w : World), listed.size = ops.length → listed.countP (· == false) ≤ fuel → J (metF listed) a w → wpAny P .any ops.toArray Q fuel listed a w := by
  have back : ∀ i o, ops[i]? = some o → ∀ e ∈ o.after.toList, Region.binds .any e = true → e.on < i := by
    intro i o ho e he hbi
    have hi : i < ops.length := (List.getElem?_eq_some_iff.1 ho).1
    have h1 := List.all_eq_true.1 hb i (List.mem_range.2 hi)
    rw [ho] at h1
    have h2 := List.all_eq_true.1 h1 e he
    simpa [hbi] using h2
  have fin : ∀ (listed : Array Bool) (a : Act) (w : World), listed.size = ops.length → J (metF listed) a w → Region.ready .any ops.toArray listed = [] → Q .normal a w := by
    intro listed a w hs hI hr
    have key : ∀ i, listed.getD i true = true := by
      intro i
      induction i using Nat.strongRecOn with
      | _ i ih =>
        cases hbi : listed.getD i true with
        | true => rfl
        | false =>
          exfalso
          have hi : i < ops.length := by
            rcases Nat.lt_or_ge i ops.length with h | h
            · exact h
            · rw [← hs] at h; simp [Array.getElem?_eq_none h] at hbi
          have ho : ops[i]? = some ops[i] := by simp [hi]
          have : i ∈ Region.ready .any ops.toArray listed := by
            rw [mem_ready]
            refine ⟨hbi, ops[i], by simp [hi], fun e he hbd => ?_⟩
            have h5 := back i ops[i] ho e (by simpa using he) hbd
            have := ih e.on h5
            have hlt : e.on < listed.size := by omega
            simpa [hlt] using this
          rw [hr] at this
          cases this
    have : metF listed = fun _ => true := funext key
    rw [this] at hI
    exact hQ a w hI
  intro fuel
  induction fuel with
  | zero =>
    intro listed a w hs hc hI
    have hr : Region.ready .any ops.toArray listed = [] := by
      cases hr : Region.ready .any ops.toArray listed with
      | nil => rfl
      | cons j js =>
        exfalso
        have hj : j ∈ Region.ready .any ops.toArray listed := by rw [hr]; simp
        have h0 := (mem_ready.1 hj).1
        have hlt : j < listed.size := by
          rcases Nat.lt_or_ge j listed.size with h | h
          · exact h
          · simp [Array.getElem?_eq_none h] at h0
        have h1 : listed.countP (· == false) = 0 := by omega
        rw [Array.countP_eq_zero] at h1
        have h2 : listed[j] = false := by simpa [hlt] using h0
        have := h1 listed[j] (Array.getElem_mem hlt)
        simp [h2] at this
    exact ⟨hr, fin listed a w hs hI hr⟩
  | succ fuel ih =>
    intro listed a w hs hc hI
    refine ⟨fin listed a w hs hI, fun i hi => ?_⟩
    obtain ⟨hl, o, ho', hall⟩ := mem_ready.1 hi
    have ho : ops[i]? = some o := by simpa using ho'
    have hlt : i < listed.size := by
      rcases Nat.lt_or_ge i listed.size with h | h
      · exact h
      · simp [Array.getElem?_eq_none h] at hl
    have hg := hG.at i o ho
    rw [Nat.zero_add] at hg
    obtain ⟨hgd, hg⟩ := hg
    have hg' := hg (metF listed) a w hI hl (fun e he hbd => by
      have := hall e (by simpa using he) hbd
      have hlt2 : e.on < listed.size := by
        rcases Nat.lt_or_ge e.on listed.size with h | h
        · exact h
        · simp [Array.getElem?_eq_none h] at this
      unfold metF
      simpa [hlt2] using this)
    unfold wpOp
    simp only [ho']
    simp only [Region.wanted, hgd, if_true]
    refine .inl (give_wp hg' (fun v w' hJ => ?_))
    exact ih _ _ _ (by simp [hs]) (count_set hl hc) (by rw [metF_set _ _ hlt]; exact hJ)
/-- THE LAW. -/
theorem wp_region_J {P : Program} {ops : List Oper} {a0 : Act} {Q : Exit → Act → World → Prop} {id : Nat} {w : World} (J : (Nat → Bool) → Act → World → Prop)
    (hm : P.follows .mixedOrders = true) (hb : backB ops = true) (h0 : J (fun i => decide (ops.length ≤ i)) a0 w.drew) (hG : OwedAll P J 0 ops)
    (hQ : ∀ a w, J (fun _ => true) a w → Q .normal a w) : (Code.region id ops.toArray true).wp P Q a0 w := by
  refine wp_region_any hm ?_
  have e : metF (Array.replicate ops.length false) = fun i => decide (ops.length ≤ i) := by
    funext i
    unfold metF
    by_cases h : i < ops.length
    · simp [h] <;> omega
    · simp [h] <;> omega
  have h := inv_any (P := P) (ops := ops) (Q := Q) J hb hG hQ ops.length (Array.replicate ops.length false) a0 w.drew (by simp) (by
      have := Array.countP_le_size (p := (· == false)) (xs := Array.replicate ops.length false)
      simpa using this) (by rw [e]; exact h0)
  simpa using h
/-- A slot behind another one's filling. -/
theorem put_other {a : Act} {t d : Tmp} (v : Value) (h : d ≠ t) : (a.put (some d) v).tmps[t]? = a.tmps[t]? := by
  simp [Act.put, Array.getElem?_setIfInBounds_ne h]
theorem put_same {a : Act} {d : Tmp} (v : Value) (h : d < a.tmps.size) : (a.put (some d) v).tmps[d]? = some v := by
  simp [Act.put, h]
theorem put_size {a : Act} (d : Option Tmp) (v : Value) : (a.put d v).tmps.size = a.tmps.size := by cases d <;> simp [Act.put]
theorem put_defers {a : Act} (d : Option Tmp) (v : Value) : (a.put d v).defers = a.defers := by cases d <;> simp [Act.put]
theorem eval_of {a : Act} {t : Tmp} {v : Value} (h : a.tmps[t]? = some v) : a.eval (.tmp t) = v := by simp [Act.eval, h]
end Go.Proofs.YtfhoielfekeihaaDoor

/- A law on regions that draw their order: one invariant over what was met, the values yielded and the world. No condition of its own. -/
namespace Go.Proofs.YtfhoielfekeihaaDoor
open Go
set_option linter.unusedVariables false

def updV (vs : Nat → Value) (i : Nat) (v : Value) : Nat → Value := fun j => bif j == i then v else vs j
theorem updV_same (vs : Nat → Value) (i : Nat) (v : Value) : updV vs i v i = v := by simp [updV]
theorem updV_other {vs : Nat → Value} {i j : Nat} {v : Value} (h : j ≠ i) : updV vs i v j = vs j := by
  have : (j == i) = false := by simpa using h
  simp [updV, this]
theorem met1_same (L : Nat → Bool) (i : Nat) : met1 L i i = true := by simp [met1]
theorem met1_other {L : Nat → Bool} {i j : Nat} (h : j ≠ i) : met1 L i j = L j := by simp [met1, h]
/-- The slots hold what was yielded. -/
structure SlotsAt (ops : List Oper) (a0 : Act) (L : Nat → Bool) (vs : Nat → Value) (a : Act) : Prop where
  defers : a.defers = a0.defers
  size : a.tmps.size = a0.tmps.size
  rest : ∀ t, (∀ (i : Nat) o, ops[i]? = some o → o.dst = some t → L i = false) → a.tmps[t]? = a0.tmps[t]?
  done : ∀ (i : Nat) o, ops[i]? = some o → L i = true → ∀ d, o.dst = some d → a.tmps[d]? = some (vs i)
/-- What is owed for an operation. -/
def OwedV (P : Program) (mk : Tmp → Option Nat) (a0 : Act) (W : (Nat → Bool) → (Nat → Value) → World → Prop) (i : Nat) (o : Oper) : Prop :=
  o.guard = none ∧ ∀ (L : Nat → Bool) (vs : Nat → Value) (w : World) (r : Operand → Value), W L vs w → L i = false → (∀ j, afterB o j = true → L j = true) → factsOf mk a0 (fun j _ v => v = vs j) r w o.op.operands.toList → give P (fun v w' => W (met1 L i) (updV vs i v) w') ((execOp r o).run P w)
def OwedVs (P : Program) (mk : Tmp → Option Nat) (a0 : Act) (W : (Nat → Bool) → (Nat → Value) → World → Prop) : Nat → List Oper → Prop
  | _, [] => True
  | i, o :: l => OwedV P mk a0 W i o ∧ OwedVs P mk a0 W (i + 1) l
section
variable {P : Program} {mk : Tmp → Option Nat} {ops : List Oper} {a0 : Act} {W : (Nat → Bool) → (Nat → Value) → World → Prop} {Q : Exit → Act → World → Prop} {n : Nat}
theorem OwedVs.nil {i : Nat} : OwedVs P mk a0 W i [] := trivial
theorem OwedVs.cons {i : Nat} {o : Oper} {l : List Oper} (h : OwedV P mk a0 W i o) (hl : OwedVs P mk a0 W (i + 1) l) : OwedVs P mk a0 W i (o :: l) := ⟨h, hl⟩
theorem SlotsAt.put (hsh : shapeB mk ops n = true) (hn : a0.tmps.size = n) {L : Nat → Bool} {vs : Nat → Value} {a : Act} (hI : SlotsAt ops a0 L vs a) {i : Nat} {o : Oper} (ho : ops[i]? = some o) (hl : L i = false) (v : Value) :
    SlotsAt ops a0 (met1 L i) (updV vs i v) (a.put o.dst v) := by
  have hs := shape_spec hsh ho
  refine ⟨by rw [put_defers]; exact hI.defers, by rw [put_size]; exact hI.size, fun t ht => ?_, fun j o' hj hlj d hd => ?_⟩
  · have h1 : a.tmps[t]? = a0.tmps[t]? := hI.rest t fun j o' hj hd' => by
      have := ht j o' hj hd'
      by_cases hij : j = i
      · subst hij; rw [met1_same] at this; cases this
      · rwa [met1_other hij] at this
    cases hd : o.dst with
    | none => exact h1
    | some d =>
      have hne : d ≠ t := by
        rintro rfl
        have := ht i o ho hd
        rw [met1_same] at this; cases this
      rw [put_other v hne]; exact h1
  · by_cases hij : j = i
    · subst hij
      rw [ho] at hj; cases hj
      have hdn : d < n := by
        simp only [shapeOneB, hd, Bool.and_eq_true, decide_eq_true_eq] at hs
        exact hs.1.2.2
      rw [hd, put_same v (by rw [hI.size, hn]; exact hdn), updV_same]
    · rw [met1_other hij] at hlj
      have h3 := hI.done j o' hj hlj d hd
      rw [updV_other hij]
      cases hd' : o.dst with
      | none => exact h3
      | some d' =>
        have hne : d' ≠ d := by
          rintro rfl
          exact hij (shape_dst hsh ho hj hd' hd).symm
        rw [put_other v hne]; exact h3
theorem SlotsAt.facts (hsh : shapeB mk ops n = true) {L : Nat → Bool} {vs : Nat → Value} {a : Act} (w : World) (hI : SlotsAt ops a0 L vs a) {i : Nat} {o : Oper} (ho : ops[i]? = some o)
    (hall : ∀ j, afterB o j = true → L j = true) : ∀ x ∈ o.op.operands.toList, factOf mk a0 (fun j _ v => v = vs j) a.eval w x := by
  intro x hx
  have hs := shape_spec hsh ho
  simp only [shapeOneB, Bool.and_eq_true, List.all_eq_true] at hs
  have h2 := hs.1.1.1.2 x hx
  cases x with
  | tmp t =>
    simp only [factOf]
    simp only [Bool.and_eq_true, beq_iff_eq] at h2
    rw [← h2.1]
    cases hm : maker ops t with
    | none =>
      simp only [Act.eval]
      have := hI.rest t fun j o' hj hd' => absurd hd' (maker_none hm hj)
      simp [this]
    | some j =>
      simp only [hm] at h2
      obtain ⟨o', hj, hd'⟩ := maker_some hm
      have := hI.done j o' hj (hall j h2.2) t hd'
      simp [Act.eval, this]
  | const c => rfl
  | global g => rfl
  | func f => rfl
theorem SlotsAt.whole (hsh : shapeB mk ops n = true) (hn : a0.tmps.size = n) {vs : Nat → Value} {a : Act} (hI : SlotsAt ops a0 (fun _ => true) vs a) : a = putAll vs ops 0 a0 := by
  have hd : a.defers = (putAll vs ops 0 a0).defers := by rw [putAll_defers, hI.defers]
  have ht : a.tmps = (putAll vs ops 0 a0).tmps := by
    apply Array.ext_getElem?
    intro t
    by_cases hm : ∃ (k : Nat) (o : Oper), ops[k]? = some o ∧ o.dst = some t
    · obtain ⟨k, o, hk, hdt⟩ := hm
      have hs := shape_spec hsh hk
      simp only [shapeOneB, hdt, Bool.and_eq_true, decide_eq_true_eq] at hs
      rw [putAll_at _ t ops 0 a0 k o hk hdt (by rw [hn]; exact hs.1.2.2) (fun k' o' hk' hd' => shape_dst hsh hk' hk hd' hdt)]
      rw [Nat.zero_add]
      exact hI.done k o hk rfl t hdt
    · rw [putAll_other _ t ops 0 a0 (fun o ho hdt => by
        obtain ⟨k, hk⟩ := List.getElem?_of_mem ho
        exact hm ⟨k, o, hk, hdt⟩)]
      exact hI.rest t fun i o hi hdt => absurd ⟨i, o, hi, hdt⟩ hm
  cases a
  cases h : putAll vs ops 0 a0
  rw [h] at hd ht
  simp at hd ht
  rw [hd, ht]
theorem shape_back (hsh : shapeB mk ops n = true) : backB ops = true := by
  unfold backB
  rw [List.all_eq_true]
  intro i hi
  have hi := List.mem_range.1 hi
  have hs := shape_spec hsh (show ops[i]? = some ops[i] by simp [hi])
  simp only [shapeOneB, Bool.and_eq_true] at hs
  have h2 := hs.2
  rw [show ops[i]? = some ops[i] by simp [hi]]
  simpa using h2
theorem OwedVs.toJ (hsh : shapeB mk ops n = true) (hn : a0.tmps.size = n) : ∀ (l : List Oper) (k : Nat), (∀ i o, l[i]? = some o → ops[k + i]? = some o) → OwedVs P mk a0 W k l → OwedAll P (fun L a w => ∃ vs, W L vs w ∧ SlotsAt ops a0 L vs a) k l
  | [], k, _, _ => trivial
  | o :: l, k, hk, h => by
    refine ⟨⟨h.1.1, ?_⟩, OwedVs.toJ hsh hn l (k + 1) (fun i o' hi => by have := hk (i + 1) o' (by simpa using hi); rwa [show k + 1 + i = k + (i + 1) by omega]) h.2⟩
    intro L a w hJ hl hall
    obtain ⟨vs, hW, hS⟩ := hJ
    have ho : ops[k]? = some o := hk 0 o rfl
    have hall' : ∀ j, afterB o j = true → L j = true := by
      intro j hj
      obtain ⟨e, he, hb, rfl⟩ := after_spec hj
      exact hall e (by simpa using he) hb
    have hg := h.1.2 L vs w a.eval hW hl hall' (factsOf_mk (hS.facts hsh w ho hall'))
    have mono : ∀ {K K' : Value → World → Prop} (r : Result Next), (∀ v w, K v w → K' v w) → give P K r → give P K' r := by
      intro K K' r hKK h
      unfold give at h ⊢
      split at h
      · exact hKK _ _ h
      · exact hKK _ _ h
      · exact Calls.mono h fun e w'' ⟨v, he, hv⟩ => ⟨v, he, hKK _ _ hv⟩
      · exact h.elim
    exact mono _ (fun v w' hv => ⟨updV vs k v, hv, hS.put hsh hn ho hl v⟩) hg
/-- THE LAW. -/
theorem wp_region_W {id : Nat} {w : World} (W : (Nat → Bool) → (Nat → Value) → World → Prop) (mk : Tmp → Option Nat) (n : Nat)
    (hm : P.follows .mixedOrders = true) (hsh : shapeB mk ops n = true) (hn : a0.tmps.size = n) (h0 : ∀ vs, W (fun i => decide (ops.length ≤ i)) vs w.drew) (hG : OwedVs P mk a0 W 0 ops)
    (hQ : ∀ vs a w', W (fun _ => true) vs w' → a = putAll vs ops 0 a0 → Q .normal a w') : (Code.region id ops.toArray true).wp P Q a0 w := by
  refine wp_region_J (fun L a w => ∃ vs, W L vs w ∧ SlotsAt ops a0 L vs a) hm (shape_back hsh) ⟨fun _ => undef, h0 _, rfl, rfl, fun _ _ => rfl, fun i o hi hl => ?_⟩ (OwedVs.toJ hsh hn ops 0 (fun i o h => by rwa [Nat.zero_add]) hG) ?_
  · exfalso
    have hi : i < ops.length := by
      rcases Nat.lt_or_ge i ops.length with h | h
      · exact h
      · simp [List.getElem?_eq_none h] at hi
    simp at hl
    omega
  · rintro a w' ⟨vs, hW, hS⟩
    exact hQ vs a w' hW (hS.whole hsh hn)
end
end Go.Proofs.YtfhoielfekeihaaDoor

/- Reading a cookie: what holds meanwhile. No condition of its own. -/
namespace Go.Proofs.YtfhoielfekeihaaDoor
namespace Tlv
open Go Go.RowKit
set_option linter.unusedVariables false
set_option linter.unusedSimpArgs false
set_option maxRecDepth 100000


theorem ownsRow_ne {w : World} {base e n size g t : Nat} {v : Value} {xs : List Value} {C : Array Value} (h : w.ownsRow base e size v n xs) (hb : Blk w g C t) (ht : t ≠ e) : ∀ k, v.ownBlock = some k → k ≠ g := by
  intro k hk hkg
  subst hkg
  rcases h.2 with ⟨rfl, _⟩ | ⟨g', cap, cur, rfl, _, hg, _⟩
  · cases hk
  · simp only [Value.ownBlock, Option.some.injEq] at hk
    subst hk
    have : some (Obj.cells C t (0, 0)) = some (.cells cur e (0, 0)) := hb.symm.trans hg
    simp only [Option.some.injEq, Obj.cells.injEq] at this
    exact ht this.2.1
theorem own_apart {w : World} {base base' e e' n n' size size' : Nat} {v v' : Value} {xs xs' : List Value} (h : w.ownsRow base e size v n xs) (h' : w.ownsRow base' e' size' v' n' xs') (he : e ≠ e') : ∀ k, v.ownBlock = some k → ¬ v'.ownBlock = some k := by
  intro k h1 h2
  rcases h'.2 with ⟨rfl, _⟩ | ⟨g', cap, cur, rfl, _, hg, _⟩
  · cases h2
  · simp only [Value.ownBlock, Option.some.injEq] at h2
    subst h2
    exact ownsRow_ne h (show Blk w _ cur e' from hg) he.symm _ h1 rfl
theorem numTA : NumT Tryd.prog 24 54 .i64 8 := ⟨Tryd.underlying24, Tryd.underlying54, by kernel_rfl⟩
theorem met_no {L : Nat → Bool} {i j : Nat} (h : L i = true → L j = true) (hj : L j = false) : L i = false := by
  cases hi : L i with
  | false => rfl
  | true => exact absurd ((h hi).symm.trans hj) (by decide)
theorem give_one_num {t e : TypeId} {k : IntKind} {by8 : Nat} {w : World} {r : Operand → Value} {o : Oper} {K : Value → World → Prop} {x : Operand} {z : Int} (ho : o.op = .buildSlice t 1 #[(0, x)]) (hT : NumT Tryd.prog t e k by8) (hx : r x = .int k z)
    (h : K (.slice (some ⟨w.heap.size, 0, none⟩) 1 1) (w.alloc (.cells #[.int k z] e))) : give Tryd.prog K ((execOp r o).run Tryd.prog w) := by
  obtain ⟨i, hi, hz, hs, hby⟩ := hT.ex
  refine give_of (v := .slice (some ⟨w.heap.size, 0, none⟩) 1 1) (w' := w.alloc (.cells #[.int k z] e)) ?_ h
  simp [execOp, ho, hx, go_sem, run_underlying hT.ut, hi, hz, hs, hby, sizeOf, typeInfo, zeroValue]

/-- A cookie's lists, in blocks of the own. -/
structure OwnK (w : World) (base : Nat) (s : So) (c : Co) : Prop where
  a : OwnN .i64 w base 54 (.slice s.aA s.aN s.aC) c.addrs
  m : OB w base (.slice s.mA s.mN s.mC) c.mr
  p : OB w base (.slice s.pA s.pN s.pC) c.pr
theorem OwnK.at {w : World} {base : Nat} {s : So} {c : Co} (h : OwnK w base s c) : CoAt w s c := ⟨h.a.nums, h.m.bytes, h.p.bytes⟩
theorem OwnK.nil (w : World) (base : Nat) : OwnK w base so0 co0 := ⟨OwnN.nil _ _ _ _, OB.nil _ _, OB.nil _ _⟩
theorem OwnK.ext {w w' : World} {base : Nat} {s : So} {c : Co} (h : OwnK w base s c) (he : Ext w w') : OwnK w' base s c := ⟨h.a.ext he, h.m.ext he, h.p.ext he⟩
theorem OwnK.base {w : World} {base base' : Nat} {s : So} {c : Co} (h : OwnK w base s c) (hb : base' ≤ base) : OwnK w base' s c := ⟨h.a.base hb, h.m.base hb, h.p.base hb⟩
/-- What no list lies in. -/
def NoK (t : Nat) : Prop := t ≠ 5 ∧ t ≠ 54
theorem OwnK.but {w w' : World} {base g t : Nat} {s : So} {c : Co} {C : Array Value} (h : OwnK w base s c) (hk : KeepBut (· = g) w w') (hb : Blk w g C t) (ht : NoK t) : OwnK w' base s c :=
  ⟨h.a.mono_via hk (ownsRow_ne h.a.1 hb ht.2), h.m.but hk (h.m.ne hb ht.1), h.p.but hk (h.p.ne hb ht.1)⟩
theorem noKC : NoK 29 := ⟨by decide, by decide⟩
/-- What a reader's place stands on. -/
structure RdF (F : World → Option Nat → Prop) (w0 : World) (gi : Nat) : Prop where
  ext : ∀ {w w' st}, F w st → Ext w w' → F w' st
  but : ∀ {S : Nat → Prop} {w w' st}, F w st → KeepBut S w w' → (∀ k, S k → w0.heap.size ≤ k ∧ k ≠ gi ∧ ∃ C t, Blk w k C t ∧ t ≠ 5) → F w' st
  lo : w0.heap.size ≤ gi
  blk : ∀ {w st}, F w st → ∃ C t, Blk w gi C t ∧ NoK t
/-- A cookie that is read, all of it above w0: what it holds, its block, the result's block, where is read. -/
structure SK (T : Nat) (F : World → Option Nat → Prop) (w0 w : World) (q r gi : Nat) (c : Co) (s : So) (st : Option Nat) : Prop where
  ext : Ext w0 w
  lo : w0.heap.size ≤ q
  own : OwnK w w0.heap.size s c
  fit : FitC c
  hb : Blk w q (KV c s) T
  res : Blk w r (KV co0 so0) T
  rlo : w0.heap.size ≤ r
  rq : r ≠ q
  ne : gi ≠ q
  nr : gi ≠ r
  hi : F w st
theorem SK.grow {T : Nat} {F : World → Option Nat → Prop} {w0 w w' : World} {q r gi : Nat} {c : Co} {s : So} {st : Option Nat} (hF : RdF F w0 gi) (h : SK T F w0 w q r gi c s st) (he : Ext w w') : SK T F w0 w' q r gi c s st :=
  ⟨h.ext.trans he, h.lo, h.own.ext he, h.fit, h.hb.ext he, h.res.ext he, h.rlo, h.rq, h.ne, h.nr, hF.ext h.hi he⟩
theorem SK.start {T : Nat} {F : World → Option Nat → Prop} {w0 w w1 w2 : World} {gi : Nat} {st : Option Nat} (hF : RdF F w0 gi) (he : Ext w0 w) (hi : F w st) (hb1 : Blk w1 w.heap.size (KV co0 so0) T) (he1 : Ext w w1) (hb2 : Blk w2 w1.heap.size (KV co0 so0) T) (he2 : Ext w1 w2) : SK T F w0 w2 w1.heap.size w.heap.size gi co0 so0 st := by
  obtain ⟨C, t, hb, _⟩ := hF.blk hi
  have h1 := hb.lt
  have h2 := he1.size
  exact ⟨(he.trans he1).trans he2, Nat.le_trans he.size he1.size, OwnK.nil _ _, ⟨by decide, by decide, by decide, by decide, by decide, by decide, by decide, by decide, by decide, fun x hx => (by cases hx), by decide, by decide⟩, hb2, hb1.ext he2, he.size, Nat.ne_of_lt hb1.lt, by omega, by omega, hF.ext (hF.ext hi he1) he2⟩
/-- A call on the reader. -/
theorem SK.step {T : Nat} {F : World → Option Nat → Prop} {w0 w w' : World} {q r gi : Nat} {c : Co} {s : So} {st st' : Option Nat} (hF : RdF F w0 gi) (h : SK T F w0 w q r gi c s st) (hk : KeepBut (· = gi) w w') (hi : F w' st') : SK T F w0 w' q r gi c s st' := by
  obtain ⟨C, tI, hb, hI⟩ := hF.blk h.hi
  exact ⟨h.ext.of_but hk (fun k e => by subst e; exact hF.lo), h.lo, h.own.but hk hb hI, h.fit, h.hb.but hk (fun e => h.ne e.symm), h.res.but hk (fun e => h.nr e.symm), h.rlo, h.rq, h.ne, h.nr, hi⟩
/-- A field stored. -/
theorem SK.put {T : Nat} {F : World → Option Nat → Prop} {w0 w w' : World} {q r gi : Nat} {c c' : Co} {s s' : So} {st : Option Nat} (hF : RdF F w0 gi) (hT : NoK T) (h : SK T F w0 w q r gi c s st) (hb : Blk w' q (KV c' s') T) (hk : KeepBut (· = q) w w') (ho : OwnK w w0.heap.size s' c') (hf : FitC c') : SK T F w0 w' q r gi c' s' st :=
  ⟨h.ext.of_but hk (fun k e => by subst e; exact h.lo), h.lo, ho.but hk h.hb hT, hf, hb, h.res.but hk h.rq, h.rlo, h.rq, h.ne, h.nr, hF.but h.hi hk (fun k e => by subst e; exact ⟨h.lo, fun e => h.ne e.symm, _, _, h.hb, hT.1⟩)⟩
theorem wl_setK {T : Nat} {F : World → Option Nat → Prop} {w0 w : World} {q r gi : Nat} {c : Co} {s : So} {st : Option Nat} (hF : RdF F w0 gi) (hTT : NoK T) (h : SK T F w0 w q r gi c s st) {ops : Array Oper} {rest : List Oper} {o : Oper} {a : Act} {Q : Exit → Act → World → Prop} (hgd : o.guard = none) {t : TypeId} (hT : OneT Tryd.prog t) {x y : Operand} (j : Nat) {v : Value} (ho : o.op = .store t x y) (hx : a.eval x = .pointer (some ⟨q, j, none⟩)) (hy : a.eval y = v) (hv : v.cells = #[v]) (h1 : v.oneCell' = true) (hj : j < 14) (c' : Co) (s' : So) (hset : (KV c s).setIfInBounds j v = KV c' s') (hown : OwnK w w0.heap.size s' c') (hfit : FitC c')
    (hk : ∀ w', SK T F w0 w' q r gi c' s' st → wpList Tryd.prog ops Q rest (a.put o.dst undef) w') : wpList Tryd.prog ops Q (o :: rest) a w := by
  refine wl_set hgd hT ho hx hy hv h1 h.hb (show j < (KV c s).size from hj) ?_
  intro w' hb' hk' _
  rw [hset] at hb'
  exact hk w' (h.put hF hTT hb' hk' hown hfit)
/-- The addresses were made longer, their field is not stored yet. -/
structure HalfK (T : Nat) (F : World → Option Nat → Prop) (w0 w : World) (q r gi : Nat) (c c' : Co) (s s' : So) (st : Option Nat) : Prop where
  ext : Ext w0 w
  lo : w0.heap.size ≤ q
  own : OwnK w w0.heap.size s' c'
  fit : FitC c'
  hb : Blk w q (KV c s) T
  res : Blk w r (KV co0 so0) T
  rlo : w0.heap.size ≤ r
  rq : r ≠ q
  ne : gi ≠ q
  nr : gi ≠ r
  hi : F w st
theorem HalfK.store {T : Nat} {F : World → Option Nat → Prop} {w0 w : World} {q r gi j : Nat} {c c' : Co} {s s' : So} {st : Option Nat} {v : Value} (hF : RdF F w0 gi) (hT : NoK T) (h : HalfK T F w0 w q r gi c c' s s' st) (hset : (KV c s).setIfInBounds j v = KV c' s') : SK T F w0 (w.setCell ⟨q, j, none⟩ v) q r gi c' s' st := by
  have hk : KeepBut (· = q) w (w.setCell ⟨q, j, none⟩ v) := ⟨rfl, rfl, rfl, by simp, fun k _ hk => block_other hk j v⟩
  have hb' : Blk (w.setCell ⟨q, j, none⟩ v) q (KV c' s') T := by rw [← hset]; exact h.hb.set j v
  exact ⟨h.ext.of_but hk (fun k e => by subst e; exact h.lo), h.lo, h.own.but hk h.hb hT, h.fit, hb', h.res.but hk h.rq, h.rlo, h.rq, h.ne, h.nr, hF.but h.hi hk (fun k e => by subst e; exact ⟨h.lo, fun e => h.ne e.symm, _, _, h.hb, hT.1⟩)⟩
theorem ownsRow_blk {w : World} {base e n size : Nat} {v : Value} {xs : List Value} (h : w.ownsRow base e size v n xs) {k : Nat} (hk : v.ownBlock = some k) : ∃ C, Blk w k C e := by
  rcases h.2 with ⟨rfl, _⟩ | ⟨g', cap, cur, rfl, _, hg, _⟩
  · cases hk
  · simp only [Value.ownBlock, Option.some.injEq] at hk
    subst hk
    exact ⟨cur, hg⟩
theorem SK.app {T : Nat} {F : World → Option Nat → Prop} {w0 w : World} {q r gi : Nat} {c : Co} {s : So} {st : Option Nat} {u : Value} {p : Int} (hF : RdF F w0 gi) (hT : NoK T) (h : SK T F w0 w q r gi c s st) (hx : NumsAt .i64 w u [p]) (hl : c.addrs.length ≤ 100000) (hp : W64 p) (ty : Nat) :
    ∃ ad n cap w', (Builtin.append_ #[24, 24] ty #[.slice s.aA s.aN s.aC, u]).run Tryd.prog w = .ok (.slice ad n cap) w' ∧ HalfK T F w0 w' q r gi c { c with addrs := c.addrs ++ [p] } s { s with aA := ad, aN := n, aC := cap } st ∧ KeepBut (fun k => (Value.slice s.aA s.aN s.aC).ownBlock = some k) w w' := by
  obtain ⟨C, tI, hB, hI⟩ := hF.blk h.hi
  obtain ⟨v', w', hr, ho, hg2, hgg⟩ := run_append_nums numTA w w0.heap.size ty _ u _ [(p : Int)] h.own.a hx (by simp only [List.length_cons, List.length_nil]; omega) (by simp; omega) h.ext.size
  have hk : KeepBut (fun k => (Value.slice s.aA s.aN s.aC).ownBlock = some k) w w' := KeepBut.grown hg2 (fun r e => e)
  obtain ⟨ad, cap, rfl, _⟩ := ho.slice
  refine ⟨ad, _, cap, w', hr, ⟨h.ext.of_but hk (fun k e => (h.own.a.lt e).1), h.lo, ⟨ho, h.own.m.but hk (own_apart h.own.m.own.1 h.own.a.1 (by decide)), h.own.p.but hk (own_apart h.own.p.own.1 h.own.a.1 (by decide))⟩, { h.fit with addrs := fun y hy => ?_ }, h.hb.but hk (fun e => ownsRow_ne h.own.a.1 h.hb hT.2 _ e rfl), h.res.but hk (fun e => ownsRow_ne h.own.a.1 h.res hT.2 _ e rfl), h.rlo, h.rq, h.ne, h.nr, hF.but h.hi hk (fun k e => ⟨(h.own.a.lt e).1, fun e' => ownsRow_ne h.own.a.1 hB hI.2 _ (e' ▸ e) rfl, by obtain ⟨C', hC'⟩ := ownsRow_blk h.own.a.1 e; exact ⟨C', _, hC', by decide⟩⟩)⟩, hk⟩
  rcases List.mem_append.1 hy with hy | hy
  · exact h.fit.addrs y hy
  · rw [List.mem_singleton.1 hy]; exact hp
theorem give_app_k {T : Nat} {F : World → Option Nat → Prop} {w0 w : World} {q r gi : Nat} {c : Co} {s : So} {st : Option Nat} {u : Value} {p : Int} (hF : RdF F w0 gi) (hT : NoK T) (h : SK T F w0 w q r gi c s st) (hx : NumsAt .i64 w u [p]) (hl : c.addrs.length ≤ 100000) (hp : W64 p) {rr : Operand → Value} {o : Oper} {K : Value → World → Prop} {x y : Operand} (ho : o.op = .call { callee := .builtin .append, args := #[x, y], argTypes := #[24, 24] }) (hs : rr x = .slice s.aA s.aN s.aC) (hy : rr y = u)
    (hk : ∀ ad n cap w', HalfK T F w0 w' q r gi c { c with addrs := c.addrs ++ [p] } s { s with aA := ad, aN := n, aC := cap } st → K (.slice ad n cap) w') : give Tryd.prog K ((execOp rr o).run Tryd.prog w) := by
  obtain ⟨ad, n, cap, w', hr, h1, h2⟩ := h.app hF hT hx hl hp o.type
  refine give_of (v := .slice ad n cap) (w' := w') ?_ (hk ad n cap w' h1)
  simp only [execOp, ho, resolve, invoke, builtin, Sem.run_bind, Sem.run_pure, Result.andThen_ok, List.map_toArray, List.map_cons, List.map_nil, hs, hy, hr]
/-- What a call on the reader leaves. -/
def StepK (T : Nat) (F : World → Option Nat → Prop) (w0 : World) (q r gi : Nat) (c : Co) (s : So) (st : Option Nat) (v : Value) (e : Ending) (w' : World) : Prop := e = .returned v ∧ SK T F w0 w' q r gi c s st
/-- What taking bytes leaves. -/
def TookK (T : Nat) (F : World → Option Nat → Prop) (w0 : World) (q r gi : Nat) (c : Co) (s : So) (st : Option Nat) (l : List Nat) (e : Ending) (w' : World) : Prop := ∃ a n cp, e = .returned (.slice a n cp) ∧ OB w' w0.heap.size (.slice a n cp) l ∧ SK T F w0 w' q r gi c s st

/-! ### The code's reader -/
def FIn (base gi : Nat) (bv : Value) (B : List Nat) (w : World) (st : Option Nat) : Prop := InAt w base gi bv B st
theorem noKI : NoK 102 := ⟨by decide, by decide⟩
theorem InAt.blk0 {w : World} {base g : Nat} {bv : Value} {B : List Nat} {s : Option Nat} (h : InAt w base g bv B s) : ∃ C, Blk w g C 102 := by
  obtain ⟨_, a, b, hb, _⟩ := h
  exact ⟨_, hb⟩
theorem fin_rd {w0 : World} {base gi : Nat} {bv : Value} {B : List Nat} (hg : w0.heap.size ≤ gi) : RdF (FIn base gi bv B) w0 gi :=
  ⟨fun h he => InAt.ext h he, fun {S w w' st} h hk hS => InAt.but h hk (fun e => (hS gi e).2.1 rfl) (fun k hk' e => by
    obtain ⟨_, _, C, t, hb, ht⟩ := hS k e
    exact (InAt.own h).ne hb ht k hk' rfl), hg, fun h => by obtain ⟨C, hC⟩ := InAt.blk0 h; exact ⟨C, _, hC, noKI⟩⟩
set_option maxHeartbeats 1000000 in
theorem skNum {w0 w : World} {base q r gi : Nat} {bv : Value} {B : List Nat} {c : Co} {s : So} {st : Option Nat} (hg : w0.heap.size ≤ gi) (h : SK 29 (FIn base gi bv B) w0 w q r gi c s st) (hB : B.length ≤ 1000000) (n : Int) :
    Calls Tryd.prog 53 #[ptr gi, .int .i64 n] w (StepK 29 (FIn base gi bv B) w0 q r gi c s (numS B st n).1 (.int .u64 ((numS B st n).2 : Nat))) := by
  refine (inNum_any h.hi hB n).mono ?_
  rintro e w' ⟨rfl, hi, hk⟩
  exact ⟨rfl, h.step (fin_rd hg) hk hi⟩
theorem skTake {w0 w : World} {base q r gi : Nat} {bv : Value} {B : List Nat} {c : Co} {s : So} {st : Option Nat} (hg : w0.heap.size ≤ gi) (h : SK 29 (FIn base gi bv B) w0 w q r gi c s st) (hB : B.length ≤ 1000000) (n : Int) :
    Calls Tryd.prog 54 #[ptr gi, .int .i64 n] w (TookK 29 (FIn base gi bv B) w0 q r gi c s (takeS B st n).1 (takeS B st n).2) := by
  refine (inTake_any h.hi hB n).mono ?_
  rintro e w' ⟨a, m, cp, rfl, hm, ho, hi, hk⟩
  exact ⟨a, m, cp, rfl, ho.base h.ext.size, h.step (fin_rd hg) hk hi⟩
end Tlv
end Go.Proofs.YtfhoielfekeihaaDoor

/- A cookie read, by the program. No condition of its own. -/
namespace Go.Proofs.YtfhoielfekeihaaDoor
namespace Tlv
open Go Go.RowKit
set_option linter.unusedVariables false
set_option linter.unusedSimpArgs false
set_option maxRecDepth 100000


/-- One more address: what holds while the region goes. -/
structure AdI (T : Nat) (F : World → Option Nat → Prop) (w0 : World) (q r gi : Nat) (V : List Nat) (c : Co) (s : So) (st : Option Nat) (L : Nat → Bool) (vs : Nat → Value) (wx : World) : Prop where
  A : L 6 = false → SK T F w0 wx q r gi c s (bif L 3 then (numS V st 4).1 else st)
  B : L 6 = true → L 8 = false → ∃ ad n cap, vs 6 = .slice ad n cap ∧ HalfK T F w0 wx q r gi c ({ c with addrs := c.addrs ++ [(((numS V st 4).2 : Nat) : Int)] }) s { s with aA := ad, aN := n, aC := cap } (numS V st 4).1
  C : L 8 = true → ∃ ad n cap, SK T F w0 wx q r gi ({ c with addrs := c.addrs ++ [(((numS V st 4).2 : Nat) : Int)] }) { s with aA := ad, aN := n, aC := cap } (numS V st 4).1
  S : L 5 = true → L 6 = false → NumsAt .i64 wx (vs 5) [(((numS V st 4).2 : Nat) : Int)]
  k0 : L 0 = true → vs 0 = .pointer (some ⟨q, 9, none⟩)
  k1 : L 1 = true → vs 1 = .slice s.aA s.aN s.aC
  k2 : L 2 = true → vs 2 = ptr gi
  k3 : L 3 = true → vs 3 = .int .u64 ((numS V st 4).2 : Nat)
  k4 : L 4 = true → vs 4 = .int .i64 ((numS V st 4).2 : Nat)
  k7 : L 7 = true → vs 7 = .pointer (some ⟨q, 9, none⟩)
  d4_3 : L 4 = true → L 3 = true
  d5_3 : L 5 = true → L 3 = true
  d6_1 : L 6 = true → L 1 = true
  d6_5 : L 6 = true → L 5 = true
  d8_6 : L 8 = true → L 6 = true
theorem zeroC : (Tryd.prog.info? 29).bind (·.zero) = some (.agg (KV co0 so0)) := by kernel_rfl
/-- What read leaves. -/
def ReadCo (w0 : World) (base gi : Nat) (bv : Value) (V : List Nat) (e : Ending) (w' : World) : Prop := ∃ s, e = .returned (.agg (KV (readK V) s)) ∧ OwnK w' w0.heap.size s (readK V) ∧ InAt w' base gi bv V (q17 V) ∧ Ext w0 w'
set_option maxHeartbeats 16000000 in
theorem read_anyK {w0 w : World} {base gi : Nat} {bv : Value} {V : List Nat} (hg : w0.heap.size ≤ gi) (he : Ext w0 w) (hi : InAt w base gi bv V (some 0)) (hA : AllB V) (hV : V.length ≤ 1000000) :
    Calls Tryd.prog 32 #[ptr gi] w (ReadCo w0 base gi bv V) := by
  have noT := noKC
  have HX : Hid (AllB V ∧ V.length ≤ 1000000) := ⟨hA, hV⟩
  have HF : Hid (RdF (FIn base gi bv V) w0 gi) := fin_rd hg
  have HG : Hid (w0.heap.size ≤ gi) := hg
  have HI : Hid (Ext w0 w ∧ FIn base gi bv V w (some 0)) := ⟨he, hi⟩
  have w2 : IntKind.u32.wrap (((numS V (q2 V) 4).2 : Nat) : Int) = (((numS V (q2 V) 4).2 : Nat) : Int) := by have := numS_u32 hA (q2 V); rw [IntKind.wrap_u32]; omega
  have w3 : IntKind.u32.wrap (((numS V (q3 V) 4).2 : Nat) : Int) = (((numS V (q3 V) 4).2 : Nat) : Int) := by have := numS_u32 hA (q3 V); rw [IntKind.wrap_u32]; omega
  have w4 : IntKind.u32.wrap (((numS V (q4 V) 4).2 : Nat) : Int) = (((numS V (q4 V) 4).2 : Nat) : Int) := by have := numS_u32 hA (q4 V); rw [IntKind.wrap_u32]; omega
  have w5 : IntKind.u32.wrap (((numS V (q5 V) 4).2 : Nat) : Int) = (((numS V (q5 V) 4).2 : Nat) : Int) := by have := numS_u32 hA (q5 V); rw [IntKind.wrap_u32]; omega
  have w15 : IntKind.u32.wrap (((numS V (q15 V) 4).2 : Nat) : Int) = (((numS V (q15 V) 4).2 : Nat) : Int) := by have := numS_u32 hA (q15 V); rw [IntKind.wrap_u32]; omega
  have w16 : IntKind.u32.wrap (((numS V (q16 V) 4).2 : Nat) : Int) = (((numS V (q16 V) 4).2 : Nat) : Int) := by have := numS_u32 hA (q16 V); rw [IntKind.wrap_u32]; omega
  have w6 : IntKind.i64.wrap (((numS V (q6 V) 4).2 : Nat) : Int) = (((numS V (q6 V) 4).2 : Nat) : Int) := by have := numS_u32 hA (q6 V); rw [IntKind.wrap_i64]; omega
  have w7 : IntKind.i64.wrap (((numS V (q7 V) 1).2 : Nat) : Int) = (((numS V (q7 V) 1).2 : Nat) : Int) := by have := numS_u8 hA (q7 V); rw [IntKind.wrap_i64]; omega
  have w8 : IntKind.i64.wrap (((numS V (q8 V) 1).2 : Nat) : Int) = (((numS V (q8 V) 1).2 : Nat) : Int) := by have := numS_u8 hA (q8 V); rw [IntKind.wrap_i64]; omega
  have w9 : IntKind.i64.wrap (((numS V (q9 V) 1).2 : Nat) : Int) = (((numS V (q9 V) 1).2 : Nat) : Int) := by have := numS_u8 hA (q9 V); rw [IntKind.wrap_i64]; omega
  have w11 : IntKind.i64.wrap (((numS V (q11 V) 1).2 : Nat) : Int) = (((numS V (q11 V) 1).2 : Nat) : Int) := by have := numS_u8 hA (q11 V); rw [IntKind.wrap_i64]; omega
  have w13 : IntKind.i64.wrap (((numS V (q13 V) 1).2 : Nat) : Int) = (((numS V (q13 V) 1).2 : Nat) : Int) := by have := numS_u8 hA (q13 V); rw [IntKind.wrap_i64]; omega
  clear hg he hi hA hV
  go_enter Tryd.func32, Tryd.ntmps32
  refine wp_seq_k (fun K0 hK => ?_)
  have HK0 := Stop.mk hK
  clear hK
  go_wp2_with (first
    | (refine wl_alloc rfl rfl zeroC ?_; intro w1 hb1 he1 hx; clear hx))
  refine HK0.go _ _ ?_
  clear HK0
  refine wp_seq_k (fun K1 hK => ?_)
  have HK1 := Stop.mk hK
  clear hK
  go_wp2_with (first
    | (refine wl_alloc rfl rfl zeroC ?_; intro w2 hb2 he2 hx; clear hx))
  refine HK1.go _ _ ?_
  clear HK1
  have hst := SK.start HF.out HI.out.1 HI.out.2 hb1 he1 hb2 he2
  clear hb1 he1 hb2 he2
  generalize w.heap.size = r at hst ⊢
  generalize w1.heap.size = q at hst ⊢
  have HR0 : Hid (SK 29 (FIn base gi bv V) w0 w2 q r gi co0 so0 (some 0)) := hst
  clear hst
  refine wp_seq_k (fun K2 hK => ?_)
  have HK2 := Stop.mk hK
  clear hK
  go_wp2_with (first
    | (have q_ := HR1; clear q_; refine wl_setK HF.out noT HR1.out rfl one3 0 rfl (by first | rfl | go_simp) (by first | rfl | go_simp) rfl rfl (by decide) (⟨wrap64 (((numS V (some 0) 8).2 : Nat) : Int), 0, 0, 0, 0, 0, 0, 0, 0, [], [], [], 0, 0⟩ : Co) so0 rfl ⟨HR1.out.own.a, HR1.out.own.m, HR1.out.own.p⟩ { HR1.out.fit with made := wrap_w64 _ } ?_; intro y2 hr; have HR2 : Hid (SK 29 (FIn base gi bv V) w0 y2 q r gi (⟨wrap64 (((numS V (some 0) 8).2 : Nat) : Int), 0, 0, 0, 0, 0, 0, 0, 0, [], [], [], 0, 0⟩ : Co) so0 (q1 V)) := hr; clear hr)
    | (have q_ := HR0; clear q_; go_at_call 53; refine (skNum HG.out HR0.out HX.out.2 8).mono ?_; rintro e y1 ⟨rfl, hr⟩; have HR1 : Hid (SK 29 (FIn base gi bv V) w0 y1 q r gi co0 so0 (q1 V)) := hr; clear hr))
  refine HK2.go _ _ ?_
  clear HK2
  refine wp_seq_k (fun K3 hK => ?_)
  have HK3 := Stop.mk hK
  clear hK
  go_wp2_with (first
    | (have q_ := HR3; clear q_; refine wl_setK HF.out noT HR3.out rfl one3 1 rfl (by first | rfl | go_simp) (by first | rfl | go_simp) rfl rfl (by decide) (⟨wrap64 (((numS V (some 0) 8).2 : Nat) : Int), wrap64 (((numS V (q1 V) 8).2 : Nat) : Int), 0, 0, 0, 0, 0, 0, 0, [], [], [], 0, 0⟩ : Co) so0 rfl ⟨HR3.out.own.a, HR3.out.own.m, HR3.out.own.p⟩ { HR3.out.fit with life := wrap_w64 _ } ?_; intro y4 hr; have HR4 : Hid (SK 29 (FIn base gi bv V) w0 y4 q r gi (⟨wrap64 (((numS V (some 0) 8).2 : Nat) : Int), wrap64 (((numS V (q1 V) 8).2 : Nat) : Int), 0, 0, 0, 0, 0, 0, 0, [], [], [], 0, 0⟩ : Co) so0 (q2 V)) := hr; clear hr)
    | (have q_ := HR2; clear q_; go_at_call 53; refine (skNum HG.out HR2.out HX.out.2 8).mono ?_; rintro e y3 ⟨rfl, hr⟩; have HR3 : Hid (SK 29 (FIn base gi bv V) w0 y3 q r gi (⟨wrap64 (((numS V (some 0) 8).2 : Nat) : Int), 0, 0, 0, 0, 0, 0, 0, 0, [], [], [], 0, 0⟩ : Co) so0 (q2 V)) := hr; clear hr))
  refine HK3.go _ _ ?_
  clear HK3
  refine wp_seq_k (fun K4 hK => ?_)
  have HK4 := Stop.mk hK
  clear hK
  go_wp2_with (first
    | (have q_ := HR5; clear q_; refine wl_setK HF.out noT HR5.out rfl one22 2 rfl (by first | rfl | go_simp) (by first | rfl | go_simp) rfl rfl (by decide) (⟨wrap64 (((numS V (some 0) 8).2 : Nat) : Int), wrap64 (((numS V (q1 V) 8).2 : Nat) : Int), (numS V (q2 V) 4).2, 0, 0, 0, 0, 0, 0, [], [], [], 0, 0⟩ : Co) so0 rfl ⟨HR5.out.own.a, HR5.out.own.m, HR5.out.own.p⟩ { HR5.out.fit with mine := numS_u32 HX.out.1 _ } ?_; intro y6 hr; have HR6 : Hid (SK 29 (FIn base gi bv V) w0 y6 q r gi (⟨wrap64 (((numS V (some 0) 8).2 : Nat) : Int), wrap64 (((numS V (q1 V) 8).2 : Nat) : Int), (numS V (q2 V) 4).2, 0, 0, 0, 0, 0, 0, [], [], [], 0, 0⟩ : Co) so0 (q3 V)) := hr; clear hr)
    | (have q_ := HR4; clear q_; go_at_call 53; refine (skNum HG.out HR4.out HX.out.2 4).mono ?_; rintro e y5 ⟨rfl, hr⟩; have HR5 : Hid (SK 29 (FIn base gi bv V) w0 y5 q r gi (⟨wrap64 (((numS V (some 0) 8).2 : Nat) : Int), wrap64 (((numS V (q1 V) 8).2 : Nat) : Int), 0, 0, 0, 0, 0, 0, 0, [], [], [], 0, 0⟩ : Co) so0 (q3 V)) := hr; clear hr))
  refine HK4.go _ _ ?_
  clear HK4
  refine wp_seq_k (fun K5 hK => ?_)
  have HK5 := Stop.mk hK
  clear hK
  go_wp2_with (first
    | (have q_ := HR7; clear q_; refine wl_setK HF.out noT HR7.out rfl one22 3 rfl (by first | rfl | go_simp) (by first | rfl | go_simp) rfl rfl (by decide) (⟨wrap64 (((numS V (some 0) 8).2 : Nat) : Int), wrap64 (((numS V (q1 V) 8).2 : Nat) : Int), (numS V (q2 V) 4).2, (numS V (q3 V) 4).2, 0, 0, 0, 0, 0, [], [], [], 0, 0⟩ : Co) so0 rfl ⟨HR7.out.own.a, HR7.out.own.m, HR7.out.own.p⟩ { HR7.out.fit with peers := numS_u32 HX.out.1 _ } ?_; intro y8 hr; have HR8 : Hid (SK 29 (FIn base gi bv V) w0 y8 q r gi (⟨wrap64 (((numS V (some 0) 8).2 : Nat) : Int), wrap64 (((numS V (q1 V) 8).2 : Nat) : Int), (numS V (q2 V) 4).2, (numS V (q3 V) 4).2, 0, 0, 0, 0, 0, [], [], [], 0, 0⟩ : Co) so0 (q4 V)) := hr; clear hr)
    | (have q_ := HR6; clear q_; go_at_call 53; refine (skNum HG.out HR6.out HX.out.2 4).mono ?_; rintro e y7 ⟨rfl, hr⟩; have HR7 : Hid (SK 29 (FIn base gi bv V) w0 y7 q r gi (⟨wrap64 (((numS V (some 0) 8).2 : Nat) : Int), wrap64 (((numS V (q1 V) 8).2 : Nat) : Int), (numS V (q2 V) 4).2, 0, 0, 0, 0, 0, 0, [], [], [], 0, 0⟩ : Co) so0 (q4 V)) := hr; clear hr))
  refine HK5.go _ _ ?_
  clear HK5
  refine wp_seq_k (fun K6 hK => ?_)
  have HK6 := Stop.mk hK
  clear hK
  go_wp2_with (first
    | (have q_ := HR9; clear q_; refine wl_setK HF.out noT HR9.out rfl one22 4 rfl (by first | rfl | go_simp) (by first | rfl | go_simp) rfl rfl (by decide) (⟨wrap64 (((numS V (some 0) 8).2 : Nat) : Int), wrap64 (((numS V (q1 V) 8).2 : Nat) : Int), (numS V (q2 V) 4).2, (numS V (q3 V) 4).2, (numS V (q4 V) 4).2, 0, 0, 0, 0, [], [], [], 0, 0⟩ : Co) so0 rfl ⟨HR9.out.own.a, HR9.out.own.m, HR9.out.own.p⟩ { HR9.out.fit with mtsn := numS_u32 HX.out.1 _ } ?_; intro y10 hr; have HR10 : Hid (SK 29 (FIn base gi bv V) w0 y10 q r gi (⟨wrap64 (((numS V (some 0) 8).2 : Nat) : Int), wrap64 (((numS V (q1 V) 8).2 : Nat) : Int), (numS V (q2 V) 4).2, (numS V (q3 V) 4).2, (numS V (q4 V) 4).2, 0, 0, 0, 0, [], [], [], 0, 0⟩ : Co) so0 (q5 V)) := hr; clear hr)
    | (have q_ := HR8; clear q_; go_at_call 53; refine (skNum HG.out HR8.out HX.out.2 4).mono ?_; rintro e y9 ⟨rfl, hr⟩; have HR9 : Hid (SK 29 (FIn base gi bv V) w0 y9 q r gi (⟨wrap64 (((numS V (some 0) 8).2 : Nat) : Int), wrap64 (((numS V (q1 V) 8).2 : Nat) : Int), (numS V (q2 V) 4).2, (numS V (q3 V) 4).2, 0, 0, 0, 0, 0, [], [], [], 0, 0⟩ : Co) so0 (q5 V)) := hr; clear hr))
  refine HK6.go _ _ ?_
  clear HK6
  refine wp_seq_k (fun K7 hK => ?_)
  have HK7 := Stop.mk hK
  clear hK
  go_wp2_with (first
    | (have q_ := HR11; clear q_; refine wl_setK HF.out noT HR11.out rfl one22 5 rfl (by first | rfl | go_simp) (by first | rfl | go_simp) rfl rfl (by decide) (⟨wrap64 (((numS V (some 0) 8).2 : Nat) : Int), wrap64 (((numS V (q1 V) 8).2 : Nat) : Int), (numS V (q2 V) 4).2, (numS V (q3 V) 4).2, (numS V (q4 V) 4).2, (numS V (q5 V) 4).2, 0, 0, 0, [], [], [], 0, 0⟩ : Co) so0 rfl ⟨HR11.out.own.a, HR11.out.own.m, HR11.out.own.p⟩ { HR11.out.fit with ptsn := numS_u32 HX.out.1 _ } ?_; intro y12 hr; have HR12 : Hid (SK 29 (FIn base gi bv V) w0 y12 q r gi (⟨wrap64 (((numS V (some 0) 8).2 : Nat) : Int), wrap64 (((numS V (q1 V) 8).2 : Nat) : Int), (numS V (q2 V) 4).2, (numS V (q3 V) 4).2, (numS V (q4 V) 4).2, (numS V (q5 V) 4).2, 0, 0, 0, [], [], [], 0, 0⟩ : Co) so0 (q6 V)) := hr; clear hr)
    | (have q_ := HR10; clear q_; go_at_call 53; refine (skNum HG.out HR10.out HX.out.2 4).mono ?_; rintro e y11 ⟨rfl, hr⟩; have HR11 : Hid (SK 29 (FIn base gi bv V) w0 y11 q r gi (⟨wrap64 (((numS V (some 0) 8).2 : Nat) : Int), wrap64 (((numS V (q1 V) 8).2 : Nat) : Int), (numS V (q2 V) 4).2, (numS V (q3 V) 4).2, (numS V (q4 V) 4).2, 0, 0, 0, 0, [], [], [], 0, 0⟩ : Co) so0 (q6 V)) := hr; clear hr))
  refine HK7.go _ _ ?_
  clear HK7
  refine wp_seq_k (fun K8 hK => ?_)
  have HK8 := Stop.mk hK
  clear hK
  go_wp2_with (first
    | (have q_ := HR13; clear q_; refine wl_setK HF.out noT HR13.out rfl one3 6 rfl (by first | rfl | go_simp) (by first | rfl | go_simp) rfl rfl (by decide) (⟨wrap64 (((numS V (some 0) 8).2 : Nat) : Int), wrap64 (((numS V (q1 V) 8).2 : Nat) : Int), (numS V (q2 V) 4).2, (numS V (q3 V) 4).2, (numS V (q4 V) 4).2, (numS V (q5 V) 4).2, (((numS V (q6 V) 4).2 : Nat) : Int), 0, 0, [], [], [], 0, 0⟩ : Co) so0 rfl ⟨HR13.out.own.a, HR13.out.own.m, HR13.out.own.p⟩ { HR13.out.fit with win := numS_w4 HX.out.1 _ } ?_; intro y14 hr; have HR14 : Hid (SK 29 (FIn base gi bv V) w0 y14 q r gi (⟨wrap64 (((numS V (some 0) 8).2 : Nat) : Int), wrap64 (((numS V (q1 V) 8).2 : Nat) : Int), (numS V (q2 V) 4).2, (numS V (q3 V) 4).2, (numS V (q4 V) 4).2, (numS V (q5 V) 4).2, (((numS V (q6 V) 4).2 : Nat) : Int), 0, 0, [], [], [], 0, 0⟩ : Co) so0 (q7 V)) := hr; clear hr)
    | (have q_ := HR12; clear q_; go_at_call 53; refine (skNum HG.out HR12.out HX.out.2 4).mono ?_; rintro e y13 ⟨rfl, hr⟩; have HR13 : Hid (SK 29 (FIn base gi bv V) w0 y13 q r gi (⟨wrap64 (((numS V (some 0) 8).2 : Nat) : Int), wrap64 (((numS V (q1 V) 8).2 : Nat) : Int), (numS V (q2 V) 4).2, (numS V (q3 V) 4).2, (numS V (q4 V) 4).2, (numS V (q5 V) 4).2, 0, 0, 0, [], [], [], 0, 0⟩ : Co) so0 (q7 V)) := hr; clear hr))
  refine HK8.go _ _ ?_
  clear HK8
  refine wp_seq_k (fun K9 hK => ?_)
  have HK9 := Stop.mk hK
  clear hK
  go_wp2_with (first
    | (have q_ := HR15; clear q_; refine wl_setK HF.out noT HR15.out rfl one3 7 rfl (by first | rfl | go_simp) (by first | rfl | go_simp) rfl rfl (by decide) (⟨wrap64 (((numS V (some 0) 8).2 : Nat) : Int), wrap64 (((numS V (q1 V) 8).2 : Nat) : Int), (numS V (q2 V) 4).2, (numS V (q3 V) 4).2, (numS V (q4 V) 4).2, (numS V (q5 V) 4).2, (((numS V (q6 V) 4).2 : Nat) : Int), (((numS V (q7 V) 1).2 : Nat) : Int), 0, [], [], [], 0, 0⟩ : Co) so0 rfl ⟨HR15.out.own.a, HR15.out.own.m, HR15.out.own.p⟩ { HR15.out.fit with out := numS_w8 HX.out.1 _ } ?_; intro y16 hr; have HR16 : Hid (SK 29 (FIn base gi bv V) w0 y16 q r gi (⟨wrap64 (((numS V (some 0) 8).2 : Nat) : Int), wrap64 (((numS V (q1 V) 8).2 : Nat) : Int), (numS V (q2 V) 4).2, (numS V (q3 V) 4).2, (numS V (q4 V) 4).2, (numS V (q5 V) 4).2, (((numS V (q6 V) 4).2 : Nat) : Int), (((numS V (q7 V) 1).2 : Nat) : Int), 0, [], [], [], 0, 0⟩ : Co) so0 (q8 V)) := hr; clear hr)
    | (have q_ := HR14; clear q_; go_at_call 53; refine (skNum HG.out HR14.out HX.out.2 1).mono ?_; rintro e y15 ⟨rfl, hr⟩; have HR15 : Hid (SK 29 (FIn base gi bv V) w0 y15 q r gi (⟨wrap64 (((numS V (some 0) 8).2 : Nat) : Int), wrap64 (((numS V (q1 V) 8).2 : Nat) : Int), (numS V (q2 V) 4).2, (numS V (q3 V) 4).2, (numS V (q4 V) 4).2, (numS V (q5 V) 4).2, (((numS V (q6 V) 4).2 : Nat) : Int), 0, 0, [], [], [], 0, 0⟩ : Co) so0 (q8 V)) := hr; clear hr))
  refine HK9.go _ _ ?_
  clear HK9
  refine wp_seq_k (fun K10 hK => ?_)
  have HK10 := Stop.mk hK
  clear hK
  go_wp2_with (first
    | (have q_ := HR17; clear q_; refine wl_setK HF.out noT HR17.out rfl one3 8 rfl (by first | rfl | go_simp) (by first | rfl | go_simp) rfl rfl (by decide) (⟨wrap64 (((numS V (some 0) 8).2 : Nat) : Int), wrap64 (((numS V (q1 V) 8).2 : Nat) : Int), (numS V (q2 V) 4).2, (numS V (q3 V) 4).2, (numS V (q4 V) 4).2, (numS V (q5 V) 4).2, (((numS V (q6 V) 4).2 : Nat) : Int), (((numS V (q7 V) 1).2 : Nat) : Int), (((numS V (q8 V) 1).2 : Nat) : Int), [], [], [], 0, 0⟩ : Co) so0 rfl ⟨HR17.out.own.a, HR17.out.own.m, HR17.out.own.p⟩ { HR17.out.fit with inn := numS_w8 HX.out.1 _ } ?_; intro y18 hr; have HR18 : Hid (SK 29 (FIn base gi bv V) w0 y18 q r gi (⟨wrap64 (((numS V (some 0) 8).2 : Nat) : Int), wrap64 (((numS V (q1 V) 8).2 : Nat) : Int), (numS V (q2 V) 4).2, (numS V (q3 V) 4).2, (numS V (q4 V) 4).2, (numS V (q5 V) 4).2, (((numS V (q6 V) 4).2 : Nat) : Int), (((numS V (q7 V) 1).2 : Nat) : Int), (((numS V (q8 V) 1).2 : Nat) : Int), [], [], [], 0, 0⟩ : Co) so0 (q9 V)) := hr; clear hr)
    | (have q_ := HR16; clear q_; go_at_call 53; refine (skNum HG.out HR16.out HX.out.2 1).mono ?_; rintro e y17 ⟨rfl, hr⟩; have HR17 : Hid (SK 29 (FIn base gi bv V) w0 y17 q r gi (⟨wrap64 (((numS V (some 0) 8).2 : Nat) : Int), wrap64 (((numS V (q1 V) 8).2 : Nat) : Int), (numS V (q2 V) 4).2, (numS V (q3 V) 4).2, (numS V (q4 V) 4).2, (numS V (q5 V) 4).2, (((numS V (q6 V) 4).2 : Nat) : Int), (((numS V (q7 V) 1).2 : Nat) : Int), 0, [], [], [], 0, 0⟩ : Co) so0 (q9 V)) := hr; clear hr))
  refine HK10.go _ _ ?_
  clear HK10
  go_wp2_with (first
    | (have q_ := HR18; clear q_; go_at_call 53; refine (skNum HG.out HR18.out HX.out.2 1).mono ?_; rintro e y19 ⟨rfl, hr⟩; have HR19 : Hid (SK 29 (FIn base gi bv V) w0 y19 q r gi (⟨wrap64 (((numS V (some 0) 8).2 : Nat) : Int), wrap64 (((numS V (q1 V) 8).2 : Nat) : Int), (numS V (q2 V) 4).2, (numS V (q3 V) 4).2, (numS V (q4 V) 4).2, (numS V (q5 V) 4).2, (((numS V (q6 V) 4).2 : Nat) : Int), (((numS V (q7 V) 1).2 : Nat) : Int), (((numS V (q8 V) 1).2 : Nat) : Int), [], [], [], 0, 0⟩ : Co) so0 (q10 V)) := hr; clear hr))
  obtain ⟨N, hN⟩ : ∃ N, N = (numS V (q9 V) 1).2 := ⟨_, rfl⟩
  have HN : Hid (N = nA V ∧ N < 256) := ⟨hN, by rw [hN]; exact numS_u8 HX.out.1 _⟩
  have hN2 := HN.out.2
  rw [← hN]
  clear hN HR0 HR1 HR2 HR3 HR4 HR5 HR6 HR7 HR8 HR9 HR10 HR11 HR12 HR13 HR14 HR15 HR16 HR17 HR18
  go_loopg [43] N (fun gm t wr => ∃ (k : Nat) (ad : Option Addr) (n cap : Nat), k ≤ N ∧ gm = N - k ∧ t = .int .i64 (k : Int) ∧ Hid (SK 29 (FIn base gi bv V) w0 wr q r gi (⟨wrap64 (((numS V (some 0) 8).2 : Nat) : Int), wrap64 (((numS V (q1 V) 8).2 : Nat) : Int), (numS V (q2 V) 4).2, (numS V (q3 V) 4).2, (numS V (q4 V) 4).2, (numS V (q5 V) 4).2, (((numS V (q6 V) 4).2 : Nat) : Int), (((numS V (q7 V) 1).2 : Nat) : Int), (((numS V (q8 V) 1).2 : Nat) : Int), (adS V (q10 V) k).2, [], [], 0, 0⟩ : Co) { so0 with aA := ad, aN := n, aC := cap } (adS V (q10 V) k).1))
  case atStart => exact ⟨0, none, 0, 0, Nat.zero_le _, rfl, rfl, HR19.out⟩
  case round =>
    obtain ⟨k, ad, n, cap, hk, rfl, rfl, HR⟩ := hrel
    by_cases hlt : k < N
    · have hd : decide ((k : Int) < (N : Int)) = true := decide_eq_true (by omega)
      have HLn : Hid ((adS V (q10 V) k).2.length ≤ 100000) := show _ ≤ _ by rw [adS_len]; omega
      go_wp2_with fail
      obtain ⟨s, hs⟩ : ∃ s : So, s = { so0 with aA := ad, aN := n, aC := cap } := ⟨_, rfl⟩
      obtain ⟨c, hc⟩ : ∃ c : Co, c = (⟨wrap64 (((numS V (some 0) 8).2 : Nat) : Int), wrap64 (((numS V (q1 V) 8).2 : Nat) : Int), (numS V (q2 V) 4).2, (numS V (q3 V) 4).2, (numS V (q4 V) 4).2, (numS V (q5 V) 4).2, (((numS V (q6 V) 4).2 : Nat) : Int), (((numS V (q7 V) 1).2 : Nat) : Int), (((numS V (q8 V) 1).2 : Nat) : Int), (adS V (q10 V) k).2, [], [], 0, 0⟩ : Co) := ⟨_, rfl⟩
      obtain ⟨st, hst⟩ : ∃ st, st = (adS V (q10 V) k).1 := ⟨_, rfl⟩
      rw [← hs, ← hc, ← hst] at HR
      replace HLn : Hid (c.addrs.length ≤ 100000) := show _ ≤ _ by rw [hc]; exact HLn.out
      have HS : Hid (s = { so0 with aA := ad, aN := n, aC := cap } ∧ c = (⟨wrap64 (((numS V (some 0) 8).2 : Nat) : Int), wrap64 (((numS V (q1 V) 8).2 : Nat) : Int), (numS V (q2 V) 4).2, (numS V (q3 V) 4).2, (numS V (q4 V) 4).2, (numS V (q5 V) 4).2, (((numS V (q6 V) 4).2 : Nat) : Int), (((numS V (q7 V) 1).2 : Nat) : Int), (((numS V (q8 V) 1).2 : Nat) : Int), (adS V (q10 V) k).2, [], [], 0, 0⟩ : Co) ∧ st = (adS V (q10 V) k).1) := ⟨hs, hc, hst⟩
      clear hs hc hst
      refine wp_region_W (AdI 29 (FIn base gi bv V) w0 q r gi V c s st) (fun t => bif Nat.ble 45 t && Nat.ble t 52 then some (t - 45) else none) 75 rfl (by kernel_rfl) rfl (fun vs => ⟨fun _ => HR.out.grow HF.out (Ext.drew _), fun h => by simp at h, fun h => by simp at h, fun h => by simp at h, fun h => by simp at h, fun h => by simp at h, fun h => by simp at h, fun h => by simp at h, fun h => by simp at h, fun h => by simp at h, fun h => by simp at h, fun h => by simp at h, fun h => by simp at h, fun h => by simp at h, fun h => by simp at h⟩) ?_ ?_
      · refine OwedVs.cons ⟨rfl, ?_⟩ (OwedVs.cons ⟨rfl, ?_⟩ (OwedVs.cons ⟨rfl, ?_⟩ (OwedVs.cons ⟨rfl, ?_⟩ (OwedVs.cons ⟨rfl, ?_⟩ (OwedVs.cons ⟨rfl, ?_⟩ (OwedVs.cons ⟨rfl, ?_⟩ (OwedVs.cons ⟨rfl, ?_⟩ (OwedVs.cons ⟨rfl, ?_⟩ OwedVs.nil))))))))
        · intro L vs wx r_ H hl hL hx
          obtain ⟨h1, _⟩ := hx
          replace h1 : r_ (.tmp 3) = ptr q := h1
          exact give_of (by simp [execOp, h1, ptr, go_sem]; done) ⟨H.A, H.B, H.C, H.S, fun _ => rfl, H.k1, H.k2, H.k3, H.k4, H.k7, H.d4_3, H.d5_3, H.d6_1, H.d6_5, H.d8_6⟩
        · intro L vs wx r_ H hl hL hx
          obtain ⟨h1, _⟩ := hx
          replace h1 : r_ (.tmp 45) = .pointer (some ⟨q, 9, none⟩) := Eq.trans h1 (H.k0 (hL 0 (by kernel_rfl)))
          exact give_of (exec_get oneSA rfl h1 (kv9 (H.A (met_no H.d6_1 hl)).hb)) ⟨H.A, H.B, H.C, H.S, H.k0, fun _ => rfl, H.k2, H.k3, H.k4, H.k7, H.d4_3, H.d5_3, fun _ => rfl, H.d6_5, H.d8_6⟩
        · intro L vs wx r_ H hl hL hx
          obtain ⟨h1, _⟩ := hx
          replace h1 : r_ (.tmp 0) = ptr gi := h1
          exact give_move (.inl rfl) (by rw [h1]; exact ⟨H.A, H.B, H.C, H.S, H.k0, H.k1, fun _ => rfl, H.k3, H.k4, H.k7, H.d4_3, H.d5_3, H.d6_1, H.d6_5, H.d8_6⟩)
        · intro L vs wx r_ H hl hL hx
          obtain ⟨h1, h2, h3, _⟩ := hx
          replace h1 : r_ (.func 53) = .func (.func 53) #[] #[] := h1
          replace h2 : r_ (.tmp 47) = ptr gi := Eq.trans h2 (H.k2 (hL 2 (by kernel_rfl)))
          replace h3 : r_ (.const (.int .i64 4)) = .int .i64 4 := h3
          have h4 : L 4 = false := met_no H.d4_3 hl
          have h5 : L 5 = false := met_no H.d5_3 hl
          have h6 : L 6 = false := met_no H.d6_5 h5
          have h8 : L 8 = false := met_no H.d8_6 h6
          have hA := H.A h6
          rw [hl] at hA
          refine give_func #[ptr gi, .int .i64 4] rfl h1 Tryd.call53 (by simp [h2, h3]) ?_
          refine (skNum HG.out hA HX.out.2 4).mono ?_
          rintro e w' ⟨rfl, hr⟩
          exact ⟨_, rfl, ⟨fun _ => hr, fun h => absurd (h.symm.trans h6) (by decide), fun h => absurd (h.symm.trans h8) (by decide), fun h => absurd (h.symm.trans h5) (by decide), H.k0, H.k1, H.k2, fun _ => rfl, H.k4, H.k7, fun _ => rfl, fun _ => rfl, H.d6_1, H.d6_5, H.d8_6⟩⟩
        · intro L vs wx r_ H hl hL hx
          obtain ⟨h1, _⟩ := hx
          replace h1 : r_ (.tmp 48) = .int .u64 ((numS V st 4).2 : Nat) := Eq.trans h1 (H.k3 (hL 3 (by kernel_rfl)))
          have hw : IntKind.i64.wrap (((numS V st 4).2 : Nat) : Int) = (((numS V st 4).2 : Nat) : Int) := by have := numS_u32 HX.out.1 st; rw [IntKind.wrap_i64]; omega
          exact give_of (by simp [execOp, h1, go_sem, hw]; done) ⟨H.A, H.B, H.C, H.S, H.k0, H.k1, H.k2, H.k3, fun _ => rfl, H.k7, fun _ => hL 3 (by kernel_rfl), H.d5_3, H.d6_1, H.d6_5, H.d8_6⟩
        · intro L vs wx r_ H hl hL hx
          obtain ⟨h1, _⟩ := hx
          replace h1 : r_ (.tmp 49) = .int .i64 ((numS V st 4).2 : Nat) := Eq.trans h1 (H.k4 (hL 4 (by kernel_rfl)))
          have h6 : L 6 = false := met_no H.d6_5 hl
          have h8 : L 8 = false := met_no H.d8_6 h6
          exact give_one_num rfl numTA h1 ⟨fun h => (H.A h).grow HF.out (Ext.alloc _ _), fun h => absurd (h.symm.trans h6) (by decide), fun h => absurd (h.symm.trans h8) (by decide), fun _ _ => NumsAt.one wx _ _ _ rfl, H.k0, H.k1, H.k2, H.k3, H.k4, H.k7, H.d4_3, fun _ => H.d4_3 (hL 4 (by kernel_rfl)), H.d6_1, fun _ => rfl, H.d8_6⟩
        · intro L vs wx r_ H hl hL hx
          obtain ⟨h1, h2, _⟩ := hx
          have hA := H.A hl
          rw [H.d5_3 (hL 5 (by kernel_rfl))] at hA
          have h8 : L 8 = false := met_no H.d8_6 hl
          replace h1 : r_ (.tmp 46) = .slice s.aA s.aN s.aC := Eq.trans h1 (H.k1 (hL 1 (by kernel_rfl)))
          replace h2 : r_ (.tmp 50) = vs 5 := h2
          exact give_app_k HF.out noT hA (H.S (hL 5 (by kernel_rfl)) hl) HLn.out (numS_w4 HX.out.1 _) rfl h1 h2 (fun ad n cap w' hf => ⟨fun h => absurd h (by simp [met1]), fun _ _ => ⟨ad, n, cap, rfl, hf⟩, fun h => absurd (h.symm.trans h8) (by decide), fun _ h => absurd h (by simp [met1]), H.k0, H.k1, H.k2, H.k3, H.k4, H.k7, H.d4_3, H.d5_3, fun _ => hL 1 (by kernel_rfl), fun _ => hL 5 (by kernel_rfl), fun _ => rfl⟩)
        · intro L vs wx r_ H hl hL hx
          obtain ⟨h1, _⟩ := hx
          replace h1 : r_ (.tmp 3) = ptr q := h1
          exact give_of (by simp [execOp, h1, ptr, go_sem]; done) ⟨H.A, H.B, H.C, H.S, H.k0, H.k1, H.k2, H.k3, H.k4, fun _ => rfl, H.d4_3, H.d5_3, H.d6_1, H.d6_5, H.d8_6⟩
        · intro L vs wx r_ H hl hL hx
          obtain ⟨h1, h2, _⟩ := hx
          replace h1 : r_ (.tmp 52) = .pointer (some ⟨q, 9, none⟩) := Eq.trans h1 (H.k7 (hL 7 (by kernel_rfl)))
          obtain ⟨ad, n, cap, e, hf⟩ := H.B (hL 6 (by kernel_rfl)) hl
          replace h2 : r_ (.tmp 51) = .slice ad n cap := Eq.trans h2 e
          exact give_skip (exec_set oneSA rfl h1 h2 rfl rfl hf.hb (show 9 < (KV c s).size from (by decide : 9 < 14))) ⟨fun h => absurd (h.symm.trans (hL 6 (by kernel_rfl))) (by decide), fun _ h => absurd h (by simp [met1]), fun _ => ⟨ad, n, cap, hf.store HF.out noT rfl⟩, fun _ h => absurd (h.symm.trans (hL 6 (by kernel_rfl))) (by decide), H.k0, H.k1, H.k2, H.k3, H.k4, H.k7, H.d4_3, H.d5_3, H.d6_1, H.d6_5, fun _ => hL 6 (by kernel_rfl)⟩
      · intro vs2 a2 wE H ha2
        obtain ⟨ad2, n2, cap2, h2⟩ := H.C rfl
        rw [HS.out.1, HS.out.2.1, HS.out.2.2] at h2
        have HR2 : Hid (SK 29 (FIn base gi bv V) w0 wE q r gi (⟨wrap64 (((numS V (some 0) 8).2 : Nat) : Int), wrap64 (((numS V (q1 V) 8).2 : Nat) : Int), (numS V (q2 V) 4).2, (numS V (q3 V) 4).2, (numS V (q4 V) 4).2, (numS V (q5 V) 4).2, (((numS V (q6 V) 4).2 : Nat) : Int), (((numS V (q7 V) 1).2 : Nat) : Int), (((numS V (q8 V) 1).2 : Nat) : Int), (adS V (q10 V) (k + 1)).2, [], [], 0, 0⟩ : Co) { so0 with aA := ad2, aN := n2, aC := cap2 } (adS V (q10 V) (k + 1)).1) := h2
        clear h2 H
        simp only [putAll, Act.put, Nat.zero_add, Nat.reduceAdd, List.setIfInBounds_toArray, List.set_cons_succ, List.set_cons_zero] at ha2
        subst ha2
        go_wp2
        go_roundg (N - (k + 1))
        case measure => omega
        case rel => exact ⟨k + 1, ad2, n2, cap2, by omega, rfl, by simp, HR2.out⟩
    · have hd : decide ((k : Int) < (N : Int)) = false := decide_eq_false (by omega)
      obtain rfl : k = N := by omega
      have hkN := HN.out.1
      subst hkN
      have HT0 : Hid (SK 29 (FIn base gi bv V) w0 wr q r gi (⟨wrap64 (((numS V (some 0) 8).2 : Nat) : Int), wrap64 (((numS V (q1 V) 8).2 : Nat) : Int), (numS V (q2 V) 4).2, (numS V (q3 V) 4).2, (numS V (q4 V) 4).2, (numS V (q5 V) 4).2, (((numS V (q6 V) 4).2 : Nat) : Int), (((numS V (q7 V) 1).2 : Nat) : Int), (((numS V (q8 V) 1).2 : Nat) : Int), (adS V (q10 V) (nA V)).2, [], [], 0, 0⟩ : Co) { so0 with aA := ad, aN := n, aC := cap } (q11 V)) := HR.out
      clear HR HR19
      go_wp2_with (first
        | (have q_ := HT10; clear q_; refine wl_load rfl rowC rfl rfl HT10.out.hb rfl ?_; refine wl_store (D := KV (⟨wrap64 (((numS V (some 0) 8).2 : Nat) : Int), wrap64 (((numS V (q1 V) 8).2 : Nat) : Int), (numS V (q2 V) 4).2, (numS V (q3 V) 4).2, (numS V (q4 V) 4).2, (numS V (q5 V) 4).2, (((numS V (q6 V) 4).2 : Nat) : Int), (((numS V (q7 V) 1).2 : Nat) : Int), (((numS V (q8 V) 1).2 : Nat) : Int), (adS V (q10 V) (nA V)).2, (takeS V (q12 V) (nM V)).2, (takeS V (q14 V) (nP V)).2, (numS V (q15 V) 4).2, (numS V (q16 V) 4).2⟩ : Co) { so0 with aA := ad, aN := n, aC := cap, mA := ma, mN := mn, mC := mc, pA := pa, pN := pn, pC := pc }) rfl rowC rfl rfl rfl HT10.out.res rfl rfl (KV.one _ _) ?_; intro w9 hb9 hk9 hx9; clear hx9)
        | (have q_ := HT9; clear q_; refine wl_setK HF.out noT HT9.out rfl one22 13 rfl (by first | rfl | go_simp) (by first | rfl | go_simp) rfl rfl (by decide) (⟨wrap64 (((numS V (some 0) 8).2 : Nat) : Int), wrap64 (((numS V (q1 V) 8).2 : Nat) : Int), (numS V (q2 V) 4).2, (numS V (q3 V) 4).2, (numS V (q4 V) 4).2, (numS V (q5 V) 4).2, (((numS V (q6 V) 4).2 : Nat) : Int), (((numS V (q7 V) 1).2 : Nat) : Int), (((numS V (q8 V) 1).2 : Nat) : Int), (adS V (q10 V) (nA V)).2, (takeS V (q12 V) (nM V)).2, (takeS V (q14 V) (nP V)).2, (numS V (q15 V) 4).2, (numS V (q16 V) 4).2⟩ : Co) { so0 with aA := ad, aN := n, aC := cap, mA := ma, mN := mn, mC := mc, pA := pa, pN := pn, pC := pc } rfl ⟨HT9.out.own.a, HT9.out.own.m, HT9.out.own.p⟩ { HT9.out.fit with tp := numS_u32 HX.out.1 _ } ?_; intro y10 hr; have HT10 : Hid (SK 29 (FIn base gi bv V) w0 y10 q r gi (⟨wrap64 (((numS V (some 0) 8).2 : Nat) : Int), wrap64 (((numS V (q1 V) 8).2 : Nat) : Int), (numS V (q2 V) 4).2, (numS V (q3 V) 4).2, (numS V (q4 V) 4).2, (numS V (q5 V) 4).2, (((numS V (q6 V) 4).2 : Nat) : Int), (((numS V (q7 V) 1).2 : Nat) : Int), (((numS V (q8 V) 1).2 : Nat) : Int), (adS V (q10 V) (nA V)).2, (takeS V (q12 V) (nM V)).2, (takeS V (q14 V) (nP V)).2, (numS V (q15 V) 4).2, (numS V (q16 V) 4).2⟩ : Co) { so0 with aA := ad, aN := n, aC := cap, mA := ma, mN := mn, mC := mc, pA := pa, pN := pn, pC := pc } (q17 V)) := hr; clear hr)
        | (have q_ := HT8; clear q_; go_at_call 53; refine (skNum HG.out HT8.out HX.out.2 4).mono ?_; rintro e y9 ⟨rfl, hr⟩; have HT9 : Hid (SK 29 (FIn base gi bv V) w0 y9 q r gi (⟨wrap64 (((numS V (some 0) 8).2 : Nat) : Int), wrap64 (((numS V (q1 V) 8).2 : Nat) : Int), (numS V (q2 V) 4).2, (numS V (q3 V) 4).2, (numS V (q4 V) 4).2, (numS V (q5 V) 4).2, (((numS V (q6 V) 4).2 : Nat) : Int), (((numS V (q7 V) 1).2 : Nat) : Int), (((numS V (q8 V) 1).2 : Nat) : Int), (adS V (q10 V) (nA V)).2, (takeS V (q12 V) (nM V)).2, (takeS V (q14 V) (nP V)).2, (numS V (q15 V) 4).2, 0⟩ : Co) { so0 with aA := ad, aN := n, aC := cap, mA := ma, mN := mn, mC := mc, pA := pa, pN := pn, pC := pc } (q17 V)) := hr; clear hr)
        | (have q_ := HT7; clear q_; refine wl_setK HF.out noT HT7.out rfl one22 12 rfl (by first | rfl | go_simp) (by first | rfl | go_simp) rfl rfl (by decide) (⟨wrap64 (((numS V (some 0) 8).2 : Nat) : Int), wrap64 (((numS V (q1 V) 8).2 : Nat) : Int), (numS V (q2 V) 4).2, (numS V (q3 V) 4).2, (numS V (q4 V) 4).2, (numS V (q5 V) 4).2, (((numS V (q6 V) 4).2 : Nat) : Int), (((numS V (q7 V) 1).2 : Nat) : Int), (((numS V (q8 V) 1).2 : Nat) : Int), (adS V (q10 V) (nA V)).2, (takeS V (q12 V) (nM V)).2, (takeS V (q14 V) (nP V)).2, (numS V (q15 V) 4).2, 0⟩ : Co) { so0 with aA := ad, aN := n, aC := cap, mA := ma, mN := mn, mC := mc, pA := pa, pN := pn, pC := pc } rfl ⟨HT7.out.own.a, HT7.out.own.m, HT7.out.own.p⟩ { HT7.out.fit with tm := numS_u32 HX.out.1 _ } ?_; intro y8 hr; have HT8 : Hid (SK 29 (FIn base gi bv V) w0 y8 q r gi (⟨wrap64 (((numS V (some 0) 8).2 : Nat) : Int), wrap64 (((numS V (q1 V) 8).2 : Nat) : Int), (numS V (q2 V) 4).2, (numS V (q3 V) 4).2, (numS V (q4 V) 4).2, (numS V (q5 V) 4).2, (((numS V (q6 V) 4).2 : Nat) : Int), (((numS V (q7 V) 1).2 : Nat) : Int), (((numS V (q8 V) 1).2 : Nat) : Int), (adS V (q10 V) (nA V)).2, (takeS V (q12 V) (nM V)).2, (takeS V (q14 V) (nP V)).2, (numS V (q15 V) 4).2, 0⟩ : Co) { so0 with aA := ad, aN := n, aC := cap, mA := ma, mN := mn, mC := mc, pA := pa, pN := pn, pC := pc } (q16 V)) := hr; clear hr)
        | (have q_ := HT6; clear q_; go_at_call 53; refine (skNum HG.out HT6.out HX.out.2 4).mono ?_; rintro e y7 ⟨rfl, hr⟩; have HT7 : Hid (SK 29 (FIn base gi bv V) w0 y7 q r gi (⟨wrap64 (((numS V (some 0) 8).2 : Nat) : Int), wrap64 (((numS V (q1 V) 8).2 : Nat) : Int), (numS V (q2 V) 4).2, (numS V (q3 V) 4).2, (numS V (q4 V) 4).2, (numS V (q5 V) 4).2, (((numS V (q6 V) 4).2 : Nat) : Int), (((numS V (q7 V) 1).2 : Nat) : Int), (((numS V (q8 V) 1).2 : Nat) : Int), (adS V (q10 V) (nA V)).2, (takeS V (q12 V) (nM V)).2, (takeS V (q14 V) (nP V)).2, 0, 0⟩ : Co) { so0 with aA := ad, aN := n, aC := cap, mA := ma, mN := mn, mC := mc, pA := pa, pN := pn, pC := pc } (q16 V)) := hr; clear hr)
        | (have q_ := HT5; clear q_; refine wl_setK HF.out noT HT5.out rfl oneS 11 rfl (by first | rfl | go_simp) (by first | rfl | go_simp) rfl rfl (by decide) (⟨wrap64 (((numS V (some 0) 8).2 : Nat) : Int), wrap64 (((numS V (q1 V) 8).2 : Nat) : Int), (numS V (q2 V) 4).2, (numS V (q3 V) 4).2, (numS V (q4 V) 4).2, (numS V (q5 V) 4).2, (((numS V (q6 V) 4).2 : Nat) : Int), (((numS V (q7 V) 1).2 : Nat) : Int), (((numS V (q8 V) 1).2 : Nat) : Int), (adS V (q10 V) (nA V)).2, (takeS V (q12 V) (nM V)).2, (takeS V (q14 V) (nP V)).2, 0, 0⟩ : Co) { so0 with aA := ad, aN := n, aC := cap, mA := ma, mN := mn, mC := mc, pA := pa, pN := pn, pC := pc } rfl ⟨HT5.out.own.a, HT5.out.own.m, HO5.out⟩ { HT5.out.fit with made := wrap_w64 _ } ?_; intro y6 hr; have HT6 : Hid (SK 29 (FIn base gi bv V) w0 y6 q r gi (⟨wrap64 (((numS V (some 0) 8).2 : Nat) : Int), wrap64 (((numS V (q1 V) 8).2 : Nat) : Int), (numS V (q2 V) 4).2, (numS V (q3 V) 4).2, (numS V (q4 V) 4).2, (numS V (q5 V) 4).2, (((numS V (q6 V) 4).2 : Nat) : Int), (((numS V (q7 V) 1).2 : Nat) : Int), (((numS V (q8 V) 1).2 : Nat) : Int), (adS V (q10 V) (nA V)).2, (takeS V (q12 V) (nM V)).2, (takeS V (q14 V) (nP V)).2, 0, 0⟩ : Co) { so0 with aA := ad, aN := n, aC := cap, mA := ma, mN := mn, mC := mc, pA := pa, pN := pn, pC := pc } (q15 V)) := hr; clear hr)
        | (have q_ := HT4; clear q_; go_at_call 54; refine (skTake HG.out HT4.out HX.out.2 _).mono ?_; rintro e y5 ⟨pa, pn, pc, rfl, ho5, hr⟩; have HT5 : Hid (SK 29 (FIn base gi bv V) w0 y5 q r gi (⟨wrap64 (((numS V (some 0) 8).2 : Nat) : Int), wrap64 (((numS V (q1 V) 8).2 : Nat) : Int), (numS V (q2 V) 4).2, (numS V (q3 V) 4).2, (numS V (q4 V) 4).2, (numS V (q5 V) 4).2, (((numS V (q6 V) 4).2 : Nat) : Int), (((numS V (q7 V) 1).2 : Nat) : Int), (((numS V (q8 V) 1).2 : Nat) : Int), (adS V (q10 V) (nA V)).2, (takeS V (q12 V) (nM V)).2, [], 0, 0⟩ : Co) { so0 with aA := ad, aN := n, aC := cap, mA := ma, mN := mn, mC := mc } (q15 V)) := hr; clear hr; have HO5 : Hid (OB y5 w0.heap.size (.slice pa pn pc) (takeS V (q14 V) (nP V)).2) := ho5; clear ho5)
        | (have q_ := HT3; clear q_; go_at_call 53; refine (skNum HG.out HT3.out HX.out.2 1).mono ?_; rintro e y4 ⟨rfl, hr⟩; have HT4 : Hid (SK 29 (FIn base gi bv V) w0 y4 q r gi (⟨wrap64 (((numS V (some 0) 8).2 : Nat) : Int), wrap64 (((numS V (q1 V) 8).2 : Nat) : Int), (numS V (q2 V) 4).2, (numS V (q3 V) 4).2, (numS V (q4 V) 4).2, (numS V (q5 V) 4).2, (((numS V (q6 V) 4).2 : Nat) : Int), (((numS V (q7 V) 1).2 : Nat) : Int), (((numS V (q8 V) 1).2 : Nat) : Int), (adS V (q10 V) (nA V)).2, (takeS V (q12 V) (nM V)).2, [], 0, 0⟩ : Co) { so0 with aA := ad, aN := n, aC := cap, mA := ma, mN := mn, mC := mc } (q14 V)) := hr; clear hr)
        | (have q_ := HT2; clear q_; refine wl_setK HF.out noT HT2.out rfl oneS 10 rfl (by first | rfl | go_simp) (by first | rfl | go_simp) rfl rfl (by decide) (⟨wrap64 (((numS V (some 0) 8).2 : Nat) : Int), wrap64 (((numS V (q1 V) 8).2 : Nat) : Int), (numS V (q2 V) 4).2, (numS V (q3 V) 4).2, (numS V (q4 V) 4).2, (numS V (q5 V) 4).2, (((numS V (q6 V) 4).2 : Nat) : Int), (((numS V (q7 V) 1).2 : Nat) : Int), (((numS V (q8 V) 1).2 : Nat) : Int), (adS V (q10 V) (nA V)).2, (takeS V (q12 V) (nM V)).2, [], 0, 0⟩ : Co) { so0 with aA := ad, aN := n, aC := cap, mA := ma, mN := mn, mC := mc } rfl ⟨HT2.out.own.a, HO2.out, HT2.out.own.p⟩ { HT2.out.fit with made := wrap_w64 _ } ?_; intro y3 hr; have HT3 : Hid (SK 29 (FIn base gi bv V) w0 y3 q r gi (⟨wrap64 (((numS V (some 0) 8).2 : Nat) : Int), wrap64 (((numS V (q1 V) 8).2 : Nat) : Int), (numS V (q2 V) 4).2, (numS V (q3 V) 4).2, (numS V (q4 V) 4).2, (numS V (q5 V) 4).2, (((numS V (q6 V) 4).2 : Nat) : Int), (((numS V (q7 V) 1).2 : Nat) : Int), (((numS V (q8 V) 1).2 : Nat) : Int), (adS V (q10 V) (nA V)).2, (takeS V (q12 V) (nM V)).2, [], 0, 0⟩ : Co) { so0 with aA := ad, aN := n, aC := cap, mA := ma, mN := mn, mC := mc } (q13 V)) := hr; clear hr)
        | (have q_ := HT1; clear q_; go_at_call 54; refine (skTake HG.out HT1.out HX.out.2 _).mono ?_; rintro e y2 ⟨ma, mn, mc, rfl, ho2, hr⟩; have HT2 : Hid (SK 29 (FIn base gi bv V) w0 y2 q r gi (⟨wrap64 (((numS V (some 0) 8).2 : Nat) : Int), wrap64 (((numS V (q1 V) 8).2 : Nat) : Int), (numS V (q2 V) 4).2, (numS V (q3 V) 4).2, (numS V (q4 V) 4).2, (numS V (q5 V) 4).2, (((numS V (q6 V) 4).2 : Nat) : Int), (((numS V (q7 V) 1).2 : Nat) : Int), (((numS V (q8 V) 1).2 : Nat) : Int), (adS V (q10 V) (nA V)).2, [], [], 0, 0⟩ : Co) { so0 with aA := ad, aN := n, aC := cap } (q13 V)) := hr; clear hr; have HO2 : Hid (OB y2 w0.heap.size (.slice ma mn mc) (takeS V (q12 V) (nM V)).2) := ho2; clear ho2)
        | (have q_ := HT0; clear q_; go_at_call 53; refine (skNum HG.out HT0.out HX.out.2 1).mono ?_; rintro e y1 ⟨rfl, hr⟩; have HT1 : Hid (SK 29 (FIn base gi bv V) w0 y1 q r gi (⟨wrap64 (((numS V (some 0) 8).2 : Nat) : Int), wrap64 (((numS V (q1 V) 8).2 : Nat) : Int), (numS V (q2 V) 4).2, (numS V (q3 V) 4).2, (numS V (q4 V) 4).2, (numS V (q5 V) 4).2, (((numS V (q6 V) 4).2 : Nat) : Int), (((numS V (q7 V) 1).2 : Nat) : Int), (((numS V (q8 V) 1).2 : Nat) : Int), (adS V (q10 V) (nA V)).2, [], [], 0, 0⟩ : Co) { so0 with aA := ad, aN := n, aC := cap } (q12 V)) := hr; clear hr))
      refine bodyPost_ret (results_cell_row (fn := Tryd.f32) (p := 2) rfl _ w9 _ _ _ (0, 0) _ rfl hb9 Tryd.underlying29 rfl (by kernel_rfl)) rfl ?_
      have hfin := HF.out.but HT10.out.hi hk9 (fun k e => by subst e; exact ⟨HT10.out.rlo, fun e => HT10.out.nr e.symm, _, _, HT10.out.res, noT.1⟩)
      exact ⟨{ so0 with aA := ad, aN := n, aC := cap, mA := ma, mN := mn, mC := mc, pA := pa, pN := pn, pC := pc }, rfl, HT10.out.own.but hk9 HT10.out.res noT, hfin, HT10.out.ext.of_but hk9 (fun k e => by subst e; exact HT10.out.rlo)⟩
end Tlv
end Go.Proofs.YtfhoielfekeihaaDoor
