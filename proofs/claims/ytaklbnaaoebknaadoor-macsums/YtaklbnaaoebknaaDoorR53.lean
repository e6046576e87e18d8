/- Numbers that are drawn by a key: the code's and the document's. Conditions: the tables hold what the text lays. -/
import Derived.Test.YtaklbnaaoebknaaDoorR52
import Derived.Test.YtaklbnaaoebknaaDoorMac3
namespace Go.Proofs.YtaklbnaaoebknaaDoor
open Go Go.RowKit
set_option linter.unusedVariables false
set_option linter.unusedSimpArgs false
set_option maxRecDepth 100000

theorem wl_pushC {wr : World} {ops : Array Oper} {rest : List Oper} {o : Oper} {a : Act} {Q : Exit → Act → World → Prop} {C : Array Value} (hgd : o.guard = none) {s x : Operand} (ho : o.op = .call { callee := .builtin .append, args := #[s, x], argTypes := #[22, 22] })
    {base b : Nat} {v : Value} {l : List Nat} {y : Nat} (hC : C = #[.int .u8 (y : Int)]) (hs : a.eval s = v) (hx : a.eval x = .slice (some ⟨b, 0, none⟩) 1 1) (hb : b = wr.heap.size) (hv : OwnN .u8 wr base 5 v (ci l)) (hl : l.length ≤ 100000) (hbase : base ≤ wr.heap.size)
    (h : ∀ ad cap w', OwnN .u8 w' base 5 (.slice ad (l.length + 1) cap) (ci (l ++ [y])) → KeepBut (fun k => base ≤ k) wr w' → wpList Tryd.prog ops Q rest (a.put o.dst (.slice ad (l.length + 1) cap)) w') : wpList Tryd.prog ops Q (o :: rest) a (wr.alloc (.cells C 5)) := by
  subst hC
  exact wl_pushB hgd ho hs hx hb hv hl hbase h
theorem zero8 : (Tryd.prog.info? 68).bind (·.zero) = some (.agg (bA (List.replicate 8 0))) := by kernel_rfl
theorem num4_lt {D : List Nat} (h : Sha.AllB D) : Mac.num4 D < 4294967296 := by
  have h0 := h.get 0
  have h1 := h.get 1
  have h2 := h.get 2
  have h3 := h.get 3
  unfold Mac.num4; omega

set_option maxHeartbeats 4000000 in
theorem highFirst_any (N : Nat) (w : World) (hN : N < 18446744073709551616) :
    Calls Tryd.prog 25 #[.int .u64 (N : Int)] w fun e w' => e = .returned (.slice (some ⟨w.heap.size, 0, none⟩) 8 8) ∧ Blk w' w.heap.size (bA (Sha.be8 N)) 68 ∧ Ext w w' := by
  go_enter Tryd.func25, Tryd.ntmps25
  go_wp2_with (first
    | (refine wl_alloc rfl rfl zero8 ?_; intro w1 hb1 he1 hx; clear hx))
  have HW : Hid (Blk w1 w.heap.size (bA (List.replicate 8 0)) 68 ∧ Ext w w1) := ⟨hb1, he1⟩
  clear hb1 he1
  go_loopg [5] 8 (fun g s wr => ∃ k : Nat, k ≤ 8 ∧ g = 8 - k ∧ s = .int .i64 (k : Int) ∧ Hid (Ext w wr ∧ Blk wr w.heap.size (bA (Mac.be N k)) 68))
  case atStart => exact ⟨0, by omega, rfl, rfl, HW.out.2, by rw [Mac.be_0]; exact HW.out.1⟩
  case round =>
    obtain ⟨k, hk, rfl, rfl, HR⟩ := hrel
    have hcs : k = 0 ∨ k = 1 ∨ k = 2 ∨ k = 3 ∨ k = 4 ∨ k = 5 ∨ k = 6 ∨ k = 7 ∨ k = 8 := by omega
    rcases hcs with rfl | rfl | rfl | rfl | rfl | rfl | rfl | rfl | rfl
    · obtain ⟨b, hb⟩ : ∃ x, x = N / 72057594037927936 % 256 := ⟨_, rfl⟩
      have q1 : (N : Int) / 72057594037927936 % 256 = (b : Int) := by omega
      have q2 : IntKind.u8.wrap ((N : Int) / 72057594037927936) = (b : Int) := by rw [IntKind.wrap_u8]; exact q1
      have HT : Hid ((Mac.be N 0).set 0 b = Mac.be N (0 + 1)) := show _ = _ by rw [← Mac.be_succ N 0 (by decide), hb]
      clear hb
      go_wp2_with (first
        | (refine wl_set (j := 0) (v := .int .u8 (b : Nat)) rfl one5 rfl rfl (by first | rfl | go_simp | simp [go_sem, q1, q2]) rfl rfl HR.out.2 (by rw [bA_size, Mac.be_len N 0 (by decide)]; decide) ?_; intro x1 c1 k1 hx; clear hx; rw [bA_set, HT.out] at c1))
      go_roundg (8 - (0 + 1))
      case measure => omega
      case rel => exact ⟨0 + 1, by omega, rfl, by simp, HR.out.1.of_but k1 (fun j e => by subst e; exact Nat.le_refl _), c1⟩
    · obtain ⟨b, hb⟩ : ∃ x, x = N / 281474976710656 % 256 := ⟨_, rfl⟩
      have q1 : (N : Int) / 281474976710656 % 256 = (b : Int) := by omega
      have q2 : IntKind.u8.wrap ((N : Int) / 281474976710656) = (b : Int) := by rw [IntKind.wrap_u8]; exact q1
      have HT : Hid ((Mac.be N 1).set 1 b = Mac.be N (1 + 1)) := show _ = _ by rw [← Mac.be_succ N 1 (by decide), hb]
      clear hb
      go_wp2_with (first
        | (refine wl_set (j := 1) (v := .int .u8 (b : Nat)) rfl one5 rfl rfl (by first | rfl | go_simp | simp [go_sem, q1, q2]) rfl rfl HR.out.2 (by rw [bA_size, Mac.be_len N 1 (by decide)]; decide) ?_; intro x1 c1 k1 hx; clear hx; rw [bA_set, HT.out] at c1))
      go_roundg (8 - (1 + 1))
      case measure => omega
      case rel => exact ⟨1 + 1, by omega, rfl, by simp, HR.out.1.of_but k1 (fun j e => by subst e; exact Nat.le_refl _), c1⟩
    · obtain ⟨b, hb⟩ : ∃ x, x = N / 1099511627776 % 256 := ⟨_, rfl⟩
      have q1 : (N : Int) / 1099511627776 % 256 = (b : Int) := by omega
      have q2 : IntKind.u8.wrap ((N : Int) / 1099511627776) = (b : Int) := by rw [IntKind.wrap_u8]; exact q1
      have HT : Hid ((Mac.be N 2).set 2 b = Mac.be N (2 + 1)) := show _ = _ by rw [← Mac.be_succ N 2 (by decide), hb]
      clear hb
      go_wp2_with (first
        | (refine wl_set (j := 2) (v := .int .u8 (b : Nat)) rfl one5 rfl rfl (by first | rfl | go_simp | simp [go_sem, q1, q2]) rfl rfl HR.out.2 (by rw [bA_size, Mac.be_len N 2 (by decide)]; decide) ?_; intro x1 c1 k1 hx; clear hx; rw [bA_set, HT.out] at c1))
      go_roundg (8 - (2 + 1))
      case measure => omega
      case rel => exact ⟨2 + 1, by omega, rfl, by simp, HR.out.1.of_but k1 (fun j e => by subst e; exact Nat.le_refl _), c1⟩
    · obtain ⟨b, hb⟩ : ∃ x, x = N / 4294967296 % 256 := ⟨_, rfl⟩
      have q1 : (N : Int) / 4294967296 % 256 = (b : Int) := by omega
      have q2 : IntKind.u8.wrap ((N : Int) / 4294967296) = (b : Int) := by rw [IntKind.wrap_u8]; exact q1
      have HT : Hid ((Mac.be N 3).set 3 b = Mac.be N (3 + 1)) := show _ = _ by rw [← Mac.be_succ N 3 (by decide), hb]
      clear hb
      go_wp2_with (first
        | (refine wl_set (j := 3) (v := .int .u8 (b : Nat)) rfl one5 rfl rfl (by first | rfl | go_simp | simp [go_sem, q1, q2]) rfl rfl HR.out.2 (by rw [bA_size, Mac.be_len N 3 (by decide)]; decide) ?_; intro x1 c1 k1 hx; clear hx; rw [bA_set, HT.out] at c1))
      go_roundg (8 - (3 + 1))
      case measure => omega
      case rel => exact ⟨3 + 1, by omega, rfl, by simp, HR.out.1.of_but k1 (fun j e => by subst e; exact Nat.le_refl _), c1⟩
    · obtain ⟨b, hb⟩ : ∃ x, x = N / 16777216 % 256 := ⟨_, rfl⟩
      have q1 : (N : Int) / 16777216 % 256 = (b : Int) := by omega
      have q2 : IntKind.u8.wrap ((N : Int) / 16777216) = (b : Int) := by rw [IntKind.wrap_u8]; exact q1
      have HT : Hid ((Mac.be N 4).set 4 b = Mac.be N (4 + 1)) := show _ = _ by rw [← Mac.be_succ N 4 (by decide), hb]
      clear hb
      go_wp2_with (first
        | (refine wl_set (j := 4) (v := .int .u8 (b : Nat)) rfl one5 rfl rfl (by first | rfl | go_simp | simp [go_sem, q1, q2]) rfl rfl HR.out.2 (by rw [bA_size, Mac.be_len N 4 (by decide)]; decide) ?_; intro x1 c1 k1 hx; clear hx; rw [bA_set, HT.out] at c1))
      go_roundg (8 - (4 + 1))
      case measure => omega
      case rel => exact ⟨4 + 1, by omega, rfl, by simp, HR.out.1.of_but k1 (fun j e => by subst e; exact Nat.le_refl _), c1⟩
    · obtain ⟨b, hb⟩ : ∃ x, x = N / 65536 % 256 := ⟨_, rfl⟩
      have q1 : (N : Int) / 65536 % 256 = (b : Int) := by omega
      have q2 : IntKind.u8.wrap ((N : Int) / 65536) = (b : Int) := by rw [IntKind.wrap_u8]; exact q1
      have HT : Hid ((Mac.be N 5).set 5 b = Mac.be N (5 + 1)) := show _ = _ by rw [← Mac.be_succ N 5 (by decide), hb]
      clear hb
      go_wp2_with (first
        | (refine wl_set (j := 5) (v := .int .u8 (b : Nat)) rfl one5 rfl rfl (by first | rfl | go_simp | simp [go_sem, q1, q2]) rfl rfl HR.out.2 (by rw [bA_size, Mac.be_len N 5 (by decide)]; decide) ?_; intro x1 c1 k1 hx; clear hx; rw [bA_set, HT.out] at c1))
      go_roundg (8 - (5 + 1))
      case measure => omega
      case rel => exact ⟨5 + 1, by omega, rfl, by simp, HR.out.1.of_but k1 (fun j e => by subst e; exact Nat.le_refl _), c1⟩
    · obtain ⟨b, hb⟩ : ∃ x, x = N / 256 % 256 := ⟨_, rfl⟩
      have q1 : (N : Int) / 256 % 256 = (b : Int) := by omega
      have q2 : IntKind.u8.wrap ((N : Int) / 256) = (b : Int) := by rw [IntKind.wrap_u8]; exact q1
      have HT : Hid ((Mac.be N 6).set 6 b = Mac.be N (6 + 1)) := show _ = _ by rw [← Mac.be_succ N 6 (by decide), hb]
      clear hb
      go_wp2_with (first
        | (refine wl_set (j := 6) (v := .int .u8 (b : Nat)) rfl one5 rfl rfl (by first | rfl | go_simp | simp [go_sem, q1, q2]) rfl rfl HR.out.2 (by rw [bA_size, Mac.be_len N 6 (by decide)]; decide) ?_; intro x1 c1 k1 hx; clear hx; rw [bA_set, HT.out] at c1))
      go_roundg (8 - (6 + 1))
      case measure => omega
      case rel => exact ⟨6 + 1, by omega, rfl, by simp, HR.out.1.of_but k1 (fun j e => by subst e; exact Nat.le_refl _), c1⟩
    · obtain ⟨b, hb⟩ : ∃ x, x = N / 1 % 256 := ⟨_, rfl⟩
      have q1 : (N : Int) / 1 % 256 = (b : Int) := by omega
      have q2 : IntKind.u8.wrap ((N : Int) / 1) = (b : Int) := by rw [IntKind.wrap_u8]; exact q1
      have q3 : (N : Int) % 256 = (b : Int) := by omega
      have q4 : IntKind.u8.wrap (N : Int) = (b : Int) := by rw [IntKind.wrap_u8]; exact q3
      have HT : Hid ((Mac.be N 7).set 7 b = Mac.be N (7 + 1)) := show _ = _ by rw [← Mac.be_succ N 7 (by decide), hb]
      clear hb
      go_wp2_with (first
        | (refine wl_set (j := 7) (v := .int .u8 (b : Nat)) rfl one5 rfl rfl (by first | rfl | go_simp | simp [go_sem, q1, q2, q3, q4]) rfl rfl HR.out.2 (by rw [bA_size, Mac.be_len N 7 (by decide)]; decide) ?_; intro x1 c1 k1 hx; clear hx; rw [bA_set, HT.out] at c1))
      go_roundg (8 - (7 + 1))
      case measure => omega
      case rel => exact ⟨7 + 1, by omega, rfl, by simp, HR.out.1.of_but k1 (fun j e => by subst e; exact Nat.le_refl _), c1⟩
    · rw [Mac.be_8] at HR
      go_wp2_with (first
        | (refine wpList_of_run rfl (exec_sliceA rfl Tryd.underlying68 rfl (by decide)) ?_))
      go_ret
      exact ⟨rfl, HR.out.2, HR.out.1⟩

set_option maxHeartbeats 4000000 in
theorem draw_any (kv : Value) (K : List Nat) (n : Int) (N : Nat) (w : World) (hT : Tabs w) (hk : BytesAt w kv K) (hlK : K.length ≤ 90000) (hn : IntKind.u64.wrap n = (N : Int)) :
    Calls Tryd.prog 11 #[kv, .int .i64 n] w fun e w' => e = .returned (.int .u32 (Mac.draw K N : Nat)) ∧ Ext w w' := by
  have HA : Hid (Tabs w ∧ BytesAt w kv K ∧ K.length ≤ 90000) := ⟨hT, hk, hlK⟩
  have hN : N < 18446744073709551616 := by rw [IntKind.wrap_u64] at hn; omega
  obtain ⟨D, hD⟩ : ∃ D, D = Mac.tag K (Sha.be8 N) := ⟨_, rfl⟩
  have HD : Hid (D = Mac.tag K (Sha.be8 N) ∧ D.length = 32 ∧ Sha.AllB D) := ⟨hD, by rw [hD]; exact Mac.tag_len _ _, by rw [hD]; exact Mac.tag_all _ _⟩
  have HM : Hid (Mac.draw K N = ((D.getD 0 0 * 256 + D.getD 1 0) * 256 + D.getD 2 0) * 256 + D.getD 3 0) := show _ = _ by rw [hD]; rfl
  have q0 := bA_get D 0 (by rw [HD.out.2.1]; decide)
  have q1 := bA_get D 1 (by rw [HD.out.2.1]; decide)
  have q2 := bA_get D 2 (by rw [HD.out.2.1]; decide)
  have q3 := bA_get D 3 (by rw [HD.out.2.1]; decide)
  have ha := HD.out.2.2.get 0
  have hb := HD.out.2.2.get 1
  have hc := HD.out.2.2.get 2
  have hd := HD.out.2.2.get 3
  generalize D.getD 0 0 = a at *
  generalize D.getD 1 0 = b at *
  generalize D.getD 2 0 = c at *
  generalize D.getD 3 0 = d at *
  obtain ⟨ka, kc, rfl, _, _⟩ := hk.form
  rename_i z1 z2
  clear z1 z2 hT hk hD
  go_enter Tryd.func11, Tryd.ntmps11
  go_wp2_with (first
    | (go_at_call 25; refine (highFirst_any N _ hN).mono ?_; rintro e w1 ⟨rfl, hb1, he1⟩)
    | (go_at_call 9; refine (macSum_one rfl (HA.out.1.ext he1) (HA.out.2.1.ext he1) (bytes_ofBlk hb1 (Mac.be8_all N) (Mac.be8_len N) (by decide)) HA.out.2.2 (by rw [Mac.be8_len]; decide)).mono ?_; rintro e w2 ⟨rfl, he2⟩; rw [← HD.out.1])
    | (refine wl_alloc rfl rfl zero25 ?_; intro w3 hb3 he3 hx; clear hx; refine wl_store (D := bA D) rfl row25 rfl rfl rfl hb3 (by rw [bA_size, HD.out.2.1]) rfl (bA_one _) ?_; intro w4 hb4 hk4 hx; clear hx; have he4 := he3.of_but hk4 (fun k e => by subst e; exact Nat.le_refl _); clear hk4 he3 hb3; have c0 := (hb4.cell 0).trans q0; have c1 := (hb4.cell 1).trans q1; have c2 := (hb4.cell 2).trans q2; have c3 := (hb4.cell 3).trans q3))
  go_ret
  refine ⟨ret_int ?_, (he1.trans he2).trans he4⟩
  have l1 : a * 16777216 ||| b * 65536 < 4294967296 := Nat.or_lt_two_pow (n := 32) (by omega) (by omega)
  have l2 : (a * 16777216 ||| b * 65536) ||| c * 256 < 4294967296 := Nat.or_lt_two_pow (n := 32) l1 (by omega)
  rw [show (a : Int) * 16777216 = ((a * 16777216 : Nat) : Int) by omega, show (b : Int) * 65536 = ((b * 65536 : Nat) : Int) by omega, show (c : Int) * 256 = ((c * 256 : Nat) : Int) by omega,
    orN _ _ (by omega) (by omega), orN _ _ l1 (by omega), orN _ _ l2 (by omega), word_or a b c d ha hb hc hd, HM.out]
end Go.Proofs.YtaklbnaaoebknaaDoor
