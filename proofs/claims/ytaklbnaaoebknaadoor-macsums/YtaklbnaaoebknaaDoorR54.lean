/- What the document draws by a key. Condition: the document's table holds what the text lays. -/
import Derived.Test.YtaklbnaaoebknaaDoorR53
namespace Go.Proofs.YtaklbnaaoebknaaDoor
open Go Go.RowKit
set_option linter.unusedVariables false
set_option linter.unusedSimpArgs false
set_option maxRecDepth 100000

set_option maxHeartbeats 4000000 in
theorem refDraw_any (kv : Value) (K : List Nat) (n : Int) (N : Nat) (w : World) (hC : Cube w) (hk : BytesAt w kv K) (hlK : K.length ≤ 20000) (hn : IntKind.u64.wrap n = (N : Int)) :
    Calls Tryd.prog 12 #[kv, .int .i64 n] w fun e w' => e = .returned (.int .u32 (Mac.draw K N : Nat)) ∧ Ext w w' := by
  have HA : Hid (Cube w ∧ BytesAt w kv K ∧ K.length ≤ 20000) := ⟨hC, hk, hlK⟩
  have hN : N < 18446744073709551616 := by rw [IntKind.wrap_u64] at hn; omega
  obtain ⟨D, hD⟩ : ∃ D, D = Mac.tag K (Sha.be8 N) := ⟨_, rfl⟩
  have HD : Hid (D = Mac.tag K (Sha.be8 N) ∧ D.length = 32 ∧ Sha.AllB D) := ⟨hD, by rw [hD]; exact Mac.tag_len _ _, by rw [hD]; exact Mac.tag_all _ _⟩
  have HM : Hid (Mac.draw K N = ((D.getD 0 0 * 256 + D.getD 1 0) * 256 + D.getD 2 0) * 256 + D.getD 3 0) := show _ = _ by rw [hD]; rfl
  obtain ⟨ka, kc, rfl, _, _⟩ := hk.form
  rename_i z1 z2
  clear z1 z2 hC hk hD
  go_enter Tryd.func12, Tryd.ntmps12
  go_wp2
  go_loopg [5, 6] 8 (fun g s t wr => ∃ (k : Nat) (a : Option Addr) (cp : Nat), k ≤ 8 ∧ g = 8 - k ∧ s = .slice a k cp ∧ t = .int .i64 (7 - (k : Int)) ∧ Hid (OwnN .u8 wr w.heap.size 5 (.slice a k cp) (ci ((Sha.be8 N).take k)) ∧ Ext w wr))
  case atStart => exact ⟨0, none, 0, by omega, rfl, rfl, rfl, OwnN.nil _ _ _ _, Ext.refl _⟩
  case round =>
    obtain ⟨k, a, cp, hk, rfl, rfl, rfl, HR⟩ := hrel
    have hcs : k = 0 ∨ k = 1 ∨ k = 2 ∨ k = 3 ∨ k = 4 ∨ k = 5 ∨ k = 6 ∨ k = 7 ∨ k = 8 := by omega
    rcases hcs with rfl | rfl | rfl | rfl | rfl | rfl | rfl | rfl | rfl
    · obtain ⟨b, hb⟩ : ∃ x, x = N / 72057594037927936 % 256 := ⟨_, rfl⟩
      have q1 : (N : Int) / 72057594037927936 % 256 = (b : Int) := by omega
      have q2 : IntKind.u8.wrap ((N : Int) / 72057594037927936) = (b : Int) := by rw [IntKind.wrap_u8]; exact q1
      have HT : Hid ((Sha.be8 N).take (0 + 1) = (Sha.be8 N).take 0 ++ [b]) := show _ = _ by rw [be8_take N 0 (by decide), hb]
      have HTL : Hid (((Sha.be8 N).take 0).length = 0) := show _ = _ by rw [List.length_take, Mac.be8_len]; rfl
      clear hb
      go_wp2_with (first
        | (at_builtin; refine wl_pushC (l := (Sha.be8 N).take 0) (y := b) rfl rfl (by first | rfl | simp [q1, q2]) rfl rfl rfl HR.out.1 (by rw [HTL.out]; decide) HR.out.2.size ?_; intro ad cap w2 ho2 hk2; rw [HTL.out] at ho2 ⊢; rw [← HT.out] at ho2))
      go_roundg (8 - (0 + 1))
      case measure => omega
      case rel => exact ⟨0 + 1, ad, cap, by omega, rfl, rfl, by simp, ho2, HR.out.2.of_but hk2 (fun j e => e)⟩
    · obtain ⟨b, hb⟩ : ∃ x, x = N / 281474976710656 % 256 := ⟨_, rfl⟩
      have q1 : (N : Int) / 281474976710656 % 256 = (b : Int) := by omega
      have q2 : IntKind.u8.wrap ((N : Int) / 281474976710656) = (b : Int) := by rw [IntKind.wrap_u8]; exact q1
      have HT : Hid ((Sha.be8 N).take (1 + 1) = (Sha.be8 N).take 1 ++ [b]) := show _ = _ by rw [be8_take N 1 (by decide), hb]
      have HTL : Hid (((Sha.be8 N).take 1).length = 1) := show _ = _ by rw [List.length_take, Mac.be8_len]; rfl
      clear hb
      go_wp2_with (first
        | (at_builtin; refine wl_pushC (l := (Sha.be8 N).take 1) (y := b) rfl rfl (by first | rfl | simp [q1, q2]) rfl rfl rfl HR.out.1 (by rw [HTL.out]; decide) HR.out.2.size ?_; intro ad cap w2 ho2 hk2; rw [HTL.out] at ho2 ⊢; rw [← HT.out] at ho2))
      go_roundg (8 - (1 + 1))
      case measure => omega
      case rel => exact ⟨1 + 1, ad, cap, by omega, rfl, rfl, by simp, ho2, HR.out.2.of_but hk2 (fun j e => e)⟩
    · obtain ⟨b, hb⟩ : ∃ x, x = N / 1099511627776 % 256 := ⟨_, rfl⟩
      have q1 : (N : Int) / 1099511627776 % 256 = (b : Int) := by omega
      have q2 : IntKind.u8.wrap ((N : Int) / 1099511627776) = (b : Int) := by rw [IntKind.wrap_u8]; exact q1
      have HT : Hid ((Sha.be8 N).take (2 + 1) = (Sha.be8 N).take 2 ++ [b]) := show _ = _ by rw [be8_take N 2 (by decide), hb]
      have HTL : Hid (((Sha.be8 N).take 2).length = 2) := show _ = _ by rw [List.length_take, Mac.be8_len]; rfl
      clear hb
      go_wp2_with (first
        | (at_builtin; refine wl_pushC (l := (Sha.be8 N).take 2) (y := b) rfl rfl (by first | rfl | simp [q1, q2]) rfl rfl rfl HR.out.1 (by rw [HTL.out]; decide) HR.out.2.size ?_; intro ad cap w2 ho2 hk2; rw [HTL.out] at ho2 ⊢; rw [← HT.out] at ho2))
      go_roundg (8 - (2 + 1))
      case measure => omega
      case rel => exact ⟨2 + 1, ad, cap, by omega, rfl, rfl, by simp, ho2, HR.out.2.of_but hk2 (fun j e => e)⟩
    · obtain ⟨b, hb⟩ : ∃ x, x = N / 4294967296 % 256 := ⟨_, rfl⟩
      have q1 : (N : Int) / 4294967296 % 256 = (b : Int) := by omega
      have q2 : IntKind.u8.wrap ((N : Int) / 4294967296) = (b : Int) := by rw [IntKind.wrap_u8]; exact q1
      have HT : Hid ((Sha.be8 N).take (3 + 1) = (Sha.be8 N).take 3 ++ [b]) := show _ = _ by rw [be8_take N 3 (by decide), hb]
      have HTL : Hid (((Sha.be8 N).take 3).length = 3) := show _ = _ by rw [List.length_take, Mac.be8_len]; rfl
      clear hb
      go_wp2_with (first
        | (at_builtin; refine wl_pushC (l := (Sha.be8 N).take 3) (y := b) rfl rfl (by first | rfl | simp [q1, q2]) rfl rfl rfl HR.out.1 (by rw [HTL.out]; decide) HR.out.2.size ?_; intro ad cap w2 ho2 hk2; rw [HTL.out] at ho2 ⊢; rw [← HT.out] at ho2))
      go_roundg (8 - (3 + 1))
      case measure => omega
      case rel => exact ⟨3 + 1, ad, cap, by omega, rfl, rfl, by simp, ho2, HR.out.2.of_but hk2 (fun j e => e)⟩
    · obtain ⟨b, hb⟩ : ∃ x, x = N / 16777216 % 256 := ⟨_, rfl⟩
      have q1 : (N : Int) / 16777216 % 256 = (b : Int) := by omega
      have q2 : IntKind.u8.wrap ((N : Int) / 16777216) = (b : Int) := by rw [IntKind.wrap_u8]; exact q1
      have HT : Hid ((Sha.be8 N).take (4 + 1) = (Sha.be8 N).take 4 ++ [b]) := show _ = _ by rw [be8_take N 4 (by decide), hb]
      have HTL : Hid (((Sha.be8 N).take 4).length = 4) := show _ = _ by rw [List.length_take, Mac.be8_len]; rfl
      clear hb
      go_wp2_with (first
        | (at_builtin; refine wl_pushC (l := (Sha.be8 N).take 4) (y := b) rfl rfl (by first | rfl | simp [q1, q2]) rfl rfl rfl HR.out.1 (by rw [HTL.out]; decide) HR.out.2.size ?_; intro ad cap w2 ho2 hk2; rw [HTL.out] at ho2 ⊢; rw [← HT.out] at ho2))
      go_roundg (8 - (4 + 1))
      case measure => omega
      case rel => exact ⟨4 + 1, ad, cap, by omega, rfl, rfl, by simp, ho2, HR.out.2.of_but hk2 (fun j e => e)⟩
    · obtain ⟨b, hb⟩ : ∃ x, x = N / 65536 % 256 := ⟨_, rfl⟩
      have q1 : (N : Int) / 65536 % 256 = (b : Int) := by omega
      have q2 : IntKind.u8.wrap ((N : Int) / 65536) = (b : Int) := by rw [IntKind.wrap_u8]; exact q1
      have HT : Hid ((Sha.be8 N).take (5 + 1) = (Sha.be8 N).take 5 ++ [b]) := show _ = _ by rw [be8_take N 5 (by decide), hb]
      have HTL : Hid (((Sha.be8 N).take 5).length = 5) := show _ = _ by rw [List.length_take, Mac.be8_len]; rfl
      clear hb
      go_wp2_with (first
        | (at_builtin; refine wl_pushC (l := (Sha.be8 N).take 5) (y := b) rfl rfl (by first | rfl | simp [q1, q2]) rfl rfl rfl HR.out.1 (by rw [HTL.out]; decide) HR.out.2.size ?_; intro ad cap w2 ho2 hk2; rw [HTL.out] at ho2 ⊢; rw [← HT.out] at ho2))
      go_roundg (8 - (5 + 1))
      case measure => omega
      case rel => exact ⟨5 + 1, ad, cap, by omega, rfl, rfl, by simp, ho2, HR.out.2.of_but hk2 (fun j e => e)⟩
    · obtain ⟨b, hb⟩ : ∃ x, x = N / 256 % 256 := ⟨_, rfl⟩
      have q1 : (N : Int) / 256 % 256 = (b : Int) := by omega
      have q2 : IntKind.u8.wrap ((N : Int) / 256) = (b : Int) := by rw [IntKind.wrap_u8]; exact q1
      have HT : Hid ((Sha.be8 N).take (6 + 1) = (Sha.be8 N).take 6 ++ [b]) := show _ = _ by rw [be8_take N 6 (by decide), hb]
      have HTL : Hid (((Sha.be8 N).take 6).length = 6) := show _ = _ by rw [List.length_take, Mac.be8_len]; rfl
      clear hb
      go_wp2_with (first
        | (at_builtin; refine wl_pushC (l := (Sha.be8 N).take 6) (y := b) rfl rfl (by first | rfl | simp [q1, q2]) rfl rfl rfl HR.out.1 (by rw [HTL.out]; decide) HR.out.2.size ?_; intro ad cap w2 ho2 hk2; rw [HTL.out] at ho2 ⊢; rw [← HT.out] at ho2))
      go_roundg (8 - (6 + 1))
      case measure => omega
      case rel => exact ⟨6 + 1, ad, cap, by omega, rfl, rfl, by simp, ho2, HR.out.2.of_but hk2 (fun j e => e)⟩
    · obtain ⟨b, hb⟩ : ∃ x, x = N / 1 % 256 := ⟨_, rfl⟩
      have q1 : (N : Int) / 1 % 256 = (b : Int) := by omega
      have q2 : IntKind.u8.wrap ((N : Int) / 1) = (b : Int) := by rw [IntKind.wrap_u8]; exact q1
      have q3 : (N : Int) % 256 = (b : Int) := by omega
      have q4 : IntKind.u8.wrap (N : Int) = (b : Int) := by rw [IntKind.wrap_u8]; exact q3
      have HT : Hid ((Sha.be8 N).take (7 + 1) = (Sha.be8 N).take 7 ++ [b]) := show _ = _ by rw [be8_take N 7 (by decide), hb]
      have HTL : Hid (((Sha.be8 N).take 7).length = 7) := show _ = _ by rw [List.length_take, Mac.be8_len]; rfl
      clear hb
      go_wp2_with (first
        | (at_builtin; refine wl_pushC (l := (Sha.be8 N).take 7) (y := b) rfl rfl (by first | rfl | simp [q1, q2, q3, q4]) rfl rfl rfl HR.out.1 (by rw [HTL.out]; decide) HR.out.2.size ?_; intro ad cap w2 ho2 hk2; rw [HTL.out] at ho2 ⊢; rw [← HT.out] at ho2))
      go_roundg (8 - (7 + 1))
      case measure => omega
      case rel => exact ⟨7 + 1, ad, cap, by omega, rfl, rfl, by simp, ho2, HR.out.2.of_but hk2 (fun j e => e)⟩
    · rw [List.take_of_length_le (by rw [Mac.be8_len]; exact Nat.le_refl _)] at HR
      have ho := own_b HR.out.1 (Mac.be8_all N) (by rw [Mac.be8_len]; decide)
      obtain ⟨gb, cb, e1⟩ := ho.form1
      rw [Mac.be8_len] at e1
      have HO : Hid (BytesAt wr (.slice a 8 cp) (Sha.be8 N)) := ho.bytes
      clear ho e1
      have ha := HD.out.2.2.get 0
      have hb := HD.out.2.2.get 1
      have hc := HD.out.2.2.get 2
      have hd := HD.out.2.2.get 3
      go_wp2_with (first
        | (go_at_call 10; refine (refMac_any _ _ K (Sha.be8 N) _ (HA.out.1.ext HR.out.2) (HA.out.2.1.ext HR.out.2) HO.out HA.out.2.2 (by rw [Mac.be8_len]; decide)).mono ?_; rintro e w3 ⟨v3, rfl, ho3, he3⟩; rw [← HD.out.1] at ho3; obtain ⟨g3, c3, rfl⟩ := ho3.form1; have d0 := ho3.cellAt 0 (by rw [HD.out.2.1]; decide); have d1 := ho3.cellAt 1 (by rw [HD.out.2.1]; decide); have d2 := ho3.cellAt 2 (by rw [HD.out.2.1]; decide); have d3 := ho3.cellAt 3 (by rw [HD.out.2.1]; decide); rw [HD.out.2.1]))
      clear ho3
      generalize D.getD 0 0 = x0 at *
      generalize D.getD 1 0 = x1 at *
      generalize D.getD 2 0 = x2 at *
      generalize D.getD 3 0 = x3 at *
      go_quiet (fail)
      go_wp2
      go_ret
      refine ⟨ret_int ?_, (HR.out.2.trans he3).trans (Ext.drewN _ _)⟩
      rw [HM.out]
      omega
end Go.Proofs.YtaklbnaaoebknaaDoor
