/- Texts compared, byte by byte: bytes.Compare. No condition of its own. -/
import Derived.Test.YtaklbnaaoebknaaDoorMac1
import Derived.Lib.BytesEntry
import Derived.Laws.Externs
namespace Go.Proofs.YtaklbnaaoebknaaDoor
open Go Go.RowKit
set_option linter.unusedVariables false
set_option linter.unusedSimpArgs false
set_option maxRecDepth 100000

namespace Mac
/-- Less, the same, or more. -/
def cmpL : List Nat → List Nat → Int
  | [], [] => 0
  | [], _ :: _ => -1
  | _ :: _, [] => 1
  | a :: p, b :: q => if a < b then -1 else if b < a then 1 else cmpL p q
theorem cmpL_neg : ∀ A B : List Nat, cmpL B A = - cmpL A B
  | [], [] => rfl
  | [], _ :: _ => rfl
  | _ :: _, [] => rfl
  | a :: p, b :: q => by
    unfold cmpL
    by_cases h1 : a < b
    · rw [if_pos h1, if_neg (by omega), if_pos h1]; rfl
    · by_cases h2 : b < a
      · simp [h1, h2]
      · simp only [h1, h2, if_false]; exact cmpL_neg p q
theorem cmpL_zero : ∀ A B : List Nat, cmpL A B = 0 → A = B
  | [], [], _ => rfl
  | [], _ :: _, h => by simp [cmpL] at h
  | _ :: _, [], h => by simp [cmpL] at h
  | a :: p, b :: q, h => by
    unfold cmpL at h
    by_cases h1 : a < b
    · rw [if_pos h1] at h; omega
    · by_cases h2 : b < a
      · rw [if_neg h1, if_pos h2] at h; omega
      · rw [if_neg h1, if_neg h2] at h
        have : a = b := by omega
        rw [this, cmpL_zero p q h]
/-- Two texts, the lesser one first. -/
def pair (A B : List Nat) : List Nat := if 0 < cmpL A B then B ++ A else A ++ B
theorem pair_comm (A B : List Nat) : pair A B = pair B A := by
  unfold pair
  have h := cmpL_neg A B
  by_cases h1 : 0 < cmpL A B
  · rw [if_pos h1, if_neg (by omega)]
  · by_cases h2 : 0 < cmpL B A
    · rw [if_neg h1, if_pos h2]
    · have : A = B := cmpL_zero A B (by omega)
      rw [this]
theorem pair_len (A B : List Nat) : (pair A B).length = A.length + B.length := by
  unfold pair; split <;> rw [List.length_append]; omega
theorem cmp_bytes : ∀ A B : List Nat, Sha.AllB A → Sha.AllB B → Lib.compareBytes (A.map UInt8.ofNat) (B.map UInt8.ofNat) = cmpL A B
  | [], [], _, _ => rfl
  | [], _ :: _, _, _ => rfl
  | _ :: _, [], _, _ => rfl
  | a :: p, b :: q, hA, hB => by
    have ha : a < 256 := hA a (by simp)
    have hb : b < 256 := hB b (by simp)
    have lt : ∀ {x y : Nat}, x < 256 → y < 256 → (UInt8.ofNat x < UInt8.ofNat y ↔ x < y) := fun {x y} hx hy => by
      rw [UInt8.lt_iff_toNat_lt]; simp [Nat.mod_eq_of_lt hx, Nat.mod_eq_of_lt hy]
    have ih := cmp_bytes p q (fun x hx => hA x (by simp [hx])) (fun x hx => hB x (by simp [hx]))
    simp only [List.map_cons, Lib.compareBytes, cmpL, lt ha hb, lt hb ha, ih]
end Mac

theorem run_bytesOf {P : Program} {w : World} {v : Value} {A : List Nat} (h : BytesAt w v A) : (Extern.Bytes.bytesOf v).run P w = .ok ⟨(A.map UInt8.ofNat).toArray⟩ w := by
  obtain ⟨hA, _, ⟨rfl, rfl⟩ | ⟨ad, cap, rfl, _, _, hc⟩⟩ := h
  · rfl
  · have := Lib.run_loadBytesX (P := P) w (A.map Int.ofNat) ad .empty (fun j x hj => by
      rw [List.getElem?_map] at hj
      obtain ⟨y, hy, rfl⟩ := Option.map_eq_some_iff.1 hj
      have hjl : j < A.length := (List.getElem?_eq_some_iff.1 hy).1
      rw [hc j hjl]
      simp [List.getD_eq_getElem?_getD, hy])
    rw [List.length_map] at this
    unfold Extern.Bytes.bytesOf
    rw [this]
    congr 1
    apply ByteArray.ext
    show (#[] : Array UInt8) ++ (Lib.bytesOf (A.map Int.ofNat)).toArray = (A.map UInt8.ofNat).toArray
    rw [Array.empty_append]
    congr 1
    unfold Lib.bytesOf
    rw [List.map_map]
    apply List.map_congr_left
    intro x _
    simp
theorem run_compare {P : Program} {w : World} {va vb : Value} {A B : List Nat} (ha : BytesAt w va A) (hb : BytesAt w vb B) : (Extern.BytealgCompare.compare #[va, vb]).run P w = .ok (.int .i64 (Mac.cmpL A B)) w := by
  change Sem.run P (do pure (goInt (Extern.BytealgCompare.cmp (← Extern.Bytes.bytesOf va) (← Extern.Bytes.bytesOf vb)))) w = _
  simp only [Sem.run_bind, Sem.run_pure, run_bytesOf ha, run_bytesOf hb, Result.andThen]
  rw [Lib.cmp_eq]
  simp only
  rw [Mac.cmp_bytes A B ha.1 hb.1]
  rfl

set_option maxHeartbeats 1000000 in
theorem compare_any (va vb : Value) (A B : List Nat) (w : World) (ha : BytesAt w va A) (hb : BytesAt w vb B) :
    Calls Tryd.prog 26 #[va, vb] w fun e w' => e = .returned (.int .i64 (Mac.cmpL A B)) ∧ w' = w := by
  have H : Hid ((Extern.BytealgCompare.compare #[va, vb]).run Tryd.prog w = .ok (.int .i64 (Mac.cmpL A B)) w) := run_compare ha hb
  obtain ⟨aa, ac, rfl, _, _⟩ := ha.form
  obtain ⟨ba, bc, rfl, _, _⟩ := hb.form
  clear ha hb
  go_enter Tryd.func26, Tryd.ntmps26
  go_wp2
  rw [run_callFunc_extern Tryd.func33 (by kernel_rfl) (by kernel_rfl) (by kernel_rfl) (e := Extern.BytealgCompare.compare) (by kernel_rfl), H.out]
  simp only [Result.andThen]
  rw [Oper.upon_value]
  go_wp2
  go_ret
  exact ⟨rfl, rfl⟩
end Go.Proofs.YtaklbnaaoebknaaDoor
