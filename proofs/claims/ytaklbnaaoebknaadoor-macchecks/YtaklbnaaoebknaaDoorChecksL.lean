/- The law MacChecks walked for all lengths: it answers true. Condition: the tables hold what the text lays. -/
import Derived.Test.YtaklbnaaoebknaaDoorChecksW
namespace Go.Proofs.YtaklbnaaoebknaaDoor
open Go Go.RowKit
set_option linter.unusedVariables false
set_option linter.unusedSimpArgs false
set_option maxRecDepth 100000

set_option maxHeartbeats 2000000 in
theorem checks_l1 (ka ta xa : Option Addr) (n1 n2 n3 kc tc xc : Nat) (n : Int) (w : World) (hT : Tabs w) (h1 : n1 ≤ maxLen) (h2 : n2 ≤ maxLen) (h3 : n3 ≤ maxLen) (q1 : 300 < n1) :
    Calls Tryd.prog 5 #[.agg #[.slice ka n1 kc, .slice ta n2 tc, .slice xa n3 xc, .int .i64 n]] w fun e w' => e = .returned (.bool true) ∧ Ext w w' := by
  unfold maxLen at h1 h2 h3
  have HT : Hid (Tabs w) := hT
  have i1 : decide ((n1 : Int) > 300) = true := decide_eq_true (by omega)
  clear hT
  go_enter Tryd.func5, Tryd.ntmps5
  go_wp2_with (first
    | (refine wl_box (C := #[.slice ka n1 kc, .slice ta n2 tc, .slice xa n3 xc, .int .i64 n]) rfl rfl rfl ?_; intro w1 hb1 he1 hx; clear hx)
    | (go_at_call 8; refine (alive_any _ (HT.out.ext he1)).mono ?_; rintro e w2 ⟨rfl, he2⟩; have hb2 := hb1.ext he2; have c0 : w2.cell? ⟨w.heap.size, 0, none⟩ = some (.slice ka n1 kc) := hb2.cell 0; have c1 : w2.cell? ⟨w.heap.size, 1, none⟩ = some (.slice ta n2 tc) := hb2.cell 1; have c2 : w2.cell? ⟨w.heap.size, 2, none⟩ = some (.slice xa n3 xc) := hb2.cell 2))
  go_ret
  exact ⟨rfl, he1.trans he2⟩

set_option maxHeartbeats 2000000 in
theorem checks_l2 (ka ta xa : Option Addr) (n1 n2 n3 kc tc xc : Nat) (n : Int) (w : World) (hT : Tabs w) (h1 : n1 ≤ maxLen) (h2 : n2 ≤ maxLen) (h3 : n3 ≤ maxLen) (q1 : n1 ≤ 300) (q2 : 500 < n2) :
    Calls Tryd.prog 5 #[.agg #[.slice ka n1 kc, .slice ta n2 tc, .slice xa n3 xc, .int .i64 n]] w fun e w' => e = .returned (.bool true) ∧ Ext w w' := by
  unfold maxLen at h1 h2 h3
  have HT : Hid (Tabs w) := hT
  have i1 : decide ((n1 : Int) > 300) = false := decide_eq_false (by omega)
  have i2 : decide ((n2 : Int) > 500) = true := decide_eq_true (by omega)
  clear hT
  go_enter Tryd.func5, Tryd.ntmps5
  go_wp2_with (first
    | (refine wl_box (C := #[.slice ka n1 kc, .slice ta n2 tc, .slice xa n3 xc, .int .i64 n]) rfl rfl rfl ?_; intro w1 hb1 he1 hx; clear hx)
    | (go_at_call 8; refine (alive_any _ (HT.out.ext he1)).mono ?_; rintro e w2 ⟨rfl, he2⟩; have hb2 := hb1.ext he2; have c0 : w2.cell? ⟨w.heap.size, 0, none⟩ = some (.slice ka n1 kc) := hb2.cell 0; have c1 : w2.cell? ⟨w.heap.size, 1, none⟩ = some (.slice ta n2 tc) := hb2.cell 1; have c2 : w2.cell? ⟨w.heap.size, 2, none⟩ = some (.slice xa n3 xc) := hb2.cell 2))
  go_ret
  exact ⟨rfl, he1.trans he2⟩

set_option maxHeartbeats 2000000 in
theorem checks_l3 (ka ta xa : Option Addr) (n1 n2 n3 kc tc xc : Nat) (n : Int) (w : World) (hT : Tabs w) (h1 : n1 ≤ maxLen) (h2 : n2 ≤ maxLen) (h3 : n3 ≤ maxLen) (q1 : n1 ≤ 300) (q2 : n2 ≤ 500) (q3 : 100 < n3) :
    Calls Tryd.prog 5 #[.agg #[.slice ka n1 kc, .slice ta n2 tc, .slice xa n3 xc, .int .i64 n]] w fun e w' => e = .returned (.bool true) ∧ Ext w w' := by
  unfold maxLen at h1 h2 h3
  have HT : Hid (Tabs w) := hT
  have i1 : decide ((n1 : Int) > 300) = false := decide_eq_false (by omega)
  have i2 : decide ((n2 : Int) > 500) = false := decide_eq_false (by omega)
  have i3 : decide ((n3 : Int) > 100) = true := decide_eq_true (by omega)
  clear hT
  go_enter Tryd.func5, Tryd.ntmps5
  go_wp2_with (first
    | (refine wl_box (C := #[.slice ka n1 kc, .slice ta n2 tc, .slice xa n3 xc, .int .i64 n]) rfl rfl rfl ?_; intro w1 hb1 he1 hx; clear hx)
    | (go_at_call 8; refine (alive_any _ (HT.out.ext he1)).mono ?_; rintro e w2 ⟨rfl, he2⟩; have hb2 := hb1.ext he2; have c0 : w2.cell? ⟨w.heap.size, 0, none⟩ = some (.slice ka n1 kc) := hb2.cell 0; have c1 : w2.cell? ⟨w.heap.size, 1, none⟩ = some (.slice ta n2 tc) := hb2.cell 1; have c2 : w2.cell? ⟨w.heap.size, 2, none⟩ = some (.slice xa n3 xc) := hb2.cell 2))
  go_ret
  exact ⟨rfl, he1.trans he2⟩

theorem checks_walk (kv tv xv : Value) (K T X : List Nat) (n : Int) (w : World) (hT : Tabs w) (hk : BytesAt w kv K) (ht : BytesAt w tv T) (hx : BytesAt w xv X) (hn : -9223372036854775808 ≤ n ∧ n ≤ 9223372036854775807) :
    Calls Tryd.prog 5 #[.agg #[kv, tv, xv, .int .i64 n]] w fun e w' => e = .returned (.bool true) ∧ Below w.heap.size w w' := by
  obtain ⟨ka, kc, e1, _, _⟩ := hk.form
  obtain ⟨ta, tc, e2, _, _⟩ := ht.form
  obtain ⟨xa, xc, e3, _, _⟩ := hx.form
  by_cases q1 : 300 < K.length
  · subst e1 e2 e3; exact checks_l1 _ _ _ _ _ _ _ _ _ n w hT hk.2.1 ht.2.1 hx.2.1 q1
  by_cases q2 : 500 < T.length
  · subst e1 e2 e3; exact checks_l2 _ _ _ _ _ _ _ _ _ n w hT hk.2.1 ht.2.1 hx.2.1 (by omega) q2
  by_cases q3 : 100 < X.length
  · subst e1 e2 e3; exact checks_l3 _ _ _ _ _ _ _ _ _ n w hT hk.2.1 ht.2.1 hx.2.1 (by omega) (by omega) q3
  exact checks_short kv tv xv K T X n w hT hk ht hx hn (by omega) (by omega) (by omega)
end Go.Proofs.YtaklbnaaoebknaaDoor
