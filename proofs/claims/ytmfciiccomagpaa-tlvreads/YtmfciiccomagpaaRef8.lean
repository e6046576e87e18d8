/- The document's reader. No condition of its own. -/
import Derived.Test.YtmfciiccomagpaaRef7
import Derived.Laws.ResultCell
namespace Go.Proofs.Ytmfciiccomagpaa
namespace Tlv
open Go Go.RowKit
set_option linter.unusedVariables false
set_option linter.unusedSimpArgs false
set_option maxRecDepth 100000


theorem rowI : RowT Try.prog 40 3 := ⟨⟨_, Try.underlying40, rfl⟩, by kernel_rfl⟩
theorem zeroI : (Try.prog.info? 40).bind (·.zero) = some (.agg #[.slice none 0 0, .int .i64 0, .bool false]) := by kernel_rfl
/-- A reader by value. -/
def rv (bv : Value) (a : Nat) (b : Bool) : Array Value := #[bv, .int .i64 (a : Int), .bool b]
def RefV (v bv : Value) (B : List Nat) (s : Option Nat) : Prop := ∃ (a : Nat) (b : Bool), v = .agg #[bv, .int .i64 (a : Int), .bool b] ∧ a ≤ B.length ∧ s = (if b = true then none else some a)
theorem one_in (u : Value) (a : Int) (b : Bool) (hu : u.oneCell' = true) : ∀ v ∈ (#[u, .int .i64 a, .bool b] : Array Value).toList, v.oneCell' = true := by
  intro v hv
  simp at hv
  rcases hv with rfl | rfl | rfl
  · exact hu
  · rfl
  · rfl
theorem res_two {fn : Func} {p u : Tmp} {ty g t : Nat} {cs : Array Value} {fs : Array Field} {x : Value} (h : fn.results = #[.cell p ty, .tmp u]) (tmps : Array Value) (w : World) (hp : tmps.getD p undef = .pointer (some ⟨g, 0, none⟩)) (hx : tmps.getD u undef = x) (hg : Blk w g cs t) (hu : Try.prog.underlying ty = some (.struct fs)) (hi : (Try.prog.info? ty).map (·.size) = some cs.size) :
    (results fn tmps).run Try.prog w = .ok (.tuple #[.agg cs, x]) w := by
  rw [results_cell_tmp h, hp, hx]
  have := run_loadVar_row (P := Try.prog) w g t ty cs (0, 0) _ hg hu rfl hi
  simp [asAddr, this]

set_option maxHeartbeats 1000000 in
theorem refLeft_any {w : World} {v bv : Value} {B : List Nat} {s : Option Nat} (hv : RefV v bv B s) (hb : BytesAt w bv B) (hB : B.length ≤ 1000000) :
    Calls Try.prog 23 #[v] w fun e w' => e = .returned (.int .i64 (leftS B s : Nat)) ∧ Ext w w' := by
  obtain ⟨ba, bc, rfl, _, _⟩ := hb.form
  rename_i z1 z2
  clear z1 z2 hb
  obtain ⟨a, b, rfl, ha, rfl⟩ := hv
  cases b with
  | true =>
    go_enter Try.func23, Try.ntmps23
    go_wp2_with (first
      | (refine wl_box (C := #[.slice ba B.length bc, .int .i64 (a : Int), .bool true]) rfl rfl rfl ?_; intro w1 hb1 he1 hx; clear hx; have c0 := hb1.cell 0; have c1 := hb1.cell 1; have c2 := hb1.cell 2; clear hb1))
    go_ret
    exact ⟨rfl, he1⟩
  | false =>
    have hsub : IntKind.i64.wrap ((B.length : Int) - (a : Int)) = ((B.length - a : Nat) : Int) := by rw [IntKind.wrap_i64]; omega
    have hsub2 : (B.length : Int) - (a : Int) = ((B.length - a : Nat) : Int) := by omega
    have HE : Hid (leftS B (if false = true then none else some a) = B.length - a) := rfl
    go_enter Try.func23, Try.ntmps23
    go_wp2_with (first
      | (refine wl_box (C := #[.slice ba B.length bc, .int .i64 (a : Int), .bool false]) rfl rfl rfl ?_; intro w1 hb1 he1 hx; clear hx; have c0 := hb1.cell 0; have c1 := hb1.cell 1; have c2 := hb1.cell 2; clear hb1))
    go_ret
    exact ⟨ret_int rfl, he1⟩
/-- What Take leaves. -/
def TakeIs (w : World) (bv : Value) (B : List Nat) (r : Option Nat × List Nat) (e : Ending) (w' : World) : Prop :=
  ∃ v' a n c, e = .returned (.tuple #[v', .slice a n c]) ∧ RefV v' bv B r.1 ∧ n = r.2.length ∧ OB w' w.heap.size (.slice a n c) r.2 ∧ Ext w w'

set_option maxHeartbeats 4000000 in
theorem refTake_any {w : World} {v bv : Value} {B : List Nat} {s : Option Nat} (hv : RefV v bv B s) (hb : BytesAt w bv B) (hB : B.length ≤ 1000000) (n : Int) :
    Calls Try.prog 18 #[v, .int .i64 n] w (TakeIs w bv B (takeS B s n)) := by
  obtain ⟨ba, bc, rfl, hbc, _⟩ := hb.form
  rename_i z2
  have HBC : Hid (B.length ≤ bc ∧ bc ≤ maxLen) := hbc
  have HB : Hid (BytesAt w (.slice ba B.length bc) B) := hb
  have HL : Hid (B.length ≤ 1000000) := hB
  clear z2 hb hbc
  obtain ⟨a, b, rfl, ha, rfl⟩ := hv
  cases b with
  | true =>
    rw [show takeS B (if true = true then none else some a) n = (none, []) from rfl]
    go_enter Try.func18, Try.ntmps18
    go_wp2_with (first
      | (refine wl_box (C := #[.slice ba B.length bc, .int .i64 (a : Int), .bool true]) rfl rfl rfl ?_; intro w1 hb1 he1 hx; clear hx)
      | (refine wl_alloc rfl rfl zeroI ?_; intro w2 hb2 he2 hx; clear hx; have hb1' := hb1.ext he2; have c0 := hb1'.cell 0; have c1 := hb1'.cell 1; have c2 := hb1'.cell 2)
      | (refine wl_set (v := .bool true) rfl one4 rfl rfl rfl rfl rfl hb1' (by simp) ?_; intro w4 hb4 hk4 hx; clear hx)
      | (have q := hk4; clear q; refine wl_load rfl rowI rfl rfl hb4 rfl ?_)
      | (refine wl_store (D := #[.slice ba B.length bc, .int .i64 (a : Int), .bool true]) rfl rowI rfl rfl rfl (hb2.but hk4 (show ¬ _ = _ by have := hb1.lt; omega)) rfl rfl (one_in _ _ _ rfl) ?_; intro w5 hb5 hk5 hx; clear hx))
    refine bodyPost_ret (res_two (fn := Try.f18) (p := 4) (u := 5) rfl _ _ rfl rfl hb5 Try.underlying40 (by kernel_rfl)) rfl ?_
    exact ⟨_, none, 0, 0, rfl, ⟨a, true, rfl, ha, rfl⟩, rfl, OB.nil _ _, ((he1.trans he2).of_but hk4 (fun k e => by subst e; exact Nat.le_refl _)).of_but hk5 (fun k e => by subst e; exact he1.size)⟩
  | false =>
  rw [show (if false = true then (none : Option Nat) else some a) = some a from rfl]
  by_cases h0 : n < 0
  · have hd : decide (n < 0) = true := decide_eq_true h0
    rw [takeS_no (by omega)]
    go_enter Try.func18, Try.ntmps18
    go_wp2_with (first
      | (refine wl_box (C := #[.slice ba B.length bc, .int .i64 (a : Int), .bool false]) rfl rfl rfl ?_; intro w1 hb1 he1 hx; clear hx)
      | (refine wl_alloc rfl rfl zeroI ?_; intro w2 hb2 he2 hx; clear hx; have hb1' := hb1.ext he2; have c0 := hb1'.cell 0; have c1 := hb1'.cell 1; have c2 := hb1'.cell 2)
      | (refine wl_set (v := .bool true) rfl one4 rfl rfl rfl rfl rfl hb1' (by simp) ?_; intro w4 hb4 hk4 hx; clear hx)
      | (have q := hk4; clear q; refine wl_load rfl rowI rfl rfl hb4 rfl ?_)
      | (refine wl_store (D := #[.slice ba B.length bc, .int .i64 (a : Int), .bool true]) rfl rowI rfl rfl rfl (hb2.but hk4 (show ¬ _ = _ by have := hb1.lt; omega)) rfl rfl (one_in _ _ _ rfl) ?_; intro w5 hb5 hk5 hx; clear hx))
    refine bodyPost_ret (res_two (fn := Try.f18) (p := 4) (u := 5) rfl _ _ rfl rfl hb5 Try.underlying40 (by kernel_rfl)) rfl ?_
    exact ⟨_, none, 0, 0, rfl, ⟨a, true, rfl, ha, rfl⟩, rfl, OB.nil _ _, ((he1.trans he2).of_but hk4 (fun k e => by subst e; exact Nat.le_refl _)).of_but hk5 (fun k e => by subst e; exact he1.size)⟩
  have hd : decide (n < 0) = false := decide_eq_false h0
  obtain ⟨L, hLf⟩ : ∃ L, leftS B (if false = true then none else some a) = L := ⟨_, rfl⟩
  have hLv : L = B.length - a := hLf.symm
  by_cases h1 : (L : Int) < n
  · have hd1 : decide (n > (L : Int)) = true := decide_eq_true h1
    rw [takeS_no (by omega)]
    have HLv : Hid (L = B.length - a) := hLv
    clear hLv
    go_enter Try.func18, Try.ntmps18
    go_wp2_with (first
      | (refine wl_box (C := #[.slice ba B.length bc, .int .i64 (a : Int), .bool false]) rfl rfl rfl ?_; intro w1 hb1 he1 hx; clear hx)
      | (refine wl_alloc rfl rfl zeroI ?_; intro w2 hb2 he2 hx; clear hx; have hb1' := hb1.ext he2; have c0 := hb1'.cell 0; have c1 := hb1'.cell 1; have c2 := hb1'.cell 2)
      | (go_at_call 23; refine (refLeft_any ⟨a, false, rfl, ha, rfl⟩ (HB.out.ext (he1.trans he2)) HL.out).mono ?_; rintro e w3 ⟨rfl, he3⟩; rw [hLf]; have d0 := (hb1'.ext he3).cell 0; have d1 := (hb1'.ext he3).cell 1; have d2 := (hb1'.ext he3).cell 2)
      | (refine wl_set (v := .bool true) rfl one4 rfl rfl rfl rfl rfl (hb1'.ext he3) (by simp) ?_; intro w4 hb4 hk4 hx; clear hx)
      | (have q := hk4; clear q; refine wl_load rfl rowI rfl rfl hb4 rfl ?_)
      | (refine wl_store (D := #[.slice ba B.length bc, .int .i64 (a : Int), .bool true]) rfl rowI rfl rfl rfl ((hb2.ext he3).but hk4 (show ¬ _ = _ by have := hb1.lt; omega)) rfl rfl (one_in _ _ _ rfl) ?_; intro w5 hb5 hk5 hx; clear hx))
    refine bodyPost_ret (res_two (fn := Try.f18) (p := 4) (u := 5) rfl _ _ rfl rfl hb5 Try.underlying40 (by kernel_rfl)) rfl ?_
    exact ⟨_, none, 0, 0, rfl, ⟨a, true, rfl, ha, rfl⟩, rfl, OB.nil _ _, (((he1.trans he2).trans he3).of_but hk4 (fun k e => by subst e; exact Nat.le_refl _)).of_but hk5 (fun k e => by subst e; exact he1.size)⟩
  have hd1 : decide (n > (L : Int)) = false := decide_eq_false h1
  obtain ⟨m, rfl⟩ : ∃ m : Nat, n = (m : Int) := ⟨n.toNat, by omega⟩
  rw [takeS_yes (by omega) (by omega), Int.toNat_natCast]
  obtain ⟨a2, ha2⟩ : ∃ a2, a2 = a + m := ⟨_, rfl⟩
  have hadd3 : wrap64 (a2 : Int) = (a2 : Int) := by unfold wrap64; omega
  have hadd2 : (a : Int) + (m : Int) = (a2 : Int) := by omega
  have ha12 : a ≤ a2 := by omega
  have ha2B : a2 ≤ B.length := by omega
  have ha2c : a2 ≤ bc := by have := HBC.out; omega
  have HA2 : Hid (a2 = a + m) := ha2
  have hmL : m ≤ L := by omega
  have hmL2 : (m : Int) ≤ (L : Int) := by omega
  have hmL3 : decide (L < m) = false := decide_eq_false (by omega)
  rw [← ha2]
  clear hLv ha2 h0 h1
  obtain ⟨sa, hsf, hsb⟩ := sliced_form ba a a2 bc
  have HSF : Hid (sliced ba a a2 bc 1 = .slice sa (a2 - a) (bc - a)) := hsf
  clear hsf hsb
  go_enter Try.func18, Try.ntmps18
  go_wp2_with (first
    | (refine wl_box (C := #[.slice ba B.length bc, .int .i64 (a : Int), .bool false]) rfl rfl rfl ?_; intro w1 hb1 he1 hx; clear hx)
    | (refine wl_alloc rfl rfl zeroI ?_; intro w2 hb2 he2 hx; clear hx; have hb1' := hb1.ext he2; have c0 := hb1'.cell 0; have c1 := hb1'.cell 1; have c2 := hb1'.cell 2)
    | (go_at_call 23; refine (refLeft_any ⟨a, false, rfl, ha, rfl⟩ (HB.out.ext (he1.trans he2)) HL.out).mono ?_; rintro e w3 ⟨rfl, he3⟩; rw [hLf]; have HB3 : Hid (Blk (w3.alloc (.cells #[] 5)) w.heap.size #[.slice ba B.length bc, .int .i64 (a : Int), .bool false] 40) := (hb1'.ext he3).ext (Ext.alloc _ _); have d0 := HB3.out.cell 0; have d1 := HB3.out.cell 1)
    | (refine wpList_of_run rfl (exec_slice_lh byteT rfl _ ba B.length bc a a2 .i64 .i64 rfl rfl (by first | rfl | go_simp) ha12 ha2c) ?_; rw [HSF.out])
    | (at_builtin; refine wl_app (l := []) (m := (B.drop a).take m) (v := .slice (some ⟨w3.heap.size, 0, none⟩) 0 0) (u := .slice sa (a2 - a) (bc - a)) (base := w3.heap.size) rfl rfl rfl rfl (OB.lit0 w3 _ _ rfl (Nat.le_refl _)) (by have := (HB.out.ext ((he1.trans he2).trans (he3.trans (Ext.alloc w3 (.cells #[] 5))))).sliced a a2 ha12 ha2B; rw [HSF.out, List.drop_take, show a2 - a = m by have := HA2.out; omega] at this; rwa [show a2 - a = m by have := HA2.out; omega]) (by have := HL.out; simp; omega) (by simp) ?_; intro oa on oc w4 hn4 ho4 hk4 hg4; rw [List.nil_append] at ho4; have HE4 : Hid (Ext w3 w4) := (Ext.alloc _ _).of_but hk4 (fun k e => by cases e; exact Nat.le_refl _); have hb4 := (hb1'.ext he3).ext HE4.out; have f1 := hb4.cell 1; have HB4 : Hid (Blk w4 w.heap.size #[.slice ba B.length bc, .int .i64 (a : Int), .bool false] 40) := hb4; clear hb4)
    | (refine wl_set (v := .int .i64 (a2 : Int)) rfl one3 rfl rfl (by first | rfl | go_simp | simp [go_sem, hadd2, hadd3]) rfl rfl HB4.out (by simp) ?_; intro w5 hb5 hk5 hx; clear hx)
    | (have q := hk5; clear q; refine wl_load rfl rowI rfl rfl hb5 rfl ?_)
    | (refine wl_store (D := #[.slice ba B.length bc, .int .i64 (a2 : Int), .bool false]) rfl rowI rfl rfl rfl (((hb2.ext he3).ext HE4.out).but hk5 (show ¬ _ = _ by have := hb1.lt; omega)) rfl rfl (one_in _ _ _ rfl) ?_; intro w6 hb6 hk6 hx; clear hx))
  refine bodyPost_ret (res_two (fn := Try.f18) (p := 4) (u := 5) rfl _ _ rfl rfl hb6 Try.underlying40 (by kernel_rfl)) rfl ?_
  have hw13 : w.heap.size ≤ w3.heap.size := Nat.le_trans he1.size (Nat.le_trans he2.size he3.size)
  have o5 := ho4.but hk5 (fun k e e2 => by have := (ho4.lt e).1; have := hb1.lt; have := he2.size; have := he3.size; omega)
  have o6 := o5.but hk6 (fun k e e2 => by have := (ho4.lt e).1; have := hb2.lt; have := he3.size; omega)
  exact ⟨_, oa, on, oc, rfl, ⟨a2, false, rfl, ha2B, rfl⟩, by rw [hn4.out]; simp, o6.base hw13, ((((he1.trans he2).trans he3).trans HE4.out).of_but hk5 (fun k e => by subst e; exact Nat.le_refl _)).of_but hk6 (fun k e => by subst e; exact he1.size)⟩
end Tlv
end Go.Proofs.Ytmfciiccomagpaa
