/- The document's own turn and step: what these functions answer. No condition of its own. -/
import Derived.Test.YtaklbnaaoebknaaDoorSame
namespace Go.Proofs.YtaklbnaaoebknaaDoor
open Go Go.RowKit
set_option linter.unusedVariables false
set_option linter.unusedSimpArgs false
set_option maxRecDepth 100000

theorem turn_2 (x : Nat) (w : World) (h : x < 4294967296) :
    Calls Tryd.prog 39 #[.int .u32 (x : Int), .int .u64 2] w fun e w' => e = .returned (.int .u32 (Sha.rot x 2 : Nat)) ∧ w' = w := by
  have hl := Sha.rot_lt h (n := 2) (by decide)
  have he : Sha.rot x 2 = x / 4 + x * 1073741824 % 4294967296 := rfl
  go_enter Tryd.func39, Tryd.ntmps39
  go_wp2
  go_ret
  refine ⟨ret_int ?_, rfl⟩
  rw [he] at hl ⊢
  omega

theorem turn_6 (x : Nat) (w : World) (h : x < 4294967296) :
    Calls Tryd.prog 39 #[.int .u32 (x : Int), .int .u64 6] w fun e w' => e = .returned (.int .u32 (Sha.rot x 6 : Nat)) ∧ w' = w := by
  have hl := Sha.rot_lt h (n := 6) (by decide)
  have he : Sha.rot x 6 = x / 64 + x * 67108864 % 4294967296 := rfl
  go_enter Tryd.func39, Tryd.ntmps39
  go_wp2
  go_ret
  refine ⟨ret_int ?_, rfl⟩
  rw [he] at hl ⊢
  omega

theorem turn_7 (x : Nat) (w : World) (h : x < 4294967296) :
    Calls Tryd.prog 39 #[.int .u32 (x : Int), .int .u64 7] w fun e w' => e = .returned (.int .u32 (Sha.rot x 7 : Nat)) ∧ w' = w := by
  have hl := Sha.rot_lt h (n := 7) (by decide)
  have he : Sha.rot x 7 = x / 128 + x * 33554432 % 4294967296 := rfl
  go_enter Tryd.func39, Tryd.ntmps39
  go_wp2
  go_ret
  refine ⟨ret_int ?_, rfl⟩
  rw [he] at hl ⊢
  omega

theorem turn_11 (x : Nat) (w : World) (h : x < 4294967296) :
    Calls Tryd.prog 39 #[.int .u32 (x : Int), .int .u64 11] w fun e w' => e = .returned (.int .u32 (Sha.rot x 11 : Nat)) ∧ w' = w := by
  have hl := Sha.rot_lt h (n := 11) (by decide)
  have he : Sha.rot x 11 = x / 2048 + x * 2097152 % 4294967296 := rfl
  go_enter Tryd.func39, Tryd.ntmps39
  go_wp2
  go_ret
  refine ⟨ret_int ?_, rfl⟩
  rw [he] at hl ⊢
  omega

theorem turn_13 (x : Nat) (w : World) (h : x < 4294967296) :
    Calls Tryd.prog 39 #[.int .u32 (x : Int), .int .u64 13] w fun e w' => e = .returned (.int .u32 (Sha.rot x 13 : Nat)) ∧ w' = w := by
  have hl := Sha.rot_lt h (n := 13) (by decide)
  have he : Sha.rot x 13 = x / 8192 + x * 524288 % 4294967296 := rfl
  go_enter Tryd.func39, Tryd.ntmps39
  go_wp2
  go_ret
  refine ⟨ret_int ?_, rfl⟩
  rw [he] at hl ⊢
  omega

theorem turn_17 (x : Nat) (w : World) (h : x < 4294967296) :
    Calls Tryd.prog 39 #[.int .u32 (x : Int), .int .u64 17] w fun e w' => e = .returned (.int .u32 (Sha.rot x 17 : Nat)) ∧ w' = w := by
  have hl := Sha.rot_lt h (n := 17) (by decide)
  have he : Sha.rot x 17 = x / 131072 + x * 32768 % 4294967296 := rfl
  go_enter Tryd.func39, Tryd.ntmps39
  go_wp2
  go_ret
  refine ⟨ret_int ?_, rfl⟩
  rw [he] at hl ⊢
  omega

theorem turn_18 (x : Nat) (w : World) (h : x < 4294967296) :
    Calls Tryd.prog 39 #[.int .u32 (x : Int), .int .u64 18] w fun e w' => e = .returned (.int .u32 (Sha.rot x 18 : Nat)) ∧ w' = w := by
  have hl := Sha.rot_lt h (n := 18) (by decide)
  have he : Sha.rot x 18 = x / 262144 + x * 16384 % 4294967296 := rfl
  go_enter Tryd.func39, Tryd.ntmps39
  go_wp2
  go_ret
  refine ⟨ret_int ?_, rfl⟩
  rw [he] at hl ⊢
  omega

theorem turn_19 (x : Nat) (w : World) (h : x < 4294967296) :
    Calls Tryd.prog 39 #[.int .u32 (x : Int), .int .u64 19] w fun e w' => e = .returned (.int .u32 (Sha.rot x 19 : Nat)) ∧ w' = w := by
  have hl := Sha.rot_lt h (n := 19) (by decide)
  have he : Sha.rot x 19 = x / 524288 + x * 8192 % 4294967296 := rfl
  go_enter Tryd.func39, Tryd.ntmps39
  go_wp2
  go_ret
  refine ⟨ret_int ?_, rfl⟩
  rw [he] at hl ⊢
  omega

theorem turn_22 (x : Nat) (w : World) (h : x < 4294967296) :
    Calls Tryd.prog 39 #[.int .u32 (x : Int), .int .u64 22] w fun e w' => e = .returned (.int .u32 (Sha.rot x 22 : Nat)) ∧ w' = w := by
  have hl := Sha.rot_lt h (n := 22) (by decide)
  have he : Sha.rot x 22 = x / 4194304 + x * 1024 % 4294967296 := rfl
  go_enter Tryd.func39, Tryd.ntmps39
  go_wp2
  go_ret
  refine ⟨ret_int ?_, rfl⟩
  rw [he] at hl ⊢
  omega

theorem turn_25 (x : Nat) (w : World) (h : x < 4294967296) :
    Calls Tryd.prog 39 #[.int .u32 (x : Int), .int .u64 25] w fun e w' => e = .returned (.int .u32 (Sha.rot x 25 : Nat)) ∧ w' = w := by
  have hl := Sha.rot_lt h (n := 25) (by decide)
  have he : Sha.rot x 25 = x / 33554432 + x * 128 % 4294967296 := rfl
  go_enter Tryd.func39, Tryd.ntmps39
  go_wp2
  go_ret
  refine ⟨ret_int ?_, rfl⟩
  rw [he] at hl ⊢
  omega

namespace Sha
/-- A step of the document's. -/
def stp (r : List Nat) (c m : Nat) : List Nat :=
  [(xOf (r.getD 4 0) (r.getD 5 0) (r.getD 6 0) (r.getD 7 0) c m + yOf (r.getD 0 0) (r.getD 1 0) (r.getD 2 0)) % 4294967296, r.getD 0 0, r.getD 1 0, r.getD 2 0,
    (r.getD 3 0 + xOf (r.getD 4 0) (r.getD 5 0) (r.getD 6 0) (r.getD 7 0) c m) % 4294967296, r.getD 4 0, r.getD 5 0, r.getD 6 0]
end Sha
theorem row38 : RowT Tryd.prog 62 8 := ⟨⟨_, Tryd.underlying62, rfl⟩, by kernel_rfl⟩
theorem zero38 : (Tryd.prog.info? 62).bind (·.zero) = some (.agg (uA (List.replicate 8 0))) := by kernel_rfl
theorem run_sub_u32 (t : Nat) (h : t < 4294967296) : (4294967295 - (t : Int)) % 4294967296 = ((4294967295 - t : Nat) : Int) := by omega

set_option maxHeartbeats 4000000 in
theorem step_any (p q r s t u v x c m : Nat) (w : World) (hU : Sha.AllU [p, q, r, s, t, u, v, x]) (hc : c < 4294967296) (hm : m < 4294967296) :
    Calls Tryd.prog 32 #[.agg (uA [p, q, r, s, t, u, v, x]), .int .u32 (c : Int), .int .u32 (m : Int)] w fun e w' => e = .returned (.agg (uA (Sha.stp [p, q, r, s, t, u, v, x] c m))) ∧ Ext w w' := by
  have hp : p < 4294967296 := hU p (by simp)
  have hq : q < 4294967296 := hU q (by simp)
  have hr : r < 4294967296 := hU r (by simp)
  have hs : s < 4294967296 := hU s (by simp)
  have ht : t < 4294967296 := hU t (by simp)
  have hu : u < 4294967296 := hU u (by simp)
  have hv : v < 4294967296 := hU v (by simp)
  have hx : x < 4294967296 := hU x (by simp)
  have a1 := andN t u ht hu
  have a3 := andN p q hp hq
  have a4 := andN p r hp hr
  have a5 := andN q r hq hr
  have n1 := run_sub_u32 t ht
  have n2 : IntKind.u32.wrap (4294967295 - (t : Int)) = ((4294967295 - t : Nat) : Int) := by rw [IntKind.wrap_u32]; exact n1
  have n3 : (4294967295 - (t : Int)) = ((4294967295 - t : Nat) : Int) := by omega
  have a2 := andN (4294967295 - t) v (by omega) hv
  have x1 := xorN (t &&& u) ((4294967295 - t) &&& v) (Sha.and_lt ht) (Sha.and_lt (by omega))
  have x2 := xorN (p &&& q) (p &&& r) (Sha.and_lt hp) (Sha.and_lt hp)
  have x3 := xorN ((p &&& q) ^^^ (p &&& r)) (q &&& r) (Sha.xor_lt (Sha.and_lt hp) (Sha.and_lt hp)) (Sha.and_lt hq)
  have r6 := Sha.rot_lt ht (n := 6) (by decide)
  have r11 := Sha.rot_lt ht (n := 11) (by decide)
  have r25 := Sha.rot_lt ht (n := 25) (by decide)
  have r2 := Sha.rot_lt hp (n := 2) (by decide)
  have r13 := Sha.rot_lt hp (n := 13) (by decide)
  have r22 := Sha.rot_lt hp (n := 22) (by decide)
  have y1 := xorN (Sha.rot t 6) (Sha.rot t 11) r6 r11
  have y2 := xorN (Sha.rot t 6 ^^^ Sha.rot t 11) (Sha.rot t 25) (Sha.xor_lt r6 r11) r25
  have y3 := xorN (Sha.rot p 2) (Sha.rot p 13) r2 r13
  have y4 := xorN (Sha.rot p 2 ^^^ Sha.rot p 13) (Sha.rot p 22) (Sha.xor_lt r2 r13) r22
  have HX : Hid (Sha.xOf t u v x c m = (x + ((Sha.rot t 6 ^^^ Sha.rot t 11) ^^^ Sha.rot t 25) + ((t &&& u) ^^^ ((4294967295 - t) &&& v)) + c + m) % 4294967296) := rfl
  have HY : Hid (Sha.yOf p q r = (((Sha.rot p 2 ^^^ Sha.rot p 13) ^^^ Sha.rot p 22) + (((p &&& q) ^^^ (p &&& r)) ^^^ (q &&& r))) % 4294967296) := rfl
  generalize (t &&& u) ^^^ ((4294967295 - t) &&& v) = ch at *
  generalize ((p &&& q) ^^^ (p &&& r)) ^^^ (q &&& r) = mo at *
  generalize (p &&& q) ^^^ (p &&& r) = z0 at *
  generalize t &&& u = z1 at *
  generalize (4294967295 - t) &&& v = z2 at *
  generalize p &&& q = z3 at *
  generalize p &&& r = z4 at *
  generalize q &&& r = z5 at *
  generalize 4294967295 - t = nt at *
  generalize (Sha.rot t 6 ^^^ Sha.rot t 11) ^^^ Sha.rot t 25 = al at *
  generalize Sha.rot t 6 ^^^ Sha.rot t 11 = al0 at *
  generalize (Sha.rot p 2 ^^^ Sha.rot p 13) ^^^ Sha.rot p 22 = be at *
  generalize Sha.rot p 2 ^^^ Sha.rot p 13 = be0 at *
  have HS : Hid (Sha.stp [p, q, r, s, t, u, v, x] c m = [(Sha.xOf t u v x c m + Sha.yOf p q r) % 4294967296, p, q, r, (s + Sha.xOf t u v x c m) % 4294967296, t, u, v]) := rfl
  generalize Sha.xOf t u v x c m = xx at *
  generalize Sha.yOf p q r = yy at *
  have hX : ((x : Int) + (al : Int) + (ch : Int) + (c : Int) + (m : Int)) % 4294967296 = (xx : Int) := by rw [HX.out]; omega
  have hY : ((be : Int) + (mo : Int)) % 4294967296 = (yy : Int) := by rw [HY.out]; omega
  have hxl : xx < 4294967296 := by rw [HX.out]; exact Nat.mod_lt _ (by decide)
  have hyl : yy < 4294967296 := by rw [HY.out]; exact Nat.mod_lt _ (by decide)
  obtain ⟨sx, esx⟩ : ∃ sx, sx = (s + xx) % 4294967296 := ⟨_, rfl⟩
  obtain ⟨xy, exy⟩ : ∃ xy, xy = (xx + yy) % 4294967296 := ⟨_, rfl⟩
  have hS0 : ((s : Int) + (xx : Int)) % 4294967296 = (sx : Int) := by omega
  have hXY : ((xx : Int) + (yy : Int)) % 4294967296 = (xy : Int) := by omega
  rw [← esx, ← exy] at HS
  clear HX HY esx exy hU
  go_enter Tryd.func32, Tryd.ntmps32
  go_wp2_with (first
    | (refine wl_box rfl rfl rfl ?_; intro w1 hb1 he1 hy; clear hy; refine wl_alloc rfl rfl zero38 ?_; intro w2 hb2 he2 hy; clear hy; have H1 : Hid (Blk w2 w.heap.size (uA [p, q, r, s, t, u, v, x]) 62) := hb1.ext he2; have c0 : w2.cell? ⟨w.heap.size, 0, none⟩ = some (.int .u32 (p : Int)) := H1.out.cell 0; have c1 : w2.cell? ⟨w.heap.size, 1, none⟩ = some (.int .u32 (q : Int)) := H1.out.cell 1; have c2 : w2.cell? ⟨w.heap.size, 2, none⟩ = some (.int .u32 (r : Int)) := H1.out.cell 2; have c3 : w2.cell? ⟨w.heap.size, 3, none⟩ = some (.int .u32 (s : Int)) := H1.out.cell 3; have c4 : w2.cell? ⟨w.heap.size, 4, none⟩ = some (.int .u32 (t : Int)) := H1.out.cell 4; have c5 : w2.cell? ⟨w.heap.size, 5, none⟩ = some (.int .u32 (u : Int)) := H1.out.cell 5; have c6 : w2.cell? ⟨w.heap.size, 6, none⟩ = some (.int .u32 (v : Int)) := H1.out.cell 6; have c7 : w2.cell? ⟨w.heap.size, 7, none⟩ = some (.int .u32 (x : Int)) := H1.out.cell 7; have HE : Hid (Ext w w2 ∧ w.heap.size < w1.heap.size) := ⟨he1.trans he2, hb1.lt⟩; clear hb1 he1 he2))
  go_quiet (first
    | (go_at_call_of 39 (Value.int .u64 6); refine Calls.quiet_of_same (turn_6 _ _ ht))
    | (go_at_call_of 39 (Value.int .u64 11); refine Calls.quiet_of_same (turn_11 _ _ ht))
    | (go_at_call_of 39 (Value.int .u64 25); refine Calls.quiet_of_same (turn_25 _ _ ht)))
  rename_i nq
  have HB : Hid (Blk (w2.drewN nq) w.heap.size (uA [p, q, r, s, t, u, v, x]) 62 ∧ Blk (w2.drewN nq) w1.heap.size (uA (List.replicate 8 0)) 62 ∧ Ext w (w2.drewN nq) ∧ w.heap.size < w1.heap.size) := ⟨H1.out.drewN _, hb2.drewN _, HE.out.1.trans (Ext.drewN _ _), HE.out.2⟩
  generalize w2.drewN nq = w3 at *
  clear c0 c1 c2 c3 c4 c5 c6 c7
  have c0 : w3.cell? ⟨w.heap.size, 0, none⟩ = some (.int .u32 (p : Int)) := HB.out.1.cell 0
  have c1 : w3.cell? ⟨w.heap.size, 1, none⟩ = some (.int .u32 (q : Int)) := HB.out.1.cell 1
  have c2 : w3.cell? ⟨w.heap.size, 2, none⟩ = some (.int .u32 (r : Int)) := HB.out.1.cell 2
  have c3 : w3.cell? ⟨w.heap.size, 3, none⟩ = some (.int .u32 (s : Int)) := HB.out.1.cell 3
  have c4 : w3.cell? ⟨w.heap.size, 4, none⟩ = some (.int .u32 (t : Int)) := HB.out.1.cell 4
  have c5 : w3.cell? ⟨w.heap.size, 5, none⟩ = some (.int .u32 (u : Int)) := HB.out.1.cell 5
  have c6 : w3.cell? ⟨w.heap.size, 6, none⟩ = some (.int .u32 (v : Int)) := HB.out.1.cell 6
  have c7 : w3.cell? ⟨w.heap.size, 7, none⟩ = some (.int .u32 (x : Int)) := HB.out.1.cell 7
  go_wp2_with fail
  go_quiet (first
    | (go_at_call_of 39 (Value.int .u64 2); refine Calls.quiet_of_same (turn_2 _ _ hp))
    | (go_at_call_of 39 (Value.int .u64 13); refine Calls.quiet_of_same (turn_13 _ _ hp))
    | (go_at_call_of 39 (Value.int .u64 22); refine Calls.quiet_of_same (turn_22 _ _ hp)))
  go_wp2_with (first
    | (refine wl_store (D := uA [xy, p, q, r, sx, t, u, v]) rfl row38 rfl rfl (by first | rfl | go_simp | simp [go_sem]) (HB.out.2.1.drewN _) rfl rfl (uA_one _) ?_; intro w5 hb5 hk5 hy; clear hy))
  have := HB.out.2.2.2
  refine bodyPost_ret (v := .agg (uA [xy, p, q, r, sx, t, u, v])) (results_cell_row (fn := Tryd.f32) (p := 6) (by rfl) _ _ w1.heap.size 62 _ (0, 0) _ rfl hb5 Tryd.underlying62 rfl (by rw [uA_size]; kernel_rfl)) rfl ⟨by rw [HS.out], ?_⟩
  exact (HB.out.2.2.1.trans (Ext.drewN _ _)).of_but hk5 (fun k e => by subst e; omega)

namespace Sha
/-- The registers by their names at a time. -/
def view (L : List Nat) (i : Nat) : List Nat := [L.getD (pl 0 i) 0, L.getD (pl 1 i) 0, L.getD (pl 2 i) 0, L.getD (pl 3 i) 0, L.getD (pl 4 i) 0, L.getD (pl 5 i) 0, L.getD (pl 6 i) 0, L.getD (pl 7 i) 0]
theorem list8 {L : List Nat} (h : L.length = 8) : L = [L.getD 0 0, L.getD 1 0, L.getD 2 0, L.getD 3 0, L.getD 4 0, L.getD 5 0, L.getD 6 0, L.getD 7 0] := by
  match L, h with
  | [a, b, c, d, e, f, g, i], _ => rfl
theorem view_0 {L : List Nat} (h : L.length = 8) : view L 0 = L := (list8 h).symm
theorem view_64 {L : List Nat} (h : L.length = 8) : view L 64 = L := (list8 h).symm
theorem set_get (L : List Nat) (j k x : Nat) (hk : k < L.length) : (L.set j x).getD k 0 = if j = k then x else L.getD k 0 := by
  rw [List.getD_eq_getElem?_getD, List.getElem?_set]
  split
  · rename_i e; subst e; simp [hk]
  · rw [List.getD_eq_getElem?_getD]
theorem view_chg {L : List Nat} (h : L.length = 8) (i m : Nat) (hi : i < 64) : view (chg i L m) (i + 1) = stp (view L i) (cub.getD i 0) m := by
  have e0 : pl 0 (i + 1) = pl 7 i := by unfold pl; omega
  have e1 : pl 1 (i + 1) = pl 0 i := by unfold pl; omega
  have e2 : pl 2 (i + 1) = pl 1 i := by unfold pl; omega
  have e3 : pl 3 (i + 1) = pl 2 i := by unfold pl; omega
  have e4 : pl 4 (i + 1) = pl 3 i := by unfold pl; omega
  have e5 : pl 5 (i + 1) = pl 4 i := by unfold pl; omega
  have e6 : pl 6 (i + 1) = pl 5 i := by unfold pl; omega
  have e7 : pl 7 (i + 1) = pl 6 i := by unfold pl; omega
  have l : ∀ k, pl k i < 8 := fun k => pl_lt k i
  have d : ∀ a b, a < 8 → b < 8 → a ≠ b → pl a i ≠ pl b i := fun a b ha hb hab => by unfold pl; omega
  have g : ∀ k x y, (((L.set (pl 3 i) x).set (pl 7 i) y)).getD (pl k i) 0 = if pl 7 i = pl k i then y else if pl 3 i = pl k i then x else L.getD (pl k i) 0 := fun k x y => by
    rw [set_get _ _ _ _ (by rw [List.length_set, h]; exact l k), set_get _ _ _ _ (by rw [h]; exact l k)]
  unfold view chg
  rw [e0, e1, e2, e3, e4, e5, e6, e7]
  have n70 := d 7 0 (by decide) (by decide) (by decide)
  have n30 := d 3 0 (by decide) (by decide) (by decide)
  have n71 := d 7 1 (by decide) (by decide) (by decide)
  have n31 := d 3 1 (by decide) (by decide) (by decide)
  have n72 := d 7 2 (by decide) (by decide) (by decide)
  have n32 := d 3 2 (by decide) (by decide) (by decide)
  have n73 := d 7 3 (by decide) (by decide) (by decide)
  have n74 := d 7 4 (by decide) (by decide) (by decide)
  have n34 := d 3 4 (by decide) (by decide) (by decide)
  have n75 := d 7 5 (by decide) (by decide) (by decide)
  have n35 := d 3 5 (by decide) (by decide) (by decide)
  have n76 := d 7 6 (by decide) (by decide) (by decide)
  have n36 := d 3 6 (by decide) (by decide) (by decide)
  simp only [g, if_true, if_false, n70, n30, n71, n31, n72, n32, n73, n74, n34, n75, n35, n76, n36]
  rfl
/-- The document's registers behind some steps. -/
def steps (R B : List Nat) (i : Nat) : List Nat := view (cp R B i) i
theorem steps_0 {R B : List Nat} (h : R.length = 8) : steps R B 0 = R := view_0 h
theorem steps_succ {R B : List Nat} (h : R.length = 8) (i : Nat) (hi : i < 64) : steps R B (i + 1) = stp (steps R B i) (cub.getD i 0) (mw B i) := by
  unfold steps
  rw [cp]
  exact view_chg (by rw [cp_len, h]) i _ hi
theorem steps_64 {R B : List Nat} (h : R.length = 8) : steps R B 64 = cp R B 64 := view_64 (by rw [cp_len, h])
theorem steps_len (R B : List Nat) (i : Nat) : (steps R B i).length = 8 := rfl
theorem steps_all {R B : List Nat} (h : AllU R) (i : Nat) : AllU (steps R B i) := by
  intro x hx
  have := cp_all (B := B) h i
  simp only [steps, view, List.mem_cons, List.not_mem_nil, or_false] at hx
  rcases hx with rfl | rfl | rfl | rfl | rfl | rfl | rfl | rfl <;> exact this.get _
end Sha
theorem step_list (L : List Nat) (c m : Nat) (w : World) (hl : L.length = 8) (hU : Sha.AllU L) (hc : c < 4294967296) (hm : m < 4294967296) :
    Calls Tryd.prog 32 #[.agg (uA L), .int .u32 (c : Int), .int .u32 (m : Int)] w fun e w' => e = .returned (.agg (uA (Sha.stp L c m))) ∧ Ext w w' := by
  rw [Sha.list8 hl]
  exact step_any _ _ _ _ _ _ _ _ c m w (by rw [← Sha.list8 hl]; exact hU) hc hm
end Go.Proofs.YtaklbnaaoebknaaDoor
