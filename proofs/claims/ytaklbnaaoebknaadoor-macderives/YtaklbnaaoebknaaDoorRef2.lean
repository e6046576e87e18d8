/- The document's own words of a block: what this function answers. No condition of its own. -/
import Derived.Test.YtaklbnaaoebknaaDoorRef1
import Derived.Test.YtaklbnaaoebknaaDoorStageL
namespace Go.Proofs.YtaklbnaaoebknaaDoor
open Go Go.RowKit
set_option linter.unusedVariables false
set_option linter.unusedSimpArgs false
set_option maxRecDepth 100000

theorem numT32 : NumT Tryd.prog 64 28 .u32 4 := ⟨Tryd.underlying64, Tryd.underlying28, by kernel_rfl⟩
def ci (l : List Nat) : List Int := l.map (fun x : Nat => (x : Int))
theorem ci_len (l : List Nat) : (ci l).length = l.length := by simp [ci]
theorem ci_app (l : List Nat) (x : Nat) : ci (l ++ [x]) = ci l ++ [(x : Int)] := by simp [ci]
theorem ci_get (l : List Nat) (j : Nat) : (ci l).getD j 0 = ((l.getD j 0 : Nat) : Int) := by
  simp only [ci, List.getD_eq_getElem?_getD, List.getElem?_map]
  cases l[j]? <;> rfl
/-- One number put behind: what was there still reads. -/
theorem push_reads {P : Program} {t e : TypeId} {k : IntKind} {by8 : Nat} (hT : NumT P t e k by8) (w : World) (base ty g cap : Nat) (u : Value) (l : List Int) (x : Int) (hv : OwnN k w base e (.slice (some ⟨g, 0, none⟩) l.length cap) l) (hu : NumsAt k w u [x])
    (hlen : (l.length + 1) * by8 ≤ 140737488355328) (hlen2 : l.length + 1 ≤ 140737488355328) :
    ∃ v' w', (Builtin.append_ #[t, t] ty #[.slice (some ⟨g, 0, none⟩) l.length cap, u]).run P w = .ok v' w' ∧ OwnN k w' base e v' (l ++ [x]) ∧ w.grownBy w' (some g) ∧ ∀ j, j < l.length → w'.cell? ⟨g, j, none⟩ = some (.int k (l.getD j 0)) := by
  have hg := hv.lt (g := g) rfl
  obtain ⟨v', w', hr, ⟨rfl, h1, h2⟩ | ⟨h1, h2⟩⟩ := run_push hT w base ty g cap u l x hv hu hlen hlen2
  · refine ⟨_, w', hr, h1, h2, fun j hj => ?_⟩
    obtain ⟨b, off, e, hcell⟩ := h1.nums.cellAt j (by simp; omega)
    cases e
    rw [Nat.zero_add] at hcell
    rw [hcell]
    simp [List.getD_eq_getElem?_getD, List.getElem?_append, hj]
  · refine ⟨v', w', hr, h1.base (by omega), ⟨h2.os, h2.tape, h2.output, h2.size, fun k hk _ => h2.block k hk (by simp)⟩, fun j hj => ?_⟩
    have := hv.1.cellAt j (by omega)
    rw [World.cell?_of_block (h2.block g hg.2 (by simp)), this]
    simp [List.getD_eq_getElem?_getD, hj]
theorem grown_ext {w0 w w' : World} {r : Option Nat} (h : Ext w0 w) (hg : w.grownBy w' r) (hr : ∀ g, r = some g → w0.heap.size ≤ g) : Ext w0 w' :=
  ⟨hg.os.trans h.os, hg.tape.trans h.tape, hg.output.trans h.output, Nat.le_trans h.size hg.size, fun k hk => (hg.block k (Nat.lt_of_lt_of_le hk h.size) (fun e => by have := hr k e.symm; omega)).trans (h.block k hk)⟩
theorem own_some {k : IntKind} {w : World} {base : Nat} {e : TypeId} {v : Value} {l : List Int} (h : OwnN k w base e v l) (hne : 0 < l.length) : ∃ g c, v = .slice (some ⟨g, 0, none⟩) l.length c ∧ base ≤ g ∧ g < w.heap.size := by
  obtain ⟨a, c, e1, h1, h2⟩ := h.slice
  cases a with
  | none => have := (h1 rfl).1; rw [this] at hne; simp at hne
  | some z =>
    obtain ⟨g, rfl, h3, h4⟩ := h2 z rfl
    exact ⟨g, c, e1, h3, h4⟩

set_option maxHeartbeats 8000000 in
theorem refwords (bb off bc : Nat) (B : List Nat) (w : World) (hl : B.length = 64) (hv : BytesAt w (.slice (some ⟨bb, off, none⟩) 64 bc) B) :
    Calls Tryd.prog 31 #[.slice (some ⟨bb, off, none⟩) 64 bc] w fun e w' => ∃ v, e = .returned v ∧ OwnN .u32 w' w.heap.size 28 v (ci (Sha.sch B 64)) ∧ Ext w w' := by
  have hBa : Sha.AllB B := hv.1
  have HCW : Hid (∀ j, j < 64 → w.cell? ⟨bb, off + j, none⟩ = some (.int .u8 (B.getD j 0 : Nat))) := fun j hj => by
    obtain ⟨a, c, e, _, hc⟩ := hv.form
    simp only [Value.slice.injEq] at e
    obtain ⟨rfl, _, rfl⟩ := e
    obtain ⟨b', o', e, h⟩ := hc j (by omega)
    cases e; exact h
  have hbl : bb < w.heap.size := cell_lt (HCW.out 0 (by decide))
  have HBL : Hid (bb < w.heap.size ∧ Sha.AllB B) := ⟨hbl, hBa⟩
  clear hv hbl hBa hl
  go_enter Tryd.func31, Tryd.ntmps31
  go_wp2_with fail
  go_loopg [3, 4] 16 (fun g m i wr => ∃ (kk : Nat) (a2 : Option Addr) (cp : Nat), kk ≤ 16 ∧ g = 16 - kk ∧ i = .int .i64 (kk : Int) ∧ m = .slice a2 kk cp ∧ Hid (OwnN .u32 wr w.heap.size 28 (.slice a2 kk cp) (ci (Sha.sch B kk)) ∧ Ext w wr))
  case atStart => exact ⟨0, none, 0, Nat.zero_le _, rfl, rfl, rfl, OwnN.nil _ _ _ _, Ext.refl _⟩
  case round =>
    obtain ⟨kk, a2, cp, hk16, rfl, rfl, rfl, HR⟩ := hrel
    by_cases hlt : kk < 16
    · have hd : decide ((kk : Int) < 16) = true := decide_eq_true (by omega)
      go_wp2_with fail
      obtain ⟨J0, hJ0⟩ : ∃ x, x = 4 * kk := ⟨_, rfl⟩
      obtain ⟨J1, hJ1⟩ : ∃ x, x = J0 + 1 := ⟨_, rfl⟩
      obtain ⟨J2, hJ2⟩ : ∃ x, x = J0 + 2 := ⟨_, rfl⟩
      obtain ⟨J3, hJ3⟩ : ∃ x, x = J0 + 3 := ⟨_, rfl⟩
      have L0 : (J0 : Int) < 64 := by omega
      have L1 : (J1 : Int) < 64 := by omega
      have L2 : (J2 : Int) < 64 := by omega
      have L3 : (J3 : Int) < 64 := by omega
      have ej : (4 : Int) * (kk : Int) = (J0 : Int) := by omega
      have ej2 : IntKind.i64.wrap (J0 : Int) = (J0 : Int) := by rw [IntKind.wrap_i64]; omega
      have e1 : (J0 : Int) + 1 = (J1 : Int) := by omega
      have e2 : (J0 : Int) + 2 = (J2 : Int) := by omega
      have e3 : (J0 : Int) + 3 = (J3 : Int) := by omega
      have e1w : IntKind.i64.wrap (J1 : Int) = (J1 : Int) := by rw [IntKind.wrap_i64]; omega
      have e2w : IntKind.i64.wrap (J2 : Int) = (J2 : Int) := by rw [IntKind.wrap_i64]; omega
      have e3w : IntKind.i64.wrap (J3 : Int) = (J3 : Int) := by rw [IntKind.wrap_i64]; omega
      have HWD : Hid (Sha.word B kk = ((B.getD J0 0 * 256 + B.getD J1 0) * 256 + B.getD J2 0) * 256 + B.getD J3 0) := show _ = _ by rw [hJ1, hJ2, hJ3, hJ0]; rfl
      have HCJ := HCW.out
      have k0 := HCJ J0 (by omega)
      have k1 := HCJ J1 (by omega)
      have k2 := HCJ J2 (by omega)
      have k3 := HCJ J3 (by omega)
      have q0 := HBL.out.2.get J0
      have q1 := HBL.out.2.get J1
      have q2 := HBL.out.2.get J2
      have q3 := HBL.out.2.get J3
      generalize B.getD J0 0 = b0 at *
      generalize B.getD J1 0 = b1 at *
      generalize B.getD J2 0 = b2 at *
      generalize B.getD J3 0 = b3 at *
      obtain ⟨y1, hy1⟩ : ∃ x, x = b0 * 256 := ⟨_, rfl⟩
      obtain ⟨y2, hy2⟩ : ∃ x, x = y1 + b1 := ⟨_, rfl⟩
      obtain ⟨y3, hy3⟩ : ∃ x, x = y2 * 256 := ⟨_, rfl⟩
      obtain ⟨y4, hy4⟩ : ∃ x, x = y3 + b2 := ⟨_, rfl⟩
      obtain ⟨y5, hy5⟩ : ∃ x, x = y4 * 256 := ⟨_, rfl⟩
      obtain ⟨y6, hy6⟩ : ∃ x, x = y5 + b3 := ⟨_, rfl⟩
      have zw1 : IntKind.u32.wrap ((b0 : Int) * 256) = (y1 : Int) := by rw [IntKind.wrap_u32]; omega
      have zw2 : IntKind.u32.wrap ((y1 : Int) + (b1 : Int)) = (y2 : Int) := by rw [IntKind.wrap_u32]; omega
      have zw3 : IntKind.u32.wrap ((y2 : Int) * 256) = (y3 : Int) := by rw [IntKind.wrap_u32]; omega
      have zw4 : IntKind.u32.wrap ((y3 : Int) + (b2 : Int)) = (y4 : Int) := by rw [IntKind.wrap_u32]; omega
      have zw5 : IntKind.u32.wrap ((y4 : Int) * 256) = (y5 : Int) := by rw [IntKind.wrap_u32]; omega
      have zw6 : IntKind.u32.wrap ((y5 : Int) + (b3 : Int)) = (y6 : Int) := by rw [IntKind.wrap_u32]; omega
      have z1 : (b0 : Int) * 256 % 4294967296 = (y1 : Int) := by omega
      have z2 : ((y1 : Int) + (b1 : Int)) % 4294967296 = (y2 : Int) := by omega
      have z3 : (y2 : Int) * 256 % 4294967296 = (y3 : Int) := by omega
      have z4 : ((y3 : Int) + (b2 : Int)) % 4294967296 = (y4 : Int) := by omega
      have z5 : (y4 : Int) * 256 % 4294967296 = (y5 : Int) := by omega
      have z6 : ((y5 : Int) + (b3 : Int)) % 4294967296 = (y6 : Int) := by omega
      have cv0 : IntKind.u32.wrap (b0 : Int) = (b0 : Int) := by rw [IntKind.wrap_u32]; omega
      have cv1 : IntKind.u32.wrap (b1 : Int) = (b1 : Int) := by rw [IntKind.wrap_u32]; omega
      have cv2 : IntKind.u32.wrap (b2 : Int) = (b2 : Int) := by rw [IntKind.wrap_u32]; omega
      have cv3 : IntKind.u32.wrap (b3 : Int) = (b3 : Int) := by rw [IntKind.wrap_u32]; omega
      have HY6 : Hid (y6 = Sha.word B kk) := show _ = _ by rw [HWD.out]; omega
      clear hy1 hy2 hy3 hy4 hy5 hy6 hJ0 hJ1 hJ2 hJ3 HWD HCJ
      obtain ⟨v2, wz, hrun, hoz, hgz, hbz⟩ := run_append_nums numT32 (wr.drew.alloc (.cells #[.int .u32 (y6 : Int)] 28)) w.heap.size 64 (.slice a2 kk cp) (.slice (some ⟨wr.heap.size, 0, none⟩) 1 1) (ci (Sha.sch B kk)) [(y6 : Int)] ((HR.out.1.ext (Ext.drew _)).ext (Ext.alloc _ _)) (NumsAt.one wr.drew (y6 : Int) 28 wr.heap.size rfl) (by rw [ci_len, Sha.sch_len]; simp; omega) (by rw [ci_len, Sha.sch_len]; simp; omega) (by have := HR.out.2.size; simp; omega)
      obtain ⟨a3, c3, rfl, _⟩ := hoz.slice
      have hln : (ci (Sha.sch B kk) ++ [(y6 : Int)]).length = kk + 1 := by rw [List.length_append, ci_len, Sha.sch_len]; rfl
      rw [hln] at hrun hoz
      have hrun' := hrun
      have HOZ : Hid (OwnN .u32 wz w.heap.size 28 (.slice a3 (kk + 1) c3) (ci (Sha.sch B (kk + 1))) ∧ Ext w wz) := ⟨by
        rw [← ci_app, HY6.out] at hoz
        rw [Sha.sch, if_pos hlt]; exact hoz, grown_ext ((HR.out.2.trans (Ext.drew _)).trans (Ext.alloc _ _)) hgz (fun g hg => ((HR.out.1.lt hg).1))⟩
      obtain ⟨Ws, hs0, hs1, hs2⟩ : ∃ Ws : Nat → World, Ws 0 = wr.drew ∧ Ws 1 = wr.drew.alloc (.cells #[.int .u32 (y6 : Int)] 28) ∧ Ws 2 = wz := ⟨fun k => match k with | 0 => _ | 1 => _ | _ => wz, rfl, rfl, rfl⟩
      have HEW : ∀ k, k ≤ 2 → Ext w (Ws k) := fun k hk => by
        have : k = 0 ∨ k = 1 ∨ k = 2 := by omega
        rcases this with rfl | rfl | rfl
        · rw [hs0]; exact HR.out.2.trans (Ext.drew _)
        · rw [hs1]; exact (HR.out.2.trans (Ext.drew _)).trans (Ext.alloc _ _)
        · rw [hs2]; exact HOZ.out.2
      have HC0 : ∀ k, k ≤ 2 → (Ws k).cell? ⟨bb, off + J0, none⟩ = some (.int .u8 (b0 : Int)) := fun k hk => (HEW k hk).cell k0
      have HC1 : ∀ k, k ≤ 2 → (Ws k).cell? ⟨bb, off + J1, none⟩ = some (.int .u8 (b1 : Int)) := fun k hk => (HEW k hk).cell k1
      have HC2 : ∀ k, k ≤ 2 → (Ws k).cell? ⟨bb, off + J2, none⟩ = some (.int .u8 (b2 : Int)) := fun k hk => (HEW k hk).cell k2
      have HC3 : ∀ k, k ≤ 2 → (Ws k).cell? ⟨bb, off + J3, none⟩ = some (.int .u8 (b3 : Int)) := fun k hk => (HEW k hk).cell k3
      clear hoz hgz hbz k0 k1 k2 k3
      refine wp_region_stagedL (fun t => bif Nat.ble 14 t && Nat.ble t 49 then some (t - 14) else none) 99 [34, 35] Ws
        [(fun v => v = (.slice a2 kk cp)),
         (fun v => v = (.slice (some ⟨bb, off, none⟩) 64 bc)),
         (fun v => v = (.int .i64 (kk : Int))),
         (fun v => v = (.int .i64 (J0 : Int))),
         (fun v => v = (.pointer (some ⟨bb, off + J0, none⟩))),
         (fun v => v = (.int .u8 (b0 : Int))),
         (fun v => v = (.int .u32 (b0 : Int))),
         (fun v => v = (.int .u32 (y1 : Int))),
         (fun v => v = (.slice (some ⟨bb, off, none⟩) 64 bc)),
         (fun v => v = (.int .i64 (kk : Int))),
         (fun v => v = (.int .i64 (J0 : Int))),
         (fun v => v = (.int .i64 (J1 : Int))),
         (fun v => v = (.pointer (some ⟨bb, off + J1, none⟩))),
         (fun v => v = (.int .u8 (b1 : Int))),
         (fun v => v = (.int .u32 (b1 : Int))),
         (fun v => v = (.int .u32 (y2 : Int))),
         (fun v => v = (.int .u32 (y3 : Int))),
         (fun v => v = (.slice (some ⟨bb, off, none⟩) 64 bc)),
         (fun v => v = (.int .i64 (kk : Int))),
         (fun v => v = (.int .i64 (J0 : Int))),
         (fun v => v = (.int .i64 (J2 : Int))),
         (fun v => v = (.pointer (some ⟨bb, off + J2, none⟩))),
         (fun v => v = (.int .u8 (b2 : Int))),
         (fun v => v = (.int .u32 (b2 : Int))),
         (fun v => v = (.int .u32 (y4 : Int))),
         (fun v => v = (.int .u32 (y5 : Int))),
         (fun v => v = (.slice (some ⟨bb, off, none⟩) 64 bc)),
         (fun v => v = (.int .i64 (kk : Int))),
         (fun v => v = (.int .i64 (J0 : Int))),
         (fun v => v = (.int .i64 (J3 : Int))),
         (fun v => v = (.pointer (some ⟨bb, off + J3, none⟩))),
         (fun v => v = (.int .u8 (b3 : Int))),
         (fun v => v = (.int .u32 (b3 : Int))),
         (fun v => v = (.int .u32 (y6 : Int))),
         (fun v => v = (.slice (some ⟨wr.heap.size, 0, none⟩) 1 1)),
         (fun v => v = (.slice a3 (kk + 1) c3))]
        (by intro h; cases h) 49 35 3 rfl rfl rfl rfl (by kernel_rfl) (by kernel_rfl) rfl (by kernel_rfl) (by kernel_rfl) (by kernel_rfl) hs0 ?_ ?_
      · refine GoodSAll.reads rfl (fun k hk => ?_) ?_
        · intro r hx
          obtain ⟨h1, _⟩ := hx
          replace h1 : r (.tmp 3) = (.slice a2 kk cp) := h1
          exact give_move (.inl rfl) ⟨rfl, h1⟩
        refine GoodSAll.reads rfl (fun k hk => ?_) ?_
        · intro r hx
          obtain ⟨h1, _⟩ := hx
          replace h1 : r (.tmp 0) = (.slice (some ⟨bb, off, none⟩) 64 bc) := h1
          exact give_move (.inl rfl) ⟨rfl, h1⟩
        refine GoodSAll.reads rfl (fun k hk => ?_) ?_
        · intro r hx
          obtain ⟨h1, _⟩ := hx
          replace h1 : r (.tmp 4) = (.int .i64 (kk : Int)) := h1
          exact give_move (.inl rfl) ⟨rfl, h1⟩
        refine GoodSAll.reads rfl (fun k hk => ?_) ?_
        · intro r hx
          obtain ⟨h1, h2, _⟩ := hx
          replace h1 : r (.const (.int .i64 4)) = .int .i64 4 := h1
          replace h2 : r (.tmp 16) = (.int .i64 (kk : Int)) := h2
          exact give_of (by simp [execOp, h1, h2, ej, ej2, go_sem]) ⟨rfl, rfl⟩
        refine GoodSAll.reads rfl (fun k hk => ?_) ?_
        · intro r hx
          obtain ⟨h1, h2, _⟩ := hx
          replace h1 : r (.tmp 15) = (.slice (some ⟨bb, off, none⟩) 64 bc) := h1
          replace h2 : r (.tmp 17) = (.int .i64 (J0 : Int)) := h2
          exact give_of (by simp [execOp, h1, h2, L0, go_sem]) ⟨rfl, rfl⟩
        refine GoodSAll.reads rfl (fun k hk => ?_) ?_
        · intro r hx
          obtain ⟨h1, _⟩ := hx
          replace h1 : r (.tmp 18) = (.pointer (some ⟨bb, off + J0, none⟩)) := h1
          exact give_of (exec_get one5 rfl h1 (HC0 k hk)) ⟨rfl, rfl⟩
        refine GoodSAll.reads rfl (fun k hk => ?_) ?_
        · intro r hx
          obtain ⟨h1, _⟩ := hx
          replace h1 : r (.tmp 19) = (.int .u8 (b0 : Int)) := h1
          exact give_of (by simp [execOp, h1, cv0, go_sem]) ⟨rfl, rfl⟩
        refine GoodSAll.reads rfl (fun k hk => ?_) ?_
        · intro r hx
          obtain ⟨h1, h2, _⟩ := hx
          replace h1 : r (.tmp 20) = (.int .u32 (b0 : Int)) := h1
          replace h2 : r (.const (.int .u32 256)) = .int .u32 256 := h2
          exact give_of (by simp [execOp, h1, h2, z1, zw1, go_sem]) ⟨rfl, rfl⟩
        refine GoodSAll.reads rfl (fun k hk => ?_) ?_
        · intro r hx
          obtain ⟨h1, _⟩ := hx
          replace h1 : r (.tmp 0) = (.slice (some ⟨bb, off, none⟩) 64 bc) := h1
          exact give_move (.inl rfl) ⟨rfl, h1⟩
        refine GoodSAll.reads rfl (fun k hk => ?_) ?_
        · intro r hx
          obtain ⟨h1, _⟩ := hx
          replace h1 : r (.tmp 4) = (.int .i64 (kk : Int)) := h1
          exact give_move (.inl rfl) ⟨rfl, h1⟩
        refine GoodSAll.reads rfl (fun k hk => ?_) ?_
        · intro r hx
          obtain ⟨h1, h2, _⟩ := hx
          replace h1 : r (.const (.int .i64 4)) = .int .i64 4 := h1
          replace h2 : r (.tmp 23) = (.int .i64 (kk : Int)) := h2
          exact give_of (by simp [execOp, h1, h2, ej, ej2, go_sem]) ⟨rfl, rfl⟩
        refine GoodSAll.reads rfl (fun k hk => ?_) ?_
        · intro r hx
          obtain ⟨h1, h2, _⟩ := hx
          replace h1 : r (.tmp 24) = (.int .i64 (J0 : Int)) := h1
          replace h2 : r (.const (.int .i64 1)) = .int .i64 1 := h2
          exact give_of (by simp [execOp, h1, h2, e1, e1w, go_sem]) ⟨rfl, rfl⟩
        refine GoodSAll.reads rfl (fun k hk => ?_) ?_
        · intro r hx
          obtain ⟨h1, h2, _⟩ := hx
          replace h1 : r (.tmp 22) = (.slice (some ⟨bb, off, none⟩) 64 bc) := h1
          replace h2 : r (.tmp 25) = (.int .i64 (J1 : Int)) := h2
          exact give_of (by simp [execOp, h1, h2, L1, go_sem]) ⟨rfl, rfl⟩
        refine GoodSAll.reads rfl (fun k hk => ?_) ?_
        · intro r hx
          obtain ⟨h1, _⟩ := hx
          replace h1 : r (.tmp 26) = (.pointer (some ⟨bb, off + J1, none⟩)) := h1
          exact give_of (exec_get one5 rfl h1 (HC1 k hk)) ⟨rfl, rfl⟩
        refine GoodSAll.reads rfl (fun k hk => ?_) ?_
        · intro r hx
          obtain ⟨h1, _⟩ := hx
          replace h1 : r (.tmp 27) = (.int .u8 (b1 : Int)) := h1
          exact give_of (by simp [execOp, h1, cv1, go_sem]) ⟨rfl, rfl⟩
        refine GoodSAll.reads rfl (fun k hk => ?_) ?_
        · intro r hx
          obtain ⟨h1, h2, _⟩ := hx
          replace h1 : r (.tmp 21) = (.int .u32 (y1 : Int)) := h1
          replace h2 : r (.tmp 28) = (.int .u32 (b1 : Int)) := h2
          exact give_of (by simp [execOp, h1, h2, z2, zw2, go_sem]) ⟨rfl, rfl⟩
        refine GoodSAll.reads rfl (fun k hk => ?_) ?_
        · intro r hx
          obtain ⟨h1, h2, _⟩ := hx
          replace h1 : r (.tmp 29) = (.int .u32 (y2 : Int)) := h1
          replace h2 : r (.const (.int .u32 256)) = .int .u32 256 := h2
          exact give_of (by simp [execOp, h1, h2, z3, zw3, go_sem]) ⟨rfl, rfl⟩
        refine GoodSAll.reads rfl (fun k hk => ?_) ?_
        · intro r hx
          obtain ⟨h1, _⟩ := hx
          replace h1 : r (.tmp 0) = (.slice (some ⟨bb, off, none⟩) 64 bc) := h1
          exact give_move (.inl rfl) ⟨rfl, h1⟩
        refine GoodSAll.reads rfl (fun k hk => ?_) ?_
        · intro r hx
          obtain ⟨h1, _⟩ := hx
          replace h1 : r (.tmp 4) = (.int .i64 (kk : Int)) := h1
          exact give_move (.inl rfl) ⟨rfl, h1⟩
        refine GoodSAll.reads rfl (fun k hk => ?_) ?_
        · intro r hx
          obtain ⟨h1, h2, _⟩ := hx
          replace h1 : r (.const (.int .i64 4)) = .int .i64 4 := h1
          replace h2 : r (.tmp 32) = (.int .i64 (kk : Int)) := h2
          exact give_of (by simp [execOp, h1, h2, ej, ej2, go_sem]) ⟨rfl, rfl⟩
        refine GoodSAll.reads rfl (fun k hk => ?_) ?_
        · intro r hx
          obtain ⟨h1, h2, _⟩ := hx
          replace h1 : r (.tmp 33) = (.int .i64 (J0 : Int)) := h1
          replace h2 : r (.const (.int .i64 2)) = .int .i64 2 := h2
          exact give_of (by simp [execOp, h1, h2, e2, e2w, go_sem]) ⟨rfl, rfl⟩
        refine GoodSAll.reads rfl (fun k hk => ?_) ?_
        · intro r hx
          obtain ⟨h1, h2, _⟩ := hx
          replace h1 : r (.tmp 31) = (.slice (some ⟨bb, off, none⟩) 64 bc) := h1
          replace h2 : r (.tmp 34) = (.int .i64 (J2 : Int)) := h2
          exact give_of (by simp [execOp, h1, h2, L2, go_sem]) ⟨rfl, rfl⟩
        refine GoodSAll.reads rfl (fun k hk => ?_) ?_
        · intro r hx
          obtain ⟨h1, _⟩ := hx
          replace h1 : r (.tmp 35) = (.pointer (some ⟨bb, off + J2, none⟩)) := h1
          exact give_of (exec_get one5 rfl h1 (HC2 k hk)) ⟨rfl, rfl⟩
        refine GoodSAll.reads rfl (fun k hk => ?_) ?_
        · intro r hx
          obtain ⟨h1, _⟩ := hx
          replace h1 : r (.tmp 36) = (.int .u8 (b2 : Int)) := h1
          exact give_of (by simp [execOp, h1, cv2, go_sem]) ⟨rfl, rfl⟩
        refine GoodSAll.reads rfl (fun k hk => ?_) ?_
        · intro r hx
          obtain ⟨h1, h2, _⟩ := hx
          replace h1 : r (.tmp 30) = (.int .u32 (y3 : Int)) := h1
          replace h2 : r (.tmp 37) = (.int .u32 (b2 : Int)) := h2
          exact give_of (by simp [execOp, h1, h2, z4, zw4, go_sem]) ⟨rfl, rfl⟩
        refine GoodSAll.reads rfl (fun k hk => ?_) ?_
        · intro r hx
          obtain ⟨h1, h2, _⟩ := hx
          replace h1 : r (.tmp 38) = (.int .u32 (y4 : Int)) := h1
          replace h2 : r (.const (.int .u32 256)) = .int .u32 256 := h2
          exact give_of (by simp [execOp, h1, h2, z5, zw5, go_sem]) ⟨rfl, rfl⟩
        refine GoodSAll.reads rfl (fun k hk => ?_) ?_
        · intro r hx
          obtain ⟨h1, _⟩ := hx
          replace h1 : r (.tmp 0) = (.slice (some ⟨bb, off, none⟩) 64 bc) := h1
          exact give_move (.inl rfl) ⟨rfl, h1⟩
        refine GoodSAll.reads rfl (fun k hk => ?_) ?_
        · intro r hx
          obtain ⟨h1, _⟩ := hx
          replace h1 : r (.tmp 4) = (.int .i64 (kk : Int)) := h1
          exact give_move (.inl rfl) ⟨rfl, h1⟩
        refine GoodSAll.reads rfl (fun k hk => ?_) ?_
        · intro r hx
          obtain ⟨h1, h2, _⟩ := hx
          replace h1 : r (.const (.int .i64 4)) = .int .i64 4 := h1
          replace h2 : r (.tmp 41) = (.int .i64 (kk : Int)) := h2
          exact give_of (by simp [execOp, h1, h2, ej, ej2, go_sem]) ⟨rfl, rfl⟩
        refine GoodSAll.reads rfl (fun k hk => ?_) ?_
        · intro r hx
          obtain ⟨h1, h2, _⟩ := hx
          replace h1 : r (.tmp 42) = (.int .i64 (J0 : Int)) := h1
          replace h2 : r (.const (.int .i64 3)) = .int .i64 3 := h2
          exact give_of (by simp [execOp, h1, h2, e3, e3w, go_sem]) ⟨rfl, rfl⟩
        refine GoodSAll.reads rfl (fun k hk => ?_) ?_
        · intro r hx
          obtain ⟨h1, h2, _⟩ := hx
          replace h1 : r (.tmp 40) = (.slice (some ⟨bb, off, none⟩) 64 bc) := h1
          replace h2 : r (.tmp 43) = (.int .i64 (J3 : Int)) := h2
          exact give_of (by simp [execOp, h1, h2, L3, go_sem]) ⟨rfl, rfl⟩
        refine GoodSAll.reads rfl (fun k hk => ?_) ?_
        · intro r hx
          obtain ⟨h1, _⟩ := hx
          replace h1 : r (.tmp 44) = (.pointer (some ⟨bb, off + J3, none⟩)) := h1
          exact give_of (exec_get one5 rfl h1 (HC3 k hk)) ⟨rfl, rfl⟩
        refine GoodSAll.reads rfl (fun k hk => ?_) ?_
        · intro r hx
          obtain ⟨h1, _⟩ := hx
          replace h1 : r (.tmp 45) = (.int .u8 (b3 : Int)) := h1
          exact give_of (by simp [execOp, h1, cv3, go_sem]) ⟨rfl, rfl⟩
        refine GoodSAll.reads rfl (fun k hk => ?_) ?_
        · intro r hx
          obtain ⟨h1, h2, _⟩ := hx
          replace h1 : r (.tmp 39) = (.int .u32 (y5 : Int)) := h1
          replace h2 : r (.tmp 46) = (.int .u32 (b3 : Int)) := h2
          exact give_of (by simp [execOp, h1, h2, z6, zw6, go_sem]) ⟨rfl, rfl⟩
        refine GoodSAll.writes 0 rfl rfl ?_ ?_
        · intro r hx
          obtain ⟨h1, _⟩ := hx
          replace h1 : r (.tmp 47) = (.int .u32 (y6 : Int)) := h1
          exact give_of (w' := Ws 1) (by rw [hs0, hs1]; simp [execOp, h1, go_sem]) ⟨rfl, rfl⟩
        refine GoodSAll.writes 1 rfl rfl ?_ ?_
        · intro r hx
          obtain ⟨h1, h2, _⟩ := hx
          replace h1 : r (.tmp 14) = (.slice a2 kk cp) := h1
          replace h2 : r (.tmp 48) = (.slice (some ⟨wr.heap.size, 0, none⟩) 1 1) := h2
          exact give_of (v := .slice a3 (kk + 1) c3) (w' := Ws 2) (by rw [hs1, hs2]; simp only [execOp, resolve, invoke, builtin, Sem.run_bind, Sem.run_pure, Result.andThen_ok, List.map_toArray, List.map_cons, List.map_nil, h1, h2, hrun']) ⟨rfl, rfl⟩
        exact GoodSAll.nil
      · intro vs a' hold ha'
        have hv0 : vs 0 = (.slice a2 kk cp) := hold 0 (by simp)
        have hv1 : vs 1 = (.slice (some ⟨bb, off, none⟩) 64 bc) := hold 1 (by simp)
        have hv2 : vs 2 = (.int .i64 (kk : Int)) := hold 2 (by simp)
        have hv3 : vs 3 = (.int .i64 (J0 : Int)) := hold 3 (by simp)
        have hv4 : vs 4 = (.pointer (some ⟨bb, off + J0, none⟩)) := hold 4 (by simp)
        have hv5 : vs 5 = (.int .u8 (b0 : Int)) := hold 5 (by simp)
        have hv6 : vs 6 = (.int .u32 (b0 : Int)) := hold 6 (by simp)
        have hv7 : vs 7 = (.int .u32 (y1 : Int)) := hold 7 (by simp)
        have hv8 : vs 8 = (.slice (some ⟨bb, off, none⟩) 64 bc) := hold 8 (by simp)
        have hv9 : vs 9 = (.int .i64 (kk : Int)) := hold 9 (by simp)
        have hv10 : vs 10 = (.int .i64 (J0 : Int)) := hold 10 (by simp)
        have hv11 : vs 11 = (.int .i64 (J1 : Int)) := hold 11 (by simp)
        have hv12 : vs 12 = (.pointer (some ⟨bb, off + J1, none⟩)) := hold 12 (by simp)
        have hv13 : vs 13 = (.int .u8 (b1 : Int)) := hold 13 (by simp)
        have hv14 : vs 14 = (.int .u32 (b1 : Int)) := hold 14 (by simp)
        have hv15 : vs 15 = (.int .u32 (y2 : Int)) := hold 15 (by simp)
        have hv16 : vs 16 = (.int .u32 (y3 : Int)) := hold 16 (by simp)
        have hv17 : vs 17 = (.slice (some ⟨bb, off, none⟩) 64 bc) := hold 17 (by simp)
        have hv18 : vs 18 = (.int .i64 (kk : Int)) := hold 18 (by simp)
        have hv19 : vs 19 = (.int .i64 (J0 : Int)) := hold 19 (by simp)
        have hv20 : vs 20 = (.int .i64 (J2 : Int)) := hold 20 (by simp)
        have hv21 : vs 21 = (.pointer (some ⟨bb, off + J2, none⟩)) := hold 21 (by simp)
        have hv22 : vs 22 = (.int .u8 (b2 : Int)) := hold 22 (by simp)
        have hv23 : vs 23 = (.int .u32 (b2 : Int)) := hold 23 (by simp)
        have hv24 : vs 24 = (.int .u32 (y4 : Int)) := hold 24 (by simp)
        have hv25 : vs 25 = (.int .u32 (y5 : Int)) := hold 25 (by simp)
        have hv26 : vs 26 = (.slice (some ⟨bb, off, none⟩) 64 bc) := hold 26 (by simp)
        have hv27 : vs 27 = (.int .i64 (kk : Int)) := hold 27 (by simp)
        have hv28 : vs 28 = (.int .i64 (J0 : Int)) := hold 28 (by simp)
        have hv29 : vs 29 = (.int .i64 (J3 : Int)) := hold 29 (by simp)
        have hv30 : vs 30 = (.pointer (some ⟨bb, off + J3, none⟩)) := hold 30 (by simp)
        have hv31 : vs 31 = (.int .u8 (b3 : Int)) := hold 31 (by simp)
        have hv32 : vs 32 = (.int .u32 (b3 : Int)) := hold 32 (by simp)
        have hv33 : vs 33 = (.int .u32 (y6 : Int)) := hold 33 (by simp)
        have hv34 : vs 34 = (.slice (some ⟨wr.heap.size, 0, none⟩) 1 1) := hold 34 (by simp)
        have hv35 : vs 35 = (.slice a3 (kk + 1) c3) := hold 35 (by simp)
        simp only [List.dropLast_cons_cons, List.dropLast_singleton, putAll, Act.put, hv0, hv1, hv2, hv3, hv4, hv5, hv6, hv7, hv8, hv9, hv10, hv11, hv12, hv13, hv14, hv15, hv16, hv17, hv18, hv19, hv20, hv21, hv22, hv23, hv24, hv25, hv26, hv27, hv28, hv29, hv30, hv31, hv32, hv33, hv34, hv35, List.setIfInBounds_toArray, List.set_cons_succ, List.set_cons_zero] at ha'
        rw [hv35]
        subst ha'
        clear hold hv0 hv1 hv2 hv3 hv4 hv5 hv6 hv7 hv8 hv9 hv10 hv11 hv12 hv13 hv14 hv15 hv16 hv17 hv18 hv19 hv20 hv21 hv22 hv23 hv24 hv25 hv26 hv27 hv28 hv29 hv30 hv31 hv32 hv33 hv34 hv35
        rw [show Ws ([34, 35] : List Nat).length = _ from hs2]
        clear hs0 hs1 hs2 HC0 HC1 HC2 HC3 HEW hrun hrun'
        refine ‹∀ (a : Act) (w : World), Code.wp Tryd.prog _ _ a w → _› _ _ ?_
        go_wp2_with fail
        go_roundg (16 - (kk + 1))
        case measure => omega
        case rel => exact ⟨kk + 1, a3, c3, by omega, rfl, by simp, rfl, HOZ.out⟩
    · have hd : decide ((kk : Int) < 16) = false := decide_eq_false (by omega)
      obtain rfl : kk = 16 := by omega
      obtain ⟨g1, c1, e1, _⟩ := own_some HR.out.1 (by rw [ci_len, Sha.sch_len]; decide)
      rw [ci_len, Sha.sch_len] at e1
      rw [e1]
      rw [e1] at HR
      clear e1
      go_wp2_with fail
      go_loopg [3, 5] 48 (fun g m i wr => ∃ (kk g0 cp : Nat), 16 ≤ kk ∧ kk ≤ 64 ∧ g = 64 - kk ∧ i = .int .i64 (kk : Int) ∧ m = .slice (some ⟨g0, 0, none⟩) kk cp ∧ Hid (OwnN .u32 wr w.heap.size 28 (.slice (some ⟨g0, 0, none⟩) kk cp) (ci (Sha.sch B kk)) ∧ Ext w wr))
      case atStart => exact ⟨16, g1, c1, by decide, by decide, rfl, rfl, rfl, HR.out⟩
      case round =>
        obtain ⟨kk, g0, cp, hk1, hk2, rfl, rfl, rfl, HR⟩ := hrel
        by_cases hlt : kk < 64
        · have hd : decide ((kk : Int) < 64) = true := decide_eq_true (by omega)
          have HCELL : Hid (∀ j, j < kk → wr.cell? ⟨g0, j, none⟩ = some (.int .u32 (Sha.mw B j : Nat))) := fun j hj => by
            obtain ⟨b', o', e, h⟩ := HR.out.1.nums.cellAt j (by rw [ci_len, Sha.sch_len]; exact hj)
            cases e
            rw [Nat.zero_add, ci_get, Sha.sch_get B kk j hj] at h
            exact h
          obtain ⟨d16, hd16⟩ : ∃ x, x = kk - 16 := ⟨_, rfl⟩
          obtain ⟨m16, hm16⟩ : ∃ x, x = Sha.mw B d16 := ⟨_, rfl⟩
          have f16 : ((kk : Int) - 16) = (d16 : Int) := by omega
          have g16 : IntKind.i64.wrap (d16 : Int) = (d16 : Int) := by rw [IntKind.wrap_i64]; omega
          have L16 : (d16 : Int) < (kk : Int) := by omega
          have l16 : m16 < 4294967296 := by rw [hm16]; exact Sha.mw_lt HBL.out.2 _
          have c16 : wr.cell? ⟨g0, d16, none⟩ = some (.int .u32 (m16 : Int)) := by rw [hm16]; exact HCELL.out d16 (by omega)
          obtain ⟨d15, hd15⟩ : ∃ x, x = kk - 15 := ⟨_, rfl⟩
          obtain ⟨m15, hm15⟩ : ∃ x, x = Sha.mw B d15 := ⟨_, rfl⟩
          have f15 : ((kk : Int) - 15) = (d15 : Int) := by omega
          have g15 : IntKind.i64.wrap (d15 : Int) = (d15 : Int) := by rw [IntKind.wrap_i64]; omega
          have L15 : (d15 : Int) < (kk : Int) := by omega
          have l15 : m15 < 4294967296 := by rw [hm15]; exact Sha.mw_lt HBL.out.2 _
          have c15 : wr.cell? ⟨g0, d15, none⟩ = some (.int .u32 (m15 : Int)) := by rw [hm15]; exact HCELL.out d15 (by omega)
          obtain ⟨d7, hd7⟩ : ∃ x, x = kk - 7 := ⟨_, rfl⟩
          obtain ⟨m7, hm7⟩ : ∃ x, x = Sha.mw B d7 := ⟨_, rfl⟩
          have f7 : ((kk : Int) - 7) = (d7 : Int) := by omega
          have g7 : IntKind.i64.wrap (d7 : Int) = (d7 : Int) := by rw [IntKind.wrap_i64]; omega
          have L7 : (d7 : Int) < (kk : Int) := by omega
          have l7 : m7 < 4294967296 := by rw [hm7]; exact Sha.mw_lt HBL.out.2 _
          have c7 : wr.cell? ⟨g0, d7, none⟩ = some (.int .u32 (m7 : Int)) := by rw [hm7]; exact HCELL.out d7 (by omega)
          obtain ⟨d2, hd2⟩ : ∃ x, x = kk - 2 := ⟨_, rfl⟩
          obtain ⟨m2, hm2⟩ : ∃ x, x = Sha.mw B d2 := ⟨_, rfl⟩
          have f2 : ((kk : Int) - 2) = (d2 : Int) := by omega
          have g2 : IntKind.i64.wrap (d2 : Int) = (d2 : Int) := by rw [IntKind.wrap_i64]; omega
          have L2 : (d2 : Int) < (kk : Int) := by omega
          have l2 : m2 < 4294967296 := by rw [hm2]; exact Sha.mw_lt HBL.out.2 _
          have c2 : wr.cell? ⟨g0, d2, none⟩ = some (.int .u32 (m2 : Int)) := by rw [hm2]; exact HCELL.out d2 (by omega)
          obtain ⟨sa, hsa⟩ : ∃ x, x = Sha.spr m15 7 18 3 := ⟨_, rfl⟩
          obtain ⟨sb, hsb⟩ : ∃ x, x = Sha.spr m2 17 19 10 := ⟨_, rfl⟩
          have HNEW : Hid (Sha.nx m16 m15 m7 m2 = (m16 + sa + m7 + sb) % 4294967296 ∧ Sha.mw B kk = Sha.nx m16 m15 m7 m2) := ⟨by rw [hsa, hsb]; rfl, by
            have := Sha.mw_big (B := B) (i := kk) hk1
            rw [← hd16, ← hd15, ← hd7, ← hd2, ← hm16, ← hm15, ← hm7, ← hm2] at this
            exact this⟩
          have r7 := Sha.rot_lt l15 (n := 7) (by decide)
          have r18 := Sha.rot_lt l15 (n := 18) (by decide)
          have r17 := Sha.rot_lt l2 (n := 17) (by decide)
          have r19 := Sha.rot_lt l2 (n := 19) (by decide)
          have x1 := xorN (Sha.rot m15 7) (Sha.rot m15 18) r7 r18
          have x2 : bits .xor .u32 ((Sha.rot m15 7 ^^^ Sha.rot m15 18 : Nat) : Int) ((m15 : Int) / 8) = (sa : Int) := by
            rw [show (m15 : Int) / 8 = ((m15 / 8 : Nat) : Int) by simp, xorN _ _ (Sha.xor_lt r7 r18) (by omega), hsa]; rfl
          have x3 := xorN (Sha.rot m2 17) (Sha.rot m2 19) r17 r19
          have x4 : bits .xor .u32 ((Sha.rot m2 17 ^^^ Sha.rot m2 19 : Nat) : Int) ((m2 : Int) / 1024) = (sb : Int) := by
            rw [show (m2 : Int) / 1024 = ((m2 / 1024 : Nat) : Int) by simp, xorN _ _ (Sha.xor_lt r17 r19) (by omega), hsb]; rfl
          have hsal : sa < 4294967296 := by rw [hsa]; exact Sha.spr_lt l15 (by decide) (by decide)
          have hsbl : sb < 4294967296 := by rw [hsb]; exact Sha.spr_lt l2 (by decide) (by decide)
          generalize Sha.rot m15 7 ^^^ Sha.rot m15 18 = u1 at *
          generalize Sha.rot m2 17 ^^^ Sha.rot m2 19 = u2 at *
          clear hd16 hd15 hd7 hd2 hm16 hm15 hm7 hm2 hsa hsb
          go_wp2_with fail
          go_quiet (fail)
          rename_i nq
          have H5 : Hid (OwnN .u32 (wr.drewN nq) w.heap.size 28 (.slice (some ⟨g0, 0, none⟩) kk cp) (ci (Sha.sch B kk)) ∧ Ext w (wr.drewN nq)) := ⟨HR.out.1.ext (Ext.drewN _ _), HR.out.2.trans (Ext.drewN _ _)⟩
          have c16' : (wr.drewN nq).cell? ⟨g0, d16, none⟩ = some (.int .u32 (m16 : Int)) := c16
          have c7' : (wr.drewN nq).cell? ⟨g0, d7, none⟩ = some (.int .u32 (m7 : Int)) := c7
          generalize wr.drewN nq = w5 at *
          clear c16 c15 c7 c2
          go_wp2_with (first
            | (go_at_call_of 39 (Value.int .u64 7); refine (turn_7 _ _ l15).mono ?_; rintro e wx ⟨rfl, hx⟩; subst wx)
            | (go_at_call_of 39 (Value.int .u64 18); refine (turn_18 _ _ l15).mono ?_; rintro e wx ⟨rfl, hx⟩; subst wx)
            | (go_at_call_of 39 (Value.int .u64 17); refine (turn_17 _ _ l2).mono ?_; rintro e wx ⟨rfl, hx⟩; subst wx)
            | (go_at_call_of 39 (Value.int .u64 19); refine (turn_19 _ _ l2).mono ?_; rintro e wx ⟨rfl, hx⟩; subst wx))
          obtain ⟨y1, hy1⟩ : ∃ x, x = (m16 + sa) % 4294967296 := ⟨_, rfl⟩
          obtain ⟨y2, hy2⟩ : ∃ x, x = (y1 + m7) % 4294967296 := ⟨_, rfl⟩
          obtain ⟨y3, hy3⟩ : ∃ x, x = (y2 + sb) % 4294967296 := ⟨_, rfl⟩
          have z1 : ((m16 : Int) + (sa : Int)) % 4294967296 = (y1 : Int) := by omega
          have z2 : ((y1 : Int) + (m7 : Int)) % 4294967296 = (y2 : Int) := by omega
          have z3 : ((y2 : Int) + (sb : Int)) % 4294967296 = (y3 : Int) := by omega
          have zw1 : IntKind.u32.wrap ((m16 : Int) + (sa : Int)) = (y1 : Int) := by rw [IntKind.wrap_u32]; exact z1
          have zw2 : IntKind.u32.wrap ((y1 : Int) + (m7 : Int)) = (y2 : Int) := by rw [IntKind.wrap_u32]; exact z2
          have zw3 : IntKind.u32.wrap ((y2 : Int) + (sb : Int)) = (y3 : Int) := by rw [IntKind.wrap_u32]; exact z3
          have HY3 : Hid (y3 = Sha.mw B kk) := show _ = _ by rw [HNEW.out.2, HNEW.out.1]; omega
          clear hy1 hy2 hy3
          have hkl : (ci (Sha.sch B kk)).length = kk := by rw [ci_len, Sha.sch_len]
          have hown0 := (H5.out.1.ext (Ext.drew _)).ext (Ext.alloc w5.drew (.cells #[.int .u32 (y3 : Int)] 28))
          obtain ⟨v2, wz, hrun, hoz, hgz, hrz⟩ := push_reads numT32 (w5.drew.alloc (.cells #[.int .u32 (y3 : Int)] 28)) w.heap.size 64 g0 cp (.slice (some ⟨w5.heap.size, 0, none⟩) 1 1) (ci (Sha.sch B kk)) (y3 : Int) (by rw [hkl]; exact hown0) (NumsAt.one w5.drew (y3 : Int) 28 w5.heap.size rfl) (by rw [hkl]; omega) (by rw [hkl]; omega)
          obtain ⟨a3, c3, rfl, _⟩ := hoz.slice
          have hln : (ci (Sha.sch B kk) ++ [(y3 : Int)]).length = kk + 1 := by rw [List.length_append, hkl]; rfl
          rw [hln] at hrun hoz
          rw [hkl] at hrun hrz
          have hrun' := hrun
          have HOZ : Hid (OwnN .u32 wz w.heap.size 28 (.slice a3 (kk + 1) c3) (ci (Sha.sch B (kk + 1))) ∧ Ext w wz) := ⟨by
            rw [← ci_app, HY3.out, Sha.mw_nxt hk1] at hoz
            rw [Sha.sch, if_neg (by omega)]; exact hoz, grown_ext ((H5.out.2.trans (Ext.drew _)).trans (Ext.alloc _ _)) hgz (fun g hg => by cases hg; exact (hown0.lt (g := g0) rfl).1)⟩
          obtain ⟨Ws, hs0, hs1, hs2⟩ : ∃ Ws : Nat → World, Ws 0 = w5.drew ∧ Ws 1 = w5.drew.alloc (.cells #[.int .u32 (y3 : Int)] 28) ∧ Ws 2 = wz := ⟨fun k => match k with | 0 => _ | 1 => _ | _ => wz, rfl, rfl, rfl⟩
          have HCC : ∀ (j mm : Nat), (j : Int) < (kk : Int) → w5.cell? ⟨g0, j, none⟩ = some (.int .u32 (mm : Int)) → ∀ k, k ≤ 2 → (Ws k).cell? ⟨g0, j, none⟩ = some (.int .u32 (mm : Int)) := fun j mm hj hc k hk => by
            have : k = 0 ∨ k = 1 ∨ k = 2 := by omega
            have h1 := ((Ext.drew w5).trans (Ext.alloc w5.drew (.cells #[.int .u32 (y3 : Int)] 28))).cell hc
            rcases this with rfl | rfl | rfl
            · rw [hs0]; exact (Ext.drew w5).cell hc
            · rw [hs1]; exact h1
            · rw [hs2, hrz j (by omega)]
              obtain ⟨b', o', e, h⟩ := hown0.nums.cellAt j (by rw [hkl]; omega)
              cases e
              rw [Nat.zero_add, h1] at h
              exact h.symm
          have HC16 := HCC d16 m16 L16 c16'
          have HC7 := HCC d7 m7 L7 c7'
          clear hoz hgz hrz hown0 HCC
          refine wp_region_stagedL (fun t => bif Nat.ble 80 t && Nat.ble t 97 then some (t - 80) else none) 99 [16, 17] Ws
            [(fun v => v = (.slice (some ⟨g0, 0, none⟩) kk cp)),
             (fun v => v = (.slice (some ⟨g0, 0, none⟩) kk cp)),
             (fun v => v = (.int .i64 (kk : Int))),
             (fun v => v = (.int .i64 (d16 : Int))),
             (fun v => v = (.pointer (some ⟨g0, d16, none⟩))),
             (fun v => v = (.int .u32 (m16 : Int))),
             (fun v => v = ((.int .u32 (sa : Int)))),
             (fun v => v = (.int .u32 (y1 : Int))),
             (fun v => v = (.slice (some ⟨g0, 0, none⟩) kk cp)),
             (fun v => v = (.int .i64 (kk : Int))),
             (fun v => v = (.int .i64 (d7 : Int))),
             (fun v => v = (.pointer (some ⟨g0, d7, none⟩))),
             (fun v => v = (.int .u32 (m7 : Int))),
             (fun v => v = (.int .u32 (y2 : Int))),
             (fun v => v = ((.int .u32 (sb : Int)))),
             (fun v => v = (.int .u32 (y3 : Int))),
             (fun v => v = (.slice (some ⟨w5.heap.size, 0, none⟩) 1 1)),
             (fun v => v = (.slice a3 (kk + 1) c3))]
            (by intro h; cases h) 97 17 3 rfl rfl rfl rfl (by kernel_rfl) (by kernel_rfl) rfl (by kernel_rfl) (by kernel_rfl) (by kernel_rfl) hs0 ?_ ?_
          · refine GoodSAll.reads rfl (fun k hk => ?_) ?_
            · intro r hx
              obtain ⟨h1, _⟩ := hx
              replace h1 : r (.tmp 3) = (.slice (some ⟨g0, 0, none⟩) kk cp) := h1
              exact give_move (.inl rfl) ⟨rfl, h1⟩
            refine GoodSAll.reads rfl (fun k hk => ?_) ?_
            · intro r hx
              obtain ⟨h1, _⟩ := hx
              replace h1 : r (.tmp 3) = (.slice (some ⟨g0, 0, none⟩) kk cp) := h1
              exact give_move (.inl rfl) ⟨rfl, h1⟩
            refine GoodSAll.reads rfl (fun k hk => ?_) ?_
            · intro r hx
              obtain ⟨h1, _⟩ := hx
              replace h1 : r (.tmp 5) = (.int .i64 (kk : Int)) := h1
              exact give_move (.inl rfl) ⟨rfl, h1⟩
            refine GoodSAll.reads rfl (fun k hk => ?_) ?_
            · intro r hx
              obtain ⟨h1, h2, _⟩ := hx
              replace h1 : r (.tmp 82) = (.int .i64 (kk : Int)) := h1
              replace h2 : r (.const (.int .i64 16)) = .int .i64 16 := h2
              exact give_of (by simp [execOp, h1, h2, f16, g16, go_sem]) ⟨rfl, rfl⟩
            refine GoodSAll.reads rfl (fun k hk => ?_) ?_
            · intro r hx
              obtain ⟨h1, h2, _⟩ := hx
              replace h1 : r (.tmp 81) = (.slice (some ⟨g0, 0, none⟩) kk cp) := h1
              replace h2 : r (.tmp 83) = (.int .i64 (d16 : Int)) := h2
              exact give_of (by simp [execOp, h1, h2, L16, go_sem]) ⟨rfl, rfl⟩
            refine GoodSAll.reads rfl (fun k hk => ?_) ?_
            · intro r hx
              obtain ⟨h1, _⟩ := hx
              replace h1 : r (.tmp 84) = (.pointer (some ⟨g0, d16, none⟩)) := h1
              exact give_of (exec_get one36 rfl h1 (HC16 k hk)) ⟨rfl, rfl⟩
            refine GoodSAll.reads rfl (fun k hk => ?_) ?_
            · intro r hx
              obtain ⟨h1, _⟩ := hx
              replace h1 : r (.tmp 8) = ((.int .u32 (sa : Int))) := h1
              exact give_move (.inl rfl) ⟨rfl, h1⟩
            refine GoodSAll.reads rfl (fun k hk => ?_) ?_
            · intro r hx
              obtain ⟨h1, h2, _⟩ := hx
              replace h1 : r (.tmp 85) = (.int .u32 (m16 : Int)) := h1
              replace h2 : r (.tmp 86) = ((.int .u32 (sa : Int))) := h2
              exact give_of (by simp [execOp, h1, h2, z1, zw1, go_sem]) ⟨rfl, rfl⟩
            refine GoodSAll.reads rfl (fun k hk => ?_) ?_
            · intro r hx
              obtain ⟨h1, _⟩ := hx
              replace h1 : r (.tmp 3) = (.slice (some ⟨g0, 0, none⟩) kk cp) := h1
              exact give_move (.inl rfl) ⟨rfl, h1⟩
            refine GoodSAll.reads rfl (fun k hk => ?_) ?_
            · intro r hx
              obtain ⟨h1, _⟩ := hx
              replace h1 : r (.tmp 5) = (.int .i64 (kk : Int)) := h1
              exact give_move (.inl rfl) ⟨rfl, h1⟩
            refine GoodSAll.reads rfl (fun k hk => ?_) ?_
            · intro r hx
              obtain ⟨h1, h2, _⟩ := hx
              replace h1 : r (.tmp 89) = (.int .i64 (kk : Int)) := h1
              replace h2 : r (.const (.int .i64 7)) = .int .i64 7 := h2
              exact give_of (by simp [execOp, h1, h2, f7, g7, go_sem]) ⟨rfl, rfl⟩
            refine GoodSAll.reads rfl (fun k hk => ?_) ?_
            · intro r hx
              obtain ⟨h1, h2, _⟩ := hx
              replace h1 : r (.tmp 88) = (.slice (some ⟨g0, 0, none⟩) kk cp) := h1
              replace h2 : r (.tmp 90) = (.int .i64 (d7 : Int)) := h2
              exact give_of (by simp [execOp, h1, h2, L7, go_sem]) ⟨rfl, rfl⟩
            refine GoodSAll.reads rfl (fun k hk => ?_) ?_
            · intro r hx
              obtain ⟨h1, _⟩ := hx
              replace h1 : r (.tmp 91) = (.pointer (some ⟨g0, d7, none⟩)) := h1
              exact give_of (exec_get one36 rfl h1 (HC7 k hk)) ⟨rfl, rfl⟩
            refine GoodSAll.reads rfl (fun k hk => ?_) ?_
            · intro r hx
              obtain ⟨h1, h2, _⟩ := hx
              replace h1 : r (.tmp 87) = (.int .u32 (y1 : Int)) := h1
              replace h2 : r (.tmp 92) = (.int .u32 (m7 : Int)) := h2
              exact give_of (by simp [execOp, h1, h2, z2, zw2, go_sem]) ⟨rfl, rfl⟩
            refine GoodSAll.reads rfl (fun k hk => ?_) ?_
            · intro r hx
              obtain ⟨h1, _⟩ := hx
              replace h1 : r (.tmp 9) = ((.int .u32 (sb : Int))) := h1
              exact give_move (.inl rfl) ⟨rfl, h1⟩
            refine GoodSAll.reads rfl (fun k hk => ?_) ?_
            · intro r hx
              obtain ⟨h1, h2, _⟩ := hx
              replace h1 : r (.tmp 93) = (.int .u32 (y2 : Int)) := h1
              replace h2 : r (.tmp 94) = ((.int .u32 (sb : Int))) := h2
              exact give_of (by simp [execOp, h1, h2, z3, zw3, go_sem]) ⟨rfl, rfl⟩
            refine GoodSAll.writes 0 rfl rfl ?_ ?_
            · intro r hx
              obtain ⟨h1, _⟩ := hx
              replace h1 : r (.tmp 95) = (.int .u32 (y3 : Int)) := h1
              exact give_of (w' := Ws 1) (by rw [hs0, hs1]; simp [execOp, h1, go_sem]) ⟨rfl, rfl⟩
            refine GoodSAll.writes 1 rfl rfl ?_ ?_
            · intro r hx
              obtain ⟨h1, h2, _⟩ := hx
              replace h1 : r (.tmp 80) = (.slice (some ⟨g0, 0, none⟩) kk cp) := h1
              replace h2 : r (.tmp 96) = (.slice (some ⟨w5.heap.size, 0, none⟩) 1 1) := h2
              exact give_of (v := .slice a3 (kk + 1) c3) (w' := Ws 2) (by rw [hs1, hs2]; simp only [execOp, resolve, invoke, builtin, Sem.run_bind, Sem.run_pure, Result.andThen_ok, List.map_toArray, List.map_cons, List.map_nil, h1, h2, hrun']) ⟨rfl, rfl⟩
            exact GoodSAll.nil
          · intro vs a' hold ha'
            have hv0 : vs 0 = (.slice (some ⟨g0, 0, none⟩) kk cp) := hold 0 (by simp)
            have hv1 : vs 1 = (.slice (some ⟨g0, 0, none⟩) kk cp) := hold 1 (by simp)
            have hv2 : vs 2 = (.int .i64 (kk : Int)) := hold 2 (by simp)
            have hv3 : vs 3 = (.int .i64 (d16 : Int)) := hold 3 (by simp)
            have hv4 : vs 4 = (.pointer (some ⟨g0, d16, none⟩)) := hold 4 (by simp)
            have hv5 : vs 5 = (.int .u32 (m16 : Int)) := hold 5 (by simp)
            have hv6 : vs 6 = ((.int .u32 (sa : Int))) := hold 6 (by simp)
            have hv7 : vs 7 = (.int .u32 (y1 : Int)) := hold 7 (by simp)
            have hv8 : vs 8 = (.slice (some ⟨g0, 0, none⟩) kk cp) := hold 8 (by simp)
            have hv9 : vs 9 = (.int .i64 (kk : Int)) := hold 9 (by simp)
            have hv10 : vs 10 = (.int .i64 (d7 : Int)) := hold 10 (by simp)
            have hv11 : vs 11 = (.pointer (some ⟨g0, d7, none⟩)) := hold 11 (by simp)
            have hv12 : vs 12 = (.int .u32 (m7 : Int)) := hold 12 (by simp)
            have hv13 : vs 13 = (.int .u32 (y2 : Int)) := hold 13 (by simp)
            have hv14 : vs 14 = ((.int .u32 (sb : Int))) := hold 14 (by simp)
            have hv15 : vs 15 = (.int .u32 (y3 : Int)) := hold 15 (by simp)
            have hv16 : vs 16 = (.slice (some ⟨w5.heap.size, 0, none⟩) 1 1) := hold 16 (by simp)
            have hv17 : vs 17 = (.slice a3 (kk + 1) c3) := hold 17 (by simp)
            simp only [List.dropLast_cons_cons, List.dropLast_singleton, putAll, Act.put, hv0, hv1, hv2, hv3, hv4, hv5, hv6, hv7, hv8, hv9, hv10, hv11, hv12, hv13, hv14, hv15, hv16, hv17, List.setIfInBounds_toArray, List.set_cons_succ, List.set_cons_zero] at ha'
            rw [hv17]
            subst ha'
            clear hold hv0 hv1 hv2 hv3 hv4 hv5 hv6 hv7 hv8 hv9 hv10 hv11 hv12 hv13 hv14 hv15 hv16 hv17
            rw [show Ws ([16, 17] : List Nat).length = _ from hs2]
            clear hs0 hs1 hs2 HC16 HC7 hrun hrun'
            obtain ⟨g3, c4, e3, _⟩ := own_some HOZ.out.1 (by rw [ci_len, Sha.sch_len]; omega)
            rw [ci_len, Sha.sch_len] at e3
            cases e3
            simp only [Exit.inBlock, Exit.then]
            refine ‹∀ (a : Act) (w : World), Code.wp Tryd.prog _ _ a w → _› _ _ ?_
            go_wp2_with fail
            go_roundg (64 - (kk + 1))
            case measure => omega
            case rel => exact ⟨kk + 1, g3, c3, by omega, by omega, rfl, by simp, rfl, HOZ.out⟩
        · have hd : decide ((kk : Int) < 64) = false := decide_eq_false (by omega)
          obtain rfl : kk = 64 := by omega
          go_wp2
          go_ret
          exact ⟨_, rfl, HR.out⟩
end Go.Proofs.YtaklbnaaoebknaaDoor
