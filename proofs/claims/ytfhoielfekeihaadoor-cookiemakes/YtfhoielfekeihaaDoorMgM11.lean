/- Texts of the seat, one behind the other. No condition of its own. -/
import Derived.Test.YtfhoielfekeihaaDoorMgM10
import Derived.Test.YtfhoielfekeihaaDoorRows
import Derived.MakeChecks
/- The document's own words of a block: what this function answers. No condition of its own. -/
namespace Go.Proofs.YtfhoielfekeihaaDoor
open Go Go.RowKit
set_option linter.unusedVariables false
set_option linter.unusedSimpArgs false
set_option maxRecDepth 100000

theorem numT32 : NumT Tryd.prog 119 23 .u32 4 := ⟨Tryd.underlying119, Tryd.underlying23, by kernel_rfl⟩
def ci (l : List Nat) : List Int := l.map (fun x : Nat => (x : Int))
theorem ci_len (l : List Nat) : (ci l).length = l.length := by simp [ci]
theorem ci_app (l : List Nat) (x : Nat) : ci (l ++ [x]) = ci l ++ [(x : Int)] := by simp [ci]
theorem ci_get (l : List Nat) (j : Nat) : (ci l).getD j 0 = ((l.getD j 0 : Nat) : Int) := by
  simp only [ci, List.getD_eq_getElem?_getD, List.getElem?_map]
  cases l[j]? <;> rfl
/-- One number put behind: what was there still reads. -/
theorem push_reads {P : Program} {t e : TypeId} {k : IntKind} {by8 : Nat} (hT : NumT P t e k by8) (w : World) (base ty g cap : Nat) (u : Value) (l : List Int) (x : Int) (hv : OwnN k w base e (.slice (some ⟨g, 0, none⟩) l.length cap) l) (hu : NumsAt k w u [x])
    (hlen : (l.length + 1) * by8 ≤ 140737488355328) (hlen2 : l.length + 1 ≤ 140737488355328) :
    ∃ v' w', (Builtin.append_ #[t, t] ty #[.slice (some ⟨g, 0, none⟩) l.length cap, u]).run P w = .ok v' w' ∧ OwnN k w' base e v' (l ++ [x]) ∧ w.grownBy w' (some g) ∧ ∀ j, j < l.length → w'.cell? ⟨g, j, none⟩ = some (.int k (l.getD j 0)) := by
  have hg := hv.lt (g := g) rfl
  obtain ⟨v', w', hr, ⟨rfl, h1, h2⟩ | ⟨h1, h2⟩⟩ := run_push hT w base ty g cap u l x hv hu hlen hlen2
  · refine ⟨_, w', hr, h1, h2, fun j hj => ?_⟩
    obtain ⟨b, off, e, hcell⟩ := h1.nums.cellAt j (by simp; omega)
    cases e
    rw [Nat.zero_add] at hcell
    rw [hcell]
    simp [List.getD_eq_getElem?_getD, List.getElem?_append, hj]
  · refine ⟨v', w', hr, h1.base (by omega), ⟨h2.os, h2.tape, h2.output, h2.size, fun k hk _ => h2.block k hk (by simp)⟩, fun j hj => ?_⟩
    have := hv.1.cellAt j (by omega)
    rw [World.cell?_of_block (h2.block g hg.2 (by simp)), this]
    simp [List.getD_eq_getElem?_getD, hj]
theorem grown_ext {w0 w w' : World} {r : Option Nat} (h : Ext w0 w) (hg : w.grownBy w' r) (hr : ∀ g, r = some g → w0.heap.size ≤ g) : Ext w0 w' :=
  ⟨hg.os.trans h.os, hg.tape.trans h.tape, hg.output.trans h.output, Nat.le_trans h.size hg.size, fun k hk => (hg.block k (Nat.lt_of_lt_of_le hk h.size) (fun e => by have := hr k e.symm; omega)).trans (h.block k hk)⟩
theorem own_some {k : IntKind} {w : World} {base : Nat} {e : TypeId} {v : Value} {l : List Int} (h : OwnN k w base e v l) (hne : 0 < l.length) : ∃ g c, v = .slice (some ⟨g, 0, none⟩) l.length c ∧ base ≤ g ∧ g < w.heap.size := by
  obtain ⟨a, c, e1, h1, h2⟩ := h.slice
  cases a with
  | none => have := (h1 rfl).1; rw [this] at hne; simp at hne
  | some z =>
    obtain ⟨g, rfl, h3, h4⟩ := h2 z rfl
    exact ⟨g, c, e1, h3, h4⟩

set_option maxHeartbeats 8000000 in
theorem refwords (bb off bc : Nat) (B : List Nat) (w : World) (hl : B.length = 64) (hv : BytesAt w (.slice (some ⟨bb, off, none⟩) 64 bc) B) :
    Calls Tryd.prog 64 #[.slice (some ⟨bb, off, none⟩) 64 bc] w fun e w' => ∃ v, e = .returned v ∧ OwnN .u32 w' w.heap.size 23 v (ci (Sha.sch B 64)) ∧ Ext w w' := by
  have hBa : Sha.AllB B := hv.1
  have HCW : Hid (∀ j, j < 64 → w.cell? ⟨bb, off + j, none⟩ = some (.int .u8 (B.getD j 0 : Nat))) := fun j hj => by
    obtain ⟨a, c, e, _, hc⟩ := hv.form
    simp only [Value.slice.injEq] at e
    obtain ⟨rfl, _, rfl⟩ := e
    obtain ⟨b', o', e, h⟩ := hc j (by omega)
    cases e; exact h
  have hbl : bb < w.heap.size := cell_lt (HCW.out 0 (by decide))
  have HBL : Hid (bb < w.heap.size ∧ Sha.AllB B) := ⟨hbl, hBa⟩
  clear hv hbl hBa hl
  go_enter Tryd.func64, Tryd.ntmps64
  go_wp2_with fail
  go_loopg [3, 4] 16 (fun g m i wr => ∃ (kk : Nat) (a2 : Option Addr) (cp : Nat), kk ≤ 16 ∧ g = 16 - kk ∧ i = .int .i64 (kk : Int) ∧ m = .slice a2 kk cp ∧ Hid (OwnN .u32 wr w.heap.size 23 (.slice a2 kk cp) (ci (Sha.sch B kk)) ∧ Ext w wr))
  case atStart => exact ⟨0, none, 0, Nat.zero_le _, rfl, rfl, rfl, OwnN.nil _ _ _ _, Ext.refl _⟩
  case round =>
    obtain ⟨kk, a2, cp, hk16, rfl, rfl, rfl, HR⟩ := hrel
    by_cases hlt : kk < 16
    · have hd : decide ((kk : Int) < 16) = true := decide_eq_true (by omega)
      go_wp2_with fail
      obtain ⟨J0, hJ0⟩ : ∃ x, x = 4 * kk := ⟨_, rfl⟩
      obtain ⟨J1, hJ1⟩ : ∃ x, x = J0 + 1 := ⟨_, rfl⟩
      obtain ⟨J2, hJ2⟩ : ∃ x, x = J0 + 2 := ⟨_, rfl⟩
      obtain ⟨J3, hJ3⟩ : ∃ x, x = J0 + 3 := ⟨_, rfl⟩
      have L0 : (J0 : Int) < 64 := by omega
      have L1 : (J1 : Int) < 64 := by omega
      have L2 : (J2 : Int) < 64 := by omega
      have L3 : (J3 : Int) < 64 := by omega
      have ej : (4 : Int) * (kk : Int) = (J0 : Int) := by omega
      have ej2 : IntKind.i64.wrap (J0 : Int) = (J0 : Int) := by rw [IntKind.wrap_i64]; omega
      have e1 : (J0 : Int) + 1 = (J1 : Int) := by omega
      have e2 : (J0 : Int) + 2 = (J2 : Int) := by omega
      have e3 : (J0 : Int) + 3 = (J3 : Int) := by omega
      have e1w : IntKind.i64.wrap (J1 : Int) = (J1 : Int) := by rw [IntKind.wrap_i64]; omega
      have e2w : IntKind.i64.wrap (J2 : Int) = (J2 : Int) := by rw [IntKind.wrap_i64]; omega
      have e3w : IntKind.i64.wrap (J3 : Int) = (J3 : Int) := by rw [IntKind.wrap_i64]; omega
      have HWD : Hid (Sha.word B kk = ((B.getD J0 0 * 256 + B.getD J1 0) * 256 + B.getD J2 0) * 256 + B.getD J3 0) := show _ = _ by rw [hJ1, hJ2, hJ3, hJ0]; rfl
      have HCJ := HCW.out
      have k0 := HCJ J0 (by omega)
      have k1 := HCJ J1 (by omega)
      have k2 := HCJ J2 (by omega)
      have k3 := HCJ J3 (by omega)
      have q0 := HBL.out.2.get J0
      have q1 := HBL.out.2.get J1
      have q2 := HBL.out.2.get J2
      have q3 := HBL.out.2.get J3
      generalize B.getD J0 0 = b0 at *
      generalize B.getD J1 0 = b1 at *
      generalize B.getD J2 0 = b2 at *
      generalize B.getD J3 0 = b3 at *
      obtain ⟨y1, hy1⟩ : ∃ x, x = b0 * 256 := ⟨_, rfl⟩
      obtain ⟨y2, hy2⟩ : ∃ x, x = y1 + b1 := ⟨_, rfl⟩
      obtain ⟨y3, hy3⟩ : ∃ x, x = y2 * 256 := ⟨_, rfl⟩
      obtain ⟨y4, hy4⟩ : ∃ x, x = y3 + b2 := ⟨_, rfl⟩
      obtain ⟨y5, hy5⟩ : ∃ x, x = y4 * 256 := ⟨_, rfl⟩
      obtain ⟨y6, hy6⟩ : ∃ x, x = y5 + b3 := ⟨_, rfl⟩
      have zw1 : IntKind.u32.wrap ((b0 : Int) * 256) = (y1 : Int) := by rw [IntKind.wrap_u32]; omega
      have zw2 : IntKind.u32.wrap ((y1 : Int) + (b1 : Int)) = (y2 : Int) := by rw [IntKind.wrap_u32]; omega
      have zw3 : IntKind.u32.wrap ((y2 : Int) * 256) = (y3 : Int) := by rw [IntKind.wrap_u32]; omega
      have zw4 : IntKind.u32.wrap ((y3 : Int) + (b2 : Int)) = (y4 : Int) := by rw [IntKind.wrap_u32]; omega
      have zw5 : IntKind.u32.wrap ((y4 : Int) * 256) = (y5 : Int) := by rw [IntKind.wrap_u32]; omega
      have zw6 : IntKind.u32.wrap ((y5 : Int) + (b3 : Int)) = (y6 : Int) := by rw [IntKind.wrap_u32]; omega
      have z1 : (b0 : Int) * 256 % 4294967296 = (y1 : Int) := by omega
      have z2 : ((y1 : Int) + (b1 : Int)) % 4294967296 = (y2 : Int) := by omega
      have z3 : (y2 : Int) * 256 % 4294967296 = (y3 : Int) := by omega
      have z4 : ((y3 : Int) + (b2 : Int)) % 4294967296 = (y4 : Int) := by omega
      have z5 : (y4 : Int) * 256 % 4294967296 = (y5 : Int) := by omega
      have z6 : ((y5 : Int) + (b3 : Int)) % 4294967296 = (y6 : Int) := by omega
      have cv0 : IntKind.u32.wrap (b0 : Int) = (b0 : Int) := by rw [IntKind.wrap_u32]; omega
      have cv1 : IntKind.u32.wrap (b1 : Int) = (b1 : Int) := by rw [IntKind.wrap_u32]; omega
      have cv2 : IntKind.u32.wrap (b2 : Int) = (b2 : Int) := by rw [IntKind.wrap_u32]; omega
      have cv3 : IntKind.u32.wrap (b3 : Int) = (b3 : Int) := by rw [IntKind.wrap_u32]; omega
      have HY6 : Hid (y6 = Sha.word B kk) := show _ = _ by rw [HWD.out]; omega
      clear hy1 hy2 hy3 hy4 hy5 hy6 hJ0 hJ1 hJ2 hJ3 HWD HCJ
      obtain ⟨v2, wz, hrun, hoz, hgz, hbz⟩ := run_append_nums numT32 (wr.drew.alloc (.cells #[.int .u32 (y6 : Int)] 23)) w.heap.size 119 (.slice a2 kk cp) (.slice (some ⟨wr.heap.size, 0, none⟩) 1 1) (ci (Sha.sch B kk)) [(y6 : Int)] ((HR.out.1.ext (Ext.drew _)).ext (Ext.alloc _ _)) (NumsAt.one wr.drew (y6 : Int) 23 wr.heap.size rfl) (by rw [ci_len, Sha.sch_len]; simp; omega) (by rw [ci_len, Sha.sch_len]; simp; omega) (by have := HR.out.2.size; simp; omega)
      obtain ⟨a3, c3, rfl, _⟩ := hoz.slice
      have hln : (ci (Sha.sch B kk) ++ [(y6 : Int)]).length = kk + 1 := by rw [List.length_append, ci_len, Sha.sch_len]; rfl
      rw [hln] at hrun hoz
      have hrun' := hrun
      have HOZ : Hid (OwnN .u32 wz w.heap.size 23 (.slice a3 (kk + 1) c3) (ci (Sha.sch B (kk + 1))) ∧ Ext w wz) := ⟨by
        rw [← ci_app, HY6.out] at hoz
        rw [Sha.sch, if_pos hlt]; exact hoz, grown_ext ((HR.out.2.trans (Ext.drew _)).trans (Ext.alloc _ _)) hgz (fun g hg => ((HR.out.1.lt hg).1))⟩
      obtain ⟨Ws, hs0, hs1, hs2⟩ : ∃ Ws : Nat → World, Ws 0 = wr.drew ∧ Ws 1 = wr.drew.alloc (.cells #[.int .u32 (y6 : Int)] 23) ∧ Ws 2 = wz := ⟨fun k => match k with | 0 => _ | 1 => _ | _ => wz, rfl, rfl, rfl⟩
      have HEW : ∀ k, k ≤ 2 → Ext w (Ws k) := fun k hk => by
        have : k = 0 ∨ k = 1 ∨ k = 2 := by omega
        rcases this with rfl | rfl | rfl
        · rw [hs0]; exact HR.out.2.trans (Ext.drew _)
        · rw [hs1]; exact (HR.out.2.trans (Ext.drew _)).trans (Ext.alloc _ _)
        · rw [hs2]; exact HOZ.out.2
      have HC0 : ∀ k, k ≤ 2 → (Ws k).cell? ⟨bb, off + J0, none⟩ = some (.int .u8 (b0 : Int)) := fun k hk => (HEW k hk).cell k0
      have HC1 : ∀ k, k ≤ 2 → (Ws k).cell? ⟨bb, off + J1, none⟩ = some (.int .u8 (b1 : Int)) := fun k hk => (HEW k hk).cell k1
      have HC2 : ∀ k, k ≤ 2 → (Ws k).cell? ⟨bb, off + J2, none⟩ = some (.int .u8 (b2 : Int)) := fun k hk => (HEW k hk).cell k2
      have HC3 : ∀ k, k ≤ 2 → (Ws k).cell? ⟨bb, off + J3, none⟩ = some (.int .u8 (b3 : Int)) := fun k hk => (HEW k hk).cell k3
      clear hoz hgz hbz k0 k1 k2 k3
      refine wp_region_stagedL (fun t => bif Nat.ble 14 t && Nat.ble t 49 then some (t - 14) else none) 99 [34, 35] Ws
        [(fun v => v = (.slice a2 kk cp)),
         (fun v => v = (.slice (some ⟨bb, off, none⟩) 64 bc)),
         (fun v => v = (.int .i64 (kk : Int))),
         (fun v => v = (.int .i64 (J0 : Int))),
         (fun v => v = (.pointer (some ⟨bb, off + J0, none⟩))),
         (fun v => v = (.int .u8 (b0 : Int))),
         (fun v => v = (.int .u32 (b0 : Int))),
         (fun v => v = (.int .u32 (y1 : Int))),
         (fun v => v = (.slice (some ⟨bb, off, none⟩) 64 bc)),
         (fun v => v = (.int .i64 (kk : Int))),
         (fun v => v = (.int .i64 (J0 : Int))),
         (fun v => v = (.int .i64 (J1 : Int))),
         (fun v => v = (.pointer (some ⟨bb, off + J1, none⟩))),
         (fun v => v = (.int .u8 (b1 : Int))),
         (fun v => v = (.int .u32 (b1 : Int))),
         (fun v => v = (.int .u32 (y2 : Int))),
         (fun v => v = (.int .u32 (y3 : Int))),
         (fun v => v = (.slice (some ⟨bb, off, none⟩) 64 bc)),
         (fun v => v = (.int .i64 (kk : Int))),
         (fun v => v = (.int .i64 (J0 : Int))),
         (fun v => v = (.int .i64 (J2 : Int))),
         (fun v => v = (.pointer (some ⟨bb, off + J2, none⟩))),
         (fun v => v = (.int .u8 (b2 : Int))),
         (fun v => v = (.int .u32 (b2 : Int))),
         (fun v => v = (.int .u32 (y4 : Int))),
         (fun v => v = (.int .u32 (y5 : Int))),
         (fun v => v = (.slice (some ⟨bb, off, none⟩) 64 bc)),
         (fun v => v = (.int .i64 (kk : Int))),
         (fun v => v = (.int .i64 (J0 : Int))),
         (fun v => v = (.int .i64 (J3 : Int))),
         (fun v => v = (.pointer (some ⟨bb, off + J3, none⟩))),
         (fun v => v = (.int .u8 (b3 : Int))),
         (fun v => v = (.int .u32 (b3 : Int))),
         (fun v => v = (.int .u32 (y6 : Int))),
         (fun v => v = (.slice (some ⟨wr.heap.size, 0, none⟩) 1 1)),
         (fun v => v = (.slice a3 (kk + 1) c3))]
        (by intro h; cases h) 49 35 3 rfl rfl rfl rfl (by kernel_rfl) (by kernel_rfl) rfl (by kernel_rfl) (by kernel_rfl) (by kernel_rfl) hs0 ?_ ?_
      · refine GoodSAll.reads rfl (fun k hk => ?_) ?_
        · intro r hx
          obtain ⟨h1, _⟩ := hx
          replace h1 : r (.tmp 3) = (.slice a2 kk cp) := h1
          exact give_move (.inl rfl) ⟨rfl, h1⟩
        refine GoodSAll.reads rfl (fun k hk => ?_) ?_
        · intro r hx
          obtain ⟨h1, _⟩ := hx
          replace h1 : r (.tmp 0) = (.slice (some ⟨bb, off, none⟩) 64 bc) := h1
          exact give_move (.inl rfl) ⟨rfl, h1⟩
        refine GoodSAll.reads rfl (fun k hk => ?_) ?_
        · intro r hx
          obtain ⟨h1, _⟩ := hx
          replace h1 : r (.tmp 4) = (.int .i64 (kk : Int)) := h1
          exact give_move (.inl rfl) ⟨rfl, h1⟩
        refine GoodSAll.reads rfl (fun k hk => ?_) ?_
        · intro r hx
          obtain ⟨h1, h2, _⟩ := hx
          replace h1 : r (.const (.int .i64 4)) = .int .i64 4 := h1
          replace h2 : r (.tmp 16) = (.int .i64 (kk : Int)) := h2
          exact give_of (by simp [execOp, h1, h2, ej, ej2, go_sem]) ⟨rfl, rfl⟩
        refine GoodSAll.reads rfl (fun k hk => ?_) ?_
        · intro r hx
          obtain ⟨h1, h2, _⟩ := hx
          replace h1 : r (.tmp 15) = (.slice (some ⟨bb, off, none⟩) 64 bc) := h1
          replace h2 : r (.tmp 17) = (.int .i64 (J0 : Int)) := h2
          exact give_of (by simp [execOp, h1, h2, L0, go_sem]) ⟨rfl, rfl⟩
        refine GoodSAll.reads rfl (fun k hk => ?_) ?_
        · intro r hx
          obtain ⟨h1, _⟩ := hx
          replace h1 : r (.tmp 18) = (.pointer (some ⟨bb, off + J0, none⟩)) := h1
          exact give_of (exec_get one5 rfl h1 (HC0 k hk)) ⟨rfl, rfl⟩
        refine GoodSAll.reads rfl (fun k hk => ?_) ?_
        · intro r hx
          obtain ⟨h1, _⟩ := hx
          replace h1 : r (.tmp 19) = (.int .u8 (b0 : Int)) := h1
          exact give_of (by simp [execOp, h1, cv0, go_sem]) ⟨rfl, rfl⟩
        refine GoodSAll.reads rfl (fun k hk => ?_) ?_
        · intro r hx
          obtain ⟨h1, h2, _⟩ := hx
          replace h1 : r (.tmp 20) = (.int .u32 (b0 : Int)) := h1
          replace h2 : r (.const (.int .u32 256)) = .int .u32 256 := h2
          exact give_of (by simp [execOp, h1, h2, z1, zw1, go_sem]) ⟨rfl, rfl⟩
        refine GoodSAll.reads rfl (fun k hk => ?_) ?_
        · intro r hx
          obtain ⟨h1, _⟩ := hx
          replace h1 : r (.tmp 0) = (.slice (some ⟨bb, off, none⟩) 64 bc) := h1
          exact give_move (.inl rfl) ⟨rfl, h1⟩
        refine GoodSAll.reads rfl (fun k hk => ?_) ?_
        · intro r hx
          obtain ⟨h1, _⟩ := hx
          replace h1 : r (.tmp 4) = (.int .i64 (kk : Int)) := h1
          exact give_move (.inl rfl) ⟨rfl, h1⟩
        refine GoodSAll.reads rfl (fun k hk => ?_) ?_
        · intro r hx
          obtain ⟨h1, h2, _⟩ := hx
          replace h1 : r (.const (.int .i64 4)) = .int .i64 4 := h1
          replace h2 : r (.tmp 23) = (.int .i64 (kk : Int)) := h2
          exact give_of (by simp [execOp, h1, h2, ej, ej2, go_sem]) ⟨rfl, rfl⟩
        refine GoodSAll.reads rfl (fun k hk => ?_) ?_
        · intro r hx
          obtain ⟨h1, h2, _⟩ := hx
          replace h1 : r (.tmp 24) = (.int .i64 (J0 : Int)) := h1
          replace h2 : r (.const (.int .i64 1)) = .int .i64 1 := h2
          exact give_of (by simp [execOp, h1, h2, e1, e1w, go_sem]) ⟨rfl, rfl⟩
        refine GoodSAll.reads rfl (fun k hk => ?_) ?_
        · intro r hx
          obtain ⟨h1, h2, _⟩ := hx
          replace h1 : r (.tmp 22) = (.slice (some ⟨bb, off, none⟩) 64 bc) := h1
          replace h2 : r (.tmp 25) = (.int .i64 (J1 : Int)) := h2
          exact give_of (by simp [execOp, h1, h2, L1, go_sem]) ⟨rfl, rfl⟩
        refine GoodSAll.reads rfl (fun k hk => ?_) ?_
        · intro r hx
          obtain ⟨h1, _⟩ := hx
          replace h1 : r (.tmp 26) = (.pointer (some ⟨bb, off + J1, none⟩)) := h1
          exact give_of (exec_get one5 rfl h1 (HC1 k hk)) ⟨rfl, rfl⟩
        refine GoodSAll.reads rfl (fun k hk => ?_) ?_
        · intro r hx
          obtain ⟨h1, _⟩ := hx
          replace h1 : r (.tmp 27) = (.int .u8 (b1 : Int)) := h1
          exact give_of (by simp [execOp, h1, cv1, go_sem]) ⟨rfl, rfl⟩
        refine GoodSAll.reads rfl (fun k hk => ?_) ?_
        · intro r hx
          obtain ⟨h1, h2, _⟩ := hx
          replace h1 : r (.tmp 21) = (.int .u32 (y1 : Int)) := h1
          replace h2 : r (.tmp 28) = (.int .u32 (b1 : Int)) := h2
          exact give_of (by simp [execOp, h1, h2, z2, zw2, go_sem]) ⟨rfl, rfl⟩
        refine GoodSAll.reads rfl (fun k hk => ?_) ?_
        · intro r hx
          obtain ⟨h1, h2, _⟩ := hx
          replace h1 : r (.tmp 29) = (.int .u32 (y2 : Int)) := h1
          replace h2 : r (.const (.int .u32 256)) = .int .u32 256 := h2
          exact give_of (by simp [execOp, h1, h2, z3, zw3, go_sem]) ⟨rfl, rfl⟩
        refine GoodSAll.reads rfl (fun k hk => ?_) ?_
        · intro r hx
          obtain ⟨h1, _⟩ := hx
          replace h1 : r (.tmp 0) = (.slice (some ⟨bb, off, none⟩) 64 bc) := h1
          exact give_move (.inl rfl) ⟨rfl, h1⟩
        refine GoodSAll.reads rfl (fun k hk => ?_) ?_
        · intro r hx
          obtain ⟨h1, _⟩ := hx
          replace h1 : r (.tmp 4) = (.int .i64 (kk : Int)) := h1
          exact give_move (.inl rfl) ⟨rfl, h1⟩
        refine GoodSAll.reads rfl (fun k hk => ?_) ?_
        · intro r hx
          obtain ⟨h1, h2, _⟩ := hx
          replace h1 : r (.const (.int .i64 4)) = .int .i64 4 := h1
          replace h2 : r (.tmp 32) = (.int .i64 (kk : Int)) := h2
          exact give_of (by simp [execOp, h1, h2, ej, ej2, go_sem]) ⟨rfl, rfl⟩
        refine GoodSAll.reads rfl (fun k hk => ?_) ?_
        · intro r hx
          obtain ⟨h1, h2, _⟩ := hx
          replace h1 : r (.tmp 33) = (.int .i64 (J0 : Int)) := h1
          replace h2 : r (.const (.int .i64 2)) = .int .i64 2 := h2
          exact give_of (by simp [execOp, h1, h2, e2, e2w, go_sem]) ⟨rfl, rfl⟩
        refine GoodSAll.reads rfl (fun k hk => ?_) ?_
        · intro r hx
          obtain ⟨h1, h2, _⟩ := hx
          replace h1 : r (.tmp 31) = (.slice (some ⟨bb, off, none⟩) 64 bc) := h1
          replace h2 : r (.tmp 34) = (.int .i64 (J2 : Int)) := h2
          exact give_of (by simp [execOp, h1, h2, L2, go_sem]) ⟨rfl, rfl⟩
        refine GoodSAll.reads rfl (fun k hk => ?_) ?_
        · intro r hx
          obtain ⟨h1, _⟩ := hx
          replace h1 : r (.tmp 35) = (.pointer (some ⟨bb, off + J2, none⟩)) := h1
          exact give_of (exec_get one5 rfl h1 (HC2 k hk)) ⟨rfl, rfl⟩
        refine GoodSAll.reads rfl (fun k hk => ?_) ?_
        · intro r hx
          obtain ⟨h1, _⟩ := hx
          replace h1 : r (.tmp 36) = (.int .u8 (b2 : Int)) := h1
          exact give_of (by simp [execOp, h1, cv2, go_sem]) ⟨rfl, rfl⟩
        refine GoodSAll.reads rfl (fun k hk => ?_) ?_
        · intro r hx
          obtain ⟨h1, h2, _⟩ := hx
          replace h1 : r (.tmp 30) = (.int .u32 (y3 : Int)) := h1
          replace h2 : r (.tmp 37) = (.int .u32 (b2 : Int)) := h2
          exact give_of (by simp [execOp, h1, h2, z4, zw4, go_sem]) ⟨rfl, rfl⟩
        refine GoodSAll.reads rfl (fun k hk => ?_) ?_
        · intro r hx
          obtain ⟨h1, h2, _⟩ := hx
          replace h1 : r (.tmp 38) = (.int .u32 (y4 : Int)) := h1
          replace h2 : r (.const (.int .u32 256)) = .int .u32 256 := h2
          exact give_of (by simp [execOp, h1, h2, z5, zw5, go_sem]) ⟨rfl, rfl⟩
        refine GoodSAll.reads rfl (fun k hk => ?_) ?_
        · intro r hx
          obtain ⟨h1, _⟩ := hx
          replace h1 : r (.tmp 0) = (.slice (some ⟨bb, off, none⟩) 64 bc) := h1
          exact give_move (.inl rfl) ⟨rfl, h1⟩
        refine GoodSAll.reads rfl (fun k hk => ?_) ?_
        · intro r hx
          obtain ⟨h1, _⟩ := hx
          replace h1 : r (.tmp 4) = (.int .i64 (kk : Int)) := h1
          exact give_move (.inl rfl) ⟨rfl, h1⟩
        refine GoodSAll.reads rfl (fun k hk => ?_) ?_
        · intro r hx
          obtain ⟨h1, h2, _⟩ := hx
          replace h1 : r (.const (.int .i64 4)) = .int .i64 4 := h1
          replace h2 : r (.tmp 41) = (.int .i64 (kk : Int)) := h2
          exact give_of (by simp [execOp, h1, h2, ej, ej2, go_sem]) ⟨rfl, rfl⟩
        refine GoodSAll.reads rfl (fun k hk => ?_) ?_
        · intro r hx
          obtain ⟨h1, h2, _⟩ := hx
          replace h1 : r (.tmp 42) = (.int .i64 (J0 : Int)) := h1
          replace h2 : r (.const (.int .i64 3)) = .int .i64 3 := h2
          exact give_of (by simp [execOp, h1, h2, e3, e3w, go_sem]) ⟨rfl, rfl⟩
        refine GoodSAll.reads rfl (fun k hk => ?_) ?_
        · intro r hx
          obtain ⟨h1, h2, _⟩ := hx
          replace h1 : r (.tmp 40) = (.slice (some ⟨bb, off, none⟩) 64 bc) := h1
          replace h2 : r (.tmp 43) = (.int .i64 (J3 : Int)) := h2
          exact give_of (by simp [execOp, h1, h2, L3, go_sem]) ⟨rfl, rfl⟩
        refine GoodSAll.reads rfl (fun k hk => ?_) ?_
        · intro r hx
          obtain ⟨h1, _⟩ := hx
          replace h1 : r (.tmp 44) = (.pointer (some ⟨bb, off + J3, none⟩)) := h1
          exact give_of (exec_get one5 rfl h1 (HC3 k hk)) ⟨rfl, rfl⟩
        refine GoodSAll.reads rfl (fun k hk => ?_) ?_
        · intro r hx
          obtain ⟨h1, _⟩ := hx
          replace h1 : r (.tmp 45) = (.int .u8 (b3 : Int)) := h1
          exact give_of (by simp [execOp, h1, cv3, go_sem]) ⟨rfl, rfl⟩
        refine GoodSAll.reads rfl (fun k hk => ?_) ?_
        · intro r hx
          obtain ⟨h1, h2, _⟩ := hx
          replace h1 : r (.tmp 39) = (.int .u32 (y5 : Int)) := h1
          replace h2 : r (.tmp 46) = (.int .u32 (b3 : Int)) := h2
          exact give_of (by simp [execOp, h1, h2, z6, zw6, go_sem]) ⟨rfl, rfl⟩
        refine GoodSAll.writes 0 rfl rfl ?_ ?_
        · intro r hx
          obtain ⟨h1, _⟩ := hx
          replace h1 : r (.tmp 47) = (.int .u32 (y6 : Int)) := h1
          exact give_of (w' := Ws 1) (by rw [hs0, hs1]; simp [execOp, h1, go_sem]) ⟨rfl, rfl⟩
        refine GoodSAll.writes 1 rfl rfl ?_ ?_
        · intro r hx
          obtain ⟨h1, h2, _⟩ := hx
          replace h1 : r (.tmp 14) = (.slice a2 kk cp) := h1
          replace h2 : r (.tmp 48) = (.slice (some ⟨wr.heap.size, 0, none⟩) 1 1) := h2
          exact give_of (v := .slice a3 (kk + 1) c3) (w' := Ws 2) (by rw [hs1, hs2]; simp only [execOp, resolve, invoke, builtin, Sem.run_bind, Sem.run_pure, Result.andThen_ok, List.map_toArray, List.map_cons, List.map_nil, h1, h2, hrun']) ⟨rfl, rfl⟩
        exact GoodSAll.nil
      · intro vs a' hold ha'
        have hv0 : vs 0 = (.slice a2 kk cp) := hold 0 (by simp)
        have hv1 : vs 1 = (.slice (some ⟨bb, off, none⟩) 64 bc) := hold 1 (by simp)
        have hv2 : vs 2 = (.int .i64 (kk : Int)) := hold 2 (by simp)
        have hv3 : vs 3 = (.int .i64 (J0 : Int)) := hold 3 (by simp)
        have hv4 : vs 4 = (.pointer (some ⟨bb, off + J0, none⟩)) := hold 4 (by simp)
        have hv5 : vs 5 = (.int .u8 (b0 : Int)) := hold 5 (by simp)
        have hv6 : vs 6 = (.int .u32 (b0 : Int)) := hold 6 (by simp)
        have hv7 : vs 7 = (.int .u32 (y1 : Int)) := hold 7 (by simp)
        have hv8 : vs 8 = (.slice (some ⟨bb, off, none⟩) 64 bc) := hold 8 (by simp)
        have hv9 : vs 9 = (.int .i64 (kk : Int)) := hold 9 (by simp)
        have hv10 : vs 10 = (.int .i64 (J0 : Int)) := hold 10 (by simp)
        have hv11 : vs 11 = (.int .i64 (J1 : Int)) := hold 11 (by simp)
        have hv12 : vs 12 = (.pointer (some ⟨bb, off + J1, none⟩)) := hold 12 (by simp)
        have hv13 : vs 13 = (.int .u8 (b1 : Int)) := hold 13 (by simp)
        have hv14 : vs 14 = (.int .u32 (b1 : Int)) := hold 14 (by simp)
        have hv15 : vs 15 = (.int .u32 (y2 : Int)) := hold 15 (by simp)
        have hv16 : vs 16 = (.int .u32 (y3 : Int)) := hold 16 (by simp)
        have hv17 : vs 17 = (.slice (some ⟨bb, off, none⟩) 64 bc) := hold 17 (by simp)
        have hv18 : vs 18 = (.int .i64 (kk : Int)) := hold 18 (by simp)
        have hv19 : vs 19 = (.int .i64 (J0 : Int)) := hold 19 (by simp)
        have hv20 : vs 20 = (.int .i64 (J2 : Int)) := hold 20 (by simp)
        have hv21 : vs 21 = (.pointer (some ⟨bb, off + J2, none⟩)) := hold 21 (by simp)
        have hv22 : vs 22 = (.int .u8 (b2 : Int)) := hold 22 (by simp)
        have hv23 : vs 23 = (.int .u32 (b2 : Int)) := hold 23 (by simp)
        have hv24 : vs 24 = (.int .u32 (y4 : Int)) := hold 24 (by simp)
        have hv25 : vs 25 = (.int .u32 (y5 : Int)) := hold 25 (by simp)
        have hv26 : vs 26 = (.slice (some ⟨bb, off, none⟩) 64 bc) := hold 26 (by simp)
        have hv27 : vs 27 = (.int .i64 (kk : Int)) := hold 27 (by simp)
        have hv28 : vs 28 = (.int .i64 (J0 : Int)) := hold 28 (by simp)
        have hv29 : vs 29 = (.int .i64 (J3 : Int)) := hold 29 (by simp)
        have hv30 : vs 30 = (.pointer (some ⟨bb, off + J3, none⟩)) := hold 30 (by simp)
        have hv31 : vs 31 = (.int .u8 (b3 : Int)) := hold 31 (by simp)
        have hv32 : vs 32 = (.int .u32 (b3 : Int)) := hold 32 (by simp)
        have hv33 : vs 33 = (.int .u32 (y6 : Int)) := hold 33 (by simp)
        have hv34 : vs 34 = (.slice (some ⟨wr.heap.size, 0, none⟩) 1 1) := hold 34 (by simp)
        have hv35 : vs 35 = (.slice a3 (kk + 1) c3) := hold 35 (by simp)
        simp only [List.dropLast_cons_cons, List.dropLast_singleton, putAll, Act.put, hv0, hv1, hv2, hv3, hv4, hv5, hv6, hv7, hv8, hv9, hv10, hv11, hv12, hv13, hv14, hv15, hv16, hv17, hv18, hv19, hv20, hv21, hv22, hv23, hv24, hv25, hv26, hv27, hv28, hv29, hv30, hv31, hv32, hv33, hv34, hv35, List.setIfInBounds_toArray, List.set_cons_succ, List.set_cons_zero] at ha'
        rw [hv35]
        subst ha'
        clear hold hv0 hv1 hv2 hv3 hv4 hv5 hv6 hv7 hv8 hv9 hv10 hv11 hv12 hv13 hv14 hv15 hv16 hv17 hv18 hv19 hv20 hv21 hv22 hv23 hv24 hv25 hv26 hv27 hv28 hv29 hv30 hv31 hv32 hv33 hv34 hv35
        rw [show Ws ([34, 35] : List Nat).length = _ from hs2]
        clear hs0 hs1 hs2 HC0 HC1 HC2 HC3 HEW hrun hrun'
        refine ‹∀ (a : Act) (w : World), Code.wp Tryd.prog _ _ a w → _› _ _ ?_
        go_wp2_with fail
        go_roundg (16 - (kk + 1))
        case measure => omega
        case rel => exact ⟨kk + 1, a3, c3, by omega, rfl, by simp, rfl, HOZ.out⟩
    · have hd : decide ((kk : Int) < 16) = false := decide_eq_false (by omega)
      obtain rfl : kk = 16 := by omega
      obtain ⟨g1, c1, e1, _⟩ := own_some HR.out.1 (by rw [ci_len, Sha.sch_len]; decide)
      rw [ci_len, Sha.sch_len] at e1
      rw [e1]
      rw [e1] at HR
      clear e1
      go_wp2_with fail
      go_loopg [3, 5] 48 (fun g m i wr => ∃ (kk g0 cp : Nat), 16 ≤ kk ∧ kk ≤ 64 ∧ g = 64 - kk ∧ i = .int .i64 (kk : Int) ∧ m = .slice (some ⟨g0, 0, none⟩) kk cp ∧ Hid (OwnN .u32 wr w.heap.size 23 (.slice (some ⟨g0, 0, none⟩) kk cp) (ci (Sha.sch B kk)) ∧ Ext w wr))
      case atStart => exact ⟨16, g1, c1, by decide, by decide, rfl, rfl, rfl, HR.out⟩
      case round =>
        obtain ⟨kk, g0, cp, hk1, hk2, rfl, rfl, rfl, HR⟩ := hrel
        by_cases hlt : kk < 64
        · have hd : decide ((kk : Int) < 64) = true := decide_eq_true (by omega)
          have HCELL : Hid (∀ j, j < kk → wr.cell? ⟨g0, j, none⟩ = some (.int .u32 (Sha.mw B j : Nat))) := fun j hj => by
            obtain ⟨b', o', e, h⟩ := HR.out.1.nums.cellAt j (by rw [ci_len, Sha.sch_len]; exact hj)
            cases e
            rw [Nat.zero_add, ci_get, Sha.sch_get B kk j hj] at h
            exact h
          obtain ⟨d16, hd16⟩ : ∃ x, x = kk - 16 := ⟨_, rfl⟩
          obtain ⟨m16, hm16⟩ : ∃ x, x = Sha.mw B d16 := ⟨_, rfl⟩
          have f16 : ((kk : Int) - 16) = (d16 : Int) := by omega
          have g16 : IntKind.i64.wrap (d16 : Int) = (d16 : Int) := by rw [IntKind.wrap_i64]; omega
          have L16 : (d16 : Int) < (kk : Int) := by omega
          have l16 : m16 < 4294967296 := by rw [hm16]; exact Sha.mw_lt HBL.out.2 _
          have c16 : wr.cell? ⟨g0, d16, none⟩ = some (.int .u32 (m16 : Int)) := by rw [hm16]; exact HCELL.out d16 (by omega)
          obtain ⟨d15, hd15⟩ : ∃ x, x = kk - 15 := ⟨_, rfl⟩
          obtain ⟨m15, hm15⟩ : ∃ x, x = Sha.mw B d15 := ⟨_, rfl⟩
          have f15 : ((kk : Int) - 15) = (d15 : Int) := by omega
          have g15 : IntKind.i64.wrap (d15 : Int) = (d15 : Int) := by rw [IntKind.wrap_i64]; omega
          have L15 : (d15 : Int) < (kk : Int) := by omega
          have l15 : m15 < 4294967296 := by rw [hm15]; exact Sha.mw_lt HBL.out.2 _
          have c15 : wr.cell? ⟨g0, d15, none⟩ = some (.int .u32 (m15 : Int)) := by rw [hm15]; exact HCELL.out d15 (by omega)
          obtain ⟨d7, hd7⟩ : ∃ x, x = kk - 7 := ⟨_, rfl⟩
          obtain ⟨m7, hm7⟩ : ∃ x, x = Sha.mw B d7 := ⟨_, rfl⟩
          have f7 : ((kk : Int) - 7) = (d7 : Int) := by omega
          have g7 : IntKind.i64.wrap (d7 : Int) = (d7 : Int) := by rw [IntKind.wrap_i64]; omega
          have L7 : (d7 : Int) < (kk : Int) := by omega
          have l7 : m7 < 4294967296 := by rw [hm7]; exact Sha.mw_lt HBL.out.2 _
          have c7 : wr.cell? ⟨g0, d7, none⟩ = some (.int .u32 (m7 : Int)) := by rw [hm7]; exact HCELL.out d7 (by omega)
          obtain ⟨d2, hd2⟩ : ∃ x, x = kk - 2 := ⟨_, rfl⟩
          obtain ⟨m2, hm2⟩ : ∃ x, x = Sha.mw B d2 := ⟨_, rfl⟩
          have f2 : ((kk : Int) - 2) = (d2 : Int) := by omega
          have g2 : IntKind.i64.wrap (d2 : Int) = (d2 : Int) := by rw [IntKind.wrap_i64]; omega
          have L2 : (d2 : Int) < (kk : Int) := by omega
          have l2 : m2 < 4294967296 := by rw [hm2]; exact Sha.mw_lt HBL.out.2 _
          have c2 : wr.cell? ⟨g0, d2, none⟩ = some (.int .u32 (m2 : Int)) := by rw [hm2]; exact HCELL.out d2 (by omega)
          obtain ⟨sa, hsa⟩ : ∃ x, x = Sha.spr m15 7 18 3 := ⟨_, rfl⟩
          obtain ⟨sb, hsb⟩ : ∃ x, x = Sha.spr m2 17 19 10 := ⟨_, rfl⟩
          have HNEW : Hid (Sha.nx m16 m15 m7 m2 = (m16 + sa + m7 + sb) % 4294967296 ∧ Sha.mw B kk = Sha.nx m16 m15 m7 m2) := ⟨by rw [hsa, hsb]; rfl, by
            have := Sha.mw_big (B := B) (i := kk) hk1
            rw [← hd16, ← hd15, ← hd7, ← hd2, ← hm16, ← hm15, ← hm7, ← hm2] at this
            exact this⟩
          have r7 := Sha.rot_lt l15 (n := 7) (by decide)
          have r18 := Sha.rot_lt l15 (n := 18) (by decide)
          have r17 := Sha.rot_lt l2 (n := 17) (by decide)
          have r19 := Sha.rot_lt l2 (n := 19) (by decide)
          have x1 := xorN (Sha.rot m15 7) (Sha.rot m15 18) r7 r18
          have x2 : bits .xor .u32 ((Sha.rot m15 7 ^^^ Sha.rot m15 18 : Nat) : Int) ((m15 : Int) / 8) = (sa : Int) := by
            rw [show (m15 : Int) / 8 = ((m15 / 8 : Nat) : Int) by simp, xorN _ _ (Sha.xor_lt r7 r18) (by omega), hsa]; rfl
          have x3 := xorN (Sha.rot m2 17) (Sha.rot m2 19) r17 r19
          have x4 : bits .xor .u32 ((Sha.rot m2 17 ^^^ Sha.rot m2 19 : Nat) : Int) ((m2 : Int) / 1024) = (sb : Int) := by
            rw [show (m2 : Int) / 1024 = ((m2 / 1024 : Nat) : Int) by simp, xorN _ _ (Sha.xor_lt r17 r19) (by omega), hsb]; rfl
          have hsal : sa < 4294967296 := by rw [hsa]; exact Sha.spr_lt l15 (by decide) (by decide)
          have hsbl : sb < 4294967296 := by rw [hsb]; exact Sha.spr_lt l2 (by decide) (by decide)
          generalize Sha.rot m15 7 ^^^ Sha.rot m15 18 = u1 at *
          generalize Sha.rot m2 17 ^^^ Sha.rot m2 19 = u2 at *
          clear hd16 hd15 hd7 hd2 hm16 hm15 hm7 hm2 hsa hsb
          go_wp2_with fail
          go_quiet (fail)
          rename_i nq
          have H5 : Hid (OwnN .u32 (wr.drewN nq) w.heap.size 23 (.slice (some ⟨g0, 0, none⟩) kk cp) (ci (Sha.sch B kk)) ∧ Ext w (wr.drewN nq)) := ⟨HR.out.1.ext (Ext.drewN _ _), HR.out.2.trans (Ext.drewN _ _)⟩
          have c16' : (wr.drewN nq).cell? ⟨g0, d16, none⟩ = some (.int .u32 (m16 : Int)) := c16
          have c7' : (wr.drewN nq).cell? ⟨g0, d7, none⟩ = some (.int .u32 (m7 : Int)) := c7
          generalize wr.drewN nq = w5 at *
          clear c16 c15 c7 c2
          go_wp2_with (first
            | (go_at_call_of 73 (Value.int .u64 7); refine (turn_7 _ _ l15).mono ?_; rintro e wx ⟨rfl, hx⟩; subst wx)
            | (go_at_call_of 73 (Value.int .u64 18); refine (turn_18 _ _ l15).mono ?_; rintro e wx ⟨rfl, hx⟩; subst wx)
            | (go_at_call_of 73 (Value.int .u64 17); refine (turn_17 _ _ l2).mono ?_; rintro e wx ⟨rfl, hx⟩; subst wx)
            | (go_at_call_of 73 (Value.int .u64 19); refine (turn_19 _ _ l2).mono ?_; rintro e wx ⟨rfl, hx⟩; subst wx))
          obtain ⟨y1, hy1⟩ : ∃ x, x = (m16 + sa) % 4294967296 := ⟨_, rfl⟩
          obtain ⟨y2, hy2⟩ : ∃ x, x = (y1 + m7) % 4294967296 := ⟨_, rfl⟩
          obtain ⟨y3, hy3⟩ : ∃ x, x = (y2 + sb) % 4294967296 := ⟨_, rfl⟩
          have z1 : ((m16 : Int) + (sa : Int)) % 4294967296 = (y1 : Int) := by omega
          have z2 : ((y1 : Int) + (m7 : Int)) % 4294967296 = (y2 : Int) := by omega
          have z3 : ((y2 : Int) + (sb : Int)) % 4294967296 = (y3 : Int) := by omega
          have zw1 : IntKind.u32.wrap ((m16 : Int) + (sa : Int)) = (y1 : Int) := by rw [IntKind.wrap_u32]; exact z1
          have zw2 : IntKind.u32.wrap ((y1 : Int) + (m7 : Int)) = (y2 : Int) := by rw [IntKind.wrap_u32]; exact z2
          have zw3 : IntKind.u32.wrap ((y2 : Int) + (sb : Int)) = (y3 : Int) := by rw [IntKind.wrap_u32]; exact z3
          have HY3 : Hid (y3 = Sha.mw B kk) := show _ = _ by rw [HNEW.out.2, HNEW.out.1]; omega
          clear hy1 hy2 hy3
          have hkl : (ci (Sha.sch B kk)).length = kk := by rw [ci_len, Sha.sch_len]
          have hown0 := (H5.out.1.ext (Ext.drew _)).ext (Ext.alloc w5.drew (.cells #[.int .u32 (y3 : Int)] 23))
          obtain ⟨v2, wz, hrun, hoz, hgz, hrz⟩ := push_reads numT32 (w5.drew.alloc (.cells #[.int .u32 (y3 : Int)] 23)) w.heap.size 119 g0 cp (.slice (some ⟨w5.heap.size, 0, none⟩) 1 1) (ci (Sha.sch B kk)) (y3 : Int) (by rw [hkl]; exact hown0) (NumsAt.one w5.drew (y3 : Int) 23 w5.heap.size rfl) (by rw [hkl]; omega) (by rw [hkl]; omega)
          obtain ⟨a3, c3, rfl, _⟩ := hoz.slice
          have hln : (ci (Sha.sch B kk) ++ [(y3 : Int)]).length = kk + 1 := by rw [List.length_append, hkl]; rfl
          rw [hln] at hrun hoz
          rw [hkl] at hrun hrz
          have hrun' := hrun
          have HOZ : Hid (OwnN .u32 wz w.heap.size 23 (.slice a3 (kk + 1) c3) (ci (Sha.sch B (kk + 1))) ∧ Ext w wz) := ⟨by
            rw [← ci_app, HY3.out, Sha.mw_nxt hk1] at hoz
            rw [Sha.sch, if_neg (by omega)]; exact hoz, grown_ext ((H5.out.2.trans (Ext.drew _)).trans (Ext.alloc _ _)) hgz (fun g hg => by cases hg; exact (hown0.lt (g := g0) rfl).1)⟩
          obtain ⟨Ws, hs0, hs1, hs2⟩ : ∃ Ws : Nat → World, Ws 0 = w5.drew ∧ Ws 1 = w5.drew.alloc (.cells #[.int .u32 (y3 : Int)] 23) ∧ Ws 2 = wz := ⟨fun k => match k with | 0 => _ | 1 => _ | _ => wz, rfl, rfl, rfl⟩
          have HCC : ∀ (j mm : Nat), (j : Int) < (kk : Int) → w5.cell? ⟨g0, j, none⟩ = some (.int .u32 (mm : Int)) → ∀ k, k ≤ 2 → (Ws k).cell? ⟨g0, j, none⟩ = some (.int .u32 (mm : Int)) := fun j mm hj hc k hk => by
            have : k = 0 ∨ k = 1 ∨ k = 2 := by omega
            have h1 := ((Ext.drew w5).trans (Ext.alloc w5.drew (.cells #[.int .u32 (y3 : Int)] 23))).cell hc
            rcases this with rfl | rfl | rfl
            · rw [hs0]; exact (Ext.drew w5).cell hc
            · rw [hs1]; exact h1
            · rw [hs2, hrz j (by omega)]
              obtain ⟨b', o', e, h⟩ := hown0.nums.cellAt j (by rw [hkl]; omega)
              cases e
              rw [Nat.zero_add, h1] at h
              exact h.symm
          have HC16 := HCC d16 m16 L16 c16'
          have HC7 := HCC d7 m7 L7 c7'
          clear hoz hgz hrz hown0 HCC
          refine wp_region_stagedL (fun t => bif Nat.ble 80 t && Nat.ble t 97 then some (t - 80) else none) 99 [16, 17] Ws
            [(fun v => v = (.slice (some ⟨g0, 0, none⟩) kk cp)),
             (fun v => v = (.slice (some ⟨g0, 0, none⟩) kk cp)),
             (fun v => v = (.int .i64 (kk : Int))),
             (fun v => v = (.int .i64 (d16 : Int))),
             (fun v => v = (.pointer (some ⟨g0, d16, none⟩))),
             (fun v => v = (.int .u32 (m16 : Int))),
             (fun v => v = ((.int .u32 (sa : Int)))),
             (fun v => v = (.int .u32 (y1 : Int))),
             (fun v => v = (.slice (some ⟨g0, 0, none⟩) kk cp)),
             (fun v => v = (.int .i64 (kk : Int))),
             (fun v => v = (.int .i64 (d7 : Int))),
             (fun v => v = (.pointer (some ⟨g0, d7, none⟩))),
             (fun v => v = (.int .u32 (m7 : Int))),
             (fun v => v = (.int .u32 (y2 : Int))),
             (fun v => v = ((.int .u32 (sb : Int)))),
             (fun v => v = (.int .u32 (y3 : Int))),
             (fun v => v = (.slice (some ⟨w5.heap.size, 0, none⟩) 1 1)),
             (fun v => v = (.slice a3 (kk + 1) c3))]
            (by intro h; cases h) 97 17 3 rfl rfl rfl rfl (by kernel_rfl) (by kernel_rfl) rfl (by kernel_rfl) (by kernel_rfl) (by kernel_rfl) hs0 ?_ ?_
          · refine GoodSAll.reads rfl (fun k hk => ?_) ?_
            · intro r hx
              obtain ⟨h1, _⟩ := hx
              replace h1 : r (.tmp 3) = (.slice (some ⟨g0, 0, none⟩) kk cp) := h1
              exact give_move (.inl rfl) ⟨rfl, h1⟩
            refine GoodSAll.reads rfl (fun k hk => ?_) ?_
            · intro r hx
              obtain ⟨h1, _⟩ := hx
              replace h1 : r (.tmp 3) = (.slice (some ⟨g0, 0, none⟩) kk cp) := h1
              exact give_move (.inl rfl) ⟨rfl, h1⟩
            refine GoodSAll.reads rfl (fun k hk => ?_) ?_
            · intro r hx
              obtain ⟨h1, _⟩ := hx
              replace h1 : r (.tmp 5) = (.int .i64 (kk : Int)) := h1
              exact give_move (.inl rfl) ⟨rfl, h1⟩
            refine GoodSAll.reads rfl (fun k hk => ?_) ?_
            · intro r hx
              obtain ⟨h1, h2, _⟩ := hx
              replace h1 : r (.tmp 82) = (.int .i64 (kk : Int)) := h1
              replace h2 : r (.const (.int .i64 16)) = .int .i64 16 := h2
              exact give_of (by simp [execOp, h1, h2, f16, g16, go_sem]) ⟨rfl, rfl⟩
            refine GoodSAll.reads rfl (fun k hk => ?_) ?_
            · intro r hx
              obtain ⟨h1, h2, _⟩ := hx
              replace h1 : r (.tmp 81) = (.slice (some ⟨g0, 0, none⟩) kk cp) := h1
              replace h2 : r (.tmp 83) = (.int .i64 (d16 : Int)) := h2
              exact give_of (by simp [execOp, h1, h2, L16, go_sem]) ⟨rfl, rfl⟩
            refine GoodSAll.reads rfl (fun k hk => ?_) ?_
            · intro r hx
              obtain ⟨h1, _⟩ := hx
              replace h1 : r (.tmp 84) = (.pointer (some ⟨g0, d16, none⟩)) := h1
              exact give_of (exec_get one36 rfl h1 (HC16 k hk)) ⟨rfl, rfl⟩
            refine GoodSAll.reads rfl (fun k hk => ?_) ?_
            · intro r hx
              obtain ⟨h1, _⟩ := hx
              replace h1 : r (.tmp 8) = ((.int .u32 (sa : Int))) := h1
              exact give_move (.inl rfl) ⟨rfl, h1⟩
            refine GoodSAll.reads rfl (fun k hk => ?_) ?_
            · intro r hx
              obtain ⟨h1, h2, _⟩ := hx
              replace h1 : r (.tmp 85) = (.int .u32 (m16 : Int)) := h1
              replace h2 : r (.tmp 86) = ((.int .u32 (sa : Int))) := h2
              exact give_of (by simp [execOp, h1, h2, z1, zw1, go_sem]) ⟨rfl, rfl⟩
            refine GoodSAll.reads rfl (fun k hk => ?_) ?_
            · intro r hx
              obtain ⟨h1, _⟩ := hx
              replace h1 : r (.tmp 3) = (.slice (some ⟨g0, 0, none⟩) kk cp) := h1
              exact give_move (.inl rfl) ⟨rfl, h1⟩
            refine GoodSAll.reads rfl (fun k hk => ?_) ?_
            · intro r hx
              obtain ⟨h1, _⟩ := hx
              replace h1 : r (.tmp 5) = (.int .i64 (kk : Int)) := h1
              exact give_move (.inl rfl) ⟨rfl, h1⟩
            refine GoodSAll.reads rfl (fun k hk => ?_) ?_
            · intro r hx
              obtain ⟨h1, h2, _⟩ := hx
              replace h1 : r (.tmp 89) = (.int .i64 (kk : Int)) := h1
              replace h2 : r (.const (.int .i64 7)) = .int .i64 7 := h2
              exact give_of (by simp [execOp, h1, h2, f7, g7, go_sem]) ⟨rfl, rfl⟩
            refine GoodSAll.reads rfl (fun k hk => ?_) ?_
            · intro r hx
              obtain ⟨h1, h2, _⟩ := hx
              replace h1 : r (.tmp 88) = (.slice (some ⟨g0, 0, none⟩) kk cp) := h1
              replace h2 : r (.tmp 90) = (.int .i64 (d7 : Int)) := h2
              exact give_of (by simp [execOp, h1, h2, L7, go_sem]) ⟨rfl, rfl⟩
            refine GoodSAll.reads rfl (fun k hk => ?_) ?_
            · intro r hx
              obtain ⟨h1, _⟩ := hx
              replace h1 : r (.tmp 91) = (.pointer (some ⟨g0, d7, none⟩)) := h1
              exact give_of (exec_get one36 rfl h1 (HC7 k hk)) ⟨rfl, rfl⟩
            refine GoodSAll.reads rfl (fun k hk => ?_) ?_
            · intro r hx
              obtain ⟨h1, h2, _⟩ := hx
              replace h1 : r (.tmp 87) = (.int .u32 (y1 : Int)) := h1
              replace h2 : r (.tmp 92) = (.int .u32 (m7 : Int)) := h2
              exact give_of (by simp [execOp, h1, h2, z2, zw2, go_sem]) ⟨rfl, rfl⟩
            refine GoodSAll.reads rfl (fun k hk => ?_) ?_
            · intro r hx
              obtain ⟨h1, _⟩ := hx
              replace h1 : r (.tmp 9) = ((.int .u32 (sb : Int))) := h1
              exact give_move (.inl rfl) ⟨rfl, h1⟩
            refine GoodSAll.reads rfl (fun k hk => ?_) ?_
            · intro r hx
              obtain ⟨h1, h2, _⟩ := hx
              replace h1 : r (.tmp 93) = (.int .u32 (y2 : Int)) := h1
              replace h2 : r (.tmp 94) = ((.int .u32 (sb : Int))) := h2
              exact give_of (by simp [execOp, h1, h2, z3, zw3, go_sem]) ⟨rfl, rfl⟩
            refine GoodSAll.writes 0 rfl rfl ?_ ?_
            · intro r hx
              obtain ⟨h1, _⟩ := hx
              replace h1 : r (.tmp 95) = (.int .u32 (y3 : Int)) := h1
              exact give_of (w' := Ws 1) (by rw [hs0, hs1]; simp [execOp, h1, go_sem]) ⟨rfl, rfl⟩
            refine GoodSAll.writes 1 rfl rfl ?_ ?_
            · intro r hx
              obtain ⟨h1, h2, _⟩ := hx
              replace h1 : r (.tmp 80) = (.slice (some ⟨g0, 0, none⟩) kk cp) := h1
              replace h2 : r (.tmp 96) = (.slice (some ⟨w5.heap.size, 0, none⟩) 1 1) := h2
              exact give_of (v := .slice a3 (kk + 1) c3) (w' := Ws 2) (by rw [hs1, hs2]; simp only [execOp, resolve, invoke, builtin, Sem.run_bind, Sem.run_pure, Result.andThen_ok, List.map_toArray, List.map_cons, List.map_nil, h1, h2, hrun']) ⟨rfl, rfl⟩
            exact GoodSAll.nil
          · intro vs a' hold ha'
            have hv0 : vs 0 = (.slice (some ⟨g0, 0, none⟩) kk cp) := hold 0 (by simp)
            have hv1 : vs 1 = (.slice (some ⟨g0, 0, none⟩) kk cp) := hold 1 (by simp)
            have hv2 : vs 2 = (.int .i64 (kk : Int)) := hold 2 (by simp)
            have hv3 : vs 3 = (.int .i64 (d16 : Int)) := hold 3 (by simp)
            have hv4 : vs 4 = (.pointer (some ⟨g0, d16, none⟩)) := hold 4 (by simp)
            have hv5 : vs 5 = (.int .u32 (m16 : Int)) := hold 5 (by simp)
            have hv6 : vs 6 = ((.int .u32 (sa : Int))) := hold 6 (by simp)
            have hv7 : vs 7 = (.int .u32 (y1 : Int)) := hold 7 (by simp)
            have hv8 : vs 8 = (.slice (some ⟨g0, 0, none⟩) kk cp) := hold 8 (by simp)
            have hv9 : vs 9 = (.int .i64 (kk : Int)) := hold 9 (by simp)
            have hv10 : vs 10 = (.int .i64 (d7 : Int)) := hold 10 (by simp)
            have hv11 : vs 11 = (.pointer (some ⟨g0, d7, none⟩)) := hold 11 (by simp)
            have hv12 : vs 12 = (.int .u32 (m7 : Int)) := hold 12 (by simp)
            have hv13 : vs 13 = (.int .u32 (y2 : Int)) := hold 13 (by simp)
            have hv14 : vs 14 = ((.int .u32 (sb : Int))) := hold 14 (by simp)
            have hv15 : vs 15 = (.int .u32 (y3 : Int)) := hold 15 (by simp)
            have hv16 : vs 16 = (.slice (some ⟨w5.heap.size, 0, none⟩) 1 1) := hold 16 (by simp)
            have hv17 : vs 17 = (.slice a3 (kk + 1) c3) := hold 17 (by simp)
            simp only [List.dropLast_cons_cons, List.dropLast_singleton, putAll, Act.put, hv0, hv1, hv2, hv3, hv4, hv5, hv6, hv7, hv8, hv9, hv10, hv11, hv12, hv13, hv14, hv15, hv16, hv17, List.setIfInBounds_toArray, List.set_cons_succ, List.set_cons_zero] at ha'
            rw [hv17]
            subst ha'
            clear hold hv0 hv1 hv2 hv3 hv4 hv5 hv6 hv7 hv8 hv9 hv10 hv11 hv12 hv13 hv14 hv15 hv16 hv17
            rw [show Ws ([16, 17] : List Nat).length = _ from hs2]
            clear hs0 hs1 hs2 HC16 HC7 hrun hrun'
            obtain ⟨g3, c4, e3, _⟩ := own_some HOZ.out.1 (by rw [ci_len, Sha.sch_len]; omega)
            rw [ci_len, Sha.sch_len] at e3
            cases e3
            simp only [Exit.inBlock, Exit.then]
            refine ‹∀ (a : Act) (w : World), Code.wp Tryd.prog _ _ a w → _› _ _ ?_
            go_wp2_with fail
            go_roundg (64 - (kk + 1))
            case measure => omega
            case rel => exact ⟨kk + 1, g3, c3, by omega, by omega, rfl, by simp, rfl, HOZ.out⟩
        · have hd : decide ((kk : Int) < 64) = false := decide_eq_false (by omega)
          obtain rfl : kk = 64 := by omega
          go_wp2
          go_ret
          exact ⟨_, rfl, HR.out⟩
end Go.Proofs.YtfhoielfekeihaaDoor

/- The document's own filling: what this function answers. No condition of its own. -/
namespace Go.Proofs.YtfhoielfekeihaaDoor
open Go Go.RowKit
set_option linter.unusedVariables false
set_option linter.unusedSimpArgs false
set_option maxRecDepth 100000

set_option maxHeartbeats 8000000 in
theorem filled_any (v : Value) (T : List Nat) (w : World) (hv : BytesAt w v T) (hT : T.length ≤ 20000) :
    Calls Tryd.prog 63 #[v] w fun e w' => ∃ u, e = .returned u ∧ OwnB w' w.heap.size 5 u (T ++ Sha.fill T.length) ∧ Ext w w' := by
  have HV : Hid (BytesAt w v T) := hv
  obtain ⟨a, cap, rfl, _, _⟩ := hv.form
  clear hv
  rename_i y1 y2
  clear y1 y2
  obtain ⟨z, hz⟩ : ∃ z, z = Sha.nz T.length := ⟨_, rfl⟩
  have HF : Hid (Sha.fill T.length = 128 :: (List.replicate z 0 ++ Sha.be8 (8 * T.length))) := show _ = _ by rw [hz]; rfl
  have HZ : Hid (z = (119 - T.length % 64) % 64 ∧ T.length ≤ 20000) := ⟨hz, hT⟩
  obtain ⟨m, hm⟩ : ∃ m, m = 8 * T.length := ⟨_, rfl⟩
  rw [← hm] at HF
  have hm1 : (8 : Int) * (T.length : Int) = (m : Int) := by omega
  have hm2 : IntKind.u64.wrap (m : Int) = (m : Int) := by rw [IntKind.wrap_u64]; omega
  have hm3 : IntKind.i64.wrap (m : Int) = (m : Int) := by rw [IntKind.wrap_i64]; omega
  have hml : m ≤ 160000 := by omega
  clear hm hz
  go_enter Tryd.func63, Tryd.ntmps63
  go_wp2_with (first
    | (at_builtin; refine wpList_append_bytes byteT rfl _ _ rfl w.heap.size T [128] ho1 (OwnB.bytes (base := 0) (e := 5) (OwnB.made (base := 0) (e := 5) _ [128] rfl (Nat.zero_le _) rfl (by simp [maxLen]) (by simp) rfl)) (by have := HZ.out; simp; omega) ?_; intro g2 c2 w2 ho2 hb2)
    | (at_builtin; refine wpList_append_bytes byteT rfl _ _ rfl w.heap.size [] T (OwnB.made #[] [] rfl (Nat.le_refl _) rfl (by simp) (by simp) rfl) (HV.out.ext (Ext.alloc _ _)) (by have := HZ.out; simp; omega) ?_; intro g1 c1 w1 ho1' hb1; simp only [List.nil_append] at ho1' ⊢; have ho1 := ho1'.ext (Ext.alloc _ (.cells #[.int .u8 128] 5)))
  )
  have HE2 : Hid (Ext w w2) := Below.trans (Below.trans (Ext.alloc w (.cells #[] 5)) hb1) (Below.trans (Ext.of_grown (World.grownBy_alloc w1 (.cells #[.int .u8 128] 5) none) |>.mono (by have := hb1.size; simp at this; omega)) hb2)
  have HO2 : Hid (OwnB w2 w.heap.size 5 (.slice (some ⟨g2, 0, none⟩) (T ++ [128]).length c2) (T ++ [128])) := ho2
  clear ho1 ho1' ho2 hb1 hb2
  go_loopg [3] 64 (fun g s wr => ∃ (k ga len cp : Nat), k ≤ z ∧ g = 64 - k ∧ len = T.length + 1 + k ∧ s = .slice (some ⟨ga, 0, none⟩) len cp ∧ Hid (OwnB wr w.heap.size 5 (.slice (some ⟨ga, 0, none⟩) len cp) (T ++ 128 :: List.replicate k 0) ∧ Ext w wr))
  case atStart => exact ⟨0, g2, _, c2, Nat.zero_le _, rfl, by simp, rfl, by simpa using HO2.out, HE2.out⟩
  case round =>
    obtain ⟨k, ga, len, cp, hk, rfl, hlen, rfl, HR⟩ := hrel
    have HLEN : Hid (len = T.length + 1 + k ∧ k ≤ z) := ⟨hlen, hk⟩
    have hll : len ≤ 30000 := by have := HZ.out; omega
    obtain ⟨r, hr⟩ : ∃ r, r = len % 64 := ⟨_, rfl⟩
    have hrem : ((len : Int)).tmod 64 = (r : Int) := by rw [Int.tmod_eq_emod_of_nonneg (by omega)]; omega
    have HRR : Hid (r = len % 64) := hr
    clear hlen hr hk
    by_cases hlt : k < z
    · have hd : ((r : Int) != 56) = true := by
        have := HZ.out; have := HLEN.out; have := HRR.out
        rw [bne_iff_ne]; omega
      go_wp2_with (first
        | (at_builtin; refine wpList_append_bytes byteT rfl _ _ rfl w.heap.size _ [0] (HR.out.1.ext (Ext.alloc _ _)) (OwnB.bytes (base := 0) (e := 5) (OwnB.made (base := 0) (e := 5) _ [0] rfl (Nat.zero_le _) rfl (by simp [maxLen]) (by simp) rfl)) (by have := HZ.out; have := HLEN.out; simp; omega) ?_; intro g3 c3 w3 ho3 hb3))
      go_roundg (64 - (k + 1))
      case measure => have := HZ.out; omega
      case rel =>
        refine ⟨k + 1, g3, _, c3, by omega, rfl, ?_, rfl, ?_, ?_⟩
        · have := HLEN.out; first | omega | (simp; omega)
        · have e : T ++ 128 :: List.replicate (k + 1) 0 = T ++ 128 :: List.replicate k 0 ++ [0] := by rw [List.replicate_succ']; simp
          rw [e]; simpa using ho3
        · exact Below.trans (HR.out.2.trans (Ext.alloc _ _)) hb3
    · have hd : ((r : Int) != 56) = false := by
        have := HZ.out; have := HLEN.out; have := HRR.out
        rw [bne_eq_false_iff_eq]; omega
      obtain rfl : k = z := by have := HLEN.out; omega
      go_wp2_with fail
      go_loopg [3, 5] 8 (fun g s t wr => ∃ k2 : Nat, k2 ≤ 8 ∧ g = 8 - k2 ∧ t = .int .i64 (56 - 8 * (k2 : Int)) ∧ ∃ gb len cap, s = .slice (some ⟨gb, 0, none⟩) len cap ∧ Hid (OwnB wr w.heap.size 5 (.slice (some ⟨gb, 0, none⟩) len cap) (T ++ 128 :: List.replicate k 0 ++ (Sha.be8 m).take k2) ∧ Ext w wr))
      case atStart => exact ⟨0, by omega, rfl, rfl, _, _, _, rfl, by simpa using HR.out.1, HR.out.2⟩
      case round =>
        obtain ⟨k2, hk2, rfl, rfl, gb, len2, cap2, rfl, HR2⟩ := hrel
        have hcs : k2 = 0 ∨ k2 = 1 ∨ k2 = 2 ∨ k2 = 3 ∨ k2 = 4 ∨ k2 = 5 ∨ k2 = 6 ∨ k2 = 7 ∨ k2 = 8 := by omega
        rcases hcs with rfl | rfl | rfl | rfl | rfl | rfl | rfl | rfl | rfl
        · obtain ⟨b, hb⟩ : ∃ x, x = m / 72057594037927936 % 256 := ⟨_, rfl⟩
          have q1 : (m : Int) / 72057594037927936 % 256 = (b : Int) := by omega
          have q2 : IntKind.u8.wrap ((m : Int) / 72057594037927936) = (b : Int) := by rw [IntKind.wrap_u8]; exact q1
          have HT2 : Hid ((Sha.be8 m).take (0 + 1) = (Sha.be8 m).take 0 ++ [b]) := show _ = _ by rw [be8_take m 0 (by decide), hb]
          have hbl : b < 256 := by omega
          clear hb
          go_wp2_with (first
            | (at_builtin; refine wpList_append_bytes byteT rfl _ _ rfl w.heap.size _ [b] (HR2.out.1.ext (Ext.alloc _ _)) (OwnB.bytes (base := 0) (e := 5) (OwnB.made (base := 0) (e := 5) _ [b] rfl (Nat.zero_le _) rfl (by simp [maxLen]) (by simp; omega) (by simp [cellsB, q1, q2]))) (by have := HZ.out; have := HLEN.out; simp [Sha.be8]; omega) ?_; intro g4 c4 w4 ho4 hb4))
          go_roundg (8 - (0 + 1))
          case measure => omega
          case rel =>
            refine ⟨0 + 1, by omega, rfl, by simp, g4, _, c4, rfl, ?_, ?_⟩
            · rw [HT2.out, ← List.append_assoc]; simpa using ho4
            · exact Below.trans (HR2.out.2.trans (Ext.alloc _ _)) hb4
        · obtain ⟨b, hb⟩ : ∃ x, x = m / 281474976710656 % 256 := ⟨_, rfl⟩
          have q1 : (m : Int) / 281474976710656 % 256 = (b : Int) := by omega
          have q2 : IntKind.u8.wrap ((m : Int) / 281474976710656) = (b : Int) := by rw [IntKind.wrap_u8]; exact q1
          have HT2 : Hid ((Sha.be8 m).take (1 + 1) = (Sha.be8 m).take 1 ++ [b]) := show _ = _ by rw [be8_take m 1 (by decide), hb]
          have hbl : b < 256 := by omega
          clear hb
          go_wp2_with (first
            | (at_builtin; refine wpList_append_bytes byteT rfl _ _ rfl w.heap.size _ [b] (HR2.out.1.ext (Ext.alloc _ _)) (OwnB.bytes (base := 0) (e := 5) (OwnB.made (base := 0) (e := 5) _ [b] rfl (Nat.zero_le _) rfl (by simp [maxLen]) (by simp; omega) (by simp [cellsB, q1, q2]))) (by have := HZ.out; have := HLEN.out; simp [Sha.be8]; omega) ?_; intro g4 c4 w4 ho4 hb4))
          go_roundg (8 - (1 + 1))
          case measure => omega
          case rel =>
            refine ⟨1 + 1, by omega, rfl, by simp, g4, _, c4, rfl, ?_, ?_⟩
            · rw [HT2.out, ← List.append_assoc]; simpa using ho4
            · exact Below.trans (HR2.out.2.trans (Ext.alloc _ _)) hb4
        · obtain ⟨b, hb⟩ : ∃ x, x = m / 1099511627776 % 256 := ⟨_, rfl⟩
          have q1 : (m : Int) / 1099511627776 % 256 = (b : Int) := by omega
          have q2 : IntKind.u8.wrap ((m : Int) / 1099511627776) = (b : Int) := by rw [IntKind.wrap_u8]; exact q1
          have HT2 : Hid ((Sha.be8 m).take (2 + 1) = (Sha.be8 m).take 2 ++ [b]) := show _ = _ by rw [be8_take m 2 (by decide), hb]
          have hbl : b < 256 := by omega
          clear hb
          go_wp2_with (first
            | (at_builtin; refine wpList_append_bytes byteT rfl _ _ rfl w.heap.size _ [b] (HR2.out.1.ext (Ext.alloc _ _)) (OwnB.bytes (base := 0) (e := 5) (OwnB.made (base := 0) (e := 5) _ [b] rfl (Nat.zero_le _) rfl (by simp [maxLen]) (by simp; omega) (by simp [cellsB, q1, q2]))) (by have := HZ.out; have := HLEN.out; simp [Sha.be8]; omega) ?_; intro g4 c4 w4 ho4 hb4))
          go_roundg (8 - (2 + 1))
          case measure => omega
          case rel =>
            refine ⟨2 + 1, by omega, rfl, by simp, g4, _, c4, rfl, ?_, ?_⟩
            · rw [HT2.out, ← List.append_assoc]; simpa using ho4
            · exact Below.trans (HR2.out.2.trans (Ext.alloc _ _)) hb4
        · obtain ⟨b, hb⟩ : ∃ x, x = m / 4294967296 % 256 := ⟨_, rfl⟩
          have q1 : (m : Int) / 4294967296 % 256 = (b : Int) := by omega
          have q2 : IntKind.u8.wrap ((m : Int) / 4294967296) = (b : Int) := by rw [IntKind.wrap_u8]; exact q1
          have HT2 : Hid ((Sha.be8 m).take (3 + 1) = (Sha.be8 m).take 3 ++ [b]) := show _ = _ by rw [be8_take m 3 (by decide), hb]
          have hbl : b < 256 := by omega
          clear hb
          go_wp2_with (first
            | (at_builtin; refine wpList_append_bytes byteT rfl _ _ rfl w.heap.size _ [b] (HR2.out.1.ext (Ext.alloc _ _)) (OwnB.bytes (base := 0) (e := 5) (OwnB.made (base := 0) (e := 5) _ [b] rfl (Nat.zero_le _) rfl (by simp [maxLen]) (by simp; omega) (by simp [cellsB, q1, q2]))) (by have := HZ.out; have := HLEN.out; simp [Sha.be8]; omega) ?_; intro g4 c4 w4 ho4 hb4))
          go_roundg (8 - (3 + 1))
          case measure => omega
          case rel =>
            refine ⟨3 + 1, by omega, rfl, by simp, g4, _, c4, rfl, ?_, ?_⟩
            · rw [HT2.out, ← List.append_assoc]; simpa using ho4
            · exact Below.trans (HR2.out.2.trans (Ext.alloc _ _)) hb4
        · obtain ⟨b, hb⟩ : ∃ x, x = m / 16777216 % 256 := ⟨_, rfl⟩
          have q1 : (m : Int) / 16777216 % 256 = (b : Int) := by omega
          have q2 : IntKind.u8.wrap ((m : Int) / 16777216) = (b : Int) := by rw [IntKind.wrap_u8]; exact q1
          have HT2 : Hid ((Sha.be8 m).take (4 + 1) = (Sha.be8 m).take 4 ++ [b]) := show _ = _ by rw [be8_take m 4 (by decide), hb]
          have hbl : b < 256 := by omega
          clear hb
          go_wp2_with (first
            | (at_builtin; refine wpList_append_bytes byteT rfl _ _ rfl w.heap.size _ [b] (HR2.out.1.ext (Ext.alloc _ _)) (OwnB.bytes (base := 0) (e := 5) (OwnB.made (base := 0) (e := 5) _ [b] rfl (Nat.zero_le _) rfl (by simp [maxLen]) (by simp; omega) (by simp [cellsB, q1, q2]))) (by have := HZ.out; have := HLEN.out; simp [Sha.be8]; omega) ?_; intro g4 c4 w4 ho4 hb4))
          go_roundg (8 - (4 + 1))
          case measure => omega
          case rel =>
            refine ⟨4 + 1, by omega, rfl, by simp, g4, _, c4, rfl, ?_, ?_⟩
            · rw [HT2.out, ← List.append_assoc]; simpa using ho4
            · exact Below.trans (HR2.out.2.trans (Ext.alloc _ _)) hb4
        · obtain ⟨b, hb⟩ : ∃ x, x = m / 65536 % 256 := ⟨_, rfl⟩
          have q1 : (m : Int) / 65536 % 256 = (b : Int) := by omega
          have q2 : IntKind.u8.wrap ((m : Int) / 65536) = (b : Int) := by rw [IntKind.wrap_u8]; exact q1
          have HT2 : Hid ((Sha.be8 m).take (5 + 1) = (Sha.be8 m).take 5 ++ [b]) := show _ = _ by rw [be8_take m 5 (by decide), hb]
          have hbl : b < 256 := by omega
          clear hb
          go_wp2_with (first
            | (at_builtin; refine wpList_append_bytes byteT rfl _ _ rfl w.heap.size _ [b] (HR2.out.1.ext (Ext.alloc _ _)) (OwnB.bytes (base := 0) (e := 5) (OwnB.made (base := 0) (e := 5) _ [b] rfl (Nat.zero_le _) rfl (by simp [maxLen]) (by simp; omega) (by simp [cellsB, q1, q2]))) (by have := HZ.out; have := HLEN.out; simp [Sha.be8]; omega) ?_; intro g4 c4 w4 ho4 hb4))
          go_roundg (8 - (5 + 1))
          case measure => omega
          case rel =>
            refine ⟨5 + 1, by omega, rfl, by simp, g4, _, c4, rfl, ?_, ?_⟩
            · rw [HT2.out, ← List.append_assoc]; simpa using ho4
            · exact Below.trans (HR2.out.2.trans (Ext.alloc _ _)) hb4
        · obtain ⟨b, hb⟩ : ∃ x, x = m / 256 % 256 := ⟨_, rfl⟩
          have q1 : (m : Int) / 256 % 256 = (b : Int) := by omega
          have q2 : IntKind.u8.wrap ((m : Int) / 256) = (b : Int) := by rw [IntKind.wrap_u8]; exact q1
          have HT2 : Hid ((Sha.be8 m).take (6 + 1) = (Sha.be8 m).take 6 ++ [b]) := show _ = _ by rw [be8_take m 6 (by decide), hb]
          have hbl : b < 256 := by omega
          clear hb
          go_wp2_with (first
            | (at_builtin; refine wpList_append_bytes byteT rfl _ _ rfl w.heap.size _ [b] (HR2.out.1.ext (Ext.alloc _ _)) (OwnB.bytes (base := 0) (e := 5) (OwnB.made (base := 0) (e := 5) _ [b] rfl (Nat.zero_le _) rfl (by simp [maxLen]) (by simp; omega) (by simp [cellsB, q1, q2]))) (by have := HZ.out; have := HLEN.out; simp [Sha.be8]; omega) ?_; intro g4 c4 w4 ho4 hb4))
          go_roundg (8 - (6 + 1))
          case measure => omega
          case rel =>
            refine ⟨6 + 1, by omega, rfl, by simp, g4, _, c4, rfl, ?_, ?_⟩
            · rw [HT2.out, ← List.append_assoc]; simpa using ho4
            · exact Below.trans (HR2.out.2.trans (Ext.alloc _ _)) hb4
        · obtain ⟨b, hb⟩ : ∃ x, x = m / 1 % 256 := ⟨_, rfl⟩
          have q1 : (m : Int) / 1 % 256 = (b : Int) := by omega
          have q2 : IntKind.u8.wrap ((m : Int) / 1) = (b : Int) := by rw [IntKind.wrap_u8]; exact q1
          have q3 : (m : Int) % 256 = (b : Int) := by omega
          have q4 : IntKind.u8.wrap (m : Int) = (b : Int) := by rw [IntKind.wrap_u8]; exact q3
          have HT2 : Hid ((Sha.be8 m).take (7 + 1) = (Sha.be8 m).take 7 ++ [b]) := show _ = _ by rw [be8_take m 7 (by decide), hb]
          have hbl : b < 256 := by omega
          clear hb
          go_wp2_with (first
            | (at_builtin; refine wpList_append_bytes byteT rfl _ _ rfl w.heap.size _ [b] (HR2.out.1.ext (Ext.alloc _ _)) (OwnB.bytes (base := 0) (e := 5) (OwnB.made (base := 0) (e := 5) _ [b] rfl (Nat.zero_le _) rfl (by simp [maxLen]) (by simp; omega) (by simp [cellsB, q1, q2, q3, q4]))) (by have := HZ.out; have := HLEN.out; simp [Sha.be8]; omega) ?_; intro g4 c4 w4 ho4 hb4))
          go_roundg (8 - (7 + 1))
          case measure => omega
          case rel =>
            refine ⟨7 + 1, by omega, rfl, by simp, g4, _, c4, rfl, ?_, ?_⟩
            · rw [HT2.out, ← List.append_assoc]; simpa using ho4
            · exact Below.trans (HR2.out.2.trans (Ext.alloc _ _)) hb4
        · go_wp2
          go_ret
          refine ⟨_, rfl, ?_, HR2.out.2⟩
          have := HR2.out.1
          rw [List.take_of_length_le (by simp [Sha.be8])] at this
          rw [HF.out]; simpa using this
end Go.Proofs.YtfhoielfekeihaaDoor

/- The document's own digest: what this function answers. Condition: the table cube holds what the text lays. -/
namespace Go.Proofs.YtfhoielfekeihaaDoor
open Go Go.RowKit
set_option linter.unusedVariables false
set_option linter.unusedSimpArgs false
set_option maxRecDepth 100000

def Cube (w : World) : Prop := ∀ k, k < 64 → w.cell? ⟨1, k, none⟩ = some (.int .u32 (Sha.cub.getD k 0 : Nat))
theorem row24 : RowT Tryd.prog 59 32 := ⟨⟨_, Tryd.underlying59, rfl⟩, by kernel_rfl⟩
theorem zero24 : (Tryd.prog.info? 59).bind (·.zero) = some (.agg (bA (List.replicate 32 0))) := by kernel_rfl
theorem ex8 {L : List Nat} (h : L.length = 8) : ∃ h0 h1 h2 h3 h4 h5 h6 h7, L = [h0, h1, h2, h3, h4, h5, h6, h7] := ⟨_, _, _, _, _, _, _, _, Sha.list8 h⟩
theorem sliced64 (gb l c : Nat) (h : l + 64 ≤ c) : sliced (some ⟨gb, 0, none⟩) l (l + 64) c 1 = .slice (some ⟨gb, l, none⟩) 64 (c - l) := by
  unfold sliced
  rw [if_neg (by omega)]
  simp [add_plain]
theorem exec_slice2 {r : Operand → Value} {o : Oper} {x lo hi : Operand} {w : World} {gb n c l : Nat} (ho : o.op = .slice 22 x (some lo) (some hi) none) (h1 : r x = .slice (some ⟨gb, 0, none⟩) n c) (h2 : r lo = .int .i64 (l : Int)) (h3 : r hi = .int .i64 ((l : Int) + 64)) (hk : l + 64 ≤ c) :
    (execOp r o).run Tryd.prog w = .ok (.value (.slice (some ⟨gb, l, none⟩) 64 (c - l))) w := by
  have := exec_slice_lh byteT ho w (some ⟨gb, 0, none⟩) n c l (l + 64) .i64 .i64 h1 h2 (by rw [h3]; rfl) (by omega) hk
  rwa [sliced64 gb l c hk] at this
theorem OwnB.butR {S : Nat → Prop} {w w' : World} {base : Nat} {e : TypeId} {v : Value} {l : List Nat} (h : OwnB w base e v l) (hk : KeepBut S w w') (hn : ∀ g, blockOf v = some g → ¬ S g) : OwnB w' base e v l := by
  obtain ⟨h1, ⟨g, cap, rfl, hg, hlt, hle, hm⟩, h2, h3⟩ := h
  refine ⟨h1, ⟨g, cap, rfl, hg, Nat.lt_of_lt_of_le hlt hk.size, hle, hm⟩, h2, ?_⟩
  rcases h3 with ⟨h3, _⟩ | ⟨g', cap', cur, h3, h4, h5, h6⟩
  · simp at h3
  · refine .inr ⟨g', cap', cur, h3, h4, ?_, h6⟩
    simp at h3
    obtain ⟨rfl, rfl⟩ := h3
    rw [hk.block g hlt (hn g (by simp [blockOf]))]; exact h5

set_option maxHeartbeats 16000000 in
theorem refSum_any (v : Value) (T : List Nat) (w : World) (hv : BytesAt w v T) (hT : T.length ≤ 20000) (hC : Cube w) :
    Calls Tryd.prog 51 #[v] w fun e w' => e = .returned (.agg (bA (Sha.dgst T))) ∧ Ext w w' := by
  have HV : Hid (BytesAt w v T ∧ Cube w ∧ T.length ≤ 20000) := ⟨hv, hC, hT⟩
  obtain ⟨a, cap, rfl, _, _⟩ := hv.form
  clear hv hC hT
  rename_i y1 y2
  clear y1 y2
  obtain ⟨F, hF⟩ : ∃ F, F = T ++ Sha.fill T.length := ⟨_, rfl⟩
  obtain ⟨nb, hnb⟩ : ∃ nb, nb = F.length / 64 := ⟨_, rfl⟩
  have HFL : Hid (F.length = 64 * nb ∧ F.length ≤ 30000) := by
    have h1 : F.length = T.length + (1 + (Sha.nz T.length + 8)) := by rw [hF]; simp [Sha.fill, Sha.be8]; omega
    have h2 : Sha.nz T.length = (119 - T.length % 64) % 64 := rfl
    have h3 := HV.out.2.2
    exact ⟨by omega, by omega⟩
  have HDG : Hid (Sha.dgst T = Sha.dig (Sha.regs F nb)) := show _ = _ by rw [hnb, hF]; rfl
  have HD8 : Hid ((Sha.dgst T).length = 32) := dgst_len T
  have HFF : Hid (F = T ++ Sha.fill T.length) := hF
  clear hF hnb
  go_enter Tryd.func51, Tryd.ntmps51
  go_wp2_with (first
    | (refine wl_alloc rfl rfl zero24 ?_; intro w1 hb1 he1 hx; clear hx)
    | (refine wl_alloc rfl rfl zero38 ?_; intro w2 hb2 he2 hx; clear hx; refine wl_store (D := uA Sha.sqr) rfl row38 rfl rfl rfl hb2 rfl rfl (uA_one _) ?_; intro w3 hb3 hk3 hx; clear hx; have HE3 : Hid (Ext w w3) := (he1.trans he2).of_but hk3 (fun k e => by subst e; exact he1.size))
    | (go_at_call 63; refine (filled_any _ T _ (HV.out.1.ext HE3.out) HV.out.2.2).mono ?_; rintro e w4 ⟨u, rfl, ho4, he4⟩; rw [← HFF.out] at ho4; obtain ⟨hu1, ⟨gb, cb, hu2, hu3⟩, hu4⟩ := id ho4; subst hu2; have HO4 := ho4; clear hu1 hu3 hu4))
  have hn1 : w.heap.size < w1.heap.size := hb1.lt
  obtain ⟨ob, hob⟩ : ∃ x, x = w.heap.size := ⟨_, rfl⟩
  obtain ⟨hb, hhb⟩ : ∃ x, x = w1.heap.size := ⟨_, rfl⟩
  have H4 : Hid (Blk w4 hb (uA (Sha.regs F 0)) 118 ∧ OwnB w4 w3.heap.size 5 (.slice (some ⟨gb, 0, none⟩) F.length cb) F ∧ Blk w4 ob (bA (List.replicate 32 0)) 59 ∧ Ext w w4) := ⟨by rw [hhb]; exact hb3.ext he4, HO4, by rw [hob]; exact ((hb1.ext he2).but hk3 (Nat.ne_of_lt hn1)).ext he4, HE3.out.trans he4⟩
  have HNN : Hid (ob = w.heap.size ∧ w.heap.size < hb ∧ hb < w3.heap.size ∧ ob < hb ∧ F.length ≤ cb) := ⟨hob, by omega, by rw [hhb]; exact hb3.lt, by omega, HO4.cap.2.1⟩
  rw [← hob, ← hhb]
  obtain ⟨fl, hfl⟩ : ∃ x, x = F.length := ⟨_, rfl⟩
  rw [← hfl] at H4 HFL HNN ⊢
  have HFL2 : Hid (fl = F.length) := hfl
  have hfl3 : fl ≤ 30000 := HFL.out.2
  clear hb1 hb2 hb3 he1 he2 he4 hk3 hn1 ho4 HO4 hob hhb HE3 hfl
  go_loopg [5] nb (fun g s wr => ∃ k : Nat, k ≤ nb ∧ g = nb - k ∧ s = .int .i64 ((64 * k : Nat) : Int) ∧ Hid (Blk wr hb (uA (Sha.regs F k)) 118 ∧ OwnB wr w3.heap.size 5 (.slice (some ⟨gb, 0, none⟩) fl cb) F ∧ Blk wr ob (bA (List.replicate 32 0)) 59 ∧ Ext w wr))
  case atStart => exact ⟨0, Nat.zero_le _, rfl, rfl, H4.out⟩
  case round =>
    obtain ⟨k, hk, rfl, rfl, HR⟩ := hrel
    obtain ⟨at0, hat⟩ : ∃ x, x = 64 * k := ⟨_, rfl⟩
    rw [← hat]
    by_cases hlt : k < nb
    · have hatl : at0 + 64 ≤ fl := by have := HFL.out.1; omega
      have hd : decide ((at0 : Int) < (fl : Int)) = true := decide_eq_true (by omega)
      obtain ⟨Bk, hBk⟩ : ∃ x, x = (F.drop (64 * k)).take 64 := ⟨_, rfl⟩
      have hBl : Bk.length = 64 := by rw [hBk, List.length_take, List.length_drop, ← HFL2.out]; omega
      have hBa : Sha.AllB Bk := fun x hx => HR.out.2.1.1 x (by rw [hBk] at hx; exact List.mem_of_mem_drop (List.mem_of_mem_take hx))
      have hBy : BytesAt wr (.slice (some ⟨gb, at0, none⟩) 64 (cb - at0)) Bk := by
        have := HR.out.2.1.bytes.sliced at0 (at0 + 64) (by omega) (by rw [← HFL2.out]; exact hatl)
        rw [sliced64 gb at0 cb (by have := HNN.out; omega), List.drop_take, show at0 + 64 - at0 = 64 by omega] at this
        rw [hBk, ← hat]; exact this
      have HBY : Hid (BytesAt wr (.slice (some ⟨gb, at0, none⟩) 64 (cb - at0)) Bk ∧ at0 + 64 ≤ cb) := ⟨hBy, by have := HNN.out; omega⟩
      obtain ⟨R, hR⟩ : ∃ x, x = Sha.regs F k := ⟨_, rfl⟩
      rw [← hR] at HR
      have hR8 : R.length = 8 := by rw [hR]; exact Sha.regs_len _ _
      have hRU : Sha.AllU R := by rw [hR]; exact Sha.regs_all _ _
      have HREG : Hid (Sha.regs F (k + 1) = Sha.work R Bk) := show _ = _ by rw [hR, hBk]; rfl
      have HAT : Hid (at0 = 64 * k) := hat
      clear hat hBy hBk hR
      go_wp2_with (first
        | (refine wpList_of_run rfl (exec_slice2 rfl rfl rfl rfl HBY.out.2) ?_)
        | (go_at_call 64; refine (refwords gb at0 _ Bk _ hBl HBY.out.1).mono ?_; rintro e w5 ⟨mv, rfl, ho5, he5⟩; obtain ⟨gm, cm, hmv, hg1, hg2⟩ := own_some ho5 (by rw [ci_len, Sha.sch_len]; decide); rw [ci_len, Sha.sch_len] at hmv; subst hmv)
        | (refine wl_load rfl row38 rfl rfl (HR.out.1.ext he5) (by rw [uA_size, hR8]) ?_; refine wl_alloc rfl rfl zero38 ?_; intro w6 hb6 he6 hx; clear hx; refine wl_store (D := uA R) rfl row38 rfl rfl rfl hb6 (by rw [uA_size, hR8]) rfl (uA_one _) ?_; intro w7 hb7 hk7 hx; clear hx))
      obtain ⟨rb, hrb⟩ : ∃ x, x = w5.heap.size := ⟨_, rfl⟩
      obtain ⟨ws, hws⟩ : ∃ x, x = wr.heap.size := ⟨_, rfl⟩
      rw [← hws] at ho5 hg1
      rw [← hrb]
      have hwr : w3.heap.size ≤ gb := HR.out.2.1.blk (g := gb) (by simp [blockOf])
      have hgbl := HR.out.2.1.cap
      have hgr := hb6.lt
      have hhbw : hb < ws := by rw [hws]; exact HR.out.1.lt
      have hobw : ob < ws := by rw [hws]; exact HR.out.2.2.1.lt
      have hs5 := he5.size
      have H7 : Hid (Blk w7 rb (uA (Sha.steps R Bk 0)) 118 ∧ Blk w7 hb (uA R) 118 ∧ OwnN .u32 w7 ws 23 (.slice (some ⟨gm, 0, none⟩) 64 cm) (ci (Sha.sch Bk 64)) ∧ OwnB w7 w3.heap.size 5 (.slice (some ⟨gb, 0, none⟩) fl cb) F ∧ Blk w7 ob (bA (List.replicate 32 0)) 59 ∧ Ext w w7) := by
        refine ⟨by rw [hrb, Sha.steps_0 hR8]; exact hb7, ((HR.out.1.ext he5).ext he6).but hk7 (show ¬ _ = _ by omega), ?_, ((HR.out.2.1.ext he5).ext he6).butR hk7 (fun g hg => by simp [blockOf] at hg; subst hg; show ¬ _ = _; omega), ((HR.out.2.2.1.ext he5).ext he6).but hk7 (show ¬ _ = _ by omega), ((HR.out.2.2.2.trans he5).trans he6).of_but hk7 (fun k e => by subst e; have := HR.out.2.2.2.size; omega)⟩
        exact (ho5.ext he6).via fun g hg => hk7.block g (by have := (ho5.ext he6).lt hg; omega) (by have := ho5.lt hg; show ¬ _ = _; omega)
      have HRB : Hid (rb = w5.heap.size ∧ ws ≤ rb ∧ gm < rb ∧ ws ≤ gm ∧ hb < ws ∧ ob < ws ∧ gb < ws ∧ w.heap.size ≤ ws) := ⟨hrb, by omega, by omega, by omega, hhbw, hobw, by omega, by rw [hws]; exact HR.out.2.2.2.size⟩
      clear hws hb6 hb7 he5 he6 hk7 ho5 hrb hwr hgbl hgr hhbw hobw hs5 hg1 hg2
      go_loopg [8] 64 (fun g s wx => ∃ i : Nat, i ≤ 64 ∧ g = 64 - i ∧ s = .int .i64 (i : Int) ∧ Hid (Blk wx rb (uA (Sha.steps R Bk i)) 118 ∧ Blk wx hb (uA R) 118 ∧ OwnN .u32 wx ws 23 (.slice (some ⟨gm, 0, none⟩) 64 cm) (ci (Sha.sch Bk 64)) ∧ OwnB wx w3.heap.size 5 (.slice (some ⟨gb, 0, none⟩) fl cb) F ∧ Blk wx ob (bA (List.replicate 32 0)) 59 ∧ Ext w wx))
      case atStart => exact ⟨0, Nat.zero_le _, rfl, rfl, H7.out⟩
      case round =>
        obtain ⟨i, hi, rfl, rfl, HI⟩ := hrel
        by_cases hi64 : i < 64
        · have hd : decide ((i : Int) < 64) = true := decide_eq_true (by omega)
          have L64 : (i : Int) < 64 := by omega
          obtain ⟨S, hS⟩ : ∃ x, x = Sha.steps R Bk i := ⟨_, rfl⟩
          rw [← hS] at HI
          have hS8 : S.length = 8 := by rw [hS]; exact Sha.steps_len _ _ _
          have hSU : Sha.AllU S := by rw [hS]; exact Sha.steps_all hRU _
          obtain ⟨cc, hcc⟩ : ∃ x, x = Sha.cub.getD i 0 := ⟨_, rfl⟩
          obtain ⟨mm, hmm⟩ : ∃ x, x = Sha.mw Bk i := ⟨_, rfl⟩
          have hccl : cc < 4294967296 := by rw [hcc]; exact cub_lt i
          have hmml : mm < 4294967296 := by rw [hmm]; exact Sha.mw_lt hBa i
          have HST : Hid (Sha.steps R Bk (i + 1) = Sha.stp S cc mm) := show _ = _ by rw [Sha.steps_succ hR8 i hi64, hS, hcc, hmm]
          have HB11 : ∀ {wy : World}, Ext wr.drew wy → Blk wy rb (uA S) 118 := fun h => (HI.out.1.ext (Ext.drew _)).ext h
          have HC11 : ∀ {wy : World}, Ext wr.drew wy → wy.cell? ⟨1, i, none⟩ = some (.int .u32 (cc : Int)) := fun h => by rw [hcc]; exact h.cell ((Ext.drew _).cell (HI.out.2.2.2.2.2.cell (HV.out.2.1 i hi64)))
          have HM11 : ∀ {wy : World}, Ext wr.drew wy → wy.cell? ⟨gm, i, none⟩ = some (.int .u32 (mm : Int)) := fun h => by
            obtain ⟨b', o', e, h2⟩ := HI.out.2.2.1.nums.cellAt i (by rw [ci_len, Sha.sch_len]; exact hi64)
            cases e
            rw [Nat.zero_add, ci_get, Sha.sch_get Bk 64 i hi64, ← hmm] at h2
            exact h.cell ((Ext.drew _).cell h2)
          clear hS hcc hmm
          go_wp2_with fail
          refine wp_region_lastD (fun t => bif Nat.ble 32 t && Nat.ble t 40 then some (t - 32) else none) 136 Ext
            [Is (.agg (uA S)),
             Is (.int .i64 (i : Int)),
             Is (.pointer (some ⟨1, i, none⟩)),
             Is (.int .u32 (cc : Int)),
             Is (.slice (some ⟨gm, 0, none⟩) 64 cm),
             Is (.int .i64 (i : Int)),
             Is (.pointer (some ⟨gm, i, none⟩)),
             Is (.int .u32 (mm : Int)),
             Is (.agg (uA (Sha.stp S cc mm)))]
            (by intro h; cases h) rfl (by kernel_rfl) (by kernel_rfl) rfl (by kernel_rfl) Ext.refl (fun _ _ _ => Ext.trans) ?_ (fun wx wy => Blk wy rb (uA (Sha.stp S cc mm)) 118 ∧ KeepBut (· = rb) wx wy) ?_ ?_ ?_
          · exact KeepAll.is (KeepAll.is (KeepAll.is (KeepAll.is (KeepAll.is (KeepAll.is (KeepAll.is (KeepAll.is (KeepAll.is (KeepAll.nil)))))))))
          · refine GoodAll.cons ?_ ?_
            · intro r wx hR hx
              obtain ⟨h1, _⟩ := hx
              replace h1 : r (.tmp 7) = (.pointer (some ⟨rb, 0, none⟩)) := h1
              exact give_of (exec_loadW row38 rfl h1 (HB11 hR) (by rw [uA_size, hS8])) ⟨Ext.refl _, rfl⟩
            refine GoodAll.cons ?_ ?_
            · intro r wx hR hx
              obtain ⟨h1, _⟩ := hx
              replace h1 : r (.tmp 8) = (.int .i64 (i : Int)) := h1
              exact give_move (.inl rfl) ⟨Ext.refl _, h1⟩
            refine GoodAll.cons ?_ ?_
            · intro r wx hR hx
              obtain ⟨h1, h2, _⟩ := hx
              replace h1 : r (.global 1) = .pointer (some ⟨1, 0, none⟩) := h1
              replace h2 : r (.tmp 33) = (.int .i64 (i : Int)) := h2
              exact give_of (by simp [execOp, h1, h2, L64, go_sem]) ⟨Ext.refl _, rfl⟩
            refine GoodAll.cons ?_ ?_
            · intro r wx hR hx
              obtain ⟨h1, _⟩ := hx
              replace h1 : r (.tmp 34) = (.pointer (some ⟨1, i, none⟩)) := h1
              exact give_of (exec_get one36 rfl h1 (HC11 hR)) ⟨Ext.refl _, rfl⟩
            refine GoodAll.cons ?_ ?_
            · intro r wx hR hx
              obtain ⟨h1, _⟩ := hx
              replace h1 : r (.tmp 6) = (.slice (some ⟨gm, 0, none⟩) 64 cm) := h1
              exact give_move (.inl rfl) ⟨Ext.refl _, h1⟩
            refine GoodAll.cons ?_ ?_
            · intro r wx hR hx
              obtain ⟨h1, _⟩ := hx
              replace h1 : r (.tmp 8) = (.int .i64 (i : Int)) := h1
              exact give_move (.inl rfl) ⟨Ext.refl _, h1⟩
            refine GoodAll.cons ?_ ?_
            · intro r wx hR hx
              obtain ⟨h1, h2, _⟩ := hx
              replace h1 : r (.tmp 36) = (.slice (some ⟨gm, 0, none⟩) 64 cm) := h1
              replace h2 : r (.tmp 37) = (.int .i64 (i : Int)) := h2
              exact give_of (by simp [execOp, h1, h2, L64, go_sem]) ⟨Ext.refl _, rfl⟩
            refine GoodAll.cons ?_ ?_
            · intro r wx hR hx
              obtain ⟨h1, _⟩ := hx
              replace h1 : r (.tmp 38) = (.pointer (some ⟨gm, i, none⟩)) := h1
              exact give_of (exec_get one36 rfl h1 (HM11 hR)) ⟨Ext.refl _, rfl⟩
            refine GoodAll.cons ?_ ?_
            · intro r wx hR hx
              obtain ⟨h1, h2, h3, h4, _⟩ := hx
              replace h1 : r (.func 65) = .func (.func 65) #[] #[] := h1
              replace h2 : r (.tmp 32) = (.agg (uA S)) := h2
              replace h3 : r (.tmp 35) = (.int .u32 (cc : Int)) := h3
              replace h4 : r (.tmp 39) = (.int .u32 (mm : Int)) := h4
              refine give_func #[.agg (uA S), .int .u32 (cc : Int), .int .u32 (mm : Int)] rfl h1 Tryd.call65 (by simp [h2, h3, h4]) ?_
              refine (step_list S cc mm _ hS8 hSU hccl hmml).mono ?_
              rintro e w' ⟨rfl, he⟩
              exact ⟨_, rfl, he, rfl⟩
            exact GoodAll.nil
          · intro r wx hR hx
            obtain ⟨h1, h2, _⟩ := hx
            replace h1 : r (.tmp 7) = (.pointer (some ⟨rb, 0, none⟩)) := h1
            replace h2 : r (.tmp 40) = (.agg (uA (Sha.stp S cc mm))) := h2
            have hpR : putIn (uA S) 0 (uA (Sha.stp S cc mm)).toList = uA (Sha.stp S cc mm) := putIn_all _ _ (by rw [uA_size, uA_size, hS8]; rfl)
            exact give_skip (w' := wx.setRow rb (uA (Sha.stp S cc mm))) (by rw [← hpR]; exact exec_store row38 rfl h1 h2 (HB11 hR) (by rw [uA_size]; rfl) (by rw [uA_size, hS8]; omega) (uA_one _)) ⟨(HB11 hR).row _, KeepBut.row _ _ _⟩
          · intro vs w6 w7 a7 hR11 hE hold ha
            have hv0 : vs 0 = (.agg (uA S)) := hold.at 0
            have hv1 : vs 1 = (.int .i64 (i : Int)) := hold.at 1
            have hv2 : vs 2 = (.pointer (some ⟨1, i, none⟩)) := hold.at 2
            have hv3 : vs 3 = (.int .u32 (cc : Int)) := hold.at 3
            have hv4 : vs 4 = (.slice (some ⟨gm, 0, none⟩) 64 cm) := hold.at 4
            have hv5 : vs 5 = (.int .i64 (i : Int)) := hold.at 5
            have hv6 : vs 6 = (.pointer (some ⟨gm, i, none⟩)) := hold.at 6
            have hv7 : vs 7 = (.int .u32 (mm : Int)) := hold.at 7
            have hv8 : vs 8 = (.agg (uA (Sha.stp S cc mm))) := hold.at 8
            simp only [putAll, Act.put, hv0, hv1, hv2, hv3, hv4, hv5, hv6, hv7, hv8, List.setIfInBounds_toArray, List.set_cons_succ, List.set_cons_zero] at ha
            subst ha
            clear hold hv0 hv1 hv2 hv3 hv4 hv5 hv6 hv7 hv8
            have H8 : Hid (Blk w7 rb (uA (Sha.steps R Bk (i + 1))) 118 ∧ Blk w7 hb (uA R) 118 ∧ OwnN .u32 w7 ws 23 (.slice (some ⟨gm, 0, none⟩) 64 cm) (ci (Sha.sch Bk 64)) ∧ OwnB w7 w3.heap.size 5 (.slice (some ⟨gb, 0, none⟩) fl cb) F ∧ Blk w7 ob (bA (List.replicate 32 0)) 59 ∧ Ext w w7) := by
              have he := (Ext.drew wr).trans hR11
              have hkb := hE.2
              have hN := HRB.out
              rw [HST.out]
              refine ⟨hE.1, (HI.out.2.1.ext he).but hkb (show ¬ _ = _ by omega), ?_, (HI.out.2.2.2.1.ext he).butR hkb (fun g hg => by simp [blockOf] at hg; subst hg; show ¬ _ = _; omega), (HI.out.2.2.2.2.1.ext he).but hkb (show ¬ _ = _ by omega), (HI.out.2.2.2.2.2.trans he).of_but hkb (fun k e => by subst e; have := HR.out.2.2.2.size; omega)⟩
              exact (HI.out.2.2.1.ext he).via fun g hg => hkb.block g (by have := (HI.out.2.2.1.ext he).lt hg; omega) (by simp [Value.ownBlock] at hg; subst hg; show ¬ _ = _; omega)
            clear hE hR11 HB11 HC11 HM11
            refine ‹∀ (a : Act) (w : World), Code.wp Tryd.prog _ _ a w → _› _ _ ?_
            go_wp2_with fail
            go_roundg (64 - (i + 1))
            case measure => omega
            case rel => exact ⟨i + 1, by omega, rfl, by simp, H8.out⟩
        · have hd : decide ((i : Int) < 64) = false := decide_eq_false (by omega)
          obtain rfl : i = 64 := by omega
          rw [Sha.steps_64 hR8] at HI
          obtain ⟨S, hS⟩ : ∃ x, x = Sha.cp R Bk 64 := ⟨_, rfl⟩
          rw [← hS] at HI
          have hS8 : S.length = 8 := by rw [hS, Sha.cp_len, hR8]
          have hW : Sha.work R Bk = Sha.add8 R S := by rw [hS]; rfl
          rw [hW] at HREG
          clear hS hW
          obtain ⟨h0, h1, h2, h3, h4, h5, h6, h7, rfl⟩ := ex8 hR8
          obtain ⟨r0, r1, r2, r3, r4, r5, r6, r7, rfl⟩ := ex8 hS8
          clear hR8 hS8 hRU
          obtain ⟨a0, ha0⟩ : ∃ x, x = (h0 + r0) % 4294967296 := ⟨_, rfl⟩
          have z0 : ((h0 : Int) + (r0 : Int)) % 4294967296 = (a0 : Int) := by omega
          have y0 : IntKind.u32.wrap ((h0 : Int) + (r0 : Int)) = (a0 : Int) := by rw [IntKind.wrap_u32]; exact z0
          obtain ⟨a1, ha1⟩ : ∃ x, x = (h1 + r1) % 4294967296 := ⟨_, rfl⟩
          have z1 : ((h1 : Int) + (r1 : Int)) % 4294967296 = (a1 : Int) := by omega
          have y1 : IntKind.u32.wrap ((h1 : Int) + (r1 : Int)) = (a1 : Int) := by rw [IntKind.wrap_u32]; exact z1
          obtain ⟨a2, ha2⟩ : ∃ x, x = (h2 + r2) % 4294967296 := ⟨_, rfl⟩
          have z2 : ((h2 : Int) + (r2 : Int)) % 4294967296 = (a2 : Int) := by omega
          have y2 : IntKind.u32.wrap ((h2 : Int) + (r2 : Int)) = (a2 : Int) := by rw [IntKind.wrap_u32]; exact z2
          obtain ⟨a3, ha3⟩ : ∃ x, x = (h3 + r3) % 4294967296 := ⟨_, rfl⟩
          have z3 : ((h3 : Int) + (r3 : Int)) % 4294967296 = (a3 : Int) := by omega
          have y3 : IntKind.u32.wrap ((h3 : Int) + (r3 : Int)) = (a3 : Int) := by rw [IntKind.wrap_u32]; exact z3
          obtain ⟨a4, ha4⟩ : ∃ x, x = (h4 + r4) % 4294967296 := ⟨_, rfl⟩
          have z4 : ((h4 : Int) + (r4 : Int)) % 4294967296 = (a4 : Int) := by omega
          have y4 : IntKind.u32.wrap ((h4 : Int) + (r4 : Int)) = (a4 : Int) := by rw [IntKind.wrap_u32]; exact z4
          obtain ⟨a5, ha5⟩ : ∃ x, x = (h5 + r5) % 4294967296 := ⟨_, rfl⟩
          have z5 : ((h5 : Int) + (r5 : Int)) % 4294967296 = (a5 : Int) := by omega
          have y5 : IntKind.u32.wrap ((h5 : Int) + (r5 : Int)) = (a5 : Int) := by rw [IntKind.wrap_u32]; exact z5
          obtain ⟨a6, ha6⟩ : ∃ x, x = (h6 + r6) % 4294967296 := ⟨_, rfl⟩
          have z6 : ((h6 : Int) + (r6 : Int)) % 4294967296 = (a6 : Int) := by omega
          have y6 : IntKind.u32.wrap ((h6 : Int) + (r6 : Int)) = (a6 : Int) := by rw [IntKind.wrap_u32]; exact z6
          obtain ⟨a7, ha7⟩ : ∃ x, x = (h7 + r7) % 4294967296 := ⟨_, rfl⟩
          have z7 : ((h7 : Int) + (r7 : Int)) % 4294967296 = (a7 : Int) := by omega
          have y7 : IntKind.u32.wrap ((h7 : Int) + (r7 : Int)) = (a7 : Int) := by rw [IntKind.wrap_u32]; exact z7
          have HREG2 : Hid (Sha.regs F (k + 1) = [a0, a1, a2, a3, a4, a5, a6, a7]) := show _ = _ by rw [HREG.out]; simp only [Sha.add8, List.zipWith]; rw [← ha0, ← ha1, ← ha2, ← ha3, ← ha4, ← ha5, ← ha6, ← ha7]
          clear ha0 ha1 ha2 ha3 ha4 ha5 ha6 ha7 HREG
          have HN : Hid (rb = w5.heap.size ∧ ws ≤ rb ∧ gm < rb ∧ ws ≤ gm ∧ hb < ws ∧ ob < ws ∧ gb < ws ∧ w.heap.size ≤ ws) := HRB.out
          have ch0 : wr.cell? ⟨hb, 0, none⟩ = some (.int .u32 (h0 : Int)) := (HI.out.2.1.cell 0).trans rfl
          have cr0 : wr.cell? ⟨rb, 0, none⟩ = some (.int .u32 (r0 : Int)) := (HI.out.1.cell 0).trans rfl
          have ch1 : wr.cell? ⟨hb, 1, none⟩ = some (.int .u32 (h1 : Int)) := (HI.out.2.1.cell 1).trans rfl
          have cr1 : wr.cell? ⟨rb, 1, none⟩ = some (.int .u32 (r1 : Int)) := (HI.out.1.cell 1).trans rfl
          have ch2 : wr.cell? ⟨hb, 2, none⟩ = some (.int .u32 (h2 : Int)) := (HI.out.2.1.cell 2).trans rfl
          have cr2 : wr.cell? ⟨rb, 2, none⟩ = some (.int .u32 (r2 : Int)) := (HI.out.1.cell 2).trans rfl
          have ch3 : wr.cell? ⟨hb, 3, none⟩ = some (.int .u32 (h3 : Int)) := (HI.out.2.1.cell 3).trans rfl
          have cr3 : wr.cell? ⟨rb, 3, none⟩ = some (.int .u32 (r3 : Int)) := (HI.out.1.cell 3).trans rfl
          have ch4 : wr.cell? ⟨hb, 4, none⟩ = some (.int .u32 (h4 : Int)) := (HI.out.2.1.cell 4).trans rfl
          have cr4 : wr.cell? ⟨rb, 4, none⟩ = some (.int .u32 (r4 : Int)) := (HI.out.1.cell 4).trans rfl
          have ch5 : wr.cell? ⟨hb, 5, none⟩ = some (.int .u32 (h5 : Int)) := (HI.out.2.1.cell 5).trans rfl
          have cr5 : wr.cell? ⟨rb, 5, none⟩ = some (.int .u32 (r5 : Int)) := (HI.out.1.cell 5).trans rfl
          have ch6 : wr.cell? ⟨hb, 6, none⟩ = some (.int .u32 (h6 : Int)) := (HI.out.2.1.cell 6).trans rfl
          have cr6 : wr.cell? ⟨rb, 6, none⟩ = some (.int .u32 (r6 : Int)) := (HI.out.1.cell 6).trans rfl
          have ch7 : wr.cell? ⟨hb, 7, none⟩ = some (.int .u32 (h7 : Int)) := (HI.out.2.1.cell 7).trans rfl
          have cr7 : wr.cell? ⟨rb, 7, none⟩ = some (.int .u32 (r7 : Int)) := (HI.out.1.cell 7).trans rfl
          go_wp2_with (first
            | (refine wl_store (D := uA [a0, a1, a2, a3, a4, a5, a6, a7]) rfl row38 rfl rfl rfl HI.out.2.1 rfl rfl (uA_one _) ?_; intro w8 hb8 hk8 hx; clear hx))
          have H9 : Hid (Blk w8 hb (uA (Sha.regs F (k + 1))) 118 ∧ OwnB w8 w3.heap.size 5 (.slice (some ⟨gb, 0, none⟩) fl cb) F ∧ Blk w8 ob (bA (List.replicate 32 0)) 59 ∧ Ext w w8) := by
            have hN := HRB.out
            have hM := HNN.out
            rw [HREG2.out]
            refine ⟨hb8, HI.out.2.2.2.1.butR hk8 (fun g hg => by simp [blockOf] at hg; subst hg; have := HI.out.2.2.2.1.blk (g := gb) (by simp [blockOf]); show ¬ _ = _; omega), HI.out.2.2.2.2.1.but hk8 (show ¬ _ = _ by omega), HI.out.2.2.2.2.2.of_but hk8 (fun k e => by subst e; omega)⟩
          go_roundg (nb - (k + 1))
          case measure => omega
          case rel => exact ⟨k + 1, by omega, rfl, by have := HAT.out; simp; omega, H9.out⟩
    · have hd : decide ((at0 : Int) < (fl : Int)) = false := decide_eq_false (by have := HFL.out.1; omega)
      obtain rfl : k = nb := by omega
      have hge : fl ≤ at0 := by have := HFL.out.1; omega
      clear hat hd
      have hR8 := Sha.regs_len F k
      have hRU := Sha.regs_all F k
      generalize hRR : Sha.regs F k = R at *
      have HDR : Hid (Sha.dgst T = Sha.dig R) := show _ = _ by rw [HDG.out]
      have HRU : Hid (Sha.AllU R ∧ R.length = 8) := ⟨hRU, hR8⟩
      clear hRR
      obtain ⟨h0, h1, h2, h3, h4, h5, h6, h7, hR⟩ := ex8 hR8
      rw [hR] at HR
      have HREQ : Hid (R = [h0, h1, h2, h3, h4, h5, h6, h7]) := hR
      clear hR hR8 hRU
      have ch0 : wr.cell? ⟨hb, 0, none⟩ = some (.int .u32 (h0 : Int)) := (HR.out.1.cell 0).trans rfl
      have ch1 : wr.cell? ⟨hb, 1, none⟩ = some (.int .u32 (h1 : Int)) := (HR.out.1.cell 1).trans rfl
      have ch2 : wr.cell? ⟨hb, 2, none⟩ = some (.int .u32 (h2 : Int)) := (HR.out.1.cell 2).trans rfl
      have ch3 : wr.cell? ⟨hb, 3, none⟩ = some (.int .u32 (h3 : Int)) := (HR.out.1.cell 3).trans rfl
      have ch4 : wr.cell? ⟨hb, 4, none⟩ = some (.int .u32 (h4 : Int)) := (HR.out.1.cell 4).trans rfl
      have ch5 : wr.cell? ⟨hb, 5, none⟩ = some (.int .u32 (h5 : Int)) := (HR.out.1.cell 5).trans rfl
      have ch6 : wr.cell? ⟨hb, 6, none⟩ = some (.int .u32 (h6 : Int)) := (HR.out.1.cell 6).trans rfl
      have ch7 : wr.cell? ⟨hb, 7, none⟩ = some (.int .u32 (h7 : Int)) := (HR.out.1.cell 7).trans rfl
      go_wp2_with (first
        | (refine wl_alloc rfl rfl zero24 ?_; intro w8 hb8 he8 hx; clear hx; replace ch0 := he8.cell ch0; replace ch1 := he8.cell ch1; replace ch2 := he8.cell ch2; replace ch3 := he8.cell ch3; replace ch4 := he8.cell ch4; replace ch5 := he8.cell ch5; replace ch6 := he8.cell ch6; replace ch7 := he8.cell ch7))
      have ew : w8.alloc (.cells #[.int .u32 (h0 : Int), .int .u32 (h1 : Int), .int .u32 (h2 : Int), .int .u32 (h3 : Int), .int .u32 (h4 : Int), .int .u32 (h5 : Int), .int .u32 (h6 : Int), .int .u32 (h7 : Int)] 23) = w8.alloc (.cells (uA R) 23) := by rw [HREQ.out]; rfl
      rw [ew]
      have hob9 : ob < wr.heap.size := HR.out.2.2.1.lt
      obtain ⟨pb, hpb⟩ : ∃ x, x = wr.heap.size := ⟨_, rfl⟩
      obtain ⟨lb, hlb⟩ : ∃ x, x = w8.heap.size := ⟨_, rfl⟩
      have H9 : Hid (Blk (w8.alloc (.cells (uA R) 23)) lb (uA R) 23 ∧ Blk (w8.alloc (.cells (uA R) 23)) ob (bA (List.replicate 32 0)) 59 ∧ Blk (w8.alloc (.cells (uA R) 23)) pb (bA (List.replicate 32 0)) 59 ∧ Ext w (w8.alloc (.cells (uA R) 23))) := ⟨by rw [hlb]; exact Blk.new _ _ _, (HR.out.2.2.1.ext he8).ext (Ext.alloc _ _), by rw [hpb]; exact hb8.ext (Ext.alloc _ _), (HR.out.2.2.2.trans he8).trans (Ext.alloc _ _)⟩
      have HNP : Hid (ob < pb ∧ pb < lb ∧ w.heap.size ≤ ob ∧ w.heap.size ≤ pb) := ⟨by omega, by rw [hpb, hlb]; exact hb8.lt, by have := HNN.out; omega, by rw [hpb]; exact HR.out.2.2.2.size⟩
      rw [← hpb, ← hlb]
      generalize w8.alloc (.cells (uA R) 23) = w9 at *
      clear hpb hlb hob9 ew hb8 he8 ch0 ch1 ch2 ch3 ch4 ch5 ch6 ch7 HR
      go_loopg [100] 8 (fun g s wr => ∃ k : Nat, k ≤ 8 ∧ g = 8 - k ∧ s = .int .i64 (k : Int) ∧ Hid (Blk wr lb (uA R) 23 ∧ Blk wr ob (bA (List.replicate 32 0)) 59 ∧ Blk wr pb (bA (Sha.digs R k)) 59 ∧ Ext w wr))
      case atStart => exact ⟨0, by omega, rfl, rfl, H9.out⟩
      case round =>
        obtain ⟨k, hk, rfl, rfl, HR⟩ := hrel
        by_cases hlt : k < 8
        · have hd8 : decide ((k : Int) < 8) = true := decide_eq_true (by omega)
          have hkl : (k : Int) < 8 := by omega
          have hsc : wr.cell? ⟨lb, k, none⟩ = some (.int .u32 (R.getD k 0 : Nat)) := (HR.out.1.cell k).trans (uA_get R k (by rw [HRU.out.2]; exact hlt))
          have hr := HRU.out.1.get k
          have HS : Hid _ := Sha.digs_succ HRU.out.2 hlt _ rfl
          generalize R.getD k 0 = r at *
          obtain ⟨b0, hb0⟩ : ∃ x, x = r / 16777216 % 256 := ⟨_, rfl⟩
          obtain ⟨b1, hb1⟩ : ∃ x, x = r / 65536 % 256 := ⟨_, rfl⟩
          obtain ⟨b2, hb2⟩ : ∃ x, x = r / 256 % 256 := ⟨_, rfl⟩
          obtain ⟨b3, hb3⟩ : ∃ x, x = r % 256 := ⟨_, rfl⟩
          rw [← hb0, ← hb1, ← hb2, ← hb3] at HS
          obtain ⟨c0, hc0⟩ : ∃ x, x = r / 16777216 := ⟨_, rfl⟩
          obtain ⟨c1', hc1⟩ : ∃ x, x = r / 65536 := ⟨_, rfl⟩
          obtain ⟨c2', hc2⟩ : ∃ x, x = r / 256 := ⟨_, rfl⟩
          have d0 : (r : Int).tdiv 16777216 = (c0 : Int) := by rw [Int.tdiv_eq_ediv_of_nonneg (by omega)]; omega
          have d1 : (r : Int).tdiv 65536 = (c1' : Int) := by rw [Int.tdiv_eq_ediv_of_nonneg (by omega)]; omega
          have d2 : (r : Int).tdiv 256 = (c2' : Int) := by rw [Int.tdiv_eq_ediv_of_nonneg (by omega)]; omega
          have t1 : (c1' : Int).tmod 256 = (b1 : Int) := by rw [Int.tmod_eq_emod_of_nonneg (by omega)]; omega
          have t2 : (c2' : Int).tmod 256 = (b2 : Int) := by rw [Int.tmod_eq_emod_of_nonneg (by omega)]; omega
          have t3 : (r : Int).tmod 256 = (b3 : Int) := by rw [Int.tmod_eq_emod_of_nonneg (by omega)]; omega
          have q0 : (c0 : Int) % 256 = (b0 : Int) := by omega
          have q1 : (b1 : Int) % 256 = (b1 : Int) := by omega
          have q2 : (b2 : Int) % 256 = (b2 : Int) := by omega
          have q3 : (b3 : Int) % 256 = (b3 : Int) := by omega
          have q5 : (c1' : Int) % 256 = (b1 : Int) := by omega
          have q6 : (c2' : Int) % 256 = (b2 : Int) := by omega
          have p0 : IntKind.u8.wrap (c0 : Int) = (b0 : Int) := by rw [IntKind.wrap_u8]; exact q0
          have p1 : IntKind.u8.wrap (b1 : Int) = (b1 : Int) := by rw [IntKind.wrap_u8]; exact q1
          have p2 : IntKind.u8.wrap (b2 : Int) = (b2 : Int) := by rw [IntKind.wrap_u8]; exact q2
          have p3 : IntKind.u8.wrap (b3 : Int) = (b3 : Int) := by rw [IntKind.wrap_u8]; exact q3
          have hl := Sha.digs_len HRU.out.2 hk
          have HB : Hid (Blk wr pb (bA (Sha.digs R k)) 59 ∧ (Sha.digs R k).length = 32) := ⟨HR.out.2.2.1, hl⟩
          clear hb0 hb1 hb2 hb3 hl hc0 hc1 hc2
          have := HNP.out
          go_wp2_with (first
            | (refine wl_set (v := .int .u8 (b0 : Nat)) rfl one5 rfl rfl (by first | rfl | go_simp | simp [go_sem, p0, q0]) rfl rfl HB.out.1 (by rw [bA_size, HB.out.2]; omega) ?_; intro x1 c1 k1 hx; clear hx; rw [bA_set] at c1)
            | (refine wl_set (v := .int .u8 (b1 : Nat)) rfl one5 rfl rfl (by first | rfl | (go_simp; done) | (go_simp; simp [q5]; done) | simp [go_sem, p1, q1]) rfl rfl c1 (by rw [bA_size, List.length_set, HB.out.2]; omega) ?_; intro x2 c2 k2 hx; clear hx; rw [bA_set] at c2)
            | (refine wl_set (v := .int .u8 (b2 : Nat)) rfl one5 rfl rfl (by first | rfl | (go_simp; done) | (go_simp; simp [q6]; done) | simp [go_sem, p2, q2]) rfl rfl c2 (by rw [bA_size, List.length_set, List.length_set, HB.out.2]; omega) ?_; intro x3 c3 k3 hx; clear hx; rw [bA_set] at c3)
            | (refine wl_set (v := .int .u8 (b3 : Nat)) rfl one5 rfl rfl (by first | rfl | go_simp | simp [go_sem, p3, q3]) rfl rfl c3 (by rw [bA_size, List.length_set, List.length_set, List.length_set, HB.out.2]; omega) ?_; intro x4 c4 k4 hx; clear hx; rw [bA_set, HS.out] at c4))
          go_roundg (8 - (k + 1))
          case measure => omega
          case rel =>
            refine ⟨k + 1, by omega, rfl, by simp, (((HR.out.1.but k1 (show ¬ _ = _ by omega)).but k2 (show ¬ _ = _ by omega)).but k3 (show ¬ _ = _ by omega)).but k4 (show ¬ _ = _ by omega), (((HR.out.2.1.but k1 (show ¬ _ = _ by omega)).but k2 (show ¬ _ = _ by omega)).but k3 (show ¬ _ = _ by omega)).but k4 (show ¬ _ = _ by omega), c4, ?_⟩
            exact (((HR.out.2.2.2.of_but k1 (fun j e => by subst e; omega)).of_but k2 (fun j e => by subst e; omega)).of_but k3 (fun j e => by subst e; omega)).of_but k4 (fun j e => by subst e; omega)
        · have hd8 : decide ((k : Int) < 8) = false := decide_eq_false (by omega)
          obtain rfl : k = 8 := by omega
          have h4 := HR.out.2.2.1
          rw [Sha.digs_8 HRU.out.2, ← HDR.out] at h4
          go_wp2_with (first
            | (refine wl_load rfl row24 rfl rfl h4 (by rw [bA_size, HD8.out]) ?_)
            | (refine wl_store rfl row24 rfl rfl rfl HR.out.2.1 (by rw [bA_size, HD8.out]) rfl (bA_one _) ?_; intro x5 c5 k5 hx; clear hx))
          have := HNP.out
          refine bodyPost_ret (v := .agg (bA (Sha.dgst T))) (results_cell_row (fn := Tryd.f51) (p := 2) (by rfl) _ _ ob 59 _ (0, 0) _ rfl c5 Tryd.underlying59 rfl (by rw [bA_size, HD8.out]; kernel_rfl)) rfl ⟨rfl, ?_⟩
          exact HR.out.2.2.2.of_but k5 (fun j e => by subst e; omega)
end Go.Proofs.YtfhoielfekeihaaDoor

/- The document's own tag: a digest's bytes, a key changed, the tag. Condition: the document's table holds what the text lays. -/
namespace Go.Proofs.YtfhoielfekeihaaDoor
open Go Go.RowKit
set_option linter.unusedVariables false
set_option linter.unusedSimpArgs false
set_option maxRecDepth 100000


theorem own_b {w : World} {base : Nat} {v : Value} {l : List Nat} (h : OwnN .u8 w base 5 v (ci l)) (hl : Sha.AllB l) (hne : 0 < l.length) : OwnB w base 5 v l := by
  obtain ⟨g, c, rfl, hb, hlt⟩ := own_some h (by rw [ci_len]; exact hne)
  rw [ci_len] at h ⊢
  have e1 : (ci l).map (Value.int .u8) = cellsB l := by simp [ci, cellsB]
  obtain ⟨h1, h2⟩ := h
  rw [ci_len, e1] at h1
  refine ⟨hl, ⟨g, c, rfl, hb, hlt, ?_⟩, h1⟩
  rcases h1.2 with ⟨e2, _⟩ | ⟨g', cap', cur, e2, _, _, h5, h6, _⟩
  · simp at e2
  · simp only [Value.slice.injEq, Option.some.injEq, Addr.mk.injEq, and_true, true_and] at e2
    obtain ⟨_, rfl⟩ := e2
    exact ⟨h5, h6⟩
/-- One byte put behind. -/
theorem wl_pushB {wr : World} {ops : Array Oper} {rest : List Oper} {o : Oper} {a : Act} {Q : Exit → Act → World → Prop} (hgd : o.guard = none) {s x : Operand} (ho : o.op = .call { callee := .builtin .append, args := #[s, x], argTypes := #[22, 22] })
    {base b : Nat} {v : Value} {l : List Nat} {y : Nat} (hs : a.eval s = v) (hx : a.eval x = .slice (some ⟨b, 0, none⟩) 1 1) (hb : b = wr.heap.size) (hv : OwnN .u8 wr base 5 v (ci l)) (hl : l.length ≤ 100000) (hbase : base ≤ wr.heap.size)
    (h : ∀ ad cap w', OwnN .u8 w' base 5 (.slice ad (l.length + 1) cap) (ci (l ++ [y])) → KeepBut (fun k => base ≤ k) wr w' → wpList Tryd.prog ops Q rest (a.put o.dst (.slice ad (l.length + 1) cap)) w') : wpList Tryd.prog ops Q (o :: rest) a (wr.alloc (.cells #[.int .u8 (y : Int)] 5)) := by
  refine wpList_append_nums numT8 hgd s x ho base (ci l) [(y : Int)] (by rw [hs]; exact hv.ext (Ext.alloc _ _)) (by rw [hx]; exact NumsAt.one wr (y : Int) 5 b hb) (by rw [ci_len]; simp; omega) (by rw [ci_len]; simp; omega) (by simp; omega) ?_
  intro ad cap w' h1 h2 h3
  rw [show (ci l ++ [(y : Int)]).length = l.length + 1 by rw [List.length_append, ci_len]; rfl, ← ci_app] at h1
  rw [show (ci l ++ [(y : Int)]).length = l.length + 1 by rw [List.length_append, ci_len]; rfl]
  refine h ad cap w' h1 ?_
  rw [hs] at h2
  refine (KeepBut.ext (Ext.alloc _ _)).trans (KeepBut.grown h2 (fun r e => (hv.lt e).1))

set_option maxHeartbeats 2000000 in
theorem refBytes_any (D : List Nat) (w : World) (hl : D.length = 32) (hD : Sha.AllB D) :
    Calls Tryd.prog 50 #[.agg (bA D)] w fun e w' => ∃ v, e = .returned v ∧ OwnB w' w.heap.size 5 v D ∧ Ext w w' := by
  have HF : Hid (D.length = 32 ∧ Sha.AllB D) := ⟨hl, hD⟩
  clear hl hD
  go_enter Tryd.func50, Tryd.ntmps50
  go_wp2_with (first
    | (refine wl_box (C := bA D) rfl rfl rfl ?_; intro w1 hb1 he1 hx; clear hx))
  have HW : Hid (Blk w1 w.heap.size (bA D) 59 ∧ Ext w w1) := ⟨hb1, he1⟩
  have HSZ : Hid (w.heap.size < w1.heap.size) := hb1.lt
  clear hb1 he1
  go_loopg [3, 4] 32 (fun g s t wr => ∃ (k : Nat) (a : Option Addr) (cp : Nat), k ≤ 32 ∧ g = 32 - k ∧ s = .slice a k cp ∧ t = .int .i64 (k : Int) ∧ Hid (OwnN .u8 wr w1.heap.size 5 (.slice a k cp) (ci (D.take k)) ∧ Blk wr w.heap.size (bA D) 59 ∧ Ext w wr ∧ w1.heap.size ≤ wr.heap.size))
  case atStart => exact ⟨0, none, 0, by omega, rfl, rfl, rfl, OwnN.nil _ _ _ _, HW.out.1, HW.out.2, Nat.le_refl _⟩
  case round =>
    obtain ⟨k, a, cp, hk, rfl, rfl, rfl, HR⟩ := hrel
    by_cases hlt : k < 32
    · have hd : decide ((k : Int) < 32) = true := decide_eq_true (by omega)
      have hc := (HR.out.2.1.cell k).trans (bA_get D k (by rw [HF.out.1]; exact hlt))
      have HS : Hid (D.take (k + 1) = D.take k ++ [D.getD k 0]) := take_next D 0 k (by rw [HF.out.1]; exact hlt)
      have HTL : Hid ((D.take k).length = k) := show _ = _ by rw [List.length_take, HF.out.1]; omega
      generalize D.getD k 0 = x at *
      go_wp2_with (first
        | (at_builtin; refine wl_pushB (l := D.take k) (y := x) rfl rfl rfl rfl rfl HR.out.1 (by rw [HTL.out]; omega) HR.out.2.2.2 ?_; intro ad cap w2 ho2 hk2; rw [HTL.out] at ho2 ⊢; rw [← HS.out] at ho2))
      have := HSZ.out
      go_roundg (32 - (k + 1))
      case measure => omega
      case rel => exact ⟨k + 1, ad, cap, by omega, rfl, rfl, by simp, ho2, HR.out.2.1.but hk2 (by omega), HR.out.2.2.1.of_but hk2 (fun j e => by omega), Nat.le_trans HR.out.2.2.2 hk2.size⟩
    · have hd : decide ((k : Int) < 32) = false := decide_eq_false (by omega)
      obtain rfl : k = 32 := by omega
      rw [List.take_of_length_le (by rw [HF.out.1]; exact Nat.le_refl _)] at HR
      go_wp2
      go_ret
      have ho := own_b HR.out.1 HF.out.2 (by rw [HF.out.1]; decide)
      refine ⟨_, rfl, ⟨ho.1, ?_, ?_⟩, HR.out.2.2.1⟩
      · obtain ⟨_, ⟨g, c, e, h1, h2⟩, _⟩ := ho
        exact ⟨g, c, e, Nat.le_trans (Nat.le_of_lt HSZ.out) h1, h2⟩
      · obtain ⟨_, _, h1, h2 | ⟨g, c, cur, e, h3, h4⟩⟩ := ho
        · exact ⟨h1, .inl h2⟩
        · exact ⟨h1, .inr ⟨g, c, cur, e, Nat.le_trans (Nat.le_of_lt HSZ.out) h3, h4⟩⟩

set_option maxHeartbeats 2000000 in
theorem refPad_any (kv : Value) (K : List Nat) (c : Nat) (w : World) (hk : BytesAt w kv K) (hl : K.length ≤ 64) (hc : c < 256) :
    Calls Tryd.prog 52 #[kv, .int .u8 (c : Int)] w fun e w' => ∃ v, e = .returned v ∧ OwnB w' w.heap.size 5 v (Mac.chg (K ++ List.replicate (64 - K.length) 0) c) ∧ Ext w w' := by
  obtain ⟨F, hF⟩ : ∃ F, F = K ++ List.replicate (64 - K.length) 0 := ⟨_, rfl⟩
  have hFl : F.length = 64 := by rw [hF, List.length_append, List.length_replicate]; omega
  have hFa : Sha.AllB F := by rw [hF]; exact Sha.AllB.app hk.1 (Mac.noughts_all _)
  have HF : Hid (F.length = 64 ∧ Sha.AllB F ∧ c < 256) := ⟨hFl, hFa, hc⟩
  have HG : Hid ((∀ j, j < K.length → F.getD j 0 = K.getD j 0) ∧ ∀ j, K.length ≤ j → F.getD j 0 = 0) := ⟨fun j hj => by rw [hF, List.getD_eq_getElem?_getD, List.getElem?_append_left hj, ← List.getD_eq_getElem?_getD], fun j hj => by
    rw [hF, List.getD_eq_getElem?_getD, List.getElem?_append_right hj, List.getElem?_replicate]; split <;> rfl⟩
  rw [← hF]
  obtain ⟨a, cap0, rfl, _, hKc⟩ := hk.form
  have HK : Hid (∀ j, j < K.length → ∃ b off, a = some ⟨b, off, none⟩ ∧ w.cell? ⟨b, off + j, none⟩ = some (.int .u8 (K.getD j 0 : Nat))) := hKc
  rename_i z1
  clear z1 hk hKc hFl hFa hF
  go_enter Tryd.func52, Tryd.ntmps52
  go_wp2
  go_loopg [5, 6] 64 (fun g s t wr => ∃ (k : Nat) (a : Option Addr) (cp : Nat), k ≤ 64 ∧ g = 64 - k ∧ s = .slice a k cp ∧ t = .int .i64 (k : Int) ∧ Hid (OwnN .u8 wr w.heap.size 5 (.slice a k cp) (ci (Mac.chg (F.take k) c)) ∧ Ext w wr))
  case atStart => exact ⟨0, none, 0, by omega, rfl, rfl, rfl, OwnN.nil _ _ _ _, Ext.refl _⟩
  case round =>
    obtain ⟨k, a2, cp, hk, rfl, rfl, rfl, HR⟩ := hrel
    by_cases hlt : k < 64
    · have hd : decide ((k : Int) < 64) = true := decide_eq_true (by omega)
      have hkF : k < F.length := by rw [HF.out.1]; exact hlt
      have HS : Hid (Mac.chg (F.take (k + 1)) c = Mac.chg (F.take k) c ++ [F.getD k 0 ^^^ c]) := show _ = _ by rw [take_next F 0 k hkF]; simp [Mac.chg]
      have HTL : Hid ((Mac.chg (F.take k) c).length = k) := show _ = _ by rw [Mac.chg_len, List.length_take, HF.out.1]; omega
      have hx8 := Go.u8_xor_nat (F.getD k 0) c (HF.out.2.1.get k) hc
      by_cases hkK : k < K.length
      · have hd2 : decide ((k : Int) < (K.length : Int)) = true := decide_eq_true (by omega)
        obtain ⟨b, off, rfl, hcell⟩ := HK.out k hkK
        have hc2 := HR.out.2.cell hcell
        rw [← HG.out.1 k hkK] at hc2
        clear hcell hkF
        generalize F.getD k 0 = x at *
        generalize x ^^^ c = y at *
        go_wp2_with (first
          | (at_builtin; refine wl_pushB (l := Mac.chg (F.take k) c) (y := y) rfl rfl rfl rfl rfl HR.out.1 (by rw [HTL.out]; omega) HR.out.2.size ?_; intro ad cap w2 ho2 hk2; rw [HTL.out] at ho2 ⊢; rw [← HS.out] at ho2))
        go_roundg (64 - (k + 1))
        case measure => omega
        case rel => exact ⟨k + 1, ad, cap, by omega, rfl, rfl, by simp, ho2, HR.out.2.of_but hk2 (fun j e => e)⟩
      · have hd2 : decide ((k : Int) < (K.length : Int)) = false := decide_eq_false (by omega)
        rw [HG.out.2 k (by omega)] at hx8 HS
        clear hkF
        generalize hy : 0 ^^^ c = y at *
        have hx8' : bits .xor .u8 0 (c : Int) = (y : Int) := hx8
        clear hy
        go_wp2_with (first
          | (at_builtin; refine wl_pushB (l := Mac.chg (F.take k) c) (y := y) rfl rfl rfl rfl rfl HR.out.1 (by rw [HTL.out]; omega) HR.out.2.size ?_; intro ad cap w2 ho2 hk2; rw [HTL.out] at ho2 ⊢; rw [← HS.out] at ho2))
        go_roundg (64 - (k + 1))
        case measure => omega
        case rel => exact ⟨k + 1, ad, cap, by omega, rfl, rfl, by simp, ho2, HR.out.2.of_but hk2 (fun j e => e)⟩
    · have hd : decide ((k : Int) < 64) = false := decide_eq_false (by omega)
      obtain rfl : k = 64 := by omega
      rw [List.take_of_length_le (by rw [HF.out.1]; exact Nat.le_refl _)] at HR
      go_wp2
      go_ret
      exact ⟨_, rfl, own_b HR.out.1 (Mac.chg_all HF.out.2.1 hc) (by rw [Mac.chg_len, HF.out.1]; decide), HR.out.2⟩
end Go.Proofs.YtfhoielfekeihaaDoor

/- From the rows' condition on the tables to their cells. Condition: the tables read as the program's text lays them. -/
namespace Go.Proofs.YtfhoielfekeihaaDoor
open Go Go.ChangeShapes Go.WideShapes Go.ChangeAt Go.RowKit
set_option maxRecDepth 100000

theorem gSq : Tryd.prog.globalNamed "weftline/sha.squareRoots" = some 0 := by kernel_rfl
theorem tSq : (Tryd.prog.globals[0]?).map (·.type) = some 111 := by kernel_rfl
theorem gCu : Tryd.prog.globalNamed "weftline/sha.cubeRoots" = some 2 := by kernel_rfl
theorem tCu : (Tryd.prog.globals[2]?).map (·.type) = some 122 := by kernel_rfl
theorem sq_all : ∀ k, k < 8 → ([1779033703, 3144134277, 1013904242, 2773480762, 1359893119, 2600822924, 528734635, 1541459225] : List Int).getD k 0 = (Sha.sqr.getD k 0 : Nat) := by decide
theorem cu_all : ∀ k, k < 64 → ([1116352408, 1899447441, 3049323471, 3921009573, 961987163, 1508970993, 2453635748, 2870763221, 3624381080, 310598401, 607225278, 1426881987, 1925078388, 2162078206, 2614888103, 3248222580, 3835390401, 4022224774, 264347078, 604807628, 770255983, 1249150122, 1555081692, 1996064986, 2554220882, 2821834349, 2952996808, 3210313671, 3336571891, 3584528711, 113926993, 338241895, 666307205, 773529912, 1294757372, 1396182291, 1695183700, 1986661051, 2177026350, 2456956037, 2730485921, 2820302411, 3259730800, 3345764771, 3516065817, 3600352804, 4094571909, 275423344, 430227734, 506948616, 659060556, 883997877, 958139571, 1322822218, 1537002063, 1747873779, 1955562222, 2024104815, 2227730452, 2361852424, 2428436474, 2756734187, 3204031479, 3329325298] : List Int).getD k 0 = (Sha.cub.getD k 0 : Nat) := by decide
theorem tabs_of2 {W : World} (h : laidMetH Tryd.prog Rows.cookieForgesRow.laid W) : Tabs W := by
  rw [MakeChecks.laidMetH_plain _ _ _ (by kernel_rfl)] at h
  obtain ⟨ps, ⟨g0, t0, cs0, f0, p0, q0, hg0, ht0, hv0, hd0, hr1, _⟩, _⟩ := h
  obtain ⟨g1, t1, cs1, f1, p1, q1, hg1, ht1, hv1, hd1, _⟩ := hr1
  obtain rfl := Option.some.inj (gSq.symm.trans hg0)
  obtain rfl := Option.some.inj (tSq.symm.trans ht0)
  obtain rfl := Option.some.inj (gCu.symm.trans hg1)
  obtain rfl := Option.some.inj (tCu.symm.trans ht1)
  refine ⟨fun k hk => ?_, fun k hk => ?_⟩
  · have h1 := ints_of_trod [1779033703, 3144134277, 1013904242, 2773480762, 1359893119, 2600822924, 528734635, 1541459225] Tryd.underlying111 Tryd.underlying23 (by kernel_rfl) hd0 k hk
    rw [World.var?_cell hg0 hv0 k, ← Array.getElem?_toList, h1, sq_all k hk]
  · have h1 := ints_of_trod [1116352408, 1899447441, 3049323471, 3921009573, 961987163, 1508970993, 2453635748, 2870763221, 3624381080, 310598401, 607225278, 1426881987, 1925078388, 2162078206, 2614888103, 3248222580, 3835390401, 4022224774, 264347078, 604807628, 770255983, 1249150122, 1555081692, 1996064986, 2554220882, 2821834349, 2952996808, 3210313671, 3336571891, 3584528711, 113926993, 338241895, 666307205, 773529912, 1294757372, 1396182291, 1695183700, 1986661051, 2177026350, 2456956037, 2730485921, 2820302411, 3259730800, 3345764771, 3516065817, 3600352804, 4094571909, 275423344, 430227734, 506948616, 659060556, 883997877, 958139571, 1322822218, 1537002063, 1747873779, 1955562222, 2024104815, 2227730452, 2361852424, 2428436474, 2756734187, 3204031479, 3329325298] Tryd.underlying122 Tryd.underlying23 (by kernel_rfl) hd1 k hk
    rw [World.var?_cell hg1 hv1 k, ← Array.getElem?_toList, h1, cu_all k hk]
end Go.Proofs.YtfhoielfekeihaaDoor

/- The same with the document's table. Condition: the tables read as the program's text lays them. -/
namespace Go.Proofs.YtfhoielfekeihaaDoor
open Go Go.ChangeShapes Go.WideShapes Go.ChangeAt Go.RowKit
set_option maxRecDepth 100000
theorem gRc : Tryd.prog.globalNamed "weftline/weftlineref04.cube" = some 1 := by kernel_rfl
theorem tRc : (Tryd.prog.globals[1]?).map (·.type) = some 122 := by kernel_rfl
theorem tabs_of3 {W : World} (h : laidMetH Tryd.prog Rows.cookieMakesRow.laid W) : Tabs W ∧ Cube W := by
  rw [MakeChecks.laidMetH_plain _ _ _ (by kernel_rfl)] at h
  obtain ⟨ps, ⟨g2, t2, cs2, f2, p2, q2, hg2, ht2, hv2, hd2, hr0, _⟩, _⟩ := h
  obtain ⟨g0, t0, cs0, f0, p0, q0, hg0, ht0, hv0, hd0, hr1, _⟩ := hr0
  obtain ⟨g1, t1, cs1, f1, p1, q1, hg1, ht1, hv1, hd1, _⟩ := hr1
  obtain rfl := Option.some.inj (gRc.symm.trans hg2)
  obtain rfl := Option.some.inj (tRc.symm.trans ht2)
  obtain rfl := Option.some.inj (gSq.symm.trans hg0)
  obtain rfl := Option.some.inj (tSq.symm.trans ht0)
  obtain rfl := Option.some.inj (gCu.symm.trans hg1)
  obtain rfl := Option.some.inj (tCu.symm.trans ht1)
  refine ⟨⟨fun k hk => ?_, fun k hk => ?_⟩, fun k hk => ?_⟩
  · have h1 := ints_of_trod [1779033703, 3144134277, 1013904242, 2773480762, 1359893119, 2600822924, 528734635, 1541459225] Tryd.underlying111 Tryd.underlying23 (by kernel_rfl) hd0 k hk
    rw [World.var?_cell hg0 hv0 k, ← Array.getElem?_toList, h1, sq_all k hk]
  · have h1 := ints_of_trod [1116352408, 1899447441, 3049323471, 3921009573, 961987163, 1508970993, 2453635748, 2870763221, 3624381080, 310598401, 607225278, 1426881987, 1925078388, 2162078206, 2614888103, 3248222580, 3835390401, 4022224774, 264347078, 604807628, 770255983, 1249150122, 1555081692, 1996064986, 2554220882, 2821834349, 2952996808, 3210313671, 3336571891, 3584528711, 113926993, 338241895, 666307205, 773529912, 1294757372, 1396182291, 1695183700, 1986661051, 2177026350, 2456956037, 2730485921, 2820302411, 3259730800, 3345764771, 3516065817, 3600352804, 4094571909, 275423344, 430227734, 506948616, 659060556, 883997877, 958139571, 1322822218, 1537002063, 1747873779, 1955562222, 2024104815, 2227730452, 2361852424, 2428436474, 2756734187, 3204031479, 3329325298] Tryd.underlying122 Tryd.underlying23 (by kernel_rfl) hd1 k hk
    rw [World.var?_cell hg1 hv1 k, ← Array.getElem?_toList, h1, cu_all k hk]
  · have h1 := ints_of_trod [1116352408, 1899447441, 3049323471, 3921009573, 961987163, 1508970993, 2453635748, 2870763221, 3624381080, 310598401, 607225278, 1426881987, 1925078388, 2162078206, 2614888103, 3248222580, 3835390401, 4022224774, 264347078, 604807628, 770255983, 1249150122, 1555081692, 1996064986, 2554220882, 2821834349, 2952996808, 3210313671, 3336571891, 3584528711, 113926993, 338241895, 666307205, 773529912, 1294757372, 1396182291, 1695183700, 1986661051, 2177026350, 2456956037, 2730485921, 2820302411, 3259730800, 3345764771, 3516065817, 3600352804, 4094571909, 275423344, 430227734, 506948616, 659060556, 883997877, 958139571, 1322822218, 1537002063, 1747873779, 1955562222, 2024104815, 2227730452, 2361852424, 2428436474, 2756734187, 3204031479, 3329325298] Tryd.underlying122 Tryd.underlying23 (by kernel_rfl) hd2 k hk
    rw [World.var?_cell hg2 hv2 k, ← Array.getElem?_toList, h1, cu_all k hk]
theorem Cube.ext {w w' : World} (h : Cube w) (he : Ext w w') : Cube w' := fun k hk => he.cell (h k hk)
end Go.Proofs.YtfhoielfekeihaaDoor
