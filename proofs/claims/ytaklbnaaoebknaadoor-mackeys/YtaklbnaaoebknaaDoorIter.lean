/- The iterator over a block's words. No condition of its own. -/
import Derived.Test.YtaklbnaaoebknaaDoorChg
import Derived.Test.YtaklbnaaoebknaaDoorFree
import Derived.Test.YtaklbnaaoebknaaDoorLast
namespace Go.Proofs.YtaklbnaaoebknaaDoor
open Go Go.RowKit Go.Shelf
set_option linter.unusedVariables false
set_option linter.unusedSimpArgs false
set_option maxRecDepth 100000
attribute [local go_sem] Oper.semAt_some

/-- The heap is as it was. -/
def SameH (w w' : World) : Prop := w'.heap = w.heap ∧ w'.os = w.os ∧ w'.tape = w.tape ∧ w'.output = w.output
theorem SameH.refl (w : World) : SameH w w := ⟨rfl, rfl, rfl, rfl⟩
theorem SameH.trans {a b c : World} (h : SameH a b) (k : SameH b c) : SameH a c := ⟨k.1.trans h.1, k.2.1.trans h.2.1, k.2.2.1.trans h.2.2.1, k.2.2.2.trans h.2.2.2⟩
theorem SameH.drewN (w : World) (q : Nat) : SameH w (w.drewN q) := ⟨rfl, rfl, rfl, rfl⟩
theorem SameH.drew (w : World) : SameH w w.drew := ⟨rfl, rfl, rfl, rfl⟩
theorem SameH.cell {w w' : World} (h : SameH w w') (a : Addr) : w'.cell? a = w.cell? a := by unfold World.cell?; rw [h.1]
theorem SameH.ext {w w' : World} (h : SameH w w') : Ext w w' := ⟨h.2.1, h.2.2.1, h.2.2.2, by rw [h.1]; exact Nat.le_refl _, fun k _ => by rw [h.1]⟩
theorem mod16_lt (k : Nat) : k % 16 < 16 := Nat.mod_lt _ (by decide)
theorem sub_at (k d : Nat) (h : d ≤ k) (hk : k < 64) : wrap64 ((k : Int) - (d : Int)) = ((k - d : Nat) : Int) := by unfold wrap64; omega
theorem row45 : RowT Tryd.prog 42 64 := ⟨⟨_, Tryd.underlying42, rfl⟩, by kernel_rfl⟩
theorem m_sum (a b c d : Nat) : ((a : Int) + (((b : Int) + (c : Int)) % 4294967296 + (d : Int)) % 4294967296) % 4294967296 = (((a + b + c + d) % 4294967296 : Nat) : Int) := by omega

set_option maxHeartbeats 400000 in
theorem words_call (C : Array Value) (w : World) :
    Calls Tryd.prog 37 #[.agg C] w fun e w' => e = .returned (.func (.func 40) #[] #[.pointer (some ⟨w.heap.size, 0, none⟩)]) ∧ w' = w.alloc (.cells C 42) := by
  go_enter Tryd.func37, Tryd.ntmps37
  go_wp2
  go_ret
  exact ⟨rfl, rfl⟩

set_option maxHeartbeats 4000000 in
theorem words_seq (B : List Nat) (b : Nat) (w : World) (hl : B.length = 64) (hB : Sha.AllB B) (hb0 : Blk w b (bA B) 42) :
    SeqFree Tryd.prog 40 #[.pointer (some ⟨b, 0, none⟩)] (fun x : Fin 64 => #[Value.int .i64 (x.1 : Int), Value.int .u32 (Sha.mw B x.1 : Nat)]) (KpS (· = b)) (fun ys => ys = List.finRange 64) (fun pre => pre ≠ [] ∧ pre <+: List.finRange 64) 64 w := by
  intro n l J Jx W hn hW hJ hJx hY h0
  have hro : Fence.wide.round = none := rfl
  have hF : ∀ k, Fence.wide.fn k := fun _ => trivial
  have hbW : Blk W b (bA B) 42 := (hW.block b hb0.lt).trans hb0
  have hbl : b < W.heap.size := hbW.lt
  have hn1 : 1 ≤ n := by omega
  refine callsIn_of_wp Tryd.func40 rfl (hF 40) ?_ hro
  simp only [Tryd.ntmps40, List.size_toArray, List.length_cons, List.length_nil, Nat.reduceAdd, Nat.reduceSub, Array.replicate_succ, Array.replicate_zero, List.push_toArray, List.append_toArray, List.nil_append, List.cons_append]
  gi_wp2_with fail
  obtain ⟨Wa, hWa⟩ : ∃ Wa, W.alloc (.cells (uA (Sha.ring B 0)) 76) = Wa := ⟨_, rfl⟩
  have hm0 : Blk Wa W.heap.size (uA (Sha.ring B 0)) 76 := by rw [← hWa]; exact Blk.new _ _ _
  have hEa : Ext W Wa := by rw [← hWa]; exact Ext.alloc _ _
  have hJa : J [] Wa := hJ _ _ _ h0 hEa
  change W.alloc (.cells #[.int .u32 0, .int .u32 0, .int .u32 0, .int .u32 0, .int .u32 0, .int .u32 0, .int .u32 0, .int .u32 0, .int .u32 0, .int .u32 0, .int .u32 0, .int .u32 0, .int .u32 0, .int .u32 0, .int .u32 0, .int .u32 0] 76) = Wa at hWa
  rw [hWa]
  clear hWa
  have HNE : Hid (b < W.heap.size) := hbl
  clear hbl
  gi_loopw [5] (fun i wr => ∃ k : Nat, k ≤ 64 ∧ i = .int .i64 (k : Int) ∧ J (fins 64 k) wr ∧ Blk wr W.heap.size (uA (Sha.ring B k)) 76 ∧ Blk wr b (bA B) 42) (fun i wr => 64 - (intOf i).toNat)
  case atStart => exact ⟨0, by omega, rfl, hJa, hm0, hbW.ext hEa⟩
  case round =>
    obtain ⟨k, hk, rfl, hJr, hMr, hbr⟩ := hrel
    by_cases hlt : k < 64
    · have hd : decide ((k : Int) < 64) = true := decide_eq_true (by omega)
      have h15 := and15i k (by omega)
      have hmd := mod16_lt k
      by_cases h16 : k < 16
      · have hd2 : decide ((k : Int) < 16) = true := decide_eq_true (by omega)
        have hkk : k % 16 = k := by omega
        have HKK : Hid (k % 16 = k) := hkk
        rw [hkk] at h15
        clear hkk hmd
        have HR : Hid ((Sha.ring B k).set k (Sha.word B k) = Sha.ring B (k + 1)) := show _ = _ by rw [Sha.ring, HKK.out, Sha.mw_small h16]
        have HG : Hid ((Sha.ring B (k + 1)).getD k 0 = Sha.mw B k) := show _ = _ by have := Sha.ring_get B (k + 1) k (by omega) (by omega); rwa [HKK.out] at this
        gi_wp2_with (first
          | (refine wlIn_load rfl row45 rfl rfl hbr (by rw [bA_size, hl]) ?_)
          | (gi_at_call 41; refine (callsIn_wide.2 (wordAt_any B k _ hl hB h16)).mono ?_; rintro e w2 ⟨rfl, he2⟩)
          | (refine wlIn_set (v := .int .u32 (Sha.word B k : Nat)) rfl one36 rfl rfl rfl rfl rfl (hMr.ext he2) (by rw [uA_size, Sha.ring_len]; omega) ?_; intro w3 hM3 hk3 hx; clear hx; rw [uA_set, HR.out] at hM3; have hc3 := (hM3.cell k).trans (uA_get _ k (by rw [Sha.ring_len]; omega)); rw [HG.out] at hc3))
        have hb3 : Blk w3 b (bA B) 42 := (hbr.ext he2).but hk3 (Nat.ne_of_lt HNE.out)
        have hJ3 : J (fins 64 k) w3 := hJ _ _ _ hJr (Below.trans (Below.mono he2 (Nat.le_of_lt hMr.lt)) (hk3.below (fun x e => Nat.le_of_eq e.symm) (Nat.le_of_lt (hMr.ext he2).lt)))
        obtain ⟨fn, tmps, assign, body, hy, hRd⟩ := hY (fins 64 k) ⟨k, hlt⟩ w3 hJ3 (by rw [fins_len (by omega)]; exact hlt)
        dsimp only at hy
        try rw [hy]
        gi_wp2
        refine (round_any hRd).mono ?_
        rintro e W3 ⟨hka, (⟨rfl, hJ4, hk4⟩ | ⟨rfl, hJx4⟩)⟩
        · gi_wp2
          go_roundw
          case rel => exact ⟨k + 1, by omega, by simp, by rw [fins_succ hlt]; exact hJ4, (hka.same _ (Nat.le_refl _) hM3.lt).trans hM3, (hk4 b rfl).trans hb3⟩
          case measure => simp [intOf]; omega
        · gi_wp2
          refine bodyPost_ret (results_none rfl _ _ _) rfl ?_
          exact ⟨⟨_, rfl⟩, .inr ⟨_, ⟨by simp, by rw [← fins_succ hlt]; exact fins_pre _ _⟩, hJx4⟩⟩
      · have hd2 : decide ((k : Int) < 16) = false := decide_eq_false (by omega)
        gi_wp2_with fail
        refine wpIn_wide.2 ?_
        have HC : ∀ {wx : World}, SameH wr.drew wx → ∀ j, j < k → k ≤ j + 16 → wx.cell? ⟨W.heap.size, j % 16, none⟩ = some (.int .u32 (Sha.mw B j : Nat)) := fun hx j h1 h2 => by
          rw [hx.cell, World.cell?_drew, hMr.cell, uA_get _ _ (by rw [Sha.ring_len]; exact mod16_lt j), Sha.ring_get B k j h1 h2]
        have HBM : ∀ {wx : World}, SameH wr.drew wx → Blk wx W.heap.size (uA (Sha.ring B k)) 76 := fun hx => hMr.of (by rw [hx.1]; rfl)
        obtain ⟨d15, hd15⟩ : ∃ x, x = k - 15 := ⟨_, rfl⟩
        obtain ⟨p15, hp15⟩ : ∃ x, x = d15 % 16 := ⟨_, rfl⟩
        obtain ⟨m15, hm15⟩ : ∃ x, x = Sha.mw B d15 := ⟨_, rfl⟩
        have f15 : ((k : Int) - 15) = (d15 : Int) := by omega
        have e15 : bits .and .i64 (d15 : Int) 15 = (p15 : Int) := by rw [hp15]; exact and15i d15 (by omega)
        have l15 : p15 < 16 := by rw [hp15]; exact mod16_lt _
        have L15 : (p15 : Int) < 16 := by omega
        have g15 : IntKind.i64.wrap (d15 : Int) = (d15 : Int) := by rw [IntKind.wrap_i64]; omega
        have lm15 : m15 < 4294967296 := by rw [hm15]; exact Sha.mw_lt hB _
        have HC15 : ∀ {wx : World}, SameH wr.drew wx → wx.cell? ⟨W.heap.size, p15, none⟩ = some (.int .u32 (m15 : Int)) := fun hx => by rw [hp15, hm15]; exact HC hx d15 (by omega) (by omega)
        obtain ⟨d7, hd7⟩ : ∃ x, x = k - 7 := ⟨_, rfl⟩
        obtain ⟨p7, hp7⟩ : ∃ x, x = d7 % 16 := ⟨_, rfl⟩
        obtain ⟨m7, hm7⟩ : ∃ x, x = Sha.mw B d7 := ⟨_, rfl⟩
        have f7 : ((k : Int) - 7) = (d7 : Int) := by omega
        have e7 : bits .and .i64 (d7 : Int) 15 = (p7 : Int) := by rw [hp7]; exact and15i d7 (by omega)
        have l7 : p7 < 16 := by rw [hp7]; exact mod16_lt _
        have L7 : (p7 : Int) < 16 := by omega
        have g7 : IntKind.i64.wrap (d7 : Int) = (d7 : Int) := by rw [IntKind.wrap_i64]; omega
        have lm7 : m7 < 4294967296 := by rw [hm7]; exact Sha.mw_lt hB _
        have HC7 : ∀ {wx : World}, SameH wr.drew wx → wx.cell? ⟨W.heap.size, p7, none⟩ = some (.int .u32 (m7 : Int)) := fun hx => by rw [hp7, hm7]; exact HC hx d7 (by omega) (by omega)
        obtain ⟨d2, hd2⟩ : ∃ x, x = k - 2 := ⟨_, rfl⟩
        obtain ⟨p2, hp2⟩ : ∃ x, x = d2 % 16 := ⟨_, rfl⟩
        obtain ⟨m2, hm2⟩ : ∃ x, x = Sha.mw B d2 := ⟨_, rfl⟩
        have f2 : ((k : Int) - 2) = (d2 : Int) := by omega
        have e2 : bits .and .i64 (d2 : Int) 15 = (p2 : Int) := by rw [hp2]; exact and15i d2 (by omega)
        have l2 : p2 < 16 := by rw [hp2]; exact mod16_lt _
        have L2 : (p2 : Int) < 16 := by omega
        have g2 : IntKind.i64.wrap (d2 : Int) = (d2 : Int) := by rw [IntKind.wrap_i64]; omega
        have lm2 : m2 < 4294967296 := by rw [hm2]; exact Sha.mw_lt hB _
        have HC2 : ∀ {wx : World}, SameH wr.drew wx → wx.cell? ⟨W.heap.size, p2, none⟩ = some (.int .u32 (m2 : Int)) := fun hx => by rw [hp2, hm2]; exact HC hx d2 (by omega) (by omega)
        obtain ⟨p0, hp0⟩ : ∃ x, x = k % 16 := ⟨_, rfl⟩
        obtain ⟨m16, hm16⟩ : ∃ x, x = Sha.mw B (k - 16) := ⟨_, rfl⟩
        have e0 : bits .and .i64 (k : Int) 15 = (p0 : Int) := by rw [hp0]; exact h15
        have l0 : p0 < 16 := by rw [hp0]; exact hmd
        have L0 : (p0 : Int) < 16 := by omega
        have HC0 : ∀ {wx : World}, SameH wr.drew wx → wx.cell? ⟨W.heap.size, p0, none⟩ = some (.int .u32 (m16 : Int)) := fun hx => by rw [hp0, hm16, show k % 16 = (k - 16) % 16 by omega]; exact HC hx (k - 16) (by omega) (by omega)
        obtain ⟨y1, hy1⟩ : ∃ x, x = (Sha.spr m15 7 18 3 + m7) % 4294967296 := ⟨_, rfl⟩
        obtain ⟨y2, hy2⟩ : ∃ x, x = (y1 + Sha.spr m2 17 19 10) % 4294967296 := ⟨_, rfl⟩
        obtain ⟨y3, hy3⟩ : ∃ x, x = (m16 + y2) % 4294967296 := ⟨_, rfl⟩
        have z1 : IntKind.u32.wrap ((Sha.spr m15 7 18 3 : Nat) + (m7 : Int)) = (y1 : Int) := by rw [IntKind.wrap_u32]; omega
        have z2 : IntKind.u32.wrap ((y1 : Int) + (Sha.spr m2 17 19 10 : Nat)) = (y2 : Int) := by rw [IntKind.wrap_u32]; omega
        have z3 : IntKind.u32.wrap ((m16 : Int) + (y2 : Int)) = (y3 : Int) := by rw [IntKind.wrap_u32]; omega
        have HY3 : Hid (y3 = Sha.mw B k) := by
          have : y3 = Sha.nx m16 m15 m7 m2 := by unfold Sha.nx; omega
          have h2 := Sha.mw_big (B := B) (i := k) (by omega)
          rw [← hm16, ← hd15, ← hd7, ← hd2, ← hm15, ← hm7, ← hm2] at h2
          exact this.trans h2.symm
        have HP0 : Hid (p0 = k % 16) := hp0
        clear hy1 hy2 hy3 hp0 hm16 HC hm15 hm7 hm2 hp15 hp7 hp2 hd15 hd7 hd2
        refine wp_region_lastD (fun t => bif Nat.ble 15 t && Nat.ble t 39 then some (t - 15) else none) 49 SameH
          [Is (.int .i64 (k : Int)),
           Is (.int .i64 (p0 : Int)),
           Is (.pointer (some ⟨W.heap.size, p0, none⟩)),
           Is (.int .u32 (m16 : Int)),
           Is (.int .i64 (k : Int)),
           Is (.int .i64 (d15 : Int)),
           Is (.int .i64 (p15 : Int)),
           Is (.pointer (some ⟨W.heap.size, p15, none⟩)),
           Is (.int .u32 (m15 : Int)),
           Is (.int .u32 (Sha.spr m15 7 18 3 : Nat)),
           Is (.int .i64 (k : Int)),
           Is (.int .i64 (d7 : Int)),
           Is (.int .i64 (p7 : Int)),
           Is (.pointer (some ⟨W.heap.size, p7, none⟩)),
           Is (.int .u32 (m7 : Int)),
           Is (.int .u32 (y1 : Int)),
           Is (.int .i64 (k : Int)),
           Is (.int .i64 (d2 : Int)),
           Is (.int .i64 (p2 : Int)),
           Is (.pointer (some ⟨W.heap.size, p2, none⟩)),
           Is (.int .u32 (m2 : Int)),
           Is (.int .u32 (Sha.spr m2 17 19 10 : Nat)),
           Is (.int .u32 (y2 : Int)),
           Is (.int .u32 (y3 : Int)),
           Is (.pointer (some ⟨W.heap.size, p0, none⟩))]
          (by intro h; cases h) rfl (by kernel_rfl) (by kernel_rfl) rfl (by kernel_rfl) SameH.refl (fun _ _ _ => SameH.trans) ?_ (fun wx wy => wy = wx.setCell ⟨W.heap.size, p0, none⟩ (.int .u32 (y3 : Int))) ?_ ?_ ?_
        · exact KeepAll.is (KeepAll.is (KeepAll.is (KeepAll.is (KeepAll.is (KeepAll.is (KeepAll.is (KeepAll.is (KeepAll.is (KeepAll.is (KeepAll.is (KeepAll.is (KeepAll.is (KeepAll.is (KeepAll.is (KeepAll.is (KeepAll.is (KeepAll.is (KeepAll.is (KeepAll.is (KeepAll.is (KeepAll.is (KeepAll.is (KeepAll.is (KeepAll.is (KeepAll.nil)))))))))))))))))))))))))
        · refine GoodAll.cons ?_ ?_
          · intro r wx hR hx
            obtain ⟨h1, _⟩ := hx
            replace h1 : r (.tmp 4) = (.int .i64 (k : Int)) := h1
            exact give_move (.inl rfl) ⟨SameH.refl _, h1⟩
          refine GoodAll.cons ?_ ?_
          · intro r wx hR hx
            obtain ⟨h1, h2, _⟩ := hx
            replace h1 : r (.tmp 15) = (.int .i64 (k : Int)) := h1
            replace h2 : r (.const (.int .i64 15)) = .int .i64 15 := h2
            exact give_of (by simp [execOp, h1, h2, e0, go_sem]) ⟨SameH.refl _, rfl⟩
          refine GoodAll.cons ?_ ?_
          · intro r wx hR hx
            obtain ⟨h1, h2, _⟩ := hx
            replace h1 : r (.tmp 3) = (.pointer (some ⟨W.heap.size, 0, none⟩)) := h1
            replace h2 : r (.tmp 16) = (.int .i64 (p0 : Int)) := h2
            exact give_of (by simp [execOp, h1, h2, L0, go_sem]) ⟨SameH.refl _, rfl⟩
          refine GoodAll.cons ?_ ?_
          · intro r wx hR hx
            obtain ⟨h1, _⟩ := hx
            replace h1 : r (.tmp 17) = (.pointer (some ⟨W.heap.size, p0, none⟩)) := h1
            exact give_of (exec_get one36 rfl h1 (HC0 hR)) ⟨SameH.refl _, rfl⟩
          refine GoodAll.cons ?_ ?_
          · intro r wx hR hx
            obtain ⟨h1, _⟩ := hx
            replace h1 : r (.tmp 4) = (.int .i64 (k : Int)) := h1
            exact give_move (.inl rfl) ⟨SameH.refl _, h1⟩
          refine GoodAll.cons ?_ ?_
          · intro r wx hR hx
            obtain ⟨h1, h2, _⟩ := hx
            replace h1 : r (.tmp 19) = (.int .i64 (k : Int)) := h1
            replace h2 : r (.const (.int .i64 15)) = .int .i64 15 := h2
            exact give_of (by simp [execOp, h1, h2, f15, g15, go_sem]) ⟨SameH.refl _, rfl⟩
          refine GoodAll.cons ?_ ?_
          · intro r wx hR hx
            obtain ⟨h1, h2, _⟩ := hx
            replace h1 : r (.tmp 20) = (.int .i64 (d15 : Int)) := h1
            replace h2 : r (.const (.int .i64 15)) = .int .i64 15 := h2
            exact give_of (by simp [execOp, h1, h2, e15, go_sem]) ⟨SameH.refl _, rfl⟩
          refine GoodAll.cons ?_ ?_
          · intro r wx hR hx
            obtain ⟨h1, h2, _⟩ := hx
            replace h1 : r (.tmp 3) = (.pointer (some ⟨W.heap.size, 0, none⟩)) := h1
            replace h2 : r (.tmp 21) = (.int .i64 (p15 : Int)) := h2
            exact give_of (by simp [execOp, h1, h2, L15, go_sem]) ⟨SameH.refl _, rfl⟩
          refine GoodAll.cons ?_ ?_
          · intro r wx hR hx
            obtain ⟨h1, _⟩ := hx
            replace h1 : r (.tmp 22) = (.pointer (some ⟨W.heap.size, p15, none⟩)) := h1
            exact give_of (exec_get one36 rfl h1 (HC15 hR)) ⟨SameH.refl _, rfl⟩
          refine GoodAll.cons ?_ ?_
          · intro r wx hR hx
            obtain ⟨h1, h2, h3, h4, h5, _⟩ := hx
            replace h1 : r (.func 42) = .func (.func 42) #[] #[] := h1
            replace h2 : r (.tmp 23) = (.int .u32 (m15 : Int)) := h2
            replace h3 : r (.const (.int .i64 7)) = .int .i64 7 := h3
            replace h4 : r (.const (.int .i64 18)) = .int .i64 18 := h4
            replace h5 : r (.const (.int .i64 3)) = .int .i64 3 := h5
            refine give_func #[.int .u32 (m15 : Int), .int .i64 7, .int .i64 18, .int .i64 3] rfl h1 Tryd.call42 (by simp [h2, h3, h4, h5]) ?_
            refine (spread_7 _ _ lm15).mono ?_
            rintro e w' ⟨rfl, q, rfl⟩
            exact ⟨_, rfl, SameH.drewN _ _, rfl⟩
          refine GoodAll.cons ?_ ?_
          · intro r wx hR hx
            obtain ⟨h1, _⟩ := hx
            replace h1 : r (.tmp 4) = (.int .i64 (k : Int)) := h1
            exact give_move (.inl rfl) ⟨SameH.refl _, h1⟩
          refine GoodAll.cons ?_ ?_
          · intro r wx hR hx
            obtain ⟨h1, h2, _⟩ := hx
            replace h1 : r (.tmp 25) = (.int .i64 (k : Int)) := h1
            replace h2 : r (.const (.int .i64 7)) = .int .i64 7 := h2
            exact give_of (by simp [execOp, h1, h2, f7, g7, go_sem]) ⟨SameH.refl _, rfl⟩
          refine GoodAll.cons ?_ ?_
          · intro r wx hR hx
            obtain ⟨h1, h2, _⟩ := hx
            replace h1 : r (.tmp 26) = (.int .i64 (d7 : Int)) := h1
            replace h2 : r (.const (.int .i64 15)) = .int .i64 15 := h2
            exact give_of (by simp [execOp, h1, h2, e7, go_sem]) ⟨SameH.refl _, rfl⟩
          refine GoodAll.cons ?_ ?_
          · intro r wx hR hx
            obtain ⟨h1, h2, _⟩ := hx
            replace h1 : r (.tmp 3) = (.pointer (some ⟨W.heap.size, 0, none⟩)) := h1
            replace h2 : r (.tmp 27) = (.int .i64 (p7 : Int)) := h2
            exact give_of (by simp [execOp, h1, h2, L7, go_sem]) ⟨SameH.refl _, rfl⟩
          refine GoodAll.cons ?_ ?_
          · intro r wx hR hx
            obtain ⟨h1, _⟩ := hx
            replace h1 : r (.tmp 28) = (.pointer (some ⟨W.heap.size, p7, none⟩)) := h1
            exact give_of (exec_get one36 rfl h1 (HC7 hR)) ⟨SameH.refl _, rfl⟩
          refine GoodAll.cons ?_ ?_
          · intro r wx hR hx
            obtain ⟨h1, h2, _⟩ := hx
            replace h1 : r (.tmp 24) = (.int .u32 (Sha.spr m15 7 18 3 : Nat)) := h1
            replace h2 : r (.tmp 29) = (.int .u32 (m7 : Int)) := h2
            exact give_of (by simp [execOp, h1, h2, z1, go_sem]) ⟨SameH.refl _, rfl⟩
          refine GoodAll.cons ?_ ?_
          · intro r wx hR hx
            obtain ⟨h1, _⟩ := hx
            replace h1 : r (.tmp 4) = (.int .i64 (k : Int)) := h1
            exact give_move (.inl rfl) ⟨SameH.refl _, h1⟩
          refine GoodAll.cons ?_ ?_
          · intro r wx hR hx
            obtain ⟨h1, h2, _⟩ := hx
            replace h1 : r (.tmp 31) = (.int .i64 (k : Int)) := h1
            replace h2 : r (.const (.int .i64 2)) = .int .i64 2 := h2
            exact give_of (by simp [execOp, h1, h2, f2, g2, go_sem]) ⟨SameH.refl _, rfl⟩
          refine GoodAll.cons ?_ ?_
          · intro r wx hR hx
            obtain ⟨h1, h2, _⟩ := hx
            replace h1 : r (.tmp 32) = (.int .i64 (d2 : Int)) := h1
            replace h2 : r (.const (.int .i64 15)) = .int .i64 15 := h2
            exact give_of (by simp [execOp, h1, h2, e2, go_sem]) ⟨SameH.refl _, rfl⟩
          refine GoodAll.cons ?_ ?_
          · intro r wx hR hx
            obtain ⟨h1, h2, _⟩ := hx
            replace h1 : r (.tmp 3) = (.pointer (some ⟨W.heap.size, 0, none⟩)) := h1
            replace h2 : r (.tmp 33) = (.int .i64 (p2 : Int)) := h2
            exact give_of (by simp [execOp, h1, h2, L2, go_sem]) ⟨SameH.refl _, rfl⟩
          refine GoodAll.cons ?_ ?_
          · intro r wx hR hx
            obtain ⟨h1, _⟩ := hx
            replace h1 : r (.tmp 34) = (.pointer (some ⟨W.heap.size, p2, none⟩)) := h1
            exact give_of (exec_get one36 rfl h1 (HC2 hR)) ⟨SameH.refl _, rfl⟩
          refine GoodAll.cons ?_ ?_
          · intro r wx hR hx
            obtain ⟨h1, h2, h3, h4, h5, _⟩ := hx
            replace h1 : r (.func 42) = .func (.func 42) #[] #[] := h1
            replace h2 : r (.tmp 35) = (.int .u32 (m2 : Int)) := h2
            replace h3 : r (.const (.int .i64 17)) = .int .i64 17 := h3
            replace h4 : r (.const (.int .i64 19)) = .int .i64 19 := h4
            replace h5 : r (.const (.int .i64 10)) = .int .i64 10 := h5
            refine give_func #[.int .u32 (m2 : Int), .int .i64 17, .int .i64 19, .int .i64 10] rfl h1 Tryd.call42 (by simp [h2, h3, h4, h5]) ?_
            refine (spread_17 _ _ lm2).mono ?_
            rintro e w' ⟨rfl, q, rfl⟩
            exact ⟨_, rfl, SameH.drewN _ _, rfl⟩
          refine GoodAll.cons ?_ ?_
          · intro r wx hR hx
            obtain ⟨h1, h2, _⟩ := hx
            replace h1 : r (.tmp 30) = (.int .u32 (y1 : Int)) := h1
            replace h2 : r (.tmp 36) = (.int .u32 (Sha.spr m2 17 19 10 : Nat)) := h2
            exact give_of (by simp [execOp, h1, h2, z2, go_sem]) ⟨SameH.refl _, rfl⟩
          refine GoodAll.cons ?_ ?_
          · intro r wx hR hx
            obtain ⟨h1, h2, _⟩ := hx
            replace h1 : r (.tmp 18) = (.int .u32 (m16 : Int)) := h1
            replace h2 : r (.tmp 37) = (.int .u32 (y2 : Int)) := h2
            exact give_of (by simp [execOp, h1, h2, z3, go_sem]) ⟨SameH.refl _, rfl⟩
          refine GoodAll.cons ?_ ?_
          · intro r wx hR hx
            obtain ⟨h1, h2, _⟩ := hx
            replace h1 : r (.tmp 3) = (.pointer (some ⟨W.heap.size, 0, none⟩)) := h1
            replace h2 : r (.tmp 16) = (.int .i64 (p0 : Int)) := h2
            exact give_of (by simp [execOp, h1, h2, L0, go_sem]) ⟨SameH.refl _, rfl⟩
          exact GoodAll.nil
        · intro r wx hR hx
          obtain ⟨h1, h2, _⟩ := hx
          replace h1 : r (.tmp 39) = (.pointer (some ⟨W.heap.size, p0, none⟩)) := h1
          replace h2 : r (.tmp 38) = (.int .u32 (y3 : Int)) := h2
          exact give_skip (exec_set one36 rfl h1 h2 rfl rfl (HBM hR) (by rw [uA_size, Sha.ring_len]; exact l0)) rfl
        · intro vs w6 w7 a7 hR hE hold ha
          have hv0 : vs 0 = (.int .i64 (k : Int)) := hold.at 0
          have hv1 : vs 1 = (.int .i64 (p0 : Int)) := hold.at 1
          have hv2 : vs 2 = (.pointer (some ⟨W.heap.size, p0, none⟩)) := hold.at 2
          have hv3 : vs 3 = (.int .u32 (m16 : Int)) := hold.at 3
          have hv4 : vs 4 = (.int .i64 (k : Int)) := hold.at 4
          have hv5 : vs 5 = (.int .i64 (d15 : Int)) := hold.at 5
          have hv6 : vs 6 = (.int .i64 (p15 : Int)) := hold.at 6
          have hv7 : vs 7 = (.pointer (some ⟨W.heap.size, p15, none⟩)) := hold.at 7
          have hv8 : vs 8 = (.int .u32 (m15 : Int)) := hold.at 8
          have hv9 : vs 9 = (.int .u32 (Sha.spr m15 7 18 3 : Nat)) := hold.at 9
          have hv10 : vs 10 = (.int .i64 (k : Int)) := hold.at 10
          have hv11 : vs 11 = (.int .i64 (d7 : Int)) := hold.at 11
          have hv12 : vs 12 = (.int .i64 (p7 : Int)) := hold.at 12
          have hv13 : vs 13 = (.pointer (some ⟨W.heap.size, p7, none⟩)) := hold.at 13
          have hv14 : vs 14 = (.int .u32 (m7 : Int)) := hold.at 14
          have hv15 : vs 15 = (.int .u32 (y1 : Int)) := hold.at 15
          have hv16 : vs 16 = (.int .i64 (k : Int)) := hold.at 16
          have hv17 : vs 17 = (.int .i64 (d2 : Int)) := hold.at 17
          have hv18 : vs 18 = (.int .i64 (p2 : Int)) := hold.at 18
          have hv19 : vs 19 = (.pointer (some ⟨W.heap.size, p2, none⟩)) := hold.at 19
          have hv20 : vs 20 = (.int .u32 (m2 : Int)) := hold.at 20
          have hv21 : vs 21 = (.int .u32 (Sha.spr m2 17 19 10 : Nat)) := hold.at 21
          have hv22 : vs 22 = (.int .u32 (y2 : Int)) := hold.at 22
          have hv23 : vs 23 = (.int .u32 (y3 : Int)) := hold.at 23
          have hv24 : vs 24 = (.pointer (some ⟨W.heap.size, p0, none⟩)) := hold.at 24
          simp only [putAll, Act.put, hv0, hv1, hv2, hv3, hv4, hv5, hv6, hv7, hv8, hv9, hv10, hv11, hv12, hv13, hv14, hv15, hv16, hv17, hv18, hv19, hv20, hv21, hv22, hv23, hv24, List.setIfInBounds_toArray, List.set_cons_succ, List.set_cons_zero] at ha
          subst ha
          clear hold hv0 hv1 hv2 hv3 hv4 hv5 hv6 hv7 hv8 hv9 hv10 hv11 hv12 hv13 hv14 hv15 hv16 hv17 hv18 hv19 hv20 hv21 hv22 hv23 hv24
          subst hE
          have HR : Hid ((Sha.ring B k).set p0 y3 = Sha.ring B (k + 1)) := show _ = _ by rw [Sha.ring, HP0.out, HY3.out]
          have HG : Hid ((Sha.ring B (k + 1)).getD p0 0 = Sha.mw B k) := show _ = _ by rw [HP0.out]; exact Sha.ring_get B (k + 1) k (by omega) (by omega)
          have hM3 := (HBM hR).set p0 (.int .u32 (y3 : Int))
          rw [uA_set, HR.out] at hM3
          have hb3 : Blk (w6.setCell ⟨W.heap.size, p0, none⟩ (.int .u32 (y3 : Int))) b (bA B) 42 := (hbr.ext ((Ext.drew _).trans hR.ext)).other (Nat.ne_of_lt HNE.out) _ _
          have hJ3 : J (fins 64 k) (w6.setCell ⟨W.heap.size, p0, none⟩ (.int .u32 (y3 : Int))) := hJ _ _ _ hJr (Below.trans (Below.mono ((Ext.drew _).trans hR.ext) (Nat.le_of_lt hMr.lt)) ⟨rfl, rfl, rfl, by simp, fun x hx => block_other (by omega) _ _⟩)
          have hc3 := (hM3.cell p0).trans (uA_get _ p0 (by rw [Sha.ring_len]; exact l0))
          rw [HG.out] at hc3
          generalize w6.setCell ⟨W.heap.size, p0, none⟩ (.int .u32 (y3 : Int)) = w3 at *
          refine ‹∀ (a : Act) (w : World), Code.wpIn Fence.wide n Tryd.prog _ _ a w → _› _ _ ?_
          clear h15 hmd
          obtain ⟨fn, tmps, assign, body, hy, hRd⟩ := hY (fins 64 k) ⟨k, hlt⟩ w3 hJ3 (by rw [fins_len (by omega)]; exact hlt)
          dsimp only at hy
          try rw [hy]
          gi_wp2
          refine (round_any hRd).mono ?_
          rintro e W3 ⟨hka, (⟨rfl, hJ4, hk4⟩ | ⟨rfl, hJx4⟩)⟩
          · gi_wp2
            go_roundw
            case rel => exact ⟨k + 1, by omega, by simp, by rw [fins_succ hlt]; exact hJ4, (hka.same _ (Nat.le_refl _) hM3.lt).trans hM3, (hk4 b rfl).trans hb3⟩
            case measure => simp [intOf]; omega
          · gi_wp2
            refine bodyPost_ret (results_none rfl _ _ _) rfl ?_
            exact ⟨⟨_, rfl⟩, .inr ⟨_, ⟨by simp, by rw [← fins_succ hlt]; exact fins_pre _ _⟩, hJx4⟩⟩
    · have hd : decide ((k : Int) < 64) = false := decide_eq_false (by omega)
      gi_wp2
      go_end0
      refine ⟨⟨_, rfl⟩, .inl ⟨_, ?_, hJr⟩⟩
      obtain rfl : k = 64 := by omega
      exact fins_all 64
end Go.Proofs.YtaklbnaaoebknaaDoor
