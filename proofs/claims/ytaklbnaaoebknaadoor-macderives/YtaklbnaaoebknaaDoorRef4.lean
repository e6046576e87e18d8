/- The document's own digest: what this function answers. Condition: the table cube holds what the text lays. -/
import Derived.Test.YtaklbnaaoebknaaDoorRef3
namespace Go.Proofs.YtaklbnaaoebknaaDoor
open Go Go.RowKit
set_option linter.unusedVariables false
set_option linter.unusedSimpArgs false
set_option maxRecDepth 100000

def Cube (w : World) : Prop := ∀ k, k < 64 → w.cell? ⟨1, k, none⟩ = some (.int .u32 (Sha.cub.getD k 0 : Nat))
theorem row24 : RowT Tryd.prog 24 32 := ⟨⟨_, Tryd.underlying24, rfl⟩, by kernel_rfl⟩
theorem zero24 : (Tryd.prog.info? 24).bind (·.zero) = some (.agg (bA (List.replicate 32 0))) := by kernel_rfl
theorem ex8 {L : List Nat} (h : L.length = 8) : ∃ h0 h1 h2 h3 h4 h5 h6 h7, L = [h0, h1, h2, h3, h4, h5, h6, h7] := ⟨_, _, _, _, _, _, _, _, Sha.list8 h⟩
theorem sliced64 (gb l c : Nat) (h : l + 64 ≤ c) : sliced (some ⟨gb, 0, none⟩) l (l + 64) c 1 = .slice (some ⟨gb, l, none⟩) 64 (c - l) := by
  unfold sliced
  rw [if_neg (by omega)]
  simp [add_plain]
theorem exec_slice2 {r : Operand → Value} {o : Oper} {x lo hi : Operand} {w : World} {gb n c l : Nat} (ho : o.op = .slice 22 x (some lo) (some hi) none) (h1 : r x = .slice (some ⟨gb, 0, none⟩) n c) (h2 : r lo = .int .i64 (l : Int)) (h3 : r hi = .int .i64 ((l : Int) + 64)) (hk : l + 64 ≤ c) :
    (execOp r o).run Tryd.prog w = .ok (.value (.slice (some ⟨gb, l, none⟩) 64 (c - l))) w := by
  have := exec_slice_lh byteT ho w (some ⟨gb, 0, none⟩) n c l (l + 64) .i64 .i64 h1 h2 (by rw [h3]; rfl) (by omega) hk
  rwa [sliced64 gb l c hk] at this
theorem OwnB.butR {S : Nat → Prop} {w w' : World} {base : Nat} {e : TypeId} {v : Value} {l : List Nat} (h : OwnB w base e v l) (hk : KeepBut S w w') (hn : ∀ g, blockOf v = some g → ¬ S g) : OwnB w' base e v l := by
  obtain ⟨h1, ⟨g, cap, rfl, hg, hlt, hle, hm⟩, h2, h3⟩ := h
  refine ⟨h1, ⟨g, cap, rfl, hg, Nat.lt_of_lt_of_le hlt hk.size, hle, hm⟩, h2, ?_⟩
  rcases h3 with ⟨h3, _⟩ | ⟨g', cap', cur, h3, h4, h5, h6⟩
  · simp at h3
  · refine .inr ⟨g', cap', cur, h3, h4, ?_, h6⟩
    simp at h3
    obtain ⟨rfl, rfl⟩ := h3
    rw [hk.block g hlt (hn g (by simp [blockOf]))]; exact h5

set_option maxHeartbeats 16000000 in
theorem refSum_any (v : Value) (T : List Nat) (w : World) (hv : BytesAt w v T) (hT : T.length ≤ 20000) (hC : Cube w) :
    Calls Tryd.prog 23 #[v] w fun e w' => e = .returned (.agg (bA (Sha.dgst T))) ∧ Ext w w' := by
  have HV : Hid (BytesAt w v T ∧ Cube w ∧ T.length ≤ 20000) := ⟨hv, hC, hT⟩
  obtain ⟨a, cap, rfl, _, _⟩ := hv.form
  clear hv hC hT
  rename_i y1 y2
  clear y1 y2
  obtain ⟨F, hF⟩ : ∃ F, F = T ++ Sha.fill T.length := ⟨_, rfl⟩
  obtain ⟨nb, hnb⟩ : ∃ nb, nb = F.length / 64 := ⟨_, rfl⟩
  have HFL : Hid (F.length = 64 * nb ∧ F.length ≤ 30000) := by
    have h1 : F.length = T.length + (1 + (Sha.nz T.length + 8)) := by rw [hF]; simp [Sha.fill, Sha.be8]; omega
    have h2 : Sha.nz T.length = (119 - T.length % 64) % 64 := rfl
    have h3 := HV.out.2.2
    exact ⟨by omega, by omega⟩
  have HDG : Hid (Sha.dgst T = Sha.dig (Sha.regs F nb)) := show _ = _ by rw [hnb, hF]; rfl
  have HD8 : Hid ((Sha.dgst T).length = 32) := dgst_len T
  have HFF : Hid (F = T ++ Sha.fill T.length) := hF
  clear hF hnb
  go_enter Tryd.func23, Tryd.ntmps23
  go_wp2_with (first
    | (refine wl_alloc rfl rfl zero24 ?_; intro w1 hb1 he1 hx; clear hx)
    | (refine wl_alloc rfl rfl zero38 ?_; intro w2 hb2 he2 hx; clear hx; refine wl_store (D := uA Sha.sqr) rfl row38 rfl rfl rfl hb2 rfl rfl (uA_one _) ?_; intro w3 hb3 hk3 hx; clear hx; have HE3 : Hid (Ext w w3) := (he1.trans he2).of_but hk3 (fun k e => by subst e; exact he1.size))
    | (go_at_call 30; refine (filled_any _ T _ (HV.out.1.ext HE3.out) HV.out.2.2).mono ?_; rintro e w4 ⟨u, rfl, ho4, he4⟩; rw [← HFF.out] at ho4; obtain ⟨hu1, ⟨gb, cb, hu2, hu3⟩, hu4⟩ := id ho4; subst hu2; have HO4 := ho4; clear hu1 hu3 hu4))
  have hn1 : w.heap.size < w1.heap.size := hb1.lt
  obtain ⟨ob, hob⟩ : ∃ x, x = w.heap.size := ⟨_, rfl⟩
  obtain ⟨hb, hhb⟩ : ∃ x, x = w1.heap.size := ⟨_, rfl⟩
  have H4 : Hid (Blk w4 hb (uA (Sha.regs F 0)) 62 ∧ OwnB w4 w3.heap.size 5 (.slice (some ⟨gb, 0, none⟩) F.length cb) F ∧ Blk w4 ob (bA (List.replicate 32 0)) 24 ∧ Ext w w4) := ⟨by rw [hhb]; exact hb3.ext he4, HO4, by rw [hob]; exact ((hb1.ext he2).but hk3 (Nat.ne_of_lt hn1)).ext he4, HE3.out.trans he4⟩
  have HNN : Hid (ob = w.heap.size ∧ w.heap.size < hb ∧ hb < w3.heap.size ∧ ob < hb ∧ F.length ≤ cb) := ⟨hob, by omega, by rw [hhb]; exact hb3.lt, by omega, HO4.cap.2.1⟩
  rw [← hob, ← hhb]
  obtain ⟨fl, hfl⟩ : ∃ x, x = F.length := ⟨_, rfl⟩
  rw [← hfl] at H4 HFL HNN ⊢
  have HFL2 : Hid (fl = F.length) := hfl
  have hfl3 : fl ≤ 30000 := HFL.out.2
  clear hb1 hb2 hb3 he1 he2 he4 hk3 hn1 ho4 HO4 hob hhb HE3 hfl
  go_loopg [5] nb (fun g s wr => ∃ k : Nat, k ≤ nb ∧ g = nb - k ∧ s = .int .i64 ((64 * k : Nat) : Int) ∧ Hid (Blk wr hb (uA (Sha.regs F k)) 62 ∧ OwnB wr w3.heap.size 5 (.slice (some ⟨gb, 0, none⟩) fl cb) F ∧ Blk wr ob (bA (List.replicate 32 0)) 24 ∧ Ext w wr))
  case atStart => exact ⟨0, Nat.zero_le _, rfl, rfl, H4.out⟩
  case round =>
    obtain ⟨k, hk, rfl, rfl, HR⟩ := hrel
    obtain ⟨at0, hat⟩ : ∃ x, x = 64 * k := ⟨_, rfl⟩
    rw [← hat]
    by_cases hlt : k < nb
    · have hatl : at0 + 64 ≤ fl := by have := HFL.out.1; omega
      have hd : decide ((at0 : Int) < (fl : Int)) = true := decide_eq_true (by omega)
      obtain ⟨Bk, hBk⟩ : ∃ x, x = (F.drop (64 * k)).take 64 := ⟨_, rfl⟩
      have hBl : Bk.length = 64 := by rw [hBk, List.length_take, List.length_drop, ← HFL2.out]; omega
      have hBa : Sha.AllB Bk := fun x hx => HR.out.2.1.1 x (by rw [hBk] at hx; exact List.mem_of_mem_drop (List.mem_of_mem_take hx))
      have hBy : BytesAt wr (.slice (some ⟨gb, at0, none⟩) 64 (cb - at0)) Bk := by
        have := HR.out.2.1.bytes.sliced at0 (at0 + 64) (by omega) (by rw [← HFL2.out]; exact hatl)
        rw [sliced64 gb at0 cb (by have := HNN.out; omega), List.drop_take, show at0 + 64 - at0 = 64 by omega] at this
        rw [hBk, ← hat]; exact this
      have HBY : Hid (BytesAt wr (.slice (some ⟨gb, at0, none⟩) 64 (cb - at0)) Bk ∧ at0 + 64 ≤ cb) := ⟨hBy, by have := HNN.out; omega⟩
      obtain ⟨R, hR⟩ : ∃ x, x = Sha.regs F k := ⟨_, rfl⟩
      rw [← hR] at HR
      have hR8 : R.length = 8 := by rw [hR]; exact Sha.regs_len _ _
      have hRU : Sha.AllU R := by rw [hR]; exact Sha.regs_all _ _
      have HREG : Hid (Sha.regs F (k + 1) = Sha.work R Bk) := show _ = _ by rw [hR, hBk]; rfl
      have HAT : Hid (at0 = 64 * k) := hat
      clear hat hBy hBk hR
      go_wp2_with (first
        | (refine wpList_of_run rfl (exec_slice2 rfl rfl rfl rfl HBY.out.2) ?_)
        | (go_at_call 31; refine (refwords gb at0 _ Bk _ hBl HBY.out.1).mono ?_; rintro e w5 ⟨mv, rfl, ho5, he5⟩; obtain ⟨gm, cm, hmv, hg1, hg2⟩ := own_some ho5 (by rw [ci_len, Sha.sch_len]; decide); rw [ci_len, Sha.sch_len] at hmv; subst hmv)
        | (refine wl_load rfl row38 rfl rfl (HR.out.1.ext he5) (by rw [uA_size, hR8]) ?_; refine wl_alloc rfl rfl zero38 ?_; intro w6 hb6 he6 hx; clear hx; refine wl_store (D := uA R) rfl row38 rfl rfl rfl hb6 (by rw [uA_size, hR8]) rfl (uA_one _) ?_; intro w7 hb7 hk7 hx; clear hx))
      obtain ⟨rb, hrb⟩ : ∃ x, x = w5.heap.size := ⟨_, rfl⟩
      obtain ⟨ws, hws⟩ : ∃ x, x = wr.heap.size := ⟨_, rfl⟩
      rw [← hws] at ho5 hg1
      rw [← hrb]
      have hwr : w3.heap.size ≤ gb := HR.out.2.1.blk (g := gb) (by simp [blockOf])
      have hgbl := HR.out.2.1.cap
      have hgr := hb6.lt
      have hhbw : hb < ws := by rw [hws]; exact HR.out.1.lt
      have hobw : ob < ws := by rw [hws]; exact HR.out.2.2.1.lt
      have hs5 := he5.size
      have H7 : Hid (Blk w7 rb (uA (Sha.steps R Bk 0)) 62 ∧ Blk w7 hb (uA R) 62 ∧ OwnN .u32 w7 ws 28 (.slice (some ⟨gm, 0, none⟩) 64 cm) (ci (Sha.sch Bk 64)) ∧ OwnB w7 w3.heap.size 5 (.slice (some ⟨gb, 0, none⟩) fl cb) F ∧ Blk w7 ob (bA (List.replicate 32 0)) 24 ∧ Ext w w7) := by
        refine ⟨by rw [hrb, Sha.steps_0 hR8]; exact hb7, ((HR.out.1.ext he5).ext he6).but hk7 (show ¬ _ = _ by omega), ?_, ((HR.out.2.1.ext he5).ext he6).butR hk7 (fun g hg => by simp [blockOf] at hg; subst hg; show ¬ _ = _; omega), ((HR.out.2.2.1.ext he5).ext he6).but hk7 (show ¬ _ = _ by omega), ((HR.out.2.2.2.trans he5).trans he6).of_but hk7 (fun k e => by subst e; have := HR.out.2.2.2.size; omega)⟩
        exact (ho5.ext he6).via fun g hg => hk7.block g (by have := (ho5.ext he6).lt hg; omega) (by have := ho5.lt hg; show ¬ _ = _; omega)
      have HRB : Hid (rb = w5.heap.size ∧ ws ≤ rb ∧ gm < rb ∧ ws ≤ gm ∧ hb < ws ∧ ob < ws ∧ gb < ws ∧ w.heap.size ≤ ws) := ⟨hrb, by omega, by omega, by omega, hhbw, hobw, by omega, by rw [hws]; exact HR.out.2.2.2.size⟩
      clear hws hb6 hb7 he5 he6 hk7 ho5 hrb hwr hgbl hgr hhbw hobw hs5 hg1 hg2
      go_loopg [8] 64 (fun g s wx => ∃ i : Nat, i ≤ 64 ∧ g = 64 - i ∧ s = .int .i64 (i : Int) ∧ Hid (Blk wx rb (uA (Sha.steps R Bk i)) 62 ∧ Blk wx hb (uA R) 62 ∧ OwnN .u32 wx ws 28 (.slice (some ⟨gm, 0, none⟩) 64 cm) (ci (Sha.sch Bk 64)) ∧ OwnB wx w3.heap.size 5 (.slice (some ⟨gb, 0, none⟩) fl cb) F ∧ Blk wx ob (bA (List.replicate 32 0)) 24 ∧ Ext w wx))
      case atStart => exact ⟨0, Nat.zero_le _, rfl, rfl, H7.out⟩
      case round =>
        obtain ⟨i, hi, rfl, rfl, HI⟩ := hrel
        by_cases hi64 : i < 64
        · have hd : decide ((i : Int) < 64) = true := decide_eq_true (by omega)
          have L64 : (i : Int) < 64 := by omega
          obtain ⟨S, hS⟩ : ∃ x, x = Sha.steps R Bk i := ⟨_, rfl⟩
          rw [← hS] at HI
          have hS8 : S.length = 8 := by rw [hS]; exact Sha.steps_len _ _ _
          have hSU : Sha.AllU S := by rw [hS]; exact Sha.steps_all hRU _
          obtain ⟨cc, hcc⟩ : ∃ x, x = Sha.cub.getD i 0 := ⟨_, rfl⟩
          obtain ⟨mm, hmm⟩ : ∃ x, x = Sha.mw Bk i := ⟨_, rfl⟩
          have hccl : cc < 4294967296 := by rw [hcc]; exact cub_lt i
          have hmml : mm < 4294967296 := by rw [hmm]; exact Sha.mw_lt hBa i
          have HST : Hid (Sha.steps R Bk (i + 1) = Sha.stp S cc mm) := show _ = _ by rw [Sha.steps_succ hR8 i hi64, hS, hcc, hmm]
          have HB11 : ∀ {wy : World}, Ext wr.drew wy → Blk wy rb (uA S) 62 := fun h => (HI.out.1.ext (Ext.drew _)).ext h
          have HC11 : ∀ {wy : World}, Ext wr.drew wy → wy.cell? ⟨1, i, none⟩ = some (.int .u32 (cc : Int)) := fun h => by rw [hcc]; exact h.cell ((Ext.drew _).cell (HI.out.2.2.2.2.2.cell (HV.out.2.1 i hi64)))
          have HM11 : ∀ {wy : World}, Ext wr.drew wy → wy.cell? ⟨gm, i, none⟩ = some (.int .u32 (mm : Int)) := fun h => by
            obtain ⟨b', o', e, h2⟩ := HI.out.2.2.1.nums.cellAt i (by rw [ci_len, Sha.sch_len]; exact hi64)
            cases e
            rw [Nat.zero_add, ci_get, Sha.sch_get Bk 64 i hi64, ← hmm] at h2
            exact h.cell ((Ext.drew _).cell h2)
          clear hS hcc hmm
          go_wp2_with fail
          refine wp_region_lastD (fun t => bif Nat.ble 32 t && Nat.ble t 40 then some (t - 32) else none) 136 Ext
            [Is (.agg (uA S)),
             Is (.int .i64 (i : Int)),
             Is (.pointer (some ⟨1, i, none⟩)),
             Is (.int .u32 (cc : Int)),
             Is (.slice (some ⟨gm, 0, none⟩) 64 cm),
             Is (.int .i64 (i : Int)),
             Is (.pointer (some ⟨gm, i, none⟩)),
             Is (.int .u32 (mm : Int)),
             Is (.agg (uA (Sha.stp S cc mm)))]
            (by intro h; cases h) rfl (by kernel_rfl) (by kernel_rfl) rfl (by kernel_rfl) Ext.refl (fun _ _ _ => Ext.trans) ?_ (fun wx wy => Blk wy rb (uA (Sha.stp S cc mm)) 62 ∧ KeepBut (· = rb) wx wy) ?_ ?_ ?_
          · exact KeepAll.is (KeepAll.is (KeepAll.is (KeepAll.is (KeepAll.is (KeepAll.is (KeepAll.is (KeepAll.is (KeepAll.is (KeepAll.nil)))))))))
          · refine GoodAll.cons ?_ ?_
            · intro r wx hR hx
              obtain ⟨h1, _⟩ := hx
              replace h1 : r (.tmp 7) = (.pointer (some ⟨rb, 0, none⟩)) := h1
              exact give_of (exec_loadW row38 rfl h1 (HB11 hR) (by rw [uA_size, hS8])) ⟨Ext.refl _, rfl⟩
            refine GoodAll.cons ?_ ?_
            · intro r wx hR hx
              obtain ⟨h1, _⟩ := hx
              replace h1 : r (.tmp 8) = (.int .i64 (i : Int)) := h1
              exact give_move (.inl rfl) ⟨Ext.refl _, h1⟩
            refine GoodAll.cons ?_ ?_
            · intro r wx hR hx
              obtain ⟨h1, h2, _⟩ := hx
              replace h1 : r (.global 1) = .pointer (some ⟨1, 0, none⟩) := h1
              replace h2 : r (.tmp 33) = (.int .i64 (i : Int)) := h2
              exact give_of (by simp [execOp, h1, h2, L64, go_sem]) ⟨Ext.refl _, rfl⟩
            refine GoodAll.cons ?_ ?_
            · intro r wx hR hx
              obtain ⟨h1, _⟩ := hx
              replace h1 : r (.tmp 34) = (.pointer (some ⟨1, i, none⟩)) := h1
              exact give_of (exec_get one36 rfl h1 (HC11 hR)) ⟨Ext.refl _, rfl⟩
            refine GoodAll.cons ?_ ?_
            · intro r wx hR hx
              obtain ⟨h1, _⟩ := hx
              replace h1 : r (.tmp 6) = (.slice (some ⟨gm, 0, none⟩) 64 cm) := h1
              exact give_move (.inl rfl) ⟨Ext.refl _, h1⟩
            refine GoodAll.cons ?_ ?_
            · intro r wx hR hx
              obtain ⟨h1, _⟩ := hx
              replace h1 : r (.tmp 8) = (.int .i64 (i : Int)) := h1
              exact give_move (.inl rfl) ⟨Ext.refl _, h1⟩
            refine GoodAll.cons ?_ ?_
            · intro r wx hR hx
              obtain ⟨h1, h2, _⟩ := hx
              replace h1 : r (.tmp 36) = (.slice (some ⟨gm, 0, none⟩) 64 cm) := h1
              replace h2 : r (.tmp 37) = (.int .i64 (i : Int)) := h2
              exact give_of (by simp [execOp, h1, h2, L64, go_sem]) ⟨Ext.refl _, rfl⟩
            refine GoodAll.cons ?_ ?_
            · intro r wx hR hx
              obtain ⟨h1, _⟩ := hx
              replace h1 : r (.tmp 38) = (.pointer (some ⟨gm, i, none⟩)) := h1
              exact give_of (exec_get one36 rfl h1 (HM11 hR)) ⟨Ext.refl _, rfl⟩
            refine GoodAll.cons ?_ ?_
            · intro r wx hR hx
              obtain ⟨h1, h2, h3, h4, _⟩ := hx
              replace h1 : r (.func 32) = .func (.func 32) #[] #[] := h1
              replace h2 : r (.tmp 32) = (.agg (uA S)) := h2
              replace h3 : r (.tmp 35) = (.int .u32 (cc : Int)) := h3
              replace h4 : r (.tmp 39) = (.int .u32 (mm : Int)) := h4
              refine give_func #[.agg (uA S), .int .u32 (cc : Int), .int .u32 (mm : Int)] rfl h1 Tryd.call32 (by simp [h2, h3, h4]) ?_
              refine (step_list S cc mm _ hS8 hSU hccl hmml).mono ?_
              rintro e w' ⟨rfl, he⟩
              exact ⟨_, rfl, he, rfl⟩
            exact GoodAll.nil
          · intro r wx hR hx
            obtain ⟨h1, h2, _⟩ := hx
            replace h1 : r (.tmp 7) = (.pointer (some ⟨rb, 0, none⟩)) := h1
            replace h2 : r (.tmp 40) = (.agg (uA (Sha.stp S cc mm))) := h2
            have hpR : putIn (uA S) 0 (uA (Sha.stp S cc mm)).toList = uA (Sha.stp S cc mm) := putIn_all _ _ (by rw [uA_size, uA_size, hS8]; rfl)
            exact give_skip (w' := wx.setRow rb (uA (Sha.stp S cc mm))) (by rw [← hpR]; exact exec_store row38 rfl h1 h2 (HB11 hR) (by rw [uA_size]; rfl) (by rw [uA_size, hS8]; omega) (uA_one _)) ⟨(HB11 hR).row _, KeepBut.row _ _ _⟩
          · intro vs w6 w7 a7 hR11 hE hold ha
            have hv0 : vs 0 = (.agg (uA S)) := hold.at 0
            have hv1 : vs 1 = (.int .i64 (i : Int)) := hold.at 1
            have hv2 : vs 2 = (.pointer (some ⟨1, i, none⟩)) := hold.at 2
            have hv3 : vs 3 = (.int .u32 (cc : Int)) := hold.at 3
            have hv4 : vs 4 = (.slice (some ⟨gm, 0, none⟩) 64 cm) := hold.at 4
            have hv5 : vs 5 = (.int .i64 (i : Int)) := hold.at 5
            have hv6 : vs 6 = (.pointer (some ⟨gm, i, none⟩)) := hold.at 6
            have hv7 : vs 7 = (.int .u32 (mm : Int)) := hold.at 7
            have hv8 : vs 8 = (.agg (uA (Sha.stp S cc mm))) := hold.at 8
            simp only [putAll, Act.put, hv0, hv1, hv2, hv3, hv4, hv5, hv6, hv7, hv8, List.setIfInBounds_toArray, List.set_cons_succ, List.set_cons_zero] at ha
            subst ha
            clear hold hv0 hv1 hv2 hv3 hv4 hv5 hv6 hv7 hv8
            have H8 : Hid (Blk w7 rb (uA (Sha.steps R Bk (i + 1))) 62 ∧ Blk w7 hb (uA R) 62 ∧ OwnN .u32 w7 ws 28 (.slice (some ⟨gm, 0, none⟩) 64 cm) (ci (Sha.sch Bk 64)) ∧ OwnB w7 w3.heap.size 5 (.slice (some ⟨gb, 0, none⟩) fl cb) F ∧ Blk w7 ob (bA (List.replicate 32 0)) 24 ∧ Ext w w7) := by
              have he := (Ext.drew wr).trans hR11
              have hkb := hE.2
              have hN := HRB.out
              rw [HST.out]
              refine ⟨hE.1, (HI.out.2.1.ext he).but hkb (show ¬ _ = _ by omega), ?_, (HI.out.2.2.2.1.ext he).butR hkb (fun g hg => by simp [blockOf] at hg; subst hg; show ¬ _ = _; omega), (HI.out.2.2.2.2.1.ext he).but hkb (show ¬ _ = _ by omega), (HI.out.2.2.2.2.2.trans he).of_but hkb (fun k e => by subst e; have := HR.out.2.2.2.size; omega)⟩
              exact (HI.out.2.2.1.ext he).via fun g hg => hkb.block g (by have := (HI.out.2.2.1.ext he).lt hg; omega) (by simp [Value.ownBlock] at hg; subst hg; show ¬ _ = _; omega)
            clear hE hR11 HB11 HC11 HM11
            refine ‹∀ (a : Act) (w : World), Code.wp Tryd.prog _ _ a w → _› _ _ ?_
            go_wp2_with fail
            go_roundg (64 - (i + 1))
            case measure => omega
            case rel => exact ⟨i + 1, by omega, rfl, by simp, H8.out⟩
        · have hd : decide ((i : Int) < 64) = false := decide_eq_false (by omega)
          obtain rfl : i = 64 := by omega
          rw [Sha.steps_64 hR8] at HI
          obtain ⟨S, hS⟩ : ∃ x, x = Sha.cp R Bk 64 := ⟨_, rfl⟩
          rw [← hS] at HI
          have hS8 : S.length = 8 := by rw [hS, Sha.cp_len, hR8]
          have hW : Sha.work R Bk = Sha.add8 R S := by rw [hS]; rfl
          rw [hW] at HREG
          clear hS hW
          obtain ⟨h0, h1, h2, h3, h4, h5, h6, h7, rfl⟩ := ex8 hR8
          obtain ⟨r0, r1, r2, r3, r4, r5, r6, r7, rfl⟩ := ex8 hS8
          clear hR8 hS8 hRU
          obtain ⟨a0, ha0⟩ : ∃ x, x = (h0 + r0) % 4294967296 := ⟨_, rfl⟩
          have z0 : ((h0 : Int) + (r0 : Int)) % 4294967296 = (a0 : Int) := by omega
          have y0 : IntKind.u32.wrap ((h0 : Int) + (r0 : Int)) = (a0 : Int) := by rw [IntKind.wrap_u32]; exact z0
          obtain ⟨a1, ha1⟩ : ∃ x, x = (h1 + r1) % 4294967296 := ⟨_, rfl⟩
          have z1 : ((h1 : Int) + (r1 : Int)) % 4294967296 = (a1 : Int) := by omega
          have y1 : IntKind.u32.wrap ((h1 : Int) + (r1 : Int)) = (a1 : Int) := by rw [IntKind.wrap_u32]; exact z1
          obtain ⟨a2, ha2⟩ : ∃ x, x = (h2 + r2) % 4294967296 := ⟨_, rfl⟩
          have z2 : ((h2 : Int) + (r2 : Int)) % 4294967296 = (a2 : Int) := by omega
          have y2 : IntKind.u32.wrap ((h2 : Int) + (r2 : Int)) = (a2 : Int) := by rw [IntKind.wrap_u32]; exact z2
          obtain ⟨a3, ha3⟩ : ∃ x, x = (h3 + r3) % 4294967296 := ⟨_, rfl⟩
          have z3 : ((h3 : Int) + (r3 : Int)) % 4294967296 = (a3 : Int) := by omega
          have y3 : IntKind.u32.wrap ((h3 : Int) + (r3 : Int)) = (a3 : Int) := by rw [IntKind.wrap_u32]; exact z3
          obtain ⟨a4, ha4⟩ : ∃ x, x = (h4 + r4) % 4294967296 := ⟨_, rfl⟩
          have z4 : ((h4 : Int) + (r4 : Int)) % 4294967296 = (a4 : Int) := by omega
          have y4 : IntKind.u32.wrap ((h4 : Int) + (r4 : Int)) = (a4 : Int) := by rw [IntKind.wrap_u32]; exact z4
          obtain ⟨a5, ha5⟩ : ∃ x, x = (h5 + r5) % 4294967296 := ⟨_, rfl⟩
          have z5 : ((h5 : Int) + (r5 : Int)) % 4294967296 = (a5 : Int) := by omega
          have y5 : IntKind.u32.wrap ((h5 : Int) + (r5 : Int)) = (a5 : Int) := by rw [IntKind.wrap_u32]; exact z5
          obtain ⟨a6, ha6⟩ : ∃ x, x = (h6 + r6) % 4294967296 := ⟨_, rfl⟩
          have z6 : ((h6 : Int) + (r6 : Int)) % 4294967296 = (a6 : Int) := by omega
          have y6 : IntKind.u32.wrap ((h6 : Int) + (r6 : Int)) = (a6 : Int) := by rw [IntKind.wrap_u32]; exact z6
          obtain ⟨a7, ha7⟩ : ∃ x, x = (h7 + r7) % 4294967296 := ⟨_, rfl⟩
          have z7 : ((h7 : Int) + (r7 : Int)) % 4294967296 = (a7 : Int) := by omega
          have y7 : IntKind.u32.wrap ((h7 : Int) + (r7 : Int)) = (a7 : Int) := by rw [IntKind.wrap_u32]; exact z7
          have HREG2 : Hid (Sha.regs F (k + 1) = [a0, a1, a2, a3, a4, a5, a6, a7]) := show _ = _ by rw [HREG.out]; simp only [Sha.add8, List.zipWith]; rw [← ha0, ← ha1, ← ha2, ← ha3, ← ha4, ← ha5, ← ha6, ← ha7]
          clear ha0 ha1 ha2 ha3 ha4 ha5 ha6 ha7 HREG
          have HN : Hid (rb = w5.heap.size ∧ ws ≤ rb ∧ gm < rb ∧ ws ≤ gm ∧ hb < ws ∧ ob < ws ∧ gb < ws ∧ w.heap.size ≤ ws) := HRB.out
          have ch0 : wr.cell? ⟨hb, 0, none⟩ = some (.int .u32 (h0 : Int)) := (HI.out.2.1.cell 0).trans rfl
          have cr0 : wr.cell? ⟨rb, 0, none⟩ = some (.int .u32 (r0 : Int)) := (HI.out.1.cell 0).trans rfl
          have ch1 : wr.cell? ⟨hb, 1, none⟩ = some (.int .u32 (h1 : Int)) := (HI.out.2.1.cell 1).trans rfl
          have cr1 : wr.cell? ⟨rb, 1, none⟩ = some (.int .u32 (r1 : Int)) := (HI.out.1.cell 1).trans rfl
          have ch2 : wr.cell? ⟨hb, 2, none⟩ = some (.int .u32 (h2 : Int)) := (HI.out.2.1.cell 2).trans rfl
          have cr2 : wr.cell? ⟨rb, 2, none⟩ = some (.int .u32 (r2 : Int)) := (HI.out.1.cell 2).trans rfl
          have ch3 : wr.cell? ⟨hb, 3, none⟩ = some (.int .u32 (h3 : Int)) := (HI.out.2.1.cell 3).trans rfl
          have cr3 : wr.cell? ⟨rb, 3, none⟩ = some (.int .u32 (r3 : Int)) := (HI.out.1.cell 3).trans rfl
          have ch4 : wr.cell? ⟨hb, 4, none⟩ = some (.int .u32 (h4 : Int)) := (HI.out.2.1.cell 4).trans rfl
          have cr4 : wr.cell? ⟨rb, 4, none⟩ = some (.int .u32 (r4 : Int)) := (HI.out.1.cell 4).trans rfl
          have ch5 : wr.cell? ⟨hb, 5, none⟩ = some (.int .u32 (h5 : Int)) := (HI.out.2.1.cell 5).trans rfl
          have cr5 : wr.cell? ⟨rb, 5, none⟩ = some (.int .u32 (r5 : Int)) := (HI.out.1.cell 5).trans rfl
          have ch6 : wr.cell? ⟨hb, 6, none⟩ = some (.int .u32 (h6 : Int)) := (HI.out.2.1.cell 6).trans rfl
          have cr6 : wr.cell? ⟨rb, 6, none⟩ = some (.int .u32 (r6 : Int)) := (HI.out.1.cell 6).trans rfl
          have ch7 : wr.cell? ⟨hb, 7, none⟩ = some (.int .u32 (h7 : Int)) := (HI.out.2.1.cell 7).trans rfl
          have cr7 : wr.cell? ⟨rb, 7, none⟩ = some (.int .u32 (r7 : Int)) := (HI.out.1.cell 7).trans rfl
          go_wp2_with (first
            | (refine wl_store (D := uA [a0, a1, a2, a3, a4, a5, a6, a7]) rfl row38 rfl rfl rfl HI.out.2.1 rfl rfl (uA_one _) ?_; intro w8 hb8 hk8 hx; clear hx))
          have H9 : Hid (Blk w8 hb (uA (Sha.regs F (k + 1))) 62 ∧ OwnB w8 w3.heap.size 5 (.slice (some ⟨gb, 0, none⟩) fl cb) F ∧ Blk w8 ob (bA (List.replicate 32 0)) 24 ∧ Ext w w8) := by
            have hN := HRB.out
            have hM := HNN.out
            rw [HREG2.out]
            refine ⟨hb8, HI.out.2.2.2.1.butR hk8 (fun g hg => by simp [blockOf] at hg; subst hg; have := HI.out.2.2.2.1.blk (g := gb) (by simp [blockOf]); show ¬ _ = _; omega), HI.out.2.2.2.2.1.but hk8 (show ¬ _ = _ by omega), HI.out.2.2.2.2.2.of_but hk8 (fun k e => by subst e; omega)⟩
          go_roundg (nb - (k + 1))
          case measure => omega
          case rel => exact ⟨k + 1, by omega, rfl, by have := HAT.out; simp; omega, H9.out⟩
    · have hd : decide ((at0 : Int) < (fl : Int)) = false := decide_eq_false (by have := HFL.out.1; omega)
      obtain rfl : k = nb := by omega
      have hge : fl ≤ at0 := by have := HFL.out.1; omega
      clear hat hd
      have hR8 := Sha.regs_len F k
      have hRU := Sha.regs_all F k
      generalize hRR : Sha.regs F k = R at *
      have HDR : Hid (Sha.dgst T = Sha.dig R) := show _ = _ by rw [HDG.out]
      have HRU : Hid (Sha.AllU R ∧ R.length = 8) := ⟨hRU, hR8⟩
      clear hRR
      obtain ⟨h0, h1, h2, h3, h4, h5, h6, h7, hR⟩ := ex8 hR8
      rw [hR] at HR
      have HREQ : Hid (R = [h0, h1, h2, h3, h4, h5, h6, h7]) := hR
      clear hR hR8 hRU
      have ch0 : wr.cell? ⟨hb, 0, none⟩ = some (.int .u32 (h0 : Int)) := (HR.out.1.cell 0).trans rfl
      have ch1 : wr.cell? ⟨hb, 1, none⟩ = some (.int .u32 (h1 : Int)) := (HR.out.1.cell 1).trans rfl
      have ch2 : wr.cell? ⟨hb, 2, none⟩ = some (.int .u32 (h2 : Int)) := (HR.out.1.cell 2).trans rfl
      have ch3 : wr.cell? ⟨hb, 3, none⟩ = some (.int .u32 (h3 : Int)) := (HR.out.1.cell 3).trans rfl
      have ch4 : wr.cell? ⟨hb, 4, none⟩ = some (.int .u32 (h4 : Int)) := (HR.out.1.cell 4).trans rfl
      have ch5 : wr.cell? ⟨hb, 5, none⟩ = some (.int .u32 (h5 : Int)) := (HR.out.1.cell 5).trans rfl
      have ch6 : wr.cell? ⟨hb, 6, none⟩ = some (.int .u32 (h6 : Int)) := (HR.out.1.cell 6).trans rfl
      have ch7 : wr.cell? ⟨hb, 7, none⟩ = some (.int .u32 (h7 : Int)) := (HR.out.1.cell 7).trans rfl
      go_wp2_with (first
        | (refine wl_alloc rfl rfl zero24 ?_; intro w8 hb8 he8 hx; clear hx; replace ch0 := he8.cell ch0; replace ch1 := he8.cell ch1; replace ch2 := he8.cell ch2; replace ch3 := he8.cell ch3; replace ch4 := he8.cell ch4; replace ch5 := he8.cell ch5; replace ch6 := he8.cell ch6; replace ch7 := he8.cell ch7))
      have ew : w8.alloc (.cells #[.int .u32 (h0 : Int), .int .u32 (h1 : Int), .int .u32 (h2 : Int), .int .u32 (h3 : Int), .int .u32 (h4 : Int), .int .u32 (h5 : Int), .int .u32 (h6 : Int), .int .u32 (h7 : Int)] 28) = w8.alloc (.cells (uA R) 28) := by rw [HREQ.out]; rfl
      rw [ew]
      have hob9 : ob < wr.heap.size := HR.out.2.2.1.lt
      obtain ⟨pb, hpb⟩ : ∃ x, x = wr.heap.size := ⟨_, rfl⟩
      obtain ⟨lb, hlb⟩ : ∃ x, x = w8.heap.size := ⟨_, rfl⟩
      have H9 : Hid (Blk (w8.alloc (.cells (uA R) 28)) lb (uA R) 28 ∧ Blk (w8.alloc (.cells (uA R) 28)) ob (bA (List.replicate 32 0)) 24 ∧ Blk (w8.alloc (.cells (uA R) 28)) pb (bA (List.replicate 32 0)) 24 ∧ Ext w (w8.alloc (.cells (uA R) 28))) := ⟨by rw [hlb]; exact Blk.new _ _ _, (HR.out.2.2.1.ext he8).ext (Ext.alloc _ _), by rw [hpb]; exact hb8.ext (Ext.alloc _ _), (HR.out.2.2.2.trans he8).trans (Ext.alloc _ _)⟩
      have HNP : Hid (ob < pb ∧ pb < lb ∧ w.heap.size ≤ ob ∧ w.heap.size ≤ pb) := ⟨by omega, by rw [hpb, hlb]; exact hb8.lt, by have := HNN.out; omega, by rw [hpb]; exact HR.out.2.2.2.size⟩
      rw [← hpb, ← hlb]
      generalize w8.alloc (.cells (uA R) 28) = w9 at *
      clear hpb hlb hob9 ew hb8 he8 ch0 ch1 ch2 ch3 ch4 ch5 ch6 ch7 HR
      go_loopg [100] 8 (fun g s wr => ∃ k : Nat, k ≤ 8 ∧ g = 8 - k ∧ s = .int .i64 (k : Int) ∧ Hid (Blk wr lb (uA R) 28 ∧ Blk wr ob (bA (List.replicate 32 0)) 24 ∧ Blk wr pb (bA (Sha.digs R k)) 24 ∧ Ext w wr))
      case atStart => exact ⟨0, by omega, rfl, rfl, H9.out⟩
      case round =>
        obtain ⟨k, hk, rfl, rfl, HR⟩ := hrel
        by_cases hlt : k < 8
        · have hd8 : decide ((k : Int) < 8) = true := decide_eq_true (by omega)
          have hkl : (k : Int) < 8 := by omega
          have hsc : wr.cell? ⟨lb, k, none⟩ = some (.int .u32 (R.getD k 0 : Nat)) := (HR.out.1.cell k).trans (uA_get R k (by rw [HRU.out.2]; exact hlt))
          have hr := HRU.out.1.get k
          have HS : Hid _ := Sha.digs_succ HRU.out.2 hlt _ rfl
          generalize R.getD k 0 = r at *
          obtain ⟨b0, hb0⟩ : ∃ x, x = r / 16777216 % 256 := ⟨_, rfl⟩
          obtain ⟨b1, hb1⟩ : ∃ x, x = r / 65536 % 256 := ⟨_, rfl⟩
          obtain ⟨b2, hb2⟩ : ∃ x, x = r / 256 % 256 := ⟨_, rfl⟩
          obtain ⟨b3, hb3⟩ : ∃ x, x = r % 256 := ⟨_, rfl⟩
          rw [← hb0, ← hb1, ← hb2, ← hb3] at HS
          obtain ⟨c0, hc0⟩ : ∃ x, x = r / 16777216 := ⟨_, rfl⟩
          obtain ⟨c1', hc1⟩ : ∃ x, x = r / 65536 := ⟨_, rfl⟩
          obtain ⟨c2', hc2⟩ : ∃ x, x = r / 256 := ⟨_, rfl⟩
          have d0 : (r : Int).tdiv 16777216 = (c0 : Int) := by rw [Int.tdiv_eq_ediv_of_nonneg (by omega)]; omega
          have d1 : (r : Int).tdiv 65536 = (c1' : Int) := by rw [Int.tdiv_eq_ediv_of_nonneg (by omega)]; omega
          have d2 : (r : Int).tdiv 256 = (c2' : Int) := by rw [Int.tdiv_eq_ediv_of_nonneg (by omega)]; omega
          have t1 : (c1' : Int).tmod 256 = (b1 : Int) := by rw [Int.tmod_eq_emod_of_nonneg (by omega)]; omega
          have t2 : (c2' : Int).tmod 256 = (b2 : Int) := by rw [Int.tmod_eq_emod_of_nonneg (by omega)]; omega
          have t3 : (r : Int).tmod 256 = (b3 : Int) := by rw [Int.tmod_eq_emod_of_nonneg (by omega)]; omega
          have q0 : (c0 : Int) % 256 = (b0 : Int) := by omega
          have q1 : (b1 : Int) % 256 = (b1 : Int) := by omega
          have q2 : (b2 : Int) % 256 = (b2 : Int) := by omega
          have q3 : (b3 : Int) % 256 = (b3 : Int) := by omega
          have q5 : (c1' : Int) % 256 = (b1 : Int) := by omega
          have q6 : (c2' : Int) % 256 = (b2 : Int) := by omega
          have p0 : IntKind.u8.wrap (c0 : Int) = (b0 : Int) := by rw [IntKind.wrap_u8]; exact q0
          have p1 : IntKind.u8.wrap (b1 : Int) = (b1 : Int) := by rw [IntKind.wrap_u8]; exact q1
          have p2 : IntKind.u8.wrap (b2 : Int) = (b2 : Int) := by rw [IntKind.wrap_u8]; exact q2
          have p3 : IntKind.u8.wrap (b3 : Int) = (b3 : Int) := by rw [IntKind.wrap_u8]; exact q3
          have hl := Sha.digs_len HRU.out.2 hk
          have HB : Hid (Blk wr pb (bA (Sha.digs R k)) 24 ∧ (Sha.digs R k).length = 32) := ⟨HR.out.2.2.1, hl⟩
          clear hb0 hb1 hb2 hb3 hl hc0 hc1 hc2
          have := HNP.out
          go_wp2_with (first
            | (refine wl_set (v := .int .u8 (b0 : Nat)) rfl one5 rfl rfl (by first | rfl | go_simp | simp [go_sem, p0, q0]) rfl rfl HB.out.1 (by rw [bA_size, HB.out.2]; omega) ?_; intro x1 c1 k1 hx; clear hx; rw [bA_set] at c1)
            | (refine wl_set (v := .int .u8 (b1 : Nat)) rfl one5 rfl rfl (by first | rfl | (go_simp; done) | (go_simp; simp [q5]; done) | simp [go_sem, p1, q1]) rfl rfl c1 (by rw [bA_size, List.length_set, HB.out.2]; omega) ?_; intro x2 c2 k2 hx; clear hx; rw [bA_set] at c2)
            | (refine wl_set (v := .int .u8 (b2 : Nat)) rfl one5 rfl rfl (by first | rfl | (go_simp; done) | (go_simp; simp [q6]; done) | simp [go_sem, p2, q2]) rfl rfl c2 (by rw [bA_size, List.length_set, List.length_set, HB.out.2]; omega) ?_; intro x3 c3 k3 hx; clear hx; rw [bA_set] at c3)
            | (refine wl_set (v := .int .u8 (b3 : Nat)) rfl one5 rfl rfl (by first | rfl | go_simp | simp [go_sem, p3, q3]) rfl rfl c3 (by rw [bA_size, List.length_set, List.length_set, List.length_set, HB.out.2]; omega) ?_; intro x4 c4 k4 hx; clear hx; rw [bA_set, HS.out] at c4))
          go_roundg (8 - (k + 1))
          case measure => omega
          case rel =>
            refine ⟨k + 1, by omega, rfl, by simp, (((HR.out.1.but k1 (show ¬ _ = _ by omega)).but k2 (show ¬ _ = _ by omega)).but k3 (show ¬ _ = _ by omega)).but k4 (show ¬ _ = _ by omega), (((HR.out.2.1.but k1 (show ¬ _ = _ by omega)).but k2 (show ¬ _ = _ by omega)).but k3 (show ¬ _ = _ by omega)).but k4 (show ¬ _ = _ by omega), c4, ?_⟩
            exact (((HR.out.2.2.2.of_but k1 (fun j e => by subst e; omega)).of_but k2 (fun j e => by subst e; omega)).of_but k3 (fun j e => by subst e; omega)).of_but k4 (fun j e => by subst e; omega)
        · have hd8 : decide ((k : Int) < 8) = false := decide_eq_false (by omega)
          obtain rfl : k = 8 := by omega
          have h4 := HR.out.2.2.1
          rw [Sha.digs_8 HRU.out.2, ← HDR.out] at h4
          go_wp2_with (first
            | (refine wl_load rfl row24 rfl rfl h4 (by rw [bA_size, HD8.out]) ?_)
            | (refine wl_store rfl row24 rfl rfl rfl HR.out.2.1 (by rw [bA_size, HD8.out]) rfl (bA_one _) ?_; intro x5 c5 k5 hx; clear hx))
          have := HNP.out
          refine bodyPost_ret (v := .agg (bA (Sha.dgst T))) (results_cell_row (fn := Tryd.f23) (p := 2) (by rfl) _ _ ob 24 _ (0, 0) _ rfl c5 Tryd.underlying24 rfl (by rw [bA_size, HD8.out]; kernel_rfl)) rfl ⟨rfl, ?_⟩
          exact HR.out.2.2.2.of_but k5 (fun j e => by subst e; omega)
end Go.Proofs.YtaklbnaaoebknaaDoor
