/- A part is added to a state. Condition: the tables hold what the text lays. -/
import Derived.Test.YtaklbnaaoebknaaDoorState
namespace Go.Proofs.YtaklbnaaoebknaaDoor
open Go Go.RowKit
set_option linter.unusedVariables false
set_option linter.unusedSimpArgs false
set_option maxRecDepth 100000

theorem one46 : OneT Tryd.prog 53 := ⟨⟨_, Tryd.underlying53, rfl⟩, by kernel_rfl⟩
theorem numT8 : NumT Tryd.prog 22 5 .u8 1 := ⟨Tryd.underlying22, Tryd.underlying5, by kernel_rfl⟩
theorem BytesAt.but {S : Nat → Prop} {w w' : World} {v : Value} {l : List Nat} (h : BytesAt w v l) (hk : KeepBut S w w') (hb : ∀ g, blockOf v = some g → ¬ S g) : BytesAt w' v l := by
  obtain ⟨h1, h2, h3⟩ := h
  refine ⟨h1, h2, h3.imp id ?_⟩
  rintro ⟨ad, cap, rfl, h4, h5, hc⟩
  refine ⟨ad, cap, rfl, h4, h5, fun j hj => ?_⟩
  have hlt := cell_lt (hc j hj)
  have hbk : (ad.add j).block = ad.block := add_block _ _
  rw [hbk] at hlt
  have e := hk.block ad.block hlt (hb ad.block (by simp [blockOf]))
  have := hc j hj
  unfold World.cell? at this ⊢
  rw [hbk] at this ⊢
  rw [e]; exact this
theorem Puts.but {B : Nat} {o : Obj} {W W' : World} (h : Puts B o W W') : KeepBut (· = B) W W' := ⟨h.os, h.tape, h.output, by rw [h.size]; exact Nat.le_refl _, fun k _ hk => h.block k hk⟩
theorem KeepBut.drew {S : Nat → Prop} (w : World) : KeepBut S w w.drew := ⟨rfl, rfl, rfl, Nat.le_refl _, fun _ _ _ => rfl⟩
theorem exec_slice45 {r : Operand → Value} {o : Oper} {x lo : Operand} {w : World} {s off : Nat} (ho : o.op = .slice 42 x (some lo) none none) (h1 : r x = .pointer (some ⟨s, 8, none⟩)) (h2 : r lo = .int .u64 (off : Int)) (hk : off < 64) :
    (execOp r o).run Tryd.prog w = .ok (.value (.slice (some ⟨s, 8 + off, none⟩) (64 - off) (64 - off))) w := by
  obtain ⟨i, hi, _, hs, _⟩ := byteT.ex
  have hk' : (off : Int) ≤ 64 := by omega
  have hu : Tryd.prog.underlying 42 = some (.array 64 5) := Tryd.underlying42
  simp [execOp, ho, h1, h2, Instr.sliceAt, Instr.sureAddr, run_underlying hu, Instr.sliceBounds, run_sliceBound, sizeOf, typeInfo, hi, hs, hk', add_plain, show ¬ 64 = off by omega]
theorem exec_copy {r : Operand → Value} {o : Oper} {x y : Operand} {w : World} {s off n t : Nat} {u : Value} {l : List Nat} {C : Array Value}
    (ho : o.op = .call { callee := .builtin .copy, args := #[x, y], argTypes := #[22, 22] }) (h1 : r x = .slice (some ⟨s, 8 + off, none⟩) (64 - off) (64 - off)) (h2 : r y = u) (hu : BytesAt w u l) (hB : Blk w s C t) (hC : 8 + 64 ≤ C.size) (hn : n = min l.length (64 - off) ∧ off < 64) :
    (execOp r o).run Tryd.prog w = .ok (.value (.int .i64 (n : Int))) (w.setRow s (putIn C (8 + off) (cellsB (l.take n)))) := by
  have hlen : (l.take n).length = n := by rw [List.length_take, hn.1]; exact Nat.min_eq_left (Nat.min_le_left _ _)
  have hnl : n ≤ 64 - off := by rw [hn.1]; exact Nat.min_le_right _ _
  obtain ⟨hb, hm, h3 | ⟨ad, cap, rfl, hle, hcm, hc⟩⟩ := hu
  · obtain ⟨rfl, rfl⟩ := h3
    have hr := run_copy_nil (P := Tryd.prog) w 22 22 o.type 5 ⟨s, 8 + off, none⟩ (64 - off) (64 - off) Tryd.underlying22 (by kernel_rfl)
    have hn0 : n = 0 := by rw [hn.1]; simp
    subst hn0
    have : putIn C (8 + off) (cellsB (List.take 0 ([] : List Nat))) = C := by simp [putIn, cellsB]
    rw [this, setRow_self w s C t (0, 0) hB]
    simp only [execOp, ho, resolve, invoke, builtin, Sem.run_bind, Sem.run_pure, Result.andThen_ok, List.map_toArray, List.map_cons, List.map_nil, h1, h2, hr]
    rfl
  · have hr := run_copy_row (P := Tryd.prog) w 22 22 o.type 5 s (8 + off) (64 - off) (64 - off) ad l.length cap C t (cellsB (l.take n)) Tryd.underlying22 (by kernel_rfl) hB (by rw [cellsB_length, hlen]; exact hn.1)
      (fun j v hv => by
        obtain ⟨hj, rfl⟩ := cellsB_get hv
        rw [hlen] at hj
        have hjl : j < l.length := by rw [List.length_take] at hlen; omega
        rw [hc j hjl]
        simp [List.getD_eq_getElem?_getD, hj])
      (by rw [cellsB_length, hlen]; omega) (fun v hv => by obtain ⟨z, _, rfl⟩ := List.mem_map.1 hv; rfl)
    simp only [execOp, ho, resolve, invoke, builtin, Sem.run_bind, Sem.run_pure, Result.andThen_ok, List.map_toArray, List.map_cons, List.map_nil, h1, h2, hr, goInt, cellsB_length, hlen]
    unfold putIn
    rw [cellsB_length, hlen]
theorem zero45 : (Tryd.prog.built 42 []) = some (bA (List.replicate 64 0)) := by kernel_rfl
theorem exec_build0 {r : Operand → Value} {o : Oper} {w : World} (ho : o.op = .build 42 #[]) : (execOp r o).run Tryd.prog w = .ok (.value (.agg (bA (List.replicate 64 0)))) w := by
  have := run_build (P := Tryd.prog) w 42 #[] (bA (List.replicate 64 0)) zero45
  simp only [execOp, ho, List.map_toArray, List.map_nil, Sem.run_bind, this, Result.andThen_ok]
  rfl

set_option maxHeartbeats 4000000 in
theorem add_any {w : World} {s : Nat} {T : List Nat} {v : Value} {l : List Nat} (hT : Tabs w) (hS : StateAt w s T) (hv : BytesAt w v l) (hne : l ≠ [] → ∀ g, blockOf v = some g → g ≠ s) (hs2 : 3 < s) (hlen : T.length + l.length ≤ 100000) :
    Calls Tryd.prog 19 #[stP s, v] w fun e w' => (∃ x, e = .returned x) ∧ StateAt w' s (T ++ l) ∧ KeepBut (· = s) w w' := by
  obtain ⟨a, cap, rfl, hcap, _⟩ := hv.form
  have HV : Hid (BytesAt w (.slice a l.length cap) l ∧ (l ≠ [] → ∀ g, blockOf (.slice a l.length cap) = some g → g ≠ s) ∧ StateAt w s T ∧ Tabs w ∧ 3 < s ∧ T.length + l.length ≤ 100000) := ⟨hv, hne, hS, hT, hs2, hlen⟩
  have HL : Hid (l.length ≤ 100000) := by have : l.length ≤ 100000 := by omega
                                          exact this
  clear hv hne hS hT hs2 hlen hcap
  go_enter Tryd.func19, Tryd.ntmps19
  go_wp2_with fail
  go_loopg [1] l.length (fun g u wr => ∃ (k : Nat) (a2 : Option Addr) (c2 : Nat), k ≤ l.length ∧ g = l.length - k ∧ u = .slice a2 (l.length - k) c2 ∧ Hid (BytesAt wr (.slice a2 (l.length - k) c2) (l.drop k) ∧ (k < l.length → ∀ g, blockOf (.slice a2 (l.length - k) c2) = some g → g ≠ s) ∧ StateAt wr s (T ++ l.take k) ∧ Tabs wr ∧ KeepBut (· = s) w wr))
  case atStart => exact ⟨0, a, cap, Nat.zero_le _, rfl, rfl, HV.out.1, (fun h => HV.out.2.1 (by intro e; rw [e] at h; simp at h)), by simpa using HV.out.2.2.1, HV.out.2.2.2.1, KeepBut.refl _ _⟩
  case round =>
    obtain ⟨k, a2, c2, hk, rfl, rfl, HR⟩ := hrel
    by_cases hlt : k < l.length
    · obtain ⟨r, hr⟩ : ∃ r, r = l.length - k := ⟨_, rfl⟩
      rw [← hr]
      rw [← hr] at HR
      have HK : Hid (r = l.length - k ∧ k < l.length) := ⟨hr, hlt⟩
      have hr0 : 0 < r := by omega
      have hrl : r ≤ 100000 := by have := HL.out; omega
      clear hr hlt hk
      have hd : decide ((r : Int) > 0) = true := decide_eq_true (by omega)
      have hd' : decide (0 < (r : Int)) = true := decide_eq_true (by omega)
      -- the state ahead of the round
      obtain ⟨T2, hT2⟩ : ∃ T2, T2 = T ++ l.take k := ⟨_, rfl⟩
      rw [← hT2] at HR
      obtain ⟨D, hD⟩ : ∃ D, D = l.drop k := ⟨_, rfl⟩
      rw [← hD] at HR
      have hDl : D.length = r := by rw [hD, List.length_drop]; exact HK.out.1.symm
      obtain ⟨t2, ht2⟩ : ∃ x, x = T2.length := ⟨_, rfl⟩
      have ht2l : t2 ≤ 100000 := by rw [ht2]; exact HR.out.2.2.1.len
      obtain ⟨off, hof⟩ : ∃ x, x = t2 % 64 := ⟨_, rfl⟩
      have hofl : off < 64 := by omega
      have hoff : ((t2 : Int)).tmod 64 = (off : Int) := by rw [Int.tmod_eq_emod_of_nonneg (by omega)]; omega
      obtain ⟨n, hnn⟩ : ∃ x, x = min D.length (64 - off) := ⟨_, rfl⟩
      have hn : n = min D.length (64 - off) ∧ off < 64 := ⟨hnn, hofl⟩
      have hnr : n ≤ r := by omega
      have hno : off + n ≤ 64 := by omega
      have hn0 : 0 < n := by omega
      obtain ⟨R2, hR2⟩ : ∃ x, x = Sha.regsOf T2 := ⟨_, rfl⟩
      obtain ⟨B2, hB2⟩ : ∃ x, x = Sha.tail T2 := ⟨_, rfl⟩
      have hlR : R2.length = 8 := by rw [hR2]; exact Sha.regs_len _ _
      have hRU : Sha.AllU R2 := by rw [hR2]; exact Sha.regs_all _ _
      have hl2 : B2.length = 64 := by rw [hB2]; exact Sha.tail_len _
      have hBlk : Blk wr s (stG R2 B2 t2) 59 := by rw [hR2, hB2, ht2]; exact HR.out.2.2.1.blk
      have hDn : (D.take n).length = n := by rw [List.length_take]; omega
      obtain ⟨B3, hB3⟩ : ∃ x, x = B2.take off ++ D.take n ++ B2.drop (off + n) := ⟨_, rfl⟩
      have hl3 : B3.length = 64 := by rw [hB3]; simp only [List.length_append, List.length_take, List.length_drop]; omega
      have hput : putIn (stG R2 B2 t2) (8 + off) (cellsB (D.take n)) = stG R2 B3 t2 := by
        rw [stG_putB hlR hl2 (by rw [hDn]; exact hno), hDn, ← hB3]
      have hput2 : putIn (stG R2 B3 t2) (8 + off) (cellsB (D.take n)) = stG R2 B3 t2 := by
        rw [stG_putB hlR hl3 (by rw [hDn]; exact hno), hDn]
        congr 1
        have e1 : B3.take off = B2.take off := by
          rw [hB3, List.append_assoc, List.take_append_of_le_length (by rw [List.length_take]; omega), List.take_take]; congr 1; omega
        have e2 : B3.drop (off + n) = B2.drop (off + n) := by
          rw [hB3, List.drop_append, List.drop_eq_nil_of_le (by simp only [List.length_append, List.length_take]; omega), List.nil_append]
          have : (B2.take off ++ D.take n).length = off + n := by simp only [List.length_append, List.length_take]; omega
          rw [this, Nat.sub_self]; rfl
        rw [e1, e2, ← hB3]
      have hB2a : Sha.AllB B2 := by rw [hB2]; exact Sha.tail_all HR.out.2.2.1.all
      have hDa : Sha.AllB D := HR.out.1.1
      have hB3a : Sha.AllB B3 := by
        rw [hB3]
        exact Sha.AllB.app (Sha.AllB.app (fun x hx => hB2a x (List.mem_of_mem_take hx)) (fun x hx => hDa x (List.mem_of_mem_take hx))) (fun x hx => hB2a x (List.mem_of_mem_drop hx))
      obtain ⟨u, hu⟩ : ∃ u, u = Value.slice a2 r c2 := ⟨_, rfl⟩
      have HC : ∀ {wx : World}, Puts s (Obj.cells (stG R2 B3 t2) 59 (0, 0)) wr.drew wx → wx.cell? ⟨s, 72, none⟩ = some (.int .u64 (t2 : Int)) := fun hx => by
        rcases hx.it with e | e
        · exact (Blk.cell (e.trans hBlk) 72).trans (stG_72 hlR hl2)
        · exact (Blk.cell (show Blk _ s _ 59 from e) 72).trans (stG_72 hlR hl3)
      have HB : ∀ {wx : World}, Puts s (Obj.cells (stG R2 B3 t2) 59 (0, 0)) wr.drew wx → ∃ B0, Blk wx s (stG R2 B0 t2) 59 ∧ B0.length = 64 ∧ putIn (stG R2 B0 t2) (8 + off) (cellsB (D.take n)) = stG R2 B3 t2 := fun hx => by
        rcases hx.it with e | e
        · exact ⟨B2, e.trans hBlk, hl2, hput⟩
        · exact ⟨B3, e, hl3, hput2⟩
      have HU : ∀ {wx : World}, Puts s (Obj.cells (stG R2 B3 t2) 59 (0, 0)) wr.drew wx → BytesAt wx u D := fun hx => by
        rw [hu]; exact HR.out.1.but ((KeepBut.drew _).trans hx.but) (fun g hg => HR.out.2.1 HK.out.2 g hg)
      -- what it will come to
      obtain ⟨t3, ht3⟩ : ∃ x, x = t2 + n := ⟨_, rfl⟩
      have hwrap : IntKind.u64.wrap ((t2 : Int) + (n : Int)) = (t3 : Int) := by rw [IntKind.wrap_u64]; omega
      have hcv : IntKind.u64.wrap (n : Int) = (n : Int) := by rw [IntKind.wrap_u64]; omega
      have hTn : T2 ++ D.take n = T ++ l.take (k + n) := by
        rw [hT2, hD, List.append_assoc, ← List.take_add]
      have hall3 : Sha.AllB (T2 ++ D.take n) := Sha.AllB.app HR.out.2.2.1.all (fun x hx => hDa x (List.mem_of_mem_take hx))
      have hlen3 : (T2 ++ D.take n).length = t3 := by rw [List.length_append, hDn, ← ht2, ht3]
      have HEND : Hid (t3 = t2 + n ∧ off = t2 % 64 ∧ T2 ++ D.take n = T ++ l.take (k + n) ∧ Sha.AllB (T2 ++ D.take n) ∧ (T2 ++ D.take n).length = t3 ∧ k + n ≤ l.length ∧ t3 ≤ 100000) := ⟨ht3, hof, hTn, hall3, hlen3, by have := HK.out; omega, by
        have h1 := HV.out.2.2.2.2.2
        have h2 := congrArg List.length hTn
        rw [hlen3, List.length_append, List.length_take] at h2
        omega⟩
      have HPART : Hid (off + n < 64 → stA (T2 ++ D.take n) = stG R2 B3 t3) := fun h => by
        have := Sha.more_part (T := T2) (l := D.take n) (by rw [hDn, ← ht2, ← hof]; exact h)
        unfold stA
        rw [this.1, this.2, hlen3, ← ht2, ← hof, hDn, ← hR2, ← hB2, ← hB3]
      have HFULL : Hid (off + n = 64 → stA (T2 ++ D.take n) = stG (Sha.work R2 B3) (List.replicate 64 0) t3) := fun h => by
        have := Sha.more_full (T := T2) (l := D.take n) (by rw [hDn, ← ht2, ← hof]; exact h)
        unfold stA
        rw [this.1, this.2, hlen3, ← ht2, ← hof, ← hR2, ← hB2]
        congr 2
        rw [hB3, h, List.drop_eq_nil_of_le (by omega), List.append_nil]
      have HN : Hid (0 < n ∧ n ≤ r ∧ r ≤ 100000 ∧ t2 ≤ 100000) := ⟨hn0, hnr, hrl, ht2l⟩
      have HD : Hid (D = l.drop k) := hD
      have HNN : Hid (n = min D.length (64 - off) ∧ off < 64) := hn
      clear hT2 hD ht2 hof hn hnn hR2 hB2 hput hput2 hB3 hTn hall3 hlen3 ht3 hDa hB2a
      go_wp2_with fail
      rw [← hu]
      refine wp_region_facts (fun t => bif Nat.ble 10 t && Nat.ble t 20 then some (t - 10) else bif Nat.beq t 4 then some 11 else none) 55 (Puts s (Obj.cells (stG R2 B3 t2) 59 (0, 0)))
        [Is (.pointer (some ⟨s, 0, none⟩)),
         Is (.pointer (some ⟨s, 0, none⟩)),
         Is (.pointer (some ⟨s, 8, none⟩)),
         Is (.pointer (some ⟨s, 0, none⟩)),
         Is (.pointer (some ⟨s, 0, none⟩)),
         Is (.pointer (some ⟨s, 72, none⟩)),
         Is (.int .u64 (t2 : Int)),
         Is (.int .u64 (off : Int)),
         Is (.slice (some ⟨s, 8 + off, none⟩) (64 - off) (64 - off)),
         Is (u),
         (fun wx v => v = .int .i64 (n : Int) ∧ wx.heap[s]? = some (Obj.cells (stG R2 B3 t2) 59 (0, 0))),
         (fun wx v => v = .int .i64 (n : Int) ∧ wx.heap[s]? = some (Obj.cells (stG R2 B3 t2) 59 (0, 0)))]
        rfl (by kernel_rfl) (by kernel_rfl) rfl Puts.refl (fun _ _ _ => Puts.trans) ?_ ?_ ?_
      · exact KeepAll.is (KeepAll.is (KeepAll.is (KeepAll.is (KeepAll.is (KeepAll.is (KeepAll.is (KeepAll.is (KeepAll.is (KeepAll.is (KeepAll.cons (fun _ _ _ he h => ⟨h.1, by rcases he.it with e | e; exact e.trans h.2; exact e⟩) (KeepAll.cons (fun _ _ _ he h => ⟨h.1, by rcases he.it with e | e; exact e.trans h.2; exact e⟩) (KeepAll.nil))))))))))))
      · refine GoodAll.cons ?_ ?_
        · intro r wx hR hx
          obtain ⟨h1, _⟩ := hx
          replace h1 : r (.tmp 0) = (.pointer (some ⟨s, 0, none⟩)) := h1
          exact give_move (.inl rfl) ⟨Puts.refl _, h1⟩
        refine GoodAll.cons ?_ ?_
        · intro r wx hR hx
          obtain ⟨h1, _⟩ := hx
          replace h1 : r (.tmp 10) = (.pointer (some ⟨s, 0, none⟩)) := h1
          exact give_of (by simp [execOp, h1, go_sem]) ⟨Puts.refl _, rfl⟩
        refine GoodAll.cons ?_ ?_
        · intro r wx hR hx
          obtain ⟨h1, _⟩ := hx
          replace h1 : r (.tmp 11) = (.pointer (some ⟨s, 0, none⟩)) := h1
          exact give_of (by simp [execOp, h1, go_sem]) ⟨Puts.refl _, rfl⟩
        refine GoodAll.cons ?_ ?_
        · intro r wx hR hx
          obtain ⟨h1, _⟩ := hx
          replace h1 : r (.tmp 0) = (.pointer (some ⟨s, 0, none⟩)) := h1
          exact give_move (.inl rfl) ⟨Puts.refl _, h1⟩
        refine GoodAll.cons ?_ ?_
        · intro r wx hR hx
          obtain ⟨h1, _⟩ := hx
          replace h1 : r (.tmp 13) = (.pointer (some ⟨s, 0, none⟩)) := h1
          exact give_of (by simp [execOp, h1, go_sem]) ⟨Puts.refl _, rfl⟩
        refine GoodAll.cons ?_ ?_
        · intro r wx hR hx
          obtain ⟨h1, _⟩ := hx
          replace h1 : r (.tmp 14) = (.pointer (some ⟨s, 0, none⟩)) := h1
          exact give_of (by simp [execOp, h1, go_sem]) ⟨Puts.refl _, rfl⟩
        refine GoodAll.cons ?_ ?_
        · intro r wx hR hx
          obtain ⟨h1, _⟩ := hx
          replace h1 : r (.tmp 15) = (.pointer (some ⟨s, 72, none⟩)) := h1
          exact give_of (exec_get one46 rfl h1 (HC hR)) ⟨Puts.refl _, rfl⟩
        refine GoodAll.cons ?_ ?_
        · intro r wx hR hx
          obtain ⟨h1, h2, _⟩ := hx
          replace h1 : r (.tmp 16) = (.int .u64 (t2 : Int)) := h1
          replace h2 : r (.const (.int .u64 64)) = .int .u64 64 := h2
          exact give_of (by simp [execOp, h1, h2, hoff, go_sem]) ⟨Puts.refl _, rfl⟩
        refine GoodAll.cons ?_ ?_
        · intro r wx hR hx
          obtain ⟨h1, h2, _⟩ := hx
          replace h1 : r (.tmp 12) = (.pointer (some ⟨s, 8, none⟩)) := h1
          replace h2 : r (.tmp 17) = (.int .u64 (off : Int)) := h2
          exact give_of (exec_slice45 rfl h1 h2 hofl) ⟨Puts.refl _, rfl⟩
        refine GoodAll.cons ?_ ?_
        · intro r wx hR hx
          obtain ⟨h1, _⟩ := hx
          replace h1 : r (.tmp 1) = (u) := h1
          exact give_move (.inl rfl) ⟨Puts.refl _, h1⟩
        refine GoodAll.cons ?_ ?_
        · intro r wx hR hx
          obtain ⟨h1, h2, _⟩ := hx
          replace h1 : r (.tmp 18) = (.slice (some ⟨s, 8 + off, none⟩) (64 - off) (64 - off)) := h1
          replace h2 : r (.tmp 19) = (u) := h2
          obtain ⟨B0, hB0, hl0, hput⟩ := HB hR
          refine give_of (v := .int .i64 (n : Int)) (w' := wx.setRow s (stG R2 B3 t2)) (by rw [← hput]; exact exec_copy rfl h1 h2 (HU hR) hB0 (by rw [stG_size hlR hl0]; omega) HNN.out) ⟨⟨rfl, rfl, rfl, by simp, fun k hk => setRow_other _ _ _ _ hk, .inr (hB0.row _)⟩, rfl, hB0.row _⟩
        refine GoodAll.cons ?_ ?_
        · intro r wx hR hx
          obtain ⟨h1, _⟩ := hx
          replace h1 : ((fun wx v => v = .int .i64 (n : Int) ∧ wx.heap[s]? = some (Obj.cells (stG R2 B3 t2) 59 (0, 0))) : Fact) wx (r (.tmp 20)) := h1
          exact give_move (.inr rfl) ⟨Puts.refl _, h1⟩
        exact GoodAll.nil
      · intro vs w5 aZ hR hold ha
        have hv0 : vs 0 = (.pointer (some ⟨s, 0, none⟩)) := hold.at 0
        have hv1 : vs 1 = (.pointer (some ⟨s, 0, none⟩)) := hold.at 1
        have hv2 : vs 2 = (.pointer (some ⟨s, 8, none⟩)) := hold.at 2
        have hv3 : vs 3 = (.pointer (some ⟨s, 0, none⟩)) := hold.at 3
        have hv4 : vs 4 = (.pointer (some ⟨s, 0, none⟩)) := hold.at 4
        have hv5 : vs 5 = (.pointer (some ⟨s, 72, none⟩)) := hold.at 5
        have hv6 : vs 6 = (.int .u64 (t2 : Int)) := hold.at 6
        have hv7 : vs 7 = (.int .u64 (off : Int)) := hold.at 7
        have hv8 : vs 8 = (.slice (some ⟨s, 8 + off, none⟩) (64 - off) (64 - off)) := hold.at 8
        have hv9 : vs 9 = (u) := hold.at 9
        have hq10 := hold.at 10
        have hq11 := hold.at 11
        have hw5 : Blk w5 s (stG R2 B3 t2) 59 := hq10.2
        have hv10 : vs 10 = .int .i64 (n : Int) := hq10.1
        have hv11 : vs 11 = .int .i64 (n : Int) := hq11.1
        simp only [putAll, Act.put, hv0, hv1, hv2, hv3, hv4, hv5, hv6, hv7, hv8, hv9, hv10, hv11, List.setIfInBounds_toArray, List.set_cons_succ, List.set_cons_zero] at ha
        subst ha
        have HK5 : Hid (KeepBut (· = s) wr w5) := (KeepBut.drew _).trans hR.but
        clear hold hq10 hq11 hv10 hv11 hv0 hv1 hv2 hv3 hv4 hv5 hv6 hv7 hv8 hv9 HC HB HU hBlk
        subst hu
        refine ‹∀ (a : Act) (w : World), Code.wp Tryd.prog _ _ a w → _› _ _ ?_
        have c72 := (hw5.cell 72).trans (stG_72 hlR hl3)
        have HB5 : Hid (Blk w5 s (stG R2 B3 t2) 59) := hw5
        clear hw5
        obtain ⟨a3, hsl, hbl3⟩ := sliced_form a2 n r c2
        obtain ⟨r3, hr3⟩ : ∃ x, x = r - n := ⟨_, rfl⟩
        obtain ⟨c3, hc3⟩ : ∃ x, x = c2 - n := ⟨_, rfl⟩
        rw [← hr3, ← hc3] at hsl hbl3
        have HR3 : Hid (r3 = l.length - (k + n) ∧ sliced a2 n r c2 1 = .slice a3 r3 c3 ∧ ∀ g, blockOf (.slice a3 r3 c3) = some g → g ≠ s) := ⟨by have := HK.out; omega, hsl, fun g hg => HR.out.2.1 HK.out.2 g (hbl3 g hg r c2)⟩
        have HSL : Hid (sliced a2 n r c2 1 = .slice a3 r3 c3) := hsl
        have hr3l : r3 ≤ 100000 := by omega
        clear hsl hbl3 hr3 hc3
        obtain ⟨o3, ho3⟩ : ∃ x, x = t3 % 64 := ⟨_, rfl⟩
        have hrem : ((t3 : Int)).tmod 64 = (o3 : Int) := by rw [Int.tmod_eq_emod_of_nonneg (by omega)]; omega
        have HO3 : Hid (o3 = t3 % 64) := ho3
        clear ho3
        have hlt64 : t3 < 200000 := by have := HEND.out; omega
        by_cases hfull : off + n = 64
        · have hz : o3 = 0 := by have := HEND.out; have := HO3.out; omega
          subst hz
          go_wp2_with (first
            | (refine wpList_of_run (v := .slice a3 r3 c3) rfl (by rw [← HSL.out]; exact exec_slice_lN numT8 rfl _ a2 r c2 n .i64 rfl rfl hnr) ?_)
            | (refine wl_set (v := .int .u64 (t3 : Nat)) rfl one46 rfl rfl (by first | rfl | go_simp | simp [go_sem, hwrap, hcv]) rfl rfl HB5.out (by rw [stG_size hlR hl3]; omega) ?_; intro w6 hb6 hk6 hx; clear hx; rw [stG_set72 hlR hl3] at hb6; have c6 := (hb6.cell 72).trans (stG_72 hlR hl3)))
          have HK6 : Hid (KeepBut (· = s) wr w6) := HK5.out.trans hk6
          have HB6 : ∀ {wx : World}, Ext w6.drew wx → Blk wx s (stG R2 B3 t3) 59 := fun hx => hb6.ext ((Ext.drew _).trans hx)
          have HT6 : ∀ {wx : World}, Ext w6.drew wx → Tabs wx := fun hx => (HR.out.2.2.2.1.but HK6.out (by have := HV.out.2.2.2.2.1; show ¬ _ = _; omega) (by have := HV.out.2.2.2.2.1; show ¬ _ = _; omega)).ext ((Ext.drew _).trans hx)
          refine wp_region_lastD (fun t => bif Nat.ble 39 t && Nat.ble t 50 then some (t - 39) else none) 55 Ext
            [Is (.pointer (some ⟨s, 0, none⟩)),
             Is (.pointer (some ⟨s, 0, none⟩)),
             Is (.pointer (some ⟨s, 0, none⟩)),
             Is (.pointer (some ⟨s, 0, none⟩)),
             Is (.agg (uA R2)),
             Is (.pointer (some ⟨s, 0, none⟩)),
             Is (.pointer (some ⟨s, 0, none⟩)),
             Is (.pointer (some ⟨s, 8, none⟩)),
             Is (.agg (bA B3)),
             Is (.agg (uA (Sha.work R2 B3))),
             Is (.pointer (some ⟨s, 0, none⟩)),
             Is (.pointer (some ⟨s, 0, none⟩))]
            (by intro h; cases h) rfl (by kernel_rfl) (by kernel_rfl) rfl (by kernel_rfl) Ext.refl (fun _ _ _ => Ext.trans) ?_ (fun wx wy => Blk wy s (stG (Sha.work R2 B3) B3 t3) 59 ∧ KeepBut (· = s) wx wy) ?_ ?_ ?_
          · exact KeepAll.is (KeepAll.is (KeepAll.is (KeepAll.is (KeepAll.is (KeepAll.is (KeepAll.is (KeepAll.is (KeepAll.is (KeepAll.is (KeepAll.is (KeepAll.is (KeepAll.nil))))))))))))
          · refine GoodAll.cons ?_ ?_
            · intro r wx hR hx
              obtain ⟨h1, _⟩ := hx
              replace h1 : r (.tmp 0) = (.pointer (some ⟨s, 0, none⟩)) := h1
              exact give_move (.inl rfl) ⟨Ext.refl _, h1⟩
            refine GoodAll.cons ?_ ?_
            · intro r wx hR hx
              obtain ⟨h1, _⟩ := hx
              replace h1 : r (.tmp 0) = (.pointer (some ⟨s, 0, none⟩)) := h1
              exact give_move (.inl rfl) ⟨Ext.refl _, h1⟩
            refine GoodAll.cons ?_ ?_
            · intro r wx hR hx
              obtain ⟨h1, _⟩ := hx
              replace h1 : r (.tmp 40) = (.pointer (some ⟨s, 0, none⟩)) := h1
              exact give_of (by simp [execOp, h1, go_sem]) ⟨Ext.refl _, rfl⟩
            refine GoodAll.cons ?_ ?_
            · intro r wx hR hx
              obtain ⟨h1, _⟩ := hx
              replace h1 : r (.tmp 41) = (.pointer (some ⟨s, 0, none⟩)) := h1
              exact give_of (by simp [execOp, h1, go_sem]) ⟨Ext.refl _, rfl⟩
            refine GoodAll.cons ?_ ?_
            · intro r wx hR hx
              obtain ⟨h1, _⟩ := hx
              replace h1 : r (.tmp 42) = (.pointer (some ⟨s, 0, none⟩)) := h1
              exact give_of (exec_load row44 rfl h1 (HB6 hR) (cellsU R2) (stG_R hlR) (by rw [cellsU_length, hlR])) ⟨Ext.refl _, rfl⟩
            refine GoodAll.cons ?_ ?_
            · intro r wx hR hx
              obtain ⟨h1, _⟩ := hx
              replace h1 : r (.tmp 0) = (.pointer (some ⟨s, 0, none⟩)) := h1
              exact give_move (.inl rfl) ⟨Ext.refl _, h1⟩
            refine GoodAll.cons ?_ ?_
            · intro r wx hR hx
              obtain ⟨h1, _⟩ := hx
              replace h1 : r (.tmp 44) = (.pointer (some ⟨s, 0, none⟩)) := h1
              exact give_of (by simp [execOp, h1, go_sem]) ⟨Ext.refl _, rfl⟩
            refine GoodAll.cons ?_ ?_
            · intro r wx hR hx
              obtain ⟨h1, _⟩ := hx
              replace h1 : r (.tmp 45) = (.pointer (some ⟨s, 0, none⟩)) := h1
              exact give_of (by simp [execOp, h1, go_sem]) ⟨Ext.refl _, rfl⟩
            refine GoodAll.cons ?_ ?_
            · intro r wx hR hx
              obtain ⟨h1, _⟩ := hx
              replace h1 : r (.tmp 46) = (.pointer (some ⟨s, 8, none⟩)) := h1
              exact give_of (exec_load row45 rfl h1 (HB6 hR) (cellsB B3) (stG_B hlR) (by rw [cellsB_length, hl3])) ⟨Ext.refl _, rfl⟩
            refine GoodAll.cons ?_ ?_
            · intro r wx hR hx
              obtain ⟨h1, h2, h3, _⟩ := hx
              replace h1 : r (.func 29) = .func (.func 29) #[] #[] := h1
              replace h2 : r (.tmp 43) = (.agg (uA R2)) := h2
              replace h3 : r (.tmp 47) = (.agg (bA B3)) := h3
              refine give_func #[.agg (uA R2), .agg (bA B3)] rfl h1 Tryd.call29 (by simp [h2, h3]) ?_
              refine (workedIn_any R2 B3 _ (HT6 hR) hlR hRU hl3 hB3a).mono ?_
              rintro e w' ⟨rfl, he⟩
              exact ⟨_, rfl, he, rfl⟩
            refine GoodAll.cons ?_ ?_
            · intro r wx hR hx
              obtain ⟨h1, _⟩ := hx
              replace h1 : r (.tmp 39) = (.pointer (some ⟨s, 0, none⟩)) := h1
              exact give_of (by simp [execOp, h1, go_sem]) ⟨Ext.refl _, rfl⟩
            refine GoodAll.cons ?_ ?_
            · intro r wx hR hx
              obtain ⟨h1, _⟩ := hx
              replace h1 : r (.tmp 49) = (.pointer (some ⟨s, 0, none⟩)) := h1
              exact give_of (by simp [execOp, h1, go_sem]) ⟨Ext.refl _, rfl⟩
            exact GoodAll.nil
          · intro r wx hR hx
            obtain ⟨h1, h2, _⟩ := hx
            replace h1 : r (.tmp 50) = (.pointer (some ⟨s, 0, none⟩)) := h1
            replace h2 : r (.tmp 48) = (.agg (uA (Sha.work R2 B3))) := h2
            have hpR : putIn (stG R2 B3 t3) 0 (uA (Sha.work R2 B3)).toList = stG (Sha.work R2 B3) B3 t3 := stG_putR hlR (by rw [Sha.work_len, hlR])
            exact give_skip (w' := wx.setRow s (stG (Sha.work R2 B3) B3 t3)) (by rw [← hpR]; exact exec_store row44 rfl h1 h2 (HB6 hR) (by rw [uA_size, Sha.work_len, hlR]) (by rw [stG_size hlR hl3]; omega) (uA_one _)) ⟨(HB6 hR).row _, KeepBut.row _ _ _⟩
          · intro vs w7 w8 aY hR6 hE hold ha
            have hv0 : vs 0 = (.pointer (some ⟨s, 0, none⟩)) := hold.at 0
            have hv1 : vs 1 = (.pointer (some ⟨s, 0, none⟩)) := hold.at 1
            have hv2 : vs 2 = (.pointer (some ⟨s, 0, none⟩)) := hold.at 2
            have hv3 : vs 3 = (.pointer (some ⟨s, 0, none⟩)) := hold.at 3
            have hv4 : vs 4 = (.agg (uA R2)) := hold.at 4
            have hv5 : vs 5 = (.pointer (some ⟨s, 0, none⟩)) := hold.at 5
            have hv6 : vs 6 = (.pointer (some ⟨s, 0, none⟩)) := hold.at 6
            have hv7 : vs 7 = (.pointer (some ⟨s, 8, none⟩)) := hold.at 7
            have hv8 : vs 8 = (.agg (bA B3)) := hold.at 8
            have hv9 : vs 9 = (.agg (uA (Sha.work R2 B3))) := hold.at 9
            have hv10 : vs 10 = (.pointer (some ⟨s, 0, none⟩)) := hold.at 10
            have hv11 : vs 11 = (.pointer (some ⟨s, 0, none⟩)) := hold.at 11
            simp only [putAll, Act.put, hv0, hv1, hv2, hv3, hv4, hv5, hv6, hv7, hv8, hv9, hv10, hv11, List.setIfInBounds_toArray, List.set_cons_succ, List.set_cons_zero] at ha
            subst ha
            obtain ⟨hb8, hk8⟩ := hE
            have HK8 : Hid (KeepBut (· = s) wr w8) := (HK6.out.trans (KeepBut.ext ((Ext.drew _).trans hR6))).trans hk8
            clear hold hv0 hv1 hv2 hv3 hv4 hv5 hv6 hv7 hv8 hv9 hv10 hv11 HB6 HT6
            refine ‹∀ (a : Act) (w : World), Code.wp Tryd.prog _ _ a w → _› _ _ ?_
            go_wp2_with (first
              | (refine wpList_of_run rfl (exec_build0 rfl) ?_)
              | (refine wl_storeM (D := bA (List.replicate 64 0)) rfl row45 rfl rfl rfl hb8 (by rw [bA_size]; rfl) (by rw [stG_size (by rw [Sha.work_len, hlR]) hl3]; omega) (bA_one _) ?_; intro w9 hb9 hk9 hx; clear hx))
            have hp := stG_putB (R := Sha.work R2 B3) (B := B3) (D := List.replicate 64 0) (t := t3) (off := 0) (by rw [Sha.work_len, hlR]) hl3 (by simp)
            change Blk w9 s (putIn (stG (Sha.work R2 B3) B3 t3) (8 + 0) (cellsB (List.replicate 64 0))) 59 at hb9
            rw [hp, List.take_zero, List.nil_append, List.drop_eq_nil_of_le (by simp; omega), List.append_nil] at hb9
            have HK9 : Hid (KeepBut (· = s) wr w9) := HK8.out.trans hk9
            go_roundg (l.length - (k + n))
            case measure => have := HN.out; have := HK.out; omega
            case rel =>
              refine ⟨k + n, a3, c3, HEND.out.2.2.2.2.2.1, rfl, by rw [HR3.out.1], ?_, ?_, ?_, ?_, ?_⟩
              · rw [← HR3.out.1]
                have := BytesAt.sliced (HR.out.1) n r hnr (by rw [hDl]; exact Nat.le_refl _)
                rw [HR3.out.2.1, List.take_of_length_le (by omega), HD.out, List.drop_drop] at this
                exact this.but HK9.out (fun g hg => HR3.out.2.2 g hg)
              · rw [← HR3.out.1]; exact fun _ => HR3.out.2.2
              · rw [← HEND.out.2.2.1]
                exact ⟨by rw [HFULL.out hfull]; exact hb9, HEND.out.2.2.2.1, by rw [HEND.out.2.2.2.2.1]; exact HEND.out.2.2.2.2.2.2⟩
              · exact HR.out.2.2.2.1.but HK9.out (by have := HV.out.2.2.2.2.1; show ¬ _ = _; omega) (by have := HV.out.2.2.2.2.1; show ¬ _ = _; omega)
              · exact HR.out.2.2.2.2.trans HK9.out
        · have hnz : ((o3 : Int) == 0) = false := by
            have := HEND.out; have := HO3.out
            rw [beq_eq_false_iff_ne]; omega
          go_wp2_with (first
            | (refine wpList_of_run (v := .slice a3 r3 c3) rfl (by rw [← HSL.out]; exact exec_slice_lN numT8 rfl _ a2 r c2 n .i64 rfl rfl hnr) ?_)
            | (refine wl_set (v := .int .u64 (t3 : Nat)) rfl one46 rfl rfl (by first | rfl | go_simp | simp [go_sem, hwrap, hcv]) rfl rfl HB5.out (by rw [stG_size hlR hl3]; omega) ?_; intro w6 hb6 hk6 hx; clear hx; rw [stG_set72 hlR hl3] at hb6; have c6 := (hb6.cell 72).trans (stG_72 hlR hl3)))
          have HK6 : Hid (KeepBut (· = s) wr w6) := HK5.out.trans hk6
          go_roundg (l.length - (k + n))
          case measure => have := HN.out; have := HK.out; omega
          case rel =>
            refine ⟨k + n, a3, c3, HEND.out.2.2.2.2.2.1, rfl, by rw [HR3.out.1], ?_, ?_, ?_, ?_, ?_⟩
            · rw [← HR3.out.1]
              have := BytesAt.sliced (HR.out.1) n r hnr (by rw [hDl]; exact Nat.le_refl _)
              rw [HR3.out.2.1, List.take_of_length_le (by omega), HD.out, List.drop_drop] at this
              exact this.but HK6.out (fun g hg => HR3.out.2.2 g hg)
            · rw [← HR3.out.1]; exact fun _ => HR3.out.2.2
            · rw [← HEND.out.2.2.1]
              exact ⟨by rw [HPART.out (by have := hno; omega)]; exact hb6, HEND.out.2.2.2.1, by rw [HEND.out.2.2.2.2.1]; exact HEND.out.2.2.2.2.2.2⟩
            · exact HR.out.2.2.2.1.but HK6.out (by have := HV.out.2.2.2.2.1; show ¬ _ = _; omega) (by have := HV.out.2.2.2.2.1; show ¬ _ = _; omega)
            · exact HR.out.2.2.2.2.trans HK6.out
    · obtain rfl : k = l.length := by omega
      rw [Nat.sub_self]
      rw [Nat.sub_self, List.take_length] at HR
      go_wp2
      go_end0
      exact ⟨⟨_, rfl⟩, HR.out.2.2.1, HR.out.2.2.2.2⟩
end Go.Proofs.YtaklbnaaoebknaaDoor
