/- Texts of the seat, one behind the other. No condition of its own. -/
import Derived.Test.YtfhoielfekeihaaDoorMgM4
import Derived.Stop.BytesEq
import Derived.Lib.SlBytesConst
import Derived.Deep.Strs
/- A part is added to a state. Condition: the tables hold what the text lays. -/
namespace Go.Proofs.YtfhoielfekeihaaDoor
open Go Go.RowKit
set_option linter.unusedVariables false
set_option linter.unusedSimpArgs false
set_option maxRecDepth 100000

theorem one46 : OneT Tryd.prog 79 := ⟨⟨_, Tryd.underlying79, rfl⟩, by kernel_rfl⟩
theorem numT8 : NumT Tryd.prog 22 5 .u8 1 := ⟨Tryd.underlying22, Tryd.underlying5, by kernel_rfl⟩
theorem BytesAt.but {S : Nat → Prop} {w w' : World} {v : Value} {l : List Nat} (h : BytesAt w v l) (hk : KeepBut S w w') (hb : ∀ g, blockOf v = some g → ¬ S g) : BytesAt w' v l := by
  obtain ⟨h1, h2, h3⟩ := h
  refine ⟨h1, h2, h3.imp id ?_⟩
  rintro ⟨ad, cap, rfl, h4, h5, hc⟩
  refine ⟨ad, cap, rfl, h4, h5, fun j hj => ?_⟩
  have hlt := cell_lt (hc j hj)
  have hbk : (ad.add j).block = ad.block := add_block _ _
  rw [hbk] at hlt
  have e := hk.block ad.block hlt (hb ad.block (by simp [blockOf]))
  have := hc j hj
  unfold World.cell? at this ⊢
  rw [hbk] at this ⊢
  rw [e]; exact this
theorem Puts.but {B : Nat} {o : Obj} {W W' : World} (h : Puts B o W W') : KeepBut (· = B) W W' := ⟨h.os, h.tape, h.output, by rw [h.size]; exact Nat.le_refl _, fun k _ hk => h.block k hk⟩
theorem KeepBut.drew {S : Nat → Prop} (w : World) : KeepBut S w w.drew := ⟨rfl, rfl, rfl, Nat.le_refl _, fun _ _ _ => rfl⟩
theorem exec_slice45 {r : Operand → Value} {o : Oper} {x lo : Operand} {w : World} {s off : Nat} (ho : o.op = .slice 87 x (some lo) none none) (h1 : r x = .pointer (some ⟨s, 8, none⟩)) (h2 : r lo = .int .u64 (off : Int)) (hk : off < 64) :
    (execOp r o).run Tryd.prog w = .ok (.value (.slice (some ⟨s, 8 + off, none⟩) (64 - off) (64 - off))) w := by
  obtain ⟨i, hi, _, hs, _⟩ := byteT.ex
  have hk' : (off : Int) ≤ 64 := by omega
  have hu : Tryd.prog.underlying 87 = some (.array 64 5) := Tryd.underlying87
  simp [execOp, ho, h1, h2, Instr.sliceAt, Instr.sureAddr, run_underlying hu, Instr.sliceBounds, run_sliceBound, sizeOf, typeInfo, hi, hs, hk', add_plain, show ¬ 64 = off by omega]
theorem exec_copy {r : Operand → Value} {o : Oper} {x y : Operand} {w : World} {s off n t : Nat} {u : Value} {l : List Nat} {C : Array Value}
    (ho : o.op = .call { callee := .builtin .copy, args := #[x, y], argTypes := #[22, 22] }) (h1 : r x = .slice (some ⟨s, 8 + off, none⟩) (64 - off) (64 - off)) (h2 : r y = u) (hu : BytesAt w u l) (hB : Blk w s C t) (hC : 8 + 64 ≤ C.size) (hn : n = min l.length (64 - off) ∧ off < 64) :
    (execOp r o).run Tryd.prog w = .ok (.value (.int .i64 (n : Int))) (w.setRow s (putIn C (8 + off) (cellsB (l.take n)))) := by
  have hlen : (l.take n).length = n := by rw [List.length_take, hn.1]; exact Nat.min_eq_left (Nat.min_le_left _ _)
  have hnl : n ≤ 64 - off := by rw [hn.1]; exact Nat.min_le_right _ _
  obtain ⟨hb, hm, h3 | ⟨ad, cap, rfl, hle, hcm, hc⟩⟩ := hu
  · obtain ⟨rfl, rfl⟩ := h3
    have hr := run_copy_nil (P := Tryd.prog) w 22 22 o.type 5 ⟨s, 8 + off, none⟩ (64 - off) (64 - off) Tryd.underlying22 (by kernel_rfl)
    have hn0 : n = 0 := by rw [hn.1]; simp
    subst hn0
    have : putIn C (8 + off) (cellsB (List.take 0 ([] : List Nat))) = C := by simp [putIn, cellsB]
    rw [this, setRow_self w s C t (0, 0) hB]
    simp only [execOp, ho, resolve, invoke, builtin, Sem.run_bind, Sem.run_pure, Result.andThen_ok, List.map_toArray, List.map_cons, List.map_nil, h1, h2, hr]
    rfl
  · have hr := run_copy_row (P := Tryd.prog) w 22 22 o.type 5 s (8 + off) (64 - off) (64 - off) ad l.length cap C t (cellsB (l.take n)) Tryd.underlying22 (by kernel_rfl) hB (by rw [cellsB_length, hlen]; exact hn.1)
      (fun j v hv => by
        obtain ⟨hj, rfl⟩ := cellsB_get hv
        rw [hlen] at hj
        have hjl : j < l.length := by rw [List.length_take] at hlen; omega
        rw [hc j hjl]
        simp [List.getD_eq_getElem?_getD, hj])
      (by rw [cellsB_length, hlen]; omega) (fun v hv => by obtain ⟨z, _, rfl⟩ := List.mem_map.1 hv; rfl)
    simp only [execOp, ho, resolve, invoke, builtin, Sem.run_bind, Sem.run_pure, Result.andThen_ok, List.map_toArray, List.map_cons, List.map_nil, h1, h2, hr, goInt, cellsB_length, hlen]
    unfold putIn
    rw [cellsB_length, hlen]
theorem zero45 : (Tryd.prog.built 87 []) = some (bA (List.replicate 64 0)) := by kernel_rfl
theorem exec_build0 {r : Operand → Value} {o : Oper} {w : World} (ho : o.op = .build 87 #[]) : (execOp r o).run Tryd.prog w = .ok (.value (.agg (bA (List.replicate 64 0)))) w := by
  have := run_build (P := Tryd.prog) w 87 #[] (bA (List.replicate 64 0)) zero45
  simp only [execOp, ho, List.map_toArray, List.map_nil, Sem.run_bind, this, Result.andThen_ok]
  rfl

set_option maxHeartbeats 4000000 in
theorem add_any {w : World} {s : Nat} {T : List Nat} {v : Value} {l : List Nat} (hT : Tabs w) (hS : StateAt w s T) (hv : BytesAt w v l) (hne : l ≠ [] → ∀ g, blockOf v = some g → g ≠ s) (hs2 : 2 < s) (hlen : T.length + l.length ≤ 100000) :
    Calls Tryd.prog 42 #[stP s, v] w fun e w' => (∃ x, e = .returned x) ∧ StateAt w' s (T ++ l) ∧ KeepBut (· = s) w w' := by
  obtain ⟨a, cap, rfl, hcap, _⟩ := hv.form
  have HV : Hid (BytesAt w (.slice a l.length cap) l ∧ (l ≠ [] → ∀ g, blockOf (.slice a l.length cap) = some g → g ≠ s) ∧ StateAt w s T ∧ Tabs w ∧ 2 < s ∧ T.length + l.length ≤ 100000) := ⟨hv, hne, hS, hT, hs2, hlen⟩
  have HL : Hid (l.length ≤ 100000) := by have : l.length ≤ 100000 := by omega
                                          exact this
  clear hv hne hS hT hs2 hlen hcap
  go_enter Tryd.func42, Tryd.ntmps42
  go_wp2_with fail
  go_loopg [1] l.length (fun g u wr => ∃ (k : Nat) (a2 : Option Addr) (c2 : Nat), k ≤ l.length ∧ g = l.length - k ∧ u = .slice a2 (l.length - k) c2 ∧ Hid (BytesAt wr (.slice a2 (l.length - k) c2) (l.drop k) ∧ (k < l.length → ∀ g, blockOf (.slice a2 (l.length - k) c2) = some g → g ≠ s) ∧ StateAt wr s (T ++ l.take k) ∧ Tabs wr ∧ KeepBut (· = s) w wr))
  case atStart => exact ⟨0, a, cap, Nat.zero_le _, rfl, rfl, HV.out.1, (fun h => HV.out.2.1 (by intro e; rw [e] at h; simp at h)), by simpa using HV.out.2.2.1, HV.out.2.2.2.1, KeepBut.refl _ _⟩
  case round =>
    obtain ⟨k, a2, c2, hk, rfl, rfl, HR⟩ := hrel
    by_cases hlt : k < l.length
    · obtain ⟨r, hr⟩ : ∃ r, r = l.length - k := ⟨_, rfl⟩
      rw [← hr]
      rw [← hr] at HR
      have HK : Hid (r = l.length - k ∧ k < l.length) := ⟨hr, hlt⟩
      have hr0 : 0 < r := by omega
      have hrl : r ≤ 100000 := by have := HL.out; omega
      clear hr hlt hk
      have hd : decide ((r : Int) > 0) = true := decide_eq_true (by omega)
      have hd' : decide (0 < (r : Int)) = true := decide_eq_true (by omega)
      -- the state ahead of the round
      obtain ⟨T2, hT2⟩ : ∃ T2, T2 = T ++ l.take k := ⟨_, rfl⟩
      rw [← hT2] at HR
      obtain ⟨D, hD⟩ : ∃ D, D = l.drop k := ⟨_, rfl⟩
      rw [← hD] at HR
      have hDl : D.length = r := by rw [hD, List.length_drop]; exact HK.out.1.symm
      obtain ⟨t2, ht2⟩ : ∃ x, x = T2.length := ⟨_, rfl⟩
      have ht2l : t2 ≤ 100000 := by rw [ht2]; exact HR.out.2.2.1.len
      obtain ⟨off, hof⟩ : ∃ x, x = t2 % 64 := ⟨_, rfl⟩
      have hofl : off < 64 := by omega
      have hoff : ((t2 : Int)).tmod 64 = (off : Int) := by rw [Int.tmod_eq_emod_of_nonneg (by omega)]; omega
      obtain ⟨n, hnn⟩ : ∃ x, x = min D.length (64 - off) := ⟨_, rfl⟩
      have hn : n = min D.length (64 - off) ∧ off < 64 := ⟨hnn, hofl⟩
      have hnr : n ≤ r := by omega
      have hno : off + n ≤ 64 := by omega
      have hn0 : 0 < n := by omega
      obtain ⟨R2, hR2⟩ : ∃ x, x = Sha.regsOf T2 := ⟨_, rfl⟩
      obtain ⟨B2, hB2⟩ : ∃ x, x = Sha.tail T2 := ⟨_, rfl⟩
      have hlR : R2.length = 8 := by rw [hR2]; exact Sha.regs_len _ _
      have hRU : Sha.AllU R2 := by rw [hR2]; exact Sha.regs_all _ _
      have hl2 : B2.length = 64 := by rw [hB2]; exact Sha.tail_len _
      have hBlk : Blk wr s (stG R2 B2 t2) 113 := by rw [hR2, hB2, ht2]; exact HR.out.2.2.1.blk
      have hDn : (D.take n).length = n := by rw [List.length_take]; omega
      obtain ⟨B3, hB3⟩ : ∃ x, x = B2.take off ++ D.take n ++ B2.drop (off + n) := ⟨_, rfl⟩
      have hl3 : B3.length = 64 := by rw [hB3]; simp only [List.length_append, List.length_take, List.length_drop]; omega
      have hput : putIn (stG R2 B2 t2) (8 + off) (cellsB (D.take n)) = stG R2 B3 t2 := by
        rw [stG_putB hlR hl2 (by rw [hDn]; exact hno), hDn, ← hB3]
      have hput2 : putIn (stG R2 B3 t2) (8 + off) (cellsB (D.take n)) = stG R2 B3 t2 := by
        rw [stG_putB hlR hl3 (by rw [hDn]; exact hno), hDn]
        congr 1
        have e1 : B3.take off = B2.take off := by
          rw [hB3, List.append_assoc, List.take_append_of_le_length (by rw [List.length_take]; omega), List.take_take]; congr 1; omega
        have e2 : B3.drop (off + n) = B2.drop (off + n) := by
          rw [hB3, List.drop_append, List.drop_eq_nil_of_le (by simp only [List.length_append, List.length_take]; omega), List.nil_append]
          have : (B2.take off ++ D.take n).length = off + n := by simp only [List.length_append, List.length_take]; omega
          rw [this, Nat.sub_self]; rfl
        rw [e1, e2, ← hB3]
      have hB2a : Sha.AllB B2 := by rw [hB2]; exact Sha.tail_all HR.out.2.2.1.all
      have hDa : Sha.AllB D := HR.out.1.1
      have hB3a : Sha.AllB B3 := by
        rw [hB3]
        exact Sha.AllB.app (Sha.AllB.app (fun x hx => hB2a x (List.mem_of_mem_take hx)) (fun x hx => hDa x (List.mem_of_mem_take hx))) (fun x hx => hB2a x (List.mem_of_mem_drop hx))
      obtain ⟨u, hu⟩ : ∃ u, u = Value.slice a2 r c2 := ⟨_, rfl⟩
      have HC : ∀ {wx : World}, Puts s (Obj.cells (stG R2 B3 t2) 113 (0, 0)) wr.drew wx → wx.cell? ⟨s, 72, none⟩ = some (.int .u64 (t2 : Int)) := fun hx => by
        rcases hx.it with e | e
        · exact (Blk.cell (e.trans hBlk) 72).trans (stG_72 hlR hl2)
        · exact (Blk.cell (show Blk _ s _ 113 from e) 72).trans (stG_72 hlR hl3)
      have HB : ∀ {wx : World}, Puts s (Obj.cells (stG R2 B3 t2) 113 (0, 0)) wr.drew wx → ∃ B0, Blk wx s (stG R2 B0 t2) 113 ∧ B0.length = 64 ∧ putIn (stG R2 B0 t2) (8 + off) (cellsB (D.take n)) = stG R2 B3 t2 := fun hx => by
        rcases hx.it with e | e
        · exact ⟨B2, e.trans hBlk, hl2, hput⟩
        · exact ⟨B3, e, hl3, hput2⟩
      have HU : ∀ {wx : World}, Puts s (Obj.cells (stG R2 B3 t2) 113 (0, 0)) wr.drew wx → BytesAt wx u D := fun hx => by
        rw [hu]; exact HR.out.1.but ((KeepBut.drew _).trans hx.but) (fun g hg => HR.out.2.1 HK.out.2 g hg)
      -- what it will come to
      obtain ⟨t3, ht3⟩ : ∃ x, x = t2 + n := ⟨_, rfl⟩
      have hwrap : IntKind.u64.wrap ((t2 : Int) + (n : Int)) = (t3 : Int) := by rw [IntKind.wrap_u64]; omega
      have hcv : IntKind.u64.wrap (n : Int) = (n : Int) := by rw [IntKind.wrap_u64]; omega
      have hTn : T2 ++ D.take n = T ++ l.take (k + n) := by
        rw [hT2, hD, List.append_assoc, ← List.take_add]
      have hall3 : Sha.AllB (T2 ++ D.take n) := Sha.AllB.app HR.out.2.2.1.all (fun x hx => hDa x (List.mem_of_mem_take hx))
      have hlen3 : (T2 ++ D.take n).length = t3 := by rw [List.length_append, hDn, ← ht2, ht3]
      have HEND : Hid (t3 = t2 + n ∧ off = t2 % 64 ∧ T2 ++ D.take n = T ++ l.take (k + n) ∧ Sha.AllB (T2 ++ D.take n) ∧ (T2 ++ D.take n).length = t3 ∧ k + n ≤ l.length ∧ t3 ≤ 100000) := ⟨ht3, hof, hTn, hall3, hlen3, by have := HK.out; omega, by
        have h1 := HV.out.2.2.2.2.2
        have h2 := congrArg List.length hTn
        rw [hlen3, List.length_append, List.length_take] at h2
        omega⟩
      have HPART : Hid (off + n < 64 → stA (T2 ++ D.take n) = stG R2 B3 t3) := fun h => by
        have := Sha.more_part (T := T2) (l := D.take n) (by rw [hDn, ← ht2, ← hof]; exact h)
        unfold stA
        rw [this.1, this.2, hlen3, ← ht2, ← hof, hDn, ← hR2, ← hB2, ← hB3]
      have HFULL : Hid (off + n = 64 → stA (T2 ++ D.take n) = stG (Sha.work R2 B3) (List.replicate 64 0) t3) := fun h => by
        have := Sha.more_full (T := T2) (l := D.take n) (by rw [hDn, ← ht2, ← hof]; exact h)
        unfold stA
        rw [this.1, this.2, hlen3, ← ht2, ← hof, ← hR2, ← hB2]
        congr 2
        rw [hB3, h, List.drop_eq_nil_of_le (by omega), List.append_nil]
      have HN : Hid (0 < n ∧ n ≤ r ∧ r ≤ 100000 ∧ t2 ≤ 100000) := ⟨hn0, hnr, hrl, ht2l⟩
      have HD : Hid (D = l.drop k) := hD
      have HNN : Hid (n = min D.length (64 - off) ∧ off < 64) := hn
      clear hT2 hD ht2 hof hn hnn hR2 hB2 hput hput2 hB3 hTn hall3 hlen3 ht3 hDa hB2a
      go_wp2_with fail
      rw [← hu]
      refine wp_region_facts (fun t => bif Nat.ble 10 t && Nat.ble t 20 then some (t - 10) else bif Nat.beq t 4 then some 11 else none) 55 (Puts s (Obj.cells (stG R2 B3 t2) 113 (0, 0)))
        [Is (.pointer (some ⟨s, 0, none⟩)),
         Is (.pointer (some ⟨s, 0, none⟩)),
         Is (.pointer (some ⟨s, 8, none⟩)),
         Is (.pointer (some ⟨s, 0, none⟩)),
         Is (.pointer (some ⟨s, 0, none⟩)),
         Is (.pointer (some ⟨s, 72, none⟩)),
         Is (.int .u64 (t2 : Int)),
         Is (.int .u64 (off : Int)),
         Is (.slice (some ⟨s, 8 + off, none⟩) (64 - off) (64 - off)),
         Is (u),
         (fun wx v => v = .int .i64 (n : Int) ∧ wx.heap[s]? = some (Obj.cells (stG R2 B3 t2) 113 (0, 0))),
         (fun wx v => v = .int .i64 (n : Int) ∧ wx.heap[s]? = some (Obj.cells (stG R2 B3 t2) 113 (0, 0)))]
        rfl (by kernel_rfl) (by kernel_rfl) rfl Puts.refl (fun _ _ _ => Puts.trans) ?_ ?_ ?_
      · exact KeepAll.is (KeepAll.is (KeepAll.is (KeepAll.is (KeepAll.is (KeepAll.is (KeepAll.is (KeepAll.is (KeepAll.is (KeepAll.is (KeepAll.cons (fun _ _ _ he h => ⟨h.1, by rcases he.it with e | e; exact e.trans h.2; exact e⟩) (KeepAll.cons (fun _ _ _ he h => ⟨h.1, by rcases he.it with e | e; exact e.trans h.2; exact e⟩) (KeepAll.nil))))))))))))
      · refine GoodAll.cons ?_ ?_
        · intro r wx hR hx
          obtain ⟨h1, _⟩ := hx
          replace h1 : r (.tmp 0) = (.pointer (some ⟨s, 0, none⟩)) := h1
          exact give_move (.inl rfl) ⟨Puts.refl _, h1⟩
        refine GoodAll.cons ?_ ?_
        · intro r wx hR hx
          obtain ⟨h1, _⟩ := hx
          replace h1 : r (.tmp 10) = (.pointer (some ⟨s, 0, none⟩)) := h1
          exact give_of (by simp [execOp, h1, go_sem]) ⟨Puts.refl _, rfl⟩
        refine GoodAll.cons ?_ ?_
        · intro r wx hR hx
          obtain ⟨h1, _⟩ := hx
          replace h1 : r (.tmp 11) = (.pointer (some ⟨s, 0, none⟩)) := h1
          exact give_of (by simp [execOp, h1, go_sem]) ⟨Puts.refl _, rfl⟩
        refine GoodAll.cons ?_ ?_
        · intro r wx hR hx
          obtain ⟨h1, _⟩ := hx
          replace h1 : r (.tmp 0) = (.pointer (some ⟨s, 0, none⟩)) := h1
          exact give_move (.inl rfl) ⟨Puts.refl _, h1⟩
        refine GoodAll.cons ?_ ?_
        · intro r wx hR hx
          obtain ⟨h1, _⟩ := hx
          replace h1 : r (.tmp 13) = (.pointer (some ⟨s, 0, none⟩)) := h1
          exact give_of (by simp [execOp, h1, go_sem]) ⟨Puts.refl _, rfl⟩
        refine GoodAll.cons ?_ ?_
        · intro r wx hR hx
          obtain ⟨h1, _⟩ := hx
          replace h1 : r (.tmp 14) = (.pointer (some ⟨s, 0, none⟩)) := h1
          exact give_of (by simp [execOp, h1, go_sem]) ⟨Puts.refl _, rfl⟩
        refine GoodAll.cons ?_ ?_
        · intro r wx hR hx
          obtain ⟨h1, _⟩ := hx
          replace h1 : r (.tmp 15) = (.pointer (some ⟨s, 72, none⟩)) := h1
          exact give_of (exec_get one46 rfl h1 (HC hR)) ⟨Puts.refl _, rfl⟩
        refine GoodAll.cons ?_ ?_
        · intro r wx hR hx
          obtain ⟨h1, h2, _⟩ := hx
          replace h1 : r (.tmp 16) = (.int .u64 (t2 : Int)) := h1
          replace h2 : r (.const (.int .u64 64)) = .int .u64 64 := h2
          exact give_of (by simp [execOp, h1, h2, hoff, go_sem]) ⟨Puts.refl _, rfl⟩
        refine GoodAll.cons ?_ ?_
        · intro r wx hR hx
          obtain ⟨h1, h2, _⟩ := hx
          replace h1 : r (.tmp 12) = (.pointer (some ⟨s, 8, none⟩)) := h1
          replace h2 : r (.tmp 17) = (.int .u64 (off : Int)) := h2
          exact give_of (exec_slice45 rfl h1 h2 hofl) ⟨Puts.refl _, rfl⟩
        refine GoodAll.cons ?_ ?_
        · intro r wx hR hx
          obtain ⟨h1, _⟩ := hx
          replace h1 : r (.tmp 1) = (u) := h1
          exact give_move (.inl rfl) ⟨Puts.refl _, h1⟩
        refine GoodAll.cons ?_ ?_
        · intro r wx hR hx
          obtain ⟨h1, h2, _⟩ := hx
          replace h1 : r (.tmp 18) = (.slice (some ⟨s, 8 + off, none⟩) (64 - off) (64 - off)) := h1
          replace h2 : r (.tmp 19) = (u) := h2
          obtain ⟨B0, hB0, hl0, hput⟩ := HB hR
          refine give_of (v := .int .i64 (n : Int)) (w' := wx.setRow s (stG R2 B3 t2)) (by rw [← hput]; exact exec_copy rfl h1 h2 (HU hR) hB0 (by rw [stG_size hlR hl0]; omega) HNN.out) ⟨⟨rfl, rfl, rfl, by simp, fun k hk => setRow_other _ _ _ _ hk, .inr (hB0.row _)⟩, rfl, hB0.row _⟩
        refine GoodAll.cons ?_ ?_
        · intro r wx hR hx
          obtain ⟨h1, _⟩ := hx
          replace h1 : ((fun wx v => v = .int .i64 (n : Int) ∧ wx.heap[s]? = some (Obj.cells (stG R2 B3 t2) 113 (0, 0))) : Fact) wx (r (.tmp 20)) := h1
          exact give_move (.inr rfl) ⟨Puts.refl _, h1⟩
        exact GoodAll.nil
      · intro vs w5 aZ hR hold ha
        have hv0 : vs 0 = (.pointer (some ⟨s, 0, none⟩)) := hold.at 0
        have hv1 : vs 1 = (.pointer (some ⟨s, 0, none⟩)) := hold.at 1
        have hv2 : vs 2 = (.pointer (some ⟨s, 8, none⟩)) := hold.at 2
        have hv3 : vs 3 = (.pointer (some ⟨s, 0, none⟩)) := hold.at 3
        have hv4 : vs 4 = (.pointer (some ⟨s, 0, none⟩)) := hold.at 4
        have hv5 : vs 5 = (.pointer (some ⟨s, 72, none⟩)) := hold.at 5
        have hv6 : vs 6 = (.int .u64 (t2 : Int)) := hold.at 6
        have hv7 : vs 7 = (.int .u64 (off : Int)) := hold.at 7
        have hv8 : vs 8 = (.slice (some ⟨s, 8 + off, none⟩) (64 - off) (64 - off)) := hold.at 8
        have hv9 : vs 9 = (u) := hold.at 9
        have hq10 := hold.at 10
        have hq11 := hold.at 11
        have hw5 : Blk w5 s (stG R2 B3 t2) 113 := hq10.2
        have hv10 : vs 10 = .int .i64 (n : Int) := hq10.1
        have hv11 : vs 11 = .int .i64 (n : Int) := hq11.1
        simp only [putAll, Act.put, hv0, hv1, hv2, hv3, hv4, hv5, hv6, hv7, hv8, hv9, hv10, hv11, List.setIfInBounds_toArray, List.set_cons_succ, List.set_cons_zero] at ha
        subst ha
        have HK5 : Hid (KeepBut (· = s) wr w5) := (KeepBut.drew _).trans hR.but
        clear hold hq10 hq11 hv10 hv11 hv0 hv1 hv2 hv3 hv4 hv5 hv6 hv7 hv8 hv9 HC HB HU hBlk
        subst hu
        refine ‹∀ (a : Act) (w : World), Code.wp Tryd.prog _ _ a w → _› _ _ ?_
        have c72 := (hw5.cell 72).trans (stG_72 hlR hl3)
        have HB5 : Hid (Blk w5 s (stG R2 B3 t2) 113) := hw5
        clear hw5
        obtain ⟨a3, hsl, hbl3⟩ := sliced_form a2 n r c2
        obtain ⟨r3, hr3⟩ : ∃ x, x = r - n := ⟨_, rfl⟩
        obtain ⟨c3, hc3⟩ : ∃ x, x = c2 - n := ⟨_, rfl⟩
        rw [← hr3, ← hc3] at hsl hbl3
        have HR3 : Hid (r3 = l.length - (k + n) ∧ sliced a2 n r c2 1 = .slice a3 r3 c3 ∧ ∀ g, blockOf (.slice a3 r3 c3) = some g → g ≠ s) := ⟨by have := HK.out; omega, hsl, fun g hg => HR.out.2.1 HK.out.2 g (hbl3 g hg r c2)⟩
        have HSL : Hid (sliced a2 n r c2 1 = .slice a3 r3 c3) := hsl
        have hr3l : r3 ≤ 100000 := by omega
        clear hsl hbl3 hr3 hc3
        obtain ⟨o3, ho3⟩ : ∃ x, x = t3 % 64 := ⟨_, rfl⟩
        have hrem : ((t3 : Int)).tmod 64 = (o3 : Int) := by rw [Int.tmod_eq_emod_of_nonneg (by omega)]; omega
        have HO3 : Hid (o3 = t3 % 64) := ho3
        clear ho3
        have hlt64 : t3 < 200000 := by have := HEND.out; omega
        by_cases hfull : off + n = 64
        · have hz : o3 = 0 := by have := HEND.out; have := HO3.out; omega
          subst hz
          go_wp2_with (first
            | (refine wpList_of_run (v := .slice a3 r3 c3) rfl (by rw [← HSL.out]; exact exec_slice_lN numT8 rfl _ a2 r c2 n .i64 rfl rfl hnr) ?_)
            | (refine wl_set (v := .int .u64 (t3 : Nat)) rfl one46 rfl rfl (by first | rfl | go_simp | simp [go_sem, hwrap, hcv]) rfl rfl HB5.out (by rw [stG_size hlR hl3]; omega) ?_; intro w6 hb6 hk6 hx; clear hx; rw [stG_set72 hlR hl3] at hb6; have c6 := (hb6.cell 72).trans (stG_72 hlR hl3)))
          have HK6 : Hid (KeepBut (· = s) wr w6) := HK5.out.trans hk6
          have HB6 : ∀ {wx : World}, Ext w6.drew wx → Blk wx s (stG R2 B3 t3) 113 := fun hx => hb6.ext ((Ext.drew _).trans hx)
          have HT6 : ∀ {wx : World}, Ext w6.drew wx → Tabs wx := fun hx => (HR.out.2.2.2.1.but HK6.out (by have := HV.out.2.2.2.2.1; show ¬ _ = _; omega) (by have := HV.out.2.2.2.2.1; show ¬ _ = _; omega)).ext ((Ext.drew _).trans hx)
          refine wp_region_lastD (fun t => bif Nat.ble 39 t && Nat.ble t 50 then some (t - 39) else none) 55 Ext
            [Is (.pointer (some ⟨s, 0, none⟩)),
             Is (.pointer (some ⟨s, 0, none⟩)),
             Is (.pointer (some ⟨s, 0, none⟩)),
             Is (.pointer (some ⟨s, 0, none⟩)),
             Is (.agg (uA R2)),
             Is (.pointer (some ⟨s, 0, none⟩)),
             Is (.pointer (some ⟨s, 0, none⟩)),
             Is (.pointer (some ⟨s, 8, none⟩)),
             Is (.agg (bA B3)),
             Is (.agg (uA (Sha.work R2 B3))),
             Is (.pointer (some ⟨s, 0, none⟩)),
             Is (.pointer (some ⟨s, 0, none⟩))]
            (by intro h; cases h) rfl (by kernel_rfl) (by kernel_rfl) rfl (by kernel_rfl) Ext.refl (fun _ _ _ => Ext.trans) ?_ (fun wx wy => Blk wy s (stG (Sha.work R2 B3) B3 t3) 113 ∧ KeepBut (· = s) wx wy) ?_ ?_ ?_
          · exact KeepAll.is (KeepAll.is (KeepAll.is (KeepAll.is (KeepAll.is (KeepAll.is (KeepAll.is (KeepAll.is (KeepAll.is (KeepAll.is (KeepAll.is (KeepAll.is (KeepAll.nil))))))))))))
          · refine GoodAll.cons ?_ ?_
            · intro r wx hR hx
              obtain ⟨h1, _⟩ := hx
              replace h1 : r (.tmp 0) = (.pointer (some ⟨s, 0, none⟩)) := h1
              exact give_move (.inl rfl) ⟨Ext.refl _, h1⟩
            refine GoodAll.cons ?_ ?_
            · intro r wx hR hx
              obtain ⟨h1, _⟩ := hx
              replace h1 : r (.tmp 0) = (.pointer (some ⟨s, 0, none⟩)) := h1
              exact give_move (.inl rfl) ⟨Ext.refl _, h1⟩
            refine GoodAll.cons ?_ ?_
            · intro r wx hR hx
              obtain ⟨h1, _⟩ := hx
              replace h1 : r (.tmp 40) = (.pointer (some ⟨s, 0, none⟩)) := h1
              exact give_of (by simp [execOp, h1, go_sem]) ⟨Ext.refl _, rfl⟩
            refine GoodAll.cons ?_ ?_
            · intro r wx hR hx
              obtain ⟨h1, _⟩ := hx
              replace h1 : r (.tmp 41) = (.pointer (some ⟨s, 0, none⟩)) := h1
              exact give_of (by simp [execOp, h1, go_sem]) ⟨Ext.refl _, rfl⟩
            refine GoodAll.cons ?_ ?_
            · intro r wx hR hx
              obtain ⟨h1, _⟩ := hx
              replace h1 : r (.tmp 42) = (.pointer (some ⟨s, 0, none⟩)) := h1
              exact give_of (exec_load row44 rfl h1 (HB6 hR) (cellsU R2) (stG_R hlR) (by rw [cellsU_length, hlR])) ⟨Ext.refl _, rfl⟩
            refine GoodAll.cons ?_ ?_
            · intro r wx hR hx
              obtain ⟨h1, _⟩ := hx
              replace h1 : r (.tmp 0) = (.pointer (some ⟨s, 0, none⟩)) := h1
              exact give_move (.inl rfl) ⟨Ext.refl _, h1⟩
            refine GoodAll.cons ?_ ?_
            · intro r wx hR hx
              obtain ⟨h1, _⟩ := hx
              replace h1 : r (.tmp 44) = (.pointer (some ⟨s, 0, none⟩)) := h1
              exact give_of (by simp [execOp, h1, go_sem]) ⟨Ext.refl _, rfl⟩
            refine GoodAll.cons ?_ ?_
            · intro r wx hR hx
              obtain ⟨h1, _⟩ := hx
              replace h1 : r (.tmp 45) = (.pointer (some ⟨s, 0, none⟩)) := h1
              exact give_of (by simp [execOp, h1, go_sem]) ⟨Ext.refl _, rfl⟩
            refine GoodAll.cons ?_ ?_
            · intro r wx hR hx
              obtain ⟨h1, _⟩ := hx
              replace h1 : r (.tmp 46) = (.pointer (some ⟨s, 8, none⟩)) := h1
              exact give_of (exec_load row45 rfl h1 (HB6 hR) (cellsB B3) (stG_B hlR) (by rw [cellsB_length, hl3])) ⟨Ext.refl _, rfl⟩
            refine GoodAll.cons ?_ ?_
            · intro r wx hR hx
              obtain ⟨h1, h2, h3, _⟩ := hx
              replace h1 : r (.func 60) = .func (.func 60) #[] #[] := h1
              replace h2 : r (.tmp 43) = (.agg (uA R2)) := h2
              replace h3 : r (.tmp 47) = (.agg (bA B3)) := h3
              refine give_func #[.agg (uA R2), .agg (bA B3)] rfl h1 Tryd.call60 (by simp [h2, h3]) ?_
              refine (workedIn_any R2 B3 _ (HT6 hR) hlR hRU hl3 hB3a).mono ?_
              rintro e w' ⟨rfl, he⟩
              exact ⟨_, rfl, he, rfl⟩
            refine GoodAll.cons ?_ ?_
            · intro r wx hR hx
              obtain ⟨h1, _⟩ := hx
              replace h1 : r (.tmp 39) = (.pointer (some ⟨s, 0, none⟩)) := h1
              exact give_of (by simp [execOp, h1, go_sem]) ⟨Ext.refl _, rfl⟩
            refine GoodAll.cons ?_ ?_
            · intro r wx hR hx
              obtain ⟨h1, _⟩ := hx
              replace h1 : r (.tmp 49) = (.pointer (some ⟨s, 0, none⟩)) := h1
              exact give_of (by simp [execOp, h1, go_sem]) ⟨Ext.refl _, rfl⟩
            exact GoodAll.nil
          · intro r wx hR hx
            obtain ⟨h1, h2, _⟩ := hx
            replace h1 : r (.tmp 50) = (.pointer (some ⟨s, 0, none⟩)) := h1
            replace h2 : r (.tmp 48) = (.agg (uA (Sha.work R2 B3))) := h2
            have hpR : putIn (stG R2 B3 t3) 0 (uA (Sha.work R2 B3)).toList = stG (Sha.work R2 B3) B3 t3 := stG_putR hlR (by rw [Sha.work_len, hlR])
            exact give_skip (w' := wx.setRow s (stG (Sha.work R2 B3) B3 t3)) (by rw [← hpR]; exact exec_store row44 rfl h1 h2 (HB6 hR) (by rw [uA_size, Sha.work_len, hlR]) (by rw [stG_size hlR hl3]; omega) (uA_one _)) ⟨(HB6 hR).row _, KeepBut.row _ _ _⟩
          · intro vs w7 w8 aY hR6 hE hold ha
            have hv0 : vs 0 = (.pointer (some ⟨s, 0, none⟩)) := hold.at 0
            have hv1 : vs 1 = (.pointer (some ⟨s, 0, none⟩)) := hold.at 1
            have hv2 : vs 2 = (.pointer (some ⟨s, 0, none⟩)) := hold.at 2
            have hv3 : vs 3 = (.pointer (some ⟨s, 0, none⟩)) := hold.at 3
            have hv4 : vs 4 = (.agg (uA R2)) := hold.at 4
            have hv5 : vs 5 = (.pointer (some ⟨s, 0, none⟩)) := hold.at 5
            have hv6 : vs 6 = (.pointer (some ⟨s, 0, none⟩)) := hold.at 6
            have hv7 : vs 7 = (.pointer (some ⟨s, 8, none⟩)) := hold.at 7
            have hv8 : vs 8 = (.agg (bA B3)) := hold.at 8
            have hv9 : vs 9 = (.agg (uA (Sha.work R2 B3))) := hold.at 9
            have hv10 : vs 10 = (.pointer (some ⟨s, 0, none⟩)) := hold.at 10
            have hv11 : vs 11 = (.pointer (some ⟨s, 0, none⟩)) := hold.at 11
            simp only [putAll, Act.put, hv0, hv1, hv2, hv3, hv4, hv5, hv6, hv7, hv8, hv9, hv10, hv11, List.setIfInBounds_toArray, List.set_cons_succ, List.set_cons_zero] at ha
            subst ha
            obtain ⟨hb8, hk8⟩ := hE
            have HK8 : Hid (KeepBut (· = s) wr w8) := (HK6.out.trans (KeepBut.ext ((Ext.drew _).trans hR6))).trans hk8
            clear hold hv0 hv1 hv2 hv3 hv4 hv5 hv6 hv7 hv8 hv9 hv10 hv11 HB6 HT6
            refine ‹∀ (a : Act) (w : World), Code.wp Tryd.prog _ _ a w → _› _ _ ?_
            go_wp2_with (first
              | (refine wpList_of_run rfl (exec_build0 rfl) ?_)
              | (refine wl_storeM (D := bA (List.replicate 64 0)) rfl row45 rfl rfl rfl hb8 (by rw [bA_size]; rfl) (by rw [stG_size (by rw [Sha.work_len, hlR]) hl3]; omega) (bA_one _) ?_; intro w9 hb9 hk9 hx; clear hx))
            have hp := stG_putB (R := Sha.work R2 B3) (B := B3) (D := List.replicate 64 0) (t := t3) (off := 0) (by rw [Sha.work_len, hlR]) hl3 (by simp)
            change Blk w9 s (putIn (stG (Sha.work R2 B3) B3 t3) (8 + 0) (cellsB (List.replicate 64 0))) 113 at hb9
            rw [hp, List.take_zero, List.nil_append, List.drop_eq_nil_of_le (by simp; omega), List.append_nil] at hb9
            have HK9 : Hid (KeepBut (· = s) wr w9) := HK8.out.trans hk9
            go_roundg (l.length - (k + n))
            case measure => have := HN.out; have := HK.out; omega
            case rel =>
              refine ⟨k + n, a3, c3, HEND.out.2.2.2.2.2.1, rfl, by rw [HR3.out.1], ?_, ?_, ?_, ?_, ?_⟩
              · rw [← HR3.out.1]
                have := BytesAt.sliced (HR.out.1) n r hnr (by rw [hDl]; exact Nat.le_refl _)
                rw [HR3.out.2.1, List.take_of_length_le (by omega), HD.out, List.drop_drop] at this
                exact this.but HK9.out (fun g hg => HR3.out.2.2 g hg)
              · rw [← HR3.out.1]; exact fun _ => HR3.out.2.2
              · rw [← HEND.out.2.2.1]
                exact ⟨by rw [HFULL.out hfull]; exact hb9, HEND.out.2.2.2.1, by rw [HEND.out.2.2.2.2.1]; exact HEND.out.2.2.2.2.2.2⟩
              · exact HR.out.2.2.2.1.but HK9.out (by have := HV.out.2.2.2.2.1; show ¬ _ = _; omega) (by have := HV.out.2.2.2.2.1; show ¬ _ = _; omega)
              · exact HR.out.2.2.2.2.trans HK9.out
        · have hnz : ((o3 : Int) == 0) = false := by
            have := HEND.out; have := HO3.out
            rw [beq_eq_false_iff_ne]; omega
          go_wp2_with (first
            | (refine wpList_of_run (v := .slice a3 r3 c3) rfl (by rw [← HSL.out]; exact exec_slice_lN numT8 rfl _ a2 r c2 n .i64 rfl rfl hnr) ?_)
            | (refine wl_set (v := .int .u64 (t3 : Nat)) rfl one46 rfl rfl (by first | rfl | go_simp | simp [go_sem, hwrap, hcv]) rfl rfl HB5.out (by rw [stG_size hlR hl3]; omega) ?_; intro w6 hb6 hk6 hx; clear hx; rw [stG_set72 hlR hl3] at hb6; have c6 := (hb6.cell 72).trans (stG_72 hlR hl3)))
          have HK6 : Hid (KeepBut (· = s) wr w6) := HK5.out.trans hk6
          go_roundg (l.length - (k + n))
          case measure => have := HN.out; have := HK.out; omega
          case rel =>
            refine ⟨k + n, a3, c3, HEND.out.2.2.2.2.2.1, rfl, by rw [HR3.out.1], ?_, ?_, ?_, ?_, ?_⟩
            · rw [← HR3.out.1]
              have := BytesAt.sliced (HR.out.1) n r hnr (by rw [hDl]; exact Nat.le_refl _)
              rw [HR3.out.2.1, List.take_of_length_le (by omega), HD.out, List.drop_drop] at this
              exact this.but HK6.out (fun g hg => HR3.out.2.2 g hg)
            · rw [← HR3.out.1]; exact fun _ => HR3.out.2.2
            · rw [← HEND.out.2.2.1]
              exact ⟨by rw [HPART.out (by have := hno; omega)]; exact hb6, HEND.out.2.2.2.1, by rw [HEND.out.2.2.2.2.1]; exact HEND.out.2.2.2.2.2.2⟩
            · exact HR.out.2.2.2.1.but HK6.out (by have := HV.out.2.2.2.2.1; show ¬ _ = _; omega) (by have := HV.out.2.2.2.2.1; show ¬ _ = _; omega)
            · exact HR.out.2.2.2.2.trans HK6.out
    · obtain rfl : k = l.length := by omega
      rw [Nat.sub_self]
      rw [Nat.sub_self, List.take_length] at HR
      go_wp2
      go_end0
      exact ⟨⟨_, rfl⟩, HR.out.2.2.1, HR.out.2.2.2.2⟩
end Go.Proofs.YtfhoielfekeihaaDoor

/- The digest of a state, and of parts. Condition: the tables hold what the text lays. -/
namespace Go.Proofs.YtfhoielfekeihaaDoor
open Go Go.RowKit
set_option linter.unusedVariables false
set_option linter.unusedSimpArgs false
set_option maxRecDepth 100000

theorem fill_len (n : Nat) : (Sha.fill n).length ≤ 72 := by
  have : Sha.nz n < 64 := Nat.mod_lt _ (by decide)
  simp [Sha.fill, Sha.be8]; omega
theorem OwnB.blk {w : World} {base : Nat} {e : TypeId} {v : Value} {l : List Nat} (h : OwnB w base e v l) {g : Nat} (hg : blockOf v = some g) : base ≤ g := by
  obtain ⟨_, ⟨g', cap, rfl, h1, _⟩, _⟩ := h
  simp [blockOf] at hg
  omega
theorem dig_res {R : List Nat} (h : R.length = 8) : (Sha.dig R).length = 32 := by rw [Sha.dig_len, h]

set_option maxHeartbeats 2000000 in
theorem stSum_any {w : World} {s : Nat} {T : List Nat} (hT : Tabs w) (hS : StateAt w s T) (hlen : T.length ≤ 90000) :
    Calls Tryd.prog 61 #[stP s] w fun e w' => e = .returned (.agg (bA (Sha.dgst T))) ∧ Ext w w' := by
  have h72 := (hS.blk.cell 72).trans (stG_72 (Sha.regs_len _ _) (Sha.tail_len T))
  obtain ⟨n, hn⟩ : ∃ n, n = T.length := ⟨_, rfl⟩
  rw [← hn] at h72
  have HS : Hid (StateAt w s T ∧ Tabs w ∧ n = T.length ∧ n ≤ 90000) := ⟨hS, hT, hn, by omega⟩
  have hd8 : Hid ((Sha.dgst T).length = 32) := dig_res (Sha.regs_len _ _)
  have HD : Hid (Sha.dgst T = Sha.dig (Sha.regsOf (T ++ Sha.fill n))) := show _ = _ by rw [hn]; rfl
  clear hS hT hlen hn
  go_enter Tryd.func61, Tryd.ntmps61
  go_wp2_with (first
    | (refine wl_alloc rfl rfl zero25 ?_; intro w1 hb1 he1 hx; clear hx; have c1 := he1.cell h72)
    | (go_at_call 70; refine (copy_any (HS.out.1.ext he1)).mono ?_; rintro e w2 ⟨rfl, hS2, he2⟩; have c2 := he2.cell c1)
    | (go_at_call 71; refine (filling_any n _ (by have := HS.out; omega)).mono ?_; rintro e w3 ⟨v, rfl, hv3, he3⟩)
    | (go_at_call 42; refine (add_any (HS.out.2.1.ext ((he1.trans he2).trans he3)) (hS2.ext he3) hv3.bytes (fun _ g hg => by have := hv3.blk hg; have := hS2.blk.lt; omega) (by have := HS.out.2.1.two; have := he1.size; omega) (by have := fill_len n; have := HS.out; omega)).mono ?_; rintro e w4 ⟨⟨x, rfl⟩, hS4, hk4⟩)
    | (refine wl_loadM rfl row44 rfl rfl hS4.blk (cellsU (Sha.regsOf (T ++ Sha.fill n))) (stG_R (Sha.regs_len _ _)) (by rw [cellsU_length]; exact Sha.regs_len _ _) ?_)
    | (go_at_call 72; refine (digestOf_any (Sha.regsOf (T ++ Sha.fill n)) _ (Sha.regs_len _ _) (Sha.regs_all _ _)).mono ?_; rintro e w5 ⟨rfl, he5⟩; rw [← HD.out])
    | (refine wl_store (D := bA (Sha.dgst T)) rfl row25 rfl rfl rfl ((((hb1.ext he2).ext he3).but hk4 (Nat.ne_of_lt (Nat.lt_of_lt_of_le hb1.lt (Nat.le_refl _)))).ext he5) (by rw [bA_size, hd8.out]) rfl (bA_one _) ?_; intro w6 hb6 hk6 hx; clear hx))
  refine bodyPost_ret (v := .agg (bA (Sha.dgst T))) (results_cell_row (fn := Tryd.f61) (p := 2) (by rfl) _ _ w.heap.size 60 _ (0, 0) _ rfl hb6 Tryd.underlying60 rfl (by rw [bA_size, hd8.out]; kernel_rfl)) rfl ⟨rfl, ?_⟩
  exact (((((he1.trans he2).trans he3).of_but hk4 (fun k e => by subst e; have := he1.size; omega)).trans he5).of_but hk6 (fun k e => by subst e; omega))

set_option maxHeartbeats 2000000 in
theorem stSum_nil {w : World} (hT : Tabs w) :
    Calls Tryd.prog 61 #[.pointer none] w fun e w' => e = .returned (.agg (bA (Sha.dgst []))) ∧ Ext w w' := by
  have HT : Hid (Tabs w) := hT
  have hd8 : Hid ((Sha.dgst []).length = 32) := dig_res (Sha.regs_len _ _)
  clear hT
  go_enter Tryd.func61, Tryd.ntmps61
  go_wp2_with (first
    | (refine wl_alloc rfl rfl zero25 ?_; intro w1 hb1 he1 hx; clear hx)
    | (go_at_call 41; refine (begin_any _ (HT.out.ext he1)).mono ?_; rintro e w2 ⟨rfl, hS2, he2⟩)
    | (go_at_call 61; refine (stSum_any ((HT.out.ext he1).ext he2) hS2 (by simp)).mono ?_; rintro e w3 ⟨rfl, he3⟩)
    | (refine wl_store (D := bA (Sha.dgst [])) rfl row25 rfl rfl rfl ((hb1.ext he2).ext he3) (by rw [bA_size, hd8.out]) rfl (bA_one _) ?_; intro w6 hb6 hk6 hx; clear hx))
  refine bodyPost_ret (v := .agg (bA (Sha.dgst []))) (results_cell_row (fn := Tryd.f61) (p := 2) (by rfl) _ _ w.heap.size 60 _ (0, 0) _ rfl hb6 Tryd.underlying60 rfl (by rw [bA_size, hd8.out]; kernel_rfl)) rfl ⟨rfl, ?_⟩
  exact ((he1.trans he2).trans he3).of_but hk6 (fun k e => by subst e; exact Nat.le_refl _)

/-- A slice of slices that reads as these lists of bytes, nil or not. -/
def PartsOf (w : World) (v : Value) (ls : List (List Nat)) : Prop :=
  ls.length ≤ 1000 ∧ ∃ a cap, v = .slice a ls.length cap ∧ ∀ i, i < ls.length → ∃ b off u, a = some ⟨b, off, none⟩ ∧ w.cell? ⟨b, off + i, none⟩ = some u ∧ BytesAt w u (ls.getD i [])
theorem PartsOf.ext {w w' : World} {v : Value} {ls : List (List Nat)} (h : PartsOf w v ls) (he : Ext w w') : PartsOf w' v ls := by
  obtain ⟨h1, a, cap, rfl, hc⟩ := h
  refine ⟨h1, a, cap, rfl, fun i hi => ?_⟩
  obtain ⟨b, off, u, e, hu, hb⟩ := hc i hi
  exact ⟨b, off, u, e, he.cell hu, hb.ext he⟩
theorem PartsOf.made (w : World) (us : List Value) (ls : List (List Nat)) (t n c : Nat) (hn : n = w.heap.size) (hl : us.length = ls.length) (h1 : ls.length ≤ 1000) (hb : ∀ i, i < ls.length → BytesAt w (us.getD i undef) (ls.getD i [])) :
    PartsOf (w.alloc (.cells us.toArray t)) (.slice (some ⟨n, 0, none⟩) ls.length c) ls := by
  obtain ⟨_, b, off, cap, e, hc⟩ := PartsAt.made w us ls t n c hn hl h1 hb
  refine ⟨h1, _, c, rfl, fun i hi => ?_⟩
  obtain ⟨u, hu, hbu⟩ := hc i hi
  cases e
  exact ⟨n, 0, u, rfl, hu, hbu⟩
theorem BytesAt.lt {w : World} {v : Value} {l : List Nat} (h : BytesAt w v l) (hne : l ≠ []) {g : Nat} (hg : blockOf v = some g) : g < w.heap.size := by
  obtain ⟨_, _, ⟨rfl, rfl⟩ | ⟨ad, cap, rfl, h4, h5, hc⟩⟩ := h
  · exact absurd rfl hne
  · have hl : 0 < l.length := List.length_pos_iff.2 hne
    have := cell_lt (hc 0 hl)
    rw [add_block] at this
    simp [blockOf] at hg
    omega
theorem flat_succ (ls : List (List Nat)) (i : Nat) (h : i < ls.length) : (ls.take (i + 1)).flatten = (ls.take i).flatten ++ ls.getD i [] := by
  rw [take_next ls [] i h]; simp
theorem flat_len (ls : List (List Nat)) (i : Nat) : (ls.take i).flatten.length ≤ ls.flatten.length := by
  have : ls.flatten = (ls.take i).flatten ++ (ls.drop i).flatten := by rw [← List.flatten_append, List.take_append_drop]
  rw [this, List.length_append]; omega

set_option maxHeartbeats 2000000 in
theorem sum_any {w : World} {v : Value} {ls : List (List Nat)} (hT : Tabs w) (hv : PartsOf w v ls) (hlen : ls.flatten.length ≤ 90000) :
    Calls Tryd.prog 45 #[v] w fun e w' => e = .returned (.agg (bA (Sha.dgst ls.flatten))) ∧ Ext w w' := by
  have HV : Hid (PartsOf w v ls ∧ Tabs w ∧ ls.flatten.length ≤ 90000) := ⟨hv, hT, hlen⟩
  obtain ⟨h1000, a, cap, rfl, hc⟩ := hv
  have HC : Hid (∀ i, i < ls.length → ∃ b off u, a = some ⟨b, off, none⟩ ∧ w.cell? ⟨b, off + i, none⟩ = some u ∧ BytesAt w u (ls.getD i [])) := hc
  have hd8 : Hid ((Sha.dgst ls.flatten).length = 32) := dig_res (Sha.regs_len _ _)
  clear hc hT hlen
  go_enter Tryd.func45, Tryd.ntmps45
  go_wp2_with (first
    | (refine wl_alloc rfl rfl zero25 ?_; intro w1 hb1 he1 hx; clear hx)
    | (go_at_call 41; refine (begin_any _ (HV.out.2.1.ext he1)).mono ?_; rintro e w2 ⟨rfl, hS2, he2⟩))
  have HW : Hid (Blk w2 w.heap.size (bA (List.replicate 32 0)) 60 ∧ StateAt w2 w1.heap.size [] ∧ Ext w w2 ∧ w.heap.size < w1.heap.size) := ⟨hb1.ext he2, hS2, he1.trans he2, hb1.lt⟩
  clear hb1 hS2 he1 he2
  go_loopg [9] ls.length (fun g s wr => ∃ i : Nat, i ≤ ls.length ∧ g = ls.length - i ∧ s = .int .i64 (i : Int) ∧ Hid (Blk wr w.heap.size (bA (List.replicate 32 0)) 60 ∧ StateAt wr w1.heap.size (ls.take i).flatten ∧ Ext w wr))
  case atStart => exact ⟨0, Nat.zero_le _, rfl, rfl, HW.out.1, by simpa using HW.out.2.1, HW.out.2.2.1⟩
  case round =>
    obtain ⟨i, hi, rfl, rfl, HR⟩ := hrel
    by_cases hlt : i < ls.length
    · have hd : decide ((i : Int) < (ls.length : Int)) = true := decide_eq_true (by omega)
      obtain ⟨b, off, u, rfl, hu, hbu⟩ := HC.out i hlt
      have hur := HR.out.2.2.cell hu
      have HBU : Hid (BytesAt w u (ls.getD i [])) := hbu
      clear hbu hu
      go_wp2_with (first
        | (go_at_call 42; refine (add_any (HV.out.2.1.ext HR.out.2.2) HR.out.2.1 (HBU.out.ext HR.out.2.2) (fun hne g hg => by have := HBU.out.lt hne hg; have := HW.out.2.2.2; omega) (by have := HV.out.2.1.two; have := HW.out.2.2.2; omega) (by have h1 := flat_succ ls i hlt; have h2 := flat_len ls (i + 1); rw [h1, List.length_append] at h2; have := HV.out.2.2; omega)).mono ?_; rintro e w4 ⟨⟨x, rfl⟩, hS4, hk4⟩))
      go_roundg (ls.length - (i + 1))
      case measure => omega
      case rel =>
        refine ⟨i + 1, by omega, rfl, by simp, HR.out.1.but hk4 (Nat.ne_of_lt HW.out.2.2.2), ?_, HR.out.2.2.of_but hk4 (fun k e => by subst e; exact Nat.le_of_lt HW.out.2.2.2)⟩
        rw [flat_succ ls i hlt]; exact hS4
    · have hd : decide ((i : Int) < (ls.length : Int)) = false := decide_eq_false (by omega)
      obtain rfl : i = ls.length := by omega
      rw [List.take_length] at HR
      go_wp2_with (first
        | (go_at_call 61; refine (stSum_any (HV.out.2.1.ext HR.out.2.2) HR.out.2.1 HV.out.2.2).mono ?_; rintro e w5 ⟨rfl, he5⟩)
        | (refine wl_store (D := bA (Sha.dgst ls.flatten)) rfl row25 rfl rfl rfl (HR.out.1.ext he5) (by rw [bA_size, hd8.out]) rfl (bA_one _) ?_; intro w6 hb6 hk6 hx; clear hx))
      refine bodyPost_ret (v := .agg (bA (Sha.dgst ls.flatten))) (results_cell_row (fn := Tryd.f45) (p := 2) (by rfl) _ _ w.heap.size 60 _ (0, 0) _ rfl hb6 Tryd.underlying60 rfl (by rw [bA_size, hd8.out]; kernel_rfl)) rfl ⟨rfl, ?_⟩
      exact (HR.out.2.2.trans he5).of_but hk6 (fun k e => by subst e; exact Nat.le_refl _)
end Go.Proofs.YtfhoielfekeihaaDoor

/- Digests compared; texts that stand in the code; lists of parts. No condition of its own. -/
namespace Go.Proofs.YtfhoielfekeihaaDoor
open Go Go.RowKit
set_option linter.unusedVariables false
set_option linter.unusedSimpArgs false
set_option maxRecDepth 100000

theorem bA_cells {D : List Nat} (h : Sha.AllB D) : bA D = ((D.map UInt8.ofNat).map Extern.Stop.cell).toArray := by
  unfold bA cellsB
  congr 1
  rw [List.map_map]
  apply List.map_congr_left
  intro x hx
  have : (UInt8.ofNat x).toNat = x := by simp [UInt8.toNat_ofNat]; have := h x hx; omega
  show _ = Extern.Stop.cell (UInt8.ofNat x)
  unfold Extern.Stop.cell
  rw [this]
  rfl
theorem size5 (w : World) : (sizeOf 5).run Tryd.prog w = .ok 1 w := by
  obtain ⟨i, hi, _, hs, _⟩ := byteT.ex
  simp [sizeOf, typeInfo, hi, hs]
theorem run_same {D : List Nat} (hl : D.length = 32) (h : Sha.AllB D) (w : World) : (Op.equal 60 (.agg (bA D)) (.agg (bA D))).run Tryd.prog w = .ok true w := by
  rw [bA_cells h]
  have := run_equalIn_bytes (P := Tryd.prog) w 9998 60 5 32 Tryd.underlying60 Tryd.underlying5 size5 (D.map UInt8.ofNat) (D.map UInt8.ofNat) (by simpa using hl) (by simpa using hl)
  rw [beq_self_eq_true] at this
  exact this
theorem guard25 : Tryd.prog.eqGuardType Tryd.prog.depth 60 = false := by kernel_rfl
theorem exec_eqlA {r : Operand → Value} {o : Oper} {x y : Operand} {tt : TypeId} {D : List Nat} (w : World) (ho : o.op = .binOp .eql 60 x y tt) (hx : r x = .agg (bA D)) (hy : r y = .agg (bA D)) (hl : D.length = 32) (h : Sha.AllB D) :
    (execOp r o).run Tryd.prog w = .ok (.value (.bool true)) w := by
  have := run_same hl h w
  simp [execOp, ho, hx, hy, eqGuard, guard25, binOp, this]
theorem exec_neqA {r : Operand → Value} {o : Oper} {x y : Operand} {tt : TypeId} {D : List Nat} (w : World) (ho : o.op = .binOp .neq 60 x y tt) (hx : r x = .agg (bA D)) (hy : r y = .agg (bA D)) (hl : D.length = 32) (h : Sha.AllB D) :
    (execOp r o).run Tryd.prog w = .ok (.value (.bool false)) w := by
  have := run_same hl h w
  simp [execOp, ho, hx, hy, eqGuard, guard25, binOp, this]
theorem dgst_len (T : List Nat) : (Sha.dgst T).length = 32 := dig_res (Sha.regs_len _ _)
theorem dgst_all (T : List Nat) : Sha.AllB (Sha.dgst T) := Sha.dig_all _
/-- A text that stands in the law, as bytes. -/
theorem wl_conv {w : World} {ops : Array Oper} {rest : List Oper} {o : Oper} {a : Act} {Q : Exit → Act → World → Prop} (l : List Nat) (hgd : o.guard = none) {x : Operand} {C : Array Value} {m n c : Nat} (ho : o.op = .convert 22 22 x) (hx : a.eval x = .slice (some ⟨m, 0, none⟩) n c) (hm : m = w.heap.size) (hC : C = (cellsB l).toArray) (hn : n = l.length) (hc : c = l.length) (hl : Sha.AllB l) (h1000 : l.length ≤ 1000)
    (h : ∀ w', BytesAt w' (.slice (some ⟨m, 0, none⟩) n c) l → Ext w w' → w'.heap.size = w.heap.size + 1 → wpList Tryd.prog ops Q rest (a.put o.dst (.slice (some ⟨m, 0, none⟩) n c)) w') : wpList Tryd.prog ops Q (o :: rest) a (w.alloc (.cells C 5)) := by
  subst hm hC hn hc
  refine wpList_of_run hgd (v := .slice (some ⟨w.heap.size, 0, none⟩) l.length l.length) (w' := w.alloc (.cells (cellsB l).toArray 5 ((cellsB l).toArray.size, (cellsB l).toArray.size + 1))) ?_ (h _ ?_ (Ext.alloc _ _) (by simp))
  · have := Lib.run_convert_bytes_const (P := Tryd.prog) w 22 5 (cellsB l).toArray l.length l.length Tryd.underlying22 Tryd.underlying5
    simp only [execOp, ho, hx, Sem.run_bind, this, Result.andThen_ok]
    rfl
  · refine ⟨hl, by unfold maxLen; omega, .inr ⟨⟨w.heap.size, 0, none⟩, l.length, rfl, Nat.le_refl _, by unfold maxLen; omega, fun j hj => ?_⟩⟩
    rw [add_plain, Nat.zero_add, cellNew _ _ _ _ _ _ rfl]
    have := bA_get l j hj
    exact this

theorem run_eqlA {D : List Nat} (hl : D.length = 32) (h : Sha.AllB D) (w : World) : (binOp .eql 60 (.agg (bA D)) (.agg (bA D))).run Tryd.prog w = .ok (.bool true) w := by
  have := run_same hl h w
  simp [binOp, this]
theorem run_guardA {D : List Nat} (op : BinOp) (x y : Operand) (w : World) : (eqGuard op 60 x y (.agg (bA D)) (.agg (bA D))).run Tryd.prog w = .ok () w := by
  cases op <;> simp [eqGuard, guard25]
theorem BytesAt.off {w : World} {v : Value} {l : List Nat} (h : BytesAt w v l) {s : Nat} (hs : w.heap.size ≤ s) (hne : l ≠ []) (g : Nat) (hg : blockOf v = some g) : g ≠ s := by have := h.lt hne hg; omega
theorem PartsOf.empty (w : World) : PartsOf w (.slice none 0 0) [] := ⟨by simp, _, 0, rfl, fun i hi => by simp at hi⟩
theorem PartsOf.two (w : World) (n : Nat) (hn : n = w.heap.size) {u v : Value} {l m : List Nat} (h1 : BytesAt w u l) (h2 : BytesAt w v m) : PartsOf (w.alloc (.cells #[u, v] 22)) (.slice (some ⟨n, 0, none⟩) 2 2) [l, m] :=
  PartsOf.made w [u, v] [l, m] 22 n 2 hn rfl (by simp) fun i hi => by
    have : i = 0 ∨ i = 1 := by simp at hi; omega
    rcases this with rfl | rfl
    · exact h1
    · exact h2
theorem PartsOf.one (w : World) (n : Nat) (hn : n = w.heap.size) {u : Value} {l : List Nat} (h1 : BytesAt w u l) : PartsOf (w.alloc (.cells #[u] 22)) (.slice (some ⟨n, 0, none⟩) 1 1) [l] :=
  PartsOf.made w [u] [l] 22 n 1 hn rfl (by simp) fun i hi => by
    obtain rfl : i = 0 := by simp at hi; omega
    exact h1
end Go.Proofs.YtfhoielfekeihaaDoor

/- append onto a slice of the own; arguments that are texts or lists of texts. No condition of its own. -/
namespace Go.Proofs.YtfhoielfekeihaaDoor
open Go Go.RowKit Go.ChangeShapes Go.WideShapes Go.ChangeAt
set_option linter.unusedVariables false
set_option linter.unusedSimpArgs false
set_option maxRecDepth 100000

/-- append onto a slice of the call's own: which block may turn, and where it lies then. -/
theorem run_append_bytesG {P : Program} {t e : TypeId} (hT : ByteT P t e) (w : World) (base ty g0 n c : Nat) (x : Value) (l m : List Nat) (hv : OwnB w base e (.slice (some ⟨g0, 0, none⟩) n c) l) (hx : BytesAt w x m) (hlen : l.length + m.length ≤ 140737488355328) :
    ∃ g cap w', (Builtin.append_ #[t, t] ty #[.slice (some ⟨g0, 0, none⟩) n c, x]).run P w = .ok (.slice (some ⟨g, 0, none⟩) (l ++ m).length cap) w' ∧ OwnB w' base e (.slice (some ⟨g, 0, none⟩) (l ++ m).length cap) (l ++ m) ∧ KeepBut (· = g0) w w' ∧ (g = g0 ∨ g = w.heap.size) := by
  obtain ⟨i, hi, hz, hs, hby⟩ := hT.ex
  obtain ⟨hl1, ⟨g', cap, e0, hbg, hlt, hle, hcm⟩, hown⟩ := hv
  cases e0
  obtain ⟨hm1, hm2, hx⟩ := hx
  have hbase : base ≤ w.heap.size := by omega
  rcases hx with ⟨rfl, rfl⟩ | ⟨ad, c2, rfl, _, _, hc⟩
  · refine ⟨g0, c, w, ?_, ?_, KeepBut.refl _ _, .inl rfl⟩
    · rw [List.append_nil]; exact run_append_owned_none w base t ty e i 1 hT.ut hi _ _ _ hown
    · rw [List.append_nil]
      exact ⟨hl1, ⟨g0, c, rfl, hbg, hlt, hle, hcm⟩, hown⟩
  · obtain ⟨v', w', hr, h2, h3, h4, h5⟩ := run_append_own_at (P := P) w base t ty e i (.int .u8 0) 1 1 hT.ut hi hz hs hby rfl (by omega) _ l.length (cellsB l) hown ad m.length c2 (cellsB m) (by simp [cellsB])
      (fun j u hu => by
        obtain ⟨hj, rfl⟩ := cellsB_get hu
        exact hc j hj)
      (fun u hu => by
        obtain ⟨y, _, rfl⟩ := List.mem_map.1 hu
        rfl) (by unfold maxLen; omega) (by omega) hbase
    rcases h2.2 with ⟨e1, _⟩ | ⟨g', cap', cur, e1, hb', hg', hnc, hcm', hrest⟩
    · rw [h4] at e1; simp at e1
    · have hlt' : g' < w'.heap.size := (Array.getElem?_eq_some_iff.1 hg').1
      have e2 : v' = .slice (some ⟨g', 0, none⟩) (l ++ m).length cap' := by rw [e1, List.length_append]
      refine ⟨g', cap', w', by rw [← e2]; exact hr, ⟨fun y hy => (List.mem_append.1 hy).elim (hl1 y) (hm1 y), ⟨g', cap', rfl, hb', hlt', by rw [List.length_append]; exact hnc, hcm'⟩, ?_⟩, ⟨h3.os, h3.tape, h3.output, h3.size, fun k hk hn => h3.block k hk (by simpa [Value.ownBlock] using hn)⟩, ?_⟩
      · rw [← e2, List.length_append]
        simpa [cellsB] using h2
      · rw [e1] at h5
        simpa [Value.ownBlock] using h5
theorem wl_appendG {P : Program} {t e : TypeId} (hT : ByteT P t e) {w : World} {ops : Array Oper} {rest : List Oper} {o : Oper} {a : Act} {Q : Exit → Act → World → Prop} (hgd : o.guard = none) (s x : Operand)
    (ho : o.op = .call { callee := .builtin .append, args := #[s, x], argTypes := #[t, t] }) (base g0 n c : Nat) (l m : List Nat) (hs : a.eval s = .slice (some ⟨g0, 0, none⟩) n c) (hv : OwnB w base e (.slice (some ⟨g0, 0, none⟩) n c) l) (hx : BytesAt w (a.eval x) m) (hlen : l.length + m.length ≤ 140737488355328)
    (h : ∀ g cap w', OwnB w' base e (.slice (some ⟨g, 0, none⟩) (l ++ m).length cap) (l ++ m) → KeepBut (· = g0) w w' → (g = g0 ∨ g = w.heap.size) → wpList P ops Q rest (a.put o.dst (.slice (some ⟨g, 0, none⟩) (l ++ m).length cap)) w') : wpList P ops Q (o :: rest) a w := by
  refine wpList_plain hgd fun K hK => ?_
  obtain ⟨g, cap, w', hr, h2, h3, h4⟩ := run_append_bytesG hT w base o.type g0 n c (a.eval x) l m hv hx hlen
  unfold Oper.wp
  simp only [execOp, ho, resolve, invoke, builtin, Sem.run_bind, Sem.run_pure, Result.andThen_ok, List.map_toArray, List.map_cons, List.map_nil, hs, hr]
  exact hK _ _ (h g cap w' h2 h3 h4)
theorem OwnB.butK {S : Nat → Prop} {w w' : World} {base : Nat} {e : TypeId} {v : Value} {l : List Nat} (h : OwnB w base e v l) (hk : KeepBut S w w') (hn : ∀ g, blockOf v = some g → ¬ S g) : OwnB w' base e v l := by
  obtain ⟨h1, ⟨g, cap, rfl, hg, hlt, hle, hm⟩, h2, h3⟩ := h
  refine ⟨h1, ⟨g, cap, rfl, hg, Nat.lt_of_lt_of_le hlt hk.size, hle, hm⟩, h2, ?_⟩
  rcases h3 with ⟨h3, _⟩ | ⟨g', cap', cur, h3, h4, h5, h6⟩
  · simp at h3
  · refine .inr ⟨g', cap', cur, h3, h4, ?_, h6⟩
    simp at h3
    obtain ⟨rfl, rfl⟩ := h3
    rw [hk.block g hlt (hn g (by simp [blockOf]))]; exact h5

/-- An argument that is a list of texts. -/
def PartsArg (w : World) (v : Value) (n : Nat) (L : Nat → List Nat) : Prop :=
  n ≤ maxLen ∧ ∃ a cap, v = .slice a n cap ∧ ∀ i, i < n → ∃ b off u, a = some ⟨b, off, none⟩ ∧ w.cell? ⟨b, off + i, none⟩ = some u ∧ BytesAt w u (L i)
theorem bytes_open {H : Type} {enc : TypeId × Value → H} {w : World} {base : Nat} {held : Bool} {fuel : Nat} {v : Value} {x : DataW H × List MemPlace}
    (h : DataW.trod enc Tryd.prog w base (fun _ => true) held fuel 22 [v] = some x) : ∃ l, BytesAt w v l := by
  rcases open_ints Tryd.underlying22 Tryd.underlying5 (by kernel_rfl) h with ⟨hcs, _⟩ | ⟨x, l, c, zs, hcs, _, hl, hm, hz, _, hcell, hwz⟩
  · simp at hcs
    subst hcs
    exact ⟨[], BytesAt.none _⟩
  · simp at hcs
    subst hcs
    exact ⟨_, BytesAt.of_row hl hm (by simpa using hz) hcell hwz⟩
theorem parts_open {H : Type} {enc : TypeId × Value → H} {w : World} {base : Nat} {held : Bool} {fuel : Nat} {v : Value} {x : DataW H × List MemPlace}
    (h : DataW.trod enc Tryd.prog w base (fun _ => true) held fuel 86 [v] = some x) : ∃ n L, PartsArg w v n L := by
  have ce : Tryd.prog.cellsOf 22 = 1 := by kernel_rfl
  rcases Go.Deep.open_slice Tryd.underlying86 h with ⟨hcs, _⟩ | ⟨a, len, cap, m, n, D, Pl, hcs, hb, hl, hm, hmm, _, hx⟩
  · simp at hcs
    subst hcs
    exact ⟨0, fun _ => [], by simp, none, 0, rfl, fun i hi => by omega⟩
  · simp at hcs
    subst hcs
    have hlm : len ≤ m := by rw [hmm]; split <;> omega
    rw [ce] at hx
    obtain ⟨q, hq⟩ := Go.Deep.choose_lt (α := Value × List Nat) (n := len) (p := fun i z => w.cell? (a.add i) = some z.1 ∧ BytesAt w z.1 z.2) (fun i hi => by
      obtain ⟨cs', h1, h2⟩ := hx i (by omega)
      obtain ⟨_, hlen, hcell⟩ := World.cells?_some h1
      match cs', hlen with
      | [v0], _ =>
        obtain ⟨l, hl⟩ := bytes_open h2
        have r0 := hcell 0 (by omega)
        rw [Go.Deep.add_add] at r0
        exact ⟨(v0, l), by simpa using r0, hl⟩)
    refine ⟨len, fun i => (q i).2, by omega, some a, cap, rfl, fun i hi => ?_⟩
    obtain ⟨h1, h2⟩ := hq i hi
    obtain ⟨b, off, spot⟩ := a
    have hs : spot = none := by simpa [Addr.add] using World.cell?_spot (hq 0 (by omega)).1
    subst hs
    rw [add_plain] at h1
    exact ⟨b, off, _, rfl, h1, h2⟩

/-- The first texts, joined. -/
def jo (L : Nat → List Nat) (i : Nat) : List Nat := ((List.range i).map L).flatten
theorem jo_succ (L : Nat → List Nat) (i : Nat) : jo L (i + 1) = jo L i ++ L i := by simp [jo, List.range_succ]
theorem flip8 : ∀ b : Fin 256, bits .xor .u8 (b.1 : Int) 1 = ((b.1 ^^^ 1 : Nat) : Int) := by decide
theorem flip_lt : ∀ b : Fin 256, b.1 ^^^ 1 < 256 := by decide

end Go.Proofs.YtfhoielfekeihaaDoor

/- A key made full, a key changed, parts behind a state. Condition: the tables hold what the text lays. -/
namespace Go.Proofs.YtfhoielfekeihaaDoor
open Go Go.RowKit
set_option linter.unusedVariables false
set_option linter.unusedSimpArgs false
set_option maxRecDepth 100000

theorem zeroKey : (Tryd.prog.info? 87).bind (·.zero) = some (.agg (bA (List.replicate 64 0))) := by kernel_rfl
/-- An array of bytes, cut whole. -/
theorem exec_sliceA {r : Operand → Value} {o : Oper} {t : TypeId} {x : Operand} {w : World} {g n : Nat} (ho : o.op = .slice t x none none none) (hu : Tryd.prog.underlying t = some (.array n 5)) (h1 : r x = .pointer (some ⟨g, 0, none⟩)) (hn : 0 < n) :
    (execOp r o).run Tryd.prog w = .ok (.value (.slice (some ⟨g, 0, none⟩) n n)) w := by
  obtain ⟨i, hi, _, hs, _⟩ := byteT.ex
  have : (⟨g, 0, none⟩ : Addr).add 0 = ⟨g, 0, none⟩ := by rw [add_plain]
  simp [execOp, ho, h1, Instr.sliceAt, Instr.sureAddr, run_underlying hu, Instr.sliceBounds, run_sliceBound, sizeOf, typeInfo, hi, hs, this, show ¬ n = 0 by omega]
theorem bytes_ofBlk {w : World} {g t n : Nat} {D : List Nat} (h : Blk w g (bA D) t) (hD : Sha.AllB D) (hl : D.length = n) (hn : n ≤ 1000) : BytesAt w (.slice (some ⟨g, 0, none⟩) n n) D := by
  subst hl
  refine ⟨hD, by unfold maxLen; omega, .inr ⟨⟨g, 0, none⟩, D.length, rfl, Nat.le_refl _, by unfold maxLen; omega, fun j hj => ?_⟩⟩
  rw [add_plain, Nat.zero_add, h.cell, bA_get D j hj]
theorem putIn_key {L : List Nat} (h : L.length ≤ 64) : putIn (bA (List.replicate 64 0)) 0 (cellsB L) = bA (L ++ List.replicate (64 - L.length) 0) := by
  unfold putIn bA
  congr 1
  rw [List.take_zero, List.nil_append, Nat.zero_add, cellsB_length]
  unfold cellsB
  rw [List.map_append, List.map_replicate, List.drop_replicate, List.map_replicate]
theorem exec_copyA {r : Operand → Value} {o : Oper} {x y : Operand} {w : World} {s t : Nat} {u : Value} {l : List Nat} {C : Array Value}
    (ho : o.op = .call { callee := .builtin .copy, args := #[x, y], argTypes := #[22, 22] }) (h1 : r x = .slice (some ⟨s, 0, none⟩) 64 64) (h2 : r y = u) (hu : BytesAt w u l) (hB : Blk w s C t) (hC : C.size = 64) (hl : l.length ≤ 64) :
    (execOp r o).run Tryd.prog w = .ok (.value (.int .i64 (l.length : Int))) (w.setRow s (putIn C 0 (cellsB l))) := by
  obtain ⟨hb, hm, h3 | ⟨ad, cap, rfl, hle, hcm, hc⟩⟩ := hu
  · obtain ⟨rfl, rfl⟩ := h3
    have hr := run_copy_nil (P := Tryd.prog) w 22 22 o.type 5 ⟨s, 0, none⟩ 64 64 Tryd.underlying22 (by kernel_rfl)
    have : putIn C 0 (cellsB ([] : List Nat)) = C := by simp [putIn, cellsB]
    rw [this, setRow_self w s C t (0, 0) hB]
    simp only [execOp, ho, resolve, invoke, builtin, Sem.run_bind, Sem.run_pure, Result.andThen_ok, List.map_toArray, List.map_cons, List.map_nil, h1, h2, hr]
    rfl
  · have hr := run_copy_row (P := Tryd.prog) w 22 22 o.type 5 s 0 64 64 ad l.length cap C t (cellsB l) Tryd.underlying22 (by kernel_rfl) hB (by rw [cellsB_length]; exact (Nat.min_eq_left hl).symm)
      (fun j v hv => by
        obtain ⟨hj, rfl⟩ := cellsB_get hv
        exact hc j hj)
      (by rw [cellsB_length]; omega) (fun v hv => by obtain ⟨z, _, rfl⟩ := List.mem_map.1 hv; rfl)
    simp only [execOp, ho, resolve, invoke, builtin, Sem.run_bind, Sem.run_pure, Result.andThen_ok, List.map_toArray, List.map_cons, List.map_nil, h1, h2, hr, goInt, cellsB_length]
    unfold putIn
    rw [cellsB_length]
theorem wl_copyA {w : World} {ops : Array Oper} {rest : List Oper} {o : Oper} {a : Act} {Q : Exit → Act → World → Prop} (hgd : o.guard = none) {x y : Operand} {s t : Nat} {u : Value} {l : List Nat}
    (ho : o.op = .call { callee := .builtin .copy, args := #[x, y], argTypes := #[22, 22] }) (h1 : a.eval x = .slice (some ⟨s, 0, none⟩) 64 64) (h2 : a.eval y = u) (hu : BytesAt w u l) (hB : Blk w s (bA (List.replicate 64 0)) t) (hl : l.length ≤ 64)
    (h : ∀ w', Blk w' s (bA (l ++ List.replicate (64 - l.length) 0)) t → KeepBut (· = s) w w' → wpList Tryd.prog ops Q rest (a.put o.dst (.int .i64 (l.length : Int))) w') : wpList Tryd.prog ops Q (o :: rest) a w := by
  have := exec_copyA (r := a.eval) ho h1 h2 hu hB (by rw [bA_size]; simp) hl
  rw [putIn_key hl] at this
  exact wpList_of_run hgd this (h _ (hB.row _) (KeepBut.row _ _ _))
theorem KeepBut.new {S : Nat → Prop} {w w1 w2 : World} {g : Nat} (h : KeepBut S w w1) (k : KeepBut (· = g) w1 w2) (hg : w.heap.size ≤ g) : KeepBut S w w2 :=
  ⟨k.os.trans h.os, k.tape.trans h.tape, k.output.trans h.output, Nat.le_trans h.size k.size, fun j hj hn => (k.block j (Nat.lt_of_lt_of_le hj h.size) (fun e => by subst e; omega)).trans (h.block j hj hn)⟩

set_option maxHeartbeats 2000000 in
theorem fullKey_short {w : World} {v : Value} {K : List Nat} (hv : BytesAt w v K) (hlen : K.length ≤ 64) :
    Calls Tryd.prog 40 #[v] w fun e w' => e = .returned (.agg (bA (Mac.full K))) ∧ Ext w w' := by
  have HV : Hid (BytesAt w v K ∧ K.length ≤ 64) := ⟨hv, hlen⟩
  have HF : Hid (K ++ List.replicate (64 - K.length) 0 = Mac.full K ∧ (Mac.full K).length = 64) := ⟨by unfold Mac.full Mac.short; rw [if_neg (by omega)], Mac.full_len K⟩
  obtain ⟨a, cap, rfl, _, _⟩ := hv.form
  have hd : decide ((K.length : Int) > 64) = false := decide_eq_false (by omega)
  clear hv
  go_enter Tryd.func40, Tryd.ntmps40
  go_wp2_with (first
    | (have q := he1; clear q; refine wl_alloc rfl rfl zeroKey ?_; intro w2 hb2 he2 hx; clear hx)
    | (refine wl_alloc rfl rfl zeroKey ?_; intro w1 hb1 he1 hx; clear hx)
    | (refine wpList_of_run rfl (exec_sliceA rfl Tryd.underlying87 rfl (by decide)) ?_)
    | (refine wl_copyA rfl rfl rfl rfl (HV.out.1.ext (he1.trans he2)) hb2 HV.out.2 ?_; intro w3 hb3 hk3; rw [HF.out.1] at hb3)
    | (refine wl_load rfl row45 rfl rfl hb3 (by rw [bA_size, HF.out.2]) ?_)
    | (refine wl_store (D := bA (Mac.full K)) rfl row45 rfl rfl rfl ((hb1.ext he2).but hk3 (Nat.ne_of_lt hb1.lt)) (by rw [bA_size, HF.out.2]) rfl (bA_one _) ?_; intro w4 hb4 hk4 hx; clear hx))
  refine bodyPost_ret (v := .agg (bA (Mac.full K))) (results_cell_row (fn := Tryd.f40) (p := 2) (by rfl) _ _ w.heap.size 87 _ (0, 0) _ rfl hb4 Tryd.underlying87 rfl (by rw [bA_size, HF.out.2]; kernel_rfl)) rfl ⟨rfl, ?_⟩
  exact ((he1.trans he2).of_but hk3 (fun k e => by subst e; exact he1.size)).of_but hk4 (fun k e => by subst e; exact Nat.le_refl _)

set_option maxHeartbeats 2000000 in
theorem fullKey_long {w : World} {v : Value} {K : List Nat} (hT : Tabs w) (hv : BytesAt w v K) (hlen : 64 < K.length) (hlen2 : K.length ≤ 90000) :
    Calls Tryd.prog 40 #[v] w fun e w' => e = .returned (.agg (bA (Mac.full K))) ∧ Ext w w' := by
  have HV : Hid (BytesAt w v K ∧ Tabs w ∧ K.length ≤ 90000) := ⟨hv, hT, hlen2⟩
  obtain ⟨D, hD⟩ : ∃ D, D = Sha.dgst K := ⟨_, rfl⟩
  have HD : Hid (D = Sha.dgst K ∧ D.length = 32 ∧ Sha.AllB D) := ⟨hD, by rw [hD]; exact Mac.dlen _, by rw [hD]; exact Mac.dall _⟩
  have HF : Hid (D ++ List.replicate (64 - D.length) 0 = Mac.full K ∧ (Mac.full K).length = 64) := ⟨by unfold Mac.full Mac.short; rw [if_pos (by omega), hD], Mac.full_len K⟩
  obtain ⟨a, cap, rfl, _, _⟩ := hv.form
  have hd : decide ((K.length : Int) > 64) = true := decide_eq_true (by omega)
  clear hv hT hD
  go_enter Tryd.func40, Tryd.ntmps40
  go_wp2_with (first
    | (have q := he1; clear q; refine wl_alloc rfl rfl zeroKey ?_; intro w2 hb2 he2 hx; clear hx)
    | (refine wl_alloc rfl rfl zeroKey ?_; intro w1 hb1 he1 hx; clear hx)
    | (go_at_call 45; refine (sum_any (ls := [K]) (HV.out.2.1.ext ((he1.trans he2).trans (Ext.alloc _ _))) (PartsOf.one w2 _ rfl (HV.out.1.ext (he1.trans he2))) (by have := HV.out; simp; omega)).mono ?_; rintro e w3 ⟨rfl, he3'⟩; have he3 := (Ext.alloc _ _).trans he3'; clear he3'; rw [show [K].flatten = K by simp, ← HD.out.1])
    | (refine wl_alloc rfl rfl zero25 ?_; intro w4 hb4 he4 hx; clear hx; refine wl_store (D := bA D) rfl row25 rfl rfl rfl hb4 (by rw [bA_size, HD.out.2.1]) rfl (bA_one _) ?_; intro w5 hb5 hk5 hx; clear hx; have he5 := he4.of_but hk5 (fun k e => by subst e; exact Nat.le_refl _); clear hk5 he4 hb4)
    | (refine wpList_of_run rfl (exec_sliceA rfl Tryd.underlying60 rfl (by decide)) ?_)
    | (refine wpList_of_run rfl (exec_sliceA rfl Tryd.underlying87 rfl (by decide)) ?_)
    | (refine wl_copyA rfl rfl rfl rfl (bytes_ofBlk hb5 HD.out.2.2 HD.out.2.1 (by decide)) ((hb2.ext he3).ext he5) (by rw [HD.out.2.1]; decide) ?_; intro w6 hb6 hk6; rw [HF.out.1] at hb6)
    | (refine wl_load rfl row45 rfl rfl hb6 (by rw [bA_size, HF.out.2]) ?_)
    | (refine wl_store (D := bA (Mac.full K)) rfl row45 rfl rfl rfl ((((hb1.ext he2).ext he3).ext he5).but hk6 (Nat.ne_of_lt hb1.lt)) (by rw [bA_size, HF.out.2]) rfl (bA_one _) ?_; intro w7 hb7 hk7 hx; clear hx))
  refine bodyPost_ret (v := .agg (bA (Mac.full K))) (results_cell_row (fn := Tryd.f40) (p := 2) (by rfl) _ _ w.heap.size 87 _ (0, 0) _ rfl hb7 Tryd.underlying87 rfl (by rw [bA_size, HF.out.2]; kernel_rfl)) rfl ⟨rfl, ?_⟩
  exact ((((he1.trans he2).trans he3).trans he5).of_but hk6 (fun k e => by subst e; exact he1.size)).of_but hk7 (fun k e => by subst e; exact Nat.le_refl _)
theorem fullKey_any {w : World} {v : Value} {K : List Nat} (hT : Tabs w) (hv : BytesAt w v K) (hlen : K.length ≤ 90000) :
    Calls Tryd.prog 40 #[v] w fun e w' => e = .returned (.agg (bA (Mac.full K))) ∧ Ext w w' := by
  by_cases h : K.length ≤ 64
  · exact fullKey_short hv h
  · exact fullKey_long hT hv (by omega) hlen

set_option maxHeartbeats 2000000 in
theorem changed_any (F : List Nat) (c : Nat) (w : World) (hl : F.length = 64) (hF : Sha.AllB F) (hc : c < 256) :
    Calls Tryd.prog 43 #[.agg (bA F), .int .u8 (c : Int)] w fun e w' => e = .returned (.slice (some ⟨w.heap.size, 0, none⟩) 64 64) ∧ Blk w' w.heap.size (bA (Mac.chg F c)) 87 ∧ Ext w w' := by
  have HF : Hid (F.length = 64 ∧ Sha.AllB F ∧ c < 256) := ⟨hl, hF, hc⟩
  clear hl hF
  go_enter Tryd.func43, Tryd.ntmps43
  go_wp2_with (first
    | (refine wl_box (C := bA F) rfl rfl rfl ?_; intro w1 hb1 he1 hx; clear hx))
  have HW : Hid (Blk w1 w.heap.size (bA F) 87 ∧ Ext w w1) := ⟨hb1, he1⟩
  clear hb1 he1
  go_loopg [6] 64 (fun g s wr => ∃ k : Nat, k ≤ 64 ∧ g = 64 - k ∧ s = .int .i64 (k : Int) ∧ Hid (Ext w wr ∧ Blk wr w.heap.size (bA (Mac.chgs F c k)) 87))
  case atStart => exact ⟨0, by omega, rfl, rfl, HW.out.2, by rw [Mac.chgs_0]; exact HW.out.1⟩
  case round =>
    obtain ⟨k, hk, rfl, rfl, HR⟩ := hrel
    by_cases hlt : k < 64
    · have hd : decide ((k : Int) < 64) = true := decide_eq_true (by omega)
      have hkl : k < F.length := by rw [HF.out.1]; exact hlt
      have hcell := (HR.out.2.cell k).trans (bA_get (Mac.chgs F c k) k (by rw [Mac.chgs_len]; exact hkl))
      rw [Mac.chgs_get F c k hkl] at hcell
      have HS : Hid _ := Mac.chgs_succ F c k hkl
      have hx8 := Go.u8_xor_nat (F.getD k 0) c (HF.out.2.1.get k) hc
      generalize F.getD k 0 = x at *
      generalize hy : x ^^^ c = y at *
      have HB : Hid (Blk wr w.heap.size (bA (Mac.chgs F c k)) 87 ∧ (Mac.chgs F c k).length = 64) := ⟨HR.out.2, by rw [Mac.chgs_len]; exact HF.out.1⟩
      clear hkl hy
      go_wp2_with (first
        | (refine wl_set (v := .int .u8 (y : Nat)) rfl one5 rfl rfl (by first | rfl | go_simp | simp [go_sem, hx8]) rfl rfl HB.out.1 (by rw [bA_size, HB.out.2]; omega) ?_; intro x1 c1 k1 hx; clear hx; rw [bA_set, HS.out] at c1))
      go_roundg (64 - (k + 1))
      case measure => omega
      case rel => exact ⟨k + 1, by omega, rfl, by simp, HR.out.1.of_but k1 (fun j e => by subst e; exact Nat.le_refl _), c1⟩
    · have hd : decide ((k : Int) < 64) = false := decide_eq_false (by omega)
      obtain rfl : k = 64 := by omega
      rw [Mac.chgs_all (by rw [HF.out.1]; exact Nat.le_refl _)] at HR
      go_wp2_with (first
        | (refine wpList_of_run rfl (exec_sliceA rfl Tryd.underlying87 rfl (by decide)) ?_))
      go_ret
      exact ⟨rfl, HR.out.2, HR.out.1⟩

set_option maxHeartbeats 2000000 in
theorem sumBehind_any {w0 w : World} {s : Nat} {T : List Nat} {v : Value} {ls : List (List Nat)} (hT : Tabs w0) (h0 : Ext w0 w) (hs : w0.heap.size ≤ s) (hS : StateAt w s T) (hv : PartsOf w0 v ls) (hlen : T.length + ls.flatten.length ≤ 90000) :
    Calls Tryd.prog 44 #[stP s, v] w fun e w' => e = .returned (.agg (bA (Sha.dgst (T ++ ls.flatten)))) ∧ KeepBut (· = s) w w' := by
  have HV : Hid (Tabs w0 ∧ Ext w0 w ∧ w0.heap.size ≤ s ∧ T.length + ls.flatten.length ≤ 90000) := ⟨hT, h0, hs, hlen⟩
  obtain ⟨h1000, a, cap, rfl, hc⟩ := hv
  have HC : Hid (∀ i, i < ls.length → ∃ b off u, a = some ⟨b, off, none⟩ ∧ w0.cell? ⟨b, off + i, none⟩ = some u ∧ BytesAt w0 u (ls.getD i [])) := hc
  have hd8 : Hid ((Sha.dgst (T ++ ls.flatten)).length = 32) := Mac.dlen _
  have HS : Hid (StateAt w s T ∧ s < w.heap.size) := ⟨hS, hS.blk.lt⟩
  clear hc hT h0 hs hlen hS
  go_enter Tryd.func44, Tryd.ntmps44
  go_wp2_with (first
    | (refine wl_alloc rfl rfl zero25 ?_; intro w1 hb1 he1 hx; clear hx))
  have HW : Hid (Blk w1 w.heap.size (bA (List.replicate 32 0)) 60 ∧ StateAt w1 s T ∧ Ext w w1) := ⟨hb1, HS.out.1.ext he1, he1⟩
  clear hb1 he1
  go_loopg [9] ls.length (fun g q wr => ∃ i : Nat, i ≤ ls.length ∧ g = ls.length - i ∧ q = .int .i64 (i : Int) ∧ Hid (Blk wr w.heap.size (bA (List.replicate 32 0)) 60 ∧ StateAt wr s (T ++ (ls.take i).flatten) ∧ KeepBut (· = s) w wr ∧ Ext w0 wr))
  case atStart => exact ⟨0, Nat.zero_le _, rfl, rfl, HW.out.1, by simpa using HW.out.2.1, KeepBut.ext HW.out.2.2, HV.out.2.1.trans HW.out.2.2⟩
  case round =>
    obtain ⟨i, hi, rfl, rfl, HR⟩ := hrel
    by_cases hlt : i < ls.length
    · have hd : decide ((i : Int) < (ls.length : Int)) = true := decide_eq_true (by omega)
      obtain ⟨b, off, u, rfl, hu, hbu⟩ := HC.out i hlt
      have hur := HR.out.2.2.2.cell hu
      have HBU : Hid (BytesAt w0 u (ls.getD i [])) := hbu
      clear hbu hu
      go_wp2_with (first
        | (go_at_call 42; refine (add_any (HV.out.1.ext HR.out.2.2.2) HR.out.2.1 (HBU.out.ext HR.out.2.2.2) (fun hne g hg => by have := HBU.out.lt hne hg; have := HV.out; omega) (by have := HV.out.1.two; have := HV.out; omega) (by have h1 := flat_succ ls i hlt; have h2 := flat_len ls (i + 1); rw [h1, List.length_append] at h2; have := HV.out; rw [List.length_append]; omega)).mono ?_; rintro e w4 ⟨⟨x, rfl⟩, hS4, hk4⟩))
      have hsw := HS.out.2
      go_roundg (ls.length - (i + 1))
      case measure => omega
      case rel =>
        refine ⟨i + 1, by omega, rfl, by simp, HR.out.1.but hk4 (show ¬ _ = _ by omega), ?_, HR.out.2.2.1.trans hk4, HR.out.2.2.2.of_but hk4 (fun k e => by subst e; exact HV.out.2.2.1)⟩
        rw [flat_succ ls i hlt, ← List.append_assoc]; exact hS4
    · have hd : decide ((i : Int) < (ls.length : Int)) = false := decide_eq_false (by omega)
      obtain rfl : i = ls.length := by omega
      rw [List.take_length] at HR
      go_wp2_with (first
        | (go_at_call 61; refine (stSum_any (HV.out.1.ext HR.out.2.2.2) HR.out.2.1 (by have := HV.out; rw [List.length_append]; omega)).mono ?_; rintro e w5 ⟨rfl, he5⟩)
        | (refine wl_store (D := bA (Sha.dgst (T ++ ls.flatten))) rfl row25 rfl rfl rfl (HR.out.1.ext he5) (by rw [bA_size, hd8.out]) rfl (bA_one _) ?_; intro w6 hb6 hk6 hx; clear hx))
      refine bodyPost_ret (v := .agg (bA (Sha.dgst (T ++ ls.flatten)))) (results_cell_row (fn := Tryd.f44) (p := 4) (by rfl) _ _ w.heap.size 60 _ (0, 0) _ rfl hb6 Tryd.underlying60 rfl (by rw [bA_size, hd8.out]; kernel_rfl)) rfl ⟨rfl, ?_⟩
      exact (HR.out.2.2.1.trans (KeepBut.ext he5)).new hk6 (Nat.le_refl _)
end Go.Proofs.YtfhoielfekeihaaDoor

/- The tag of a key and of parts. Condition: the tables hold what the text lays. -/
namespace Go.Proofs.YtfhoielfekeihaaDoor
open Go Go.RowKit
set_option linter.unusedVariables false
set_option linter.unusedSimpArgs false
set_option maxRecDepth 100000

set_option maxHeartbeats 4000000 in
theorem macSum_any {w : World} {v u : Value} {K : List Nat} {ls : List (List Nat)} (hT : Tabs w) (hk : BytesAt w v K) (hv : PartsOf w u ls) (hlK : K.length ≤ 90000) (hlen : ls.flatten.length ≤ 80000) :
    Calls Tryd.prog 22 #[v, u] w fun e w' => e = .returned (.agg (bA (Mac.tag K ls.flatten))) ∧ Ext w w' := by
  have HA : Hid (Tabs w ∧ BytesAt w v K ∧ PartsOf w u ls ∧ K.length ≤ 90000 ∧ ls.flatten.length ≤ 80000) := ⟨hT, hk, hv, hlK, hlen⟩
  obtain ⟨F, hF⟩ : ∃ F, F = Mac.full K := ⟨_, rfl⟩
  obtain ⟨I, hI⟩ : ∃ I, I = Mac.inner K ls.flatten := ⟨_, rfl⟩
  obtain ⟨D, hD⟩ : ∃ D, D = Mac.tag K ls.flatten := ⟨_, rfl⟩
  have HF : Hid (F = Mac.full K ∧ F.length = 64 ∧ Sha.AllB F) := ⟨hF, by rw [hF]; exact Mac.full_len K, by rw [hF]; exact Mac.full_all hk.1⟩
  have HI : Hid (I = Sha.dgst (Mac.chg F 54 ++ ls.flatten) ∧ I.length = 32 ∧ Sha.AllB I) := ⟨by rw [hI, hF]; rfl, by rw [hI]; exact Mac.inner_len _ _, by rw [hI]; exact Mac.inner_all _ _⟩
  have HD : Hid (D = Sha.dgst (Mac.chg F 92 ++ I) ∧ D.length = 32) := ⟨by rw [hD, hF, hI]; rfl, by rw [hD]; exact Mac.tag_len _ _⟩
  rw [← hD]
  obtain ⟨a, cap, rfl, _, _⟩ := hk.form
  obtain ⟨_, ua, uc, rfl, _⟩ := hv
  rename_i z1 z2 z3 z4
  clear z1 z2 z3 z4 hk hT hF hI hD
  go_enter Tryd.func22, Tryd.ntmps22
  go_wp2_with (first
    | (have q := hk8; clear q; refine wl_alloc rfl rfl zero25 ?_; intro w9 hb9 he9 hx; clear hx; refine wl_store (D := bA I) rfl row25 rfl rfl rfl hb9 (by rw [bA_size, HI.out.2.1]) rfl (bA_one _) ?_; intro w10 hb10 hk10 hx; clear hx; have he10 := he9.of_but hk10 (fun k e => by subst e; exact Nat.le_refl _); clear hk10 he9 hb9)
    | (refine wl_alloc rfl rfl zero25 ?_; intro w1 hb1 he1 hx; clear hx)
    | (go_at_call 40; refine (fullKey_any (HA.out.1.ext he1) (HA.out.2.1.ext he1) HA.out.2.2.2.1).mono ?_; rintro e w2 ⟨rfl, he2⟩; rw [← HF.out.1])
    | (refine wl_alloc rfl rfl zeroKey ?_; intro w3 hb3 he3 hx; clear hx; refine wl_store (D := bA F) rfl row45 rfl rfl rfl hb3 (by rw [bA_size, HF.out.2.1]) rfl (bA_one _) ?_; intro w4 hb4 hk4 hx; clear hx; have he4 := he3.of_but hk4 (fun k e => by subst e; exact Nat.le_refl _); clear hk4 he3 hb3; have HE4 : Hid (Ext w w4) := (he1.trans he2).trans he4)
    | (go_at_call 41; refine (begin_any _ (HA.out.1.ext HE4.out)).mono ?_; rintro e w5 ⟨rfl, hS5, he5⟩)
    | (refine wl_load rfl row45 rfl rfl (hb4.ext he5) (by rw [bA_size, HF.out.2.1]) ?_)
    | (go_at_call 43; refine (changed_any F 54 _ HF.out.2.1 HF.out.2.2 (by decide)).mono ?_; rintro e w6 ⟨rfl, hb6, he6⟩)
    | (go_at_call 42; refine (add_any (HA.out.1.ext ((HE4.out.trans he5).trans he6)) (hS5.ext he6) (bytes_ofBlk hb6 (Mac.chg_all HF.out.2.2 (by decide)) (by rw [Mac.chg_len, HF.out.2.1]) (by decide)) (fun _ g hg => by simp [blockOf] at hg; have := hS5.blk.lt; omega) (by have := HA.out.1.two; have := HE4.out.size; omega) (by rw [Mac.chg_len, HF.out.2.1]; decide)).mono ?_; rintro e w7 ⟨⟨x, rfl⟩, hS7, hk7⟩; rw [List.nil_append] at hS7; have HE7 : Hid (Ext w w7) := ((HE4.out.trans he5).trans he6).of_but hk7 (fun k e => by subst e; exact HE4.out.size))
    | (go_at_call 44; refine (sumBehind_any (w0 := w) HA.out.1 HE7.out HE4.out.size hS7 HA.out.2.2.1 (by rw [Mac.chg_len, HF.out.2.1]; have := HA.out; omega)).mono ?_; rintro e w8 ⟨rfl, hk8⟩; rw [← HI.out.1]; have HE8 : Hid (Ext w w8) := HE7.out.of_but hk8 (fun k e => by subst e; exact HE4.out.size)))
  have HE10 : Hid (Ext w w10) := HE8.out.trans he10
  have hn4 : w4.heap.size ≠ w2.heap.size := by have := hb4.lt; omega
  have hsz : w.heap.size < w2.heap.size := by have := hb1.lt; have := he2.size; omega
  have Hb4 : Hid (Blk w10 w2.heap.size (bA F) 87) := ((((((hb4.ext he5).ext he6).but hk7 (Ne.symm hn4)).but hk8 (Ne.symm hn4))).ext he10)
  have Hb1 : Hid (Blk w10 w.heap.size (bA (List.replicate 32 0)) 60) := ((((((((hb1.ext he2).ext he4).ext he5).ext he6).but hk7 (show ¬ _ = _ by have := HE4.out.size; have := hb4.lt; omega)).but hk8 (show ¬ _ = _ by have := HE4.out.size; have := hb4.lt; omega))).ext he10)
  have Hb10 : Hid (Blk w10 w8.heap.size (bA I) 60) := hb10
  clear hb1 hb4 hb6 hb10 hk7 hk8 he1 he2 he4 he5 he6 he10 hS5 hS7 HE7 HE8 hn4 hsz HE4
  generalize w2.heap.size = kb at *
  generalize w8.heap.size = ib at *
  have HB4 : ∀ {wx : World}, Ext w10.drew wx → Blk wx kb (bA F) 87 := fun hx => Hb4.out.ext ((Ext.drew _).trans hx)
  have HB1 : ∀ {wx : World}, Ext w10.drew wx → Blk wx w.heap.size (bA (List.replicate 32 0)) 60 := fun hx => Hb1.out.ext ((Ext.drew _).trans hx)
  have HB10 : ∀ {wx : World}, Ext w10.drew wx → Blk wx ib (bA I) 60 := fun hx => Hb10.out.ext ((Ext.drew _).trans hx)
  have HT10 : ∀ {wx : World}, Ext w10.drew wx → Tabs wx := fun hx => HA.out.1.ext (HE10.out.trans ((Ext.drew _).trans hx))
  refine wp_region_lastD (fun t => bif Nat.ble 18 t && Nat.ble t 22 then some (t - 18) else none) 23 Ext
    [Is (.agg (bA F)),
     (fun wx v => BytesAt wx v (Mac.chg F 92)),
     Is (.slice (some ⟨ib, 0, none⟩) 32 32),
     (fun wx v => PartsOf wx v [Mac.chg F 92, I]),
     Is (.agg (bA D))]
    (by intro h; cases h) rfl (by kernel_rfl) (by kernel_rfl) rfl (by kernel_rfl) Ext.refl (fun _ _ _ => Ext.trans) ?_ (fun wx wy => Blk wy w.heap.size (bA D) 60 ∧ KeepBut (· = w.heap.size) wx wy) ?_ ?_ ?_
  · exact KeepAll.is (KeepAll.cons (fun _ _ _ hr h => BytesAt.ext h hr) (KeepAll.is (KeepAll.cons (fun _ _ _ hr h => PartsOf.ext h hr) (KeepAll.is (KeepAll.nil)))))
  · refine GoodAll.cons ?_ ?_
    · intro r wx hR hx
      obtain ⟨h1, _⟩ := hx
      replace h1 : r (.tmp 5) = (.pointer (some ⟨kb, 0, none⟩)) := h1
      exact give_of (exec_loadW row45 rfl h1 (HB4 hR) (by rw [bA_size, HF.out.2.1])) ⟨Ext.refl _, rfl⟩
    refine GoodAll.cons ?_ ?_
    · intro r wx hR hx
      obtain ⟨h1, h2, h3, _⟩ := hx
      replace h1 : r (.func 43) = .func (.func 43) #[] #[] := h1
      replace h2 : r (.tmp 18) = (.agg (bA F)) := h2
      replace h3 : r (.const (.int .u8 92)) = .int .u8 92 := h3
      refine give_func #[.agg (bA F), .int .u8 92] rfl h1 Tryd.call43 (by simp [h2, h3]) ?_
      refine (changed_any F 92 _ HF.out.2.1 HF.out.2.2 (by decide)).mono ?_
      rintro e w' ⟨rfl, hb, he⟩
      exact ⟨_, rfl, he, bytes_ofBlk hb (Mac.chg_all HF.out.2.2 (by decide)) (by rw [Mac.chg_len, HF.out.2.1]) (by decide)⟩
    refine GoodAll.cons ?_ ?_
    · intro r wx hR hx
      obtain ⟨h1, _⟩ := hx
      replace h1 : r (.tmp 7) = (.pointer (some ⟨ib, 0, none⟩)) := h1
      exact give_of (exec_sliceA rfl Tryd.underlying60 h1 (by decide)) ⟨Ext.refl _, rfl⟩
    refine GoodAll.cons ?_ ?_
    · intro r wx hR hx
      obtain ⟨h1, h2, _⟩ := hx
      replace h1 : ((fun wx v => BytesAt wx v (Mac.chg F 92)) : Fact) wx (r (.tmp 19)) := h1
      replace h2 : r (.tmp 20) = (.slice (some ⟨ib, 0, none⟩) 32 32) := h2
      obtain ⟨x1, q1, e1, _, _⟩ := BytesAt.form h1
      refine give_of (v := .slice (some ⟨wx.heap.size, 0, none⟩) 2 2) (w' := wx.alloc (.cells #[r (.tmp 19), r (.tmp 20)] 22)) (by simp [execOp, e1, h2, go_sem]) ⟨Ext.alloc _ _, PartsOf.two wx _ rfl h1 (by rw [h2]; exact bytes_ofBlk (HB10 hR) HI.out.2.2 HI.out.2.1 (by decide))⟩
    refine GoodAll.cons ?_ ?_
    · intro r wx hR hx
      obtain ⟨h1, h2, _⟩ := hx
      replace h1 : r (.func 45) = .func (.func 45) #[] #[] := h1
      replace h2 : ((fun wx v => PartsOf wx v [Mac.chg F 92, I]) : Fact) wx (r (.tmp 21)) := h2
      refine give_func #[r (.tmp 21)] rfl h1 Tryd.call45 (by simp) ?_
      refine (sum_any (ls := [Mac.chg F 92, I]) (HT10 hR) h2 (by simp [Mac.chg_len, HF.out.2.1, HI.out.2.1])).mono ?_
      rintro e w' ⟨rfl, he⟩
      exact ⟨_, rfl, he, by rw [show [Mac.chg F 92, I].flatten = Mac.chg F 92 ++ I by simp, ← HD.out.1]; rfl⟩
    exact GoodAll.nil
  · intro r wx hR hx
    obtain ⟨h1, h2, _⟩ := hx
    replace h1 : r (.tmp 4) = (.pointer (some ⟨w.heap.size, 0, none⟩)) := h1
    replace h2 : r (.tmp 22) = (.agg (bA D)) := h2
    exact give_skip (w' := wx.setRow w.heap.size (bA D)) (by rw [← putIn_all (bA (List.replicate 32 0)) (bA D) (by rw [bA_size, bA_size, HD.out.2]; rfl)]; exact exec_store row25 rfl h1 h2 (HB1 hR) (by rw [bA_size, HD.out.2]) (by rw [bA_size]; decide) (bA_one _)) ⟨(HB1 hR).row _, KeepBut.row _ _ _⟩
  · intro vs w11 w12 aY hR11 hE hold ha
    have hv0 : vs 0 = (.agg (bA F)) := hold.at 0
    have hv2 : vs 2 = (.slice (some ⟨ib, 0, none⟩) 32 32) := hold.at 2
    have hv4 : vs 4 = (.agg (bA D)) := hold.at 4
    obtain ⟨hb12, hk12⟩ := hE
    have HE12 : Hid (Ext w w12) := (HE10.out.trans ((Ext.drew _).trans hR11)).of_but hk12 (fun k e => by subst e; exact Nat.le_refl _)
    simp only [putAll, Act.put, hv0, hv2, hv4, List.setIfInBounds_toArray, List.set_cons_succ, List.set_cons_zero] at ha
    subst ha
    clear hold
    refine ‹∀ (a : Act) (w : World), Code.wp Tryd.prog _ _ a w → _› _ _ ?_
    go_wp2
    refine bodyPost_ret (v := .agg (bA D)) (results_cell_row (fn := Tryd.f22) (p := 4) (by rfl) _ _ w.heap.size 60 _ (0, 0) _ rfl hb12 Tryd.underlying60 rfl (by rw [bA_size, HD.out.2]; kernel_rfl)) rfl ⟨rfl, HE12.out⟩
end Go.Proofs.YtfhoielfekeihaaDoor

/- Whether a tag is right; the law's fixed fact: the chapter's example. Condition: the tables hold what the text lays. -/
namespace Go.Proofs.YtfhoielfekeihaaDoor
open Go Go.RowKit
set_option linter.unusedVariables false
set_option linter.unusedSimpArgs false
set_option maxRecDepth 100000

theorem macSum_one {w : World} {v u : Value} {n : Nat} {K T : List Nat} (hn : n = w.heap.size) (hT : Tabs w) (hk : BytesAt w v K) (hv : BytesAt w u T) (hlK : K.length ≤ 90000) (hlen : T.length ≤ 80000) :
    Calls Tryd.prog 22 #[v, .slice (some ⟨n, 0, none⟩) 1 1] (w.alloc (.cells #[u] 22)) fun e w' => e = .returned (.agg (bA (Mac.tag K T))) ∧ Ext w w' := by
  have := macSum_any (ls := [T]) (hT.ext (Ext.alloc _ _)) (hk.ext (Ext.alloc _ _)) (PartsOf.one w n hn hv) hlK (by simpa using hlen)
  refine this.mono ?_
  rintro e w' ⟨rfl, he⟩
  exact ⟨by simp, (Ext.alloc _ _).trans he⟩

set_option maxHeartbeats 4000000 in
theorem check_any {w : World} {tv v u : Value} {X K : List Nat} {ls : List (List Nat)} (hT : Tabs w) (hX : BytesAt w tv X) (hk : BytesAt w v K) (hv : PartsOf w u ls) (hlK : K.length ≤ 90000) (hlen : ls.flatten.length ≤ 80000) :
    Calls Tryd.prog 30 #[tv, v, u] w fun e w' => e = .returned (.bool (decide (X = Mac.tag K ls.flatten))) ∧ Ext w w' := by
  have HA : Hid (Tabs w ∧ BytesAt w v K ∧ PartsOf w u ls ∧ K.length ≤ 90000 ∧ ls.flatten.length ≤ 80000) := ⟨hT, hk, hv, hlK, hlen⟩
  obtain ⟨D, hD⟩ : ∃ D, D = Mac.tag K ls.flatten := ⟨_, rfl⟩
  have HD : Hid (D = Mac.tag K ls.flatten ∧ D.length = 32 ∧ Sha.AllB D) := ⟨hD, by rw [hD]; exact Mac.tag_len _ _, by rw [hD]; exact Mac.tag_all _ _⟩
  rw [← hD]
  obtain ⟨R, hR⟩ : ∃ R, R = decide (X = D) := ⟨_, rfl⟩
  rw [← hR]
  have HRb : Hid (R = decide (X = D)) := hR
  clear hR
  have hX1 : X.length ≤ 9223372036854775807 := by have := hX.2.1; unfold maxLen at this; omega
  have HX8 : Hid (Sha.AllB X) := hX.1
  obtain ⟨a, cap, rfl, _, hXc⟩ := hX.form
  have HX : Hid (∀ j, j < X.length → ∃ b off, a = some ⟨b, off, none⟩ ∧ w.cell? ⟨b, off + j, none⟩ = some (.int .u8 (X.getD j 0 : Nat))) := hXc
  obtain ⟨ka, kc, rfl, _, _⟩ := hk.form
  obtain ⟨_, ua, uc, rfl, _⟩ := hv
  rename_i z1 z2 z3 z4 z5
  clear z1 z2 z3 z4 z5 hk hT hX hXc hD
  by_cases h32 : X.length = 32
  · have hd1 : ((X.length : Int) != 32) = false := by rw [h32]; rfl
    have H32 : Hid (X.length = 32) := h32
    clear h32
    go_enter Tryd.func30, Tryd.ntmps30
    go_wp2_with (first
      | (go_at_call 22; refine (macSum_any HA.out.1 HA.out.2.1 HA.out.2.2.1 HA.out.2.2.2.1 HA.out.2.2.2.2).mono ?_; rintro e w1 ⟨rfl, he1⟩; rw [← HD.out.1])
      | (refine wl_alloc rfl rfl zero25 ?_; intro w2 hb2 he2 hx; clear hx; refine wl_store (D := bA D) rfl row25 rfl rfl rfl hb2 (by rw [bA_size, HD.out.2.1]) rfl (bA_one _) ?_; intro w3 hb3 hk3 hx; clear hx; have he3 := he1.trans (he2.of_but hk3 (fun k e => by subst e; exact Nat.le_refl _)); clear hk3 he1 he2 hb2)
      | (refine wl_load rfl row25 rfl rfl hb3 (by rw [bA_size, HD.out.2.1]) ?_))
    have HE : Hid (Ext w w3) := he3
    clear hb3 he3
    go_loopg [8, 18] 32 (fun g s t wr => ∃ k : Nat, k ≤ 32 ∧ g = 32 - k ∧ s = .int .u8 (Mac.diff D X k : Nat) ∧ t = .int .i64 (k : Int) ∧ Hid (wr = w3))
    case atStart => exact ⟨0, by omega, rfl, rfl, rfl, rfl⟩
    case round =>
      obtain ⟨k, hk, rfl, rfl, rfl, HR⟩ := hrel
      obtain rfl := HR.out
      clear HR
      by_cases hlt : k < 32
      · have hd : decide ((k : Int) < 32) = true := decide_eq_true (by omega)
        have hsc := bA_get D k (by rw [HD.out.2.1]; exact hlt)
        obtain ⟨b, off, rfl, hcx⟩ := HX.out k (by rw [H32.out]; exact hlt)
        have hc := HE.out.cell hcx
        have HS : Hid (Mac.diff D X (k + 1) = Mac.diff D X k ||| (D.getD k 0 ^^^ X.getD k 0)) := show _ = _ from rfl
        have hxx := Go.u8_xor_nat (D.getD k 0) (X.getD k 0) (HD.out.2.2.get k) (HX8.out.get k)
        have hxl := Mac.xor8_lt (HD.out.2.2.get k) (HX8.out.get k)
        have hdl := Mac.diff_lt HD.out.2.2 HX8.out k
        have hkx : (k : Int) < (X.length : Int) := by have := H32.out; omega
        clear hcx
        generalize D.getD k 0 = x at *
        generalize X.getD k 0 = y at *
        generalize x ^^^ y = z at *
        generalize Mac.diff D X k = dk at *
        have hor := Go.u8_or_nat dk z hdl hxl
        generalize dk ||| z = dn at *
        go_wp2_with (first
          | (refine wpList_of_run rfl (exec_index _ rfl Tryd.underlying60 ⟨_, Tryd.underlying5, rfl⟩ (by kernel_rfl) rfl rfl hlt hsc) ?_))
        go_roundg (32 - (k + 1))
        case measure => omega
        case rel => exact ⟨k + 1, by omega, rfl, by rw [HS.out], by simp, rfl⟩
      · have hd : decide ((k : Int) < 32) = false := decide_eq_false (by omega)
        obtain rfl : k = 32 := by omega
        have HQ : Hid (Mac.diff D X 32 = 0 ↔ X = D) := Mac.diff_eq HD.out.2.1 H32.out
        generalize Mac.diff D X 32 = dk at *
        by_cases hz : dk = 0
        · subst hz
          obtain rfl : R = true := by rw [HRb.out]; exact decide_eq_true (HQ.out.1 rfl)
          go_wp2
          go_ret
          exact ⟨rfl, HE.out⟩
        · have hz1 : ((dk : Int) == 0) = false := by simp; omega
          obtain rfl : R = false := by rw [HRb.out]; exact decide_eq_false (fun e => hz (HQ.out.2 e))
          go_wp2
          go_ret
          exact ⟨rfl, HE.out⟩
  · have hd1 : ((X.length : Int) != 32) = true := by simp; omega
    obtain rfl : R = false := by rw [HRb.out]; exact decide_eq_false (fun e => h32 (by rw [e]; exact HD.out.2.1))
    clear h32
    go_enter Tryd.func30, Tryd.ntmps30
    go_wp2_with (first
      | (go_at_call 22; refine (macSum_any HA.out.1 HA.out.2.1 HA.out.2.2.1 HA.out.2.2.2.1 HA.out.2.2.2.2).mono ?_; rintro e w1 ⟨rfl, he1⟩; rw [← HD.out.1])
      | (refine wl_alloc rfl rfl zero25 ?_; intro w2 hb2 he2 hx; clear hx; refine wl_store (D := bA D) rfl row25 rfl rfl rfl hb2 (by rw [bA_size, HD.out.2.1]) rfl (bA_one _) ?_; intro w3 hb3 hk3 hx; clear hx; have he3 := he1.trans (he2.of_but hk3 (fun k e => by subst e; exact Nat.le_refl _)); clear hk3 he1 he2 hb2))
    go_ret
    exact ⟨rfl, he3⟩

theorem jefe : (Mac.tag [74, 101, 102, 101] ([119, 104, 97, 116, 32, 100, 111, 32, 121, 97, 32, 119, 97, 110, 116, 32] ++ [102, 111, 114, 32, 110, 111, 116, 104, 105, 110, 103, 63])).take 4 = [91, 220, 193, 70] := by decide +kernel
theorem jefe_get (k : Nat) (hk : k < 4) : (Mac.tag [74, 101, 102, 101] ([119, 104, 97, 116, 32, 100, 111, 32, 121, 97, 32, 119, 97, 110, 116, 32] ++ [102, 111, 114, 32, 110, 111, 116, 104, 105, 110, 103, 63])).getD k 0 = [91, 220, 193, 70].getD k 0 := by
  rw [← jefe, List.getD_eq_getElem?_getD, List.getD_eq_getElem?_getD, List.getElem?_take, if_pos hk]
end Go.Proofs.YtfhoielfekeihaaDoor

/- A law on regions that keep their order, whatever their guards: one fact per operation, kept by whatever comes later; the walk need not part at a guard. No condition of its own. -/
namespace Go.Proofs.YtfhoielfekeihaaDoor
open Go
set_option linter.unusedVariables false

/-- Which operations were met: the first k. -/
def upto (n k : Nat) : Array Bool := (List.ofFn (n := n) fun i => decide (i.val < k)).toArray
theorem upto_size (n k : Nat) : (upto n k).size = n := by simp [upto]
theorem upto_getD (n k i : Nat) (d : Bool) : (upto n k).getD i d = if i < n then decide (i < k) else d := by
  unfold upto
  by_cases h : i < n <;> simp [Array.getD, h]
theorem upto_all (n : Nat) : upto n n = Array.replicate n true := by
  apply Array.ext
  · simp [upto]
  · intro i h1 h2
    simp [upto] at h1 ⊢
    try exact h1
theorem upto_set (n k : Nat) (h : k < n) : (upto n k).setIfInBounds k true = upto n (k + 1) := by
  apply Array.ext
  · simp [upto]
  · intro i h1 h2
    rw [Array.getElem_setIfInBounds (by simpa using h1)]
    simp only [upto, List.getElem_toArray, List.getElem_ofFn]
    by_cases hk : k = i
    · subst hk; simp
    · simp only [hk, if_false]
      by_cases h3 : i < k
      · simp [h3]; omega
      · simp [h3]; omega

section
variable {P : Program} {mk : Tmp → Option Nat} {ops : List Oper} {a0 : Act} {R : World → World → Prop} {V : Nat → World → Value → Prop} {w0 : World} {Q : Exit → Act → World → Prop} {n : Nat}
theorem line_from (k0 : Nat) (hsh : shapeB mk ops n = true) (hn : a0.tmps.size = n) (hV : ∀ i w w' v, R w w' → V i w v → V i w' v) (hT : ∀ a b c, R a b → R b c → R a c) (hRf : ∀ w, R w w)
    (hG : ∀ i o, k0 ≤ i → ops[i]? = some o → Good P mk a0 R V w0 i o)
    (hQ : ∀ a w, Inv ops a0 R V w0 (Array.replicate ops.length true) a w → Q .normal a w) :
    ∀ (l : List Oper) (k : Nat) (a : Act) (w : World), k0 ≤ k → ops.drop k = l → Inv ops a0 R V w0 (upto ops.length k) a w → wpList P ops.toArray Q l a w := by
  intro l
  induction l with
  | nil =>
    intro k a w hk0 hl hI
    have hk : ops.length ≤ k := by simpa using hl
    refine hQ a w ?_
    rw [← upto_all]
    have : upto ops.length k = upto ops.length ops.length := by
      apply Array.ext
      · simp [upto]
      · intro i h1 h2
        simp [upto] at h1 ⊢
        omega
    rw [← this]; exact hI
  | cons o rest ih =>
    intro k a w hk0 hl hI
    have hk : k < ops.length := by
      rcases Nat.lt_or_ge k ops.length with h | h
      · exact h
      · rw [List.drop_eq_nil_of_le h] at hl; cases hl
    have ho : ops[k]? = some o := by
      have := congrArg (fun l => l[0]?) hl
      simpa [List.getElem?_drop] using this
    have hrest : ops.drop (k + 1) = rest := by
      rw [← List.drop_drop, hl]; rfl
    have hgl : (upto ops.length k).getD k true = false := by rw [upto_getD]; simp [hk]
    have hsp := shape_spec hsh ho
    simp only [shapeOneB, Bool.and_eq_true] at hsp
    have hall : ∀ e ∈ o.after, Region.binds .any e = true → (upto ops.length k).getD e.on false = true := by
      intro e he hb
      have h5 := Array.all_eq_true_iff_forall_mem.1 hsp.2 e he
      simp [hb] at h5
      rw [upto_getD]; simp [h5]; omega
    have hg := hG k o hk0 ho a.eval w hI.rel (factsOf_mk (hI.facts hsh ho hall))
    have next : ∀ v w', R w w' ∧ V k w' v → wpList P ops.toArray Q rest (a.put o.dst v) w' := fun v w' ⟨h1, h2⟩ =>
      ih (k + 1) _ _ (by omega) hrest (by rw [← upto_set _ _ hk]; exact hI.put hsh hn hV hT ho hgl h1 h2)
    unfold wpList
    cases hgd : o.guard with
    | none =>
      simp only [hgd] at hg
      simp only [Region.wanted, hgd, if_true]
      exact .inl (give_wp hg next)
    | some gw =>
      obtain ⟨g, want⟩ := gw
      simp only [hgd] at hg
      simp only [hgd, Bool.and_eq_true] at hsp
      obtain ⟨e, he, hb, rfl⟩ := after_spec hsp.1.1.2.1
      obtain ⟨d, hd⟩ := Option.isSome_iff_exists.1 hsp.1.1.2.2
      obtain ⟨og, hog, hdg⟩ := Option.bind_eq_some_iff.1 hd
      obtain ⟨v, h3, h4⟩ := hI.done e.on og hog (hall e he hb)
      have hv := h3 d hdg
      have hy : yielded ops.toArray a.tmps e.on = asBool v := by
        unfold yielded
        simp only [List.getElem?_toArray, hog, Option.bind_some, hdg, hv]
        cases v <;> rfl
      have := hg v h4
      simp only [Region.wanted, hgd, hy]
      split
      · rename_i hw
        rw [if_pos hw] at this
        exact .inl (give_wp this next)
      · rename_i hw
        rw [if_neg hw] at this
        exact next _ _ ⟨hRf w, this⟩
end

/-- THE LAW: a region in its order, one fact an operation. -/
theorem wp_line {P : Program} {ops : List Oper} {a0 : Act} {Q : Exit → Act → World → Prop} {id : Nat} {w : World} (mk : Tmp → Option Nat) (n : Nat) (R : World → World → Prop) (Vs : List Fact) (hlen : Vs.length = ops.length)
    (hsh : shapeB mk ops n = true) (hn : a0.tmps.size = n)
    (hRf : ∀ w, R w w) (hT : ∀ a b c, R a b → R b c → R a c) (hK : KeepAll R Vs) (hG : GoodAll P mk a0 R (at_ Vs) w 0 ops)
    (hQ : ∀ (vs : Nat → Value) (w' : World) (a' : Act), R w w' → HoldAll w' vs 0 Vs → a' = putAll vs ops 0 a0 → Q .normal a' w') :
    (Code.region id ops.toArray false).wp P Q a0 w := by
  refine wp_region_lit ?_
  refine line_from (P := P) (mk := mk) (R := R) (V := at_ Vs) (w0 := w) (n := n) 0 hsh hn hK.at hT hRf (fun i o _ ho => by have := hG.at i o ho; rwa [Nat.zero_add] at this) ?_ ops 0 a0 w (Nat.le_refl _) (by simp) ?_
  · intro a w' hI
    obtain ⟨vs, rfl, h⟩ := hI.whole hsh hn
    exact hQ vs w' _ hI.rel (HoldAll.mk fun i hi => by rw [Nat.zero_add]; exact h i (by omega)) rfl
  · exact ⟨hRf _, rfl, rfl, fun _ _ => rfl, fun i o hi hl => by
      exfalso
      rw [upto_getD] at hl
      by_cases h : i < ops.length <;> simp [h] at hl⟩
/-- The same from the middle of a region on: what the first k operations left lies in its slots. -/
theorem wpList_line {P : Program} {ops : List Oper} {a0 : Act} {Q : Exit → Act → World → Prop} {w : World} (k : Nat) (mk : Tmp → Option Nat) (n : Nat) (R : World → World → Prop) (Vs : List Fact) (hlen : Vs.length = ops.length)
    (hsh : shapeB mk ops n = true) (hn : a0.tmps.size = n)
    (hRf : ∀ w, R w w) (hT : ∀ a b c, R a b → R b c → R a c) (hK : KeepAll R Vs)
    (hd : ∀ i o, i < k → ops[i]? = some o → ∃ v, (∀ d, o.dst = some d → a0.tmps[d]? = some v) ∧ at_ Vs i w v)
    (hG : ∀ i o, k ≤ i → ops[i]? = some o → Good P mk a0 R (at_ Vs) w i o)
    (hQ : ∀ (vs : Nat → Value) (w' : World) (a' : Act), R w w' → HoldAll w' vs 0 Vs → a' = putAll vs ops 0 a0 → Q .normal a' w') :
    wpList P ops.toArray Q (ops.drop k) a0 w := by
  have hG' : ∀ (l : List Oper) (k' : Nat) (a : Act) (w' : World), k ≤ k' → ops.drop k' = l → Inv ops a0 R (at_ Vs) w (upto ops.length k') a w' → wpList P ops.toArray Q l a w' := by
    intro l k' a w' hk hl hI
    refine line_from (P := P) (mk := mk) (R := R) (V := at_ Vs) (w0 := w) (n := n) k hsh hn hK.at hT hRf hG ?_ l k' a w' hk hl hI
    intro a w' hI
    obtain ⟨vs, rfl, h⟩ := hI.whole hsh hn
    exact hQ vs w' _ hI.rel (HoldAll.mk fun i hi => by rw [Nat.zero_add]; exact h i (by omega)) rfl
  refine hG' _ k a0 w (Nat.le_refl _) rfl ⟨hRf _, rfl, rfl, fun _ _ => rfl, fun i o hi hl => ?_⟩
  rw [upto_getD] at hl
  have hik : i < k := by
    by_cases h : i < ops.length <;> simp [h] at hl
    exact hl
  exact hd i o hik hi

/-! ### One operation under a guard that is not decided -/
section
variable {P : Program} {K : Value → World → Prop} {r : Operand → Value} {w : World} {o : Oper}
theorem guard_by {p q : Prop} {v : Value} {b want : Bool} (h : v = .bool b) (h1 : b = want → p) (h2 : b ≠ want → q) : if asBool v == some want then p else q := by
  subst h
  by_cases e : b = want
  · subst e; simpa [asBool] using h1 rfl
  · rw [if_neg (by simpa [asBool] using e)]; exact h2 e
theorem give_and {c x : Operand} (ho : o.op = .pick c x (.const (.bool false))) {b q : Bool} (hf : r (.const (.bool false)) = .bool false) (hc : r c = .bool b) (hx : b = true → r x = .bool q) (hk : K (.bool (b && q)) w) : give P K ((execOp r o).run P w) := by
  cases b with
  | true => exact give_pick ho hc (by rw [hx rfl]; exact hk)
  | false => exact give_pickF ho hc (by rw [hf]; exact hk)
theorem give_or {c x : Operand} (ho : o.op = .pick c (.const (.bool true)) x) {b q : Bool} (hf : r (.const (.bool true)) = .bool true) (hc : r c = .bool b) (hx : b = false → r x = .bool q) (hk : K (.bool (b || q)) w) : give P K ((execOp r o).run P w) := by
  cases b with
  | true => exact give_pick ho hc (by rw [hf]; exact hk)
  | false => exact give_pickF ho hc (by rw [hx rfl]; exact hk)
end
/-- A fact under a guard. -/
def Under (C : Bool) (v : Value) : Fact := fun _ x => x = if C = true then v else undef
theorem KeepAll.under {R : World → World → Prop} {C : Bool} {c : Value} {l : List Fact} (h : KeepAll R l) : KeepAll R (Under C c :: l) := ⟨fun _ _ _ _ h => h, h⟩
theorem Under.yes {C : Bool} {v : Value} {w : World} (h : C = true) : Under C v w v := (if_pos h).symm
theorem Under.no {C : Bool} {v : Value} {w : World} (h : C = false) : Under C v w undef := (if_neg (by rw [h]; decide)).symm
theorem under_yes {C : Bool} {v : Value} (h : C = true) : v = if C = true then v else undef := (if_pos h).symm
theorem under_no {C : Bool} {v : Value} (h : C = false) : undef = if C = true then v else undef := (if_neg (by rw [h]; decide)).symm
theorem Under.get {C : Bool} {v x : Value} {w : World} (h : Under C v w x) (hc : C = true) : x = v := h.trans (if_pos hc)
theorem guard_u {p q : Prop} {gb : Value} {b want C : Bool} (h : gb = .bool b) (hC : C = (b == want)) (h1 : C = true → p) (h2 : C = false → q) : if asBool gb == some want then p else q := by
  subst h
  cases hb : (b == want) with
  | true => rw [if_pos (by simpa [asBool] using hb)]; exact h1 (hC.trans hb)
  | false => rw [if_neg (by simpa [asBool] using hb)]; exact h2 (hC.trans hb)
theorem guard_n {p q : Prop} {gb : Value} {w : World} {C0 b want C : Bool} (h : Under C0 (.bool b) w gb) (hC : C = (C0 && (b == want))) (h1 : C = true → p) (h2 : C = false → q) : if asBool gb == some want then p else q := by
  cases hc : C0 with
  | true => exact guard_u (h.get hc) (hC.trans (by rw [hc, Bool.true_and])) h1 h2
  | false =>
    have : gb = undef := h.trans (if_neg (by rw [hc]; decide))
    subst this
    rw [if_neg (by simp [asBool, undef])]
    exact h2 (hC.trans (by rw [hc]; rfl))
theorem want_t (b : Bool) : b = (b == true) := by cases b <;> rfl
theorem want_f (b : Bool) : (!b) = (b == false) := by cases b <;> rfl
theorem and_l {a b : Bool} (h : (a && b) = true) : a = true := by cases a <;> simp_all
theorem and_r {a b : Bool} (h : (a && b) = true) : b = true := by cases a <;> simp_all
theorem goodFrom {P : Program} {mk : Tmp → Option Nat} {a0 : Act} {R : World → World → Prop} {V : Nat → Fact} {w0 : World} {ops : List Oper} (k : Nat) (h : GoodAll P mk a0 R V w0 k (ops.drop k)) : ∀ i o, k ≤ i → ops[i]? = some o → Good P mk a0 R V w0 i o := by
  intro i o hk ho
  have := h.at (i - k) o (by rw [List.getElem?_drop, show k + (i - k) = i by omega]; exact ho)
  rwa [show k + (i - k) = i by omega] at this
/-- The walk stands still here. -/
structure Stop (p : Prop) : Prop where
  go : p
theorem stop_at {P : Program} {ops : Array Oper} {Q : Exit → Act → World → Prop} {l : List Oper} {a : Act} {w : World} (n : Nat) (h : l.length = n) (s : Stop (wpList P ops Q l a w)) : wpList P ops Q l a w := s.go
end Go.Proofs.YtfhoielfekeihaaDoor

/- A law on regions that draw their order and whose writers stand in one chain: facts that are kept, and what holds of the world behind each writer. No condition of its own. -/
namespace Go.Proofs.YtfhoielfekeihaaDoor
open Go
set_option linter.unusedVariables false

/-- What is owed for operation number i, from a world of S to one of S'. -/
def GoodH (P : Program) (mk : Tmp → Option Nat) (a0 : Act) (R : World → World → Prop) (V : Nat → World → Value → Prop) (w0 : World) (i : Nat) (o : Oper) (S S' : World → Prop) : Prop :=
  ∀ (r : Operand → Value) (w : World), R w0 w → S w → factsOf mk a0 V r w o.op.operands.toList →
    match o.guard with
    | none => give P (fun v x => R w x ∧ S' x ∧ V i x v) ((execOp r o).run P w)
    | some (g, want) => ∀ b, V g w b → if asBool b == some want then give P (fun v x => R w x ∧ S' x ∧ V i x v) ((execOp r o).run P w) else (S' w ∧ V i w undef)
def HInv (ops : List Oper) (a0 : Act) (R : World → World → Prop) (V : Nat → World → Value → Prop) (w0 : World) (wr : List Nat) (S : Nat → World → Prop) (listed : Array Bool) (a : Act) (w : World) : Prop :=
  Inv ops a0 R V w0 listed a w ∧ ∃ k, k ≤ wr.length ∧ S k w ∧ ∀ j, j < wr.length → listed.getD (wr.getD j 0) false = decide (j < k)
section
variable {P : Program} {mk : Tmp → Option Nat} {ops : List Oper} {a0 : Act} {R : World → World → Prop} {V : Nat → World → Value → Prop} {w0 : World} {Q : Exit → Act → World → Prop} {n : Nat}
theorem phase_any (hsh : shapeB mk ops n = true) (hn : a0.tmps.size = n) (hV : ∀ i w w' v, R w w' → V i w v → V i w' v) (hT : ∀ a b c, R a b → R b c → R a c) (hRf : ∀ w, R w w) (wr : List Nat) (S : Nat → World → Prop)
    (hinj : ∀ i j, i < wr.length → j < wr.length → wr.getD i 0 = wr.getD j 0 → i = j)
    (hch : ∀ j o, j + 1 < wr.length → ops[wr.getD (j + 1) 0]? = some o → afterB o (wr.getD j 0) = true)
    (hG : ∀ i o, ops[i]? = some o → (∀ j, j < wr.length → wr.getD j 0 ≠ i) → ∀ k, k ≤ wr.length → (∀ (j : Nat) oj, j < k → ops[wr.getD j 0]? = some oj → comesB ops oj i = false) → GoodH P mk a0 R V w0 i o (S k) (S k))
    (hWr : ∀ k o, k < wr.length → ops[wr.getD k 0]? = some o → GoodH P mk a0 R V w0 (wr.getD k 0) o (S k) (S (k + 1)))
    (hQ : ∀ a w, (∀ listed, HInv ops a0 R V w0 wr S (Array.replicate ops.length listed) a w → listed = true → Q .normal a w)) :
    ∀ (fuel : Nat) (listed : Array Bool) (a : Act) (w : World), listed.size = ops.length → listed.countP (· == false) ≤ fuel → (∀ (j : Nat) oj, ops[j]? = some oj → listed.getD j false = true → ∀ e ∈ oj.after, Region.binds .any e = true → listed.getD e.on false = true) → HInv ops a0 R V w0 wr S listed a w → wpAny P .any ops.toArray Q fuel listed a w := by
  have ready_nil : ∀ (listed : Array Bool), listed.size = ops.length → Region.ready .any ops.toArray listed = [] → listed = Array.replicate ops.length true := by
    intro listed hs hr
    have key : ∀ i, i < ops.length → listed.getD i false = true := by
      intro i
      induction i using Nat.strongRecOn with
      | _ i ih =>
        intro hi
        cases hb : listed.getD i false with
        | true => rfl
        | false =>
          exfalso
          have ho : ops[i]? = some ops[i] := by simp [hi]
          have : i ∈ Region.ready .any ops.toArray listed := by
            rw [mem_ready]
            refine ⟨by simpa [hs, hi] using hb, ops[i], by simp [hi], fun e he hbi => ?_⟩
            have hsp := shape_spec hsh ho
            simp only [shapeOneB, Bool.and_eq_true] at hsp
            have h5 := Array.all_eq_true_iff_forall_mem.1 hsp.2 e he
            simp [hbi] at h5
            exact ih e.on h5 (by omega)
          rw [hr] at this
          cases this
    apply Array.ext
    · simp [hs]
    · intro i h1 h2
      have := key i (by omega)
      simpa [h1] using this
  have fin : ∀ (listed : Array Bool) (a : Act) (w : World), listed.size = ops.length → HInv ops a0 R V w0 wr S listed a w → Region.ready .any ops.toArray listed = [] → Q .normal a w := by
    intro listed a w hs hI hr
    have := ready_nil listed hs hr
    subst this
    exact hQ a w true hI rfl
  intro fuel
  induction fuel with
  | zero =>
    intro listed a w hs hc hcl hI
    have hr : Region.ready .any ops.toArray listed = [] := by
      cases hr : Region.ready .any ops.toArray listed with
      | nil => rfl
      | cons j js =>
        exfalso
        have hj : j ∈ Region.ready .any ops.toArray listed := by rw [hr]; simp
        have h0 := (mem_ready.1 hj).1
        have hlt : j < listed.size := by
          rcases Nat.lt_or_ge j listed.size with h | h
          · exact h
          · simp [Array.getElem?_eq_none h] at h0
        have h1 : listed.countP (· == false) = 0 := by omega
        rw [Array.countP_eq_zero] at h1
        have h2 : listed[j] = false := by simpa [hlt] using h0
        have := h1 listed[j] (Array.getElem_mem hlt)
        simp [h2] at this
    exact ⟨hr, fin listed a w hs hI hr⟩
  | succ fuel ih =>
    intro listed a w hs hc hcl hI
    refine ⟨fin listed a w hs hI, fun i hi => ?_⟩
    obtain ⟨hl, o, ho', hall⟩ := mem_ready.1 hi
    have ho : ops[i]? = some o := by simpa using ho'
    obtain ⟨hB, k, hk, hS, hst⟩ := hI
    have hfacts := factsOf_mk (hB.facts hsh ho hall)
    -- the world behind it, and what is owed
    obtain ⟨k', hk', hg, hst'⟩ : ∃ k', k' ≤ wr.length ∧ GoodH P mk a0 R V w0 i o (S k) (S k') ∧ ∀ j, j < wr.length → (listed.setIfInBounds i true).getD (wr.getD j 0) false = decide (j < k') := by
      by_cases hw : ∃ j, j < wr.length ∧ wr.getD j 0 = i
      · obtain ⟨j, hj, hji⟩ := hw
        have hnl : listed.getD (wr.getD j 0) false = false := by rw [hji]; exact getD_false hl
        have hjk : ¬ j < k := by
          intro h
          rw [hst j hj, decide_eq_true h] at hnl
          cases hnl
        have hkj : j = k := by
          rcases Nat.lt_or_ge k j with h | h
          · exfalso
            obtain ⟨j', rfl⟩ : ∃ j', j = j' + 1 := ⟨j - 1, by omega⟩
            have ha := hch j' o hj (by rw [hji]; exact ho)
            obtain ⟨e, he, hb, hon⟩ := after_spec ha
            have h2 := hall e he hb
            rw [hon, hst j' (by omega)] at h2
            have : j' < k := of_decide_eq_true h2
            omega
          · omega
        subst hkj
        refine ⟨j + 1, by omega, by rw [← hji]; exact hWr j o hj (by rw [hji]; exact ho), fun j2 hj2 => ?_⟩
        by_cases e : j2 = j
        · subst e
          rw [hji, getD_set_self hl]
          exact (decide_eq_true (by omega)).symm
        · rw [getD_set_ne false (fun h => e (hinj j2 j hj2 hj (by rw [← h, hji]))), hst j2 hj2]
          congr 1
          simp only [eq_iff_iff]; omega
      · have hne : ∀ j, j < wr.length → wr.getD j 0 ≠ i := fun j hj e => hw ⟨j, hj, e⟩
        refine ⟨k, hk, hG i o ho hne k hk (fun j oj hj hoj => ?_), fun j hj => by rw [getD_set_ne false (hne j hj).symm, hst j hj]⟩
        cases hcm : comesB ops oj i with
        | false => rfl
        | true =>
          exfalso
          have hlj : listed.getD (wr.getD j 0) false = true := by rw [hst j (by omega), decide_eq_true hj]
          have hli := getD_false hl
          rcases comes_spec hcm with h1 | ⟨j2, o2, ho2, h1, h2⟩
          · obtain ⟨e, he, hb, rfl⟩ := after_spec h1
            have := hcl _ oj hoj hlj e he hb
            rw [hli] at this; cases this
          · obtain ⟨e, he, hb, rfl⟩ := after_spec h1
            have h3 := hcl _ oj hoj hlj e he hb
            obtain ⟨e2, he2, hb2, rfl⟩ := after_spec h2
            have := hcl _ o2 ho2 h3 e2 he2 hb2
            rw [hli] at this; cases this
    have hg := hg a.eval w hB.rel hS hfacts
    unfold wpOp
    simp only [ho']
    have next : ∀ v w', R w w' ∧ S k' w' ∧ V i w' v → wpAny P .any ops.toArray Q fuel (listed.setIfInBounds i true) (a.put o.dst v) w' := fun v w' ⟨h1, hS', h2⟩ => by
      exact ih _ _ _ (by simp [hs]) (count_set hl hc) (fun j oj hoj hlj e he hb => by
          have keep : ∀ x, listed.getD x false = true → (listed.setIfInBounds i true).getD x false = true := fun x hx => by
            by_cases e' : i = x
            · subst e'; exact absurd (getD_false hl) (by rw [hx]; simp)
            · rw [getD_set_ne false e']; exact hx
          by_cases e' : i = j
          · subst e'
            rw [ho] at hoj; cases hoj
            exact keep _ (hall e he hb)
          · rw [getD_set_ne false e'] at hlj
            exact keep _ (hcl j oj hoj hlj e he hb)) ⟨hB.put hsh hn hV hT ho hl h1 h2, k', hk', hS', hst'⟩
    cases hgd : o.guard with
    | none =>
      simp only [hgd] at hg
      simp only [Region.wanted, hgd, if_true]
      exact .inl (give_wp hg next)
    | some gw =>
      obtain ⟨g, want⟩ := gw
      simp only [hgd] at hg
      have hsp := shape_spec hsh ho
      simp only [shapeOneB, hgd, Bool.and_eq_true] at hsp
      obtain ⟨e, he, hb, rfl⟩ := after_spec hsp.1.1.2.1
      obtain ⟨d, hd⟩ := Option.isSome_iff_exists.1 hsp.1.1.2.2
      obtain ⟨og, hog, hdg⟩ := Option.bind_eq_some_iff.1 hd
      obtain ⟨v, h3, h4⟩ := hB.done e.on og hog (hall e he hb)
      have hv := h3 d hdg
      have hy : yielded ops.toArray a.tmps e.on = asBool v := by
        unfold yielded
        simp only [List.getElem?_toArray, hog, Option.bind_some, hdg, hv]
        cases v <;> rfl
      have := hg v h4
      simp only [Region.wanted, hgd, hy]
      split
      · rename_i hw
        rw [if_pos hw] at this
        exact .inl (give_wp this next)
      · rename_i hw
        rw [if_neg hw] at this
        exact next _ _ ⟨hRf _, this.1, this.2⟩
end
def GoodHAll (P : Program) (mk : Tmp → Option Nat) (a0 : Act) (R : World → World → Prop) (V : Nat → World → Value → Prop) (w0 : World) (wr ub : List Nat) (S : Nat → World → Prop) : Nat → List Oper → Prop
  | _, [] => True
  | i, o :: l => (if wr.contains i then GoodH P mk a0 R V w0 i o (S (wr.idxOf i)) (S (wr.idxOf i + 1)) else ∀ k, k ≤ ub.getD i 0 → GoodH P mk a0 R V w0 i o (S k) (S k)) ∧ GoodHAll P mk a0 R V w0 wr ub S (i + 1) l
theorem GoodHAll.at {P : Program} {mk : Tmp → Option Nat} {a0 : Act} {R : World → World → Prop} {V : Nat → World → Value → Prop} {w0 : World} {wr ub : List Nat} {S : Nat → World → Prop} : ∀ {ops : List Oper} {s : Nat}, GoodHAll P mk a0 R V w0 wr ub S s ops → ∀ i o, ops[i]? = some o → (if wr.contains (s + i) then GoodH P mk a0 R V w0 (s + i) o (S (wr.idxOf (s + i))) (S (wr.idxOf (s + i) + 1)) else ∀ k, k ≤ ub.getD (s + i) 0 → GoodH P mk a0 R V w0 (s + i) o (S k) (S k))
  | [], _, _, i, o, ho => by simp at ho
  | _ :: _, s, h, 0, o, ho => by simp at ho; subst ho; exact h.1
  | _ :: l, s, h, i + 1, o, ho => by
    have := GoodHAll.at (ops := l) h.2 i o (by simpa using ho)
    rwa [show s + 1 + i = s + (i + 1) by omega] at this
theorem GoodHAll.nil {P : Program} {mk : Tmp → Option Nat} {a0 : Act} {R : World → World → Prop} {V : Nat → World → Value → Prop} {w0 : World} {wr ub : List Nat} {S : Nat → World → Prop} {i : Nat} : GoodHAll P mk a0 R V w0 wr ub S i [] := trivial
theorem GoodHAll.reads {P : Program} {mk : Tmp → Option Nat} {a0 : Act} {R : World → World → Prop} {V : Nat → World → Value → Prop} {w0 : World} {wr ub : List Nat} {S : Nat → World → Prop} {i : Nat} {o : Oper} {l : List Oper} (u : Nat) (hc : wr.contains i = false) (hu : ub.getD i 0 = u) (h : ∀ k, k ≤ u → GoodH P mk a0 R V w0 i o (S k) (S k)) (hl : GoodHAll P mk a0 R V w0 wr ub S (i + 1) l) : GoodHAll P mk a0 R V w0 wr ub S i (o :: l) :=
  ⟨by rw [if_neg (by rw [hc]; simp), hu]; exact h, hl⟩
theorem GoodHAll.writes {P : Program} {mk : Tmp → Option Nat} {a0 : Act} {R : World → World → Prop} {V : Nat → World → Value → Prop} {w0 : World} {wr ub : List Nat} {S : Nat → World → Prop} {i : Nat} {o : Oper} {l : List Oper} (k : Nat) (hc : wr.contains i = true) (hk : wr.idxOf i = k) (h : GoodH P mk a0 R V w0 i o (S k) (S (k + 1))) (hl : GoodHAll P mk a0 R V w0 wr ub S (i + 1) l) : GoodHAll P mk a0 R V w0 wr ub S i (o :: l) :=
  ⟨by rw [if_pos hc, hk]; exact h, hl⟩

/-- THE LAW. -/
theorem wp_region_phased {P : Program} {ops : List Oper} {a0 : Act} {Q : Exit → Act → World → Prop} {id : Nat} {w : World} (mk : Tmp → Option Nat) (n : Nat) (wr ub : List Nat) (R : World → World → Prop) (S : Nat → World → Prop) (Vs : List Fact)
    (hlen : Vs.length = ops.length) (hm : P.follows .mixedOrders = true) (hsh : shapeB mk ops n = true) (hn : a0.tmps.size = n) (hch : chainB ops wr = true) (ho : onceB wr = true) (hub : boundB ops wr ub = true)
    (hRf : ∀ w, R w w) (hT : ∀ a b c, R a b → R b c → R a c) (hS0 : S 0 w.drew) (hK : KeepAll R Vs)
    (hG : GoodHAll P mk a0 R (at_ Vs) w.drew wr ub S 0 ops)
    (hQ : ∀ (vs : Nat → Value) (w' : World) (a' : Act), R w.drew w' → S wr.length w' → HoldAll w' vs 0 Vs → a' = putAll vs ops 0 a0 → Q .normal a' w') :
    (Code.region id ops.toArray true).wp P Q a0 w := by
  refine wp_region_any hm ?_
  have hidx : ∀ i, i < wr.length → wr.idxOf (wr.getD i 0) = i := fun i hi => by
    have := List.all_eq_true.1 ho i (List.mem_range.2 hi)
    simpa using this
  have hmem : ∀ i, i < wr.length → wr.contains (wr.getD i 0) = true := fun i hi => by
    rw [List.contains_iff_mem]; simp [List.getD_eq_getElem?_getD, hi]
  have h := phase_any (P := P) (ops := ops) (a0 := a0) (R := R) (V := at_ Vs) (w0 := w.drew) (Q := Q) (n := n) hsh hn hK.at hT hRf wr S
    (fun i j hi hj e => by rw [← hidx i hi, e, hidx j hj])
    (fun j o hj hoj => by
      have := List.all_eq_true.1 hch (j + 1) (List.mem_range.2 hj)
      rw [hoj] at this
      simpa using this)
    (fun i o hio hne k hk hcm => by
      have := hG.at i o hio
      rw [Nat.zero_add, if_neg (by
        rw [List.contains_iff_mem]
        intro hm'
        obtain ⟨j, hj, e⟩ := List.getElem_of_mem hm'
        exact hne j hj (by simp [List.getD_eq_getElem?_getD, hj, e]))] at this
      refine this k ?_
      have hil : i < ops.length := by
        rcases Nat.lt_or_ge i ops.length with h' | h'
        · exact h'
        · simp [List.getElem?_eq_none h'] at hio
      have hb := List.all_eq_true.1 hub i (List.mem_range.2 hil)
      rcases Bool.or_eq_true _ _ ▸ hb with hb | hb
      · have := of_decide_eq_true hb; omega
      · cases hoj : ops[wr.getD (ub.getD i 0) 0]? with
        | none => rw [hoj] at hb; cases hb
        | some oj =>
          rw [hoj] at hb
          rcases Nat.lt_or_ge (ub.getD i 0) k with h | h
          · have := hcm _ oj h hoj
            have hb2 : comesB ops oj i = true := hb
            rw [this] at hb2; cases hb2
          · exact h)
    (fun k o hk hko => by
      have := hG.at _ o hko
      rw [Nat.zero_add, if_pos (hmem k hk), hidx k hk] at this
      exact this)
    (fun a w' l hI hl => by
      subst hl
      obtain ⟨hB, k, hk, hS, hst⟩ := hI
      obtain ⟨vs, rfl, hv⟩ := hB.whole hsh hn
      have hkl : k = wr.length := by
        rcases Nat.lt_or_ge k wr.length with h | h
        · exfalso
          have := hst k h
          rw [decide_eq_false (by omega)] at this
          have hlt : wr.getD k 0 < ops.length := by
            have h2 := List.all_eq_true.1 hch k (List.mem_range.2 h)
            rcases Nat.lt_or_ge (wr.getD k 0) ops.length with h' | h'
            · exact h'
            · rw [List.getElem?_eq_none h'] at h2; cases h2
          generalize wr.getD k 0 = q at *
          simp [hlt] at this
        · omega
      subst hkl
      exact hQ vs _ _ hB.rel hS (HoldAll.mk fun i hi => by rw [Nat.zero_add]; exact hv i (by omega)) rfl)
    ops.length (Array.replicate ops.length false) a0 w.drew (by simp) (by
      have := Array.countP_le_size (p := (· == false)) (xs := Array.replicate ops.length false)
      simpa using this) (fun j oj hoj hlj => by
        exfalso
        by_cases h : j < ops.length <;> simp [h] at hlj) ⟨⟨hRf _, rfl, rfl, fun _ _ => rfl, fun i o hi hl => by
        exfalso
        by_cases h : i < ops.length <;> simp [h] at hl⟩, 0, Nat.zero_le _, hS0, fun j hj => by
          rw [decide_eq_false (by omega)]
          generalize wr.getD j 0 = q
          by_cases h : q < ops.length <;> simp [h]⟩
  simpa using h
end Go.Proofs.YtfhoielfekeihaaDoor
