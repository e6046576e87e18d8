/- Texts of the seat, one behind the other. No condition of its own. -/
import Derived.Test.YtobkgaceallegaaChkC4
import Derived.Laws.StructEq
/- Lists of pairs that are equal. No condition of its own. -/
namespace Go.Proofs.Ytobkgaceallegaa
namespace Tlv
open Go Go.RowKit
set_option linter.unusedVariables false
set_option linter.unusedSimpArgs false
set_option maxRecDepth 100000


/-- A type of two whole numbers that may be compared. -/
structure PairEq (t : TypeId) : Prop where
  u : Try.prog.underlying t = some (.struct (Try.prog.fieldsOf t))
  gd : Try.prog.eqGuardType Try.prog.depth t = false
  hd : Try.prog.stoodInHeld t = false
  fo : (Try.prog.fieldsOf t).toList.map (fun f => f.offset) = [0, 1]
  fa : (Try.prog.fieldsOf t).toList.map (fun f => decide (f.name = "_")) = [false, false]
  fy : (Try.prog.fieldsOf t).toList.map (fun f => f.type == 3 || f.type == 65) = [true, true]
theorem two_of {α : Type} : ∀ {L : List α}, L.length = 2 → ∃ f g, L = [f, g]
  | [f, g], _ => ⟨f, g, rfl⟩
  | [], h => by cases h
  | [_], h => by cases h
  | _ :: _ :: _ :: _, h => by simp at h
theorem equal_pair {t : TypeId} (hT : PairEq t) (w : World) (a b c d : Int) :
    (Op.equal t (.agg #[.int .i64 a, .int .i64 b]) (.agg #[.int .i64 c, .int .i64 d])).run Try.prog w = .ok (a == c && b == d) w := by
  show (Op.equalIn (9999 + 1) t _ _).run Try.prog w = _
  rw [run_equalIn_struct w 9999 t _ _ hT.u hT.hd]
  have h1 := hT.fo
  have h2 := hT.fa
  have h3 := hT.fy
  clear hT
  generalize (Try.prog.fieldsOf t).toList = L at *
  have hl : L.length = 2 := by simpa using congrArg List.length h1
  obtain ⟨f, g, rfl⟩ := two_of hl
  clear hl
  simp only [List.map_cons, List.map_nil, List.cons.injEq, and_true] at h1 h2 h3
  obtain ⟨f1, g1⟩ := h1
  have f2 : f.name ≠ "_" := of_decide_eq_false h2.1
  have g2 : g.name ≠ "_" := of_decide_eq_false h2.2
  have f3 := h3.1
  have g3 := h3.2
  rw [Bool.or_eq_true, beq_iff_eq, beq_iff_eq] at f3 g3
  have u3 := Try.underlying3
  have u65 := Try.underlying65
  have s3 : (Try.prog.info? 3).map (·.size) = some 1 := by kernel_rfl
  have s65 : (Try.prog.info? 65).map (·.size) = some 1 := by kernel_rfl
  have hf : Try.prog.underlying f.type = some (.int .i64) := by rcases f3 with h | h <;> rw [h] <;> assumption
  have hg : Try.prog.underlying g.type = some (.int .i64) := by rcases g3 with h | h <;> rw [h] <;> assumption
  have sf : (Try.prog.info? f.type).map (·.size) = some 1 := by rcases f3 with h | h <;> rw [h] <;> assumption
  have sg : (Try.prog.info? g.type).map (·.size) = some 1 := by rcases g3 with h | h <;> rw [h] <;> assumption
  cases hqf : Try.prog.info? f.type with
  | none => simp [hqf] at sf
  | some i =>
    cases hqg : Try.prog.info? g.type with
    | none => simp [hqg] at sg
    | some j =>
      have hi : i.size = 1 := by simpa [hqf] using sf
      have hj : j.size = 1 := by simpa [hqg] using sg
      have hqf' : (isAgg f.type).run Try.prog w = .ok false w := by unfold isAgg; rw [Sem.run_bind, run_underlying hf w]; rfl
      have hqg' : (isAgg g.type).run Try.prog w = .ok false w := by unfold isAgg; rw [Sem.run_bind, run_underlying hg w]; rfl
      simp [Op.eqFields, f1, f2, g1, g2, part, sizeOf, typeInfo, hqf, hqg, hi, hj, hqf', hqg', go_sem, run_equalIn_int w 9998 f.type .i64 .i64 a c hf, run_equalIn_int w 9998 g.type .i64 .i64 b d hg]
      by_cases e1 : a = c
      · by_cases e2 : b = d
        · simp [e1, e2]
        · simp [e1, e2, beq_false_of_ne e2]
      · simp [e1, beq_false_of_ne e1]
theorem exec_neqP {t : TypeId} (hT : PairEq t) {r : Operand → Value} {o : Oper} {x y : Operand} {ty : TypeId} {w : World} (ho : o.op = .binOp .neq t x y ty) {a b c d : Int} (hx : r x = .agg #[.int .i64 a, .int .i64 b]) (hy : r y = .agg #[.int .i64 c, .int .i64 d]) :
    (execOp r o).run Try.prog w = .ok (.value (.bool (!(a == c && b == d)))) w := by
  simp [execOp, ho, hx, hy, binOp, eqGuard, hT.gd, go_sem, equal_pair hT]
theorem pqG : PairEq 67 := ⟨by kernel_rfl, by kernel_rfl, by kernel_rfl, by kernel_rfl, by kernel_rfl, by kernel_rfl⟩
theorem pqO : PairEq 69 := ⟨by kernel_rfl, by kernel_rfl, by kernel_rfl, by kernel_rfl, by kernel_rfl, by kernel_rfl⟩
theorem pqG2 : PairEq 70 := ⟨by kernel_rfl, by kernel_rfl, by kernel_rfl, by kernel_rfl, by kernel_rfl, by kernel_rfl⟩
theorem pqO2 : PairEq 71 := ⟨by kernel_rfl, by kernel_rfl, by kernel_rfl, by kernel_rfl, by kernel_rfl, by kernel_rfl⟩

theorem two_cells {w : World} {b off : Nat} {u v : Value} (h0 : w.cell? ⟨b, off, none⟩ = some u) (h1 : w.cell? ⟨b, off + 1, none⟩ = some v) : ∀ (j : Nat) x, ([u, v] : List Value)[j]? = some x → w.cell? ⟨b, off + j, none⟩ = some x := by
  intro j x hx
  match j with
  | 0 => simp at hx; subst hx; exact h0
  | 1 => simp at hx; subst hx; exact h1
  | j + 2 => simp at hx

set_option maxHeartbeats 2000000 in
theorem eqG_any {w : World} {a : Option Addr} {n cp : Nat} {a' : Option Addr} {n' cp' : Nat} {l m : List (Int × Int)} (h : PairsAt w (.slice a n cp) l) (h' : PairsAt w (.slice a' n' cp') m) :
    Calls Try.prog 58 #[.slice a n cp, .slice a' n' cp'] w fun e w' => e = .returned (.bool (decide (l = m))) ∧ Ext w w' := by
  have H : Hid (PairsAt w (.slice a n cp) l ∧ PairsAt w (.slice a' n' cp') m ∧ n = l.length ∧ n' = m.length) := ⟨h, h', h.len.1, h'.len.1⟩
  have hmx := h.len.2.1
  have hmx' := h'.len.2.1
  unfold maxLen at hmx hmx'
  clear h h'
  by_cases hn : n = n'
  case neg =>
    have hd : ((n : Int) != (n' : Int)) = true := by simp; omega
    have HF : Hid (decide (l = m) = false) := decide_eq_false (fun e => hn (by rw [H.out.2.2.1, H.out.2.2.2, e]))
    go_enter Try.func58, Try.ntmps58
    go_wp2
    go_ret
    exact ⟨by rw [HF.out]; rfl, Ext.refl _⟩
  subst hn
  go_enter Try.func58, Try.ntmps58
  go_wp2
  go_loopg [13] n (fun gm t wr => ∃ k : Nat, k ≤ n ∧ gm = n - k ∧ t = .int .i64 (k : Int) ∧ Hid (Ext w wr ∧ ∀ j, j < k → l.getD j (0, 0) = m.getD j (0, 0)))
  case atStart => exact ⟨0, Nat.zero_le _, rfl, rfl, Ext.refl _, fun j hj => by omega⟩
  case round =>
    obtain ⟨k, hk, rfl, rfl, HR⟩ := hrel
    by_cases hlt : k < n
    · have hd : decide ((k : Int) < (n : Int)) = true := decide_eq_true (by omega)
      obtain ⟨b, off, rfl, hc0, hc1⟩ := H.out.1.cellAt k (by rw [← H.out.2.2.1]; exact hlt)
      obtain ⟨b', off', rfl, hc0', hc1'⟩ := H.out.2.1.cellAt k (by rw [← H.out.2.2.2]; exact hlt)
      replace hc0 := HR.out.1.cell hc0
      replace hc0' := HR.out.1.cell hc0'
      replace hc1 := HR.out.1.cell hc1
      replace hc1' := HR.out.1.cell hc1'
      obtain ⟨p, hp⟩ : ∃ p, p = l.getD k (0, 0) := ⟨_, rfl⟩
      obtain ⟨q, hq⟩ : ∃ q, q = m.getD k (0, 0) := ⟨_, rfl⟩
      rw [← hp] at hc0 hc1
      rw [← hq] at hc0' hc1'
      obtain ⟨x, x2⟩ := p
      obtain ⟨y, y2⟩ := q
      have HX : Hid ((x, x2) = l.getD k (0, 0) ∧ (y, y2) = m.getD k (0, 0)) := ⟨hp, hq⟩
      clear hp hq
      dsimp only at hc0 hc1 hc0' hc1'
      have hkn : (k : Int) < (n : Int) := by omega
      replace hc0 := (Ext.drew wr).cell hc0
      replace hc1 := (Ext.drew wr).cell hc1
      replace hc0' := (Ext.drew wr).cell hc0'
      replace hc1' := (Ext.drew wr).cell hc1'
      have HB : Hid ((!(x == y && x2 == y2)) = !(decide ((x, x2) = (y, y2)))) := show _ = _ by
        congr 1
        rw [Bool.eq_iff_iff]; simp
      go_wp2_with fail
      refine wp_region_facts (fun t => bif Nat.ble 16 t && Nat.ble t 24 then some (t - 16) else none) 26 Ext
        [Is (.slice (some ⟨b, off, none⟩) n cp),
         Is (.int .i64 (k : Int)),
         Is (.pointer (some ⟨b, off + k * 2, none⟩)),
         Is (.agg #[.int .i64 x, .int .i64 x2]),
         Is (.slice (some ⟨b', off', none⟩) n cp'),
         Is (.int .i64 (k : Int)),
         Is (.pointer (some ⟨b', off' + k * 2, none⟩)),
         Is (.agg #[.int .i64 y, .int .i64 y2]),
         Is (.bool (!(x == y && x2 == y2)))]
        rfl (by kernel_rfl) (by kernel_rfl) rfl Ext.refl (fun _ _ _ => Ext.trans) (KeepAll.is (KeepAll.is (KeepAll.is (KeepAll.is (KeepAll.is (KeepAll.is (KeepAll.is (KeepAll.is (KeepAll.is (KeepAll.nil)))))))))) ?_ ?_
      · refine GoodAll.cons ?_ ?_
        · intro r wx hR hx
          obtain ⟨h1, _⟩ := hx
          replace h1 : r (.tmp 0) = .slice (some ⟨b, off, none⟩) n cp := h1
          exact give_move (.inl rfl) ⟨Ext.refl _, h1⟩
        refine GoodAll.cons ?_ ?_
        · intro r wx hR hx
          obtain ⟨h1, _⟩ := hx
          replace h1 : r (.tmp 5) = .int .i64 (k : Int) := h1
          exact give_move (.inl rfl) ⟨Ext.refl _, h1⟩
        refine GoodAll.cons ?_ ?_
        · intro r wx hR hx
          obtain ⟨h1, h2, _⟩ := hx
          replace h1 : r (.tmp 16) = .slice (some ⟨b, off, none⟩) n cp := h1
          replace h2 : r (.tmp 17) = .int .i64 (k : Int) := h2
          exact give_of (by simp [execOp, h1, h2, go_sem, hkn]) ⟨Ext.refl _, rfl⟩
        refine GoodAll.cons ?_ ?_
        · intro r wx hR hx
          obtain ⟨h1, _⟩ := hx
          replace h1 : r (.tmp 18) = .pointer (some ⟨b, off + k * 2, none⟩) := h1
          exact give_of (exec_loadC rowGp rfl h1 [.int .i64 x, .int .i64 x2] (two_cells (hR.cell hc0) (hR.cell hc1)) rfl) ⟨Ext.refl _, rfl⟩
        refine GoodAll.cons ?_ ?_
        · intro r wx hR hx
          obtain ⟨h1, _⟩ := hx
          replace h1 : r (.tmp 1) = .slice (some ⟨b', off', none⟩) n cp' := h1
          exact give_move (.inl rfl) ⟨Ext.refl _, h1⟩
        refine GoodAll.cons ?_ ?_
        · intro r wx hR hx
          obtain ⟨h1, _⟩ := hx
          replace h1 : r (.tmp 5) = .int .i64 (k : Int) := h1
          exact give_move (.inl rfl) ⟨Ext.refl _, h1⟩
        refine GoodAll.cons ?_ ?_
        · intro r wx hR hx
          obtain ⟨h1, h2, _⟩ := hx
          replace h1 : r (.tmp 20) = .slice (some ⟨b', off', none⟩) n cp' := h1
          replace h2 : r (.tmp 21) = .int .i64 (k : Int) := h2
          exact give_of (by simp [execOp, h1, h2, go_sem, hkn]) ⟨Ext.refl _, rfl⟩
        refine GoodAll.cons ?_ ?_
        · intro r wx hR hx
          obtain ⟨h1, _⟩ := hx
          replace h1 : r (.tmp 22) = .pointer (some ⟨b', off' + k * 2, none⟩) := h1
          exact give_of (exec_loadC rowGp rfl h1 [.int .i64 y, .int .i64 y2] (two_cells (hR.cell hc0') (hR.cell hc1')) rfl) ⟨Ext.refl _, rfl⟩
        refine GoodAll.cons ?_ ?_
        · intro r wx hR hx
          obtain ⟨h1, h2, _⟩ := hx
          replace h1 : r (.tmp 19) = .agg #[.int .i64 x, .int .i64 x2] := h1
          replace h2 : r (.tmp 23) = .agg #[.int .i64 y, .int .i64 y2] := h2
          exact give_of (exec_neqP pqG rfl h1 h2) ⟨Ext.refl _, rfl⟩
        exact GoodAll.nil
      · intro vs w7 a7 hR hold ha7
        have hv0 : vs 0 = (.slice (some ⟨b, off, none⟩) n cp) := hold.at 0
        have hv1 : vs 1 = (.int .i64 (k : Int)) := hold.at 1
        have hv2 : vs 2 = (.pointer (some ⟨b, off + k * 2, none⟩)) := hold.at 2
        have hv3 : vs 3 = (.agg #[.int .i64 x, .int .i64 x2]) := hold.at 3
        have hv4 : vs 4 = (.slice (some ⟨b', off', none⟩) n cp') := hold.at 4
        have hv5 : vs 5 = (.int .i64 (k : Int)) := hold.at 5
        have hv6 : vs 6 = (.pointer (some ⟨b', off' + k * 2, none⟩)) := hold.at 6
        have hv7 : vs 7 = (.agg #[.int .i64 y, .int .i64 y2]) := hold.at 7
        have hv8 : vs 8 = (.bool (!(x == y && x2 == y2))) := hold.at 8
        simp only [putAll, Act.put, hv0, hv1, hv2, hv3, hv4, hv5, hv6, hv7, hv8, List.setIfInBounds_toArray, List.set_cons_succ, List.set_cons_zero] at ha7
        subst ha7
        clear hold hv0 hv1 hv2 hv3 hv4 hv5 hv6 hv7 hv8
        rw [HB.out]
        by_cases hxy : (x, x2) = (y, y2)
        · have HX2 : Hid (l.getD k (0, 0) = m.getD k (0, 0)) := HX.out.1.symm.trans (hxy.trans HX.out.2)
          rw [decide_eq_true hxy]
          clear HX HB hxy hc0 hc1 hc0' hc1'
          go_wp2
          go_roundg (n - (k + 1))
          case measure => omega
          case rel =>
            refine ⟨k + 1, by omega, rfl, by simp, HR.out.1.trans ((Ext.drew _).trans hR), fun j hj => ?_⟩
            by_cases hjk : j = k
            · subst hjk; exact HX2.out
            · exact HR.out.2 j (by omega)
        · have HF : Hid (decide (l = m) = false) := decide_eq_false (fun e => hxy (by rw [HX.out.1, HX.out.2, e]))
          rw [decide_eq_false hxy]
          clear HX HB hxy hc0 hc1 hc0' hc1'
          go_wp2
          go_ret
          exact ⟨by rw [HF.out]; rfl, HR.out.1.trans ((Ext.drew _).trans hR)⟩
    · have hd : decide ((k : Int) < (n : Int)) = false := decide_eq_false (by omega)
      have HF : Hid (decide (l = m) = true) := decide_eq_true (list_same (0, 0) (by rw [← H.out.2.2.1, ← H.out.2.2.2]) (fun j hj => HR.out.2 j (by have := H.out.2.2.1; omega)))
      go_wp2
      go_ret
      exact ⟨by rw [HF.out]; rfl, HR.out.1⟩

set_option maxHeartbeats 2000000 in
theorem eqO_any {w : World} {a : Option Addr} {n cp : Nat} {a' : Option Addr} {n' cp' : Nat} {l m : List (Int × Int)} (h : PairsAt w (.slice a n cp) l) (h' : PairsAt w (.slice a' n' cp') m) :
    Calls Try.prog 60 #[.slice a n cp, .slice a' n' cp'] w fun e w' => e = .returned (.bool (decide (l = m))) ∧ Ext w w' := by
  have H : Hid (PairsAt w (.slice a n cp) l ∧ PairsAt w (.slice a' n' cp') m ∧ n = l.length ∧ n' = m.length) := ⟨h, h', h.len.1, h'.len.1⟩
  have hmx := h.len.2.1
  have hmx' := h'.len.2.1
  unfold maxLen at hmx hmx'
  clear h h'
  by_cases hn : n = n'
  case neg =>
    have hd : ((n : Int) != (n' : Int)) = true := by simp; omega
    have HF : Hid (decide (l = m) = false) := decide_eq_false (fun e => hn (by rw [H.out.2.2.1, H.out.2.2.2, e]))
    go_enter Try.func60, Try.ntmps60
    go_wp2
    go_ret
    exact ⟨by rw [HF.out]; rfl, Ext.refl _⟩
  subst hn
  go_enter Try.func60, Try.ntmps60
  go_wp2
  go_loopg [13] n (fun gm t wr => ∃ k : Nat, k ≤ n ∧ gm = n - k ∧ t = .int .i64 (k : Int) ∧ Hid (Ext w wr ∧ ∀ j, j < k → l.getD j (0, 0) = m.getD j (0, 0)))
  case atStart => exact ⟨0, Nat.zero_le _, rfl, rfl, Ext.refl _, fun j hj => by omega⟩
  case round =>
    obtain ⟨k, hk, rfl, rfl, HR⟩ := hrel
    by_cases hlt : k < n
    · have hd : decide ((k : Int) < (n : Int)) = true := decide_eq_true (by omega)
      obtain ⟨b, off, rfl, hc0, hc1⟩ := H.out.1.cellAt k (by rw [← H.out.2.2.1]; exact hlt)
      obtain ⟨b', off', rfl, hc0', hc1'⟩ := H.out.2.1.cellAt k (by rw [← H.out.2.2.2]; exact hlt)
      replace hc0 := HR.out.1.cell hc0
      replace hc0' := HR.out.1.cell hc0'
      replace hc1 := HR.out.1.cell hc1
      replace hc1' := HR.out.1.cell hc1'
      obtain ⟨p, hp⟩ : ∃ p, p = l.getD k (0, 0) := ⟨_, rfl⟩
      obtain ⟨q, hq⟩ : ∃ q, q = m.getD k (0, 0) := ⟨_, rfl⟩
      rw [← hp] at hc0 hc1
      rw [← hq] at hc0' hc1'
      obtain ⟨x, x2⟩ := p
      obtain ⟨y, y2⟩ := q
      have HX : Hid ((x, x2) = l.getD k (0, 0) ∧ (y, y2) = m.getD k (0, 0)) := ⟨hp, hq⟩
      clear hp hq
      dsimp only at hc0 hc1 hc0' hc1'
      have hkn : (k : Int) < (n : Int) := by omega
      replace hc0 := (Ext.drew wr).cell hc0
      replace hc1 := (Ext.drew wr).cell hc1
      replace hc0' := (Ext.drew wr).cell hc0'
      replace hc1' := (Ext.drew wr).cell hc1'
      have HB : Hid ((!(x == y && x2 == y2)) = !(decide ((x, x2) = (y, y2)))) := show _ = _ by
        congr 1
        rw [Bool.eq_iff_iff]; simp
      go_wp2_with fail
      refine wp_region_facts (fun t => bif Nat.ble 16 t && Nat.ble t 24 then some (t - 16) else none) 26 Ext
        [Is (.slice (some ⟨b, off, none⟩) n cp),
         Is (.int .i64 (k : Int)),
         Is (.pointer (some ⟨b, off + k * 2, none⟩)),
         Is (.agg #[.int .i64 x, .int .i64 x2]),
         Is (.slice (some ⟨b', off', none⟩) n cp'),
         Is (.int .i64 (k : Int)),
         Is (.pointer (some ⟨b', off' + k * 2, none⟩)),
         Is (.agg #[.int .i64 y, .int .i64 y2]),
         Is (.bool (!(x == y && x2 == y2)))]
        rfl (by kernel_rfl) (by kernel_rfl) rfl Ext.refl (fun _ _ _ => Ext.trans) (KeepAll.is (KeepAll.is (KeepAll.is (KeepAll.is (KeepAll.is (KeepAll.is (KeepAll.is (KeepAll.is (KeepAll.is (KeepAll.nil)))))))))) ?_ ?_
      · refine GoodAll.cons ?_ ?_
        · intro r wx hR hx
          obtain ⟨h1, _⟩ := hx
          replace h1 : r (.tmp 0) = .slice (some ⟨b, off, none⟩) n cp := h1
          exact give_move (.inl rfl) ⟨Ext.refl _, h1⟩
        refine GoodAll.cons ?_ ?_
        · intro r wx hR hx
          obtain ⟨h1, _⟩ := hx
          replace h1 : r (.tmp 5) = .int .i64 (k : Int) := h1
          exact give_move (.inl rfl) ⟨Ext.refl _, h1⟩
        refine GoodAll.cons ?_ ?_
        · intro r wx hR hx
          obtain ⟨h1, h2, _⟩ := hx
          replace h1 : r (.tmp 16) = .slice (some ⟨b, off, none⟩) n cp := h1
          replace h2 : r (.tmp 17) = .int .i64 (k : Int) := h2
          exact give_of (by simp [execOp, h1, h2, go_sem, hkn]) ⟨Ext.refl _, rfl⟩
        refine GoodAll.cons ?_ ?_
        · intro r wx hR hx
          obtain ⟨h1, _⟩ := hx
          replace h1 : r (.tmp 18) = .pointer (some ⟨b, off + k * 2, none⟩) := h1
          exact give_of (exec_loadC rowOp rfl h1 [.int .i64 x, .int .i64 x2] (two_cells (hR.cell hc0) (hR.cell hc1)) rfl) ⟨Ext.refl _, rfl⟩
        refine GoodAll.cons ?_ ?_
        · intro r wx hR hx
          obtain ⟨h1, _⟩ := hx
          replace h1 : r (.tmp 1) = .slice (some ⟨b', off', none⟩) n cp' := h1
          exact give_move (.inl rfl) ⟨Ext.refl _, h1⟩
        refine GoodAll.cons ?_ ?_
        · intro r wx hR hx
          obtain ⟨h1, _⟩ := hx
          replace h1 : r (.tmp 5) = .int .i64 (k : Int) := h1
          exact give_move (.inl rfl) ⟨Ext.refl _, h1⟩
        refine GoodAll.cons ?_ ?_
        · intro r wx hR hx
          obtain ⟨h1, h2, _⟩ := hx
          replace h1 : r (.tmp 20) = .slice (some ⟨b', off', none⟩) n cp' := h1
          replace h2 : r (.tmp 21) = .int .i64 (k : Int) := h2
          exact give_of (by simp [execOp, h1, h2, go_sem, hkn]) ⟨Ext.refl _, rfl⟩
        refine GoodAll.cons ?_ ?_
        · intro r wx hR hx
          obtain ⟨h1, _⟩ := hx
          replace h1 : r (.tmp 22) = .pointer (some ⟨b', off' + k * 2, none⟩) := h1
          exact give_of (exec_loadC rowOp rfl h1 [.int .i64 y, .int .i64 y2] (two_cells (hR.cell hc0') (hR.cell hc1')) rfl) ⟨Ext.refl _, rfl⟩
        refine GoodAll.cons ?_ ?_
        · intro r wx hR hx
          obtain ⟨h1, h2, _⟩ := hx
          replace h1 : r (.tmp 19) = .agg #[.int .i64 x, .int .i64 x2] := h1
          replace h2 : r (.tmp 23) = .agg #[.int .i64 y, .int .i64 y2] := h2
          exact give_of (exec_neqP pqO rfl h1 h2) ⟨Ext.refl _, rfl⟩
        exact GoodAll.nil
      · intro vs w7 a7 hR hold ha7
        have hv0 : vs 0 = (.slice (some ⟨b, off, none⟩) n cp) := hold.at 0
        have hv1 : vs 1 = (.int .i64 (k : Int)) := hold.at 1
        have hv2 : vs 2 = (.pointer (some ⟨b, off + k * 2, none⟩)) := hold.at 2
        have hv3 : vs 3 = (.agg #[.int .i64 x, .int .i64 x2]) := hold.at 3
        have hv4 : vs 4 = (.slice (some ⟨b', off', none⟩) n cp') := hold.at 4
        have hv5 : vs 5 = (.int .i64 (k : Int)) := hold.at 5
        have hv6 : vs 6 = (.pointer (some ⟨b', off' + k * 2, none⟩)) := hold.at 6
        have hv7 : vs 7 = (.agg #[.int .i64 y, .int .i64 y2]) := hold.at 7
        have hv8 : vs 8 = (.bool (!(x == y && x2 == y2))) := hold.at 8
        simp only [putAll, Act.put, hv0, hv1, hv2, hv3, hv4, hv5, hv6, hv7, hv8, List.setIfInBounds_toArray, List.set_cons_succ, List.set_cons_zero] at ha7
        subst ha7
        clear hold hv0 hv1 hv2 hv3 hv4 hv5 hv6 hv7 hv8
        rw [HB.out]
        by_cases hxy : (x, x2) = (y, y2)
        · have HX2 : Hid (l.getD k (0, 0) = m.getD k (0, 0)) := HX.out.1.symm.trans (hxy.trans HX.out.2)
          rw [decide_eq_true hxy]
          clear HX HB hxy hc0 hc1 hc0' hc1'
          go_wp2
          go_roundg (n - (k + 1))
          case measure => omega
          case rel =>
            refine ⟨k + 1, by omega, rfl, by simp, HR.out.1.trans ((Ext.drew _).trans hR), fun j hj => ?_⟩
            by_cases hjk : j = k
            · subst hjk; exact HX2.out
            · exact HR.out.2 j (by omega)
        · have HF : Hid (decide (l = m) = false) := decide_eq_false (fun e => hxy (by rw [HX.out.1, HX.out.2, e]))
          rw [decide_eq_false hxy]
          clear HX HB hxy hc0 hc1 hc0' hc1'
          go_wp2
          go_ret
          exact ⟨by rw [HF.out]; rfl, HR.out.1.trans ((Ext.drew _).trans hR)⟩
    · have hd : decide ((k : Int) < (n : Int)) = false := decide_eq_false (by omega)
      have HF : Hid (decide (l = m) = true) := decide_eq_true (list_same (0, 0) (by rw [← H.out.2.2.1, ← H.out.2.2.2]) (fun j hj => HR.out.2 j (by have := H.out.2.2.1; omega)))
      go_wp2
      go_ret
      exact ⟨by rw [HF.out]; rfl, HR.out.1⟩
end Tlv
end Go.Proofs.Ytobkgaceallegaa
