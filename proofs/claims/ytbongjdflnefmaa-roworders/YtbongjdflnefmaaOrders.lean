/- The law RowOrders walked: it answers true. No condition of its own. -/
import Derived.Test.YtbongjdflnefmaaPair
namespace Go.Proofs.Ytbongjdflnefmaa
open Go.RowKit
set_option linter.unusedVariables false
set_option linter.unusedSimpArgs false
set_option maxRecDepth 100000

theorem kept_a {w : World} {g c i : Nat} {L : List Int} (h : NumsAt .i64 w (.slice (some ⟨g, 0, none⟩) L.length c) L) (hi : i ≤ L.length) (hc : c = i) : NumsAt .i64 w (.slice (some ⟨g, 0, none⟩) (L.length - i) 0) (L.drop i) := by
  have h1 := h.sliced i L.length hi (Nat.le_refl _)
  rw [List.take_length] at h1
  simpa [sliced, hc] using h1
theorem kept_b {w : World} {g c i : Nat} {L : List Int} (h : NumsAt .i64 w (.slice (some ⟨g, 0, none⟩) L.length c) L) (hi : i ≤ L.length) (hc : ¬ c = i) : NumsAt .i64 w (.slice (some ⟨g, i, none⟩) (L.length - i) (c - i)) (L.drop i) := by
  have h1 := h.sliced i L.length hi (Nat.le_refl _)
  rw [List.take_length] at h1
  simpa [sliced, hc, add_plain] using h1

set_option maxHeartbeats 4000000 in
theorem orders_any (f m k0 : Int) (u : Value) (l : List Int) (w : World) (hf : Of 4294967296 f) (hm : W64 m) (hu : NumsAt .i64 w u l) (hl : ∀ x ∈ l, W64 x) (hk0 : W64 k0) :
    Calls Try.prog 4 #[.agg #[.int .u32 f, .int .i64 m], u, .int .i64 k0] w fun e w' => e = .returned (.bool true) ∧ Ext w w' := by
  have HV : Hid (NumsAt .i64 w u l) := hu
  have HL : Hid (∀ x ∈ l, W64 x) := hl
  obtain ⟨a, cap, rfl, hcap, hcell⟩ := hu.form
  have hmx : cap ≤ 9223372036854775807 := by have := hcap.2; unfold maxLen at this; omega
  clear hu hcell hl
  by_cases hmo : m < 1 ∨ 1024 < m
  · go_enter Try.func4, Try.ntmps4
    go_wp2_with (first
     | (go_at_call 8
        refine (alive_any _).mono ?_
        rintro e w1 ⟨rfl, he1⟩
        have c0 : w1.cell? ⟨w.heap.size, 0, none⟩ = some (.int .u32 f) := he1.cell (cellNew w _ 24 (0, 0) w.heap.size 0 rfl)
        have c1 : w1.cell? ⟨w.heap.size, 1, none⟩ = some (.int .i64 m) := he1.cell (cellNew w _ 24 (0, 0) w.heap.size 1 rfl)
        have hE1 : Ext w w1 := (Ext.alloc _ _).trans he1
        have hlt1 : w.heap.size < w1.heap.size := by have := he1.size; simp at this; omega
        clear he1)
     | (go_at_call 9; refine (new_out _ _ _ hf hm hmo).mono ?_; rintro e w2 ⟨rfl, rfl⟩))
    go_ret
    exact ⟨rfl, hE1⟩
  have hm1 : 1 ≤ m ∧ m ≤ 1024 := by omega
  by_cases hl60 : 60 < l.length
  · have hd0 : decide (60 < (l.length : Int)) = true := decide_eq_true (by omega)
    go_enter Try.func4, Try.ntmps4
    go_wp2_with (first
     | (go_at_call 8
        refine (alive_any _).mono ?_
        rintro e w1 ⟨rfl, he1⟩
        have c0 : w1.cell? ⟨w.heap.size, 0, none⟩ = some (.int .u32 f) := he1.cell (cellNew w _ 24 (0, 0) w.heap.size 0 rfl)
        have c1 : w1.cell? ⟨w.heap.size, 1, none⟩ = some (.int .i64 m) := he1.cell (cellNew w _ 24 (0, 0) w.heap.size 1 rfl)
        have hE1 : Ext w w1 := (Ext.alloc _ _).trans he1
        have hlt1 : w.heap.size < w1.heap.size := by have := he1.size; simp at this; omega
        clear he1)
     | (go_at_call 9
        refine (new_mine _ _ _ hf hm1).mono ?_
        rintro e w2 ⟨rfl, hr2, he2⟩
        have HR2 : Hid (Mine _ _ _ _ _ _) := hr2
        have d0 := he2.cell c0
        have d1 := he2.cell c1
        have hE2 : Ext w w2 := hE1.trans he2
        clear he2 hr2 c0 c1))
    go_ret
    exact ⟨rfl, hE2⟩
  have hd0 : decide (60 < (l.length : Int)) = false := decide_eq_false (by omega)
  go_enter Try.func4, Try.ntmps4
  go_wp2_with (first
     | (go_at_call 8
        refine (alive_any _).mono ?_
        rintro e w1 ⟨rfl, he1⟩
        have c0 : w1.cell? ⟨w.heap.size, 0, none⟩ = some (.int .u32 f) := he1.cell (cellNew w _ 24 (0, 0) w.heap.size 0 rfl)
        have c1 : w1.cell? ⟨w.heap.size, 1, none⟩ = some (.int .i64 m) := he1.cell (cellNew w _ 24 (0, 0) w.heap.size 1 rfl)
        have hE1 : Ext w w1 := (Ext.alloc _ _).trans he1
        have hlt1 : w.heap.size < w1.heap.size := by have := he1.size; simp at this; omega
        clear he1)
     | (go_at_call 9
        refine (new_mine _ _ _ hf hm1).mono ?_
        rintro e w2 ⟨rfl, hr2, he2⟩
        have HR2 : Hid (Mine _ _ _ _ _ _) := hr2
        have d0 := he2.cell c0
        have d1 := he2.cell c1
        have hE2 : Ext w w2 := hE1.trans he2
        clear he2 hr2 c0 c1))
  go_loopg [9, 38] l.length (fun g kv s wr => ∃ (i : Nat) (g1 c1 : Nat), i ≤ l.length ∧ g = l.length - i ∧ s = .int .i64 i ∧ kv = .slice (some ⟨g1, 0, none⟩) ((l.take i).take m.toNat).length c1 ∧ Hid (Pair w1.heap.size wr w1.heap.size f m ((l.take i).take m.toNat) (.slice (some ⟨g1, 0, none⟩) ((l.take i).take m.toNat).length c1) ((l.take i).take m.toNat)) ∧ Hid (Below w1.heap.size w2 wr))
  case atStart =>
    refine ⟨0, w2.heap.size, 0, by omega, rfl, rfl, by simp, ?_, (Ext.alloc _ _).below_of HR2.out.lt⟩
    have hlt2 := HR2.out.lt
    obtain ⟨v, h1, h2, h3⟩ := HR2.out
    refine ⟨v, by simpa using h1.ext (Ext.alloc _ _), h2, h3, by simpa using OwnN.lit0 .i64 w2 w1.heap.size 3 _ rfl hlt2, fun g hg => ?_⟩
    simp [Value.ownBlock] at hg
    subst hg
    rintro (h | h)
    · have := h1.lt; omega
    · have := (h1.own.lt h).2; omega
  case round =>
    obtain ⟨i, g1, c1, hi, rfl, rfl, rfl, HP, HB⟩ := hrel
    have HN : Hid (NumsAt .i64 wr (.slice a l.length cap) l) := HV.out.via fun k _ hk => (HB.out.block k (by omega)).trans (hE2.block k hk)
    have D0 := Below.cellAt HB.out d0 hlt1
    have D1 := Below.cellAt HB.out d1 hlt1
    by_cases hlt : i < l.length
    · obtain ⟨g2, o2, rfl, e1⟩ := HN.out.cellAt i hlt
      have HT : Hid (pushed m ((l.take i).take m.toNat) (l.getD i 0) = (l.take (i + 1)).take m.toNat) := pushed_take m l i hlt
      have hx : W64 (l.getD i 0) := HL.out _ (getD_mem l 0 i hlt)
      obtain ⟨L, hL⟩ : ∃ L, (l.take i).take m.toNat = L := ⟨_, rfl⟩
      have hLl : L.length = min m.toNat i := by rw [← hL]; simp; omega
      have HLl : Hid (L.length = min m.toNat i) := hLl
      clear hLl
      rw [hL] at HP HT
      generalize l.getD i 0 = x at *
      have hlt' : (i : Int) < (l.length : Int) := by omega
      rw [hL]
      by_cases hful : m ≤ i
      · have hge : decide ((i : Int) ≥ m) = true := decide_eq_true (by omega)
        have hge2 : decide (m ≤ (i : Int)) = true := decide_eq_true (by omega)
        have hLm : (L.length : Int) = m := by have := HLl.out; omega
        have hT2 : (l.take (i + 1)).take m.toNat = L := by
          rw [← HT.out]; unfold pushed
          rw [List.take_append_of_le_length (by omega), List.take_of_length_le (by omega)]
        have HT2 : Hid ((l.take (i + 1)).take m.toNat = L) := hT2
        have HLm : Hid ((L.length : Int) = m) := hLm
        clear hT2 hLm
        go_wp2_with (first
          | (go_at_call 13
             refine (HP.out.push_full x hx HLm.out).mono ?_
             rintro e w3 ⟨rfl, h1, h2⟩
             have E1 := Below.cellAt h2 D1 hlt1)
          | (go_at_call 10
             refine (is_err 3 3 _ (by omega) (by omega) (by omega)).mono ?_
             rintro e w' ⟨rfl, rfl⟩))
        go_roundg (l.length - (i + 1))
        case measure => omega
        case rel => exact ⟨i + 1, g1, c1, by omega, rfl, by simp, by rw [HT2.out], by rw [HT2.out]; exact h1, Below.trans HB.out h2⟩
      · have hge : decide ((i : Int) ≥ m) = false := decide_eq_false (by omega)
        have hge2 : decide (m ≤ (i : Int)) = false := decide_eq_false (by omega)
        have hLi : L.length = i := by have := HLl.out; omega
        have hT2 : (l.take (i + 1)).take m.toNat = L ++ [x] := by
          rw [← HT.out]; unfold pushed
          rw [List.take_of_length_le (by simp; omega)]
        have HT2 : Hid ((l.take (i + 1)).take m.toNat = L ++ [x]) := hT2
        have HST : Hid (Ser.step f L.length = (f + i) % 4294967296) := by rw [hLi]; exact (rfl : (f + (i : Int)) % 4294967296 = _)
        have HLi : Hid (L.length = i) := hLi
        clear hT2 hLi
        go_wp2_with (first
          | (go_at_call 13
             refine (HP.out.push x hx (by have := HLi.out; omega)).mono ?_
             rintro e w3 ⟨rfl, h1, h2⟩
             rw [HST.out]
             have E1 := Below.cellAt h2 D1 hlt1
             have E0 := Below.cellAt h2 D0 hlt1
             have HP3 : Hid (Pair _ _ _ _ _ _ _ _) := h1
             have HB3 : Hid (Below _ _ _) := Below.trans HB.out h2
             clear h1 h2 HP)
          | (refine wpList_append_nums numT rfl (.tmp 67) (.tmp 69) rfl w1.heap.size L [x] ?_ ?_ ?_ ?_ ?_ ?_))
        · exact HP3.out.own.ext (Ext.alloc _ _)
        · exact NumsAt.one _ _ _ _ rfl
        · have := HLi.out; simp; omega
        · have := HLi.out; simp; omega
        · have := HP3.out.mine.lt; simp; omega
        · intro ad cap4 w4 ho hg hown
          obtain ⟨g4, c4, e4, _⟩ := ho.one_of
          simp only [Value.slice.injEq] at e4
          obtain ⟨rfl, _, rfl⟩ := e4
          obtain ⟨h5, h6⟩ := HP3.out.grown hg ho hown (by omega)
          have HP4 : Hid (Pair _ _ _ _ _ _ _ _) := h5
          have HB4 : Hid (Below _ _ _) := Below.trans HB3.out h6
          clear ho hg hown h5 h6
          go_wp2
          go_roundg (l.length - (i + 1))
          case measure => omega
          case rel => exact ⟨i + 1, g4, cap4, by omega, rfl, by simp, by rw [HT2.out]; simp, by rw [HT2.out]; simpa using HP4, HB4⟩
    · obtain rfl : i = l.length := by omega
      rw [List.take_length] at HP
      rw [List.take_length]
      have hlt' : decide ((l.length : Int) < (l.length : Int)) = false := decide_eq_false (by omega)
      obtain ⟨L, hL⟩ : ∃ L, l.take m.toNat = L := ⟨_, rfl⟩
      rw [hL] at HP
      rw [hL]
      have hLl : L.length ≤ 60 := by rw [← hL]; simp; omega
      obtain ⟨k, hkl, hk, hk2⟩ := pick_lt k0 20 (by omega) (by omega)
      replace hk : wrap64 ((IntKind.u64.wrap k0).tmod 20) = k := hk
      replace hk2 : (IntKind.u64.wrap k0).tmod 20 = k := hk2
      go_wp2
      go_loopg [74] L.length (fun g s wr => ∃ i : Nat, i ≤ L.length ∧ g = L.length - i ∧ s = .int .i64 i ∧ Hid (Pair w1.heap.size wr w1.heap.size ((f + i) % 4294967296) m (L.drop i) (.slice (some ⟨g1, 0, none⟩) L.length c1) L) ∧ Hid (Below w1.heap.size w2 wr))
      case atStart => exact ⟨0, by omega, rfl, rfl, by simpa [Int.emod_eq_of_lt hf.1 hf.2] using HP, HB⟩
      case round =>
        obtain ⟨i, hi, rfl, rfl, HP2, HB2⟩ := hrel
        have E0 := Below.cellAt HB2.out d0 hlt1
        by_cases hlt : i < L.length
        · have hlt' : (i : Int) < (L.length : Int) := by omega
          by_cases hik : k ≤ i
          · have hge : decide ((i : Int) ≥ (k : Int)) = true := decide_eq_true (by omega)
            have hge2 : decide (k ≤ i) = true := decide_eq_true (by omega)
            have hdl : (L.drop i).length = L.length - i := by simp
            have HFK : Hid (Ser.far ((f + i) % 4294967296) ((f + L.length) % 4294967296) = (L.length - i : Nat)) := (by unfold Ser.far; omega : Ser.far ((f + i) % 4294967296) ((f + L.length) % 4294967296) = (L.length - i : Nat))
            have HP' : Hid (Pair w1.heap.size wr w1.heap.size ((f + i) % 4294967296) m (L.drop i) (.slice (some ⟨g1, 0, none⟩) L.length c1) L) := HP2
            have HNX : Hid (Ser.step ((f + i) % 4294967296) (L.drop i).length = (f + L.length) % 4294967296) := (by rw [hdl]; unfold Ser.step; omega : Ser.step ((f + i) % 4294967296) (L.drop i).length = (f + L.length) % 4294967296)
            clear hdl
            have hii : L.length - (L.length - i) = i := by omega
            go_wp2_with (first
              | (go_at_call 17
                 refine (HP'.out.mine.next).mono ?_
                 rintro e w' ⟨rfl, rfl⟩
                 rw [HNX.out])
              | (go_at_call 16
                 refine (HP'.out.cut _ (L.length - i) (mod32 _) HFK.out (by simp)).mono ?_
                 rintro e w5 ⟨u5, rfl, h3, h1, h2⟩
                 rw [List.take_of_length_le (by simp)] at h3
                 have h1' := h1.mine.len
                 rw [List.drop_of_length_le (by simp)] at h1 h1'
                 have HP5 : Hid (Pair _ _ _ _ _ _ _ _) := h1
                 have HB5 : Hid (Below _ _ _) := Below.trans HB2.out h2
                 obtain ⟨a5, c5, e5, hc5⟩ := h3.nums.form
                 rw [List.length_drop] at e5
                 subst e5
                 have HU5 : Hid (NumsAt .i64 w5 (.slice a5 (L.length - i) c5) (L.drop i)) := h3.nums
                 clear h1 h2 h3 hc5 h1')
              | (go_at_call 18
                 refine (HP5.out.mine.len).mono ?_
                 rintro e w' ⟨rfl, rfl⟩))

            · refine (ints_same _ _ (L.drop i) _ HU5.out (kept_a HP5.out.own.nums hi (by assumption))).mono ?_
              rintro e w6 ⟨rfl, q6, rfl⟩
              go_wp2
              go_ret
              exact ⟨rfl, (Ext.on hE2 HB5.out (by omega)).trans (Ext.drewN _ _)⟩
            · refine (ints_same _ _ (L.drop i) _ HU5.out (kept_b HP5.out.own.nums hi (by assumption))).mono ?_
              rintro e w6 ⟨rfl, q6, rfl⟩
              go_wp2
              go_ret
              exact ⟨rfl, (Ext.on hE2 HB5.out (by omega)).trans (Ext.drewN _ _)⟩
          · have hge : decide ((i : Int) ≥ (k : Int)) = false := decide_eq_false (by omega)
            have hge2 : decide (k ≤ i) = false := decide_eq_false (by omega)
            obtain ⟨x, hx⟩ : ∃ x, L.getD i 0 = x := ⟨_, rfl⟩
            have hdr : L.drop i = x :: L.drop (i + 1) := by
              rw [List.drop_eq_getElem_cons hlt, ← hx]
              simp [List.getD_eq_getElem?_getD, hlt]
            rw [hdr] at HP2
            have HX : Hid (L.getD i 0 = x) := hx
            clear hx hdr
            go_wp2_with (first
              | (go_at_call 14
                 refine (HP2.out.pop).mono ?_
                 rintro e w3 ⟨rfl, h1, h2⟩
                 rw [show Ser.step ((f + i) % 4294967296) 1 = (f + i + 1) % 4294967296 by unfold Ser.step; omega] at h1
                 have HP3 : Hid (Pair _ _ _ _ _ _ _ _) := h1
                 have HB3 : Hid (Below _ _ _) := Below.trans HB2.out h2
                 have F0 := Below.cellAt HB3.out d0 hlt1
                 have kc := HP3.out.own.1.cellAt i (by omega)
                 rw [show (L.map (Value.int .i64))[i]? = some (.int .i64 x) by rw [← HX.out]; simp [List.getD_eq_getElem?_getD, hlt]] at kc
                 clear h1 h2 HP2 E0))
            go_quiet (first | (go_at_call 15; refine Calls.quiet_of_same ((HP3.out.mine.ext (Ext.drewN _ _)).from_)))
            go_wp2
            go_roundg (L.length - (i + 1))
            case measure => omega
            case rel => exact ⟨i + 1, by omega, rfl, by simp, by rw [show (f + ((i + 1 : Nat) : Int)) = f + i + 1 by omega]; exact HP3.out.ext (Ext.drewN _ _), Below.trans HB3.out ((Ext.drewN _ _).below_of HP3.out.mine.lt)⟩
        · have hlt' : decide ((i : Int) < (L.length : Int)) = false := decide_eq_false (by omega)
          have hdl : (L.drop i).length = L.length - i := by simp
          have HFK : Hid (Ser.far ((f + i) % 4294967296) ((f + L.length) % 4294967296) = (L.length - i : Nat)) := (by unfold Ser.far; omega : Ser.far ((f + i) % 4294967296) ((f + L.length) % 4294967296) = (L.length - i : Nat))
          have HP' : Hid (Pair w1.heap.size wr w1.heap.size ((f + i) % 4294967296) m (L.drop i) (.slice (some ⟨g1, 0, none⟩) L.length c1) L) := HP2
          have HNX : Hid (Ser.step ((f + i) % 4294967296) (L.drop i).length = (f + L.length) % 4294967296) := (by rw [hdl]; unfold Ser.step; omega : Ser.step ((f + i) % 4294967296) (L.drop i).length = (f + L.length) % 4294967296)
          clear hdl
          have hii : L.length - (L.length - i) = i := by omega
          go_wp2_with (first
            | (go_at_call 17
               refine (HP'.out.mine.next).mono ?_
               rintro e w' ⟨rfl, rfl⟩
               rw [HNX.out])
            | (go_at_call 16
               refine (HP'.out.cut _ (L.length - i) (mod32 _) HFK.out (by simp)).mono ?_
               rintro e w5 ⟨u5, rfl, h3, h1, h2⟩
               rw [List.take_of_length_le (by simp)] at h3
               have h1' := h1.mine.len
               rw [List.drop_of_length_le (by simp)] at h1 h1'
               have HP5 : Hid (Pair _ _ _ _ _ _ _ _) := h1
               have HB5 : Hid (Below _ _ _) := Below.trans HB2.out h2
               obtain ⟨a5, c5, e5, hc5⟩ := h3.nums.form
               rw [List.length_drop] at e5
               subst e5
               have HU5 : Hid (NumsAt .i64 w5 (.slice a5 (L.length - i) c5) (L.drop i)) := h3.nums
               clear h1 h2 h3 hc5 h1')
            | (go_at_call 18
               refine (HP5.out.mine.len).mono ?_
               rintro e w' ⟨rfl, rfl⟩))

          · refine (ints_same _ _ (L.drop i) _ HU5.out (kept_a HP5.out.own.nums hi (by assumption))).mono ?_
            rintro e w6 ⟨rfl, q6, rfl⟩
            go_wp2
            go_ret
            exact ⟨rfl, (Ext.on hE2 HB5.out (by omega)).trans (Ext.drewN _ _)⟩
          · refine (ints_same _ _ (L.drop i) _ HU5.out (kept_b HP5.out.own.nums hi (by assumption))).mono ?_
            rintro e w6 ⟨rfl, q6, rfl⟩
            go_wp2
            go_ret
            exact ⟨rfl, (Ext.on hE2 HB5.out (by omega)).trans (Ext.drewN _ _)⟩
end Go.Proofs.Ytbongjdflnefmaa
