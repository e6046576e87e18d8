/- The law SerialLists walked: it answers true. No condition of its own. -/
import Derived.Test.YtmfkedkkkmnmmaaRSort
import Derived.Test.YtmfkedkkkmnmmaaSame
import Derived.Test.YtmfkedkkkmnmmaaSort
import Derived.Test.YtmfkedkkkmnmmaaPush
import Derived.Test.YtmfkedkkkmnmmaaTwoPush
import Derived.Test.YtmfkedkkkmnmmaaLoops
import Derived.Test.YtmfkedkkkmnmmaaAlive
namespace Go.Proofs.Ytmfkedkkkmnmmaa
open Go.RowKit Go.Shelf
set_option linter.unusedVariables false
set_option linter.unusedSimpArgs false
attribute [local go_sem] Oper.semAt_some

set_option maxRecDepth 100000 in
set_option maxHeartbeats 4000000 in
theorem lists_short (f : Int) (v : Value) (l : List Int) (n : Int) (w : World) (hf : Of 4294967296 f) (hv : NumsAt .u32 w v l) (hl : ∀ x ∈ l, Of 4294967296 x) (hn : W64 n) (h60 : l.length ≤ 60) (h200 : n ≤ 200) :
    CallsIn Fence.wide 5 Try.prog 5 #[.int .u32 f, v, .int .i64 n] w fun e W' => e = .returned (.bool true) ∧ Below w.heap.size w W' := by
  have HV : Hid (NumsAt .u32 w v l) := hv
  obtain ⟨a, cap, rfl, hcap, hcell⟩ := hv.form
  have HC : Hid (∀ j, j < l.length → ∃ b off, a = some ⟨b, off, none⟩ ∧ w.cell? ⟨b, off + j, none⟩ = some (.int .u32 (l.getD j 0))) := hcell
  have HL : Hid (∀ x ∈ l, Of 4294967296 x) := hl
  clear hv hcell hl
  have hro : Fence.wide.round = none := rfl
  have hF : ∀ k, Fence.wide.fn k := fun _ => trivial
  have hF8 : Fence.wide.fn 8 := trivial
  have hF23 : Fence.wide.fn 23 := trivial
  have hF24 : Fence.wide.fn 24 := trivial
  have hF25 : Fence.wide.fn 25 := trivial
  have hF26 : Fence.wide.fn 26 := trivial
  have hF27 : Fence.wide.fn 27 := trivial
  have hF28 : Fence.wide.fn 28 := trivial
  have hF29 : Fence.wide.fn 29 := trivial
  have hF14 : Fence.wide.fn 14 := trivial
  obtain ⟨b, hb0⟩ : ∃ b, w.heap.size = b := ⟨_, rfl⟩
  refine callsIn_of_wp_marks Try.func5 rfl (hF 5) ?_ hro
  simp only [Try.ntmps5, List.size_toArray, List.length_cons, List.length_nil, Nat.reduceAdd, Nat.reduceSub, Array.replicate_succ, Array.replicate_zero, List.push_toArray, List.append_toArray, List.nil_append, List.cons_append]
  obtain ⟨W1, hW1⟩ : ∃ W1, (w.alloc (.cells #[.int .u32 f] 22)).alloc (.cells #[.bool false] 4) = W1 := ⟨_, rfl⟩
  have hE1 : Ext w W1 := by rw [← hW1]; exact (Ext.alloc _ _).trans (Ext.alloc _ _)
  have hsz1 : W1.heap.size = b + 2 := by rw [← hW1]; simp [hb0]
  have B0 : Boxed W1 b 22 (.int .u32 f) := by
    have := (Boxed.new w 22 (.int .u32 f)).alloc (.cells #[.bool false] 4)
    rw [hb0] at this; rw [← hW1]; exact this
  have B1 : Boxed W1 (b + 1) 4 (.bool false) := by
    have := Boxed.new (w.alloc (.cells #[.int .u32 f] 22)) 4 (.bool false)
    rw [World.size_alloc, hb0] at this; rw [← hW1]; exact this
  gi_wp2_with fail
  clear hW1
  refine (callsIn_wide.2 (alive_any _)).mono ?_
  rintro e W0 ⟨rfl, rfl⟩
  have hc1 := B1.cell
  have hf1 := B1.frozen
  have hd1 : decide (60 < (l.length : Int)) = false := decide_eq_false (by omega)
  have hd2 : decide (200 < n) = false := decide_eq_false (by omega)
  gi_wp2_with (first
    | (gi_at_builtin; refine wpListIn_append_nums numT39 rfl _ _ rfl (b + 2) [] l (OwnN.lit0 _ _ _ _ _ hsz1.symm (by omega)) (HV.out.ext (hE1.trans (Ext.alloc _ _))) (by simp; omega) (by simp; omega) (by simp; omega) ?_; intro ado capo w1 hoo hgo hbo; simp only [List.nil_append] at hoo ⊢)
    | fail)
  have hE2 : Ext W0 w1 := by
    have h0 : Below (b + 2) W0 (W0.alloc (.cells #[] 22)) := (Below.refl _ _).alloc (by omega) _
    have := (OwnN.lit0 .u32 W0 (b + 2) 22 (b + 2) hsz1.symm (by omega)).below h0 hgo (by simp; omega)
    rw [← hsz1] at this
    exact this
  have HOO : Hid (OwnN .u32 w1 (b + 2) 22 (.slice ado l.length capo) l) := hoo
  have hE3 := hE1.trans hE2
  have hsw1 := hE2.size
  rw [hsz1] at hsw1
  have B0w : Boxed w1 b 22 (.int .u32 f) := (hE2.block _ B0.lt).trans B0
  have B1w : Boxed w1 (b + 1) 4 (.bool false) := (hE2.block _ B1.lt).trans B1
  clear hoo hgo hbo B0 B1 hc1 hf1 hE2 hE1 hsz1
  obtain ⟨c1, hc1⟩ : ∃ c1, w1.heap.size = c1 := ⟨_, rfl⟩
  obtain ⟨W2, hW2⟩ : ∃ W2, w1.alloc (.cells #[] 3) = W2 := ⟨_, rfl⟩
  have hs2 : W2.heap.size = c1 + 1 := by rw [← hW2]; simp [hc1]
  have HO2 : Hid (OwnN .i64 W2 c1 3 (.slice (some ⟨c1, 0, none⟩) 0 0) []) := by
    unfold Hid; rw [← hW2]; exact OwnN.lit0 _ _ _ _ _ hc1.symm (by omega)
  have HX2 : Hid (∀ wr, W2.grownBy wr (some c1) → Ext w1 wr) := fun wr h => by rw [← hW2] at h; exact ext_row hc1.symm h
  rw [hW2, hc1]
  clear hW2
  gi_loopw [8, 37] (fun u i wr => W2.grownBy wr (some c1) ∧ ∃ (k : Nat) (ad : Option Addr) (cp : Nat), k ≤ l.length ∧ i = .int .i64 (k : Int) ∧ u = .slice ad k cp ∧ Hid (OwnN .i64 wr c1 3 (.slice ad k cp) (l.take k) ∧ ∀ g, (Value.slice ad k cp).ownBlock = some g → g = c1 ∨ W2.heap.size ≤ g)) (fun u i wr => l.length - (intOf i).toNat)
  case atStart => exact ⟨World.grownBy.refl _ _, 0, some ⟨c1, 0, none⟩, 0, by omega, rfl, rfl, HO2.out, fun g hg => by simp [Value.ownBlock] at hg; exact .inl hg.symm⟩
  case round =>
    obtain ⟨hg, k, ad, cp, hk, rfl, rfl, HU⟩ := hrel
    have hEr := HX2.out _ hg
    by_cases hlt : k < l.length
    · have hd : decide ((k : Int) < (l.length : Int)) = true := decide_eq_true (by omega)
      obtain ⟨bb, off, rfl, e1⟩ := HC.out k hlt
      have d1 := (hE3.trans hEr).cell e1
      have ox := HL.out _ (getD_mem l 0 k hlt)
      have htk : Hid (l.take (k + 1) = l.take k ++ [l.getD k 0]) := take_next l 0 k hlt
      have htl : (l.take k).length = k := by simp; omega
      clear e1
      generalize l.getD k 0 = x at *
      have hlt' : (k : Int) < (l.length : Int) := by omega
      gi_wp2_with (first
        | (gi_at_builtin; refine wpListIn_append_nums numTi rfl _ _ rfl c1 (l.take k) [x] (HU.out.1.ext (Ext.alloc _ _)) (NumsAt.one wr x _ _ rfl) (by simp; omega) (by simp; omega) (by have := hg.size; simp; omega) ?_; intro ad2 cp2 w2 hon hgn hbn)
        | fail)
      simp only [List.length_append, htl, List.length_singleton] at hon hbn ⊢
      go_roundw
      case measure => simp [intOf]; omega
      case rel =>
        refine ⟨grown_push hg HU.out.2 hgn, k + 1, ad2, cp2, by omega, by simp, rfl, ?_, own_push HU.out.2 hbn (by have := hg.size; simp; omega)⟩
        rw [htk.out]; exact hon
    · have hd : decide ((k : Int) < (l.length : Int)) = false := decide_eq_false (by omega)
      have hkl : k = l.length := by omega
      subst hkl
      rw [List.take_length] at HU
      have hsr := hg.size
      rw [hs2] at hsr
      have B0r : Boxed wr b 22 (.int .u32 f) := (hEr.block _ B0w.lt).trans B0w
      have B1r : Boxed wr (b + 1) 4 (.bool false) := (hEr.block _ B1w.lt).trans B1w
      have HOr : Hid (OwnN .u32 wr (b + 2) 22 (.slice ado l.length capo) l) := HOO.out.ext hEr
      have hEwr := hE3.trans hEr
      have HLI : Hid (OwnN .i64 wr c1 3 (.slice ad l.length cp) l) := HU.out.1
      have b0a := (B0r.alloc (.cells #[] 3)).cell
      clear hg hEr B0w B1w HOO HO2 HX2 HU hE3 HC
      have hR := Ser.sofar_ok (Ser.far 4294967296 f) l l.length (Nat.le_refl _)
      rw [show Ser.sofar (Ser.far 4294967296 f) l l.length = Ser.sort (Ser.far 4294967296 f) l by unfold Ser.sofar; rw [List.take_length]] at hR
      have hRl := hR.1
      have HRO : Hid (∀ x ∈ Ser.sort (Ser.far 4294967296 f) l, Of 4294967296 x) := fun x hx => HL.out x (hR.2 x hx)
      clear hR
      obtain ⟨R, hRe⟩ : ∃ R, Ser.sort (Ser.far 4294967296 f) l = R := ⟨_, rfl⟩
      have HRE : Hid (Ser.sort (Ser.far 4294967296 f) l = R) := hRe
      rw [hRe] at hRl HRO
      clear hRe
      gi_wp2_with (first
        | (gi_at_call 23; refine (callsIn_wide.2 (sort32 f _ l _ hf (HOr.out.nums.ext (Ext.alloc _ _)) HL.out (by omega))).mono ?_; rintro e w3 ⟨us, rfl, hus, hE4, hfr⟩; rw [HRE.out] at hus; obtain ⟨au, cu, rfl, hcu, hcellu⟩ := hus.form)
        | fail)
      obtain ⟨c2, hc2⟩ : ∃ c2, wr.heap.size = c2 := ⟨_, rfl⟩
      have HCU : Hid (∀ j, j < R.length → ∃ b off, au = some ⟨b, off, none⟩ ∧ w3.cell? ⟨b, off + j, none⟩ = some (.int .u32 (R.getD j 0))) := hcellu
      have hE5 : Ext wr w3 := (Ext.alloc wr _).trans hE4
      have hs3 := hE4.size
      have hsa : (wr.alloc (.cells #[] 3)).heap.size = c2 + 1 := by simp [hc2]
      rw [hsa] at hs3 hfr
      have HO3 : Hid (OwnN .i64 w3 c2 3 (.slice (some ⟨c2, 0, none⟩) 0 0) []) := (OwnN.lit0 .i64 wr c2 3 c2 hc2.symm (by omega)).ext hE4
      have hbu : Hid (∀ g, blockOf (.slice au R.length cu) = some g → g ≠ c2) := fun g hg => by have := (hfr g hg).1; omega
      have HX3 : Hid (∀ wq, w3.grownBy wq (some c2) → Ext wr wq) := fun wq h => ⟨h.os.trans hE5.os, h.tape.trans hE5.tape, h.output.trans hE5.output, Nat.le_trans hE5.size h.size, fun k hk => (h.block k (Nat.lt_of_lt_of_le hk hE5.size) (by simp; omega)).trans (hE5.block k hk)⟩
      rw [hc2] at hsr
      simp only [hc2]
      clear hcellu hus hE4 hfr hsa b0a hE5
      gi_loopw [11, 52] (fun u i wq => w3.grownBy wq (some c2) ∧ ∃ (k : Nat) (aS : Option Addr) (cs : Nat), k ≤ R.length ∧ i = .int .i64 (k : Int) ∧ u = .slice aS k cs ∧ Hid (OwnN .i64 wq c2 3 (.slice aS k cs) (R.take k) ∧ ∀ g, (Value.slice aS k cs).ownBlock = some g → g = c2 ∨ w3.heap.size ≤ g)) (fun u i wq => R.length - (intOf i).toNat)
      case atStart => exact ⟨World.grownBy.refl _ _, 0, some ⟨c2, 0, none⟩, 0, by omega, rfl, rfl, HO3.out, fun g hg => by simp [Value.ownBlock] at hg; exact .inl hg.symm⟩
      case round =>
        obtain ⟨hg, k, aS, cs, hk, rfl, rfl, HU⟩ := hrel
        by_cases hlt : k < R.length
        · have hd : decide ((k : Int) < (R.length : Int)) = true := decide_eq_true (by omega)
          obtain ⟨bb, off, rfl, e1⟩ := HCU.out k hlt
          have d1 : wr.cell? ⟨bb, off + k, none⟩ = some (.int .u32 (R.getD k 0)) := (World.cell?_of_block (hg.block bb (cell_lt e1) (by have := hbu.out bb rfl; simpa using this))).trans e1
          have ox := HRO.out _ (getD_mem R 0 k hlt)
          have htk : Hid (R.take (k + 1) = R.take k ++ [R.getD k 0]) := take_next R 0 k hlt
          have htl : (R.take k).length = k := by simp; omega
          clear e1
          generalize R.getD k 0 = x at *
          have hlt' : (k : Int) < (R.length : Int) := by omega
          gi_wp2_with (first
            | (gi_at_builtin; refine wpListIn_append_nums numTi rfl _ _ rfl c2 (R.take k) [x] (HU.out.1.ext (Ext.alloc _ _)) (NumsAt.one wr x _ _ rfl) (by simp; omega) (by simp; omega) (by have := hg.size; simp; omega) ?_; intro aS2 cs2 w2 hon hgn hbn)
            | fail)
          simp only [List.length_append, htl, List.length_singleton] at hon hbn ⊢
          go_roundw
          case measure => simp [intOf]; omega
          case rel =>
            refine ⟨grown_push hg HU.out.2 hgn, k + 1, aS2, cs2, by omega, by simp, rfl, ?_, own_push HU.out.2 hbn (by have := hg.size; simp; omega)⟩
            rw [htk.out]; exact hon
        · have hd : decide ((k : Int) < (R.length : Int)) = false := decide_eq_false (by omega)
          have hkl : k = R.length := by omega
          subst hkl
          rw [List.take_length] at HU
          have hEq := HX3.out _ hg
          have hsq := Nat.le_trans hs3 hg.size
          have B0q : Boxed wr b 22 (.int .u32 f) := (hEq.block _ B0r.lt).trans B0r
          have B1q : Boxed wr (b + 1) 4 (.bool false) := (hEq.block _ B1r.lt).trans B1r
          have HOq : Hid (OwnN .u32 wr (b + 2) 22 (.slice ado l.length capo) l) := HOr.out.ext hEq
          have HLq : Hid (OwnN .i64 wr c1 3 (.slice ad l.length cp) l) := HLI.out.ext hEq
          have HSq : Hid (OwnN .i64 wr c2 3 (.slice aS R.length cs) R) := HU.out.1
          have hEwq := hEwr.trans hEq
          clear hg HX3 hEq B0r B1r HOr HLI HU hEwr hs3 hbu HCU HO3
          have hErw : ∀ o1 o2 o3 o4, Ext wr ((((wr.alloc o1).alloc o2).alloc o3).alloc o4) := fun o1 o2 o3 o4 => (((Ext.alloc _ _).trans (Ext.alloc _ _)).trans (Ext.alloc _ _)).trans (Ext.alloc _ _)
          gi_wp2_with (first
            | (gi_at_call 24; refine (callsIn_wide.2 (runs32 _ l _ (HOq.out.nums.ext (hErw _ _ _ _)) (by omega))).mono ?_; rintro e W6 ⟨bi, ui, rfl, hbx, hnu, hfr, hlo, hE6⟩)
            | fail)
          obtain ⟨p, hp⟩ : ∃ p, wr.heap.size = p := ⟨_, rfl⟩
          have hs5 : ((((wr.alloc (.cells #[] 3)).alloc (.cells #[] 3)).alloc (.cells #[.slice (some ⟨wr.heap.size, 0, none⟩) 0 0] 40)).alloc (.cells #[.slice (some ⟨wr.heap.size + 1, 0, none⟩) 0 0] 40)).heap.size = p + 4 := by simp [hp]
          have P0 : OwnN .i64 W6 p 3 (.slice (some ⟨p, 0, none⟩) 0 0) [] := ((OwnN.lit0 .i64 wr p 3 p hp.symm (by omega)).ext (((Ext.alloc _ _).trans (Ext.alloc _ _)).trans (Ext.alloc _ _))).ext hE6
          have P1 : OwnN .i64 W6 p 3 (.slice (some ⟨p + 1, 0, none⟩) 0 0) [] := ((OwnN.lit0 .i64 (wr.alloc (.cells #[] 3)) p 3 (p + 1) (by simp [hp]) (by simp [hp])).ext ((Ext.alloc _ _).trans (Ext.alloc _ _))).ext hE6
          have P2 : Boxed W6 (p + 2) 40 (.slice (some ⟨p, 0, none⟩) 0 0) := by
            have h := (Boxed.new ((wr.alloc (.cells #[] 3)).alloc (.cells #[] 3)) 40 (.slice (some ⟨wr.heap.size, 0, none⟩) 0 0)).alloc (.cells #[.slice (some ⟨wr.heap.size + 1, 0, none⟩) 0 0] 40)
            have h2 := (hE6.block _ h.lt).trans h
            rw [World.size_alloc, World.size_alloc, hp] at h2
            exact h2
          have P3 : Boxed W6 (p + 3) 40 (.slice (some ⟨p + 1, 0, none⟩) 0 0) := by
            have h := Boxed.new (((wr.alloc (.cells #[] 3)).alloc (.cells #[] 3)).alloc (.cells #[.slice (some ⟨wr.heap.size, 0, none⟩) 0 0] 40)) 40 (.slice (some ⟨wr.heap.size + 1, 0, none⟩) 0 0)
            have h2 := (hE6.block _ h.lt).trans h
            rw [World.size_alloc, World.size_alloc, World.size_alloc, hp] at h2
            exact h2
          have hE7 : Ext wr W6 := (hErw _ _ _ _).trans hE6
          have hs6 := hE6.size
          rw [hs5] at hs6 hfr hlo
          have B06 : Boxed W6 b 22 (.int .u32 f) := (hE7.block _ B0q.lt).trans B0q
          have B16 : Boxed W6 (b + 1) 4 (.bool false) := (hE7.block _ B1q.lt).trans B1q
          have HO6 : Hid (OwnN .u32 W6 (b + 2) 22 (.slice ado l.length capo) l) := HOq.out.ext hE7
          have HL6 : Hid (OwnN .i64 W6 c1 3 (.slice ad l.length cp) l) := HLq.out.ext hE7
          have HS6 : Hid (OwnN .i64 W6 c2 3 (.slice aS R.length cs) R) := HSq.out.ext hE7
          have HB6 : Hid ((∀ g, (Value.slice ado l.length capo).ownBlock = some g → g < p) ∧ (∀ g, (Value.slice ad l.length cp).ownBlock = some g → g < p) ∧ (∀ g, (Value.slice aS R.length cs).ownBlock = some g → g < p)) :=
            ⟨fun g hg => by have := (HOq.out.lt hg).2; omega, fun g hg => by have := (HLq.out.lt hg).2; omega, fun g hg => by have := (HSq.out.lt hg).2; omega⟩
          have hE8 : Ext w W6 := hEwq.trans hE7
          rw [hp] at hsq
          simp only [hp, Nat.add_assoc, Nat.reduceAdd]
          have hbp : b + 2 ≤ p := by omega
          clear hE6 hs5 hErw hE7 B0q B1q HOq HLq HSq hEwq
          generalize ha0 : Act.mk _ _ = a0
          have PP : Pairs W6 W6 p [] [] p 0 (p + 1) 0 := ⟨KeepBut.refl _ _, P2, P3, P0, P1, by omega, .inl rfl, .inl rfl⟩
          have hbi := hbx.lt
          clear P0 P1 P2 P3
          refine wpIn_rangeFunc_ownF hro (by decide) (gf := 38) (lb := #[.pointer (some ⟨bi, 0, none⟩)]) (by rw [← ha0]; rfl) (hF 38) (enters_of Try.func38 (by kernel_rfl) rfl)
            (runs32_stops 4 (by omega) bi (p + 4) W6.heap.size ui l HL.out (by omega) W6 ⟨hlo, hbi⟩ hfr hbx hnu) (fun h k => h.t k) (KpR.b (Nat.le_refl _)) (Below.refl _ _) (fun _ => rfl)
            (fun pre W => ∃ gF cF gM cM, Pairs W6 W p (pre.map (·.1.1)) (pre.map fun q => (q.2 : Int)) gF cF gM cM)
            (fun _ _ _ => False)
            (fun s A B row hs hg hr => by obtain ⟨gF, cF, gM, cM, h⟩ := hs; exact ⟨gF, cF, gM, cM, h.own hg hr (by omega)⟩)
            (fun _ _ _ _ _ hs _ _ => hs)
            ⟨p, 0, p + 1, 0, PP⟩
            (fun x => { tmps := (((a0.tmps.setIfInBounds 66 (.int .u32 x.1.1)).setIfInBounds 67 (.int .i64 (x.2 : Int))).setIfInBounds 16 (.int .u32 x.1.1)).setIfInBounds 17 (.int .i64 (x.2 : Int)), defers := [] }) ?assign ?body ?done ?stop
          case assign =>
            intro y x W K hK
            subst ha0
            rw [fold2]
            simp only [List.setIfInBounds_toArray, List.set_cons_succ, List.set_cons_zero] at hK ⊢
            gi_wp2
            exact hK
          case body =>
            rintro y pre x W ⟨gF, cF, gM, cM, hP⟩ hN
            subst ha0
            simp only [List.setIfInBounds_toArray, List.set_cons_succ, List.set_cons_zero]
            gi_wp2_with fail
            obtain ⟨⟨xv, hxo⟩, kv⟩ := x
            simp only [] at *
            have hNl : pre.length < 60 := by have := Ser.runs_length 4294967296 l; omega
            obtain ⟨F, hFe⟩ : ∃ F : List Int, pre.map (fun q => q.1.1) = F := ⟨_, rfl⟩
            obtain ⟨M, hMe⟩ : ∃ M : List Int, pre.map (fun q => (q.2 : Int)) = M := ⟨_, rfl⟩
            have hFl : F.length = pre.length := by rw [← hFe]; simp
            have hMl : M.length = pre.length := by rw [← hMe]; simp
            rw [hFe, hMe] at hP
            have hsW := hP.keep.size
            have lF := (hP.oF.lt (g := gF) rfl).2
            have lM := (hP.oM.lt (g := gM) rfl).2
            obtain ⟨s, hs⟩ : ∃ s : Spots, s = ⟨p, gF, gM, W.heap.size, cF, cM, F, M, xv, (kv : Int)⟩ := ⟨_, rfl⟩
            have ok : s.Ok := by
              subst hs
              exact ⟨lF, lM, by simp only []; omega, hP.ne, boxed_not_own hP.bF hP.oF, boxed_not_own hP.bM hP.oF, boxed_not_own hP.bF hP.oM, boxed_not_own hP.bM hP.oM, by simp only []; omega, by simp only []; omega⟩
            refine wpIn_region_pair y _ (fun t => bif Nat.ble 68 t && Nat.ble t 76 then some (t - 68) else none) 122 s.row (KeepBut s.S) s.U s.V 4 8 72 76 Apart (by kernel_rfl) (by kernel_rfl) (by kernel_rfl) rfl
              (s.frame _ (fun oj h => by cases h; simp [Op.operands]) (fun oj h => by cases h; simp [Op.operands])) (KeepBut.refl _) (fun _ _ _ => KeepBut.trans) (fun i w w' h => KeepBut.grown h (s.row_S i)) ?u0
              (s.keepU ok _ (fun oj h => by cases h; kernel_rfl) (fun oj h => by cases h; kernel_rfl)) (s.keepV ok) rfl rfl (by decide) ?good ?fin
            case u0 =>
              intro i
              subst hs
              unfold Spots.U
              split
              · exact hP.bF
              · exact Nat.le_refl _
              · exact ⟨hP.oF, Nat.le_refl _⟩
              · exact hP.bM
              · exact Nat.le_refl _
              · exact ⟨hP.oM, Nat.le_refl _⟩
              · exact hP.bF
              · exact hP.bM
              · trivial
            case good =>
              subst hs
              have hpb : p + 3 < W.heap.size := ok.b
              refine ⟨⟨rfl, fun r wx hu hx => ?_⟩, ?_⟩
              · obtain ⟨h1, _⟩ := hx
                replace h1 : r (.tmp 14) = .pointer (some ⟨p + 2, 0, none⟩) := h1
                have hc := Boxed.cell (show Boxed wx (p + 2) 40 (Spots.vf ⟨p, gF, gM, W.heap.size, cF, cM, F, M, xv, (kv : Int)⟩) from hu)
                exact give_of (by simp [execOp, h1, hc, go_sem]) ⟨World.grownBy.refl _ _, rfl, (fun h => absurd h (by decide)), (fun h => absurd h (by decide))⟩
              refine ⟨⟨rfl, fun r wx hu hx => ?_⟩, ?_⟩
              · obtain ⟨h1, _⟩ := hx
                replace h1 : r (.tmp 16) = .int .u32 xv := h1
                exact give_move (.inl rfl) ⟨World.grownBy.refl _ _, h1, (fun h => absurd h (by decide)), (fun h => absurd h (by decide))⟩
              refine ⟨⟨rfl, fun r wx hu hx => ?_⟩, ?_⟩
              · obtain ⟨h1, _⟩ := hx
                replace h1 : r (.tmp 69) = .int .u32 xv := h1
                have hwx : IntKind.i64.wrap xv = xv := by
                  have := hxo.1; have := hxo.2
                  rw [IntKind.wrap_i64]; omega
                exact give_of (v := .int .i64 xv) (w' := wx) (by simp [execOp, h1, go_sem, hwx]) ⟨World.grownBy.refl _ _, rfl, (fun h => absurd h (by decide)), (fun h => absurd h (by decide))⟩
              refine ⟨⟨rfl, fun r wx hu hx => ?_⟩, ?_⟩
              · obtain ⟨h1, _⟩ := hx
                replace h1 : r (.tmp 70) = .int .i64 xv := h1
                exact give_of (v := .slice (some ⟨wx.heap.size, 0, none⟩) 1 1) (w' := wx.alloc (.cells #[.int .i64 xv] 3)) (by simp [execOp, h1, go_sem]) ⟨World.grownBy_alloc _ _ _, ⟨NumsAt.one wx xv 3 _ rfl, fun g hg => by simp [blockOf] at hg; subst hg; exact ⟨hu, by simp⟩⟩, (fun h => absurd h (by decide)), (fun h => absurd h (by decide))⟩
              refine ⟨⟨rfl, fun r wx hu hx => ?_⟩, ?_⟩
              · obtain ⟨h1, h2, _⟩ := hx
                replace h1 : r (.tmp 68) = Spots.vf ⟨p, gF, gM, W.heap.size, cF, cM, F, M, xv, (kv : Int)⟩ := h1
                replace h2 : NumsAt .i64 wx (r (.tmp 71)) [xv] ∧ ∀ g, blockOf (r (.tmp 71)) = some g → W.heap.size ≤ g ∧ g < wx.heap.size := h2
                obtain ⟨v', w', hr, hcase⟩ := run_push numTi wx p 40 gF cF (r (.tmp 71)) F xv (show OwnN .i64 wx p 3 (.slice (some ⟨gF, 0, none⟩) F.length cF) F from hu.1) h2.1 (by omega) (by omega)
                refine give_of (v := v') (w' := w') (by simp only [execOp, resolve, invoke, builtin, Sem.run_bind, Sem.run_pure, Result.andThen_ok, List.map_toArray, List.map_cons, List.map_nil, h1, Spots.vf, hr]) ?_
                have hN : W.heap.size ≤ wx.heap.size := hu.2
                rcases hcase with ⟨rfl, ho, hg⟩ | ⟨ho, hg⟩
                · refine ⟨hg, ⟨gF, cF, rfl, ho, .inl rfl⟩, ?_, ?_⟩
                  · intro _ v2 r2 hv2
                    obtain ⟨g2, c2', rfl, ho2, hh⟩ := hv2
                    intro g e1 e2
                    simp [Value.ownBlock] at e1 e2
                    have hh' : g2 = gM ∨ W.heap.size ≤ g2 := hh
                    have hne : gF ≠ gM := hP.ne
                    omega
                  · exact (fun h => absurd h (by decide))
                · obtain ⟨g', c', rfl, hg1, hg2⟩ := ho.one_of
                  refine ⟨⟨hg.os, hg.tape, hg.output, hg.size, fun k hk _ => hg.block k hk (by simp)⟩, ⟨g', c', rfl, ho.base (show p ≤ wx.heap.size by omega), .inr (Nat.le_trans hN hg1)⟩, ?_, ?_⟩
                  · intro _ v2 r2 hv2
                    obtain ⟨g2, c2', rfl, ho2, hh⟩ := hv2
                    intro g e1 e2
                    simp [Value.ownBlock] at e1 e2
                    have := (ho2.lt (g := g2) rfl).2
                    omega
                  · exact (fun h => absurd h (by decide))
              refine ⟨⟨rfl, fun r wx hu hx => ?_⟩, ?_⟩
              · obtain ⟨h1, _⟩ := hx
                replace h1 : r (.tmp 15) = .pointer (some ⟨p + 3, 0, none⟩) := h1
                have hc := Boxed.cell (show Boxed wx (p + 3) 40 (Spots.vm ⟨p, gF, gM, W.heap.size, cF, cM, F, M, xv, (kv : Int)⟩) from hu)
                exact give_of (by simp [execOp, h1, hc, go_sem]) ⟨World.grownBy.refl _ _, rfl, (fun h => absurd h (by decide)), (fun h => absurd h (by decide))⟩
              refine ⟨⟨rfl, fun r wx hu hx => ?_⟩, ?_⟩
              · obtain ⟨h1, _⟩ := hx
                replace h1 : r (.tmp 17) = .int .i64 (kv : Int) := h1
                exact give_move (.inl rfl) ⟨World.grownBy.refl _ _, h1, (fun h => absurd h (by decide)), (fun h => absurd h (by decide))⟩
              refine ⟨⟨rfl, fun r wx hu hx => ?_⟩, ?_⟩
              · obtain ⟨h1, _⟩ := hx
                replace h1 : r (.tmp 74) = .int .i64 (kv : Int) := h1
                exact give_of (v := .slice (some ⟨wx.heap.size, 0, none⟩) 1 1) (w' := wx.alloc (.cells #[.int .i64 (kv : Int)] 3)) (by simp [execOp, h1, go_sem]) ⟨World.grownBy_alloc _ _ _, ⟨NumsAt.one wx (kv : Int) 3 _ rfl, fun g hg => by simp [blockOf] at hg; subst hg; exact ⟨hu, by simp⟩⟩, (fun h => absurd h (by decide)), (fun h => absurd h (by decide))⟩
              refine ⟨⟨rfl, fun r wx hu hx => ?_⟩, ?_⟩
              · obtain ⟨h1, h2, _⟩ := hx
                replace h1 : r (.tmp 73) = Spots.vm ⟨p, gF, gM, W.heap.size, cF, cM, F, M, xv, (kv : Int)⟩ := h1
                replace h2 : NumsAt .i64 wx (r (.tmp 75)) [(kv : Int)] ∧ ∀ g, blockOf (r (.tmp 75)) = some g → W.heap.size ≤ g ∧ g < wx.heap.size := h2
                obtain ⟨v', w', hr, hcase⟩ := run_push numTi wx p 40 gM cM (r (.tmp 75)) M (kv : Int) (show OwnN .i64 wx p 3 (.slice (some ⟨gM, 0, none⟩) M.length cM) M from hu.1) h2.1 (by omega) (by omega)
                refine give_of (v := v') (w' := w') (by simp only [execOp, resolve, invoke, builtin, Sem.run_bind, Sem.run_pure, Result.andThen_ok, List.map_toArray, List.map_cons, List.map_nil, h1, Spots.vm, hr]) ?_
                have hN : W.heap.size ≤ wx.heap.size := hu.2
                rcases hcase with ⟨rfl, ho, hg⟩ | ⟨ho, hg⟩
                · refine ⟨hg, ⟨gM, cM, rfl, ho, .inl rfl⟩, ?_, ?_⟩
                  · exact (fun h => absurd h (by decide))
                  · intro _ v1 r1 hv1
                    obtain ⟨g1, c1', rfl, ho1, hh⟩ := hv1
                    intro g e1 e2
                    simp [Value.ownBlock] at e1 e2
                    have hh' : g1 = gF ∨ W.heap.size ≤ g1 := hh
                    have hne : gF ≠ gM := hP.ne
                    omega
                · obtain ⟨g', c', rfl, hg1, hg2⟩ := ho.one_of
                  refine ⟨⟨hg.os, hg.tape, hg.output, hg.size, fun k hk _ => hg.block k hk (by simp)⟩, ⟨g', c', rfl, ho.base (show p ≤ wx.heap.size by omega), .inr (Nat.le_trans hN hg1)⟩, ?_, ?_⟩
                  · exact (fun h => absurd h (by decide))
                  · intro _ v1 r1 hv1
                    obtain ⟨g1, c1', rfl, ho1, hh⟩ := hv1
                    intro g e1 e2
                    simp [Value.ownBlock] at e1 e2
                    have := (ho1.lt (g := g1) rfl).2
                    omega
              refine ⟨⟨rfl, fun r wx hu hx => ?_⟩, ?_⟩
              · obtain ⟨h1, h2, _⟩ := hx
                replace h1 : r (.tmp 14) = .pointer (some ⟨p + 2, 0, none⟩) := h1
                replace h2 : ∃ g c, r (.tmp 72) = .slice (some ⟨g, 0, none⟩) (F.length + 1) c ∧ OwnN .i64 wx p 3 (r (.tmp 72)) (F ++ [xv]) ∧ (g = gF ∨ W.heap.size ≤ g) := h2
                obtain ⟨g2, c2', he2, ho2, hh⟩ := h2
                have hbb : Boxed wx (p + 2) 40 (Spots.vf ⟨p, gF, gM, W.heap.size, cF, cM, F, M, xv, (kv : Int)⟩) := hu
                have hc := hbb.cell
                have hf := hbb.frozen
                exact give_skip (w' := wx.setCell ⟨p + 2, 0, none⟩ (r (.tmp 72))) (by simp [execOp, h1, he2, hc, hf, go_sem]) ⟨grownBy_setCell' _ _ _, hbb.set _, (fun h => absurd h (by decide)), (fun h => absurd h (by decide))⟩
              refine ⟨⟨rfl, fun r wx hu hx => ?_⟩, ?_⟩
              · obtain ⟨h1, h2, _⟩ := hx
                replace h1 : r (.tmp 15) = .pointer (some ⟨p + 3, 0, none⟩) := h1
                replace h2 : ∃ g c, r (.tmp 76) = .slice (some ⟨g, 0, none⟩) (M.length + 1) c ∧ OwnN .i64 wx p 3 (r (.tmp 76)) (M ++ [(kv : Int)]) ∧ (g = gM ∨ W.heap.size ≤ g) := h2
                obtain ⟨g2, c2', he2, ho2, hh⟩ := h2
                have hbb : Boxed wx (p + 3) 40 (Spots.vm ⟨p, gF, gM, W.heap.size, cF, cM, F, M, xv, (kv : Int)⟩) := hu
                have hc := hbb.cell
                have hf := hbb.frozen
                exact give_skip (w' := wx.setCell ⟨p + 3, 0, none⟩ (r (.tmp 76))) (by simp [execOp, h1, he2, hc, hf, go_sem]) ⟨grownBy_setCell' _ _ _, hbb.set _, (fun h => absurd h (by decide)), (fun h => absurd h (by decide))⟩
              exact trivial
            case fin =>
              rintro vs W' a' hR hv hA ha'
              subst hs
              have e72 : a'.tmps[72]? = some (vs 4) := by rw [ha']; kernel_rfl
              have e76 : a'.tmps[76]? = some (vs 8) := by rw [ha']; kernel_rfl
              obtain ⟨g1, c1', hv4, ho4, hh4⟩ := hv 4 (by decide)
              obtain ⟨g2, c2', hv8, ho8, hh8⟩ := hv 8 (by decide)
              have hb9 : Boxed W' (p + 2) 40 (a'.eval (.tmp 72)) := hv 9 (by decide)
              have hb10 : Boxed W' (p + 3) 40 (a'.eval (.tmp 76)) := hv 10 (by decide)
              rw [eval_tmp a' 72 _ e72, hv4] at hb9
              rw [eval_tmp a' 76 _ e76, hv8] at hb10
              have hap := hA _ _ e72 e76
              rw [hv4] at ho4 hap
              rw [hv8] at ho8 hap
              clear ha' hv hA e72 e76 hv4 hv8
              have hRb : ∀ k, k < W.heap.size → k ≠ gF → k ≠ gM → k ≠ p + 2 → k ≠ p + 3 → W'.heap[k]? = W.heap[k]? := fun k hk n1 n2 n3 n4 => hR.block k hk (by
                intro hS
                rcases hS with e | e | e | e
                · exact n1 e
                · exact n2 e
                · exact n3 e
                · exact n4 e)
              have hsz : W.heap.size ≤ W'.heap.size := hR.size
              have hpF := hP.pF
              have hpM := hP.pM
              have hP2 : Pairs W6 W' p (F ++ [xv]) (M ++ [(kv : Int)]) g1 c1' g2 c2' := by
                refine ⟨⟨hR.os.trans hP.keep.os, hR.tape.trans hP.keep.tape, hR.output.trans hP.keep.output, Nat.le_trans hsW hsz, fun k hk hn => ?_⟩, by simpa using hb9, by simpa using hb10, by simpa using ho4, by simpa using ho8, ?_, ?_, ?_⟩
                · have hn' : ¬ (p ≤ k ∧ k < p + 4) := hn
                  rw [hRb k (by omega) (by omega) (by omega) (by omega) (by omega)]
                  exact hP.keep.block k hk hn
                · intro e
                  subst e
                  exact hap g1 (by simp [Value.ownBlock]) (by simp [Value.ownBlock])
                · have hh : g1 = gF ∨ W.heap.size ≤ g1 := hh4
                  omega
                · have hh : g2 = gM ∨ W.heap.size ≤ g2 := hh8
                  omega
              have hmapF : (pre ++ [((⟨xv, hxo⟩ : Num 4294967296), kv)]).map (fun q => q.1.1) = F ++ [xv] := by rw [List.map_append, hFe]; rfl
              have hmapM : (pre ++ [((⟨xv, hxo⟩ : Num 4294967296), kv)]).map (fun q => (q.2 : Int)) = M ++ [(kv : Int)] := by rw [List.map_append, hMe]; rfl
              refine ⟨⟨hsz, fun k o hk hc => ?_⟩, fun k h1 h2 => hRb k (by omega) (by omega) (by omega) (by omega) (by omega), g1, c1', g2, c2', ?_⟩
              · have hlt := (Array.getElem?_eq_some_iff.1 hk).1
                have cF0 : k ≠ gF := by
                  rintro rfl
                  exact absurd (own_other (row := some k) (fun r e => by cases e; exact ⟨o, hk, hc⟩) hP.oF) (by simp)
                have cM0 : k ≠ gM := by
                  rintro rfl
                  exact absurd (own_other (row := some k) (fun r e => by cases e; exact ⟨o, hk, hc⟩) hP.oM) (by simp)
                have c20 : k ≠ p + 2 := by
                  rintro rfl
                  rw [show W.heap[p + 2]? = _ from hP.bF] at hk; cases hk; cases hc
                have c30 : k ≠ p + 3 := by
                  rintro rfl
                  rw [show W.heap[p + 3]? = _ from hP.bM] at hk; cases hk; cases hc
                rw [hRb k hlt cF0 cM0 c20 c30]; exact hk
              · rw [hmapF, hmapM]; exact hP2
          case done =>
            rintro D xs W hD hS ⟨gF, cF, gM, cM, hP⟩ hK
            subst ha0
            have hKp : ∀ k, k < W6.heap.size → k < p → W.heap[k]? = W6.heap[k]? := fun k hk hkp => hP.keep.block k hk (fun h => by have := h.1; omega)
            have hE9 : Ext w W := ⟨hP.keep.os.trans hE8.os, hP.keep.tape.trans hE8.tape, hP.keep.output.trans hE8.output, Nat.le_trans hE8.size hP.keep.size, fun k hk => (hKp k (Nat.lt_of_lt_of_le hk hE8.size) (by omega)).trans (hE8.block k hk)⟩
            have hsW := hP.keep.size
            have B07 : Boxed W b 22 (.int .u32 f) := (hKp _ B06.lt (by omega)).trans B06
            have B17 : Boxed W (b + 1) 4 (.bool false) := (hKp _ B16.lt (by omega)).trans B16
            have HO7 : Hid (OwnN .u32 W (b + 2) 22 (.slice ado l.length capo) l) := HO6.out.via fun g hg => hKp g ((HO6.out.lt hg).2) (HB6.out.1 g hg)
            have HL7 : Hid (OwnN .i64 W c1 3 (.slice ad l.length cp) l) := HL6.out.via fun g hg => hKp g ((HL6.out.lt hg).2) (HB6.out.2.1 g hg)
            have HS7 : Hid (OwnN .i64 W c2 3 (.slice aS R.length cs) R) := HS6.out.via fun g hg => hKp g ((HS6.out.lt hg).2) (HB6.out.2.2 g hg)
            have hFst : xs.map (fun q => q.1.1) = Ser.firsts (Ser.runs 4294967296 l) := by
              rw [← hS]; simp [Ser.firsts, plain]
            have hMny : xs.map (fun q => (q.2 : Int)) = Ser.manies (Ser.runs 4294967296 l) := by
              rw [← hS]; simp [Ser.manies, plain]
            have PF : OwnN .i64 W p 3 (.slice (some ⟨gF, 0, none⟩) xs.length cF) (Ser.firsts (Ser.runs 4294967296 l)) := by
              have := hP.oF; rw [List.length_map, hFst] at this; exact this
            have PM : OwnN .i64 W p 3 (.slice (some ⟨gM, 0, none⟩) xs.length cM) (Ser.manies (Ser.runs 4294967296 l)) := by
              have := hP.oM; rw [List.length_map, hMny] at this; exact this
            have PBF : Boxed W (p + 2) 40 (.slice (some ⟨gF, 0, none⟩) xs.length cF) := by
              have := hP.bF; rw [List.length_map] at this; exact this
            have PBM : Boxed W (p + 3) 40 (.slice (some ⟨gM, 0, none⟩) xs.length cM) := by
              have := hP.bM; rw [List.length_map] at this; exact this
            have HPF : Hid (OwnN .i64 W p 3 (.slice (some ⟨gF, 0, none⟩) xs.length cF) (Ser.firsts (Ser.runs 4294967296 l))) := PF
            have HPM : Hid (OwnN .i64 W p 3 (.slice (some ⟨gM, 0, none⟩) xs.length cM) (Ser.manies (Ser.runs 4294967296 l))) := PM
            have hDW : D < W.heap.size := (Array.getElem?_eq_some_iff.1 hK).1
            clear hKp hP B06 B16 HO6 HL6 HS6 HB6 hE8 hFst hMny PF PM hS PP hbx hnu hfr
            gi_wp2_with (first
              | (gi_at_call 25; refine (callsIn_wide.2 (refruns _ l _ HL7.out.nums HL.out (by omega))).mono ?_; rintro e W8 ⟨vf2, vm2, rfl, hvf, hvm, hE10⟩; have b08 : Boxed W8 b 22 (.int .u32 f) := (hE10.block _ B07.lt).trans B07; have b08a := (b08.alloc (.cells #[.int .i64 0] 3)).cell)
              | (gi_at_call 26; refine (callsIn_wide.2 (range32 _ _ _)).mono ?_; rintro e W9 ⟨rfl, rfl⟩)
              | fail)
            obtain ⟨q, hq⟩ : ∃ q, W8.heap.size = q := ⟨_, rfl⟩
            obtain ⟨W9, hW9⟩ : ∃ W9, ((W8.alloc (.cells #[.int .i64 0] 3)).alloc (.cells #[.int .u32 f] 22)).alloc (.cells #[.int .i64 n] 3) = W9 := ⟨_, rfl⟩
            have hs9 : W9.heap.size = q + 3 := by rw [← hW9]; simp [hq]
            have Q0 : Boxed W9 q 3 (.int .i64 0) := by
              have h := ((Boxed.new W8 3 (.int .i64 0)).alloc (.cells #[.int .u32 f] 22)).alloc (.cells #[.int .i64 n] 3)
              rw [hq] at h; rw [← hW9]; exact h
            have Q1 : Boxed W9 (q + 1) 22 (.int .u32 f) := by
              have h := (Boxed.new (W8.alloc (.cells #[.int .i64 0] 3)) 22 (.int .u32 f)).alloc (.cells #[.int .i64 n] 3)
              rw [World.size_alloc, hq] at h; rw [← hW9]; exact h
            have Q2 : Boxed W9 (q + 2) 3 (.int .i64 n) := by
              have h := Boxed.new ((W8.alloc (.cells #[.int .i64 0] 3)).alloc (.cells #[.int .u32 f] 22)) 3 (.int .i64 n)
              rw [World.size_alloc, World.size_alloc, hq] at h; rw [← hW9]; exact h
            have hE11 : Ext W8 W9 := by rw [← hW9]; exact ((Ext.alloc _ _).trans (Ext.alloc _ _)).trans (Ext.alloc _ _)
            have hE12 := hE10.trans hE11
            have hE13 := hE9.trans hE12
            have hs8 := hE10.size
            have B09 : Boxed W9 b 22 (.int .u32 f) := (hE11.block _ b08.lt).trans b08
            have B19 : Boxed W9 (b + 1) 4 (.bool false) := (hE12.block _ B17.lt).trans B17
            have PBF9 : Boxed W9 (p + 2) 40 (.slice (some ⟨gF, 0, none⟩) xs.length cF) := (hE12.block _ PBF.lt).trans PBF
            have PBM9 : Boxed W9 (p + 3) 40 (.slice (some ⟨gM, 0, none⟩) xs.length cM) := (hE12.block _ PBM.lt).trans PBM
            have hK9 : W9.heap[D]? = some (.deferred (some [])) := (hE12.block D hDW).trans hK
            have HO9 : Hid (NumsAt .u32 W9 (.slice ado l.length capo) l ∧ ∀ g, blockOf (.slice ado l.length capo) = some g → g < q) := ⟨(HO7.out.ext hE12).nums, fun g hg => by
              have := HO7.out.lt (g := g) (by cases ado <;> simp_all [blockOf, Value.ownBlock]); omega⟩
            have HL9 : Hid (NumsAt .i64 W9 (.slice ad l.length cp) l ∧ ∀ g, blockOf (.slice ad l.length cp) = some g → g < q) := ⟨(HL7.out.ext hE12).nums, fun g hg => by
              have := HL7.out.lt (g := g) (by cases ad <;> simp_all [blockOf, Value.ownBlock]); omega⟩
            have HS9 : Hid (NumsAt .i64 W9 (.slice aS R.length cs) R ∧ ∀ g, blockOf (.slice aS R.length cs) = some g → g < q) := ⟨(HS7.out.ext hE12).nums, fun g hg => by
              have := HS7.out.lt (g := g) (by cases aS <;> simp_all [blockOf, Value.ownBlock]); omega⟩
            have HF9 : Hid (NumsAt .i64 W9 (.slice (some ⟨gF, 0, none⟩) xs.length cF) (Ser.firsts (Ser.runs 4294967296 l)) ∧ gF < q) := ⟨(HPF.out.ext hE12).nums, by
              have := (HPF.out.lt (g := gF) rfl).2; omega⟩
            have HM9 : Hid (NumsAt .i64 W9 (.slice (some ⟨gM, 0, none⟩) xs.length cM) (Ser.manies (Ser.runs 4294967296 l)) ∧ gM < q) := ⟨(HPM.out.ext hE12).nums, by
              have := (HPM.out.lt (g := gM) rfl).2; omega⟩
            have HvF : Hid (NumsAt .i64 W9 vf2 (Ser.firsts (Ser.runs 4294967296 l)) ∧ ∀ g, blockOf vf2 = some g → g < q) := ⟨(hvf.ext hE11).nums, fun g hg => by
              obtain ⟨a', c', e, _⟩ := hvf.slice
              have := hvf.lt (g := g) (by rw [e] at hg ⊢; cases a' <;> simp_all [blockOf, Value.ownBlock]); omega⟩
            have HvM : Hid (NumsAt .i64 W9 vm2 (Ser.manies (Ser.runs 4294967296 l)) ∧ ∀ g, blockOf vm2 = some g → g < q) := ⟨(hvm.ext hE11).nums, fun g hg => by
              obtain ⟨a', c', e, _⟩ := hvm.slice
              have := hvm.lt (g := g) (by rw [e] at hg ⊢; cases a' <;> simp_all [blockOf, Value.ownBlock]); omega⟩
            have HV9 : Hid (NumsAt .u32 W9 (.slice a l.length cap) l) := HV.out.ext hE13
            rw [hW9]
            simp only [hq, Nat.add_assoc, Nat.reduceAdd]
            have hpq : p + 4 ≤ q := by omega
            have hDq : D < q := by omega
            clear hW9 hE10 hE11 hE12 b08 b08a B07 B17 PBF PBM hK HO7 HL7 HS7 HPF HPM hvf hvm hE9
            generalize ha0 : Act.mk _ _ = a0
            refine wpIn_rangeFunc_ownF hro (by decide) (gf := 40) (lb := #[.pointer (some ⟨q + 2, 0, none⟩), .pointer (some ⟨q + 1, 0, none⟩)]) (by rw [← ha0]; rfl) (hF 40) (enters_of Try.func40 (by kernel_rfl) rfl)
              (range32_stops 4 (by omega) (q + 2) (q + 1) (q + 1) (q + 3) f n hf hn W9 (by omega) (by omega) Q2 Q1) (fun h k => h.t k) (KpR.b (by omega)) (Below.refl _ _) (fun _ => rfl)
              (fun pre X => W9.grownBy X (some q) ∧ Boxed X q 3 (.int .i64 (pre.length : Int)))
              (fun c (pre : List (Num 4294967296)) X => c = .ret ∧ ∃ (pr : List (Num 4294967296)) (x : Num 4294967296), pre = pr ++ [x] ∧ x.1 ≠ Ser.step 4294967296 f (pr.length : Int))
              (fun s A B row hs hg hr => ⟨grown_through hs.1 hg (fun r e => (hr r e).1), hs.2.kept hg (boxed_other (fun r e => (hr r e).2) hs.2)⟩)
              (fun c s A B row hs hg hr => hs)
              ⟨World.grownBy.refl _ _, Q0⟩
              (fun x => { tmps := (a0.tmps.setIfInBounds 85 (.int .u32 x.1)).setIfInBounds 21 (.int .u32 x.1), defers := [] }) ?assign2 ?body2 ?done2 ?stop2
            case assign2 =>
              intro y x X K hK
              subst ha0
              rw [fold1]
              simp only [List.setIfInBounds_toArray, List.set_cons_succ, List.set_cons_zero] at hK ⊢
              gi_wp2
              exact hK
            case body2 =>
              rintro y pre ⟨xv, hxo⟩ X ⟨hg, hbx⟩ hN
              subst ha0
              simp only [List.setIfInBounds_toArray, List.set_cons_succ, List.set_cons_zero]
              have hN' : pre.length < 201 := by omega
              have hbX : Boxed X b 22 (.int .u32 f) := (hg.block _ B09.lt (by simp; omega)).trans B09
              have hb1X : Boxed X (b + 1) 4 (.bool false) := (hg.block _ B19.lt (by simp; omega)).trans B19
              have c0 := hbX.cell
              have c1' := hb1X.cell
              have f1 := hb1X.frozen
              have cq := hbx.cell
              have fq := hbx.frozen
              have hst := Ser.step_lt (m := 4294967296) f (pre.length : Int) (by decide)
              have HG := grown_same hg (grownBy_setCell' X q (.int .i64 ((pre.length : Int) + 1)))
              have HB := hbx.set (.int .i64 ((pre.length : Int) + 1))
              have HK : KpR (q + 1) (q + 3) X (X.setCell ⟨q, 0, none⟩ (.int .i64 ((pre.length : Int) + 1))) := KpR.grown (grownBy_setCell' X q _) (by have := hg.size; omega) (fun r e => by cases e; omega)
              obtain ⟨st, hse⟩ : ∃ st, Ser.step 4294967296 f (pre.length : Int) = st := ⟨_, rfl⟩
              rw [hse] at hst
              have HSE : Hid (Ser.step 4294967296 f (pre.length : Int) = st) := hse
              clear hse
              by_cases hne : xv = st
              · have hnb : (xv != st) = false := by simp [hne]
                clear hne
                gi_wp2_with (gi_at_call 14; refine (CallsIn.inRound y (callsIn_wide.2 (rstep _ _ _ _ (.inr rfl) hf (by constructor <;> omega)))).mono ?_; rintro e w' ⟨rfl, rfl⟩; rw [HSE.out])
                exact ⟨KeepsOthers.setCell _ _ _, HK, HG, by simpa using HB⟩
              · have hnb : (xv != st) = true := bne_iff_ne.2 hne
                have HNE : Hid (xv ≠ st) := hne
                clear hne
                gi_wp2_with (gi_at_call 14; refine (CallsIn.inRound y (callsIn_wide.2 (rstep _ _ _ _ (.inr rfl) hf (by constructor <;> omega)))).mono ?_; rintro e w' ⟨rfl, rfl⟩; rw [HSE.out])
                exact ⟨KeepsOthers.setCell _ _ _, rfl, pre, ⟨xv, hxo⟩, rfl, by rw [HSE.out]; exact HNE.out⟩
            case done2 =>
              rintro D2 ys X hD2 hS2 ⟨hg, hbx⟩ hK2
              subst ha0
              have hys : (ys.length : Int) = max 0 n := by
                have := congrArg List.length hS2
                rw [Ser.range_length] at this; omega
              rw [hys] at hbx
              have hDX2 : D2 < X.heap.size := (Array.getElem?_eq_some_iff.1 hK2).1
              have hgs := hg.size
              have hgb : ∀ k, k < q → X.heap[k]? = W9.heap[k]? := fun k hk => hg.block k (by omega) (by simp; omega)
              have hEX : Ext w X := ⟨hg.os.trans hE13.os, hg.tape.trans hE13.tape, hg.output.trans hE13.output, Nat.le_trans hE13.size hg.size, fun k hk => (hgb k (by omega)).trans (hE13.block k hk)⟩
              have hKX : X.heap[D]? = some (.deferred (some [])) := (hgb D hDq).trans hK9
              have hbX : Boxed X b 22 (.int .u32 f) := (hgb _ (by omega)).trans B09
              have hb1X : Boxed X (b + 1) 4 (.bool false) := (hgb _ (by omega)).trans B19
              have hpF : Boxed X (p + 2) 40 (.slice (some ⟨gF, 0, none⟩) xs.length cF) := (hgb _ (by omega)).trans PBF9
              have hpM : Boxed X (p + 3) 40 (.slice (some ⟨gM, 0, none⟩) xs.length cM) := (hgb _ (by omega)).trans PBM9
              have NL : Hid (NumsAt .i64 X (.slice ad l.length cp) l) := HL9.out.1.via fun g hg' _ => hgb g (HL9.out.2 g hg')
              have NS : Hid (NumsAt .i64 X (.slice aS R.length cs) R) := HS9.out.1.via fun g hg' _ => hgb g (HS9.out.2 g hg')
              have NF : Hid (NumsAt .i64 X (.slice (some ⟨gF, 0, none⟩) xs.length cF) (Ser.firsts (Ser.runs 4294967296 l))) := HF9.out.1.via fun g hg' _ => hgb g (by simp [blockOf] at hg'; have := HF9.out.2; omega)
              have NM : Hid (NumsAt .i64 X (.slice (some ⟨gM, 0, none⟩) xs.length cM) (Ser.manies (Ser.runs 4294967296 l))) := HM9.out.1.via fun g hg' _ => hgb g (by simp [blockOf] at hg'; have := HM9.out.2; omega)
              have NF2 : Hid (NumsAt .i64 X vf2 (Ser.firsts (Ser.runs 4294967296 l))) := HvF.out.1.via fun g hg' _ => hgb g (HvF.out.2 g hg')
              have NM2 : Hid (NumsAt .i64 X vm2 (Ser.manies (Ser.runs 4294967296 l))) := HvM.out.1.via fun g hg' _ => hgb g (HvM.out.2 g hg')
              have NO : Hid (NumsAt .u32 X (.slice ado l.length capo) l) := HO9.out.1.via fun g hg' _ => hgb g (HO9.out.2 g hg')
              have NV : Hid (NumsAt .u32 X (.slice a l.length cap) l) := HV.out.ext hEX
              clear hg hgb HL9 HS9 HF9 HM9 HvF HvM HO9 B09 B19 PBF9 PBM9 hK9 hE13 Q0 Q1 Q2 HV9 HV hS2
              have cq := hbx.cell
              have cb := hbX.cell
              have hmx : (max 0 n == max 0 n) = true := by simp
              gi_wp2_with fail
              refine (callsIn_wide.2 (refsort f _ l _ hf NL.out HL.out (by omega))).mono ?_
              rintro e X1 ⟨u, rfl, hu, hF1⟩
              rw [HRE.out] at hu
              gi_wp2_with fail
              refine (callsIn_wide.2 (ints_same _ _ R _ (NS.out.ext hF1) hu.nums)).mono ?_
              rintro e X2 ⟨rfl, hF2⟩
              have hG2 := hF1.trans hF2
              have hp2 : Boxed X2 (p + 2) 40 (.slice (some ⟨gF, 0, none⟩) xs.length cF) := (hG2.block _ hpF.lt).trans hpF
              have cF2 := hp2.cell
              clear hp2
              gi_wp2_with fail
              refine (callsIn_wide.2 (ints_same _ _ _ _ (NF.out.ext hG2) (NF2.out.ext hG2))).mono ?_
              rintro e X3 ⟨rfl, hF3⟩
              have hG3 := hG2.trans hF3
              have hp3 : Boxed X3 (p + 3) 40 (.slice (some ⟨gM, 0, none⟩) xs.length cM) := (hG3.block _ hpM.lt).trans hpM
              have cM3 := hp3.cell
              clear hp3
              gi_wp2_with fail
              refine (callsIn_wide.2 (ints_same _ _ _ _ (NM.out.ext hG3) (NM2.out.ext hG3))).mono ?_
              rintro e X4 ⟨rfl, hF4⟩
              have hG4 := hG3.trans hF4
              gi_wp2_with fail
              refine (callsIn_wide.2 (words_same _ _ _ _ (NO.out.ext hG4) (NV.out.ext hG4))).mono ?_
              rintro e X5 ⟨rfl, hF5⟩
              have hG5 := hG4.trans hF5
              have hb5 : Boxed X5 (b + 1) 4 (.bool false) := (hG5.block _ hb1X.lt).trans hb1X
              have c5 := hb5.cell
              have f5 := hb5.frozen
              gi_wp2
              have k2 : (X5.setCell ⟨b + 1, 0, none⟩ (.bool true)).heap[D2]? = some (.deferred (some [])) := (KeepsOthers.setCell X5 ⟨b + 1, 0, none⟩ (.bool true)).same D2 _ ((hG5.block D2 hDX2).trans hK2) rfl
              have k1 : ((X5.setCell ⟨b + 1, 0, none⟩ (.bool true)).putObj D2 (.deferred none)).heap[D]? = some (.deferred (some [])) := (World.putObj_heap_other (by omega)).trans ((KeepsOthers.setCell X5 ⟨b + 1, 0, none⟩ (.bool true)).same D _ ((hG5.block D (by omega)).trans hKX) rfl)
              refine ⟨by simp, .inl ⟨_, _, rfl, run_takeDeferred k2, ?_⟩⟩
              refine ⟨by simp, .inl ⟨_, _, rfl, run_takeDeferred k1, ?_⟩⟩
              have hr1 : Boxed (((X5.setCell ⟨b + 1, 0, none⟩ (.bool true)).putObj D2 (.deferred none)).putObj D (.deferred none)) (b + 1) 4 (.bool true) :=
                (World.putObj_heap_other (by omega)).trans ((World.putObj_heap_other (by omega)).trans (hb5.set (.bool true)))
              have hr2 := hr1.cell
              refine ⟨.bool true, ?_, rfl, ?_⟩
              · simp [results, Try.f5, go_sem, hr2]
              · have e0 : Below w.heap.size w X5 := hEX.trans hG5
                have e1 := e0.setCell (p := ⟨b + 1, 0, none⟩) (by simp only []; omega) (.bool true)
                exact (e1.trans (belowK_b (w := w) (Nat.le_refl _) _ D2 _ _ (by omega) k2 rfl rfl)).trans (belowK_b (w := w) (Nat.le_refl _) _ D _ _ (by omega) k1 rfl rfl)
            case stop2 =>
              rintro D2 c pre X _ ⟨_, hpre⟩ ⟨rfl, pr, x, rfl, hbad⟩ _
              exfalso
              obtain ⟨t, ht⟩ := hpre
              have h1 := congrArg (fun z => z[pr.length]?) ht
              have hlen := congrArg List.length ht
              rw [Ser.range_length] at hlen
              simp at hlen
              have hlt : pr.length < n.toNat := by omega
              simp [Ser.range, hlt] at h1
              exact hbad (by rw [h1])
          case stop =>
            rintro D c pre W _ _ h _
            exact h.elim
end Go.Proofs.Ytmfkedkkkmnmmaa
