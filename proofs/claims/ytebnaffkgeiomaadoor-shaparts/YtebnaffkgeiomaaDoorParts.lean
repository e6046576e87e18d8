/- The law ShaParts walked: it answers true. Condition: the tables hold what the text lays. -/
import Derived.Test.YtebnaffkgeiomaaDoorAlive
import Derived.Deep.Strs
namespace Go.Proofs.YtebnaffkgeiomaaDoor
open Go Go.RowKit Go.ChangeShapes Go.WideShapes Go.ChangeAt
set_option linter.unusedVariables false
set_option linter.unusedSimpArgs false
set_option maxRecDepth 100000

/-- append onto a slice of the call's own: which block may turn, and where it lies then. -/
theorem run_append_bytesG {P : Program} {t e : TypeId} (hT : ByteT P t e) (w : World) (base ty g0 n c : Nat) (x : Value) (l m : List Nat) (hv : OwnB w base e (.slice (some ⟨g0, 0, none⟩) n c) l) (hx : BytesAt w x m) (hlen : l.length + m.length ≤ 140737488355328) :
    ∃ g cap w', (Builtin.append_ #[t, t] ty #[.slice (some ⟨g0, 0, none⟩) n c, x]).run P w = .ok (.slice (some ⟨g, 0, none⟩) (l ++ m).length cap) w' ∧ OwnB w' base e (.slice (some ⟨g, 0, none⟩) (l ++ m).length cap) (l ++ m) ∧ KeepBut (· = g0) w w' ∧ (g = g0 ∨ g = w.heap.size) := by
  obtain ⟨i, hi, hz, hs, hby⟩ := hT.ex
  obtain ⟨hl1, ⟨g', cap, e0, hbg, hlt, hle, hcm⟩, hown⟩ := hv
  cases e0
  obtain ⟨hm1, hm2, hx⟩ := hx
  have hbase : base ≤ w.heap.size := by omega
  rcases hx with ⟨rfl, rfl⟩ | ⟨ad, c2, rfl, _, _, hc⟩
  · refine ⟨g0, c, w, ?_, ?_, KeepBut.refl _ _, .inl rfl⟩
    · rw [List.append_nil]; exact run_append_owned_none w base t ty e i 1 hT.ut hi _ _ _ hown
    · rw [List.append_nil]
      exact ⟨hl1, ⟨g0, c, rfl, hbg, hlt, hle, hcm⟩, hown⟩
  · obtain ⟨v', w', hr, h2, h3, h4, h5⟩ := run_append_own_at (P := P) w base t ty e i (.int .u8 0) 1 1 hT.ut hi hz hs hby rfl (by omega) _ l.length (cellsB l) hown ad m.length c2 (cellsB m) (by simp [cellsB])
      (fun j u hu => by
        obtain ⟨hj, rfl⟩ := cellsB_get hu
        exact hc j hj)
      (fun u hu => by
        obtain ⟨y, _, rfl⟩ := List.mem_map.1 hu
        rfl) (by unfold maxLen; omega) (by omega) hbase
    rcases h2.2 with ⟨e1, _⟩ | ⟨g', cap', cur, e1, hb', hg', hnc, hcm', hrest⟩
    · rw [h4] at e1; simp at e1
    · have hlt' : g' < w'.heap.size := (Array.getElem?_eq_some_iff.1 hg').1
      have e2 : v' = .slice (some ⟨g', 0, none⟩) (l ++ m).length cap' := by rw [e1, List.length_append]
      refine ⟨g', cap', w', by rw [← e2]; exact hr, ⟨fun y hy => (List.mem_append.1 hy).elim (hl1 y) (hm1 y), ⟨g', cap', rfl, hb', hlt', by rw [List.length_append]; exact hnc, hcm'⟩, ?_⟩, ⟨h3.os, h3.tape, h3.output, h3.size, fun k hk hn => h3.block k hk (by simpa [Value.ownBlock] using hn)⟩, ?_⟩
      · rw [← e2, List.length_append]
        simpa [cellsB] using h2
      · rw [e1] at h5
        simpa [Value.ownBlock] using h5
theorem wl_appendG {P : Program} {t e : TypeId} (hT : ByteT P t e) {w : World} {ops : Array Oper} {rest : List Oper} {o : Oper} {a : Act} {Q : Exit → Act → World → Prop} (hgd : o.guard = none) (s x : Operand)
    (ho : o.op = .call { callee := .builtin .append, args := #[s, x], argTypes := #[t, t] }) (base g0 n c : Nat) (l m : List Nat) (hs : a.eval s = .slice (some ⟨g0, 0, none⟩) n c) (hv : OwnB w base e (.slice (some ⟨g0, 0, none⟩) n c) l) (hx : BytesAt w (a.eval x) m) (hlen : l.length + m.length ≤ 140737488355328)
    (h : ∀ g cap w', OwnB w' base e (.slice (some ⟨g, 0, none⟩) (l ++ m).length cap) (l ++ m) → KeepBut (· = g0) w w' → (g = g0 ∨ g = w.heap.size) → wpList P ops Q rest (a.put o.dst (.slice (some ⟨g, 0, none⟩) (l ++ m).length cap)) w') : wpList P ops Q (o :: rest) a w := by
  refine wpList_plain hgd fun K hK => ?_
  obtain ⟨g, cap, w', hr, h2, h3, h4⟩ := run_append_bytesG hT w base o.type g0 n c (a.eval x) l m hv hx hlen
  unfold Oper.wp
  simp only [execOp, ho, resolve, invoke, builtin, Sem.run_bind, Sem.run_pure, Result.andThen_ok, List.map_toArray, List.map_cons, List.map_nil, hs, hr]
  exact hK _ _ (h g cap w' h2 h3 h4)
theorem OwnB.butK {S : Nat → Prop} {w w' : World} {base : Nat} {e : TypeId} {v : Value} {l : List Nat} (h : OwnB w base e v l) (hk : KeepBut S w w') (hn : ∀ g, blockOf v = some g → ¬ S g) : OwnB w' base e v l := by
  obtain ⟨h1, ⟨g, cap, rfl, hg, hlt, hle, hm⟩, h2, h3⟩ := h
  refine ⟨h1, ⟨g, cap, rfl, hg, Nat.lt_of_lt_of_le hlt hk.size, hle, hm⟩, h2, ?_⟩
  rcases h3 with ⟨h3, _⟩ | ⟨g', cap', cur, h3, h4, h5, h6⟩
  · simp at h3
  · refine .inr ⟨g', cap', cur, h3, h4, ?_, h6⟩
    simp at h3
    obtain ⟨rfl, rfl⟩ := h3
    rw [hk.block g hlt (hn g (by simp [blockOf]))]; exact h5

/-- An argument that is a list of texts. -/
def PartsArg (w : World) (v : Value) (n : Nat) (L : Nat → List Nat) : Prop :=
  n ≤ maxLen ∧ ∃ a cap, v = .slice a n cap ∧ ∀ i, i < n → ∃ b off u, a = some ⟨b, off, none⟩ ∧ w.cell? ⟨b, off + i, none⟩ = some u ∧ BytesAt w u (L i)
theorem bytes_open {H : Type} {enc : TypeId × Value → H} {w : World} {base : Nat} {held : Bool} {fuel : Nat} {v : Value} {x : DataW H × List MemPlace}
    (h : DataW.trod enc Tryd.prog w base (fun _ => true) held fuel 22 [v] = some x) : ∃ l, BytesAt w v l := by
  rcases open_ints Tryd.underlying22 Tryd.underlying5 (by kernel_rfl) h with ⟨hcs, _⟩ | ⟨x, l, c, zs, hcs, _, hl, hm, hz, _, hcell, hwz⟩
  · simp at hcs
    subst hcs
    exact ⟨[], BytesAt.none _⟩
  · simp at hcs
    subst hcs
    exact ⟨_, BytesAt.of_row hl hm (by simpa using hz) hcell hwz⟩
theorem parts_open {H : Type} {enc : TypeId × Value → H} {w : World} {base : Nat} {held : Bool} {fuel : Nat} {v : Value} {x : DataW H × List MemPlace}
    (h : DataW.trod enc Tryd.prog w base (fun _ => true) held fuel 29 [v] = some x) : ∃ n L, PartsArg w v n L := by
  have ce : Tryd.prog.cellsOf 22 = 1 := by kernel_rfl
  rcases Go.Deep.open_slice Tryd.underlying29 h with ⟨hcs, _⟩ | ⟨a, len, cap, m, n, D, Pl, hcs, hb, hl, hm, hmm, _, hx⟩
  · simp at hcs
    subst hcs
    exact ⟨0, fun _ => [], by simp, none, 0, rfl, fun i hi => by omega⟩
  · simp at hcs
    subst hcs
    have hlm : len ≤ m := by rw [hmm]; split <;> omega
    rw [ce] at hx
    obtain ⟨q, hq⟩ := Go.Deep.choose_lt (α := Value × List Nat) (n := len) (p := fun i z => w.cell? (a.add i) = some z.1 ∧ BytesAt w z.1 z.2) (fun i hi => by
      obtain ⟨cs', h1, h2⟩ := hx i (by omega)
      obtain ⟨_, hlen, hcell⟩ := World.cells?_some h1
      match cs', hlen with
      | [v0], _ =>
        obtain ⟨l, hl⟩ := bytes_open h2
        have r0 := hcell 0 (by omega)
        rw [Go.Deep.add_add] at r0
        exact ⟨(v0, l), by simpa using r0, hl⟩)
    refine ⟨len, fun i => (q i).2, by omega, some a, cap, rfl, fun i hi => ?_⟩
    obtain ⟨h1, h2⟩ := hq i hi
    obtain ⟨b, off, spot⟩ := a
    have hs : spot = none := by simpa [Addr.add] using World.cell?_spot (hq 0 (by omega)).1
    subst hs
    rw [add_plain] at h1
    exact ⟨b, off, _, rfl, h1, h2⟩

/-- The first texts, joined. -/
def jo (L : Nat → List Nat) (i : Nat) : List Nat := ((List.range i).map L).flatten
theorem jo_succ (L : Nat → List Nat) (i : Nat) : jo L (i + 1) = jo L i ++ L i := by simp [jo, List.range_succ]
theorem flip8 : ∀ b : Fin 256, bits .xor .u8 (b.1 : Int) 1 = ((b.1 ^^^ 1 : Nat) : Int) := by decide
theorem flip_lt : ∀ b : Fin 256, b.1 ^^^ 1 < 256 := by decide

set_option maxHeartbeats 4000000 in
theorem parts_walk (v : Value) (n : Nat) (L : Nat → List Nat) (w : World) (hT : Tabs w) (hv : PartsArg w v n L) :
    Calls Tryd.prog 4 #[v] w fun e w' => e = .returned (.bool true) ∧ Ext w w' := by
  obtain ⟨hnm, a, cap, rfl, hc⟩ := hv
  have HC : Hid (∀ i, i < n → ∃ b off u, a = some ⟨b, off, none⟩ ∧ w.cell? ⟨b, off + i, none⟩ = some u ∧ BytesAt w u (L i)) := hc
  have HT : Hid (Tabs w ∧ 2 < w.heap.size) := ⟨hT, hT.two⟩
  unfold maxLen at hnm
  clear hc hT
  go_enter Tryd.func4, Tryd.ntmps4
  go_wp2_with (first
    | (go_at_call 6; refine (alive_any _ HT.out.1).mono ?_; rintro e w1 ⟨rfl, he1⟩)
    | (go_at_call 9; refine (begin_any _ ((HT.out.1.ext he1).ext (Ext.alloc _ _))).mono ?_; rintro e w2 ⟨rfl, hS2, he2⟩))
  have ho2 : OwnB w2 w1.heap.size 5 (.slice (some ⟨w1.heap.size, 0, none⟩) 0 0) [] := (OwnB.made #[] [] rfl (Nat.le_refl _) rfl (by simp) (by simp) rfl : OwnB (w1.alloc (.cells #[] 5)) w1.heap.size 5 (.slice (some ⟨w1.heap.size, 0, none⟩) 0 0) []).ext he2
  have hsz : (w1.alloc (Obj.cells #[] 5)).heap.size = w1.heap.size + 1 := by simp
  rw [hsz] at hS2
  try rw [hsz]
  obtain ⟨sb, hsb1⟩ : ∃ sb, sb = w1.heap.size + 1 := ⟨_, rfl⟩
  rw [← hsb1] at hS2
  rw [← hsb1]
  have HSB : Hid (sb = w1.heap.size + 1 ∧ w.heap.size ≤ w1.heap.size) := ⟨hsb1, he1.size⟩
  have HE2 : Hid (Ext w w2) := (he1.trans (Ext.alloc _ _)).trans he2
  have HO : Hid (OwnB w2 w1.heap.size 5 (.slice (some ⟨w1.heap.size, 0, none⟩) 0 0) [] ∧ StateAt w2 sb []) := ⟨ho2, hS2⟩
  clear ho2 hS2 he2 he1 hsz hsb1
  go_loopg [3, 15] 22 (fun g s t wr => ∃ (i ga len cp : Nat), i ≤ 21 ∧ i ≤ n ∧ g = 22 - i ∧ t = .int .i64 (i : Int) ∧ s = .slice (some ⟨ga, 0, none⟩) len cp ∧ Hid (OwnB wr w1.heap.size 5 (.slice (some ⟨ga, 0, none⟩) len cp) (jo L i) ∧ StateAt wr sb (jo L i) ∧ Ext w wr ∧ ga ≠ sb ∧ (jo L i).length ≤ 300 * i ∧ sb < wr.heap.size))
  case atStart => exact ⟨0, w1.heap.size, 0, 0, by omega, Nat.zero_le _, rfl, rfl, rfl, HO.out.1, HO.out.2, HE2.out, by have := HSB.out; omega, by simp [jo], HO.out.2.blk.lt⟩
  case round =>
    obtain ⟨i, ga, len, cp, hi21, hin, rfl, rfl, rfl, HR⟩ := hrel
    by_cases hlt : i < n
    · have hd : decide ((i : Int) < (n : Int)) = true := decide_eq_true (by omega)
      obtain ⟨b, off, u, rfl, hu, hbu⟩ := HC.out i hlt
      have hur := HR.out.2.2.1.cell hu
      have HBU : Hid (BytesAt w u (L i)) := hbu
      have hul : (L i).length ≤ 9223372036854775807 := by have := hbu.2.1; unfold maxLen at this; omega
      obtain ⟨ua, uc, rfl, _, _⟩ := hbu.form
      clear hbu hu
      by_cases h20 : i > 20
      · have hg1 : decide ((i : Int) > 20) = true := decide_eq_true (by omega)
        go_wp2
        go_ret
        exact ⟨rfl, HR.out.2.2.1⟩
      · have hg1 : decide ((i : Int) > 20) = false := decide_eq_false (by omega)
        by_cases h300 : (L i).length > 300
        · have hg2 : decide (((L i).length : Int) > 300) = true := decide_eq_true (by omega)
          go_wp2
          go_ret
          exact ⟨rfl, HR.out.2.2.1⟩
        · have hg2 : decide (((L i).length : Int) > 300) = false := decide_eq_false (by omega)
          have HW : Hid (w.heap.size ≤ w1.heap.size ∧ sb = w1.heap.size + 1 ∧ (jo L i).length ≤ 6300 ∧ (L i).length ≤ 300) := ⟨HSB.out.2, HSB.out.1, by have := HR.out.2.2.2.2.1; omega, by omega⟩
          have HGA : Hid (w1.heap.size ≤ ga ∧ ga ≠ sb) := ⟨HR.out.1.blk (g := ga) (by simp [blockOf]), HR.out.2.2.2.1⟩
          obtain ⟨D, hD⟩ : ∃ D, D = Sha.dgst (jo L i ++ L i) := ⟨_, rfl⟩
          have HD : Hid (D = Sha.dgst (jo L i ++ L i)) := hD
          have HDL : Hid (D.length = 32 ∧ Sha.AllB D) := ⟨by rw [hD]; exact dgst_len _, by rw [hD]; exact dgst_all _⟩
          clear hD
          go_wp2_with (first
            | (at_builtin; refine wl_appendG byteT rfl _ _ rfl w3.heap.size w3.heap.size 0 0 [] (L i) rfl (OwnB.made #[] [] rfl (Nat.le_refl _) rfl (by simp) (by simp) rfl) ((HBU.out.ext HE3.out).ext (Ext.alloc _ _)) (by simp; omega) ?_; intro g4 cp4 w4 ho4 hk4 hg4; simp only [List.nil_append] at ho4 ⊢; have HE4 : Hid (Ext w3 w4) := (Ext.alloc _ _).of_but hk4 (fun k e => by subst e; exact Nat.le_refl _))
            | (at_builtin; refine wl_appendG byteT rfl _ _ rfl w1.heap.size _ _ _ (jo L i) (L i) rfl HR.out.1 (HBU.out.ext HR.out.2.2.1) (by have := HW.out; omega) ?_; intro ga2 cp2 w3 ho3 hk3 hg3; have HE3 : Hid (Ext w w3) := HR.out.2.2.1.of_but hk3 (fun k e => by subst e; exact Nat.le_trans HW.out.1 HGA.out.1); have hS3 : StateAt w3 sb (jo L i) := HR.out.2.1.but hk3 (Ne.symm HR.out.2.2.2.1))
            | (go_at_call 10; refine (add_any (HT.out.1.ext (HE3.out.trans HE4.out)) (hS3.ext HE4.out) ho4.bytes (fun _ g hg => by have := ho4.blk hg; have := hS3.blk.lt; omega) (by have := HT.out; have := HW.out; omega) (by have := HW.out; omega)).mono ?_; rintro e w5 ⟨⟨x, rfl⟩, hS5, hk5⟩))
          have hgl := hS3.blk.lt
          have hg4s : g4 ≠ sb := by have := ho4.blk (g := g4) (by simp [blockOf]); omega
          have hga2 : ga2 ≠ sb ∧ ga2 < w3.heap.size := ⟨by have := HR.out.2.2.2.1; have := HR.out.2.2.2.2.2; omega, by have := ho3.cap; omega⟩
          have ho5 : OwnB w5 w3.heap.size 5 (.slice (some ⟨g4, 0, none⟩) (L i).length cp4) (L i) := ho4.butK hk5 (fun g hg => by simp [blockOf] at hg; subst hg; exact hg4s)
          have ho35 : OwnB w5 w1.heap.size 5 (.slice (some ⟨ga2, 0, none⟩) (jo L i ++ L i).length cp2) (jo L i ++ L i) := (ho3.ext HE4.out).butK hk5 (fun g hg => by simp [blockOf] at hg; subst hg; exact hga2.1)
          have hE5 : Ext w w5 := (HE3.out.trans HE4.out).of_but hk5 (fun k e => by subst e; have := HW.out; omega)
          have hg43 : w3.heap.size ≤ g4 := ho4.blk (g := g4) (by simp [blockOf])
          have H5 : Hid (OwnB w5 w3.heap.size 5 (.slice (some ⟨g4, 0, none⟩) (L i).length cp4) (L i) ∧ OwnB w5 w1.heap.size 5 (.slice (some ⟨ga2, 0, none⟩) (jo L i ++ L i).length cp2) (jo L i ++ L i) ∧ StateAt w5 sb (jo L i ++ L i) ∧ Ext w w5 ∧ g4 ≠ sb ∧ ga2 ≠ sb ∧ ga2 < w3.heap.size ∧ w3.heap.size ≤ g4 ∧ w.heap.size ≤ w3.heap.size) := ⟨ho5, ho35, hS5, hE5, hg4s, hga2.1, hga2.2, hg43, HE3.out.size⟩
          clear ho3 ho4 ho5 ho35 hS3 hS5 hk3 hk4 hk5 hg3 hg4 hg4s hga2 hE5 hg43 hgl HE3 HE4
          go_loopg [38] (L i).length (fun g s wr => ∃ (k : Nat) (l' : List Nat), k ≤ (L i).length ∧ g = (L i).length - k ∧ s = .int .i64 (k : Int) ∧ Hid (OwnB wr w3.heap.size 5 (.slice (some ⟨g4, 0, none⟩) (L i).length cp4) l' ∧ l'.length = (L i).length ∧ KeepBut (· = g4) w5 wr))
          case atStart => exact ⟨0, L i, Nat.zero_le _, rfl, rfl, H5.out.1, rfl, KeepBut.refl _ _⟩
          case round =>
            obtain ⟨k, l', hk, rfl, rfl, HQ⟩ := hrel
            by_cases hkl : k < (L i).length
            · have hdk : decide ((k : Int) < ((L i).length : Int)) = true := decide_eq_true (by omega)
              have hck := HQ.out.1.cellAt k (by rw [HQ.out.2.1]; exact hkl)
              have hfk := HQ.out.1.frozenAt k
              have hbk : l'.getD k 0 < 256 := HQ.out.1.1 _ (getD_mem l' 0 k (by rw [HQ.out.2.1]; exact hkl))
              generalize l'.getD k 0 = bb at *
              have hfl := flip8 ⟨bb, hbk⟩
              have hfl2 := flip_lt ⟨bb, hbk⟩
              simp only at hfl hfl2
              generalize bb ^^^ 1 = bf at *
              go_wp2
              have hst := HQ.out.1.stored k bf hfl2
              go_roundg ((L i).length - (k + 1))
              case measure => omega
              case rel => exact ⟨k + 1, _, by omega, rfl, by simp, hst.1, by rw [List.length_set]; exact HQ.out.2.1, HQ.out.2.2.trans (KeepBut.grown hst.2 (fun r e => by cases e; rfl))⟩
            · have hdk : decide ((k : Int) < ((L i).length : Int)) = false := decide_eq_false (by omega)
              have hS6 := H5.out.2.2.1.but HQ.out.2.2 (Ne.symm H5.out.2.2.2.2.1)
              have ho6 := H5.out.2.1.butK HQ.out.2.2 (fun g hg => by simp [blockOf] at hg; subst hg; have := H5.out; omega)
              have hE6 : Ext w _ := H5.out.2.2.2.1.of_but HQ.out.2.2 (fun k e => by subst e; have := H5.out; omega)
              have HH : Hid _ := And.intro hS6 (And.intro ho6 hE6)
              clear hS6 ho6 hE6
              go_wp2_with (first
                | (go_at_call 11; refine (stSum_any (HT.out.1.ext HH.out.2.2) HH.out.1 (by have := HW.out; simp; omega)).mono ?_; rintro e w7 ⟨rfl, he7⟩; rw [← HD.out])
                | (go_at_call 7; refine (sum_any (ls := [jo L i ++ L i]) (HT.out.1.ext ((HH.out.2.2.trans he7).trans (Ext.alloc _ _))) (PartsOf.one w7 _ rfl (by have := (HH.out.2.1.ext he7).bytes; simpa using this)) (by have := HW.out; simp; omega)).mono ?_; rintro e w8 ⟨rfl, he8⟩; rw [show [jo L i ++ L i].flatten = jo L i ++ L i by simp, ← HD.out])
                | (refine wpList_of_run rfl (exec_neqA _ rfl rfl rfl HDL.out.1 HDL.out.2) ?_))
              have hE78 : Ext _ w8 := (he7.trans (Ext.alloc _ _)).trans he8
              go_roundg (22 - (i + 1))
              case measure => omega
              case rel =>
                refine ⟨i + 1, ga2, _, cp2, by omega, by omega, rfl, by simp, rfl, ?_, ?_, ?_, H5.out.2.2.2.2.2.1, ?_, ?_⟩
                · rw [jo_succ]; have := HH.out.2.1.ext hE78; simpa using this
                · rw [jo_succ]; exact HH.out.1.ext hE78
                · exact HH.out.2.2.trans hE78
                · rw [jo_succ, List.length_append]; have := HR.out.2.2.2.2.1; have := HW.out; omega
                · exact (HH.out.1.ext hE78).blk.lt
    · have hd : decide ((i : Int) < (n : Int)) = false := decide_eq_false (by omega)
      obtain rfl : i = n := by omega
      obtain ⟨D, hD⟩ : ∃ D, D = Sha.dgst (jo L i) := ⟨_, rfl⟩
      have HD : Hid (D = Sha.dgst (jo L i)) := hD
      have q1 := run_eqlA (D := D) (by rw [hD]; exact dgst_len _) (by rw [hD]; exact dgst_all _)
      have p1 := run_guardA (D := D) .eql
      clear hD
      have HP : Hid (PartsOf w (.slice a i cap) ((List.range i).map L)) := ⟨by simp; omega, a, cap, by simp, fun j hj => by
        have hj' : j < i := by simpa using hj
        obtain ⟨b, off, u, e, hu, hbu⟩ := HC.out j hj'
        exact ⟨b, off, u, e, hu, by simpa [List.getD_eq_getElem?_getD, hj'] using hbu⟩⟩
      have HJ : Hid (((List.range i).map L).flatten = jo L i ∧ (jo L i).length ≤ 6300) := ⟨rfl, by have := HR.out.2.2.2.2.1; omega⟩
      go_wp2_with (first
        | (go_at_call 11; refine (stSum_any (HT.out.1.ext HE9.out) (hS9.ext he10) (by have := HJ.out; omega)).mono ?_; rintro e w11 ⟨rfl, he11⟩; rw [← HD.out])
        | (go_at_call 11; refine (stSum_any (HT.out.1.ext HE8.out) hS9 (by have := HJ.out; omega)).mono ?_; rintro e w10 ⟨rfl, he10⟩; rw [← HD.out]; have HE9 : Hid (Ext w w10) := HE8.out.trans he10)
        | (go_at_call 7; refine (sum_any (ls := [jo L i]) (HT.out.1.ext (HE7.out.trans (Ext.alloc _ _))) (PartsOf.one w7 _ rfl (HR.out.1.ext he7).bytes) (by have := HJ.out; simp; omega)).mono ?_; rintro e w8 ⟨rfl, he8⟩; rw [show [jo L i].flatten = jo L i by simp, ← HD.out]; have HE8 : Hid (Ext w w8) := (HE7.out.trans (Ext.alloc _ _)).trans he8; have hS9 := ((HR.out.2.1.ext he7).ext (Ext.alloc _ _)).ext he8)
        | (go_at_call 7; refine (sum_any (ls := (List.range i).map L) (HT.out.1.ext HR.out.2.2.1) (HP.out.ext HR.out.2.2.1) (by have := HJ.out; rw [this.1]; omega)).mono ?_; rintro e w7 ⟨rfl, he7⟩; rw [HJ.out.1, ← HD.out]; have HE7 : Hid (Ext w w7) := HR.out.2.2.1.trans he7))
      go_ret
      exact ⟨rfl, HE9.out.trans he11⟩
end Go.Proofs.YtebnaffkgeiomaaDoor
