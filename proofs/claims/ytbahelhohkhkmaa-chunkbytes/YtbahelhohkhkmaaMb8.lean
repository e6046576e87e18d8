/- Texts of the seat, one behind the other. No condition of its own. -/
import Derived.Test.YtbahelhohkhkmaaMb7
import Derived.Deep.CutRange
set_option linter.unusedVariables false
set_option linter.unusedSimpArgs false
/- The document's bytes of a good chunk: of the kinds that begin. No condition of its own. -/
namespace Go.Proofs.Ytbahelhohkhkmaa
namespace Tlv
open Go Go.RowKit
set_option maxRecDepth 100000
theorem goodP_start1 {r : List Nat} {L : List Int} (hr : r.length ≤ 64) : ∀ p ∈ ((32770, r) :: pAddrs L : List Par), goodP p = true := fun p hp => by
 rcases List.mem_cons.1 hp with rfl | h
 ·
  exact (goodP_iff _).2 ⟨by show (0 : Int) ≤ 32770; decide, by show (32770 : Int) ≤ 65535; decide, by show r.length ≤ 4000; omega⟩
 ·
  obtain ⟨a, _, rfl⟩ := List.mem_map.1 h
  exact (goodP_iff _).2 ⟨by show (0 : Int) ≤ 5; decide, by show (5 : Int) ≤ 65535; decide, by show (be a.toNat 4).length ≤ 4000; rw [be_len]; decide⟩
theorem goodP_start2 {r i : List Nat} {L : List Int} (hr : r.length ≤ 64) (hi : i.length ≤ 300) : ∀ p ∈ (((32770, r) :: pAddrs L) ++ [(7, i)] : List Par), goodP p = true := fun p hp => by
 rcases List.mem_append.1 hp with h | h
 ·
  exact goodP_start1 hr p h
 ·
  exact goodP_one (by decide) (by decide) (by omega) p h
theorem all_iffD {α : Type} (f : α → Bool) (d : α) (L : List α) : L.all f = true ↔ ∀ k, k < L.length → f (L.getD k d) = true := by
 rw [List.all_eq_true]
 constructor
 ·
  intro h k hk
  rw [List.getD_eq_getElem?_getD, List.getElem?_eq_getElem hk]
  exact h _ (List.getElem_mem hk)
 ·
  intro h x hx
  obtain ⟨k, hk, rfl⟩ := List.getElem_of_mem hx
  have := h k hk
  rwa [List.getD_eq_getElem?_getD, List.getElem?_eq_getElem hk] at this
set_option maxHeartbeats 32000000 in
theorem docB_1 {w : World} {c : Ck} {s : Sv} (ha : CkAt w s c) (hf : Fit c) (hg : GoodC c) (hk : c.kind = 1) :
  Calls Try.prog 16 #[.agg (CV c s)] w (DocBytesIs w c) := by
 have hbl : flagN c.pb c.pe c.pu = 0 := by have h := ((yes_iff c).2 hg).blank (by rw [hk]; decide); rw [h.2.2.2.1, h.2.2.2.2.1, h.2.2.2.2.2.1]; rfl
 have HFQ : Hid (flagN c.pb c.pe c.pu = 0) := hbl
 clear hbl
 have hst : StartC c := good_1 hg hk
 have h1 := hst.win
 have h2 := hst.out
 have h3 := hst.inn
 have HVL0 := valB_len hg
 obtain ⟨W, hW⟩ : ∃ q : Nat, c.win = (q : Int) := ⟨c.win.toNat, by omega⟩
 have CM9 : ∀ {wx : World}, Blk wx w.heap.size (CV c s) 32 → wx.cell? ⟨w.heap.size, 9, none⟩ = some (.int .i64 (W : Int)) := fun h => by rw [← hW]; exact cv9 h
 obtain ⟨O, hO⟩ : ∃ q : Nat, c.out = (q : Int) := ⟨c.out.toNat, by omega⟩
 have CM10 : ∀ {wx : World}, Blk wx w.heap.size (CV c s) 32 → wx.cell? ⟨w.heap.size, 10, none⟩ = some (.int .i64 (O : Int)) := fun h => by rw [← hO]; exact cv10 h
 obtain ⟨I, hI⟩ : ∃ q : Nat, c.inn = (q : Int) := ⟨c.inn.toNat, by omega⟩
 have CM11 : ∀ {wx : World}, Blk wx w.heap.size (CV c s) 32 → wx.cell? ⟨w.heap.size, 11, none⟩ = some (.int .i64 (I : Int)) := fun h => by rw [← hI]; exact cv11 h
 have b_tag := hf.tag
 have w_tag : IntKind.i64.wrap (c.tag : Int) = (c.tag : Int) := by rw [IntKind.wrap_i64]; omega
 have v_tag : wrap64 (c.tag : Int) = (c.tag : Int) := by unfold wrap64; omega
 have CM8 : ∀ {wx : World}, Blk wx w.heap.size (CV c s) 32 → wx.cell? ⟨w.heap.size, 8, none⟩ = some (.int .u32 (c.tag : Int)) := fun h => cv8 h
 have b_tsn := hf.tsn
 have w_tsn : IntKind.i64.wrap (c.tsn : Int) = (c.tsn : Int) := by rw [IntKind.wrap_i64]; omega
 have v_tsn : wrap64 (c.tsn : Int) = (c.tsn : Int) := by unfold wrap64; omega
 have CM12 : ∀ {wx : World}, Blk wx w.heap.size (CV c s) 32 → wx.cell? ⟨w.heap.size, 12, none⟩ = some (.int .u32 (c.tsn : Int)) := fun h => cv12 h
 have hvb : valB c = ((((be c.tag 4 ++ be W 4) ++ be O 2) ++ be I 2) ++ be c.tsn 4) ++ writeB ((32770, c.rand) :: pAddrs c.addrs) := by
  unfold valB
  rw [if_neg (by omega), if_pos (by omega)]
  unfold startV
  rw [hW, hO, hI, if_neg (by omega)]
  simp only [Int.toNat_natCast, writeB_cons, writeB_app, writeB_one, writeB_nil, List.append_assoc, List.append_nil, List.cons_append]
 have HVB : Hid (valB c = ((((be c.tag 4 ++ be W 4) ++ be O 2) ++ be I 2) ++ be c.tsn 4) ++ writeB ((32770, c.rand) :: pAddrs c.addrs)) := hvb
 clear hvb
 have hWb : W ≤ 2147483647 := by omega
 have hOb : O ≤ 8 := by omega
 have hIb : I ≤ 8 := by omega
 have HST : Hid ((1 ≤ c.rand.length ∧ c.rand.length ≤ 64) ∧ (1 ≤ c.addrs.length ∧ c.addrs.length ≤ 4) ∧ adsB c.addrs = true) := ⟨hst.rand, hst.addrs, hst.ads⟩
 obtain ⟨NA, hNA⟩ : ∃ n, n = c.addrs.length := ⟨_, rfl⟩
 have hn4 : NA ≤ 4 := by have := hst.addrs; omega
 obtain ⟨aA, haA⟩ : ∃ x, x = s.aA := ⟨_, rfl⟩
 have CM14 : ∀ {wx : World}, Blk wx w.heap.size (CV c s) 32 → wx.cell? ⟨w.heap.size, 14, none⟩ = some (.slice aA NA s.aC) := fun h => by rw [haA, hNA, ← (nums_len ha.a).1]; exact cv14 h
 have HAt : Hid (NumsAt .i64 w (.slice aA NA s.aC) c.addrs ∧ NA = c.addrs.length) := ⟨by rw [haA, hNA, ← (nums_len ha.a).1]; exact ha.a, hNA⟩
 clear h1 h2 h3 hst hW hO hI hNA haA
 have HA : Hid (CkAt w s c ∧ Fit c ∧ GoodC c ∧ c.kind = 1 ∧ (valB c).length ≤ 600) := ⟨ha, hf, hg, hk, HVL0⟩
 clear ha hf hg hk HVL0
 go_enter Try.func16, Try.ntmps16
 refine wp_seq_k (fun K0 hK => ?_)
 have HK0 := Stop.mk hK
 clear hK
 go_wp2_with (first
  | (refine wl_box (C := CV c s) rfl rfl rfl ?_; intro w1 hb1 he1 hx; clear hx))
 refine HK0.go _ _ ?_
 clear HK0
 have HS1 : Hid (Blk w1 w.heap.size (CV c s) 32 ∧ Ext w w1 ∧ True) := ⟨hb1, he1, trivial⟩
 clear hb1 he1
 refine wp_seq_k (fun K1 hK => ?_)
 have HK1 := Stop.mk hK
 clear hK
 go_wp2
 refine HK1.go _ _ ?_
 clear HK1
 refine wp_seq_k (fun K2 hK => ?_)
 have HK2 := Stop.mk hK
 clear hK
 go_wp2
 refine HK2.go _ _ ?_
 clear HK2
 refine wp_seq_k (fun K3 hK => ?_)
 have HK3 := Stop.mk hK
 clear hK
 go_wp2
 refine HK3.go _ _ ?_
 clear HK3
 refine wp_seq_k (fun Ksw hK => ?_)
 have HKsw := Stop.mk hK
 clear hK
 have c0 := cv0 HS1.out.1
 rw [HA.out.2.2.2.1] at c0
 obtain ⟨F1, hF⟩ : ∃ F, F = (be c.tag 4) ++ (be W 4) := ⟨_, rfl⟩
 have HPF : Hid ((be c.tag 4) <+: F1 ∧ F1 = (be c.tag 4) ++ (be W 4) ∧ (be c.tag 4).length + (be W 4).length ≤ 1000000 ∧ (be W 4).length ≤ (be c.tag 4).length) := ⟨by rw [hF]; exact List.prefix_append _ _, hF, by rw [be_len, be_len]; decide, by rw [be_len, be_len]; decide⟩
 have HLF1 : Hid (F1 = (be c.tag 4) ++ (be W 4) ∧ F1.length = 8) := ⟨hF, by rw [hF, List.length_append, be_len, be_len]⟩
 clear hF
 go_upto_region 16 with fail
 have HBx : ∀ {wx : World}, (Gr w.heap.size (be c.tag 4) F1) w1.drew wx → Blk wx w.heap.size (CV c s) 32 := fun h => h.blk (HS1.out.1.ext (Ext.drew _)) (by decide)
 have HEx : ∀ {wx : World}, (Gr w.heap.size (be c.tag 4) F1) w1.drew wx → Ext w wx := fun h => h.extO (HS1.out.2.1.trans (Ext.drew _)) (Nat.le_refl _)
 have HZx : ∀ {wx : World}, (Gr w.heap.size (be c.tag 4) F1) w1.drew wx → w.heap.size ≤ wx.heap.size := fun h => (HEx h).size
 refine wp_region_facts (fun t => bif Nat.ble 55 t && Nat.ble t 62 then some (t - 55) else bif Nat.beq t 4 then some 8 else none) 265 (Gr w.heap.size (be c.tag 4) F1)
  [Is (.pointer (some ⟨w.heap.size, 8, none⟩)),
   Is (.int .u32 (c.tag : Int)),
   Is (.int .i64 (c.tag : Int)),
   (NumV w.heap.size (be c.tag 4)),
   Is (.pointer (some ⟨w.heap.size, 9, none⟩)),
   Is (.int .i64 (W : Int)),
   (NumV w.heap.size (be W 4)),
   (NumV w.heap.size F1),
   (NumV w.heap.size F1)]
  rfl (by kernel_rfl) (by kernel_rfl) rfl Gr.refl (fun _ _ _ => Gr.trans) ?_ ?_ ?_
 ·
  exact Ks (Ks (Ks (KeepAll.cons (fun _ _ _ hR h => h.gr hR HPF.out.1) (Ks (Ks (KeepAll.cons (fun _ _ _ hR h => h.grK hR HPF.out.1 HPF.out.2.2.2) (KeepAll.cons (fun _ _ _ hR h => h.gr hR (List.prefix_refl _)) (KeepAll.cons (fun _ _ _ hR h => h.gr hR (List.prefix_refl _)) (KeepAll.nil)))))))))
 ·
  refine Gc (lr1 Gr.refl rfl rfl rfl (fun _ _ h => h) (fun r wx hR h1 => by simp [execOp, h1, go_sem])) ?_
  refine Gc (lr1 Gr.refl rfl rfl rfl (fun _ _ h => h) (fun r wx hR h1 => exg one22 rfl h1 (CM8 (HBx hR)))) ?_
  refine Gc (lr1 Gr.refl rfl rfl rfl (fun _ _ h => h) (fun r wx hR h1 => by simp [execOp, h1, w_tag, v_tag, go_sem])) ?_
  refine Gc ?_ ?_
  ·
   rintro r wx hR ⟨h1, h2, h3, _⟩
   replace h1 : r (.func 36) = .func (.func 36) #[] #[] := h1
   replace h2 : r (.tmp 57) = (.int .i64 (c.tag : Int)) := h2
   replace h3 : r (.const (.int .i64 4)) = .int .i64 4 := h3
   refine give_func #[.int .i64 (c.tag : Int), .int .i64 4] rfl h1 Try.call36 (by simp [h2, h3]) ?_
   refine (refNumI_any c.tag (by omega) 4 _).mono ?_
   rintro e w1 ⟨qa, qm, qc, rfl, hqm, hqo, hqe⟩
   rw [numBi4] at hqm hqo
   subst hqm
   exact ⟨_, rfl, Gr.of_ext hqe, _, _, rfl, hqo.base (HZx hR)⟩
  refine Gc (lr1 Gr.refl rfl rfl rfl (fun _ _ h => h) (fun r wx hR h1 => by simp [execOp, h1, go_sem])) ?_
  refine Gc (lr1 Gr.refl rfl rfl rfl (fun _ _ h => h) (fun r wx hR h1 => exg one3 rfl h1 (CM9 (HBx hR)))) ?_
  refine Gc ?_ ?_
  ·
   rintro r wx hR ⟨h1, h2, h3, _⟩
   replace h1 : r (.func 36) = .func (.func 36) #[] #[] := h1
   replace h2 : r (.tmp 60) = (.int .i64 (W : Int)) := h2
   replace h3 : r (.const (.int .i64 4)) = .int .i64 4 := h3
   refine give_func #[.int .i64 (W : Int), .int .i64 4] rfl h1 Try.call36 (by simp [h2, h3]) ?_
   refine (refNumI_any W (by omega) 4 _).mono ?_
   rintro e w1 ⟨qa, qm, qc, rfl, hqm, hqo, hqe⟩
   rw [numBi4] at hqm hqo
   subst hqm
   exact ⟨_, rfl, Gr.of_ext hqe, _, _, rfl, hqo.base (HZx hR)⟩
  refine Gc ?_ ?_
  ·
   rintro r wx hR ⟨h1, h2, _⟩
   replace h1 : ((NumV w.heap.size (be c.tag 4)) : Fact) wx (r (.tmp 58)) := h1
   replace h2 : ((NumV w.heap.size (be W 4)) : Fact) wx (r (.tmp 61)) := h2
   obtain ⟨xa, xc, xe, xo⟩ := h1
   obtain ⟨ya, yc, ye, yo⟩ := h2
   obtain ⟨ad, cap, w2, hr, ho2, ht⟩ := run_appG wx w.heap.size 24 _ _ (be c.tag 4) (be W 4) (be c.tag 4) F1 xo yo.bytes HPF.out.2.2.1 (HZx hR) (List.prefix_refl _) (by rw [← HPF.out.2.1]; exact List.prefix_refl _)
   exact gvo (exec_runG rfl rfl rfl hr) ⟨ht, by rw [HPF.out.2.1]; exact ⟨_, _, rfl, ho2⟩⟩
  refine Gc ?_ ?_
  ·
   rintro r wx hR ⟨h1, _⟩
   replace h1 : ((NumV w.heap.size F1) : Fact) wx (r (.tmp 62)) := h1
   exact give_move (.inr rfl) ⟨Gr.refl _, h1⟩
  exact GoodAll.nil
 ·
  intro vs w2 aY hR hold ha
  have hv0 : vs 0 = (.pointer (some ⟨w.heap.size, 8, none⟩)) := hold.at 0
  have hv1 : vs 1 = (.int .u32 (c.tag : Int)) := hold.at 1
  have hv2 : vs 2 = (.int .i64 (c.tag : Int)) := hold.at 2
  have hv4 : vs 4 = (.pointer (some ⟨w.heap.size, 9, none⟩)) := hold.at 4
  have hv5 : vs 5 = (.int .i64 (W : Int)) := hold.at 5
  obtain ⟨a2, c2, e9, ho9⟩ := hold.at 8
  simp only [List.dropLast_cons_cons, List.dropLast_singleton, putAll, Act.put, hv0, hv1, hv2, hv4, hv5, e9, List.setIfInBounds_toArray, List.set_cons_succ, List.set_cons_zero] at ha
  subst ha
  have HS2 : Hid (Blk w2 w.heap.size (CV c s) 32 ∧ Ext w w2 ∧ OB w2 w.heap.size (.slice a2 F1.length c2) F1) := ⟨HBx hR, HEx hR, by rw [← e9]; exact ho9⟩
  clear hold hR HBx HEx HZx hv0 hv1 hv2 hv4 hv5
  clear e9 ho9 HPF
  rename_i hK_
  refine hK_ _ _ ?_
  clear hK_
  obtain ⟨F2, hF⟩ : ∃ F, F = (F1 ++ (be O 2)) ++ (be I 2) := ⟨_, rfl⟩
  have HPF : Hid (F1 <+: F2 ∧ F1 ++ (be O 2) <+: F2 ∧ F2 = (F1 ++ (be O 2)) ++ (be I 2) ∧ F1.length + (be O 2).length ≤ 1000000 ∧ (F1 ++ (be O 2)).length + (be I 2).length ≤ 1000000 ∧ (be O 2).length ≤ F1.length ∧ (be I 2).length ≤ F1.length) := ⟨by rw [hF, List.append_assoc]; exact List.prefix_append _ _, by rw [hF]; exact List.prefix_append _ _, hF, by (try rw [List.length_append]); (try rw [be_len]); (try rw [be_len]); have := HLF1.out.2; omega, by (try rw [List.length_append]); (try rw [be_len]); (try rw [be_len]); have := HLF1.out.2; omega, by (try rw [List.length_append]); (try rw [be_len]); (try rw [be_len]); have := HLF1.out.2; omega, by (try rw [List.length_append]); (try rw [be_len]); (try rw [be_len]); have := HLF1.out.2; omega⟩
  have HLF2 : Hid (F2 = (F1 ++ (be O 2)) ++ (be I 2) ∧ F2.length = 12) := ⟨hF, by rw [hF, List.length_append, List.length_append, be_len, be_len]; have := HLF1.out.2; omega⟩
  clear hF
  refine wp_seq_k (fun Kr17 hK => ?_)
  have HKr17 := Stop.mk hK
  clear hK
  have HBx : ∀ {wx : World}, (Gr w.heap.size F1 F2) w2.drew wx → Blk wx w.heap.size (CV c s) 32 := fun h => h.blk (HS2.out.1.ext (Ext.drew _)) (by decide)
  have HEx : ∀ {wx : World}, (Gr w.heap.size F1 F2) w2.drew wx → Ext w wx := fun h => h.extO (HS2.out.2.1.trans (Ext.drew _)) (Nat.le_refl _)
  have HZx : ∀ {wx : World}, (Gr w.heap.size F1 F2) w2.drew wx → w.heap.size ≤ wx.heap.size := fun h => (HEx h).size
  have HPx : ∀ {wx : World}, (Gr w.heap.size F1 F2) w2.drew wx → OB wx w.heap.size (.slice a2 F1.length c2) F1 := fun h => h.ob (HS2.out.2.2.ext (Ext.drew _)) HPF.out.1
  refine wp_region_factsL (fun t => bif Nat.ble 63 t && Nat.ble t 71 then some (t - 63) else none) 265 (Gr w.heap.size F1 F2)
   [Is (.slice a2 F1.length c2),
    Is (.pointer (some ⟨w.heap.size, 10, none⟩)),
    Is (.int .i64 (O : Int)),
    (NumV w.heap.size (be O 2)),
    (NumV w.heap.size (F1 ++ (be O 2))),
    Is (.pointer (some ⟨w.heap.size, 11, none⟩)),
    Is (.int .i64 (I : Int)),
    (NumV w.heap.size (be I 2)),
    (NumV w.heap.size F2)]
   (by intro h; cases h) 71 8 4 rfl rfl rfl rfl (by kernel_rfl) (by kernel_rfl) rfl (by kernel_rfl) Gr.refl (fun _ _ _ => Gr.trans) ?_ ?_ ?_
  ·
   exact Ks (Ks (Ks (KeepAll.cons (fun _ _ _ hR h => h.grK hR HPF.out.1 HPF.out.2.2.2.2.2.1) (KeepAll.cons (fun _ _ _ hR h => h.gr hR HPF.out.2.1) (Ks (Ks (KeepAll.cons (fun _ _ _ hR h => h.grK hR HPF.out.1 HPF.out.2.2.2.2.2.2) (KeepAll.cons (fun _ _ _ hR h => h.gr hR (List.prefix_refl _)) (KeepAll.nil)))))))))
  ·
   refine Gc (lr1 Gr.refl rfl rfl rfl (fun _ _ h => h) (fun r wx hR h1 => exec_mv (.inl rfl) h1)) ?_
   refine Gc (lr1 Gr.refl rfl rfl rfl (fun _ _ h => h) (fun r wx hR h1 => by simp [execOp, h1, go_sem])) ?_
   refine Gc (lr1 Gr.refl rfl rfl rfl (fun _ _ h => h) (fun r wx hR h1 => exg one3 rfl h1 (CM10 (HBx hR)))) ?_
   refine Gc ?_ ?_
   ·
    rintro r wx hR ⟨h1, h2, h3, _⟩
    replace h1 : r (.func 36) = .func (.func 36) #[] #[] := h1
    replace h2 : r (.tmp 65) = (.int .i64 (O : Int)) := h2
    replace h3 : r (.const (.int .i64 2)) = .int .i64 2 := h3
    refine give_func #[.int .i64 (O : Int), .int .i64 2] rfl h1 Try.call36 (by simp [h2, h3]) ?_
    refine (refNumI_any O (by omega) 2 _).mono ?_
    rintro e w1 ⟨qa, qm, qc, rfl, hqm, hqo, hqe⟩
    rw [numBi2] at hqm hqo
    subst hqm
    exact ⟨_, rfl, Gr.of_ext hqe, _, _, rfl, hqo.base (HZx hR)⟩
   refine Gc ?_ ?_
   ·
    rintro r wx hR ⟨h1, h2, _⟩
    replace h1 : r (.tmp 63) = (.slice a2 F1.length c2) := h1
    replace h2 : ((NumV w.heap.size (be O 2)) : Fact) wx (r (.tmp 66)) := h2
    obtain ⟨ya, yc, ye, yo⟩ := h2
    obtain ⟨ad, cap, w2, hr, ho2, ht⟩ := run_appG wx w.heap.size 24 (.slice a2 F1.length c2) _ F1 (be O 2) F1 F2 (HPx hR) yo.bytes HPF.out.2.2.2.1 (HZx hR) (List.prefix_refl _) HPF.out.2.1
    exact gvo (exec_runG rfl h1 rfl hr) ⟨ht, _, _, rfl, ho2⟩
   refine Gc (lr1 Gr.refl rfl rfl rfl (fun _ _ h => h) (fun r wx hR h1 => by simp [execOp, h1, go_sem])) ?_
   refine Gc (lr1 Gr.refl rfl rfl rfl (fun _ _ h => h) (fun r wx hR h1 => exg one3 rfl h1 (CM11 (HBx hR)))) ?_
   refine Gc ?_ ?_
   ·
    rintro r wx hR ⟨h1, h2, h3, _⟩
    replace h1 : r (.func 36) = .func (.func 36) #[] #[] := h1
    replace h2 : r (.tmp 69) = (.int .i64 (I : Int)) := h2
    replace h3 : r (.const (.int .i64 2)) = .int .i64 2 := h3
    refine give_func #[.int .i64 (I : Int), .int .i64 2] rfl h1 Try.call36 (by simp [h2, h3]) ?_
    refine (refNumI_any I (by omega) 2 _).mono ?_
    rintro e w1 ⟨qa, qm, qc, rfl, hqm, hqo, hqe⟩
    rw [numBi2] at hqm hqo
    subst hqm
    exact ⟨_, rfl, Gr.of_ext hqe, _, _, rfl, hqo.base (HZx hR)⟩
   refine Gc ?_ ?_
   ·
    rintro r wx hR ⟨h1, h2, _⟩
    replace h1 : ((NumV w.heap.size (F1 ++ (be O 2))) : Fact) wx (r (.tmp 67)) := h1
    replace h2 : ((NumV w.heap.size (be I 2)) : Fact) wx (r (.tmp 70)) := h2
    obtain ⟨xa, xc, xe, xo⟩ := h1
    obtain ⟨ya, yc, ye, yo⟩ := h2
    obtain ⟨ad, cap, w2, hr, ho2, ht⟩ := run_appG wx w.heap.size 24 _ _ (F1 ++ (be O 2)) (be I 2) F1 F2 xo yo.bytes HPF.out.2.2.2.2.1 (HZx hR) (List.prefix_append _ _) (by rw [← HPF.out.2.2.1]; exact List.prefix_refl _)
    exact gvo (exec_runG rfl rfl rfl hr) ⟨ht, by rw [HPF.out.2.2.1]; exact ⟨_, _, rfl, ho2⟩⟩
   exact GoodAll.nil
  ·
   intro vs w3 aY hR hold ha
   have hv0 : vs 0 = (.slice a2 F1.length c2) := hold.at 0
   have hv1 : vs 1 = (.pointer (some ⟨w.heap.size, 10, none⟩)) := hold.at 1
   have hv2 : vs 2 = (.int .i64 (O : Int)) := hold.at 2
   have hv5 : vs 5 = (.pointer (some ⟨w.heap.size, 11, none⟩)) := hold.at 5
   have hv6 : vs 6 = (.int .i64 (I : Int)) := hold.at 6
   obtain ⟨a3, c3, e9, ho9⟩ := hold.at 8
   simp only [List.dropLast_cons_cons, List.dropLast_singleton, putAll, Act.put, hv0, hv1, hv2, hv5, hv6, e9, List.setIfInBounds_toArray, List.set_cons_succ, List.set_cons_zero] at ha
   subst ha
   have HS3 : Hid (Blk w3 w.heap.size (CV c s) 32 ∧ Ext w w3 ∧ OB w3 w.heap.size (.slice a3 F2.length c3) F2) := ⟨HBx hR, HEx hR, by rw [← e9]; exact ho9⟩
   clear hold hR HBx HEx HZx HPx hv0 hv1 hv2 hv5 hv6
   clear e9 ho9 HPF
   refine HKr17.go _ _ ?_
   clear HKr17
   refine wp_seq_k (fun Kr18 hK => ?_)
   have HKr18 := Stop.mk hK
   clear hK
   have c12 := CM12 HS3.out.1
   go_wp2_with (first
    | (have q_ := ho4; clear q_; at_builtin; refine wl_app (l := F2) (m := be c.tsn 4) (base := w.heap.size) rfl rfl rfl rfl (HS3.out.2.2.ext he4) ho4.bytes (by have := HLF2.out.2; rw [be_len]; omega) (Nat.le_trans HS3.out.2.1.size he4.size) ?_; intro a5 n5 c5 w5 hn5 ho5 hk5 hg5; clear hg5; have HE5 : Hid (Blk w5 w.heap.size (CV c s) 32 ∧ Ext w w5) := ⟨(HS3.out.1.ext he4).but hk5 (fun e => (HS3.out.2.2.ext he4).ne (HS3.out.1.ext he4) (by decide) _ e rfl), (HS3.out.2.1.trans he4).of_but hk5 (fun q e => ((HS3.out.2.2.ext he4).lt e).1)⟩; clear hk5 ho4)
    | (go_at_call 36; refine (refNumI_any c.tsn (by omega) 4 _).mono ?_; rintro e w4 ⟨a4, n4, c4, rfl, hn4', ho4', he4⟩; rw [numBi4] at hn4' ho4'; have HN4 : Hid (n4 = (be c.tsn 4).length) := hn4'; have ho4 := ho4'.base HS3.out.2.1.size; clear hn4' ho4'))
   refine HKr18.go _ _ ?_
   clear HKr18
   clear c12 he4 HN4 HS2 HS3
   clear w_tag v_tag b_tag w_tsn v_tsn b_tsn
   obtain ⟨F3, hF3⟩ : ∃ F, F = F2 ++ be c.tsn 4 := ⟨_, rfl⟩
   rw [← hF3] at ho5 hn5
   have HLF3 : Hid (F3 = ((((be c.tag 4 ++ be W 4) ++ be O 2) ++ be I 2) ++ be c.tsn 4) ∧ F3.length = 16 ∧ n5 = F3.length) := ⟨by rw [hF3, HLF2.out.1, HLF1.out.1], by rw [hF3, List.length_append, be_len, HLF2.out.2], hn5.out⟩
   clear hF3 hn5 HLF1 HLF2
   refine wp_seq_k (fun Kr19 hK => ?_)
   have HKr19 := Stop.mk hK
   clear hK
   have c13 := cv13 HE5.out.1
   have hrN : Hid (s.rN = c.rand.length) := (bytes_len HA.out.1.r).1
   go_wp2_with (first
    | (at_builtin; refine wl_pushQ (k := 32770) (val := c.rand) (w0 := w) (L := []) (b := w5.heap.size) rfl rfl parT2 rfl rfl (OwnQ.nil _ _ _) (cellNew _ _ _ _ _ _ rfl) (cellNew _ _ _ _ _ _ rfl) (.inr HA.out.1.r) (by simp) (HE5.out.2.trans (Ext.alloc _ _)) ?_; intro a6 n6 c6 w6 hn6 ho6 hk6 he6; rw [List.nil_append] at ho6; have HE6 : Hid (Blk w6 w.heap.size (CV c s) 32 ∧ Ext w w6 ∧ OB w6 w.heap.size (.slice a5 n5 c5) F3) := ⟨(HE5.out.1.ext (Ext.alloc _ _)).but hk6 (fun e => by cases e), he6, (ho5.ext (Ext.alloc _ _)).but hk6 (fun q e e2 => by cases e2)⟩; clear hk6 he6 ho5))
   refine HKr19.go _ _ ?_
   clear HKr19
   clear c13 hrN HE5
   have HN6 : Hid (n6 = 1) := hn6.out
   clear hn6
   refine wp_seq_k (fun Klp hK => ?_)
   have HKlp := Stop.mk hK
   clear hK
   go_wp2
   go_loopg [5, 6] NA (fun gm x t wr => ∃ (k : Nat) (oa : Option Addr) (on oc : Nat), k ≤ NA ∧ gm = NA - k ∧ x = .slice oa on oc ∧ t = .int .i64 (k : Int) ∧ Hid (on = k + 1 ∧ Blk wr w.heap.size (CV c s) 32 ∧ Ext w wr ∧ OB wr w.heap.size (.slice a5 n5 c5) F3 ∧ OwnQ 85 w wr (.slice oa on oc) ((32770, c.rand) :: pAddrs (c.addrs.take k))))
   case atStart => exact ⟨0, a6, _, c6, Nat.zero_le _, rfl, rfl, rfl, HN6.out, HE6.out.1, HE6.out.2.1, HE6.out.2.2, by have := ho6; simpa [pAddrs] using this⟩
   case round =>
    obtain ⟨k, oa, on, oc, hk, rfl, rfl, rfl, HR⟩ := hrel
    by_cases hlt : k < NA
    ·
     have hd : decide ((k : Int) < (NA : Int)) = true := decide_eq_true (by omega)
     have hkL : k < c.addrs.length := by rw [← HAt.out.2]; exact hlt
     have hkn : (k : Int) < (NA : Int) := by omega
     have hd2 : decide (k < NA) = true := decide_eq_true hlt
     obtain ⟨b, off, rfl, hc0⟩ := HAt.out.1.cellAt k hkL
     have hab := adB_nat ((all_iffD adB 0 _).1 HST.out.2.2 k hkL)
     obtain ⟨A, hA, hA2⟩ := hab
     replace hc0 := HR.out.2.2.1.cell hc0
     rw [hA] at hc0
     have HAk : Hid (pAddrs (c.addrs.take (k + 1)) = pAddrs (c.addrs.take k) ++ [(5, be A 4)]) := show _ = _ by rw [take_snocD 0 hkL, hA]; simp [pAddrs]
     have d9 := CM14 HR.out.2.1
     have HKk : Hid (k < NA) := hlt
     clear hA hkL
     go_wp2_with (first
      | (at_builtin; refine wl_pushQ (k := 5) (val := be A 4) (w0 := w) (L := ((32770, c.rand) :: pAddrs (c.addrs.take k))) (b := w8.heap.size) rfl rfl parT2 rfl rfl (HR.out.2.2.2.2.ext (he8.trans (Ext.alloc _ _))) (cellNew _ _ _ _ _ _ rfl) (cellNew _ _ _ _ _ _ rfl) (.inl (HO8.out.ext (Ext.alloc _ _))) (by simp only [List.length_cons, pAddrs, List.length_map, List.length_take]; omega) ((HR.out.2.2.1.trans he8).trans (Ext.alloc _ _)) ?_; intro a9 n9 c9 w9 hn9 ho9 hk9 he9)
      | (go_at_call 36; refine (refNumI_any A (by omega) 4 _).mono ?_; rintro e w8 ⟨na8, nn8, nc8, rfl, hnn8, ho8', he8⟩; rw [numBi4] at hnn8 ho8'; have HN8 : Hid (nn8 = (be A 4).length) := hnn8; have HO8 : Hid (OB w8 w.heap.size (.slice na8 nn8 nc8) (be A 4)) := ho8'.base HR.out.2.2.1.size; clear hnn8 ho8'))
     go_roundg (NA - (k + 1))
     case measure => omega
     case rel =>
      have hEA : Ext wr (w8.alloc (.cells #[.int .i64 5, .slice na8 nn8 nc8] 85)) := he8.trans (Ext.alloc _ _)
      exact ⟨k + 1, _, _, _, by omega, rfl, rfl, by simp, by rw [hn9.out]; simp only [List.length_cons, pAddrs, List.length_map, List.length_take]; have h1 := HKk.out; have h2 := HAt.out.2; omega, (HR.out.2.1.ext hEA).but hk9 (fun e => (HR.out.2.2.2.2.ext hEA).ne (HR.out.2.1.ext hEA) (by decide) e), he9, (HR.out.2.2.2.1.ext hEA).keepQ (HR.out.2.2.2.2.ext hEA) (by decide) hk9, by rw [HAk.out]; exact ho9⟩
    ·
     have hd : decide ((k : Int) < (NA : Int)) = false := decide_eq_false (by omega)
     have hd2 : decide (k < NA) = false := decide_eq_false hlt
     have HT_ : Hid (c.addrs.take k = c.addrs) := List.take_of_length_le (by rw [← HAt.out.2]; omega)
     rw [HT_.out] at HR
     obtain ⟨w9, hw9⟩ : ∃ x, x = wr := ⟨_, rfl⟩
     obtain ⟨a9, ha9⟩ : ∃ x, x = oa := ⟨_, rfl⟩
     obtain ⟨c9, hc9⟩ : ∃ x, x = oc := ⟨_, rfl⟩
     obtain ⟨n9, hn9⟩ : ∃ x, x = on := ⟨_, rfl⟩
     subst hw9 ha9 hc9 hn9
     have HS9 : Hid (n9 = k + 1 ∧ Blk w9 w.heap.size (CV c s) 32 ∧ Ext w w9 ∧ OB w9 w.heap.size (.slice a5 n5 c5) F3 ∧ OwnQ 85 w w9 (.slice a9 n9 c9) ((32770, c.rand) :: pAddrs c.addrs)) := HR.out
     clear HR hlt HE6 ho6 c0
     have c0 := cv0 HS9.out.2.1
     rw [HA.out.2.2.2.1] at c0
     have d9 := CM14 HS9.out.2.1
     go_wp2
     clear hd hd2 HT_ d9
     refine HKlp.go _ _ ?_
     clear HKlp
     go_wp2
     have HT : Hid (Blk w9 w.heap.size (CV c s) 32 ∧ Ext w w9 ∧ BytesAt w9 (.slice a5 n5 c5) (F3) ∧ ParsAt w9 (.slice a9 n9 c9) ((32770, c.rand) :: pAddrs c.addrs) ∧ F3 ++ writeB ((32770, c.rand) :: pAddrs c.addrs) = valB c ∧ (F3 : List Nat).length ≤ 600 ∧ (writeB ((32770, c.rand) :: pAddrs c.addrs)).length ≤ 700 ∧ ((32770, c.rand) :: pAddrs c.addrs : List Par).length ≤ 20 ∧ (∀ p ∈ ((32770, c.rand) :: pAddrs c.addrs : List Par), goodP p = true) ∧ flagN c.pb c.pe c.pu = 0) := ⟨by exact HS9.out.2.1, by exact HS9.out.2.2.1, by exact HS9.out.2.2.2.1.bytes, by exact HS9.out.2.2.2.2.pars HS9.out.2.2.1, by rw [HVB.out, HLF3.out.1], by rw [HLF3.out.2.1]; omega, by have h1 := HA.out.2.2.2.2; rw [HVB.out, List.length_append] at h1; omega, by simp only [List.length_cons, pAddrs, List.length_map]; have := HST.out.2.1; omega, by exact goodP_start1 HST.out.1.2, by exact HFQ.out⟩
     clear HS9 c0
     refine HKsw.go _ _ ?_
     clear HKsw
     exact tailB (FL := 0) (K := 1) (by decide) HA.out.2.2.2.1 (by decide) HA.out.2.2.2.2 HT
set_option maxHeartbeats 32000000 in
theorem docB_2 {w : World} {c : Ck} {s : Sv} (ha : CkAt w s c) (hf : Fit c) (hg : GoodC c) (hk : c.kind = 2) :
  Calls Try.prog 16 #[.agg (CV c s)] w (DocBytesIs w c) := by
 have hbl : flagN c.pb c.pe c.pu = 0 := by have h := ((yes_iff c).2 hg).blank (by rw [hk]; decide); rw [h.2.2.2.1, h.2.2.2.2.1, h.2.2.2.2.2.1]; rfl
 have HFQ : Hid (flagN c.pb c.pe c.pu = 0) := hbl
 clear hbl
 have hst : StartC c := (good_2 hg hk).1
 have hgi := (good_2 hg hk).2
 have h1 := hst.win
 have h2 := hst.out
 have h3 := hst.inn
 have HVL0 := valB_len hg
 obtain ⟨W, hW⟩ : ∃ q : Nat, c.win = (q : Int) := ⟨c.win.toNat, by omega⟩
 have CM9 : ∀ {wx : World}, Blk wx w.heap.size (CV c s) 32 → wx.cell? ⟨w.heap.size, 9, none⟩ = some (.int .i64 (W : Int)) := fun h => by rw [← hW]; exact cv9 h
 obtain ⟨O, hO⟩ : ∃ q : Nat, c.out = (q : Int) := ⟨c.out.toNat, by omega⟩
 have CM10 : ∀ {wx : World}, Blk wx w.heap.size (CV c s) 32 → wx.cell? ⟨w.heap.size, 10, none⟩ = some (.int .i64 (O : Int)) := fun h => by rw [← hO]; exact cv10 h
 obtain ⟨I, hI⟩ : ∃ q : Nat, c.inn = (q : Int) := ⟨c.inn.toNat, by omega⟩
 have CM11 : ∀ {wx : World}, Blk wx w.heap.size (CV c s) 32 → wx.cell? ⟨w.heap.size, 11, none⟩ = some (.int .i64 (I : Int)) := fun h => by rw [← hI]; exact cv11 h
 have b_tag := hf.tag
 have w_tag : IntKind.i64.wrap (c.tag : Int) = (c.tag : Int) := by rw [IntKind.wrap_i64]; omega
 have v_tag : wrap64 (c.tag : Int) = (c.tag : Int) := by unfold wrap64; omega
 have CM8 : ∀ {wx : World}, Blk wx w.heap.size (CV c s) 32 → wx.cell? ⟨w.heap.size, 8, none⟩ = some (.int .u32 (c.tag : Int)) := fun h => cv8 h
 have b_tsn := hf.tsn
 have w_tsn : IntKind.i64.wrap (c.tsn : Int) = (c.tsn : Int) := by rw [IntKind.wrap_i64]; omega
 have v_tsn : wrap64 (c.tsn : Int) = (c.tsn : Int) := by unfold wrap64; omega
 have CM12 : ∀ {wx : World}, Blk wx w.heap.size (CV c s) 32 → wx.cell? ⟨w.heap.size, 12, none⟩ = some (.int .u32 (c.tsn : Int)) := fun h => cv12 h
 have hvb : valB c = ((((be c.tag 4 ++ be W 4) ++ be O 2) ++ be I 2) ++ be c.tsn 4) ++ writeB (((32770, c.rand) :: pAddrs c.addrs) ++ [(7, c.info)]) := by
  unfold valB
  rw [if_neg (by omega), if_pos (by omega)]
  unfold startV
  rw [hW, hO, hI, if_pos (by omega)]
  simp only [Int.toNat_natCast, writeB_cons, writeB_app, writeB_one, writeB_nil, List.append_assoc, List.append_nil, List.cons_append]
 have HVB : Hid (valB c = ((((be c.tag 4 ++ be W 4) ++ be O 2) ++ be I 2) ++ be c.tsn 4) ++ writeB (((32770, c.rand) :: pAddrs c.addrs) ++ [(7, c.info)])) := hvb
 clear hvb
 have hWb : W ≤ 2147483647 := by omega
 have hOb : O ≤ 8 := by omega
 have hIb : I ≤ 8 := by omega
 have HST : Hid ((1 ≤ c.rand.length ∧ c.rand.length ≤ 64) ∧ (1 ≤ c.addrs.length ∧ c.addrs.length ≤ 4) ∧ adsB c.addrs = true) := ⟨hst.rand, hst.addrs, hst.ads⟩
 obtain ⟨NA, hNA⟩ : ∃ n, n = c.addrs.length := ⟨_, rfl⟩
 have hn4 : NA ≤ 4 := by have := hst.addrs; omega
 obtain ⟨aA, haA⟩ : ∃ x, x = s.aA := ⟨_, rfl⟩
 have CM14 : ∀ {wx : World}, Blk wx w.heap.size (CV c s) 32 → wx.cell? ⟨w.heap.size, 14, none⟩ = some (.slice aA NA s.aC) := fun h => by rw [haA, hNA, ← (nums_len ha.a).1]; exact cv14 h
 have HAt : Hid (NumsAt .i64 w (.slice aA NA s.aC) c.addrs ∧ NA = c.addrs.length) := ⟨by rw [haA, hNA, ← (nums_len ha.a).1]; exact ha.a, hNA⟩
 clear h1 h2 h3 hst hW hO hI hNA haA
 have HGI : Hid (1 ≤ c.info.length ∧ c.info.length ≤ 300) := hgi
 clear hgi
 have HA : Hid (CkAt w s c ∧ Fit c ∧ GoodC c ∧ c.kind = 2 ∧ (valB c).length ≤ 600) := ⟨ha, hf, hg, hk, HVL0⟩
 clear ha hf hg hk HVL0
 go_enter Try.func16, Try.ntmps16
 refine wp_seq_k (fun K0 hK => ?_)
 have HK0 := Stop.mk hK
 clear hK
 go_wp2_with (first
  | (refine wl_box (C := CV c s) rfl rfl rfl ?_; intro w1 hb1 he1 hx; clear hx))
 refine HK0.go _ _ ?_
 clear HK0
 have HS1 : Hid (Blk w1 w.heap.size (CV c s) 32 ∧ Ext w w1 ∧ True) := ⟨hb1, he1, trivial⟩
 clear hb1 he1
 refine wp_seq_k (fun K1 hK => ?_)
 have HK1 := Stop.mk hK
 clear hK
 go_wp2
 refine HK1.go _ _ ?_
 clear HK1
 refine wp_seq_k (fun K2 hK => ?_)
 have HK2 := Stop.mk hK
 clear hK
 go_wp2
 refine HK2.go _ _ ?_
 clear HK2
 refine wp_seq_k (fun K3 hK => ?_)
 have HK3 := Stop.mk hK
 clear hK
 go_wp2
 refine HK3.go _ _ ?_
 clear HK3
 refine wp_seq_k (fun Ksw hK => ?_)
 have HKsw := Stop.mk hK
 clear hK
 have c0 := cv0 HS1.out.1
 rw [HA.out.2.2.2.1] at c0
 obtain ⟨F1, hF⟩ : ∃ F, F = (be c.tag 4) ++ (be W 4) := ⟨_, rfl⟩
 have HPF : Hid ((be c.tag 4) <+: F1 ∧ F1 = (be c.tag 4) ++ (be W 4) ∧ (be c.tag 4).length + (be W 4).length ≤ 1000000 ∧ (be W 4).length ≤ (be c.tag 4).length) := ⟨by rw [hF]; exact List.prefix_append _ _, hF, by rw [be_len, be_len]; decide, by rw [be_len, be_len]; decide⟩
 have HLF1 : Hid (F1 = (be c.tag 4) ++ (be W 4) ∧ F1.length = 8) := ⟨hF, by rw [hF, List.length_append, be_len, be_len]⟩
 clear hF
 go_upto_region 16 with fail
 have HBx : ∀ {wx : World}, (Gr w.heap.size (be c.tag 4) F1) w1.drew wx → Blk wx w.heap.size (CV c s) 32 := fun h => h.blk (HS1.out.1.ext (Ext.drew _)) (by decide)
 have HEx : ∀ {wx : World}, (Gr w.heap.size (be c.tag 4) F1) w1.drew wx → Ext w wx := fun h => h.extO (HS1.out.2.1.trans (Ext.drew _)) (Nat.le_refl _)
 have HZx : ∀ {wx : World}, (Gr w.heap.size (be c.tag 4) F1) w1.drew wx → w.heap.size ≤ wx.heap.size := fun h => (HEx h).size
 refine wp_region_facts (fun t => bif Nat.ble 55 t && Nat.ble t 62 then some (t - 55) else bif Nat.beq t 4 then some 8 else none) 265 (Gr w.heap.size (be c.tag 4) F1)
  [Is (.pointer (some ⟨w.heap.size, 8, none⟩)),
   Is (.int .u32 (c.tag : Int)),
   Is (.int .i64 (c.tag : Int)),
   (NumV w.heap.size (be c.tag 4)),
   Is (.pointer (some ⟨w.heap.size, 9, none⟩)),
   Is (.int .i64 (W : Int)),
   (NumV w.heap.size (be W 4)),
   (NumV w.heap.size F1),
   (NumV w.heap.size F1)]
  rfl (by kernel_rfl) (by kernel_rfl) rfl Gr.refl (fun _ _ _ => Gr.trans) ?_ ?_ ?_
 ·
  exact Ks (Ks (Ks (KeepAll.cons (fun _ _ _ hR h => h.gr hR HPF.out.1) (Ks (Ks (KeepAll.cons (fun _ _ _ hR h => h.grK hR HPF.out.1 HPF.out.2.2.2) (KeepAll.cons (fun _ _ _ hR h => h.gr hR (List.prefix_refl _)) (KeepAll.cons (fun _ _ _ hR h => h.gr hR (List.prefix_refl _)) (KeepAll.nil)))))))))
 ·
  refine Gc (lr1 Gr.refl rfl rfl rfl (fun _ _ h => h) (fun r wx hR h1 => by simp [execOp, h1, go_sem])) ?_
  refine Gc (lr1 Gr.refl rfl rfl rfl (fun _ _ h => h) (fun r wx hR h1 => exg one22 rfl h1 (CM8 (HBx hR)))) ?_
  refine Gc (lr1 Gr.refl rfl rfl rfl (fun _ _ h => h) (fun r wx hR h1 => by simp [execOp, h1, w_tag, v_tag, go_sem])) ?_
  refine Gc ?_ ?_
  ·
   rintro r wx hR ⟨h1, h2, h3, _⟩
   replace h1 : r (.func 36) = .func (.func 36) #[] #[] := h1
   replace h2 : r (.tmp 57) = (.int .i64 (c.tag : Int)) := h2
   replace h3 : r (.const (.int .i64 4)) = .int .i64 4 := h3
   refine give_func #[.int .i64 (c.tag : Int), .int .i64 4] rfl h1 Try.call36 (by simp [h2, h3]) ?_
   refine (refNumI_any c.tag (by omega) 4 _).mono ?_
   rintro e w1 ⟨qa, qm, qc, rfl, hqm, hqo, hqe⟩
   rw [numBi4] at hqm hqo
   subst hqm
   exact ⟨_, rfl, Gr.of_ext hqe, _, _, rfl, hqo.base (HZx hR)⟩
  refine Gc (lr1 Gr.refl rfl rfl rfl (fun _ _ h => h) (fun r wx hR h1 => by simp [execOp, h1, go_sem])) ?_
  refine Gc (lr1 Gr.refl rfl rfl rfl (fun _ _ h => h) (fun r wx hR h1 => exg one3 rfl h1 (CM9 (HBx hR)))) ?_
  refine Gc ?_ ?_
  ·
   rintro r wx hR ⟨h1, h2, h3, _⟩
   replace h1 : r (.func 36) = .func (.func 36) #[] #[] := h1
   replace h2 : r (.tmp 60) = (.int .i64 (W : Int)) := h2
   replace h3 : r (.const (.int .i64 4)) = .int .i64 4 := h3
   refine give_func #[.int .i64 (W : Int), .int .i64 4] rfl h1 Try.call36 (by simp [h2, h3]) ?_
   refine (refNumI_any W (by omega) 4 _).mono ?_
   rintro e w1 ⟨qa, qm, qc, rfl, hqm, hqo, hqe⟩
   rw [numBi4] at hqm hqo
   subst hqm
   exact ⟨_, rfl, Gr.of_ext hqe, _, _, rfl, hqo.base (HZx hR)⟩
  refine Gc ?_ ?_
  ·
   rintro r wx hR ⟨h1, h2, _⟩
   replace h1 : ((NumV w.heap.size (be c.tag 4)) : Fact) wx (r (.tmp 58)) := h1
   replace h2 : ((NumV w.heap.size (be W 4)) : Fact) wx (r (.tmp 61)) := h2
   obtain ⟨xa, xc, xe, xo⟩ := h1
   obtain ⟨ya, yc, ye, yo⟩ := h2
   obtain ⟨ad, cap, w2, hr, ho2, ht⟩ := run_appG wx w.heap.size 24 _ _ (be c.tag 4) (be W 4) (be c.tag 4) F1 xo yo.bytes HPF.out.2.2.1 (HZx hR) (List.prefix_refl _) (by rw [← HPF.out.2.1]; exact List.prefix_refl _)
   exact gvo (exec_runG rfl rfl rfl hr) ⟨ht, by rw [HPF.out.2.1]; exact ⟨_, _, rfl, ho2⟩⟩
  refine Gc ?_ ?_
  ·
   rintro r wx hR ⟨h1, _⟩
   replace h1 : ((NumV w.heap.size F1) : Fact) wx (r (.tmp 62)) := h1
   exact give_move (.inr rfl) ⟨Gr.refl _, h1⟩
  exact GoodAll.nil
 ·
  intro vs w2 aY hR hold ha
  have hv0 : vs 0 = (.pointer (some ⟨w.heap.size, 8, none⟩)) := hold.at 0
  have hv1 : vs 1 = (.int .u32 (c.tag : Int)) := hold.at 1
  have hv2 : vs 2 = (.int .i64 (c.tag : Int)) := hold.at 2
  have hv4 : vs 4 = (.pointer (some ⟨w.heap.size, 9, none⟩)) := hold.at 4
  have hv5 : vs 5 = (.int .i64 (W : Int)) := hold.at 5
  obtain ⟨a2, c2, e9, ho9⟩ := hold.at 8
  simp only [List.dropLast_cons_cons, List.dropLast_singleton, putAll, Act.put, hv0, hv1, hv2, hv4, hv5, e9, List.setIfInBounds_toArray, List.set_cons_succ, List.set_cons_zero] at ha
  subst ha
  have HS2 : Hid (Blk w2 w.heap.size (CV c s) 32 ∧ Ext w w2 ∧ OB w2 w.heap.size (.slice a2 F1.length c2) F1) := ⟨HBx hR, HEx hR, by rw [← e9]; exact ho9⟩
  clear hold hR HBx HEx HZx hv0 hv1 hv2 hv4 hv5
  clear e9 ho9 HPF
  rename_i hK_
  refine hK_ _ _ ?_
  clear hK_
  obtain ⟨F2, hF⟩ : ∃ F, F = (F1 ++ (be O 2)) ++ (be I 2) := ⟨_, rfl⟩
  have HPF : Hid (F1 <+: F2 ∧ F1 ++ (be O 2) <+: F2 ∧ F2 = (F1 ++ (be O 2)) ++ (be I 2) ∧ F1.length + (be O 2).length ≤ 1000000 ∧ (F1 ++ (be O 2)).length + (be I 2).length ≤ 1000000 ∧ (be O 2).length ≤ F1.length ∧ (be I 2).length ≤ F1.length) := ⟨by rw [hF, List.append_assoc]; exact List.prefix_append _ _, by rw [hF]; exact List.prefix_append _ _, hF, by (try rw [List.length_append]); (try rw [be_len]); (try rw [be_len]); have := HLF1.out.2; omega, by (try rw [List.length_append]); (try rw [be_len]); (try rw [be_len]); have := HLF1.out.2; omega, by (try rw [List.length_append]); (try rw [be_len]); (try rw [be_len]); have := HLF1.out.2; omega, by (try rw [List.length_append]); (try rw [be_len]); (try rw [be_len]); have := HLF1.out.2; omega⟩
  have HLF2 : Hid (F2 = (F1 ++ (be O 2)) ++ (be I 2) ∧ F2.length = 12) := ⟨hF, by rw [hF, List.length_append, List.length_append, be_len, be_len]; have := HLF1.out.2; omega⟩
  clear hF
  refine wp_seq_k (fun Kr17 hK => ?_)
  have HKr17 := Stop.mk hK
  clear hK
  have HBx : ∀ {wx : World}, (Gr w.heap.size F1 F2) w2.drew wx → Blk wx w.heap.size (CV c s) 32 := fun h => h.blk (HS2.out.1.ext (Ext.drew _)) (by decide)
  have HEx : ∀ {wx : World}, (Gr w.heap.size F1 F2) w2.drew wx → Ext w wx := fun h => h.extO (HS2.out.2.1.trans (Ext.drew _)) (Nat.le_refl _)
  have HZx : ∀ {wx : World}, (Gr w.heap.size F1 F2) w2.drew wx → w.heap.size ≤ wx.heap.size := fun h => (HEx h).size
  have HPx : ∀ {wx : World}, (Gr w.heap.size F1 F2) w2.drew wx → OB wx w.heap.size (.slice a2 F1.length c2) F1 := fun h => h.ob (HS2.out.2.2.ext (Ext.drew _)) HPF.out.1
  refine wp_region_factsL (fun t => bif Nat.ble 63 t && Nat.ble t 71 then some (t - 63) else none) 265 (Gr w.heap.size F1 F2)
   [Is (.slice a2 F1.length c2),
    Is (.pointer (some ⟨w.heap.size, 10, none⟩)),
    Is (.int .i64 (O : Int)),
    (NumV w.heap.size (be O 2)),
    (NumV w.heap.size (F1 ++ (be O 2))),
    Is (.pointer (some ⟨w.heap.size, 11, none⟩)),
    Is (.int .i64 (I : Int)),
    (NumV w.heap.size (be I 2)),
    (NumV w.heap.size F2)]
   (by intro h; cases h) 71 8 4 rfl rfl rfl rfl (by kernel_rfl) (by kernel_rfl) rfl (by kernel_rfl) Gr.refl (fun _ _ _ => Gr.trans) ?_ ?_ ?_
  ·
   exact Ks (Ks (Ks (KeepAll.cons (fun _ _ _ hR h => h.grK hR HPF.out.1 HPF.out.2.2.2.2.2.1) (KeepAll.cons (fun _ _ _ hR h => h.gr hR HPF.out.2.1) (Ks (Ks (KeepAll.cons (fun _ _ _ hR h => h.grK hR HPF.out.1 HPF.out.2.2.2.2.2.2) (KeepAll.cons (fun _ _ _ hR h => h.gr hR (List.prefix_refl _)) (KeepAll.nil)))))))))
  ·
   refine Gc (lr1 Gr.refl rfl rfl rfl (fun _ _ h => h) (fun r wx hR h1 => exec_mv (.inl rfl) h1)) ?_
   refine Gc (lr1 Gr.refl rfl rfl rfl (fun _ _ h => h) (fun r wx hR h1 => by simp [execOp, h1, go_sem])) ?_
   refine Gc (lr1 Gr.refl rfl rfl rfl (fun _ _ h => h) (fun r wx hR h1 => exg one3 rfl h1 (CM10 (HBx hR)))) ?_
   refine Gc ?_ ?_
   ·
    rintro r wx hR ⟨h1, h2, h3, _⟩
    replace h1 : r (.func 36) = .func (.func 36) #[] #[] := h1
    replace h2 : r (.tmp 65) = (.int .i64 (O : Int)) := h2
    replace h3 : r (.const (.int .i64 2)) = .int .i64 2 := h3
    refine give_func #[.int .i64 (O : Int), .int .i64 2] rfl h1 Try.call36 (by simp [h2, h3]) ?_
    refine (refNumI_any O (by omega) 2 _).mono ?_
    rintro e w1 ⟨qa, qm, qc, rfl, hqm, hqo, hqe⟩
    rw [numBi2] at hqm hqo
    subst hqm
    exact ⟨_, rfl, Gr.of_ext hqe, _, _, rfl, hqo.base (HZx hR)⟩
   refine Gc ?_ ?_
   ·
    rintro r wx hR ⟨h1, h2, _⟩
    replace h1 : r (.tmp 63) = (.slice a2 F1.length c2) := h1
    replace h2 : ((NumV w.heap.size (be O 2)) : Fact) wx (r (.tmp 66)) := h2
    obtain ⟨ya, yc, ye, yo⟩ := h2
    obtain ⟨ad, cap, w2, hr, ho2, ht⟩ := run_appG wx w.heap.size 24 (.slice a2 F1.length c2) _ F1 (be O 2) F1 F2 (HPx hR) yo.bytes HPF.out.2.2.2.1 (HZx hR) (List.prefix_refl _) HPF.out.2.1
    exact gvo (exec_runG rfl h1 rfl hr) ⟨ht, _, _, rfl, ho2⟩
   refine Gc (lr1 Gr.refl rfl rfl rfl (fun _ _ h => h) (fun r wx hR h1 => by simp [execOp, h1, go_sem])) ?_
   refine Gc (lr1 Gr.refl rfl rfl rfl (fun _ _ h => h) (fun r wx hR h1 => exg one3 rfl h1 (CM11 (HBx hR)))) ?_
   refine Gc ?_ ?_
   ·
    rintro r wx hR ⟨h1, h2, h3, _⟩
    replace h1 : r (.func 36) = .func (.func 36) #[] #[] := h1
    replace h2 : r (.tmp 69) = (.int .i64 (I : Int)) := h2
    replace h3 : r (.const (.int .i64 2)) = .int .i64 2 := h3
    refine give_func #[.int .i64 (I : Int), .int .i64 2] rfl h1 Try.call36 (by simp [h2, h3]) ?_
    refine (refNumI_any I (by omega) 2 _).mono ?_
    rintro e w1 ⟨qa, qm, qc, rfl, hqm, hqo, hqe⟩
    rw [numBi2] at hqm hqo
    subst hqm
    exact ⟨_, rfl, Gr.of_ext hqe, _, _, rfl, hqo.base (HZx hR)⟩
   refine Gc ?_ ?_
   ·
    rintro r wx hR ⟨h1, h2, _⟩
    replace h1 : ((NumV w.heap.size (F1 ++ (be O 2))) : Fact) wx (r (.tmp 67)) := h1
    replace h2 : ((NumV w.heap.size (be I 2)) : Fact) wx (r (.tmp 70)) := h2
    obtain ⟨xa, xc, xe, xo⟩ := h1
    obtain ⟨ya, yc, ye, yo⟩ := h2
    obtain ⟨ad, cap, w2, hr, ho2, ht⟩ := run_appG wx w.heap.size 24 _ _ (F1 ++ (be O 2)) (be I 2) F1 F2 xo yo.bytes HPF.out.2.2.2.2.1 (HZx hR) (List.prefix_append _ _) (by rw [← HPF.out.2.2.1]; exact List.prefix_refl _)
    exact gvo (exec_runG rfl rfl rfl hr) ⟨ht, by rw [HPF.out.2.2.1]; exact ⟨_, _, rfl, ho2⟩⟩
   exact GoodAll.nil
  ·
   intro vs w3 aY hR hold ha
   have hv0 : vs 0 = (.slice a2 F1.length c2) := hold.at 0
   have hv1 : vs 1 = (.pointer (some ⟨w.heap.size, 10, none⟩)) := hold.at 1
   have hv2 : vs 2 = (.int .i64 (O : Int)) := hold.at 2
   have hv5 : vs 5 = (.pointer (some ⟨w.heap.size, 11, none⟩)) := hold.at 5
   have hv6 : vs 6 = (.int .i64 (I : Int)) := hold.at 6
   obtain ⟨a3, c3, e9, ho9⟩ := hold.at 8
   simp only [List.dropLast_cons_cons, List.dropLast_singleton, putAll, Act.put, hv0, hv1, hv2, hv5, hv6, e9, List.setIfInBounds_toArray, List.set_cons_succ, List.set_cons_zero] at ha
   subst ha
   have HS3 : Hid (Blk w3 w.heap.size (CV c s) 32 ∧ Ext w w3 ∧ OB w3 w.heap.size (.slice a3 F2.length c3) F2) := ⟨HBx hR, HEx hR, by rw [← e9]; exact ho9⟩
   clear hold hR HBx HEx HZx HPx hv0 hv1 hv2 hv5 hv6
   clear e9 ho9 HPF
   refine HKr17.go _ _ ?_
   clear HKr17
   refine wp_seq_k (fun Kr18 hK => ?_)
   have HKr18 := Stop.mk hK
   clear hK
   have c12 := CM12 HS3.out.1
   go_wp2_with (first
    | (have q_ := ho4; clear q_; at_builtin; refine wl_app (l := F2) (m := be c.tsn 4) (base := w.heap.size) rfl rfl rfl rfl (HS3.out.2.2.ext he4) ho4.bytes (by have := HLF2.out.2; rw [be_len]; omega) (Nat.le_trans HS3.out.2.1.size he4.size) ?_; intro a5 n5 c5 w5 hn5 ho5 hk5 hg5; clear hg5; have HE5 : Hid (Blk w5 w.heap.size (CV c s) 32 ∧ Ext w w5) := ⟨(HS3.out.1.ext he4).but hk5 (fun e => (HS3.out.2.2.ext he4).ne (HS3.out.1.ext he4) (by decide) _ e rfl), (HS3.out.2.1.trans he4).of_but hk5 (fun q e => ((HS3.out.2.2.ext he4).lt e).1)⟩; clear hk5 ho4)
    | (go_at_call 36; refine (refNumI_any c.tsn (by omega) 4 _).mono ?_; rintro e w4 ⟨a4, n4, c4, rfl, hn4', ho4', he4⟩; rw [numBi4] at hn4' ho4'; have HN4 : Hid (n4 = (be c.tsn 4).length) := hn4'; have ho4 := ho4'.base HS3.out.2.1.size; clear hn4' ho4'))
   refine HKr18.go _ _ ?_
   clear HKr18
   clear c12 he4 HN4 HS2 HS3
   clear w_tag v_tag b_tag w_tsn v_tsn b_tsn
   obtain ⟨F3, hF3⟩ : ∃ F, F = F2 ++ be c.tsn 4 := ⟨_, rfl⟩
   rw [← hF3] at ho5 hn5
   have HLF3 : Hid (F3 = ((((be c.tag 4 ++ be W 4) ++ be O 2) ++ be I 2) ++ be c.tsn 4) ∧ F3.length = 16 ∧ n5 = F3.length) := ⟨by rw [hF3, HLF2.out.1, HLF1.out.1], by rw [hF3, List.length_append, be_len, HLF2.out.2], hn5.out⟩
   clear hF3 hn5 HLF1 HLF2
   refine wp_seq_k (fun Kr19 hK => ?_)
   have HKr19 := Stop.mk hK
   clear hK
   have c13 := cv13 HE5.out.1
   have hrN : Hid (s.rN = c.rand.length) := (bytes_len HA.out.1.r).1
   go_wp2_with (first
    | (at_builtin; refine wl_pushQ (k := 32770) (val := c.rand) (w0 := w) (L := []) (b := w5.heap.size) rfl rfl parT2 rfl rfl (OwnQ.nil _ _ _) (cellNew _ _ _ _ _ _ rfl) (cellNew _ _ _ _ _ _ rfl) (.inr HA.out.1.r) (by simp) (HE5.out.2.trans (Ext.alloc _ _)) ?_; intro a6 n6 c6 w6 hn6 ho6 hk6 he6; rw [List.nil_append] at ho6; have HE6 : Hid (Blk w6 w.heap.size (CV c s) 32 ∧ Ext w w6 ∧ OB w6 w.heap.size (.slice a5 n5 c5) F3) := ⟨(HE5.out.1.ext (Ext.alloc _ _)).but hk6 (fun e => by cases e), he6, (ho5.ext (Ext.alloc _ _)).but hk6 (fun q e e2 => by cases e2)⟩; clear hk6 he6 ho5))
   refine HKr19.go _ _ ?_
   clear HKr19
   clear c13 hrN HE5
   have HN6 : Hid (n6 = 1) := hn6.out
   clear hn6
   refine wp_seq_k (fun Klp hK => ?_)
   have HKlp := Stop.mk hK
   clear hK
   go_wp2
   go_loopg [5, 6] NA (fun gm x t wr => ∃ (k : Nat) (oa : Option Addr) (on oc : Nat), k ≤ NA ∧ gm = NA - k ∧ x = .slice oa on oc ∧ t = .int .i64 (k : Int) ∧ Hid (on = k + 1 ∧ Blk wr w.heap.size (CV c s) 32 ∧ Ext w wr ∧ OB wr w.heap.size (.slice a5 n5 c5) F3 ∧ OwnQ 85 w wr (.slice oa on oc) ((32770, c.rand) :: pAddrs (c.addrs.take k))))
   case atStart => exact ⟨0, a6, _, c6, Nat.zero_le _, rfl, rfl, rfl, HN6.out, HE6.out.1, HE6.out.2.1, HE6.out.2.2, by have := ho6; simpa [pAddrs] using this⟩
   case round =>
    obtain ⟨k, oa, on, oc, hk, rfl, rfl, rfl, HR⟩ := hrel
    by_cases hlt : k < NA
    ·
     have hd : decide ((k : Int) < (NA : Int)) = true := decide_eq_true (by omega)
     have hkL : k < c.addrs.length := by rw [← HAt.out.2]; exact hlt
     have hkn : (k : Int) < (NA : Int) := by omega
     have hd2 : decide (k < NA) = true := decide_eq_true hlt
     obtain ⟨b, off, rfl, hc0⟩ := HAt.out.1.cellAt k hkL
     have hab := adB_nat ((all_iffD adB 0 _).1 HST.out.2.2 k hkL)
     obtain ⟨A, hA, hA2⟩ := hab
     replace hc0 := HR.out.2.2.1.cell hc0
     rw [hA] at hc0
     have HAk : Hid (pAddrs (c.addrs.take (k + 1)) = pAddrs (c.addrs.take k) ++ [(5, be A 4)]) := show _ = _ by rw [take_snocD 0 hkL, hA]; simp [pAddrs]
     have d9 := CM14 HR.out.2.1
     have HKk : Hid (k < NA) := hlt
     clear hA hkL
     go_wp2_with (first
      | (at_builtin; refine wl_pushQ (k := 5) (val := be A 4) (w0 := w) (L := ((32770, c.rand) :: pAddrs (c.addrs.take k))) (b := w8.heap.size) rfl rfl parT2 rfl rfl (HR.out.2.2.2.2.ext (he8.trans (Ext.alloc _ _))) (cellNew _ _ _ _ _ _ rfl) (cellNew _ _ _ _ _ _ rfl) (.inl (HO8.out.ext (Ext.alloc _ _))) (by simp only [List.length_cons, pAddrs, List.length_map, List.length_take]; omega) ((HR.out.2.2.1.trans he8).trans (Ext.alloc _ _)) ?_; intro a9 n9 c9 w9 hn9 ho9 hk9 he9)
      | (go_at_call 36; refine (refNumI_any A (by omega) 4 _).mono ?_; rintro e w8 ⟨na8, nn8, nc8, rfl, hnn8, ho8', he8⟩; rw [numBi4] at hnn8 ho8'; have HN8 : Hid (nn8 = (be A 4).length) := hnn8; have HO8 : Hid (OB w8 w.heap.size (.slice na8 nn8 nc8) (be A 4)) := ho8'.base HR.out.2.2.1.size; clear hnn8 ho8'))
     go_roundg (NA - (k + 1))
     case measure => omega
     case rel =>
      have hEA : Ext wr (w8.alloc (.cells #[.int .i64 5, .slice na8 nn8 nc8] 85)) := he8.trans (Ext.alloc _ _)
      exact ⟨k + 1, _, _, _, by omega, rfl, rfl, by simp, by rw [hn9.out]; simp only [List.length_cons, pAddrs, List.length_map, List.length_take]; have h1 := HKk.out; have h2 := HAt.out.2; omega, (HR.out.2.1.ext hEA).but hk9 (fun e => (HR.out.2.2.2.2.ext hEA).ne (HR.out.2.1.ext hEA) (by decide) e), he9, (HR.out.2.2.2.1.ext hEA).keepQ (HR.out.2.2.2.2.ext hEA) (by decide) hk9, by rw [HAk.out]; exact ho9⟩
    ·
     have hd : decide ((k : Int) < (NA : Int)) = false := decide_eq_false (by omega)
     have hd2 : decide (k < NA) = false := decide_eq_false hlt
     have HT_ : Hid (c.addrs.take k = c.addrs) := List.take_of_length_le (by rw [← HAt.out.2]; omega)
     rw [HT_.out] at HR
     obtain ⟨w9, hw9⟩ : ∃ x, x = wr := ⟨_, rfl⟩
     obtain ⟨a9, ha9⟩ : ∃ x, x = oa := ⟨_, rfl⟩
     obtain ⟨c9, hc9⟩ : ∃ x, x = oc := ⟨_, rfl⟩
     obtain ⟨n9, hn9⟩ : ∃ x, x = on := ⟨_, rfl⟩
     subst hw9 ha9 hc9 hn9
     have HS9 : Hid (n9 = k + 1 ∧ Blk w9 w.heap.size (CV c s) 32 ∧ Ext w w9 ∧ OB w9 w.heap.size (.slice a5 n5 c5) F3 ∧ OwnQ 85 w w9 (.slice a9 n9 c9) ((32770, c.rand) :: pAddrs c.addrs)) := HR.out
     clear HR hlt HE6 ho6 c0
     have c0 := cv0 HS9.out.2.1
     rw [HA.out.2.2.2.1] at c0
     have d9 := CM14 HS9.out.2.1
     go_wp2
     clear hd hd2 HT_ d9
     refine HKlp.go _ _ ?_
     clear HKlp
     have c15 := cv15 HS9.out.2.1
     have hiN : Hid (s.iN = c.info.length) := (bytes_len HA.out.1.i).1
     go_wp2_with (first
      | (at_builtin; have hA9 : Ext w9 (w9.alloc (.cells #[.int .i64 7, .slice s.iA s.iN s.iC] 85)) := Ext.alloc _ _; refine wl_pushQ (k := 7) (val := c.info) (w0 := w) (L := ((32770, c.rand) :: pAddrs c.addrs)) (b := w9.heap.size) rfl rfl parT2 rfl rfl (HS9.out.2.2.2.2.ext (Ext.alloc _ _)) (cellNew _ _ _ _ _ _ rfl) (cellNew _ _ _ _ _ _ rfl) (.inr HA.out.1.i) (by simp only [List.length_cons, pAddrs, List.length_map]; have := HST.out.2.1; omega) (HS9.out.2.2.1.trans (Ext.alloc _ _)) ?_; intro a10 n10 c10 w10 hn10 ho10 hk10 he10; have HE10 : Hid (Blk w10 w.heap.size (CV c s) 32 ∧ Ext w w10 ∧ OB w10 w.heap.size (.slice a5 n5 c5) F3) := ⟨(HS9.out.2.1.ext hA9).but hk10 (fun e => (HS9.out.2.2.2.2.ext hA9).ne (HS9.out.2.1.ext hA9) (by decide) e), he10, (HS9.out.2.2.2.1.ext hA9).keepQ (HS9.out.2.2.2.2.ext hA9) (by decide) hk10⟩; clear hk10 he10 hA9))
     have HT : Hid (Blk w10 w.heap.size (CV c s) 32 ∧ Ext w w10 ∧ BytesAt w10 (.slice a5 n5 c5) (F3) ∧ ParsAt w10 (.slice a10 n10 c10) (((32770, c.rand) :: pAddrs c.addrs) ++ [(7, c.info)]) ∧ F3 ++ writeB (((32770, c.rand) :: pAddrs c.addrs) ++ [(7, c.info)]) = valB c ∧ (F3 : List Nat).length ≤ 600 ∧ (writeB (((32770, c.rand) :: pAddrs c.addrs) ++ [(7, c.info)])).length ≤ 700 ∧ (((32770, c.rand) :: pAddrs c.addrs) ++ [(7, c.info)] : List Par).length ≤ 20 ∧ (∀ p ∈ (((32770, c.rand) :: pAddrs c.addrs) ++ [(7, c.info)] : List Par), goodP p = true) ∧ flagN c.pb c.pe c.pu = 0) := ⟨by exact HE10.out.1, by exact HE10.out.2.1, by exact HE10.out.2.2.bytes, by exact ho10.pars HE10.out.2.1, by rw [HVB.out, HLF3.out.1], by rw [HLF3.out.2.1]; omega, by have h1 := HA.out.2.2.2.2; rw [HVB.out, List.length_append] at h1; omega, by simp only [List.length_append, List.length_cons, List.length_nil, pAddrs, List.length_map]; have := HST.out.2.1; omega, by exact goodP_start2 HST.out.1.2 HGI.out.2, by exact HFQ.out⟩
     clear HS9 c0 c15 HE10 ho10 hn10
     refine HKsw.go _ _ ?_
     clear HKsw
     exact tailB (FL := 0) (K := 2) (by decide) HA.out.2.2.2.1 (by decide) HA.out.2.2.2.2 HT
end Tlv
end Go.Proofs.Ytbahelhohkhkmaa
/- A law on regions that draw their order: one invariant over what was met, the slots and the world. No condition of its own. -/
namespace Go.Proofs.Ytbahelhohkhkmaa
open Go
/-- What was met, as a function. -/
def metF (l : Array Bool) : Nat → Bool := fun i => l.getD i true
def met1 (L : Nat → Bool) (i : Nat) : Nat → Bool := fun j => j == i || L j
theorem metF_set (l : Array Bool) (i : Nat) (h : i < l.size) : metF (l.setIfInBounds i true) = met1 (metF l) i := by
 funext j
 unfold metF met1
 by_cases hj : i = j
 ·
  subst hj; simp [h]
 ·
  have h2 : (j == i) = false := beq_false_of_ne (fun e => hj e.symm)
  rw [h2, Bool.false_or, getD_set_ne true hj]
/-- What is owed for an operation without guard. -/
def OwedJ (P : Program) (J : (Nat → Bool) → Act → World → Prop) (i : Nat) (o : Oper) : Prop :=
 o.guard = none ∧ ∀ (L : Nat → Bool) (a : Act) (w : World), J L a w → L i = false → (∀ e ∈ o.after.toList, Region.binds .any e = true → L e.on = true) → give P (fun v w' => J (met1 L i) (a.put o.dst v) w') ((execOp a.eval o).run P w)
def OwedAll (P : Program) (J : (Nat → Bool) → Act → World → Prop) : Nat → List Oper → Prop
 | _, [] => True
 | i, o :: l => OwedJ P J i o ∧ OwedAll P J (i + 1) l
theorem OwedAll.at {P : Program} {J : (Nat → Bool) → Act → World → Prop} : ∀ {ops : List Oper} {k : Nat}, OwedAll P J k ops → ∀ i o, ops[i]? = some o → OwedJ P J (k + i) o
 | [], _, _, i, o, h => by simp at h
 | o1 :: l, k, hA, 0, o, h => by simp at h; subst h; exact hA.1
 | o1 :: l, k, hA, i + 1, o, h => by
  have := OwedAll.at hA.2 i o (by simpa using h)
  rwa [show k + 1 + i = k + (i + 1) by omega] at this
theorem OwedAll.nil {P : Program} {J : (Nat → Bool) → Act → World → Prop} {i : Nat} : OwedAll P J i [] := trivial
theorem OwedAll.cons {P : Program} {J : (Nat → Bool) → Act → World → Prop} {i : Nat} {o : Oper} {l : List Oper} (hg : o.guard = none) (h : ∀ (L : Nat → Bool) (a : Act) (w : World), J L a w → L i = false → (∀ e ∈ o.after.toList, Region.binds .any e = true → L e.on = true) → give P (fun v w' => J (met1 L i) (a.put o.dst v) w') ((execOp a.eval o).run P w)) (hl : OwedAll P J (i + 1) l) : OwedAll P J i (o :: l) := ⟨⟨hg, h⟩, hl⟩
/-- The edges lead back. -/
def backB (ops : List Oper) : Bool := (List.range ops.length).all fun i => match ops[i]? with
 | none => true
 | some o => o.after.toList.all fun e => !(Region.binds .any e) || decide (e.on < i)
theorem inv_any {P : Program} {ops : List Oper} {Q : Exit → Act → World → Prop} (J : (Nat → Bool) → Act → World → Prop) (hb : backB ops = true) (hG : OwedAll P J 0 ops)
  (hQ : ∀ a w, J (fun _ => true) a w → Q .normal a w) :
  ∀ (fuel : Nat) (listed : Array Bool) (a : Act) (w : World), listed.size = ops.length → listed.countP (· == false) ≤ fuel → J (metF listed) a w → wpAny P .any ops.toArray Q fuel listed a w := by
 have back : ∀ i o, ops[i]? = some o → ∀ e ∈ o.after.toList, Region.binds .any e = true → e.on < i := by
  intro i o ho e he hbi
  have hi : i < ops.length := (List.getElem?_eq_some_iff.1 ho).1
  have h1 := List.all_eq_true.1 hb i (List.mem_range.2 hi)
  rw [ho] at h1
  have h2 := List.all_eq_true.1 h1 e he
  simpa [hbi] using h2
 have fin : ∀ (listed : Array Bool) (a : Act) (w : World), listed.size = ops.length → J (metF listed) a w → Region.ready .any ops.toArray listed = [] → Q .normal a w := by
  intro listed a w hs hI hr
  have key : ∀ i, listed.getD i true = true := by
   intro i
   induction i using Nat.strongRecOn with
   | _ i ih =>
    cases hbi : listed.getD i true with
    | true => rfl
    | false =>
     exfalso
     have hi : i < ops.length := by
      rcases Nat.lt_or_ge i ops.length with h | h
      ·
       exact h
      ·
       rw [← hs] at h; simp [Array.getElem?_eq_none h] at hbi
     have ho : ops[i]? = some ops[i] := by simp [hi]
     have : i ∈ Region.ready .any ops.toArray listed := by
      rw [mem_ready]
      refine ⟨hbi, ops[i], by simp [hi], fun e he hbd => ?_⟩
      have h5 := back i ops[i] ho e (by simpa using he) hbd
      have := ih e.on h5
      have hlt : e.on < listed.size := by omega
      simpa [hlt] using this
     rw [hr] at this
     cases this
  have : metF listed = fun _ => true := funext key
  rw [this] at hI
  exact hQ a w hI
 intro fuel
 induction fuel with
 | zero =>
  intro listed a w hs hc hI
  have hr : Region.ready .any ops.toArray listed = [] := by
   cases hr : Region.ready .any ops.toArray listed with
   | nil => rfl
   | cons j js =>
    exfalso
    have hj : j ∈ Region.ready .any ops.toArray listed := by rw [hr]; simp
    have h0 := (mem_ready.1 hj).1
    have hlt : j < listed.size := by
     rcases Nat.lt_or_ge j listed.size with h | h
     ·
      exact h
     ·
      simp [Array.getElem?_eq_none h] at h0
    have h1 : listed.countP (· == false) = 0 := by omega
    rw [Array.countP_eq_zero] at h1
    have h2 : listed[j] = false := by simpa [hlt] using h0
    have := h1 listed[j] (Array.getElem_mem hlt)
    simp [h2] at this
  exact ⟨hr, fin listed a w hs hI hr⟩
 | succ fuel ih =>
  intro listed a w hs hc hI
  refine ⟨fin listed a w hs hI, fun i hi => ?_⟩
  obtain ⟨hl, o, ho', hall⟩ := mem_ready.1 hi
  have ho : ops[i]? = some o := by simpa using ho'
  have hlt : i < listed.size := by
   rcases Nat.lt_or_ge i listed.size with h | h
   ·
    exact h
   ·
    simp [Array.getElem?_eq_none h] at hl
  have hg := hG.at i o ho
  rw [Nat.zero_add] at hg
  obtain ⟨hgd, hg⟩ := hg
  have hg' := hg (metF listed) a w hI hl (fun e he hbd => by
   have := hall e (by simpa using he) hbd
   have hlt2 : e.on < listed.size := by
    rcases Nat.lt_or_ge e.on listed.size with h | h
    ·
     exact h
    ·
     simp [Array.getElem?_eq_none h] at this
   unfold metF
   simpa [hlt2] using this)
  unfold wpOp
  simp only [ho']
  simp only [Region.wanted, hgd, if_true]
  refine .inl (give_wp hg' (fun v w' hJ => ?_))
  exact ih _ _ _ (by simp [hs]) (count_set hl hc) (by rw [metF_set _ _ hlt]; exact hJ)
/-- THE LAW. -/
theorem wp_region_J {P : Program} {ops : List Oper} {a0 : Act} {Q : Exit → Act → World → Prop} {id : Nat} {w : World} (J : (Nat → Bool) → Act → World → Prop)
  (hm : P.follows .mixedOrders = true) (hb : backB ops = true) (h0 : J (fun i => decide (ops.length ≤ i)) a0 w.drew) (hG : OwedAll P J 0 ops)
  (hQ : ∀ a w, J (fun _ => true) a w → Q .normal a w) : (Code.region id ops.toArray true).wp P Q a0 w := by
 refine wp_region_any hm ?_
 have e : metF (Array.replicate ops.length false) = fun i => decide (ops.length ≤ i) := by
  funext i
  unfold metF
  by_cases h : i < ops.length
  ·
   simp [h] <;> omega
  ·
   simp [h] <;> omega
 have h := inv_any (P := P) (ops := ops) (Q := Q) J hb hG hQ ops.length (Array.replicate ops.length false) a0 w.drew (by simp) (by
   have := Array.countP_le_size (p := (· == false)) (xs := Array.replicate ops.length false)
   simpa using this) (by rw [e]; exact h0)
 simpa using h
/-- A slot behind another one's filling. -/
theorem put_other {a : Act} {t d : Tmp} (v : Value) (h : d ≠ t) : (a.put (some d) v).tmps[t]? = a.tmps[t]? := by
 simp [Act.put, Array.getElem?_setIfInBounds_ne h]
theorem put_same {a : Act} {d : Tmp} (v : Value) (h : d < a.tmps.size) : (a.put (some d) v).tmps[d]? = some v := by
 simp [Act.put, h]
theorem put_size {a : Act} (d : Option Tmp) (v : Value) : (a.put d v).tmps.size = a.tmps.size := by cases d <;> simp [Act.put]
theorem put_defers {a : Act} (d : Option Tmp) (v : Value) : (a.put d v).defers = a.defers := by cases d <;> simp [Act.put]
theorem eval_of {a : Act} {t : Tmp} {v : Value} (h : a.tmps[t]? = some v) : a.eval (.tmp t) = v := by simp [Act.eval, h]
end Go.Proofs.Ytbahelhohkhkmaa
/- A law on regions that draw their order: one invariant over what was met, the values yielded and the world. No condition of its own. -/
namespace Go.Proofs.Ytbahelhohkhkmaa
open Go
def updV (vs : Nat → Value) (i : Nat) (v : Value) : Nat → Value := fun j => bif j == i then v else vs j
theorem updV_same (vs : Nat → Value) (i : Nat) (v : Value) : updV vs i v i = v := by simp [updV]
theorem updV_other {vs : Nat → Value} {i j : Nat} {v : Value} (h : j ≠ i) : updV vs i v j = vs j := by
 have : (j == i) = false := by simpa using h
 simp [updV, this]
theorem met1_same (L : Nat → Bool) (i : Nat) : met1 L i i = true := by simp [met1]
theorem met1_other {L : Nat → Bool} {i j : Nat} (h : j ≠ i) : met1 L i j = L j := by simp [met1, h]
/-- The slots hold what was yielded. -/
structure SlotsAt (ops : List Oper) (a0 : Act) (L : Nat → Bool) (vs : Nat → Value) (a : Act) : Prop where
 defers : a.defers = a0.defers
 size : a.tmps.size = a0.tmps.size
 rest : ∀ t, (∀ (i : Nat) o, ops[i]? = some o → o.dst = some t → L i = false) → a.tmps[t]? = a0.tmps[t]?
 done : ∀ (i : Nat) o, ops[i]? = some o → L i = true → ∀ d, o.dst = some d → a.tmps[d]? = some (vs i)
/-- What is owed for an operation. -/
def OwedV (P : Program) (mk : Tmp → Option Nat) (a0 : Act) (W : (Nat → Bool) → (Nat → Value) → World → Prop) (i : Nat) (o : Oper) : Prop :=
 o.guard = none ∧ ∀ (L : Nat → Bool) (vs : Nat → Value) (w : World) (r : Operand → Value), W L vs w → L i = false → (∀ j, afterB o j = true → L j = true) → factsOf mk a0 (fun j _ v => v = vs j) r w o.op.operands.toList → give P (fun v w' => W (met1 L i) (updV vs i v) w') ((execOp r o).run P w)
def OwedVs (P : Program) (mk : Tmp → Option Nat) (a0 : Act) (W : (Nat → Bool) → (Nat → Value) → World → Prop) : Nat → List Oper → Prop
 | _, [] => True
 | i, o :: l => OwedV P mk a0 W i o ∧ OwedVs P mk a0 W (i + 1) l
section
variable {P : Program} {mk : Tmp → Option Nat} {ops : List Oper} {a0 : Act} {W : (Nat → Bool) → (Nat → Value) → World → Prop} {Q : Exit → Act → World → Prop} {n : Nat}
theorem OwedVs.nil {i : Nat} : OwedVs P mk a0 W i [] := trivial
theorem Ow {i : Nat} {o : Oper} {l : List Oper} (h : OwedV P mk a0 W i o) (hl : OwedVs P mk a0 W (i + 1) l) : OwedVs P mk a0 W i (o :: l) := ⟨h, hl⟩
theorem SlotsAt.put (hsh : shapeB mk ops n = true) (hn : a0.tmps.size = n) {L : Nat → Bool} {vs : Nat → Value} {a : Act} (hI : SlotsAt ops a0 L vs a) {i : Nat} {o : Oper} (ho : ops[i]? = some o) (hl : L i = false) (v : Value) :
  SlotsAt ops a0 (met1 L i) (updV vs i v) (a.put o.dst v) := by
 have hs := shape_spec hsh ho
 refine ⟨by rw [put_defers]; exact hI.defers, by rw [put_size]; exact hI.size, fun t ht => ?_, fun j o' hj hlj d hd => ?_⟩
 ·
  have h1 : a.tmps[t]? = a0.tmps[t]? := hI.rest t fun j o' hj hd' => by
   have := ht j o' hj hd'
   by_cases hij : j = i
   ·
    subst hij; rw [met1_same] at this; cases this
   ·
    rwa [met1_other hij] at this
  cases hd : o.dst with
  | none => exact h1
  | some d =>
   have hne : d ≠ t := by
    rintro rfl
    have := ht i o ho hd
    rw [met1_same] at this; cases this
   rw [put_other v hne]; exact h1
 ·
  by_cases hij : j = i
  ·
   subst hij
   rw [ho] at hj; cases hj
   have hdn : d < n := by
    simp only [shapeOneB, hd, Bool.and_eq_true, decide_eq_true_eq] at hs
    exact hs.1.2.2
   rw [hd, put_same v (by rw [hI.size, hn]; exact hdn), updV_same]
  ·
   rw [met1_other hij] at hlj
   have h3 := hI.done j o' hj hlj d hd
   rw [updV_other hij]
   cases hd' : o.dst with
   | none => exact h3
   | some d' =>
    have hne : d' ≠ d := by
     rintro rfl
     exact hij (shape_dst hsh ho hj hd' hd).symm
    rw [put_other v hne]; exact h3
theorem SlotsAt.facts (hsh : shapeB mk ops n = true) {L : Nat → Bool} {vs : Nat → Value} {a : Act} (w : World) (hI : SlotsAt ops a0 L vs a) {i : Nat} {o : Oper} (ho : ops[i]? = some o)
  (hall : ∀ j, afterB o j = true → L j = true) : ∀ x ∈ o.op.operands.toList, factOf mk a0 (fun j _ v => v = vs j) a.eval w x := by
 intro x hx
 have hs := shape_spec hsh ho
 simp only [shapeOneB, Bool.and_eq_true, List.all_eq_true] at hs
 have h2 := hs.1.1.1.2 x hx
 cases x with
 | tmp t =>
  simp only [factOf]
  simp only [Bool.and_eq_true, beq_iff_eq] at h2
  rw [← h2.1]
  cases hm : maker ops t with
  | none =>
   simp only [Act.eval]
   have := hI.rest t fun j o' hj hd' => absurd hd' (maker_none hm hj)
   simp [this]
  | some j =>
   simp only [hm] at h2
   obtain ⟨o', hj, hd'⟩ := maker_some hm
   have := hI.done j o' hj (hall j h2.2) t hd'
   simp [Act.eval, this]
 | const c => rfl
 | global g => rfl
 | func f => rfl
theorem SlotsAt.whole (hsh : shapeB mk ops n = true) (hn : a0.tmps.size = n) {vs : Nat → Value} {a : Act} (hI : SlotsAt ops a0 (fun _ => true) vs a) : a = putAll vs ops 0 a0 := by
 have hd : a.defers = (putAll vs ops 0 a0).defers := by rw [putAll_defers, hI.defers]
 have ht : a.tmps = (putAll vs ops 0 a0).tmps := by
  apply Array.ext_getElem?
  intro t
  by_cases hm : ∃ (k : Nat) (o : Oper), ops[k]? = some o ∧ o.dst = some t
  ·
   obtain ⟨k, o, hk, hdt⟩ := hm
   have hs := shape_spec hsh hk
   simp only [shapeOneB, hdt, Bool.and_eq_true, decide_eq_true_eq] at hs
   rw [putAll_at _ t ops 0 a0 k o hk hdt (by rw [hn]; exact hs.1.2.2) (fun k' o' hk' hd' => shape_dst hsh hk' hk hd' hdt)]
   rw [Nat.zero_add]
   exact hI.done k o hk rfl t hdt
  ·
   rw [putAll_other _ t ops 0 a0 (fun o ho hdt => by
    obtain ⟨k, hk⟩ := List.getElem?_of_mem ho
    exact hm ⟨k, o, hk, hdt⟩)]
   exact hI.rest t fun i o hi hdt => absurd ⟨i, o, hi, hdt⟩ hm
 cases a
 cases h : putAll vs ops 0 a0
 rw [h] at hd ht
 simp at hd ht
 rw [hd, ht]
theorem shape_back (hsh : shapeB mk ops n = true) : backB ops = true := by
 unfold backB
 rw [List.all_eq_true]
 intro i hi
 have hi := List.mem_range.1 hi
 have hs := shape_spec hsh (show ops[i]? = some ops[i] by simp [hi])
 simp only [shapeOneB, Bool.and_eq_true] at hs
 have h2 := hs.2
 rw [show ops[i]? = some ops[i] by simp [hi]]
 simpa using h2
theorem OwedVs.toJ (hsh : shapeB mk ops n = true) (hn : a0.tmps.size = n) : ∀ (l : List Oper) (k : Nat), (∀ i o, l[i]? = some o → ops[k + i]? = some o) → OwedVs P mk a0 W k l → OwedAll P (fun L a w => ∃ vs, W L vs w ∧ SlotsAt ops a0 L vs a) k l
 | [], k, _, _ => trivial
 | o :: l, k, hk, h => by
  refine ⟨⟨h.1.1, ?_⟩, OwedVs.toJ hsh hn l (k + 1) (fun i o' hi => by have := hk (i + 1) o' (by simpa using hi); rwa [show k + 1 + i = k + (i + 1) by omega]) h.2⟩
  intro L a w hJ hl hall
  obtain ⟨vs, hW, hS⟩ := hJ
  have ho : ops[k]? = some o := hk 0 o rfl
  have hall' : ∀ j, afterB o j = true → L j = true := by
   intro j hj
   obtain ⟨e, he, hb, rfl⟩ := after_spec hj
   exact hall e (by simpa using he) hb
  have hg := h.1.2 L vs w a.eval hW hl hall' (factsOf_mk (hS.facts hsh w ho hall'))
  have mono : ∀ {K K' : Value → World → Prop} (r : Result Next), (∀ v w, K v w → K' v w) → give P K r → give P K' r := by
   intro K K' r hKK h
   unfold give at h ⊢
   split at h
   ·
    exact hKK _ _ h
   ·
    exact hKK _ _ h
   ·
    exact Calls.mono h fun e w'' ⟨v, he, hv⟩ => ⟨v, he, hKK _ _ hv⟩
   ·
    exact h.elim
  exact mono _ (fun v w' hv => ⟨updV vs k v, hv, hS.put hsh hn ho hl v⟩) hg
/-- THE LAW. -/
theorem wp_region_W {id : Nat} {w : World} (W : (Nat → Bool) → (Nat → Value) → World → Prop) (mk : Tmp → Option Nat) (n : Nat)
  (hm : P.follows .mixedOrders = true) (hsh : shapeB mk ops n = true) (hn : a0.tmps.size = n) (h0 : ∀ vs, W (fun i => decide (ops.length ≤ i)) vs w.drew) (hG : OwedVs P mk a0 W 0 ops)
  (hQ : ∀ vs a w', W (fun _ => true) vs w' → a = putAll vs ops 0 a0 → Q .normal a w') : (Code.region id ops.toArray true).wp P Q a0 w := by
 refine wp_region_J (fun L a w => ∃ vs, W L vs w ∧ SlotsAt ops a0 L vs a) hm (shape_back hsh) ⟨fun _ => undef, h0 _, rfl, rfl, fun _ _ => rfl, fun i o hi hl => ?_⟩ (OwedVs.toJ hsh hn ops 0 (fun i o h => by rwa [Nat.zero_add]) hG) ?_
 ·
  exfalso
  have hi : i < ops.length := by
   rcases Nat.lt_or_ge i ops.length with h | h
   ·
    exact h
   ·
    simp [List.getElem?_eq_none h] at hi
  simp at hl
  omega
 ·
  rintro a w' ⟨vs, hW, hS⟩
  exact hQ vs a w' hW (hS.whole hsh hn)
end
end Go.Proofs.Ytbahelhohkhkmaa
/- A law on regions that draw their order and whose last operation lays a slot that the others read: one invariant over what was met, the values yielded and the world. No condition of its own. -/
namespace Go.Proofs.Ytbahelhohkhkmaa
open Go
/-- What was met of the first n. -/
def metN (n : Nat) (L : Nat → Bool) : Nat → Bool := fun i => decide (n ≤ i) || L i
theorem metN_1 {n i : Nat} {L : Nat → Bool} (h : i < n) : metN n (met1 L i) = met1 (metN n L) i := by
 funext j
 show (decide (n ≤ j) || (j == i || L j)) = (j == i || (decide (n ≤ j) || L j))
 exact Bool.or_left_comm _ _ _
theorem metN_all {n : Nat} {L : Nat → Bool} (h : ∀ i, i < n → L i = true) : metN n L = fun _ => true := by
 funext j
 unfold metN
 by_cases hj : n ≤ j
 ·
  simp [hj]
 ·
  simp [h j (by omega)]
section
variable {P : Program} {mk : Tmp → Option Nat} {a0 : Act} {W : (Nat → Bool) → (Nat → Value) → World → Prop} {n : Nat}
/-- What holds on the way. -/
structure OnWay (W : (Nat → Bool) → (Nat → Value) → World → Prop) (init : List Oper) (a0 : Act) (d jx : Nat) (L : Nat → Bool) (a : Act) (w : World) : Prop where
 closed : ∀ (j : Nat) oj, init[j]? = some oj → L j = true → ∀ i, afterB oj i = true → L i = true
 before : L init.length = false → ∃ vs, W (metN init.length L) vs w ∧ SlotsAt init a0 (metN init.length L) vs a
 behind : L init.length = true → (∀ i, i < init.length → L i = true) ∧ ∃ vs a1, W (fun _ => true) vs w ∧ SlotsAt init a0 (fun _ => true) vs a1 ∧ a = a1.put (some d) (vs jx)
theorem mono_give {K K' : Value → World → Prop} (r : Result Next) (hKK : ∀ v w, K v w → K' v w) (h : give P K r) : give P K' r := by
 unfold give at h ⊢
 split at h
 ·
  exact hKK _ _ h
 ·
  exact hKK _ _ h
 ·
  exact Calls.mono h fun e w'' ⟨v, he, hv⟩ => ⟨v, he, hKK _ _ hv⟩
 ·
  exact h.elim
theorem owed_init {init : List Oper} {d jx : Nat} (hsh : shapeB mk init n = true) (hn : a0.tmps.size = n) : ∀ (l : List Oper) (k : Nat), (∀ i o, l[i]? = some o → init[k + i]? = some o) → (l.length + k = init.length) → OwedVs P mk a0 W k l → ∀ tl, OwedAll P (OnWay W init a0 d jx) init.length tl → OwedAll P (OnWay W init a0 d jx) k (l ++ tl)
 | [], k, _, hlen, _, tl, htl => by
  have : k = init.length := by simpa using hlen
  rw [this]; exact htl
 | o :: l, k, hk, hlen, h, tl, htl => by
  have hlen' : l.length + (k + 1) = init.length := by simp at hlen; omega
  refine ⟨⟨h.1.1, ?_⟩, owed_init hsh hn l (k + 1) (fun i o' hi => by have := hk (i + 1) o' (by simpa using hi); rwa [show k + 1 + i = k + (i + 1) by omega]) hlen' h.2 tl htl⟩
  intro L a w hJ hl hall
  have ho : init[k]? = some o := hk 0 o rfl
  have hkn : k < init.length := by omega
  have hend : L init.length = false := by
   cases he : L init.length with
   | false => rfl
   | true => have := (hJ.behind he).1 k hkn; rw [hl] at this; cases this
  obtain ⟨vs, hW, hS⟩ := hJ.before hend
  have hall1 : ∀ j, afterB o j = true → L j = true := by
   intro j hj
   obtain ⟨e, he, hb, rfl⟩ := after_spec hj
   exact hall e (by simpa using he) hb
  have hall' : ∀ j, afterB o j = true → metN init.length L j = true := fun j hj => by unfold metN; rw [hall1 j hj]; simp
  have hl' : metN init.length L k = false := by unfold metN; rw [hl]; simp; omega
  have hg := h.1.2 (metN init.length L) vs w a.eval hW hl' hall' (factsOf_mk (hS.facts hsh w ho hall'))
  refine mono_give _ (fun v w' hv => ?_) hg
  refine ⟨?_, fun _ => ⟨updV vs k v, by rw [metN_1 hkn]; exact hv, by rw [metN_1 hkn]; exact hS.put hsh hn ho hl' v⟩, fun he => ?_⟩
  ·
   intro j oj hoj hlj i hi
   by_cases hjk : j = k
   ·
    subst hjk
    rw [ho] at hoj; cases hoj
    have := hall1 i hi
    unfold met1; rw [this]; simp
   ·
    rw [met1_other hjk] at hlj
    have := hJ.closed j oj hoj hlj i hi
    unfold met1; rw [this]; simp
  ·
   rw [met1_other (by omega)] at he
   rw [hend] at he; cases he
end
/-- THE LAW. -/
theorem wp_region_WL {P : Program} {ops : List Oper} {a0 : Act} {Q : Exit → Act → World → Prop} {id : Nat} {w : World} (W : (Nat → Bool) → (Nat → Value) → World → Prop) (mk : Tmp → Option Nat) (n : Nat) (hne : ops ≠ []) (t : Tmp) (jx d : Nat) (hx : (ops.getLast hne).op = .assign (.tmp t)) (hd : (ops.getLast hne).dst = some d) (hj : (ops.dropLast[jx]?).map (·.dst) = some (some t))
  (hm : P.follows .mixedOrders = true) (hsh : shapeB mk ops.dropLast n = true) (hn : a0.tmps.size = n) (hL : stageLB ops = true)
  (h0 : ∀ vs, W (fun i => decide (ops.dropLast.length ≤ i)) vs w.drew) (hG : OwedVs P mk a0 W 0 ops.dropLast)
  (hQ : ∀ (vs : Nat → Value) (a' : Act) (w' : World), W (fun _ => true) vs w' → a' = (putAll vs ops.dropLast 0 a0).put (some d) (vs jx) → Q .normal a' w') :
  (Code.region id ops.toArray true).wp P Q a0 w := by
 have e : ops.dropLast ++ [ops.getLast hne] = ops := List.dropLast_concat_getLast hne
 generalize ops.getLast hne = ol at *
 generalize ops.dropLast = init at *
 subst e
 unfold stageLB at hL
 rw [show (init ++ [ol]).length - 1 = init.length by simp, show (init ++ [ol])[init.length]? = some ol by simp] at hL
 simp only [Bool.and_eq_true, List.all_eq_true, List.mem_range, Option.isNone_iff_eq_none, decide_eq_true_eq, List.dropLast_concat] at hL
 obtain ⟨⟨⟨⟨_, h2⟩, h3⟩, h4⟩, h5⟩ := hL
 have hback : backB (init ++ [ol]) = true := by
  unfold backB
  rw [List.all_eq_true]
  intro i hi
  have hi := List.mem_range.1 hi
  rcases Nat.lt_or_ge i init.length with h | h
  ·
   have hb := shape_back hsh
   unfold backB at hb
   have := List.all_eq_true.1 hb i (List.mem_range.2 h)
   rw [List.getElem?_append_left h]
   exact this
  ·
   have hie : i = init.length := by simp at hi; omega
   subst hie
   rw [show (init ++ [ol])[init.length]? = some ol by simp]
   have := Array.all_eq_true_iff_forall_mem.1 h4
   simp only [List.all_eq_true]
   intro e he
   exact this e (by simpa using he)
 refine wp_region_J (OnWay W init a0 d jx) hm hback ?_ ?_ ?_
 ·
  refine ⟨fun j oj hoj hlj => ?_, fun _ => ⟨fun _ => undef, ?_, rfl, rfl, fun _ _ => rfl, fun i o hi hl => ?_⟩, fun h => ?_⟩
  ·
   have : j < init.length := (List.getElem?_eq_some_iff.1 hoj).1
   simp at hlj; omega
  ·
   have : metN init.length (fun i => decide ((init ++ [ol]).length ≤ i)) = fun i => decide (init.length ≤ i) := by
    funext i
    unfold metN
    by_cases h : init.length ≤ i
    ·
     simp [h]
    ·
     simp [h]; omega
   rw [this]; exact h0 _
  ·
   have : i < init.length := (List.getElem?_eq_some_iff.1 hi).1
   unfold metN at hl
   simp at hl
   omega
  ·
   simp at h; omega
 ·
  refine owed_init hsh hn init 0 (fun i o h => by rwa [Nat.zero_add]) (by simp) hG [ol] ⟨⟨h2, ?_⟩, trivial⟩
  intro L a w1 hJ hl hall
  have hmet : ∀ i, i < init.length → L i = true := fun i hi => by
   have := h5 i hi
   rw [Bool.or_eq_true] at this
   have near : ∀ j, afterB ol j = true → L j = true := fun j hj' => by
    obtain ⟨e, he, hb, rfl⟩ := after_spec hj'
    exact hall e (by simpa using he) hb
   rcases this with h | h
   ·
    exact near i h
   ·
    obtain ⟨j, hj', h6⟩ := List.any_eq_true.1 h
    cases hoj : (init ++ [ol])[j]? with
    | none => rw [hoj] at h6; cases h6
    | some oj =>
     rw [hoj] at h6
     simp only [Bool.and_eq_true] at h6
     have hjl : j < init.length := by simpa using List.mem_range.1 hj'
     rw [List.getElem?_append_left hjl] at hoj
     exact hJ.closed j oj hoj (near j h6.1) i h6.2
  obtain ⟨vs, hW, hS⟩ := hJ.before hl
  rw [metN_all hmet] at hW hS
  have hval : a.eval (.tmp t) = vs jx := by
   cases hoj : init[jx]? with
   | none => rw [hoj] at hj; cases hj
   | some oj =>
    rw [hoj] at hj
    simp only [Option.map_some, Option.some.injEq] at hj
    exact eval_of (hS.done jx oj hoj rfl t hj)
  refine mono_give _ (fun v w' hv => ?_) (give_move (r := a.eval) (K := fun v w' => v = a.eval (.tmp t) ∧ w' = w1) (.inr hx) ⟨rfl, rfl⟩)
  obtain ⟨rfl, rfl⟩ := hv
  refine ⟨fun j oj hoj hlj i hi => ?_, fun he => ?_, fun _ => ⟨fun i hi => ?_, vs, a, hW, hS, ?_⟩⟩
  ·
   have hjl : j < init.length := (List.getElem?_eq_some_iff.1 hoj).1
   rw [met1_other (by omega)] at hlj
   have := hJ.closed j oj hoj hlj i hi
   unfold met1; rw [this]; simp
  ·
   rw [met1_same] at he; cases he
  ·
   rw [met1_other (by omega)]; exact hmet i hi
  ·
   rw [hd, hval]
 ·
  intro a w1 hJ
  obtain ⟨_, vs, a1, hW, hS, rfl⟩ := hJ.behind rfl
  exact hQ vs _ w1 hW (by rw [hS.whole hsh hn])
end Go.Proofs.Ytbahelhohkhkmaa
/- A law on regions that draw their order, by facts on each operation but the last two: one that may write, behind all others, and one that lays its value in a slot that the others read. No condition of its own. -/
namespace Go.Proofs.Ytbahelhohkhkmaa
open Go
/-- One step back along the edges. -/
def growL (ops : List Oper) (S : List Nat) : List Nat := (List.range ops.length).filter fun i => S.contains i || S.any fun j => match ops[j]? with | some oj => afterB oj i | none => false
def growN (ops : List Oper) : Nat → List Nat → List Nat
 | 0, S => S
 | k + 1, S => growN ops k (growL ops S)
theorem growL_met {ops : List Oper} {S : List Nat} {L : Nat → Bool} (hc : ∀ (j : Nat) oj, ops[j]? = some oj → L j = true → ∀ i, afterB oj i = true → L i = true) (hS : ∀ i ∈ S, L i = true) : ∀ i ∈ growL ops S, L i = true := by
 intro i hi
 unfold growL at hi
 rw [List.mem_filter] at hi
 have h2 := hi.2
 rw [Bool.or_eq_true] at h2
 rcases h2 with h | h
 ·
  exact hS i (by simpa using h)
 ·
  obtain ⟨j, hj, h3⟩ := List.any_eq_true.1 h
  cases hoj : ops[j]? with
  | none => rw [hoj] at h3; cases h3
  | some oj => rw [hoj] at h3; exact hc j oj hoj (hS j hj) i h3
theorem growN_met {ops : List Oper} {L : Nat → Bool} (hc : ∀ (j : Nat) oj, ops[j]? = some oj → L j = true → ∀ i, afterB oj i = true → L i = true) : ∀ (k : Nat) (S : List Nat), (∀ i ∈ S, L i = true) → ∀ i ∈ growN ops k S, L i = true
 | 0, S, hS => hS
 | k + 1, S, hS => growN_met hc k _ (growL_met hc hS)
/-- The operation comes behind all others. -/
def coverB (init : List Oper) (o : Oper) (k : Nat) : Bool := let S := growN init k ((List.range init.length).filter fun i => afterB o i); (List.range init.length).all fun i => S.contains i
theorem cover_met {init : List Oper} {o : Oper} {k : Nat} (h : coverB init o k = true) {L : Nat → Bool} (hc : ∀ (j : Nat) oj, init[j]? = some oj → L j = true → ∀ i, afterB oj i = true → L i = true) (ho : ∀ j, afterB o j = true → L j = true) : ∀ i, i < init.length → L i = true := by
 intro i hi
 unfold coverB at h
 have := List.all_eq_true.1 h i (List.mem_range.2 hi)
 refine growN_met hc k _ (fun j hj => ?_) i (by simpa using this)
 rw [List.mem_filter] at hj
 exact ho j hj.2
section
variable {P : Program} {mk : Tmp → Option Nat} {a0 : Act} {R : World → World → Prop} {V : Nat → World → Value → Prop} {w0 : World} {E : World → Value → World → Prop}
/-- What holds on the way. -/
structure WayW (R : World → World → Prop) (V : Nat → World → Value → Prop) (w0 : World) (E : World → Value → World → Prop) (init : List Oper) (L : Nat → Bool) (vs : Nat → Value) (w : World) : Prop where
 closed : ∀ (j : Nat) oj, init[j]? = some oj → L j = true → ∀ i, afterB oj i = true → L i = true
 before : L init.length = false → R w0 w ∧ ∀ i, i < init.length → L i = true → V i w (vs i)
 behind : L init.length = true → (∀ i, i < init.length → L i = true) ∧ ∃ wp, R w0 wp ∧ (∀ i, i < init.length → V i wp (vs i)) ∧ E wp (vs init.length) w
theorem facts_of_vals {L : Nat → Bool} {vs : Nat → Value} {w : World} {r : Operand → Value} {ops : List Oper} {n : Nat} (hsh : shapeB mk ops n = true) {i : Nat} {o : Oper} (ho : ops[i]? = some o) (hall : ∀ j, afterB o j = true → V j w (vs j)) (h : factsOf mk a0 (fun j _ v => v = vs j) r w o.op.operands.toList) : factsOf mk a0 V r w o.op.operands.toList := by
 have hs := shape_spec hsh ho
 simp only [shapeOneB, Bool.and_eq_true, List.all_eq_true] at hs
 have key : ∀ l : List Operand, (∀ x ∈ l, x ∈ o.op.operands.toList) → factsOf mk a0 (fun j _ v => v = vs j) r w l → factsOf mk a0 V r w l := by
  intro l
  induction l with
  | nil => intro _ _; trivial
  | cons x l ih =>
   intro hm hf
   refine ⟨?_, ih (fun y hy => hm y (by simp [hy])) hf.2⟩
   have h2 := hs.1.1.1.2 x (hm x (by simp))
   have h1 := hf.1
   cases x with
   | tmp t =>
    simp only [factOf] at h1 ⊢
    simp only [Bool.and_eq_true, beq_iff_eq] at h2
    rw [← h2.1] at h1 ⊢
    cases hmk : maker ops t with
    | none => rw [hmk] at h1; exact h1
    | some j =>
     rw [hmk] at h1
     simp only [hmk] at h2
     simp only at h1 ⊢
     rw [h1]
     exact hall j h2.2
   | const c => exact h1
   | global g => exact h1
   | func f => exact h1
 exact key _ (fun x hx => hx) h
theorem owed_W {init : List Oper} {ol : Oper} {n : Nat} (hsh : shapeB mk (init ++ [ol]) n = true) (hV : ∀ i w w' v, R w w' → V i w v → V i w' v) (hT : ∀ a b c, R a b → R b c → R a c) (hgu : ∀ (i : Nat) o, init[i]? = some o → o.guard = none) (hG : ∀ i o, init[i]? = some o → Good P mk a0 R V w0 i o) : ∀ (l : List Oper) (k : Nat), (∀ i o, l[i]? = some o → init[k + i]? = some o) → (l.length + k = init.length) → ∀ tl, OwedVs P mk a0 (WayW R V w0 E init) init.length tl → OwedVs P mk a0 (WayW R V w0 E init) k (l ++ tl)
 | [], k, _, hlen, tl, htl => by
  have : k = init.length := by simpa using hlen
  rw [this]; exact htl
 | o :: l, k, hk, hlen, tl, htl => by
  have hlen' : l.length + (k + 1) = init.length := by simp at hlen; omega
  have ho : init[k]? = some o := hk 0 o rfl
  have hkn : k < init.length := by omega
  refine ⟨⟨hgu k o ho, ?_⟩, owed_W hsh hV hT hgu hG l (k + 1) (fun i o' hi => by have := hk (i + 1) o' (by simpa using hi); rwa [show k + 1 + i = k + (i + 1) by omega]) hlen' tl htl⟩
  intro L vs w r hW hl hall hf
  have hend : L init.length = false := by
   cases he : L init.length with
   | false => rfl
   | true => have := (hW.behind he).1 k hkn; rw [hl] at this; cases this
  obtain ⟨hR, hVs⟩ := hW.before hend
  have ho2 : (init ++ [ol])[k]? = some o := by rw [List.getElem?_append_left hkn]; exact ho
  have hlt : ∀ j, afterB o j = true → j < init.length := fun j hj => by
   have hb := shape_spec hsh ho2
   simp only [shapeOneB, Bool.and_eq_true] at hb
   have h5 := Array.all_eq_true_iff_forall_mem.1 hb.2
   obtain ⟨e, he, hbd, rfl⟩ := after_spec hj
   have := h5 e he
   simp [hbd] at this
   omega
  have hf' := facts_of_vals hsh (L := L) ho2 (fun j hj => hVs j (hlt j hj) (hall j hj)) hf
  have hg := hG k o ho r w hR hf'
  rw [hgu k o ho] at hg
  refine mono_give _ (fun v w' ⟨h1, h2⟩ => ?_) hg
  refine ⟨fun j oj hoj hlj i hi => ?_, fun _ => ⟨hT _ _ _ hR h1, fun i hi hli => ?_⟩, fun he => ?_⟩
  ·
   by_cases hjk : j = k
   ·
    subst hjk
    rw [ho] at hoj; cases hoj
    have := hall i hi
    unfold met1; rw [this]; simp
   ·
    rw [met1_other hjk] at hlj
    have := hW.closed j oj hoj hlj i hi
    unfold met1; rw [this]; simp
  ·
   by_cases hik : i = k
   ·
    subst hik; rw [updV_same]; exact h2
   ·
    rw [met1_other hik] at hli
    rw [updV_other hik]; exact hV _ _ _ _ h1 (hVs i hi hli)
  ·
   rw [met1_other (by omega)] at he
   rw [hend] at he; cases he
end
/-- THE LAW. -/
theorem wp_region_factsW {P : Program} {ops : List Oper} {a0 : Act} {Q : Exit → Act → World → Prop} {id : Nat} {w : World} (mk : Tmp → Option Nat) (n : Nat) (R : World → World → Prop) (Vs : List Fact) (hne : ops ≠ []) (hne2 : ops.dropLast ≠ []) (t : Tmp) (jx d : Nat) (hx : (ops.getLast hne).op = .assign (.tmp t)) (hd : (ops.getLast hne).dst = some d) (hj : (ops.dropLast[jx]?).map (·.dst) = some (some t))
  (hlen : Vs.length = ops.dropLast.dropLast.length) (hm : P.follows .mixedOrders = true) (hsh : shapeB mk ops.dropLast n = true) (hn : a0.tmps.size = n) (hL : stageLB ops = true) (hcov : coverB ops.dropLast.dropLast (ops.dropLast.getLast hne2) 12 = true)
  (hRf : ∀ w, R w w) (hT : ∀ a b c, R a b → R b c → R a c) (hK : KeepAll R Vs) (E : World → Value → World → Prop) (hG : GoodAll P mk a0 R (at_ Vs) w.drew 0 ops.dropLast.dropLast)
  (hW : ∀ (r : Operand → Value) (w' : World), R w.drew w' → factsOf mk a0 (at_ Vs) r w' (ops.dropLast.getLast hne2).op.operands.toList → give P (fun v w'' => E w' v w'') ((execOp r (ops.dropLast.getLast hne2)).run P w'))
  (hQ : ∀ (vs : Nat → Value) (w' w'' : World) (a' : Act), R w.drew w' → HoldAll w' vs 0 Vs → E w' (vs ops.dropLast.dropLast.length) w'' → a' = (putAll vs ops.dropLast 0 a0).put (some d) (vs jx) → Q .normal a' w'') :
  (Code.region id ops.toArray true).wp P Q a0 w := by
 have e : ops.dropLast.dropLast ++ [ops.dropLast.getLast hne2] = ops.dropLast := List.dropLast_concat_getLast hne2
 have hgu : ∀ p ∈ ops.dropLast, p.guard = none := by
  unfold stageLB at hL
  split at hL
  ·
   cases hL
  ·
   simp only [Bool.and_eq_true, List.all_eq_true, Option.isNone_iff_eq_none] at hL
   exact hL.1.1.2
 generalize hin : ops.dropLast.dropLast = init at *
 generalize hol : ops.dropLast.getLast hne2 = ol at *
 have hgi : ∀ (i : Nat) o, init[i]? = some o → o.guard = none := fun i o hi => hgu o (by rw [← e]; exact List.mem_append_left _ (List.mem_of_getElem? hi))
 rw [← e] at hsh
 refine wp_region_WL (WayW R (at_ Vs) w.drew E init) mk n hne t jx d hx hd hj hm (by rw [← e]; exact hsh) hn hL ?_ ?_ ?_
 ·
  intro vs
  rw [← e]
  refine ⟨fun j oj hoj hlj => ?_, fun _ => ⟨hRf _, fun i hi hli => ?_⟩, fun h => ?_⟩
  ·
   have : j < init.length := (List.getElem?_eq_some_iff.1 hoj).1
   simp at hlj; omega
  ·
   simp at hli; omega
  ·
   simp at h; omega
 ·
  rw [← e]
  refine owed_W hsh hK.at hT hgi (fun i o hi => by have := hG.at i o hi; rwa [Nat.zero_add] at this) init 0 (fun i o h => by rwa [Nat.zero_add]) (by simp) [ol] ⟨⟨hgu ol (by rw [← e]; simp), ?_⟩, trivial⟩
  intro L vs w1 r hWy hl hall hf
  obtain ⟨hR, hVs⟩ := hWy.before hl
  have hmet := cover_met hcov hWy.closed hall
  have ho2 : (init ++ [ol])[init.length]? = some ol := by simp
  have hf' := facts_of_vals hsh (L := L) ho2 (fun j hj => by
   by_cases h : j < init.length
   ·
    exact hVs j h (hmet j h)
   ·
    unfold at_
    rw [List.getD_eq_getElem?_getD, List.getElem?_eq_none (by omega)]
    trivial) hf
  refine mono_give _ (fun v w' hE => ?_) (hW r w1 hR hf')
  refine ⟨fun j oj hoj hlj i hi => ?_, fun he => ?_, fun _ => ⟨fun i hi => ?_, w1, hR, fun i hi => ?_, ?_⟩⟩
  ·
   have : j < init.length := (List.getElem?_eq_some_iff.1 hoj).1
   rw [met1_other (by omega)] at hlj
   have := hWy.closed j oj hoj hlj i hi
   unfold met1; rw [this]; simp
  ·
   rw [met1_same] at he; cases he
  ·
   rw [met1_other (by omega)]; exact hmet i hi
  ·
   rw [updV_other (by omega)]; exact hVs i hi (hmet i hi)
  ·
   rw [updV_same]; exact hE
 ·
  intro vs a' w' hWy ha'
  obtain ⟨_, wp, hR, hVs, hE⟩ := hWy.behind rfl
  exact hQ vs wp w' a' hR (HoldAll.mk fun i hi => by rw [Nat.zero_add]; exact hVs i (by omega)) hE ha'
end Go.Proofs.Ytbahelhohkhkmaa
/- The document's bytes of a good chunk: of kind 193. No condition of its own. -/
namespace Go.Proofs.Ytbahelhohkhkmaa
namespace Tlv
open Go Go.RowKit
set_option maxRecDepth 100000
theorem NumV.ext {N0 : Nat} {l : List Nat} {a b : World} {v : Value} (h : NumV N0 l a v) (he : Ext a b) : NumV N0 l b v := by
 obtain ⟨x, c, e, ho⟩ := h
 exact ⟨x, c, e, ho.ext he⟩
theorem goodP_ops {L : List (Int × Int)} (h : opsB L = true) : ∀ p ∈ (pOps L : List Par), goodP p = true := fun p hp => by
 obtain ⟨q, hq, rfl⟩ := List.mem_map.1 hp
 unfold opsB at h
 obtain ⟨hX, _⟩ := opB_at (List.all_eq_true.1 h q hq)
 exact (goodP_iff _).2 ⟨by show (0 : Int) ≤ 49152 + q.1; omega, by show 49152 + q.1 ≤ (65535 : Int); omega, by show (be q.2.toNat 4).length ≤ 4000; rw [be_len]; decide⟩
set_option maxHeartbeats 32000000 in
theorem docB_193 {w : World} {c : Ck} {s : Sv} (ha : CkAt w s c) (hf : Fit c) (hg : GoodC c) (hk : c.kind = 193) :
  Calls Try.prog 16 #[.agg (CV c s)] w (DocBytesIs w c) := by
 have hbl : flagN c.pb c.pe c.pu = 0 := by have h := ((yes_iff c).2 hg).blank (by rw [hk]; decide); rw [h.2.2.2.1, h.2.2.2.2.1, h.2.2.2.2.2.1]; rfl
 have HFQ : Hid (flagN c.pb c.pe c.pu = 0) := hbl
 clear hbl
 have h3 := good_193 hg hk
 have HVL0 := valB_len hg
 have b_serial := hf.serial
 have w_serial : IntKind.i64.wrap (c.serial : Int) = (c.serial : Int) := by rw [IntKind.wrap_i64]; omega
 have v_serial : wrap64 (c.serial : Int) = (c.serial : Int) := by unfold wrap64; omega
 have CM19 : ∀ {wx : World}, Blk wx w.heap.size (CV c s) 32 → wx.cell? ⟨w.heap.size, 19, none⟩ = some (.int .u32 (c.serial : Int)) := fun h => cv19 h
 obtain ⟨NO, hNO⟩ : ∃ n, n = c.ops.length := ⟨_, rfl⟩
 have hvb : valB c = be c.serial 4 ++ writeB (pOps c.ops) := by
  unfold valB
  rw [if_neg (by omega), if_neg (by omega), if_neg (by omega), if_neg (by omega), if_neg (by omega), if_neg (by omega), if_neg (by omega), if_pos hk]
  rfl
 have HVB : Hid (valB c = be c.serial 4 ++ writeB (pOps c.ops)) := hvb
 clear hvb
 have hO9 : NO ≤ 9 := by omega
 obtain ⟨oA, hoA⟩ : ∃ x, x = s.oA := ⟨_, rfl⟩
 have CM20 : ∀ {wx : World}, Blk wx w.heap.size (CV c s) 32 → wx.cell? ⟨w.heap.size, 20, none⟩ = some (.slice oA NO s.oC) := fun h => by rw [hoA, hNO, ← ha.o.len.1]; exact cv20 h
 have HOt : Hid (PairsAt w (.slice oA NO s.oC) c.ops ∧ NO = c.ops.length ∧ opsB c.ops = true) := ⟨by rw [hoA, hNO, ← ha.o.len.1]; exact ha.o, hNO, h3.2⟩
 clear h3 hNO hoA
 have HA : Hid (CkAt w s c ∧ Fit c ∧ GoodC c ∧ c.kind = 193 ∧ (valB c).length ≤ 600) := ⟨ha, hf, hg, hk, HVL0⟩
 clear ha hf hg hk HVL0
 go_enter Try.func16, Try.ntmps16
 refine wp_seq_k (fun K0 hK => ?_)
 have HK0 := Stop.mk hK
 clear hK
 go_wp2_with (first
  | (refine wl_box (C := CV c s) rfl rfl rfl ?_; intro w1 hb1 he1 hx; clear hx))
 refine HK0.go _ _ ?_
 clear HK0
 have HS1 : Hid (Blk w1 w.heap.size (CV c s) 32 ∧ Ext w w1 ∧ True) := ⟨hb1, he1, trivial⟩
 clear hb1 he1
 refine wp_seq_k (fun K1 hK => ?_)
 have HK1 := Stop.mk hK
 clear hK
 go_wp2
 refine HK1.go _ _ ?_
 clear HK1
 refine wp_seq_k (fun K2 hK => ?_)
 have HK2 := Stop.mk hK
 clear hK
 go_wp2
 refine HK2.go _ _ ?_
 clear HK2
 refine wp_seq_k (fun K3 hK => ?_)
 have HK3 := Stop.mk hK
 clear hK
 go_wp2
 refine HK3.go _ _ ?_
 clear HK3
 refine wp_seq_k (fun Ksw hK => ?_)
 have HKsw := Stop.mk hK
 clear hK
 have c0 := cv0 HS1.out.1
 rw [HA.out.2.2.2.1] at c0
 go_upto_region 49 with fail
 have c19 := CM19 HS1.out.1
 go_wp2_with (first
  | (go_at_call 36; refine (refNumI_any c.serial (by omega) 4 _).mono ?_; rintro e w2 ⟨a2, n2, c2, rfl, hn2, ho2', he2⟩; rw [numBi4] at hn2 ho2'; have HN2 : Hid (n2 = (be c.serial 4).length) := hn2; have HS2 : Hid (Blk w2 w.heap.size (CV c s) 32 ∧ Ext w w2 ∧ OB w2 w.heap.size (.slice a2 n2 c2) (be c.serial 4)) := ⟨HS1.out.1.ext he2, HS1.out.2.1.trans he2, ho2'.base HS1.out.2.1.size⟩; clear hn2 ho2' he2 c19))
 clear w_serial v_serial b_serial HS1 c0
 go_loopg [5, 9] NO (fun gm x t wr => ∃ (k : Nat) (oa : Option Addr) (on oc : Nat), k ≤ NO ∧ gm = NO - k ∧ x = .slice oa on oc ∧ t = .int .i64 (k : Int) ∧ Hid (on = k ∧ Blk wr w.heap.size (CV c s) 32 ∧ Ext w wr ∧ OB wr w.heap.size (.slice a2 n2 c2) (be c.serial 4) ∧ OwnQ 85 w wr (.slice oa on oc) (pOps (c.ops.take k))))
 case atStart => exact ⟨0, none, 0, 0, Nat.zero_le _, rfl, rfl, rfl, rfl, HS2.out.1, HS2.out.2.1, HS2.out.2.2, OwnQ.nil _ _ _⟩
 case round =>
  obtain ⟨k, oa, on, oc, hk, rfl, rfl, rfl, HR⟩ := hrel
  by_cases hlt : k < NO
  ·
   have hd : decide ((k : Int) < (NO : Int)) = true := decide_eq_true (by omega)
   have hkL : k < c.ops.length := by rw [← HOt.out.2.1]; exact hlt
   have hkn : (k : Int) < (NO : Int) := by omega
   have hd2 : decide (k < NO) = true := decide_eq_true hlt
   obtain ⟨b, off, rfl, hc0, hc1⟩ := HOt.out.1.cellAt k hkL
   obtain ⟨hX, A, hA, hA2⟩ := opB_at ((all_iffD opB (0, 0) _).1 HOt.out.2.2 k hkL)
   obtain ⟨X, hXe⟩ : ∃ X, X = (c.ops.getD k (0, 0)).1 := ⟨_, rfl⟩
   rw [← hXe] at hc0 hX
   rw [hA] at hc1
   obtain ⟨K, hK⟩ : ∃ K : Int, 49152 + X = K := ⟨_, rfl⟩
   have wK : IntKind.i64.wrap K = K := by rw [IntKind.wrap_i64]; omega
   have vK : wrap64 K = K := by unfold wrap64; omega
   have HAk : Hid (pOps (c.ops.take (k + 1)) = pOps (c.ops.take k) ++ [(K, be A 4)]) := show _ = _ by rw [take_snocD (0, 0) hkL]; simp only [pOps, List.map_append, List.map_cons, List.map_nil]; rw [hA, ← hXe, hK]; rfl
   have HC0 : Hid (w.cell? ⟨b, off + k * 2, none⟩ = some (.int .i64 X) ∧ w.cell? ⟨b, off + k * 2 + 1, none⟩ = some (.int .i64 (A : Int))) := ⟨hc0, hc1⟩
   have HKk : Hid (k < NO) := hlt
   have d20 := CM20 HR.out.2.1
   clear hA hXe hX hkL hc0 hc1
   go_wp2_with fail
   clear d20
   have HBx : ∀ {wx : World}, Ext wr.drew wx → Blk wx w.heap.size (CV c s) 32 := fun h => HR.out.2.1.ext ((Ext.drew _).trans h)
   have HEx : ∀ {wx : World}, Ext wr.drew wx → Ext w wx := fun h => (HR.out.2.2.1.trans (Ext.drew _)).trans h
   refine wp_region_factsW (fun t => bif Nat.ble 212 t && Nat.ble t 229 then some (t - 212) else none) 265 Ext
    [Is (.slice oa on oc),
     Is (.pointer (some ⟨w.heap.size, 20, none⟩)),
     Is (.slice (some ⟨b, off, none⟩) NO s.oC),
     Is (.int .i64 (k : Int)),
     Is (.pointer (some ⟨b, off + k * 2, none⟩)),
     Is (.pointer (some ⟨b, off + k * 2, none⟩)),
     Is (.int .i64 X),
     Is (.int .i64 K),
     Is (.pointer (some ⟨w.heap.size, 20, none⟩)),
     Is (.slice (some ⟨b, off, none⟩) NO s.oC),
     Is (.int .i64 (k : Int)),
     Is (.pointer (some ⟨b, off + k * 2, none⟩)),
     Is (.pointer (some ⟨b, off + k * 2 + 1, none⟩)),
     Is (.int .i64 (A : Int)),
     (NumV w.heap.size (be A 4)),
     (fun wx v => ∃ u, v = .agg #[.int .i64 K, u] ∧ NumV w.heap.size (be A 4) wx u),
     (fun wx v => ∃ g u, v = .slice (some ⟨g, 0, none⟩) 1 1 ∧ Blk wx g #[.int .i64 K, u] 85 ∧ NumV w.heap.size (be A 4) wx u)]
    (by intro h; cases h) (by intro h; cases h) 229 17 5 rfl rfl rfl rfl (by kernel_rfl) (by kernel_rfl) rfl (by kernel_rfl) (by kernel_rfl) Ext.refl (fun _ _ _ => Ext.trans) ?_ (fun w1 v w2 => ∃ a n cp, v = .slice a n cp ∧ n = (pOps (c.ops.take k)).length + 1 ∧ OwnQ 85 w w2 v (pOps (c.ops.take k) ++ [(K, be A 4)]) ∧ Ext w w2 ∧ KeepBut (fun q => (Value.slice oa on oc).ownBlock = some q) w1 w2) ?_ ?_ ?_
   ·
    exact Ks (Ks (Ks (Ks (Ks (Ks (Ks (Ks (Ks (Ks (Ks (Ks (Ks (Ks (KeepAll.cons (fun _ _ _ hR h => NumV.ext h hR) (KeepAll.cons (fun _ _ _ hR h => by obtain ⟨u, e, hu⟩ := h; exact ⟨u, e, hu.ext hR⟩) (KeepAll.cons (fun _ _ _ hR h => by obtain ⟨g, u, e, hb, hu⟩ := h; exact ⟨g, u, e, hb.ext hR, hu.ext hR⟩) (KeepAll.nil)))))))))))))))))
   ·
    refine Gc (lr1 Ext.refl rfl rfl rfl (fun _ _ h => h) (fun r wx hR h1 => exec_mv (.inl rfl) h1)) ?_
    refine Gc (lr1 Ext.refl rfl rfl rfl (fun _ _ h => h) (fun r wx hR h1 => by simp [execOp, h1, go_sem])) ?_
    refine Gc (lr1 Ext.refl rfl rfl rfl (fun _ _ h => h) (fun r wx hR h1 => exg oneSO2 rfl h1 (CM20 (HBx hR)))) ?_
    refine Gc (lr1 Ext.refl rfl rfl rfl (fun _ _ h => h) (fun r wx hR h1 => exec_mv (.inl rfl) h1)) ?_
    refine Gc (lr2 Ext.refl rfl rfl rfl (fun _ _ h => h) (fun _ _ h => h) (fun r wx hR h1 h2 => by simp [execOp, h1, h2, hkn, go_sem])) ?_
    refine Gc (lr1 Ext.refl rfl rfl rfl (fun _ _ h => h) (fun r wx hR h1 => by simp [execOp, h1, go_sem])) ?_
    refine Gc (lr1 Ext.refl rfl rfl rfl (fun _ _ h => h) (fun r wx hR h1 => exg one3 rfl h1 ((HEx hR).cell HC0.out.1))) ?_
    refine Gc (lr2 Ext.refl rfl rfl rfl (fun _ _ h => h) (fun _ _ h => h) (fun r wx hR h1 h2 => by simp [execOp, h1, h2, hK, wK, vK, go_sem])) ?_
    refine Gc (lr1 Ext.refl rfl rfl rfl (fun _ _ h => h) (fun r wx hR h1 => by simp [execOp, h1, go_sem])) ?_
    refine Gc (lr1 Ext.refl rfl rfl rfl (fun _ _ h => h) (fun r wx hR h1 => exg oneSO2 rfl h1 (CM20 (HBx hR)))) ?_
    refine Gc (lr1 Ext.refl rfl rfl rfl (fun _ _ h => h) (fun r wx hR h1 => exec_mv (.inl rfl) h1)) ?_
    refine Gc (lr2 Ext.refl rfl rfl rfl (fun _ _ h => h) (fun _ _ h => h) (fun r wx hR h1 h2 => by simp [execOp, h1, h2, hkn, go_sem])) ?_
    refine Gc (lr1 Ext.refl rfl rfl rfl (fun _ _ h => h) (fun r wx hR h1 => by simp [execOp, h1, go_sem])) ?_
    refine Gc (lr1 Ext.refl rfl rfl rfl (fun _ _ h => h) (fun r wx hR h1 => exg oneAd rfl h1 ((HEx hR).cell HC0.out.2))) ?_
    refine Gc ?_ ?_
    ·
     rintro r wx hR ⟨h1, h2, h3, _⟩
     replace h1 : r (.func 36) = .func (.func 36) #[] #[] := h1
     replace h2 : r (.tmp 225) = (.int .i64 (A : Int)) := h2
     replace h3 : r (.const (.int .i64 4)) = .int .i64 4 := h3
     refine give_func #[.int .i64 (A : Int), .int .i64 4] rfl h1 Try.call36 (by simp [h2, h3]) ?_
     refine (refNumI_any A (by omega) 4 _).mono ?_
     rintro e w1 ⟨qa, qm, qc, rfl, hqm, hqo, hqe⟩
     rw [numBi4] at hqm hqo
     subst hqm
     exact ⟨_, rfl, hqe, _, _, rfl, hqo.base (HEx hR).size⟩
    refine Gc ?_ ?_
    ·
     rintro r wx hR ⟨h1, h2, _⟩
     replace h1 : r (.tmp 219) = (.int .i64 K) := h1
     replace h2 : ((NumV w.heap.size (be A 4)) : Fact) wx (r (.tmp 226)) := h2
     obtain ⟨ua, uc, ue, uo⟩ := h2
     rw [ue] at uo
     exact gvo (by simp [execOp, h1, ue, go_sem]) ⟨Ext.refl _, _, rfl, ua, uc, rfl, uo⟩
    refine Gc ?_ ?_
    ·
     rintro r wx hR ⟨h1, _⟩
     replace h1 : ((fun wx v => ∃ u, v = .agg #[.int .i64 K, u] ∧ NumV w.heap.size (be A 4) wx u) : Fact) wx (r (.tmp 227)) := h1
     obtain ⟨u, e1, hu⟩ := h1
     exact gvo (by simp [execOp, e1, go_sem]) ⟨Ext.alloc _ _, _, u, rfl, Blk.new _ _ _, hu.ext (Ext.alloc _ _)⟩
    exact GoodAll.nil
   ·
    rintro r wx hR ⟨h1, h2, _⟩
    replace h1 : r (.tmp 212) = (.slice oa on oc) := h1
    replace h2 : ((fun wx v => ∃ g u, v = .slice (some ⟨g, 0, none⟩) 1 1 ∧ Blk wx g #[.int .i64 K, u] 85 ∧ NumV w.heap.size (be A 4) wx u) : Fact) wx (r (.tmp 228)) := h2
    obtain ⟨g, u, e2, hb, ua, uc, rfl, uo⟩ := h2
    obtain ⟨a9, c9, w9, hrun, ho9, hk9, he9⟩ := run_pushQ parT2 w wx 82 g (.slice oa on oc) _ (pOps (c.ops.take k)) K (be A 4) (HR.out.2.2.2.2.ext ((Ext.drew _).trans hR)) (hb.cell 0) (hb.cell 1) (.inl uo) (by simp only [pOps, List.length_map, List.length_take]; omega) (HEx hR)
    exact gvo (exec_runP rfl h1 e2 hrun) ⟨a9, _, c9, rfl, rfl, ho9, he9, hk9⟩
   ·
    intro vs w20 w21 aY hR hold hE ha
    have hv0 : vs 0 = (.slice oa on oc) := hold.at 0
    have hv1 : vs 1 = (.pointer (some ⟨w.heap.size, 20, none⟩)) := hold.at 1
    have hv2 : vs 2 = (.slice (some ⟨b, off, none⟩) NO s.oC) := hold.at 2
    have hv3 : vs 3 = (.int .i64 (k : Int)) := hold.at 3
    have hv4 : vs 4 = (.pointer (some ⟨b, off + k * 2, none⟩)) := hold.at 4
    have hv5 : vs 5 = (.pointer (some ⟨b, off + k * 2, none⟩)) := hold.at 5
    have hv6 : vs 6 = (.int .i64 X) := hold.at 6
    have hv7 : vs 7 = (.int .i64 K) := hold.at 7
    have hv8 : vs 8 = (.pointer (some ⟨w.heap.size, 20, none⟩)) := hold.at 8
    have hv9 : vs 9 = (.slice (some ⟨b, off, none⟩) NO s.oC) := hold.at 9
    have hv10 : vs 10 = (.int .i64 (k : Int)) := hold.at 10
    have hv11 : vs 11 = (.pointer (some ⟨b, off + k * 2, none⟩)) := hold.at 11
    have hv12 : vs 12 = (.pointer (some ⟨b, off + k * 2 + 1, none⟩)) := hold.at 12
    have hv13 : vs 13 = (.int .i64 (A : Int)) := hold.at 13
    replace hE : (fun w1 v w2 => ∃ a n cp, v = .slice a n cp ∧ n = (pOps (c.ops.take k)).length + 1 ∧ OwnQ 85 w w2 v (pOps (c.ops.take k) ++ [(K, be A 4)]) ∧ Ext w w2 ∧ KeepBut (fun q => (Value.slice oa on oc).ownBlock = some q) w1 w2) w20 (vs 17) w21 := hE
    obtain ⟨a9, n9, c9, e9, hn9, ho9, hx9, hk9⟩ := hE
    simp only [List.dropLast_cons_cons, List.dropLast_singleton, putAll, Act.put, hv0, hv1, hv2, hv3, hv4, hv5, hv6, hv7, hv8, hv9, hv10, hv11, hv12, hv13, e9, List.setIfInBounds_toArray, List.set_cons_succ, List.set_cons_zero] at ha
    subst ha
    rw [e9] at ho9
    have HQ : Hid (n9 = k + 1 ∧ Blk w21 w.heap.size (CV c s) 32 ∧ Ext w w21 ∧ OB w21 w.heap.size (.slice a2 n2 c2) (be c.serial 4) ∧ OwnQ 85 w w21 (.slice a9 n9 c9) (pOps (c.ops.take (k + 1)))) := by
     have hq0 := HR.out.2.2.2.2.ext ((Ext.drew _).trans hR)
     refine ⟨?_, (HBx hR).but hk9 (fun e => hq0.ne (HBx hR) (by decide) e), hx9, (HR.out.2.2.2.1.ext ((Ext.drew _).trans hR)).keepQ hq0 (by decide) hk9, by rw [HAk.out]; exact ho9⟩
     rw [hn9]
     simp only [pOps, List.length_map, List.length_take]
     have h1 := HKk.out
     have h2 := HOt.out.2.1
     omega
    clear hold hR hk9 ho9 hx9 hn9 e9 HBx HEx hv0 hv1 hv2 hv3 hv4 hv5 hv6 hv7 hv8 hv9 hv10 hv11 hv12 hv13
    go_wp2
    go_roundg (NO - (k + 1))
    case measure => omega
    case rel => exact ⟨k + 1, a9, n9, c9, by omega, rfl, rfl, by simp, HQ.out⟩
  ·
   have hd : decide ((k : Int) < (NO : Int)) = false := decide_eq_false (by omega)
   have hd2 : decide (k < NO) = false := decide_eq_false hlt
   have HT_ : Hid (c.ops.take k = c.ops) := List.take_of_length_le (by rw [← HOt.out.2.1]; omega)
   rw [HT_.out] at HR
   obtain ⟨w22, hw22⟩ : ∃ x, x = wr := ⟨_, rfl⟩
   obtain ⟨a22, ha22⟩ : ∃ x, x = oa := ⟨_, rfl⟩
   obtain ⟨c22, hc22⟩ : ∃ x, x = oc := ⟨_, rfl⟩
   obtain ⟨n22, hn22⟩ : ∃ x, x = on := ⟨_, rfl⟩
   subst hw22 ha22 hc22 hn22
   have HS22 : Hid (n22 = k ∧ Blk w22 w.heap.size (CV c s) 32 ∧ Ext w w22 ∧ OB w22 w.heap.size (.slice a2 n2 c2) (be c.serial 4) ∧ OwnQ 85 w w22 (.slice a22 n22 c22) (pOps c.ops)) := HR.out
   clear HR hlt
   have d20 := CM20 HS22.out.2.1
   go_wp2
   clear hd hd2 HT_ d20
   have HT : Hid (Blk w22 w.heap.size (CV c s) 32 ∧ Ext w w22 ∧ BytesAt w22 (.slice a2 n2 c2) (be c.serial 4) ∧ ParsAt w22 (.slice a22 n22 c22) (pOps c.ops) ∧ be c.serial 4 ++ writeB (pOps c.ops) = valB c ∧ (be c.serial 4 : List Nat).length ≤ 600 ∧ (writeB (pOps c.ops)).length ≤ 700 ∧ (pOps c.ops : List Par).length ≤ 20 ∧ (∀ p ∈ (pOps c.ops : List Par), goodP p = true) ∧ flagN c.pb c.pe c.pu = 0) := ⟨by exact HS22.out.2.1, by exact HS22.out.2.2.1, by exact HS22.out.2.2.2.1.bytes, by exact HS22.out.2.2.2.2.pars HS22.out.2.2.1, by rw [HVB.out], by rw [be_len]; omega, by have h1 := HA.out.2.2.2.2; rw [HVB.out, List.length_append] at h1; omega, by simp only [pOps, List.length_map]; have := HOt.out.2.1; omega, by exact goodP_ops HOt.out.2.2, by exact HFQ.out⟩
   clear HS22
   refine HKsw.go _ _ ?_
   clear HKsw
   exact tailB (FL := 0) (K := 193) (by decide) HA.out.2.2.2.1 (by decide) HA.out.2.2.2.2 HT
set_option maxRecDepth 100000
theorem docBytes_any {w : World} {c : Ck} {s : Sv} (ha : CkAt w s c) (hf : Fit c) (hg : GoodC c) :
  Calls Try.prog 16 #[.agg (CV c s)] w (DocBytesIs w c) := by
 rcases knB_cases hg.kn with h | h | h | h | h | h | h | h | h | h | h | h | h | h | h | h
 ·
  exact docB_0 ha hf hg h
 ·
  exact docB_1 ha hf hg h
 ·
  exact docB_2 ha hf hg h
 ·
  exact docB_3 ha hf hg h
 ·
  exact docB_4 ha hf hg h
 ·
  exact docB_5 ha hf hg h
 ·
  exact docB_6 ha hf hg h
 ·
  exact docB_7 ha hf hg h
 ·
  exact docB_8 ha hf hg h
 ·
  exact docB_9 ha hf hg h
 ·
  exact docB_10 ha hf hg h
 ·
  exact docB_11 ha hf hg h
 ·
  exact docB_14 ha hf hg h
 ·
  exact docB_15 ha hf hg h
 ·
  cases ho : c.ok with
  | true => exact docB_128t ha hf hg h ho
  | false => exact docB_128f ha hf hg h ho
 ·
  exact docB_193 ha hf hg h
end Tlv
end Go.Proofs.Ytbahelhohkhkmaa
