/- For any two secrets, any cookie and any number the law CookieForges answers true and leaves its arguments as they were: a good cookie with a bit of its seal turned is refused by who sealed it, and another secret's holder refuses it just if both seals differ. Conditions: the package-level tables squareRoots and cubeRoots hold what the program's text lays (tied). -/
import Derived.Test.YtfhoielfekeihaaDoorMgF8
import Derived.Test.YtfhoielfekeihaaDoorRows
import Derived.MakeChecks
import Derived.WalkKit
import Derived.ProofKit
import Derived.OpenShut
import Derived.ShutString
import Derived.ChangeOld
import Derived.Below
import Derived.Test.YtfhoielfekeihaaDoorCards
import Derived.Test.YtfhoielfekeihaaDoorTie
import Derived.SevenTiedAt
import Derived.LaidMore
import Derived.Stop.Joined
/- The law CookieForges walked: it answers true. Condition: the tables hold what the text lays. -/
namespace Go.Proofs.YtfhoielfekeihaaDoor
namespace Tlv
open Go Go.RowKit
set_option linter.unusedVariables false
set_option linter.unusedSimpArgs false
set_option maxRecDepth 100000


set_option maxHeartbeats 16000000 in
theorem forges_walk {w : World} {u v : Value} {K L : List Nat} {c : Co} {s : So} {n : Int} (hT : Tabs w) (hu : BytesAt w u K) (hv : BytesAt w v L) (hc : CoAt w s c) (hf : FitC c) (hn : W64 n) :
    Calls Tryd.prog 5 #[.agg (PV u v c s n)] w fun e w' => e = .returned (.bool true) ∧ Ext w w' := by
  have HT : Hid (Tabs w) := hT
  have HA : Hid (BytesAt w u K ∧ BytesAt w v L ∧ CoAt w s c) := ⟨hu, hv, hc⟩
  have HF : Hid (FitC c) := hf
  obtain ⟨ua, uc, rfl, _, _⟩ := hu.form
  obtain ⟨va, vc, rfl, _, _⟩ := hv.form
  rename_i z1 z2 z3 z4
  clear z1 z2 z3 z4 hT hu hv hc hf
  cases hbk : bigK K c with
  | true =>
    go_enter Tryd.func5, Tryd.ntmps5
    go_wp2_with (first
      | (go_at_call 8; refine (large_any (HA.out.1.ext (he1.trans he2)) (HA.out.2.2.ext (he1.trans he2))).mono ?_; rintro e w3 ⟨rfl, he3⟩; rw [hbk]; have hb3 := hb2.ext he3; have d1 := pv1 hb3)
      | (have q := c0; clear q; refine wl_loadM rfl rowC2 rfl rfl hb2 (KV c s).toList (PV.cookie _ _ _ _ _) rfl ?_)
      | (go_at_call 7; refine (alive_any _ (HT.out.ext he1)).mono ?_; rintro e w2 ⟨rfl, he2⟩; have hb2 := hb1.ext he2; have c0 := pv0 hb2)
      | (refine wl_box (C := PV (.slice ua K.length uc) (.slice va L.length vc) c s n) rfl rfl rfl ?_; intro w1 hb1 he1 hx; clear hx))
    go_ret
    exact ⟨rfl, (he1.trans he2).trans he3⟩
  | false =>
  by_cases hL : L.length > 300
  · have hd : decide ((L.length : Int) > 300) = true := decide_eq_true (by omega)
    have hd2 : decide ((300 : Int) < (L.length : Int)) = true := decide_eq_true (by omega)
    have hd3 : 300 < L.length := hL
    go_enter Tryd.func5, Tryd.ntmps5
    go_wp2_with (first
      | (go_at_call 8; refine (large_any (HA.out.1.ext (he1.trans he2)) (HA.out.2.2.ext (he1.trans he2))).mono ?_; rintro e w3 ⟨rfl, he3⟩; rw [hbk]; have hb3 := hb2.ext he3; have d1 := pv1 hb3)
      | (have q := c0; clear q; refine wl_loadM rfl rowC2 rfl rfl hb2 (KV c s).toList (PV.cookie _ _ _ _ _) rfl ?_)
      | (go_at_call 7; refine (alive_any _ (HT.out.ext he1)).mono ?_; rintro e w2 ⟨rfl, he2⟩; have hb2 := hb1.ext he2; have c0 := pv0 hb2)
      | (refine wl_box (C := PV (.slice ua K.length uc) (.slice va L.length vc) c s n) rfl rfl rfl ?_; intro w1 hb1 he1 hx; clear hx))
    go_ret
    exact ⟨rfl, (he1.trans he2).trans he3⟩
  have hd : decide ((L.length : Int) > 300) = false := decide_eq_false (by omega)
  have hd2 : decide ((300 : Int) < (L.length : Int)) = false := decide_eq_false (by omega)
  have hd3 : ¬ 300 < L.length := hL
  have HLN : Hid (K.length ≤ 300 ∧ L.length ≤ 300) := ⟨(bigK_no hbk).1, by omega⟩
  have HSM : Hid (SmallK c) := by have := bigK_no hbk; exact ⟨by omega, by omega, by omega⟩
  go_enter Tryd.func5, Tryd.ntmps5
  go_wp2_with (first
    | (go_at_call 8; refine (large_any (HA.out.1.ext (he1.trans he2)) (HA.out.2.2.ext (he1.trans he2))).mono ?_; rintro e w3 ⟨rfl, he3⟩; rw [hbk]; have hb3 := hb2.ext he3; have d1 := pv1 hb3)
    | (have q := c0; clear q; refine wl_loadM rfl rowC2 rfl rfl hb2 (KV c s).toList (PV.cookie _ _ _ _ _) rfl ?_)
    | (go_at_call 7; refine (alive_any _ (HT.out.ext he1)).mono ?_; rintro e w2 ⟨rfl, he2⟩; have hb2 := hb1.ext he2; have c0 := pv0 hb2)
    | (refine wl_box (C := PV (.slice ua K.length uc) (.slice va L.length vc) c s n) rfl rfl rfl ?_; intro w1 hb1 he1 hx; clear hx))
  have HE3 : Hid (Ext w w3) := (he1.trans he2).trans he3
  have HB3 : Hid (Blk w3 w.heap.size (PV (.slice ua K.length uc) (.slice va L.length vc) c s n) 51) := hb3
  clear hb1 hb2 hb3 c0 d1 he1 he2 he3 hd hd2 hd3 hL
  obtain ⟨xb, hxb⟩ : ∃ x, x = w.heap.size := ⟨_, rfl⟩
  have HXB : Hid (w.heap.size ≤ xb ∧ xb < w3.heap.size) := ⟨by rw [hxb]; exact Nat.le_refl _, by rw [hxb]; exact HB3.out.lt⟩
  rw [← hxb] at HB3
  rw [← hxb]
  clear hxb
  have HBx : ∀ {wx : World}, Ext w3.drew wx → Blk wx xb (PV (.slice ua K.length uc) (.slice va L.length vc) c s n) 51 := fun hx => HB3.out.ext ((Ext.drew _).trans hx)
  have HTx : ∀ {wx : World}, Ext w3.drew wx → Tabs wx := fun hx => HT.out.ext (HE3.out.trans ((Ext.drew _).trans hx))
  have HUx : ∀ {wx : World}, Ext w3.drew wx → BytesAt wx (.slice ua K.length uc) K := fun hx => HA.out.1.ext (HE3.out.trans ((Ext.drew _).trans hx))
  have HCx : ∀ {wx : World}, Ext w3.drew wx → CoAt wx s c := fun hx => HA.out.2.2.ext (HE3.out.trans ((Ext.drew _).trans hx))
  have HSx : ∀ {wx : World}, Ext w3.drew wx → w3.heap.size ≤ wx.heap.size := fun hx => ((Ext.drew w3).trans hx).size
  cases hgd : goodK c with
  | false =>
    refine wp_region_facts (fun t => bif Nat.ble 23 t && Nat.ble t 28 then some (t - 23) else bif Nat.beq t 22 then some 6 else bif Nat.ble 29 t && Nat.ble t 30 then some (t - 22) else bif Nat.ble 3 t && Nat.ble t 4 then some (t + 6) else none) 99 Ext
      [Is (.pointer (some ⟨xb, 0, none⟩)),
       Is (.slice ua K.length uc),
       Is (.pointer (some ⟨xb, 2, none⟩)),
       Is (.agg (KV c s)),
       (fun wx v => ∃ z, v = .agg (KV c z) ∧ CoAt wx z c),
       Is (.tuple #[.slice none 0 0, errF]),
       Is (.tuple #[.slice none 0 0, errF]),
       Is (.slice none 0 0),
       Is errF,
       Is (.slice none 0 0),
       Is errF]
      rfl (by kernel_rfl) (by kernel_rfl) rfl Ext.refl (fun _ _ _ => Ext.trans) ?_ ?_ ?_
    · exact KeepAll.is (KeepAll.is (KeepAll.is (KeepAll.is (KeepAll.cons (fun _ _ _ hr h => by obtain ⟨z, e, hz⟩ := h; exact ⟨z, e, hz.ext hr⟩) (KeepAll.is (KeepAll.is (KeepAll.is (KeepAll.is (KeepAll.is (KeepAll.is (KeepAll.nil)))))))))))
    · refine GoodAll.cons ?_ ?_
      · intro r wx hR hx
        obtain ⟨h1, _⟩ := hx
        replace h1 : r (.tmp 1) = (.pointer (some ⟨xb, 0, none⟩)) := h1
        exact give_of (by simp [execOp, h1, go_sem]) ⟨Ext.refl _, rfl⟩
      refine GoodAll.cons ?_ ?_
      · intro r wx hR hx
        obtain ⟨h1, _⟩ := hx
        replace h1 : r (.tmp 23) = (.pointer (some ⟨xb, 0, none⟩)) := h1
        exact give_of (exec_get oneS rfl h1 (pv0 (HBx hR))) ⟨Ext.refl _, rfl⟩
      refine GoodAll.cons ?_ ?_
      · intro r wx hR hx
        obtain ⟨h1, _⟩ := hx
        replace h1 : r (.tmp 1) = (.pointer (some ⟨xb, 0, none⟩)) := h1
        exact give_of (by simp [execOp, h1, go_sem]) ⟨Ext.refl _, rfl⟩
      refine GoodAll.cons ?_ ?_
      · intro r wx hR hx
        obtain ⟨h1, _⟩ := hx
        replace h1 : r (.tmp 25) = (.pointer (some ⟨xb, 2, none⟩)) := h1
        exact give_of (exec_load rowC2 rfl h1 (HBx hR) (KV c s).toList (PV.cookie _ _ _ _ _) rfl) ⟨Ext.refl _, rfl⟩
      refine GoodAll.cons ?_ ?_
      · intro r wx hR hx
        obtain ⟨h1, h2, _⟩ := hx
        replace h1 : r (.func 9) = .func (.func 9) #[] #[] := h1
        replace h2 : r (.tmp 26) = (.agg (KV c s)) := h2
        refine give_func #[.agg (KV c s)] rfl h1 Tryd.call9 (by simp [h2]) ?_
        refine (program_any (HCx hR) HSM.out).mono ?_
        rintro e w' ⟨z, rfl, ho, he⟩
        exact ⟨_, rfl, he, z, rfl, ho.at⟩
      refine GoodAll.cons ?_ ?_
      · intro r wx hR hx
        obtain ⟨h1, h2, h3, _⟩ := hx
        replace h1 : r (.func 10) = .func (.func 10) #[] #[] := h1
        replace h2 : r (.tmp 24) = (.slice ua K.length uc) := h2
        replace h3 : ((fun wx v => ∃ z, v = .agg (KV c z) ∧ CoAt wx z c) : Fact) wx (r (.tmp 27)) := h3
        obtain ⟨z, e, hz⟩ := h3
        refine give_func #[.slice ua K.length uc, .agg (KV c z)] rfl h1 Tryd.call10 (by simp [h2, e]) ?_
        refine (make_bad (HTx hR) (HUx hR) (by have := HLN.out; omega) hz HF.out hgd).mono ?_
        rintro e w' ⟨rfl, he⟩
        exact ⟨_, rfl, he, rfl⟩
      refine GoodAll.cons ?_ ?_
      · intro r wx hR hx
        obtain ⟨h1, _⟩ := hx
        replace h1 : r (.tmp 28) = (.tuple #[.slice none 0 0, errF]) := h1
        exact give_move (.inl rfl) ⟨Ext.refl _, h1⟩
      refine GoodAll.cons ?_ ?_
      · intro r wx hR hx
        obtain ⟨h1, _⟩ := hx
        replace h1 : r (.tmp 22) = (.tuple #[.slice none 0 0, errF]) := h1
        exact give_of (by simp [execOp, h1, go_sem]) ⟨Ext.refl _, rfl⟩
      refine GoodAll.cons ?_ ?_
      · intro r wx hR hx
        obtain ⟨h1, _⟩ := hx
        replace h1 : r (.tmp 22) = (.tuple #[.slice none 0 0, errF]) := h1
        exact give_of (by simp [execOp, h1, go_sem]) ⟨Ext.refl _, rfl⟩
      refine GoodAll.cons ?_ ?_
      · intro r wx hR hx
        obtain ⟨h1, _⟩ := hx
        replace h1 : r (.tmp 29) = (.slice none 0 0) := h1
        exact give_move (.inr rfl) ⟨Ext.refl _, h1⟩
      refine GoodAll.cons ?_ ?_
      · intro r wx hR hx
        obtain ⟨h1, _⟩ := hx
        replace h1 : r (.tmp 30) = errF := h1
        exact give_move (.inr rfl) ⟨Ext.refl _, h1⟩
      exact GoodAll.nil
    · intro vs w5 aY hR5 hold ha
      have hv0 : vs 0 = (.pointer (some ⟨xb, 0, none⟩)) := hold.at 0
      have hv1 : vs 1 = (.slice ua K.length uc) := hold.at 1
      have hv2 : vs 2 = (.pointer (some ⟨xb, 2, none⟩)) := hold.at 2
      have hv3 : vs 3 = (.agg (KV c s)) := hold.at 3
      have hv5 : vs 5 = (.tuple #[.slice none 0 0, errF]) := hold.at 5
      have hv6 : vs 6 = (.tuple #[.slice none 0 0, errF]) := hold.at 6
      have hv7 : vs 7 = (.slice none 0 0) := hold.at 7
      have hv8 : vs 8 = errF := hold.at 8
      have hv9 : vs 9 = (.slice none 0 0) := hold.at 9
      have hv10 : vs 10 = errF := hold.at 10
      simp only [putAll, Act.put, hv0, hv1, hv2, hv3, hv5, hv6, hv7, hv8, hv9, hv10, List.setIfInBounds_toArray, List.set_cons_succ, List.set_cons_zero] at ha
      subst ha
      have he5 := HE3.out.trans ((Ext.drew _).trans hR5)
      clear hold HBx HTx HUx HCx HSx hv0 hv1 hv2 hv3 hv5 hv6 hv7 hv8 hv9 hv10
      refine ‹∀ (a : Act) (w : World), Code.wp Tryd.prog _ _ a w → _› _ _ ?_
      go_wp2_with (first | (refine wpList_of_run rfl (exec_neqE rfl rfl rfl) ?_))
      go_ret
      exact ⟨rfl, he5⟩
  | true =>
    have HGD : Hid (goodK c = true) := hgd
    clear hgd
    obtain ⟨B, hB⟩ : ∃ B, B = makeK K c := ⟨_, rfl⟩
    have HMBB : Hid (B = makeK K c) := hB
    obtain ⟨O, hO⟩ : ∃ O, O = makeK L c := ⟨_, rfl⟩
    have HMBO : Hid (O = makeK L c) := hO
    clear hB hO
    obtain ⟨E, hEl⟩ : ∃ E, E = (laidK c).length := ⟨_, rfl⟩
    have HEL : Hid (E = (laidK c).length ∧ B.length = E + 32 ∧ O.length = E + 32 ∧ 49 ≤ E ∧ E ≤ 200) := ⟨hEl, by rw [HMBB.out, makeK_len, hEl], by rw [HMBO.out, makeK_len, hEl], by rw [hEl]; exact laidK_ge c, by rw [hEl]; exact laidK_le HGD.out⟩
    clear hEl
    refine wp_region_facts (fun t => bif Nat.ble 23 t && Nat.ble t 28 then some (t - 23) else bif Nat.beq t 22 then some 6 else bif Nat.ble 29 t && Nat.ble t 30 then some (t - 22) else bif Nat.ble 3 t && Nat.ble t 4 then some (t + 6) else none) 99 Ext
      [Is (.pointer (some ⟨xb, 0, none⟩)),
       Is (.slice ua K.length uc),
       Is (.pointer (some ⟨xb, 2, none⟩)),
       Is (.agg (KV c s)),
       (fun wx v => ∃ z, v = .agg (KV c z) ∧ CoAt wx z c),
       (fun wx v => ∃ a m cp, v = .tuple #[.slice a m cp, .nilIface] ∧ m = B.length ∧ OB wx w3.heap.size (.slice a m cp) B),
       (fun wx v => ∃ a m cp, v = .tuple #[.slice a m cp, .nilIface] ∧ m = B.length ∧ OB wx w3.heap.size (.slice a m cp) B),
       (fun wx v => ∃ a m cp, v = .slice a m cp ∧ m = B.length ∧ OB wx w3.heap.size (.slice a m cp) B),
       Is .nilIface,
       (fun wx v => ∃ a m cp, v = .slice a m cp ∧ m = B.length ∧ OB wx w3.heap.size (.slice a m cp) B),
       Is .nilIface]
      rfl (by kernel_rfl) (by kernel_rfl) rfl Ext.refl (fun _ _ _ => Ext.trans) ?_ ?_ ?_
    · exact KeepAll.is (KeepAll.is (KeepAll.is (KeepAll.is (KeepAll.cons (fun _ _ _ hr h => by obtain ⟨z, e, hz⟩ := h; exact ⟨z, e, hz.ext hr⟩) (KeepAll.cons (fun _ _ _ hr h => by obtain ⟨a, m, cp, e, hm, ho⟩ := h; exact ⟨a, m, cp, e, hm, ho.ext hr⟩) (KeepAll.cons (fun _ _ _ hr h => by obtain ⟨a, m, cp, e, hm, ho⟩ := h; exact ⟨a, m, cp, e, hm, ho.ext hr⟩) (KeepAll.cons (fun _ _ _ hr h => by obtain ⟨a, m, cp, e, hm, ho⟩ := h; exact ⟨a, m, cp, e, hm, ho.ext hr⟩) (KeepAll.is (KeepAll.cons (fun _ _ _ hr h => by obtain ⟨a, m, cp, e, hm, ho⟩ := h; exact ⟨a, m, cp, e, hm, ho.ext hr⟩) (KeepAll.is (KeepAll.nil)))))))))))
    · refine GoodAll.cons ?_ ?_
      · intro r wx hR hx
        obtain ⟨h1, _⟩ := hx
        replace h1 : r (.tmp 1) = (.pointer (some ⟨xb, 0, none⟩)) := h1
        exact give_of (by simp [execOp, h1, go_sem]) ⟨Ext.refl _, rfl⟩
      refine GoodAll.cons ?_ ?_
      · intro r wx hR hx
        obtain ⟨h1, _⟩ := hx
        replace h1 : r (.tmp 23) = (.pointer (some ⟨xb, 0, none⟩)) := h1
        exact give_of (exec_get oneS rfl h1 (pv0 (HBx hR))) ⟨Ext.refl _, rfl⟩
      refine GoodAll.cons ?_ ?_
      · intro r wx hR hx
        obtain ⟨h1, _⟩ := hx
        replace h1 : r (.tmp 1) = (.pointer (some ⟨xb, 0, none⟩)) := h1
        exact give_of (by simp [execOp, h1, go_sem]) ⟨Ext.refl _, rfl⟩
      refine GoodAll.cons ?_ ?_
      · intro r wx hR hx
        obtain ⟨h1, _⟩ := hx
        replace h1 : r (.tmp 25) = (.pointer (some ⟨xb, 2, none⟩)) := h1
        exact give_of (exec_load rowC2 rfl h1 (HBx hR) (KV c s).toList (PV.cookie _ _ _ _ _) rfl) ⟨Ext.refl _, rfl⟩
      refine GoodAll.cons ?_ ?_
      · intro r wx hR hx
        obtain ⟨h1, h2, _⟩ := hx
        replace h1 : r (.func 9) = .func (.func 9) #[] #[] := h1
        replace h2 : r (.tmp 26) = (.agg (KV c s)) := h2
        refine give_func #[.agg (KV c s)] rfl h1 Tryd.call9 (by simp [h2]) ?_
        refine (program_any (HCx hR) HSM.out).mono ?_
        rintro e w' ⟨z, rfl, ho, he⟩
        exact ⟨_, rfl, he, z, rfl, ho.at⟩
      refine GoodAll.cons ?_ ?_
      · intro r wx hR hx
        obtain ⟨h1, h2, h3, _⟩ := hx
        replace h1 : r (.func 10) = .func (.func 10) #[] #[] := h1
        replace h2 : r (.tmp 24) = (.slice ua K.length uc) := h2
        replace h3 : ((fun wx v => ∃ z, v = .agg (KV c z) ∧ CoAt wx z c) : Fact) wx (r (.tmp 27)) := h3
        obtain ⟨z, e, hz⟩ := h3
        refine give_func #[.slice ua K.length uc, .agg (KV c z)] rfl h1 Tryd.call10 (by simp [h2, e]) ?_
        refine (make_good (HTx hR) (HUx hR) (by have := HLN.out; omega) hz HF.out HGD.out).mono ?_
        rintro e w' ⟨he, a, m, cp, rfl, hm, ho⟩
        exact ⟨_, rfl, he, a, m, cp, rfl, by rw [HMBB.out]; exact hm, by rw [HMBB.out]; exact ho.base (HSx hR)⟩
      refine GoodAll.cons ?_ ?_
      · intro r wx hR hx
        obtain ⟨h1, _⟩ := hx
        replace h1 : ((fun wx v => ∃ a m cp, v = .tuple #[.slice a m cp, .nilIface] ∧ m = B.length ∧ OB wx w3.heap.size (.slice a m cp) B) : Fact) wx (r (.tmp 28)) := h1
        exact give_move (.inl rfl) ⟨Ext.refl _, h1⟩
      refine GoodAll.cons ?_ ?_
      · intro r wx hR hx
        obtain ⟨h1, _⟩ := hx
        replace h1 : ((fun wx v => ∃ a m cp, v = .tuple #[.slice a m cp, .nilIface] ∧ m = B.length ∧ OB wx w3.heap.size (.slice a m cp) B) : Fact) wx (r (.tmp 22)) := h1
        obtain ⟨a, m, cp, e, hm, ho⟩ := h1
        exact give_of (by simp [execOp, e, go_sem]) ⟨Ext.refl _, a, m, cp, rfl, hm, ho⟩
      refine GoodAll.cons ?_ ?_
      · intro r wx hR hx
        obtain ⟨h1, _⟩ := hx
        replace h1 : ((fun wx v => ∃ a m cp, v = .tuple #[.slice a m cp, .nilIface] ∧ m = B.length ∧ OB wx w3.heap.size (.slice a m cp) B) : Fact) wx (r (.tmp 22)) := h1
        obtain ⟨a, m, cp, e, hm, ho⟩ := h1
        exact give_of (by simp [execOp, e, go_sem]) ⟨Ext.refl _, rfl⟩
      refine GoodAll.cons ?_ ?_
      · intro r wx hR hx
        obtain ⟨h1, _⟩ := hx
        replace h1 : ((fun wx v => ∃ a m cp, v = .slice a m cp ∧ m = B.length ∧ OB wx w3.heap.size (.slice a m cp) B) : Fact) wx (r (.tmp 29)) := h1
        exact give_move (.inr rfl) ⟨Ext.refl _, h1⟩
      refine GoodAll.cons ?_ ?_
      · intro r wx hR hx
        obtain ⟨h1, _⟩ := hx
        replace h1 : r (.tmp 30) = .nilIface := h1
        exact give_move (.inr rfl) ⟨Ext.refl _, h1⟩
      exact GoodAll.nil
    · intro vs w5 aY hR5 hold ha
      have hv0 : vs 0 = (.pointer (some ⟨xb, 0, none⟩)) := hold.at 0
      have hv1 : vs 1 = (.slice ua K.length uc) := hold.at 1
      have hv2 : vs 2 = (.pointer (some ⟨xb, 2, none⟩)) := hold.at 2
      have hv3 : vs 3 = (.agg (KV c s)) := hold.at 3
      have hv8 : vs 8 = .nilIface := hold.at 8
      have hv10 : vs 10 = .nilIface := hold.at 10
      obtain ⟨ba, bm, bc, e9, hbm, hob⟩ := hold.at 9
      obtain ⟨og, rfl, hzz⟩ := OB.some_of hob (by rw [hbm, HEL.out.2.1]; omega)
      clear hzz
      simp only [putAll, Act.put, hv0, hv1, hv2, hv3, hv8, hv10, e9, List.setIfInBounds_toArray, List.set_cons_succ, List.set_cons_zero] at ha
      subst ha
      have HBM : Hid (bm = B.length) := hbm
      have HOB5 : Hid (OB w5 w3.heap.size (.slice (some ⟨og, 0, none⟩) bm bc) B) := hob
      have HE5 : Hid (Ext w3 w5) := (Ext.drew _).trans hR5
      have HB5 : Hid (Blk w5 xb (PV (.slice ua K.length uc) (.slice va L.length vc) c s n) 51) := HB3.out.ext HE5.out
      clear hold e9 hbm hob HBx HTx HUx HCx HSx hv0 hv1 hv2 hv3 hv8 hv10
      refine ‹∀ (a : Act) (w : World), Code.wp Tryd.prog _ _ a w → _› _ _ ?_
      go_wp2_with (first | (refine wpList_of_run rfl (exec_neq0 rfl rfl rfl) ?_))
      have HBx : ∀ {wx : World}, Ext w5.drew wx → Blk wx xb (PV (.slice ua K.length uc) (.slice va L.length vc) c s n) 51 := fun hx => HB5.out.ext ((Ext.drew _).trans hx)
      have HTx : ∀ {wx : World}, Ext w5.drew wx → Tabs wx := fun hx => HT.out.ext ((HE3.out.trans HE5.out).trans ((Ext.drew _).trans hx))
      have HVx : ∀ {wx : World}, Ext w5.drew wx → BytesAt wx (.slice va L.length vc) L := fun hx => HA.out.2.1.ext ((HE3.out.trans HE5.out).trans ((Ext.drew _).trans hx))
      have HCx : ∀ {wx : World}, Ext w5.drew wx → CoAt wx s c := fun hx => HA.out.2.2.ext ((HE3.out.trans HE5.out).trans ((Ext.drew _).trans hx))
      have HSx : ∀ {wx : World}, Ext w5.drew wx → w3.heap.size ≤ wx.heap.size := fun hx => Nat.le_trans HE5.out.size ((Ext.drew w5).trans hx).size
      refine wp_region_facts (fun t => bif Nat.ble 37 t && Nat.ble t 42 then some (t - 37) else bif Nat.beq t 36 then some 6 else bif Nat.ble 43 t && Nat.ble t 44 then some (t - 36) else bif Nat.beq t 5 then some 9 else bif Nat.beq t 4 then some 10 else none) 99 Ext
        [Is (.pointer (some ⟨xb, 1, none⟩)),
         Is (.slice va L.length vc),
         Is (.pointer (some ⟨xb, 2, none⟩)),
         Is (.agg (KV c s)),
         (fun wx v => ∃ z, v = .agg (KV c z) ∧ CoAt wx z c),
         (fun wx v => ∃ a m cp, v = .tuple #[.slice a m cp, .nilIface] ∧ m = O.length ∧ OB wx w3.heap.size (.slice a m cp) O),
         (fun wx v => ∃ a m cp, v = .tuple #[.slice a m cp, .nilIface] ∧ m = O.length ∧ OB wx w3.heap.size (.slice a m cp) O),
         (fun wx v => ∃ a m cp, v = .slice a m cp ∧ m = O.length ∧ OB wx w3.heap.size (.slice a m cp) O),
         Is .nilIface,
         (fun wx v => ∃ a m cp, v = .slice a m cp ∧ m = O.length ∧ OB wx w3.heap.size (.slice a m cp) O),
         Is .nilIface]
        rfl (by kernel_rfl) (by kernel_rfl) rfl Ext.refl (fun _ _ _ => Ext.trans) ?_ ?_ ?_
      · exact KeepAll.is (KeepAll.is (KeepAll.is (KeepAll.is (KeepAll.cons (fun _ _ _ hr h => by obtain ⟨z, e, hz⟩ := h; exact ⟨z, e, hz.ext hr⟩) (KeepAll.cons (fun _ _ _ hr h => by obtain ⟨a, m, cp, e, hm, ho⟩ := h; exact ⟨a, m, cp, e, hm, ho.ext hr⟩) (KeepAll.cons (fun _ _ _ hr h => by obtain ⟨a, m, cp, e, hm, ho⟩ := h; exact ⟨a, m, cp, e, hm, ho.ext hr⟩) (KeepAll.cons (fun _ _ _ hr h => by obtain ⟨a, m, cp, e, hm, ho⟩ := h; exact ⟨a, m, cp, e, hm, ho.ext hr⟩) (KeepAll.is (KeepAll.cons (fun _ _ _ hr h => by obtain ⟨a, m, cp, e, hm, ho⟩ := h; exact ⟨a, m, cp, e, hm, ho.ext hr⟩) (KeepAll.is (KeepAll.nil)))))))))))
      · refine GoodAll.cons ?_ ?_
        · intro r wx hR hx
          obtain ⟨h1, _⟩ := hx
          replace h1 : r (.tmp 1) = (.pointer (some ⟨xb, 0, none⟩)) := h1
          exact give_of (by simp [execOp, h1, go_sem]) ⟨Ext.refl _, rfl⟩
        refine GoodAll.cons ?_ ?_
        · intro r wx hR hx
          obtain ⟨h1, _⟩ := hx
          replace h1 : r (.tmp 37) = (.pointer (some ⟨xb, 1, none⟩)) := h1
          exact give_of (exec_get oneS rfl h1 (pv1 (HBx hR))) ⟨Ext.refl _, rfl⟩
        refine GoodAll.cons ?_ ?_
        · intro r wx hR hx
          obtain ⟨h1, _⟩ := hx
          replace h1 : r (.tmp 1) = (.pointer (some ⟨xb, 0, none⟩)) := h1
          exact give_of (by simp [execOp, h1, go_sem]) ⟨Ext.refl _, rfl⟩
        refine GoodAll.cons ?_ ?_
        · intro r wx hR hx
          obtain ⟨h1, _⟩ := hx
          replace h1 : r (.tmp 39) = (.pointer (some ⟨xb, 2, none⟩)) := h1
          exact give_of (exec_load rowC2 rfl h1 (HBx hR) (KV c s).toList (PV.cookie _ _ _ _ _) rfl) ⟨Ext.refl _, rfl⟩
        refine GoodAll.cons ?_ ?_
        · intro r wx hR hx
          obtain ⟨h1, h2, _⟩ := hx
          replace h1 : r (.func 9) = .func (.func 9) #[] #[] := h1
          replace h2 : r (.tmp 40) = (.agg (KV c s)) := h2
          refine give_func #[.agg (KV c s)] rfl h1 Tryd.call9 (by simp [h2]) ?_
          refine (program_any (HCx hR) HSM.out).mono ?_
          rintro e w' ⟨z, rfl, ho, he⟩
          exact ⟨_, rfl, he, z, rfl, ho.at⟩
        refine GoodAll.cons ?_ ?_
        · intro r wx hR hx
          obtain ⟨h1, h2, h3, _⟩ := hx
          replace h1 : r (.func 10) = .func (.func 10) #[] #[] := h1
          replace h2 : r (.tmp 38) = (.slice va L.length vc) := h2
          replace h3 : ((fun wx v => ∃ z, v = .agg (KV c z) ∧ CoAt wx z c) : Fact) wx (r (.tmp 41)) := h3
          obtain ⟨z, e, hz⟩ := h3
          refine give_func #[.slice va L.length vc, .agg (KV c z)] rfl h1 Tryd.call10 (by simp [h2, e]) ?_
          refine (make_good (HTx hR) (HVx hR) (by have := HLN.out; omega) hz HF.out HGD.out).mono ?_
          rintro e w' ⟨he, a, m, cp, rfl, hm, ho⟩
          exact ⟨_, rfl, he, a, m, cp, rfl, by rw [HMBO.out]; exact hm, by rw [HMBO.out]; exact ho.base (HSx hR)⟩
        refine GoodAll.cons ?_ ?_
        · intro r wx hR hx
          obtain ⟨h1, _⟩ := hx
          replace h1 : ((fun wx v => ∃ a m cp, v = .tuple #[.slice a m cp, .nilIface] ∧ m = O.length ∧ OB wx w3.heap.size (.slice a m cp) O) : Fact) wx (r (.tmp 42)) := h1
          exact give_move (.inl rfl) ⟨Ext.refl _, h1⟩
        refine GoodAll.cons ?_ ?_
        · intro r wx hR hx
          obtain ⟨h1, _⟩ := hx
          replace h1 : ((fun wx v => ∃ a m cp, v = .tuple #[.slice a m cp, .nilIface] ∧ m = O.length ∧ OB wx w3.heap.size (.slice a m cp) O) : Fact) wx (r (.tmp 36)) := h1
          obtain ⟨a, m, cp, e, hm, ho⟩ := h1
          exact give_of (by simp [execOp, e, go_sem]) ⟨Ext.refl _, a, m, cp, rfl, hm, ho⟩
        refine GoodAll.cons ?_ ?_
        · intro r wx hR hx
          obtain ⟨h1, _⟩ := hx
          replace h1 : ((fun wx v => ∃ a m cp, v = .tuple #[.slice a m cp, .nilIface] ∧ m = O.length ∧ OB wx w3.heap.size (.slice a m cp) O) : Fact) wx (r (.tmp 36)) := h1
          obtain ⟨a, m, cp, e, hm, ho⟩ := h1
          exact give_of (by simp [execOp, e, go_sem]) ⟨Ext.refl _, rfl⟩
        refine GoodAll.cons ?_ ?_
        · intro r wx hR hx
          obtain ⟨h1, _⟩ := hx
          replace h1 : ((fun wx v => ∃ a m cp, v = .slice a m cp ∧ m = O.length ∧ OB wx w3.heap.size (.slice a m cp) O) : Fact) wx (r (.tmp 43)) := h1
          exact give_move (.inr rfl) ⟨Ext.refl _, h1⟩
        refine GoodAll.cons ?_ ?_
        · intro r wx hR hx
          obtain ⟨h1, _⟩ := hx
          replace h1 : r (.tmp 44) = .nilIface := h1
          exact give_move (.inr rfl) ⟨Ext.refl _, h1⟩
        exact GoodAll.nil
      · intro vs w8 aZ hR8 hold ha
        have hv0 : vs 0 = (.pointer (some ⟨xb, 1, none⟩)) := hold.at 0
        have hv1 : vs 1 = (.slice va L.length vc) := hold.at 1
        have hv2 : vs 2 = (.pointer (some ⟨xb, 2, none⟩)) := hold.at 2
        have hv3 : vs 3 = (.agg (KV c s)) := hold.at 3
        have hv8 : vs 8 = .nilIface := hold.at 8
        have hv10 : vs 10 = .nilIface := hold.at 10
        obtain ⟨oa, om, oc, e9, hom, hoo⟩ := hold.at 9
        simp only [putAll, Act.put, hv0, hv1, hv2, hv3, hv8, hv10, e9, List.setIfInBounds_toArray, List.set_cons_succ, List.set_cons_zero] at ha
        subst ha
        have HOM : Hid (om = O.length) := hom
        have HE8 : Hid (Ext w5 w8) := (Ext.drew _).trans hR8
        have HO8b : Hid (BytesAt w8 (.slice oa om oc) O) := hoo.bytes
        have HB8 : Hid (Blk w8 xb (PV (.slice ua K.length uc) (.slice va L.length vc) c s n) 51) := HB5.out.ext HE8.out
        have HOB8 : Hid (OB w8 w3.heap.size (.slice (some ⟨og, 0, none⟩) bm bc) B) := HOB5.out.ext HE8.out
        have HW8 : Hid (Ext w w8) := (HE3.out.trans HE5.out).trans HE8.out
        have hlen : ((om : Int) != (bm : Int)) = false := by have h1 := HOM.out; have h2 := HBM.out; have h3 := HEL.out; simp; omega
        clear hold e9 hom hoo HBx HTx HVx HCx HSx hv0 hv1 hv2 hv3 hv8 hv10
        refine ‹∀ (a : Act) (w : World), Code.wp Tryd.prog _ _ a w → _› _ _ ?_
        have x1 := pv1 HB8.out
        obtain ⟨E1, hE1⟩ : ∃ x, x = openE L B 0 := ⟨_, rfl⟩
        have HE1 : Hid (E1 = openE L B 0) := hE1
        clear hE1
        go_wp2_with (first
          | (have q := he9; clear q; refine wl_alloc rfl rfl zeroC ?_; intro w9a hb9a he9a hx; clear hx; refine wl_store (D := KV (openC L B 0) s9) rfl rowC rfl rfl rfl hb9a rfl rfl (KV.one _ _) ?_; intro w9b hb9b hk9b hx; clear hx; have he9b := he9a.of_but hk9b (fun k e => by subst e; exact Nat.le_refl _); clear hb9a he9a hk9b hb9b)
          | (go_at_call 17; refine (open_any (HT.out.ext HW8.out) (HA.out.2.1.ext HW8.out) HOB8.out.bytes (by have := HLN.out; omega) (by have := HEL.out; omega) (by decide)).mono ?_; rintro e w9 ⟨he9, s9, rfl, ho9⟩; clear ho9; rw [← HE1.out])
          | (refine wpList_of_run rfl (exec_neq0 rfl rfl rfl) ?_))
        have HE9 : Hid (Ext w8 w9b) := he9.trans he9b
        have HB9 : Hid (Blk w9b xb (PV (.slice ua K.length uc) (.slice va L.length vc) c s n) 51) := HB8.out.ext HE9.out
        have HOB9 : Hid (OB w9b w3.heap.size (.slice (some ⟨og, 0, none⟩) bm bc) B) := HOB8.out.ext HE9.out
        have HO9 : Hid (BytesAt w9b (.slice oa om oc) O) := HO8b.out.ext HE9.out
        have HW9 : Hid (Ext w w9b) := HW8.out.trans HE9.out
        clear he9 he9b x1 hlen
        obtain ⟨bq, hbq⟩ : ∃ b, b = (E1 == 15) := ⟨_, rfl⟩
        have HBQ : Hid ((E1 == 15) = bq ∧ decide (O = B) = !bq) := ⟨hbq.symm, by rw [hbq, HE1.out, HMBB.out, HMBO.out]; exact forge_eq HGD.out HF.out⟩
        clear hbq
        have HO8 : Hid ((∀ x ∈ O, x < 256) ∧ (∀ x ∈ B, x < 256)) := ⟨HO9.out.1, HOB9.out.all⟩
        have HOx : ∀ {wx : World}, Ext w9b.drew wx → BytesAt wx (.slice oa om oc) O := fun hx => HO9.out.ext ((Ext.drew _).trans hx)
        have HBBx : ∀ {wx : World}, Ext w9b.drew wx → BytesAt wx (.slice (some ⟨og, 0, none⟩) bm bc) B := fun hx => HOB9.out.bytes.ext ((Ext.drew _).trans hx)
        refine wp_region_facts (fun t => bif Nat.ble 61 t && Nat.ble t 69 then some (t - 61) else none) 99 Ext
          [Is (.slice oa om oc),
           Is (.string (strOf O)),
           Is (.slice (some ⟨og, 0, none⟩) bm bc),
           Is (.string (strOf B)),
           Is (.bool (!bq)),
           Is (errV E1),
           Is (.bool bq),
           Is (.bool (!bq)),
           Is (.bool false)]
          rfl (by kernel_rfl) (by kernel_rfl) rfl Ext.refl (fun _ _ _ => Ext.trans) ?_ ?_ ?_
        · exact KeepAll.is (KeepAll.is (KeepAll.is (KeepAll.is (KeepAll.is (KeepAll.is (KeepAll.is (KeepAll.is (KeepAll.is (KeepAll.nil)))))))))
        · refine GoodAll.cons ?_ ?_
          · intro r wx hR hx
            obtain ⟨h1, _⟩ := hx
            replace h1 : r (.tmp 5) = (.slice oa om oc) := h1
            exact give_move (.inl rfl) ⟨Ext.refl _, h1⟩
          refine GoodAll.cons ?_ ?_
          · intro r wx hR hx
            obtain ⟨h1, _⟩ := hx
            replace h1 : r (.tmp 61) = (.slice oa om oc) := h1
            exact give_of (exec_string byteT strT rfl wx _ (by rw [h1]; exact HOx hR)) ⟨Ext.refl _, rfl⟩
          refine GoodAll.cons ?_ ?_
          · intro r wx hR hx
            obtain ⟨h1, _⟩ := hx
            replace h1 : r (.tmp 3) = (.slice (some ⟨og, 0, none⟩) bm bc) := h1
            exact give_move (.inl rfl) ⟨Ext.refl _, h1⟩
          refine GoodAll.cons ?_ ?_
          · intro r wx hR hx
            obtain ⟨h1, _⟩ := hx
            replace h1 : r (.tmp 63) = (.slice (some ⟨og, 0, none⟩) bm bc) := h1
            exact give_of (exec_string byteT strT rfl wx _ (by rw [h1]; exact HBBx hR)) ⟨Ext.refl _, rfl⟩
          refine GoodAll.cons ?_ ?_
          · intro r wx hR hx
            obtain ⟨h1, h2, _⟩ := hx
            replace h1 : r (.tmp 62) = (.string (strOf O)) := h1
            replace h2 : r (.tmp 64) = (.string (strOf B)) := h2
            exact give_of (exec_eqlS rfl h1 h2 HO8.out.1 HO8.out.2) ⟨Ext.refl _, by rw [HBQ.out.2]; rfl⟩
          refine GoodAll.cons ?_ ?_
          · intro r wx hR hx
            obtain ⟨h1, _⟩ := hx
            replace h1 : r (.tmp 7) = (errV E1) := h1
            exact give_move (.inl rfl) ⟨Ext.refl _, h1⟩
          refine GoodAll.cons ?_ ?_
          · intro r wx hR hx
            obtain ⟨h1, h2, h3, _⟩ := hx
            replace h1 : r (.func 14) = .func (.func 14) #[] #[] := h1
            replace h2 : r (.tmp 66) = (errV E1) := h2
            replace h3 : r (.const (.int .i64 15)) = .int .i64 15 := h3
            refine give_func #[errV E1, .int .i64 15] rfl h1 Tryd.call14 (by simp [h2, h3]) ?_
            refine (is_anyE _ _ _).mono ?_
            rintro e w' ⟨rfl, he⟩
            exact ⟨_, rfl, he, by rw [HBQ.out.1]; rfl⟩
          refine GoodAll.cons ?_ ?_
          · intro r wx hR hx
            obtain ⟨h1, _⟩ := hx
            replace h1 : r (.tmp 67) = (.bool bq) := h1
            exact give_of (by simp [execOp, h1, go_sem]) ⟨Ext.refl _, rfl⟩
          refine GoodAll.cons ?_ ?_
          · intro r wx hR hx
            obtain ⟨h1, h2, _⟩ := hx
            replace h1 : r (.tmp 65) = (.bool (!bq)) := h1
            replace h2 : r (.tmp 68) = (.bool (!bq)) := h2
            exact give_of (by simp [execOp, h1, h2, go_sem]) ⟨Ext.refl _, rfl⟩
          exact GoodAll.nil
        · intro vs w12 aU hR12 hold ha
          have hv0 : vs 0 = (.slice oa om oc) := hold.at 0
          have hv1 : vs 1 = (.string (strOf O)) := hold.at 1
          have hv2 : vs 2 = (.slice (some ⟨og, 0, none⟩) bm bc) := hold.at 2
          have hv3 : vs 3 = (.string (strOf B)) := hold.at 3
          have hv4 : vs 4 = (.bool (!bq)) := hold.at 4
          have hv5 : vs 5 = (errV E1) := hold.at 5
          have hv6 : vs 6 = (.bool bq) := hold.at 6
          have hv7 : vs 7 = (.bool (!bq)) := hold.at 7
          have hv8 : vs 8 = (.bool false) := hold.at 8
          simp only [putAll, Act.put, hv0, hv1, hv2, hv3, hv4, hv5, hv6, hv7, hv8, List.setIfInBounds_toArray, List.set_cons_succ, List.set_cons_zero] at ha
          subst ha
          have HE12 : Hid (Ext w9b w12) := (Ext.drew _).trans hR12
          have HB12 : Hid (Blk w12 xb (PV (.slice ua K.length uc) (.slice va L.length vc) c s n) 51) := HB9.out.ext HE12.out
          have HOB12 : Hid (OB w12 w3.heap.size (.slice (some ⟨og, 0, none⟩) bm bc) B) := HOB9.out.ext HE12.out
          have HW12 : Hid (Ext w w12) := HW9.out.trans HE12.out
          clear hold HOx HBBx hv0 hv1 hv2 hv3 hv4 hv5 hv6 hv7 hv8
          refine ‹∀ (a : Act) (w : World), Code.wp Tryd.prog _ _ a w → _› _ _ ?_
          have x16 := pv16 HB12.out
          obtain ⟨r, hr256⟩ : ∃ r : Nat, (r : Int) = (IntKind.u64.wrap n).tmod 256 := ⟨((IntKind.u64.wrap n).tmod 256).toNat, by rw [IntKind.wrap_u64, Int.tmod_eq_emod_of_nonneg (by omega)]; omega⟩
          have hrl : r < 256 := by rw [IntKind.wrap_u64, Int.tmod_eq_emod_of_nonneg (by omega)] at hr256; omega
          have hrr := hr256.symm
          clear hr256 hn
          obtain ⟨G, hG⟩ : ∃ G, G = 8 * E := ⟨_, rfl⟩
          obtain ⟨k, hk⟩ : ∃ k, k = G + r := ⟨_, rfl⟩
          have HK : Hid (k = 8 * E + r ∧ r < 256) := ⟨by rw [hk, hG], hrl⟩
          have hbm32 : (bm : Int) = (E : Int) + 32 := by have h1 := HBM.out; have h2 := HEL.out; omega
          have a1 : IntKind.i64.wrap ((bm : Int) - 32) = (E : Int) := by rw [IntKind.wrap_i64]; have h2 := HEL.out; omega
          have a2 : (bm : Int) - 32 = (E : Int) := by omega
          have a3 : (8 : Int) * (E : Int) = (G : Int) := by omega
          have hGl : G < 1000000 := by have h2 := HEL.out; omega
          have hkl : k < 1000000 := by have h2 := HEL.out; omega
          have hEl : E < 1000000 := by have h2 := HEL.out; omega
          have hrm : r < 1000000 := by omega
          have b1 := (wrapM G hGl).1
          have b2 := (wrapM G hGl).2.2.1
          have b3 := (wrapM k hkl).1
          have b4 := (wrapM k hkl).2.2.1
          have b5 := (wrapM E hEl).1
          have b6 := (wrapM E hEl).2.2.1
          have b7 := (wrapM r hrm).1
          have b8 := (wrapM r hrm).2.2.1
          have a4 : (G : Int) + (r : Int) = (k : Int) := by omega
          clear hG hk hGl hkl hEl hrm hbm32 hrl
          go_wp2
          clear a1 a2 a3 a4 b1 b2 b3 b4 b5 b6 b7 b8 hrr x16
          obtain ⟨q, hqd⟩ : ∃ q, q = k / 8 := ⟨_, rfl⟩
          obtain ⟨rr, hrd⟩ : ∃ r, r = k % 8 := ⟨_, rfl⟩
          obtain ⟨pw, hpw⟩ : ∃ p, p = 2 ^ rr := ⟨_, rfl⟩
          have hq : (k : Int).tdiv 8 = (q : Int) := by rw [Int.tdiv_eq_ediv_of_nonneg (by omega)]; omega
          have hr8 : (k : Int).tmod 8 = (rr : Int) := by rw [Int.tmod_eq_emod_of_nonneg (by omega)]; omega
          have hqE : E ≤ q ∧ q < E + 32 := by have h1 := HK.out; omega
          have hqw : IntKind.i64.wrap (q : Int) = (q : Int) := by rw [IntKind.wrap_i64]; have h2 := HEL.out; omega
          have hqb : (q : Int) < (bm : Int) := by have h1 := HBM.out; have h2 := HEL.out; omega
          have hq32 : q < bm := by omega
          have HQL : Hid (E ≤ q ∧ q < B.length) := ⟨hqE.1, by have h2 := HEL.out; omega⟩
          have HRR : Hid (rr < 8 ∧ pw = 2 ^ rr) := ⟨by omega, hpw⟩
          have hcell := HOB12.out.cellAt q HQL.out.2
          have hx8 : B.getD q 0 < 256 := HOB12.out.all _ (getD_mem B 0 q HQL.out.2)
          have hpl : pw < 256 ∧ pw ≠ 0 := by
            have : rr = 0 ∨ rr = 1 ∨ rr = 2 ∨ rr = 3 ∨ rr = 4 ∨ rr = 5 ∨ rr = 6 ∨ rr = 7 := by omega
            subst hpw
            rcases this with rfl | rfl | rfl | rfl | rfl | rfl | rfl | rfl <;> decide
          have HNE : Hid (B.getD q 0 ^^^ pw ≠ B.getD q 0) := xor_ne hpl.2
          have hxy := Go.u8_xor_nat (B.getD q 0) pw hx8 hpl.1
          have hy8 := Mac.xor8_lt hx8 hpl.1
          have HXY : Hid (∀ z, z = B.getD q 0 ^^^ pw → z ≠ B.getD q 0) := fun z hz => by rw [hz]; exact HNE.out
          obtain ⟨x, hxe⟩ : ∃ x, x = B.getD q 0 := ⟨_, rfl⟩
          obtain ⟨y, hye⟩ : ∃ y, y = B.getD q 0 ^^^ pw := ⟨_, rfl⟩
          have HYN : Hid (y ≠ B.getD q 0) := HXY.out y hye
          rw [← hye] at hxy hy8
          rw [← hxe] at hxy hx8 hcell
          clear hqd hrd hpw hqE hxe hye HNE HXY
          have HCx : ∀ {wx : World}, Ext w12.drew wx → wx.cell? ⟨og, q, none⟩ = some (.int .u8 (x : Nat)) := fun hx => ((Ext.drew _).trans hx).cell hcell
          have HROW : ∀ {wx : World}, Ext w12.drew wx → ∃ cur, Blk wx og cur 5 ∧ q < cur.size := fun hx => by obtain ⟨cur, h1, h2⟩ := (HOB12.out.ext ((Ext.drew _).trans hx)).row; exact ⟨cur, h1, Nat.lt_of_lt_of_le HQL.out.2 h2⟩
          refine wp_region_lastD (fun t => bif Nat.ble 80 t && Nat.ble t 89 then some (t - 80) else none) 99 Ext
            [Is (.slice (some ⟨og, 0, none⟩) bm bc),
             Is (.int .i64 (k : Int)),
             Is (.int .i64 (q : Int)),
             Is (.pointer (some ⟨og, q, none⟩)),
             Is (.int .u8 (x : Int)),
             Is (.int .i64 (k : Int)),
             Is (.int .i64 (rr : Int)),
             Is (.int .u8 (pw : Int)),
             Is (.int .u8 (y : Int)),
             Is (.pointer (some ⟨og, q, none⟩))]
            (by intro h; cases h) rfl (by kernel_rfl) (by kernel_rfl) rfl (by kernel_rfl) Ext.refl (fun _ _ _ => Ext.trans) ?_ (fun wx wy => wy = wx.setCell ⟨og, q, none⟩ (.int .u8 (y : Nat))) ?_ ?_ ?_
          · exact KeepAll.is (KeepAll.is (KeepAll.is (KeepAll.is (KeepAll.is (KeepAll.is (KeepAll.is (KeepAll.is (KeepAll.is (KeepAll.is (KeepAll.nil))))))))))
          · refine GoodAll.cons ?_ ?_
            · intro r wx hR hx
              obtain ⟨h1, _⟩ := hx
              replace h1 : r (.tmp 3) = (.slice (some ⟨og, 0, none⟩) bm bc) := h1
              exact give_move (.inl rfl) ⟨Ext.refl _, h1⟩
            refine GoodAll.cons ?_ ?_
            · intro r wx hR hx
              obtain ⟨h1, _⟩ := hx
              replace h1 : r (.tmp 8) = (.int .i64 (k : Int)) := h1
              exact give_move (.inl rfl) ⟨Ext.refl _, h1⟩
            refine GoodAll.cons ?_ ?_
            · intro r wx hR hx
              obtain ⟨h1, h2, _⟩ := hx
              replace h1 : r (.tmp 81) = (.int .i64 (k : Int)) := h1
              replace h2 : r (.const (.int .i64 8)) = .int .i64 8 := h2
              exact give_of (by simp [execOp, h1, h2, hq, hqw, go_sem]) ⟨Ext.refl _, rfl⟩
            refine GoodAll.cons ?_ ?_
            · intro r wx hR hx
              obtain ⟨h1, h2, _⟩ := hx
              replace h1 : r (.tmp 80) = (.slice (some ⟨og, 0, none⟩) bm bc) := h1
              replace h2 : r (.tmp 82) = (.int .i64 (q : Int)) := h2
              exact give_of (by simp [execOp, h1, h2, hqb, hq32, go_sem]) ⟨Ext.refl _, rfl⟩
            refine GoodAll.cons ?_ ?_
            · intro r wx hR hx
              obtain ⟨h1, _⟩ := hx
              replace h1 : r (.tmp 83) = (.pointer (some ⟨og, q, none⟩)) := h1
              exact give_of (exec_get one5 rfl h1 (HCx hR)) ⟨Ext.refl _, rfl⟩
            refine GoodAll.cons ?_ ?_
            · intro r wx hR hx
              obtain ⟨h1, _⟩ := hx
              replace h1 : r (.tmp 8) = (.int .i64 (k : Int)) := h1
              exact give_move (.inl rfl) ⟨Ext.refl _, h1⟩
            refine GoodAll.cons ?_ ?_
            · intro r wx hR hx
              obtain ⟨h1, h2, _⟩ := hx
              replace h1 : r (.tmp 85) = (.int .i64 (k : Int)) := h1
              replace h2 : r (.const (.int .i64 8)) = .int .i64 8 := h2
              exact give_of (by simp [execOp, h1, h2, hr8, go_sem]) ⟨Ext.refl _, rfl⟩
            refine GoodAll.cons ?_ ?_
            · intro r wx hR hx
              obtain ⟨h1, h2, _⟩ := hx
              replace h1 : r (.const (.int .u8 1)) = .int .u8 1 := h1
              replace h2 : r (.tmp 86) = (.int .i64 (rr : Int)) := h2
              exact give_of (exec_shl1 rfl h1 h2 HRR.out.1 HRR.out.2) ⟨Ext.refl _, rfl⟩
            refine GoodAll.cons ?_ ?_
            · intro r wx hR hx
              obtain ⟨h1, h2, _⟩ := hx
              replace h1 : r (.tmp 84) = (.int .u8 (x : Int)) := h1
              replace h2 : r (.tmp 87) = (.int .u8 (pw : Int)) := h2
              exact give_of (by simp [execOp, h1, h2, hxy, go_sem]) ⟨Ext.refl _, rfl⟩
            refine GoodAll.cons ?_ ?_
            · intro r wx hR hx
              obtain ⟨h1, h2, _⟩ := hx
              replace h1 : r (.tmp 80) = (.slice (some ⟨og, 0, none⟩) bm bc) := h1
              replace h2 : r (.tmp 82) = (.int .i64 (q : Int)) := h2
              exact give_of (by simp [execOp, h1, h2, hqb, hq32, go_sem]) ⟨Ext.refl _, rfl⟩
            exact GoodAll.nil
          · intro r wx hR hx
            obtain ⟨h1, h2, _⟩ := hx
            replace h1 : r (.tmp 89) = (.pointer (some ⟨og, q, none⟩)) := h1
            replace h2 : r (.tmp 88) = (.int .u8 (y : Int)) := h2
            obtain ⟨cur, hcb, hcs⟩ := HROW hR
            exact give_skip (exec_set one5 rfl h1 h2 rfl rfl hcb (by omega)) rfl
          · intro vs w14 w15 aV hR14 hE15 hold ha
            have hv0 : vs 0 = (.slice (some ⟨og, 0, none⟩) bm bc) := hold.at 0
            have hv1 : vs 1 = (.int .i64 (k : Int)) := hold.at 1
            have hv2 : vs 2 = (.int .i64 (q : Int)) := hold.at 2
            have hv3 : vs 3 = (.pointer (some ⟨og, q, none⟩)) := hold.at 3
            have hv4 : vs 4 = (.int .u8 (x : Int)) := hold.at 4
            have hv5 : vs 5 = (.int .i64 (k : Int)) := hold.at 5
            have hv6 : vs 6 = (.int .i64 (rr : Int)) := hold.at 6
            have hv7 : vs 7 = (.int .u8 (pw : Int)) := hold.at 7
            have hv8 : vs 8 = (.int .u8 (y : Int)) := hold.at 8
            have hv9 : vs 9 = (.pointer (some ⟨og, q, none⟩)) := hold.at 9
            simp only [putAll, Act.put, hv0, hv1, hv2, hv3, hv4, hv5, hv6, hv7, hv8, hv9, List.setIfInBounds_toArray, List.set_cons_succ, List.set_cons_zero] at ha
            subst ha
            have HE14 : Hid (Ext w12 w14) := (Ext.drew _).trans hR14
            have hpk := (HOB12.out.ext HE14.out).poked q hy8
            rw [← hE15] at hpk
            have HOB15 : Hid (BytesAt w15 (.slice (some ⟨og, 0, none⟩) bm bc) (B.set q y)) := hpk.1.bytes
            have HOG : Hid (w3.heap.size ≤ og) := (HOB12.out.lt rfl).1
            have HW15 : Hid (Ext w w15) := (HW12.out.trans HE14.out).of_but hpk.2 (fun k e => by subst e; exact Nat.le_trans HE3.out.size HOG.out)
            have HB15 : Hid (Blk w15 xb (PV (.slice ua K.length uc) (.slice va L.length vc) c s n) 51) := (HB12.out.ext HE14.out).but hpk.2 (show ¬ _ = _ by have h1 := HXB.out; have h2 := HOG.out; omega)
            have HE2 : Hid (openE K (B.set q y) 0 = 15) := show _ = _ by have h2 := HQL.out; have h3 := HYN.out; rw [HMBB.out] at h2 h3 ⊢; exact forge_bit (by rw [← HEL.out.1]; exact h2.1) h2.2 h3
            have hbl : (B.set q y).length ≤ 70000 := by rw [List.length_set]; have h2 := HEL.out; omega
            clear hold hE15 hpk HCx HROW hcell hxy hy8 hx8 hpl hv0 hv1 hv2 hv3 hv4 hv5 hv6 hv7 hv8 hv9
            refine ‹∀ (a : Act) (w : World), Code.wp Tryd.prog _ _ a w → _› _ _ ?_
            have x0 := pv0 HB15.out
            go_wp2_with (first
              | (go_at_call 17; refine (open_any (HT.out.ext HW15.out) (HA.out.1.ext HW15.out) HOB15.out (by have := HLN.out; omega) hbl (by decide)).mono ?_; rintro e w16 ⟨he16, s16, rfl, ho16⟩; clear ho16; rw [HE2.out])
              | (go_at_call 14; refine (is_anyE _ _ _).mono ?_; rintro e w17 ⟨rfl, he17⟩))
            go_ret
            exact ⟨rfl, (HW15.out.trans he16).trans he17⟩
end Tlv
end Go.Proofs.YtfhoielfekeihaaDoor

/- From the rows' condition on the tables to their cells. Condition: the tables read as the program's text lays them. -/
namespace Go.Proofs.YtfhoielfekeihaaDoor
open Go Go.ChangeShapes Go.WideShapes Go.ChangeAt Go.RowKit
set_option maxRecDepth 100000

theorem gSq : Tryd.prog.globalNamed "weftline/sha.squareRoots" = some 0 := by kernel_rfl
theorem tSq : (Tryd.prog.globals[0]?).map (·.type) = some 111 := by kernel_rfl
theorem gCu : Tryd.prog.globalNamed "weftline/sha.cubeRoots" = some 2 := by kernel_rfl
theorem tCu : (Tryd.prog.globals[2]?).map (·.type) = some 122 := by kernel_rfl
theorem sq_all : ∀ k, k < 8 → ([1779033703, 3144134277, 1013904242, 2773480762, 1359893119, 2600822924, 528734635, 1541459225] : List Int).getD k 0 = (Sha.sqr.getD k 0 : Nat) := by decide
theorem cu_all : ∀ k, k < 64 → ([1116352408, 1899447441, 3049323471, 3921009573, 961987163, 1508970993, 2453635748, 2870763221, 3624381080, 310598401, 607225278, 1426881987, 1925078388, 2162078206, 2614888103, 3248222580, 3835390401, 4022224774, 264347078, 604807628, 770255983, 1249150122, 1555081692, 1996064986, 2554220882, 2821834349, 2952996808, 3210313671, 3336571891, 3584528711, 113926993, 338241895, 666307205, 773529912, 1294757372, 1396182291, 1695183700, 1986661051, 2177026350, 2456956037, 2730485921, 2820302411, 3259730800, 3345764771, 3516065817, 3600352804, 4094571909, 275423344, 430227734, 506948616, 659060556, 883997877, 958139571, 1322822218, 1537002063, 1747873779, 1955562222, 2024104815, 2227730452, 2361852424, 2428436474, 2756734187, 3204031479, 3329325298] : List Int).getD k 0 = (Sha.cub.getD k 0 : Nat) := by decide
theorem tabs_of2 {W : World} (h : laidMetH Tryd.prog Rows.cookieForgesRow.laid W) : Tabs W := by
  rw [MakeChecks.laidMetH_plain _ _ _ (by kernel_rfl)] at h
  obtain ⟨ps, ⟨g0, t0, cs0, f0, p0, q0, hg0, ht0, hv0, hd0, hr1, _⟩, _⟩ := h
  obtain ⟨g1, t1, cs1, f1, p1, q1, hg1, ht1, hv1, hd1, _⟩ := hr1
  obtain rfl := Option.some.inj (gSq.symm.trans hg0)
  obtain rfl := Option.some.inj (tSq.symm.trans ht0)
  obtain rfl := Option.some.inj (gCu.symm.trans hg1)
  obtain rfl := Option.some.inj (tCu.symm.trans ht1)
  refine ⟨fun k hk => ?_, fun k hk => ?_⟩
  · have h1 := ints_of_trod [1779033703, 3144134277, 1013904242, 2773480762, 1359893119, 2600822924, 528734635, 1541459225] Tryd.underlying111 Tryd.underlying23 (by kernel_rfl) hd0 k hk
    rw [World.var?_cell hg0 hv0 k, ← Array.getElem?_toList, h1, sq_all k hk]
  · have h1 := ints_of_trod [1116352408, 1899447441, 3049323471, 3921009573, 961987163, 1508970993, 2453635748, 2870763221, 3624381080, 310598401, 607225278, 1426881987, 1925078388, 2162078206, 2614888103, 3248222580, 3835390401, 4022224774, 264347078, 604807628, 770255983, 1249150122, 1555081692, 1996064986, 2554220882, 2821834349, 2952996808, 3210313671, 3336571891, 3584528711, 113926993, 338241895, 666307205, 773529912, 1294757372, 1396182291, 1695183700, 1986661051, 2177026350, 2456956037, 2730485921, 2820302411, 3259730800, 3345764771, 3516065817, 3600352804, 4094571909, 275423344, 430227734, 506948616, 659060556, 883997877, 958139571, 1322822218, 1537002063, 1747873779, 1955562222, 2024104815, 2227730452, 2361852424, 2428436474, 2756734187, 3204031479, 3329325298] Tryd.underlying122 Tryd.underlying23 (by kernel_rfl) hd1 k hk
    rw [World.var?_cell hg1 hv1 k, ← Array.getElem?_toList, h1, cu_all k hk]
end Go.Proofs.YtfhoielfekeihaaDoor

namespace Go.Proofs.YtfhoielfekeihaaDoor
open Go.ChangeShapes Go.WideShapes Go.ChangeAt Go.RowKit
open Go.ChangeMaps (open_string shut_string)
set_option linter.unusedVariables false
set_option linter.unusedSimpArgs false

theorem cookieForgesOwn : ownKnob Tryd.prog.godebug = none := by kernel_rfl
theorem cookieForgesLaidOut : laidOutB Tryd.prog = true := by kernel_rfl
theorem cookieForgesDoor (os : Os) (args : Array Value) : laidMetH Tryd.prog Rows.cookieForgesRow.laid ((World.doorLaid Tryd.prog 14 os).forCall (fun _ _ => 0) ⟨#[], args, []⟩).memory :=
  laidMetH_of_parts3 (fuel := 8) (laidMet_of_run' 8 (by kernel_rfl) (by kernel_rfl)) (by kernel_rfl) (by kernel_rfl)
set_option maxRecDepth 100000 in
theorem cookieForgesLifted (os : Os) (started : os.Started) (H : Type) (enc : TypeId × Value → H) :
    ReturnsInHanded {} Tryd.checked os 5 .any (fun w args => (Rows.cookieForgesSpec.pre enc Tryd.prog Tryd.f5 [] false w args ∧ laidMetH Tryd.prog Rows.cookieForgesRow.laid w) ∧ sizedMet enc Tryd.prog Tryd.f5 (OpenSpec.ofChange Rows.cookieForgesSpec) false w args)
      (Rows.cookieForgesSpec.post enc Tryd.prog Tryd.f5 false true false false) := by
  refine returnsInHanded_of_change_and (C := Tryd.checked) (X := fun w _ => laidMetH Tryd.prog Rows.cookieForgesRow.laid w) (fun _ _ _ hh h => h.of_heap hh) cookieForgesOwn started (by kernel_rfl) Tryd.func5
    (ChangeSpec.witness_shaped (enc := enc) (C := Tryd.checked) (os := os) (X := fun w _ => laidMetH Tryd.prog Rows.cookieForgesRow.laid w) false (World.doorLaid Tryd.prog 14 os) #[.agg (Tlv.PV (.slice none 0 0) (.slice none 0 0) Tlv.co0 Tlv.so0 0)] 8 rfl (World.shaped_of_RefB (by kernel_rfl) (by kernel_rfl)) (by kernel_rfl) (by kernel_rfl) (by kernel_rfl) (cookieForgesDoor os _)) ?_
  intro W base args ds gs before hval0 hW _ _ hL _
  have hval : ∀ (j : Nat) t v, Tryd.f5.params[j]? = some t → args[j]? = some v → Value.okWide Tryd.prog W .any base t v := hval0
  have hW' := hW
  obtain ⟨p, q, hA0, hV, rfl, hfz, hnd⟩ := hW
  have hA : DataW.TrodAll enc Tryd.prog W 0 (fun _ => true) true Tryd.f5.params.toList args.toList ds p := hA0
  rw [Tryd.params5] at hA hval
  obtain ⟨v0, vs0, d0, ds0, p0, q0, hargs, rfl, rfl, h0, r0⟩ := trodAll_cons hA
  obtain ⟨rfl, rfl, rfl⟩ := trodAll_nil r0
  obtain rfl : args = #[v0] := by cases args; simp_all
  obtain ⟨rfl, rfl⟩ := trodVars_none hV
  have k0 := h0
  have lt0 : ∀ x ∈ p0, x.block < W.heap.size := by obtain ⟨m, hm⟩ := k0; exact DataW.trod_lt m _ _ _ hm
  obtain ⟨cs0, rfl, hz0⟩ := okWide_struct Tryd.underlying51 (hval 0 51 v0 rfl rfl)
  obtain ⟨u0, x0, K0, L0, c0, s0, n0, hc0, hu0, hx0, hk0, hf0, hn0⟩ : ∃ u v K L c s n, cs0 = Tlv.PV u v c s n ∧ BytesAt W u K ∧ BytesAt W v L ∧ Tlv.CoAt W s c ∧ Tlv.FitC c ∧ W64 n := by
    obtain ⟨fu, hfu⟩ := h0
    have hz : cs0.toList.length = 17 := by rw [Array.length_toList, hz0]; kernel_rfl
    obtain ⟨u, v, K, L, c, s, n, e, a⟩ := Tlv.sp_open hz (by simpa [Value.cells] using hfu)
    exact ⟨u, v, K, L, c, s, n, Array.toList_inj.1 e, a⟩
  subst hc0
  clear hA0 hval0
  have hT := tabs_of2 hL
  refine (Tlv.forges_walk hT hu0 hx0 hk0 hf0 hn0).mono fun e W' ⟨he, bel⟩ => ?_
  subst he
  exact ⟨_, rfl, _, _, _, [], _, [], hW', trodAll_mk1 (shut_bool Tryd.underlying4 _), (trodAll_cons_mk (Below.trod cookieForgesLaidOut (by kernel_rfl) (of_decide_eq_true (by kernel_rfl)) k0 bel lt0) (trodAll_mk0)), rfl, bel.frame _, fun h => by cases h⟩

theorem cookieForgesOver : Rows.cookieForgesRow.holds Tryd.pinned (OpenSpec.ofChange Rows.cookieForgesSpec) :=
  OpenClaim.holds_of_wide 5 Tryd.f5 rfl rfl rfl rfl rfl rfl rfl ⟨rfl, rfl, rfl, rfl, rfl⟩ rfl rfl rfl rfl rfl (by kernel_rfl) Tryd.func5 (by kernel_rfl)
    (of_decide_eq_true (by kernel_rfl)) (by unfold Func.isWrapper; first | (rw [if_pos (by decide +kernel)]; kernel_rfl) | (rw [if_neg (by decide +kernel)]; exact ⟨rfl, rfl⟩))
    (fun os started H enc _ => cookieForgesLifted os started H enc)

/-- THE STATEMENT. -/
theorem cookieForges_holds : Rows.CookieForgesCardSaid :=
  Claim7.holds_tied_plain_at .later [] [.data, .data] true (true, "658aee9203d4dfbb09f1f1ac9f759582c28b8d1a46754831244efaf4a78ddc61") true
    cookieForgesOver (fun _ h => by cases h) (by kernel_rfl) (fun _ h => by cases h) cookieForges_row_tie rfl ⟨rfl, rfl⟩ (by kernel_rfl) rfl
    (fun f fn hf hfn => by
      obtain rfl : f = 5 := Option.some.inj ((show Tryd.prog.funcNamed Rows.cookieForgesRow.func = some 5 by kernel_rfl).symm.trans hf) |>.symm
      obtain rfl : fn = Tryd.f5 := (Option.some.inj (Tryd.func5.symm.trans hfn)).symm
      exact ⟨by kernel_rfl, fun j t ht => by
        rw [Tryd.params5] at ht
        have hm : t ∈ [51] := by simpa using Array.mem_of_getElem? ht
        have hall : ([51].all fun u => !Tryd.prog.wantsStandIn u) = true := by kernel_rfl
        exact (show Tryd.prog.wantsStandIn t = false by simpa using List.all_eq_true.1 hall t hm)⟩)
    (by kernel_rfl)
#print axioms cookieForges_holds
end Go.Proofs.YtfhoielfekeihaaDoor
