/- A copy of a row. No condition of its own. -/
import Derived.Test.YtbongjdflnefmaaWrite
namespace Go.Proofs.Ytbongjdflnefmaa
open Go.RowKit
set_option linter.unusedVariables false
set_option linter.unusedSimpArgs false
set_option maxRecDepth 100000

/-- A row in memory that is new since w. -/
def CopyAt (w wx : World) (u : Value) (f m : Int) (l : List Int) : Prop := ∃ c v2, u = rowP c ∧ RowAt wx c v2 f m l ∧ w.heap.size ≤ c ∧ ∀ g, v2.ownBlock = some g → w.heap.size ≤ g
theorem CopyAt.ext {w wx wy : World} {u : Value} {f m : Int} {l : List Int} (h : CopyAt w wx u f m l) (he : Ext wx wy) : CopyAt w wy u f m l := by
  obtain ⟨c, v2, e, h1, h2⟩ := h
  exact ⟨c, v2, e, h1.ext he, h2⟩

theorem copy_nil (w : World) : Calls Try.prog 20 #[nilRow] w fun e w' => e = .returned nilRow ∧ w' = w := by
  go_enter Try.func20, Try.ntmps20
  go_wp2
  go_ret
  exact ⟨rfl, rfl⟩

set_option maxHeartbeats 2000000 in
theorem copy_any {w : World} {b : Nat} {v : Value} {f m : Int} {l : List Int} (h : RowAt w b v f m l) : Calls Try.prog 20 #[rowP b] w fun e w' => ∃ u, e = .returned u ∧ CopyAt w w' u f m l ∧ Ext w w' := by
  have H : Hid (RowAt w b v f m l) := h
  have hs := h.small
  have hf := h.hf
  have hm := h.hm
  have hl := h.hl
  obtain ⟨a, cap, rfl, hcap, hc⟩ := h.own.nums.form
  clear h hc
  go_enter Try.func20, Try.ntmps20
  go_wp2_with fail
  have HE : ∀ {wx : World}, Ext w.drew wx → RowAt wx b (.slice a l.length cap) f m l := fun hx => H.out.ext ((Ext.drew w).trans hx)
  refine wp_region_facts (fun t => bif Nat.ble 5 t && Nat.ble t 19 then some (t - 5) else bif Nat.beq t 2 then some 15 else none) 20 Ext
    [Is (rowP b),
     Is (.pointer (some ⟨b, 0, none⟩)),
     Is (.pointer (some ⟨b, 0, none⟩)),
     Is (.int .u32 f),
     Is (rowP b),
     Is (.pointer (some ⟨b, 0, none⟩)),
     Is (.pointer (some ⟨b, 1, none⟩)),
     Is (.int .i64 m),
     Is (rowP b),
     Is (.pointer (some ⟨b, 0, none⟩)),
     Is (.pointer (some ⟨b, 2, none⟩)),
     Is (.slice a l.length cap),
     (fun wx u => OwnN .i64 wx w.heap.size 3 u l),
     (fun wx u => ∃ v2, u = .agg #[.int .u32 f, .int .i64 m, v2] ∧ OwnN .i64 wx w.heap.size 3 v2 l),
     (fun wx u => CopyAt w wx u f m l),
     (fun wx u => CopyAt w wx u f m l)]
    rfl (by kernel_rfl) (by kernel_rfl) rfl Ext.refl (fun _ _ _ => Ext.trans) ?_ ?_ ?_
  · exact KeepAll.is (KeepAll.is (KeepAll.is (KeepAll.is (KeepAll.is (KeepAll.is (KeepAll.is (KeepAll.is (KeepAll.is (KeepAll.is (KeepAll.is (KeepAll.is (KeepAll.cons (fun _ _ _ he h => h.ext he) (KeepAll.cons (fun _ _ _ he h => by obtain ⟨v2, e, h2⟩ := h; exact ⟨v2, e, h2.ext he⟩) (KeepAll.cons (fun _ _ _ he h => h.ext he) (KeepAll.cons (fun _ _ _ he h => h.ext he) (KeepAll.nil))))))))))))))))
  · refine GoodAll.cons ?_ ?_
    · intro r wx hR hx
      obtain ⟨h1, _⟩ := hx
      replace h1 : r (.tmp 0) = (rowP b) := h1
      exact give_move (.inl rfl) ⟨Ext.refl _, h1⟩
    refine GoodAll.cons ?_ ?_
    · intro r wx hR hx
      obtain ⟨h1, _⟩ := hx
      replace h1 : r (.tmp 5) = (rowP b) := h1
      exact give_of (by simp [execOp, h1, go_sem]) ⟨Ext.refl _, rfl⟩
    refine GoodAll.cons ?_ ?_
    · intro r wx hR hx
      obtain ⟨h1, _⟩ := hx
      replace h1 : r (.tmp 6) = (.pointer (some ⟨b, 0, none⟩)) := h1
      exact give_of (by simp [execOp, h1, go_sem]) ⟨Ext.refl _, rfl⟩
    refine GoodAll.cons ?_ ?_
    · intro r wx hR hx
      obtain ⟨h1, _⟩ := hx
      replace h1 : r (.tmp 7) = (.pointer (some ⟨b, 0, none⟩)) := h1
      exact give_of (by simp [execOp, h1, go_sem, (HE hR).c0]) ⟨Ext.refl _, rfl⟩
    refine GoodAll.cons ?_ ?_
    · intro r wx hR hx
      obtain ⟨h1, _⟩ := hx
      replace h1 : r (.tmp 0) = (rowP b) := h1
      exact give_move (.inl rfl) ⟨Ext.refl _, h1⟩
    refine GoodAll.cons ?_ ?_
    · intro r wx hR hx
      obtain ⟨h1, _⟩ := hx
      replace h1 : r (.tmp 9) = (rowP b) := h1
      exact give_of (by simp [execOp, h1, go_sem]) ⟨Ext.refl _, rfl⟩
    refine GoodAll.cons ?_ ?_
    · intro r wx hR hx
      obtain ⟨h1, _⟩ := hx
      replace h1 : r (.tmp 10) = (.pointer (some ⟨b, 0, none⟩)) := h1
      exact give_of (by simp [execOp, h1, go_sem]) ⟨Ext.refl _, rfl⟩
    refine GoodAll.cons ?_ ?_
    · intro r wx hR hx
      obtain ⟨h1, _⟩ := hx
      replace h1 : r (.tmp 11) = (.pointer (some ⟨b, 1, none⟩)) := h1
      exact give_of (by simp [execOp, h1, go_sem, (HE hR).c1]) ⟨Ext.refl _, rfl⟩
    refine GoodAll.cons ?_ ?_
    · intro r wx hR hx
      obtain ⟨h1, _⟩ := hx
      replace h1 : r (.tmp 0) = (rowP b) := h1
      exact give_move (.inl rfl) ⟨Ext.refl _, h1⟩
    refine GoodAll.cons ?_ ?_
    · intro r wx hR hx
      obtain ⟨h1, _⟩ := hx
      replace h1 : r (.tmp 13) = (rowP b) := h1
      exact give_of (by simp [execOp, h1, go_sem]) ⟨Ext.refl _, rfl⟩
    refine GoodAll.cons ?_ ?_
    · intro r wx hR hx
      obtain ⟨h1, _⟩ := hx
      replace h1 : r (.tmp 14) = (.pointer (some ⟨b, 0, none⟩)) := h1
      exact give_of (by simp [execOp, h1, go_sem]) ⟨Ext.refl _, rfl⟩
    refine GoodAll.cons ?_ ?_
    · intro r wx hR hx
      obtain ⟨h1, _⟩ := hx
      replace h1 : r (.tmp 15) = (.pointer (some ⟨b, 2, none⟩)) := h1
      exact give_of (by simp [execOp, h1, go_sem, (HE hR).c2]) ⟨Ext.refl _, rfl⟩
    refine GoodAll.cons ?_ ?_
    · intro r wx hR hx
      obtain ⟨h1, h2, _⟩ := hx
      replace h1 : r (.const (.slice none 0 0)) = .slice none 0 0 := h1
      replace h2 : r (.tmp 16) = (.slice a l.length cap) := h2
      obtain ⟨v2, w2, hr, ho, hg, _⟩ := run_append_nums numT wx w.heap.size 34 (.slice none 0 0) (.slice a l.length cap) [] l (OwnN.nil _ _ _ _) (HE hR).own.nums (by simp; omega) (by simp; omega) (Nat.le_trans (Nat.le_refl _) hR.size)
      refine give_of (v := v2) (w' := w2) (by simp only [execOp, resolve, invoke, builtin, Sem.run_bind, Sem.run_pure, Result.andThen_ok, List.map_toArray, List.map_cons, List.map_nil, h1, h2, hr]) ⟨Ext.of_grown hg, by rw [List.nil_append] at ho; exact ho⟩
    refine GoodAll.cons ?_ ?_
    · intro r wx hR hx
      obtain ⟨h1, h2, h3, _⟩ := hx
      replace h1 : r (.tmp 8) = (.int .u32 f) := h1
      replace h2 : r (.tmp 12) = (.int .i64 m) := h2
      replace h3 : ((fun wx u => OwnN .i64 wx w.heap.size 3 u l) : Fact) wx (r (.tmp 17)) := h3
      obtain ⟨a3, c3, e3, _⟩ := OwnN.slice h3
      exact give_of (v := .agg #[.int .u32 f, .int .i64 m, r (.tmp 17)]) (by simp [execOp, h1, h2, e3, go_sem]) ⟨Ext.refl _, _, rfl, h3⟩
    refine GoodAll.cons ?_ ?_
    · intro r wx hR hx
      obtain ⟨h1, _⟩ := hx
      replace h1 : ((fun wx u => ∃ v2, u = .agg #[.int .u32 f, .int .i64 m, v2] ∧ OwnN .i64 wx w.heap.size 3 v2 l) : Fact) wx (r (.tmp 18)) := h1
      obtain ⟨v2, e2, ho⟩ := h1
      exact give_of (v := rowP wx.heap.size) (w' := wx.alloc (.cells #[.int .u32 f, .int .i64 m, v2] 65)) (by simp [execOp, e2, go_sem]) ⟨Ext.alloc _ _, wx.heap.size, v2, rfl, ⟨Array.getElem?_push_size, (ho.base (Nat.zero_le _)).ext (Ext.alloc _ _), hf, hm, hl⟩, hR.size, fun g hg => (ho.lt hg).1⟩
    refine GoodAll.cons ?_ ?_
    · intro r wx hR hx
      obtain ⟨h1, _⟩ := hx
      replace h1 : ((fun wx u => CopyAt w wx u f m l) : Fact) wx (r (.tmp 19)) := h1
      exact give_move (.inr rfl) ⟨Ext.refl _, h1⟩
    exact GoodAll.nil
  · intro vs w' a' hR hold ha
    have hv : CopyAt w w' (vs 15) f m l := hold.at 15
    refine ‹∀ (a : Act) (w : World), Code.wp Try.prog Code.ret _ a w → _› _ _ ?_
    refine wp_ret ?_
    have hs : a'.tmps[2]? = some (vs 15) := by rw [ha]; kernel_rfl
    have hdf : a'.defers = [] := by rw [ha]; exact putAll_defers _ _ _ _
    clear ha
    refine bodyPost_ret (v := vs 15) ?_ hdf ⟨_, rfl, hv, (Ext.drew _).trans hR⟩
    simp [results, Try.results20, go_sem, hs]
end Go.Proofs.Ytbongjdflnefmaa
