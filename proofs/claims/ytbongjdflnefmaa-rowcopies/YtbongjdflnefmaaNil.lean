/- What a nil row answers; a loop over a deep iterator that may be left by a break. No condition of its own. -/
import Derived.Test.YtbongjdflnefmaaGoes
import Derived.Test.YtbongjdflnefmaaActsOpen
namespace Go.Proofs.Ytbongjdflnefmaa
open Go Go.RowKit Go.Shelf
set_option linter.unusedVariables false
set_option linter.unusedSimpArgs false
set_option maxRecDepth 100000

set_option maxHeartbeats 400000 in
theorem push_nil (x : Int) (w : World) (hx : W64 x) : Calls Try.prog 13 #[nilRow, .int .i64 x] w fun e w' => e = .returned (.tuple #[.int .u32 0, .iface 33 (.int .i64 3)]) ∧ w' = w := by
  go_enter Try.func13, Try.ntmps13
  go_wp2_with (go_at_call 25; refine (free_nil _).mono ?_; rintro e w' ⟨rfl, rfl⟩)
  go_ret2
  exact ⟨rfl, rfl⟩
set_option maxHeartbeats 400000 in
theorem pop_nil (w : World) : Calls Try.prog 14 #[nilRow] w fun e w' => e = .returned (.tuple #[.int .i64 0, .iface 33 (.int .i64 4)]) ∧ w' = w := by
  go_enter Try.func14, Try.ntmps14
  go_wp2_with (go_at_call 18; refine (len_nil _).mono ?_; rintro e w' ⟨rfl, rfl⟩)
  go_ret2
  exact ⟨rfl, rfl⟩
set_option maxHeartbeats 400000 in
theorem cut_nil (n : Int) (w : World) (hn : Of 4294967296 n) : Calls Try.prog 16 #[nilRow, .int .u32 n] w fun e w' => e = .returned (.tuple #[.slice none 0 0, .iface 33 (.int .i64 4)]) ∧ w' = w := by
  go_enter Try.func16, Try.ntmps16
  go_wp2
  go_ret2
  exact ⟨rfl, rfl⟩
set_option maxHeartbeats 400000 in
theorem at_nil (n : Int) (w : World) (hn : Of 4294967296 n) : Calls Try.prog 23 #[nilRow, .int .u32 n] w fun e w' => e = .returned (.tuple #[.int .i64 0, .bool false]) ∧ w' = w := by
  go_enter Try.func23, Try.ntmps23
  go_wp2_with (go_at_call 36; refine (has_nil _ _ hn).mono ?_; rintro e w' ⟨rfl, rfl⟩)
  go_ret2
  exact ⟨rfl, rfl⟩
set_option maxHeartbeats 400000 in
theorem set_nil (n x : Int) (w : World) (hn : Of 4294967296 n) (hx : W64 x) : Calls Try.prog 24 #[nilRow, .int .u32 n, .int .i64 x] w fun e w' => e = .returned (.iface 33 (.int .i64 4)) ∧ w' = w := by
  go_enter Try.func24, Try.ntmps24
  go_wp2_with (go_at_call 36; refine (has_nil _ _ hn).mono ?_; rintro e w' ⟨rfl, rfl⟩)
  go_ret
  exact ⟨rfl, rfl⟩

/-- A loop that runs out or is left by a break, and nothing is assigned ahead of the body. -/
theorem wpIn_deep_merge {P : Program} {α : Type} {n : Nat} {g : Operand} {ps : Array Tmp} {body : Code} {Q : Exit → Act → World → Prop} {a : Act} {w : World} (hn : 6 ≤ n)
    {gf : Nat} {lb : Array Value} (hg : a.eval g = .func (.func gf) #[] lb) (eg : ∀ args w, (callFunc gf args).run P w = .ok (.enter gf args) w)
    {encs : α → Array Value} {Kp : World → World → Prop} {S Sp : List α → Prop} {N : Nat} (hseq : SeqDeep P gf lb encs Kp S Sp N w)
    (hKt : ∀ {A B C : World}, Kp A B → Kp B C → Kp A C) (hKb : ∀ (W : World) (l : Nat) (o : Obj), w.heap.size ≤ l → Kp W (W.putObj l o)) (hps : ∀ x, (encs x).size = ps.size)
    (id0 : Nat) (I Ix : List α → World → Prop) (hI : OwnFrom w.heap.size I) (hIx : OwnFrom w.heap.size Ix) (h0 : I [] w) (M : World → Prop)
    (hbody : ∀ (l : Nat) (pre : List α) (x : α) (W : World), I pre W → pre.length < N → body.wpIn (Fence.wide.inRound l) (n - 1) P (deepPost w.heap.size Kp I (fun c p W' => c = .exit id0 ∧ Ix p W') (pre ++ [x]) W) { tmps := (ps.zip (encs x)).foldl (fun t (p, v) => t.setIfInBounds p v) a.tmps, defers := [] } W)
    (hM1 : ∀ xs W, S xs → I xs W → M W) (hM2 : ∀ pre W, Sp pre → Ix pre W → M W) (hQx : ∀ a' W, Q .normal a' W → Q (.exit id0) a' W)
    (hfin : ∀ (D : Nat) (W : World), w.heap.size ≤ D → M W → W.heap[D]? = some (.deferred (some [])) → Q .normal { a with defers := { target := .collected D, args := #[] } :: a.defers } W) :
    (Code.rangeFunc g ps .skip body).wpIn Fence.wide n P Q a w :=
  wpIn_range_deep hn hg eg hseq (fun h k => hKt h k) hKb hps I (fun c p W => c = .exit id0 ∧ Ix p W) hI (fun c s A B row hs hg' hr => ⟨hs.1, hIx s A B row hs.2 hg' hr⟩) h0 _
    (fun _ _ _ _ hK => wpIn_skip hK) hbody (fun D xs W hD hS hI' hK => hfin D W hD (hM1 xs W hS hI') hK)
    (fun D c pre W hD hSp hI' hK => by
      obtain ⟨rfl, hI'⟩ := hI'
      exact wpIn_exit (hQx _ _ (hfin D W hD (hM2 pre W hSp hI') hK)))
end Go.Proofs.Ytbongjdflnefmaa
