/- Texts of the seat, one behind the other. No condition of its own. -/
import Derived.Test.YtbahelhohkhkmaaMb3
import Derived.BigQuiet
import Derived.Deep.QuietTactic
import Derived.Laws.StructEq
set_option linter.unusedVariables false
set_option linter.unusedSimpArgs false
/- A chunk: what it holds, as cells and as lists. No condition of its own. -/
namespace Go.Proofs.Ytbahelhohkhkmaa
namespace Tlv
open Go Go.RowKit
set_option maxRecDepth 100000
/-- What a chunk holds. -/
structure Ck where
 kind : Int
 ptsn : Nat
 pstr : Nat
 pseq : Nat
 pb : Bool
 pe : Bool
 pu : Bool
 text : List Nat
 tag : Nat
 win : Int
 out : Int
 inn : Int
 tsn : Nat
 rand : List Nat
 addrs : List Int
 info : List Nat
 gaps : List (Int × Int)
 dups : List Nat
 cause : Int
 serial : Nat
 ops : List (Int × Int)
 ok : Bool
/-- Where its lists lie. -/
structure Sv where
 tA : Option Addr
 tN : Nat
 tC : Nat
 rA : Option Addr
 rN : Nat
 rC : Nat
 aA : Option Addr
 aN : Nat
 aC : Nat
 iA : Option Addr
 iN : Nat
 iC : Nat
 gA : Option Addr
 gN : Nat
 gC : Nat
 dA : Option Addr
 dN : Nat
 dC : Nat
 oA : Option Addr
 oN : Nat
 oC : Nat
/-- Its cells. -/
def CV (c : Ck) (s : Sv) : Array Value := #[.int .i64 c.kind, .int .u32 (c.ptsn : Int), .int .u16 (c.pstr : Int), .int .u16 (c.pseq : Int), .bool c.pb, .bool c.pe, .bool c.pu, .slice s.tA s.tN s.tC, .int .u32 (c.tag : Int), .int .i64 c.win, .int .i64 c.out, .int .i64 c.inn, .int .u32 (c.tsn : Int), .slice s.rA s.rN s.rC, .slice s.aA s.aN s.aC, .slice s.iA s.iN s.iC, .slice s.gA s.gN s.gC, .slice s.dA s.dN s.dC, .int .i64 c.cause, .int .u32 (c.serial : Int), .slice s.oA s.oN s.oC, .bool c.ok]
/-- Those of its piece. -/
def PV (c : Ck) (s : Sv) : Array Value := #[.int .u32 (c.ptsn : Int), .int .u16 (c.pstr : Int), .int .u16 (c.pseq : Int), .bool c.pb, .bool c.pe, .bool c.pu, .slice s.tA s.tN s.tC]
theorem cv0 {w : World} {g T : Nat} {c : Ck} {s : Sv} (h : Blk w g (CV c s) T) : w.cell? ⟨g, 0, none⟩ = some (.int .i64 c.kind) := h.cell 0
theorem cv1 {w : World} {g T : Nat} {c : Ck} {s : Sv} (h : Blk w g (CV c s) T) : w.cell? ⟨g, 1, none⟩ = some (.int .u32 (c.ptsn : Int)) := h.cell 1
theorem cv2 {w : World} {g T : Nat} {c : Ck} {s : Sv} (h : Blk w g (CV c s) T) : w.cell? ⟨g, 2, none⟩ = some (.int .u16 (c.pstr : Int)) := h.cell 2
theorem cv3 {w : World} {g T : Nat} {c : Ck} {s : Sv} (h : Blk w g (CV c s) T) : w.cell? ⟨g, 3, none⟩ = some (.int .u16 (c.pseq : Int)) := h.cell 3
theorem cv4 {w : World} {g T : Nat} {c : Ck} {s : Sv} (h : Blk w g (CV c s) T) : w.cell? ⟨g, 4, none⟩ = some (.bool c.pb) := h.cell 4
theorem cv5 {w : World} {g T : Nat} {c : Ck} {s : Sv} (h : Blk w g (CV c s) T) : w.cell? ⟨g, 5, none⟩ = some (.bool c.pe) := h.cell 5
theorem cv6 {w : World} {g T : Nat} {c : Ck} {s : Sv} (h : Blk w g (CV c s) T) : w.cell? ⟨g, 6, none⟩ = some (.bool c.pu) := h.cell 6
theorem cv7 {w : World} {g T : Nat} {c : Ck} {s : Sv} (h : Blk w g (CV c s) T) : w.cell? ⟨g, 7, none⟩ = some (.slice s.tA s.tN s.tC) := h.cell 7
theorem cv8 {w : World} {g T : Nat} {c : Ck} {s : Sv} (h : Blk w g (CV c s) T) : w.cell? ⟨g, 8, none⟩ = some (.int .u32 (c.tag : Int)) := h.cell 8
theorem cv9 {w : World} {g T : Nat} {c : Ck} {s : Sv} (h : Blk w g (CV c s) T) : w.cell? ⟨g, 9, none⟩ = some (.int .i64 c.win) := h.cell 9
theorem cv10 {w : World} {g T : Nat} {c : Ck} {s : Sv} (h : Blk w g (CV c s) T) : w.cell? ⟨g, 10, none⟩ = some (.int .i64 c.out) := h.cell 10
theorem cv11 {w : World} {g T : Nat} {c : Ck} {s : Sv} (h : Blk w g (CV c s) T) : w.cell? ⟨g, 11, none⟩ = some (.int .i64 c.inn) := h.cell 11
theorem cv12 {w : World} {g T : Nat} {c : Ck} {s : Sv} (h : Blk w g (CV c s) T) : w.cell? ⟨g, 12, none⟩ = some (.int .u32 (c.tsn : Int)) := h.cell 12
theorem cv13 {w : World} {g T : Nat} {c : Ck} {s : Sv} (h : Blk w g (CV c s) T) : w.cell? ⟨g, 13, none⟩ = some (.slice s.rA s.rN s.rC) := h.cell 13
theorem cv14 {w : World} {g T : Nat} {c : Ck} {s : Sv} (h : Blk w g (CV c s) T) : w.cell? ⟨g, 14, none⟩ = some (.slice s.aA s.aN s.aC) := h.cell 14
theorem cv15 {w : World} {g T : Nat} {c : Ck} {s : Sv} (h : Blk w g (CV c s) T) : w.cell? ⟨g, 15, none⟩ = some (.slice s.iA s.iN s.iC) := h.cell 15
theorem cv16 {w : World} {g T : Nat} {c : Ck} {s : Sv} (h : Blk w g (CV c s) T) : w.cell? ⟨g, 16, none⟩ = some (.slice s.gA s.gN s.gC) := h.cell 16
theorem cv17 {w : World} {g T : Nat} {c : Ck} {s : Sv} (h : Blk w g (CV c s) T) : w.cell? ⟨g, 17, none⟩ = some (.slice s.dA s.dN s.dC) := h.cell 17
theorem cv18 {w : World} {g T : Nat} {c : Ck} {s : Sv} (h : Blk w g (CV c s) T) : w.cell? ⟨g, 18, none⟩ = some (.int .i64 c.cause) := h.cell 18
theorem cv19 {w : World} {g T : Nat} {c : Ck} {s : Sv} (h : Blk w g (CV c s) T) : w.cell? ⟨g, 19, none⟩ = some (.int .u32 (c.serial : Int)) := h.cell 19
theorem cv20 {w : World} {g T : Nat} {c : Ck} {s : Sv} (h : Blk w g (CV c s) T) : w.cell? ⟨g, 20, none⟩ = some (.slice s.oA s.oN s.oC) := h.cell 20
theorem cv21 {w : World} {g T : Nat} {c : Ck} {s : Sv} (h : Blk w g (CV c s) T) : w.cell? ⟨g, 21, none⟩ = some (.bool c.ok) := h.cell 21
theorem pv0 {w : World} {g T : Nat} {c : Ck} {s : Sv} (h : Blk w g (PV c s) T) : w.cell? ⟨g, 0, none⟩ = some (.int .u32 (c.ptsn : Int)) := h.cell 0
theorem pv1 {w : World} {g T : Nat} {c : Ck} {s : Sv} (h : Blk w g (PV c s) T) : w.cell? ⟨g, 1, none⟩ = some (.int .u16 (c.pstr : Int)) := h.cell 1
theorem pv2 {w : World} {g T : Nat} {c : Ck} {s : Sv} (h : Blk w g (PV c s) T) : w.cell? ⟨g, 2, none⟩ = some (.int .u16 (c.pseq : Int)) := h.cell 2
theorem pv3 {w : World} {g T : Nat} {c : Ck} {s : Sv} (h : Blk w g (PV c s) T) : w.cell? ⟨g, 3, none⟩ = some (.bool c.pb) := h.cell 3
theorem pv4 {w : World} {g T : Nat} {c : Ck} {s : Sv} (h : Blk w g (PV c s) T) : w.cell? ⟨g, 4, none⟩ = some (.bool c.pe) := h.cell 4
theorem pv5 {w : World} {g T : Nat} {c : Ck} {s : Sv} (h : Blk w g (PV c s) T) : w.cell? ⟨g, 5, none⟩ = some (.bool c.pu) := h.cell 5
theorem pv6 {w : World} {g T : Nat} {c : Ck} {s : Sv} (h : Blk w g (PV c s) T) : w.cell? ⟨g, 6, none⟩ = some (.slice s.tA s.tN s.tC) := h.cell 6
theorem CV.size (c : Ck) (s : Sv) : (CV c s).size = 22 := rfl
theorem PV.size (c : Ck) (s : Sv) : (PV c s).size = 7 := rfl
theorem CV.one (c : Ck) (s : Sv) : ∀ v ∈ (CV c s).toList, v.oneCell' = true := by
 intro v hv
 simp [CV] at hv
 rcases hv with rfl | rfl | rfl | rfl | rfl | rfl | rfl | rfl | rfl | rfl | rfl | rfl | rfl | rfl | rfl | rfl | rfl | rfl | rfl | rfl | rfl | rfl <;> rfl
theorem PV.one (c : Ck) (s : Sv) : ∀ v ∈ (PV c s).toList, v.oneCell' = true := by
 intro v hv
 simp [PV] at hv
 rcases hv with rfl | rfl | rfl | rfl | rfl | rfl | rfl <;> rfl
theorem CV.piece (c : Ck) (s : Sv) : ∀ (j : Nat) v, (PV c s).toList[j]? = some v → (CV c s)[1 + j]? = some v := by
 intro j v h
 match j with
 | 0 => exact h
 | 1 => exact h
 | 2 => exact h
 | 3 => exact h
 | 4 => exact h
 | 5 => exact h
 | 6 => exact h
 | j + 7 => simp [PV] at h
/-- A list of pairs in memory. -/
def PairsAt (w : World) (v : Value) (L : List (Int × Int)) : Prop :=
 L.length ≤ maxLen ∧ ∃ a cap, v = .slice a L.length cap ∧ (L.length ≤ cap ∧ (a = none → cap = 0)) ∧ cap ≤ maxLen ∧ ∀ i p, L[i]? = some p → ∃ b off, a = some ⟨b, off, none⟩ ∧ w.cell? ⟨b, off + i * 2, none⟩ = some (.int .i64 p.1) ∧ w.cell? ⟨b, off + i * 2 + 1, none⟩ = some (.int .i64 p.2)
theorem PairsAt.ext {w w' : World} {v : Value} {L : List (Int × Int)} (h : PairsAt w v L) (he : Ext w w') : PairsAt w' v L := by
 obtain ⟨h1, a, cap, rfl, h2, h3, hc⟩ := h
 refine ⟨h1, a, cap, rfl, h2, h3, fun i p hp => ?_⟩
 obtain ⟨b, off, e, h4, h5⟩ := hc i p hp
 exact ⟨b, off, e, he.cell h4, he.cell h5⟩
theorem PairsAt.nil (w : World) : PairsAt w (.slice none 0 0) [] := ⟨by simp, none, 0, rfl, ⟨by simp, fun _ => rfl⟩, by simp, fun i p h => by simp at h⟩
theorem PairsAt.len {w : World} {a : Option Addr} {n c : Nat} {L : List (Int × Int)} (h : PairsAt w (.slice a n c) L) : n = L.length ∧ n ≤ maxLen ∧ n ≤ c ∧ c ≤ maxLen := by
 obtain ⟨h1, x, cap, e, h2, h3, _⟩ := h
 simp only [Value.slice.injEq] at e
 obtain ⟨rfl, rfl, rfl⟩ := e
 exact ⟨rfl, h1, h2.1, h3⟩
theorem PairsAt.cellAt {w : World} {a : Option Addr} {n c : Nat} {L : List (Int × Int)} (h : PairsAt w (.slice a n c) L) (i : Nat) (hi : i < L.length) : ∃ b off, a = some ⟨b, off, none⟩ ∧ w.cell? ⟨b, off + i * 2, none⟩ = some (.int .i64 (L.getD i (0, 0)).1) ∧ w.cell? ⟨b, off + i * 2 + 1, none⟩ = some (.int .i64 (L.getD i (0, 0)).2) := by
 obtain ⟨_, x, cap, e, _, _, hc⟩ := h
 simp only [Value.slice.injEq] at e
 obtain ⟨rfl, _, _⟩ := e
 have := hc i (L.getD i (0, 0)) (by simp [List.getD_eq_getElem?_getD, hi])
 exact this
theorem nums_len {k : IntKind} {w : World} {a : Option Addr} {n c : Nat} {l : List Int} (h : NumsAt k w (.slice a n c) l) : n = l.length ∧ n ≤ maxLen := by
 obtain ⟨x, y, e, _⟩ := h.form
 simp only [Value.slice.injEq] at e
 obtain ⟨rfl, rfl, rfl⟩ := e
 exact ⟨rfl, h.1⟩
theorem bytes_len {w : World} {a : Option Addr} {n c : Nat} {l : List Nat} (h : BytesAt w (.slice a n c) l) : n = l.length ∧ n ≤ maxLen := by
 obtain ⟨x, y, e, _⟩ := h.form
 simp only [Value.slice.injEq] at e
 obtain ⟨rfl, rfl, rfl⟩ := e
 exact ⟨rfl, h.2.1⟩
/-- A chunk's lists in memory. -/
structure CkAt (w : World) (s : Sv) (c : Ck) : Prop where
 t : BytesAt w (.slice s.tA s.tN s.tC) c.text
 r : BytesAt w (.slice s.rA s.rN s.rC) c.rand
 a : NumsAt .i64 w (.slice s.aA s.aN s.aC) c.addrs
 i : BytesAt w (.slice s.iA s.iN s.iC) c.info
 g : PairsAt w (.slice s.gA s.gN s.gC) c.gaps
 d : NumsAt .u32 w (.slice s.dA s.dN s.dC) (ci c.dups)
 o : PairsAt w (.slice s.oA s.oN s.oC) c.ops
theorem CkAt.ext {w w' : World} {s : Sv} {c : Ck} (h : CkAt w s c) (he : Ext w w') : CkAt w' s c := ⟨h.t.ext he, h.r.ext he, h.a.ext he, h.i.ext he, h.g.ext he, h.d.ext he, h.o.ext he⟩
/-- Its numbers fit their kinds. -/
structure Fit (c : Ck) : Prop where
 kind : W64 c.kind
 ptsn : c.ptsn < 4294967296
 pstr : c.pstr < 65536
 pseq : c.pseq < 65536
 tag : c.tag < 4294967296
 win : W64 c.win
 out : W64 c.out
 inn : W64 c.inn
 tsn : c.tsn < 4294967296
 cause : W64 c.cause
 serial : c.serial < 4294967296
 addrs : ∀ x ∈ c.addrs, W64 x
 gaps : ∀ x ∈ c.gaps, W64 x.1 ∧ W64 x.2
 dups : ∀ x ∈ c.dups, x < 4294967296
 ops : ∀ x ∈ c.ops, W64 x.1 ∧ W64 x.2
theorem rowC : RowT Try.prog 38 22 := ⟨⟨_, Try.underlying38, rfl⟩, by kernel_rfl⟩
theorem rowC2 : RowT Try.prog 32 22 := ⟨⟨_, Try.underlying32, rfl⟩, by kernel_rfl⟩
theorem rowPc : RowT Try.prog 26 7 := ⟨⟨_, Try.underlying26, rfl⟩, by kernel_rfl⟩
theorem one22 : OneT Try.prog 22 := ⟨⟨_, Try.underlying22, rfl⟩, by kernel_rfl⟩
theorem one23 : OneT Try.prog 23 := ⟨⟨_, Try.underlying23, rfl⟩, by kernel_rfl⟩
theorem oneAd : OneT Try.prog 65 := ⟨⟨_, Try.underlying65, rfl⟩, by kernel_rfl⟩
theorem oneSA : OneT Try.prog 27 := ⟨⟨_, Try.underlying27, rfl⟩, by kernel_rfl⟩
theorem oneSG : OneT Try.prog 35 := ⟨⟨_, Try.underlying35, rfl⟩, by kernel_rfl⟩
theorem oneSD : OneT Try.prog 29 := ⟨⟨_, Try.underlying29, rfl⟩, by kernel_rfl⟩
theorem oneSO : OneT Try.prog 36 := ⟨⟨_, Try.underlying36, rfl⟩, by kernel_rfl⟩
theorem oneSG2 : OneT Try.prog 28 := ⟨⟨_, Try.underlying28, rfl⟩, by kernel_rfl⟩
theorem oneSO2 : OneT Try.prog 30 := ⟨⟨_, Try.underlying30, rfl⟩, by kernel_rfl⟩
theorem rowGp : RowT Try.prog 67 2 := ⟨⟨_, Try.underlying67, rfl⟩, by kernel_rfl⟩
theorem rowOp : RowT Try.prog 69 2 := ⟨⟨_, Try.underlying69, rfl⟩, by kernel_rfl⟩
theorem rowGp2 : RowT Try.prog 70 2 := ⟨⟨_, Try.underlying70, rfl⟩, by kernel_rfl⟩
theorem rowOp2 : RowT Try.prog 71 2 := ⟨⟨_, Try.underlying71, rfl⟩, by kernel_rfl⟩
/-! ### Bounds -/
theorem windowFits_any (c : Ck) (s : Sv) (w : World) : Calls Try.prog 72 #[.agg (CV c s)] w fun e w' => e = .returned (.bool (inB c.win 0 2147483647)) ∧ Ext w w' := by
 go_enter Try.func72, Try.ntmps72
 go_wp2_with (first
  | (refine wl_box (C := CV c s) rfl rfl rfl ?_; intro w1 hb1 he1 hx; clear hx; have c9 := cv9 hb1)
  | (go_at_call 69; refine (within_any _ _ _ _).mono ?_; rintro e w2 ⟨rfl, he2⟩))
 go_ret
 exact ⟨rfl, he1.trans he2⟩
theorem infoFits_any (c : Ck) (s : Sv) (hn : s.iN = c.info.length) (w : World) : Calls Try.prog 71 #[.agg (CV c s)] w fun e w' => e = .returned (.bool (inB (c.info.length : Int) 1 300)) ∧ Ext w w' := by
 have HN : Hid (s.iN = c.info.length) := hn
 clear hn
 go_enter Try.func71, Try.ntmps71
 go_wp2_with (first
  | (refine wl_box (C := CV c s) rfl rfl rfl ?_; intro w1 hb1 he1 hx; clear hx; have c9 := cv15 hb1)
  | (go_at_call 69; refine (within_any _ _ _ _).mono ?_; rintro e w2 ⟨rfl, he2⟩))
 go_ret
 exact ⟨by rw [HN.out]; rfl, he1.trans he2⟩
/-- Whether all are addresses; whether all are ops. -/
def adsB (L : List Int) : Bool := L.all adB
def opB (p : Int × Int) : Bool := opK p.1 && adB p.2
def opsB (L : List (Int × Int)) : Bool := L.all opB
theorem addrsC_any (a : Int) (w : World) : Calls Try.prog 100 #[.int .i64 a] w fun e w' => e = .returned (.bool (!adB a)) ∧ Ext w w' := by
 go_enter Try.func100, Try.ntmps100
 go_wp2_with (first
  | (go_at_call 94; refine (isAddr_any _ _).mono ?_; rintro e w2 ⟨rfl, he2⟩))
 go_ret
 exact ⟨rfl, he2⟩
theorem opsC_any (p q : Int) (w : World) : Calls Try.prog 92 #[.agg #[.int .i64 p, .int .i64 q]] w fun e w' => e = .returned (.bool (!opB (p, q))) ∧ Ext w w' := by
 have e0 : opB (p, q) = (opK p && adB q) := rfl
 rw [e0]
 have LD : ∀ {w2 : World}, Blk w2 w.heap.size #[.int .i64 p, .int .i64 q] 69 → w2.cell? ⟨w.heap.size, 0, none⟩ = some (.int .i64 p) ∧ w2.cell? ⟨w.heap.size, 1, none⟩ = some (.int .i64 q) := fun h => ⟨h.cell 0, h.cell 1⟩
 cases hk : opK p with
 | true =>
  go_enter Try.func92, Try.ntmps92
  go_wp2_with (first
   | (refine wl_box (C := #[.int .i64 p, .int .i64 q]) rfl rfl rfl ?_; intro w1 hb1 he1 hx; clear hx; have c0 := (LD hb1).1)
   | (go_at_call 93; refine (isOp_any _ _).mono ?_; rintro e w2 ⟨rfl, he2⟩; have c1 := (LD (hb1.ext he2)).2)
   | (go_at_call 94; refine (isAddr_any _ _).mono ?_; rintro e w3 ⟨rfl, he3⟩))
  go_ret
  exact ⟨by simp, (he1.trans he2).trans he3⟩
 | false =>
  go_enter Try.func92, Try.ntmps92
  go_wp2_with (first
   | (refine wl_box (C := #[.int .i64 p, .int .i64 q]) rfl rfl rfl ?_; intro w1 hb1 he1 hx; clear hx; have c0 := (LD hb1).1)
   | (go_at_call 93; refine (isOp_any _ _).mono ?_; rintro e w2 ⟨rfl, he2⟩; have c1 := (LD (hb1.ext he2)).2))
  go_ret
  exact ⟨by simp, he1.trans he2⟩
theorem not_all_at {α : Type} {f : α → Bool} {L : List α} (d : α) {k : Nat} (hk : k < L.length) (h : f (L.getD k d) = false) : L.all f = false := by
 rw [List.all_eq_false]
 exact ⟨_, getD_mem L d k hk, by rw [h]; simp⟩
theorem all_at {α : Type} {f : α → Bool} {L : List α} (d : α) (h : ∀ j, j < L.length → f (L.getD j d) = true) : L.all f = true := by
 rw [List.all_eq_true]
 intro x hx
 obtain ⟨j, hj, rfl⟩ := List.getElem_of_mem hx
 have := h j hj
 simpa [List.getD_eq_getElem?_getD, hj] using this
/-- What a search answers: where, or -1. -/
def FindIs (w : World) (b : Bool) (e : Ending) (w' : World) : Prop := ∃ i : Int, e = .returned (.int .i64 i) ∧ decide (i ≥ 0) = !b ∧ Ext w w'
set_option maxHeartbeats 2000000 in
theorem indexA_any {w : World} {a : Option Addr} {n cp : Nat} {L : List Int} (h : NumsAt .i64 w (.slice a n cp) L) :
  Calls Try.prog 103 #[.slice a n cp, .func (.func 100) #[] #[]] w (FindIs w (adsB L)) := by
 have HN : Hid (NumsAt .i64 w (.slice a n cp) L ∧ n = L.length) := ⟨h, (nums_len h).1⟩
 have hmx := (nums_len h).2
 unfold maxLen at hmx
 clear h
 go_enter Try.func103, Try.ntmps103
 go_wp2
 go_loopg [8] n (fun gm t wr => ∃ k : Nat, k ≤ n ∧ gm = n - k ∧ t = .int .i64 (k : Int) ∧ Hid (Ext w wr ∧ ∀ j, j < k → adB (L.getD j 0) = true))
 case atStart => exact ⟨0, Nat.zero_le _, rfl, rfl, Ext.refl _, fun j hj => by omega⟩
 case round =>
  obtain ⟨k, hk, rfl, rfl, HR⟩ := hrel
  by_cases hlt : k < n
  ·
   have hd : decide ((k : Int) < (n : Int)) = true := decide_eq_true (by omega)
   have hkL : k < L.length := by rw [← HN.out.2]; exact hlt
   obtain ⟨b, off, rfl, hc⟩ := HN.out.1.cellAt k hkL
   have hc' := HR.out.1.cell hc
   have HX : Hid (∀ j, j = k → L.getD j 0 = L.getD k 0) := fun j h => by rw [h]
   have HKL : Hid (k < L.length) := hkL
   clear hc hkL
   obtain ⟨x, hx⟩ : ∃ x, x = L.getD k 0 := ⟨_, rfl⟩
   rw [← hx] at hc'
   have HXX : Hid (x = L.getD k 0) := hx
   clear hx
   cases hb : adB x with
   | true =>
    go_wp2_with (first
     | (go_at_call 100; refine (addrsC_any _ _).mono ?_; rintro e w2 ⟨rfl, he2⟩; rw [hb]))
    go_roundg (n - (k + 1))
    case measure => omega
    case rel =>
     refine ⟨k + 1, by omega, rfl, by simp, HR.out.1.trans he2, fun j hj => ?_⟩
     by_cases hjk : j = k
     ·
      subst hjk; rw [← HXX.out]; exact hb
     ·
      exact HR.out.2 j (by omega)
   | false =>
    have HF : Hid (adsB L = false) := not_all_at 0 HKL.out (by rw [← HXX.out]; exact hb)
    go_wp2_with (first
     | (go_at_call 100; refine (addrsC_any _ _).mono ?_; rintro e w2 ⟨rfl, he2⟩; rw [hb]))
    go_ret
    exact ⟨_, rfl, by rw [HF.out]; simp, HR.out.1.trans he2⟩
  ·
   have hd : decide ((k : Int) < (n : Int)) = false := decide_eq_false (by omega)
   have HF : Hid (adsB L = true) := all_at 0 (fun j hj => HR.out.2 j (by have := HN.out.2; omega))
   go_wp2
   go_ret
   exact ⟨_, rfl, by rw [HF.out]; rfl, HR.out.1⟩
end Tlv
end Go.Proofs.Ytbahelhohkhkmaa
/- One operation of a region, in one line: its guard, its operands' facts, what it yields. No condition of its own. -/
namespace Go.Proofs.Ytbahelhohkhkmaa
open Go
section
variable {P : Program} {mk : Tmp → Option Nat} {a0 : Act} {V : Nat → Fact} {w0 : World} {i : Nat} {o : Oper}
/-- Under what an operation is carried out. -/
def GdB (V : Nat → Fact) (o : Oper) (C : Bool) : Prop := (o.guard = none ∧ C = true) ∨ ∃ (g : Nat) (want b C0 : Bool), o.guard = some (g, want) ∧ (∀ w y, V g w y → Under C0 (.bool b) w y) ∧ C = (C0 && (b == want))
theorem gd0 (h : o.guard = none) : GdB V o true := .inl ⟨h, rfl⟩
theorem gdU {g : Nat} {want b C : Bool} (h : o.guard = some (g, want)) (hb : ∀ w y, V g w y → y = .bool b) (hC : C = (b == want)) : GdB V o C := .inr ⟨g, want, b, true, h, fun w y hy => (hb w y hy).trans (if_pos rfl).symm, by rw [Bool.true_and]; exact hC⟩
theorem gdN {g : Nat} {want b C0 me : Bool} (h : o.guard = some (g, want)) (hb : ∀ w y, V g w y → y = if C0 = true then .bool b else undef) (hC : me = (b == want)) : GdB V o (C0 && me) := .inr ⟨g, want, b, C0, h, hb, by rw [hC]⟩
/-- What an operation's fact is. -/
def OutB (V : Nat → Fact) (i : Nat) (C : Bool) (v : Value) : Prop := (∀ w, C = true → V i w v) ∧ (∀ w, C = false → V i w undef)
theorem ouI {v : Value} (h : V i = Is v) : OutB V i true v := ⟨fun w _ => by rw [h]; rfl, fun w h => by cases h⟩
theorem ouU {C : Bool} {v : Value} (h : V i = Under C v) : OutB V i C v := ⟨fun w hc => by rw [h]; exact uy hc, fun w hc => by rw [h]; exact un_ hc⟩
theorem good_by {C : Bool} {v : Value} (G : GdB V o C) (O : OutB V i C v) (h : C = true → ∀ (r : Operand → Value) (w : World), Ext w0 w → factsOf mk a0 V r w o.op.operands.toList → (execOp r o).run P w = .ok (.value v) w) : Good P mk a0 Ext V w0 i o := by
 intro r w hR hf
 rcases G with ⟨hg, rfl⟩ | ⟨g, want, b, C0, hg, hb, rfl⟩
 ·
  rw [hg]
  exact gvo (h rfl r w hR hf) ⟨Ext.refl _, O.1 _ rfl⟩
 ·
  rw [hg]
  intro gb hgb
  exact guard_n (hb w gb hgb) rfl (fun hc => gvo (h hc r w hR hf) ⟨Ext.refl _, O.1 _ hc⟩) (fun hc => O.2 _ hc)
theorem ln1 {C : Bool} {x : Operand} {v1 v : Value} (G : GdB V o C) (ho : o.op.operands.toList = [x]) (O : OutB V i C v) (hx : ∀ r w, factOf mk a0 V r w x → C = true → r x = v1) (he : ∀ (r : Operand → Value) (w : World), Ext w0 w → r x = v1 → (execOp r o).run P w = .ok (.value v) w) : Good P mk a0 Ext V w0 i o :=
 good_by G O fun hc r w hR hf => by rw [ho] at hf; exact he r w hR (hx r w hf.1 hc)
theorem ln2 {C : Bool} {x y : Operand} {v1 v2 v : Value} (G : GdB V o C) (ho : o.op.operands.toList = [x, y]) (O : OutB V i C v) (hx : ∀ r w, factOf mk a0 V r w x → C = true → r x = v1) (hy : ∀ r w, factOf mk a0 V r w y → C = true → r y = v2) (he : ∀ (r : Operand → Value) (w : World), Ext w0 w → r x = v1 → r y = v2 → (execOp r o).run P w = .ok (.value v) w) : Good P mk a0 Ext V w0 i o :=
 good_by G O fun hc r w hR hf => by rw [ho] at hf; exact he r w hR (hx r w hf.1 hc) (hy r w hf.2.1 hc)
theorem exec_mv {r : Operand → Value} {w : World} {x : Operand} {v : Value} (ho : o.op = .move x ∨ o.op = .assign x) (h : r x = v) : (execOp r o).run P w = .ok (.value v) w := by
 rcases ho with e | e <;> simp [execOp, e, h, go_sem]
theorem lnA {C b q : Bool} {c x : Operand} (G : GdB V o C) (ho : o.op = .pick c x (.const (.bool false))) (O : OutB V i C (.bool (b && q))) (hc : ∀ r w, factOf mk a0 V r w c → C = true → r c = .bool b) (hx : ∀ r w, factOf mk a0 V r w x → C = true → b = true → r x = .bool q) : Good P mk a0 Ext V w0 i o :=
 good_by G O fun hC r w hR hf => by
  have e : o.op.operands.toList = [c, x, .const (.bool false)] := by rw [ho]; rfl
  rw [e] at hf
  have h1 := hc r w hf.1 hC
  have h2 := hx r w hf.2.1 hC
  have h3 : r (.const (.bool false)) = .bool false := hf.2.2.1
  cases b with
  | true => simp [execOp, ho, h1, h2 rfl, go_sem]
  | false => simp [execOp, ho, h1, h3, go_sem]
theorem lnO {C b q : Bool} {c x : Operand} (G : GdB V o C) (ho : o.op = .pick c (.const (.bool true)) x) (O : OutB V i C (.bool (b || q))) (hc : ∀ r w, factOf mk a0 V r w c → C = true → r c = .bool b) (hx : ∀ r w, factOf mk a0 V r w x → C = true → b = false → r x = .bool q) : Good P mk a0 Ext V w0 i o :=
 good_by G O fun hC r w hR hf => by
  have e : o.op.operands.toList = [c, .const (.bool true), x] := by rw [ho]; rfl
  rw [e] at hf
  have h1 := hc r w hf.1 hC
  have h2 := hx r w hf.2.2.1 hC
  have h3 : r (.const (.bool true)) = .bool true := hf.2.1
  cases b with
  | true => simp [execOp, ho, h1, h3, go_sem]
  | false => simp [execOp, ho, h1, h2 rfl, go_sem]
theorem lr1 {R : World → World → Prop} {x : Operand} {v1 v : Value} (hRf : ∀ w, R w w) (hg : o.guard = none) (ho : o.op.operands.toList = [x]) (hV : V i = Is v) (hx : ∀ r w, factOf mk a0 V r w x → r x = v1) (he : ∀ (r : Operand → Value) (w : World), R w0 w → r x = v1 → (execOp r o).run P w = .ok (.value v) w) : Good P mk a0 R V w0 i o := by
 intro r w hR hf
 rw [hg]
 rw [ho] at hf
 exact gvo (he r w hR (hx r w hf.1)) ⟨hRf _, by rw [hV]; rfl⟩
theorem lr2 {R : World → World → Prop} {x y : Operand} {v1 v2 v : Value} (hRf : ∀ w, R w w) (hg : o.guard = none) (ho : o.op.operands.toList = [x, y]) (hV : V i = Is v) (hx : ∀ r w, factOf mk a0 V r w x → r x = v1) (hy : ∀ r w, factOf mk a0 V r w y → r y = v2) (he : ∀ (r : Operand → Value) (w : World), R w0 w → r x = v1 → r y = v2 → (execOp r o).run P w = .ok (.value v) w) : Good P mk a0 R V w0 i o := by
 intro r w hR hf
 rw [hg]
 rw [ho] at hf
 exact gvo (he r w hR (hx r w hf.1) (hy r w hf.2.1)) ⟨hRf _, by rw [hV]; rfl⟩
end
end Go.Proofs.Ytbahelhohkhkmaa
/- Lists that are equal; pieces that are the same. No condition of its own. -/
namespace Go.Proofs.Ytbahelhohkhkmaa
namespace Tlv
open Go Go.RowKit
set_option maxRecDepth 100000
theorem equal_any {w : World} {v u : Value} {l m : List Nat} (hv : BytesAt w v l) (hu : BytesAt w u m) :
  Calls Try.prog 43 #[v, u] w fun e w' => e = .returned (.bool (decide (l = m))) ∧ Ext w w' := by
 have h1 := run_string_bytes byteT strT w _ _ hv
 have h2 := run_string_bytes byteT strT w _ _ hu
 have h3 := strOf_beq l m hv.1 hu.1
 obtain ⟨_, _, rfl, _⟩ := hv.form
 obtain ⟨_, _, rfl, _⟩ := hu.form
 clear hv hu
 go_enter Try.func43, Try.ntmps43
 go_wp2
 go_ret
 exact ⟨rfl, Ext.refl _⟩
abbrev sp_0 (c d : Ck) : Bool := ((((c.ptsn : Int) : Int) == ((d.ptsn : Int) : Int)) && ((((c.pstr : Int) : Int) == ((d.pstr : Int) : Int))))
abbrev sp_1 (c d : Ck) : Bool := ((sp_0 c d) && ((((c.pseq : Int) : Int) == ((d.pseq : Int) : Int))))
abbrev sp_2 (c d : Ck) : Bool := ((sp_1 c d) && (((c.pb) == (d.pb))))
abbrev sp_3 (c d : Ck) : Bool := ((sp_2 c d) && (((c.pe) == (d.pe))))
abbrev sp_4 (c d : Ck) : Bool := ((sp_3 c d) && (((c.pu) == (d.pu))))
abbrev sp_5 (c d : Ck) : Bool := ((sp_4 c d) && ((decide (c.text = d.text))))
def samePB (c d : Ck) : Bool := (((((((((c.ptsn : Int) : Int) == ((d.ptsn : Int) : Int)) && ((((c.pstr : Int) : Int) == ((d.pstr : Int) : Int)))) && ((((c.pseq : Int) : Int) == ((d.pseq : Int) : Int)))) && (((c.pb) == (d.pb)))) && (((c.pe) == (d.pe)))) && (((c.pu) == (d.pu)))) && ((decide (c.text = d.text))))
set_option maxHeartbeats 4000000 in
theorem samePiece_any {w : World} {c d : Ck} {s u : Sv} (ha : BytesAt w (.slice s.tA s.tN s.tC) c.text) (hb : BytesAt w (.slice u.tA u.tN u.tC) d.text) :
  Calls Try.prog 56 #[.agg (PV c s), .agg (PV d u)] w fun e w' => e = .returned (.bool (samePB c d)) ∧ Ext w w' := by
 unfold samePB
 go_enter Try.func56, Try.ntmps56
 go_wp2_with (first
  | (have q := he1; clear q; refine wl_box (C := PV d u) rfl rfl rfl ?_; intro w2 hb2 he2 hx; clear hx; have hb1' := hb1.ext he2)
  | (refine wl_box (C := PV c s) rfl rfl rfl ?_; intro w1 hb1 he1 hx; clear hx)
  | (refine stop_at 48 rfl ?_))
 refine ⟨?_⟩
 refine wpList_line 0 (fun t => bif Nat.ble 5 t && Nat.ble t 51 then some (t - 5) else bif Nat.beq t 4 then some 47 else none) 52 Ext
  [Is (.pointer (some ⟨w.heap.size, 0, none⟩)),
   Is (.int .u32 (c.ptsn : Int)),
   Is (.pointer (some ⟨w1.heap.size, 0, none⟩)),
   Is (.int .u32 (d.ptsn : Int)),
   Is (.bool (((c.ptsn : Int) : Int) == ((d.ptsn : Int) : Int))),
   Is (.bool (((c.ptsn : Int) : Int) == ((d.ptsn : Int) : Int))),
   Under (((((c.ptsn : Int) : Int) == ((d.ptsn : Int) : Int)))) (.pointer (some ⟨w.heap.size, 1, none⟩)),
   Under (((((c.ptsn : Int) : Int) == ((d.ptsn : Int) : Int)))) (.int .u16 (c.pstr : Int)),
   Under (((((c.ptsn : Int) : Int) == ((d.ptsn : Int) : Int)))) (.pointer (some ⟨w1.heap.size, 1, none⟩)),
   Under (((((c.ptsn : Int) : Int) == ((d.ptsn : Int) : Int)))) (.int .u16 (d.pstr : Int)),
   Under (((((c.ptsn : Int) : Int) == ((d.ptsn : Int) : Int)))) (.bool (((c.pstr : Int) : Int) == ((d.pstr : Int) : Int))),
   Is (.bool (sp_0 c d)),
   Is (.bool (sp_0 c d)),
   Under (((sp_0 c d))) (.pointer (some ⟨w.heap.size, 2, none⟩)),
   Under (((sp_0 c d))) (.int .u16 (c.pseq : Int)),
   Under (((sp_0 c d))) (.pointer (some ⟨w1.heap.size, 2, none⟩)),
   Under (((sp_0 c d))) (.int .u16 (d.pseq : Int)),
   Under (((sp_0 c d))) (.bool (((c.pseq : Int) : Int) == ((d.pseq : Int) : Int))),
   Is (.bool (sp_1 c d)),
   Is (.bool (sp_1 c d)),
   Under (((sp_1 c d))) (.pointer (some ⟨w.heap.size, 3, none⟩)),
   Under (((sp_1 c d))) (.bool c.pb),
   Under (((sp_1 c d))) (.pointer (some ⟨w1.heap.size, 3, none⟩)),
   Under (((sp_1 c d))) (.bool d.pb),
   Under (((sp_1 c d))) (.bool ((c.pb) == (d.pb))),
   Is (.bool (sp_2 c d)),
   Is (.bool (sp_2 c d)),
   Under (((sp_2 c d))) (.pointer (some ⟨w.heap.size, 4, none⟩)),
   Under (((sp_2 c d))) (.bool c.pe),
   Under (((sp_2 c d))) (.pointer (some ⟨w1.heap.size, 4, none⟩)),
   Under (((sp_2 c d))) (.bool d.pe),
   Under (((sp_2 c d))) (.bool ((c.pe) == (d.pe))),
   Is (.bool (sp_3 c d)),
   Is (.bool (sp_3 c d)),
   Under (((sp_3 c d))) (.pointer (some ⟨w.heap.size, 5, none⟩)),
   Under (((sp_3 c d))) (.bool c.pu),
   Under (((sp_3 c d))) (.pointer (some ⟨w1.heap.size, 5, none⟩)),
   Under (((sp_3 c d))) (.bool d.pu),
   Under (((sp_3 c d))) (.bool ((c.pu) == (d.pu))),
   Is (.bool (sp_4 c d)),
   Is (.bool (sp_4 c d)),
   Under (((sp_4 c d))) (.pointer (some ⟨w.heap.size, 6, none⟩)),
   Under (((sp_4 c d))) (.slice s.tA s.tN s.tC),
   Under (((sp_4 c d))) (.pointer (some ⟨w1.heap.size, 6, none⟩)),
   Under (((sp_4 c d))) (.slice u.tA u.tN u.tC),
   Under (((sp_4 c d))) (.bool (decide (c.text = d.text))),
   Is (.bool (sp_5 c d)),
   Is (.bool (sp_5 c d))]
  rfl (by kernel_rfl) rfl Ext.refl (fun _ _ _ => Ext.trans) (Ks (Ks (Ks (Ks (Ks (Ks (Ku (Ku (Ku (Ku (Ku (Ks (Ks (Ku (Ku (Ku (Ku (Ku (Ks (Ks (Ku (Ku (Ku (Ku (Ku (Ks (Ks (Ku (Ku (Ku (Ku (Ku (Ks (Ks (Ku (Ku (Ku (Ku (Ku (Ks (Ks (Ku (Ku (Ku (Ku (Ku (Ks (Ks (KeepAll.nil))))))))))))))))))))))))))))))))))))))))))))))))) ?_ ?_ ?_
 ·
  intro i o hi ho
  exact absurd hi (by omega)
 ·
  refine goodFrom 0 ?_
  refine Gc (ln1 (gd0 rfl) rfl (ouI rfl) (fun _ _ h _ => h) (fun r wx hR h1 => by simp [execOp, h1, go_sem])) ?_
  refine Gc (ln1 (gd0 rfl) rfl (ouI rfl) (fun _ _ h _ => h) (fun r wx hR h1 => exg one22 rfl h1 (pv0 (hb1'.ext hR)))) ?_
  refine Gc (ln1 (gd0 rfl) rfl (ouI rfl) (fun _ _ h _ => h) (fun r wx hR h1 => by simp [execOp, h1, go_sem])) ?_
  refine Gc (ln1 (gd0 rfl) rfl (ouI rfl) (fun _ _ h _ => h) (fun r wx hR h1 => exg one22 rfl h1 (pv0 (hb2.ext hR)))) ?_
  refine Gc (ln2 (gd0 rfl) rfl (ouI rfl) (fun _ _ h _ => h) (fun _ _ h _ => h) (fun r wx hR h1 h2 => by simp [execOp, h1, h2, go_sem])) ?_
  refine Gc (ln1 (gd0 rfl) rfl (ouI rfl) (fun _ _ h _ => h) (fun r wx hR h1 => exec_mv (.inl rfl) h1)) ?_
  refine Gc (ln1 (gdU rfl (fun _ _ h => h) (want_t _)) rfl (ouU rfl) (fun _ _ h _ => h) (fun r wx hR h1 => by simp [execOp, h1, go_sem])) ?_
  refine Gc (ln1 (gdU rfl (fun _ _ h => h) (want_t _)) rfl (ouU rfl) (fun _ _ h c => Eq.trans h (if_pos c)) (fun r wx hR h1 => exg one23 rfl h1 (pv1 (hb1'.ext hR)))) ?_
  refine Gc (ln1 (gdU rfl (fun _ _ h => h) (want_t _)) rfl (ouU rfl) (fun _ _ h _ => h) (fun r wx hR h1 => by simp [execOp, h1, go_sem])) ?_
  refine Gc (ln1 (gdU rfl (fun _ _ h => h) (want_t _)) rfl (ouU rfl) (fun _ _ h c => Eq.trans h (if_pos c)) (fun r wx hR h1 => exg one23 rfl h1 (pv1 (hb2.ext hR)))) ?_
  refine Gc (ln2 (gdU rfl (fun _ _ h => h) (want_t _)) rfl (ouU rfl) (fun _ _ h c => Eq.trans h (if_pos c)) (fun _ _ h c => Eq.trans h (if_pos c)) (fun r wx hR h1 h2 => by simp [execOp, h1, h2, go_sem])) ?_
  refine Gc (lnA (gd0 rfl) rfl (ouI rfl) (fun _ _ h _ => h) (fun _ _ h c hb => Eq.trans h (if_pos (by first | exact hb | (rw [hb]; rfl) | (rw [c, hb]; rfl))))) ?_
  refine Gc (ln1 (gd0 rfl) rfl (ouI rfl) (fun _ _ h _ => h) (fun r wx hR h1 => exec_mv (.inl rfl) h1)) ?_
  refine Gc (ln1 (gdU rfl (fun _ _ h => h) (want_t _)) rfl (ouU rfl) (fun _ _ h _ => h) (fun r wx hR h1 => by simp [execOp, h1, go_sem])) ?_
  refine Gc (ln1 (gdU rfl (fun _ _ h => h) (want_t _)) rfl (ouU rfl) (fun _ _ h c => Eq.trans h (if_pos c)) (fun r wx hR h1 => exg one23 rfl h1 (pv2 (hb1'.ext hR)))) ?_
  refine Gc (ln1 (gdU rfl (fun _ _ h => h) (want_t _)) rfl (ouU rfl) (fun _ _ h _ => h) (fun r wx hR h1 => by simp [execOp, h1, go_sem])) ?_
  refine Gc (ln1 (gdU rfl (fun _ _ h => h) (want_t _)) rfl (ouU rfl) (fun _ _ h c => Eq.trans h (if_pos c)) (fun r wx hR h1 => exg one23 rfl h1 (pv2 (hb2.ext hR)))) ?_
  refine Gc (ln2 (gdU rfl (fun _ _ h => h) (want_t _)) rfl (ouU rfl) (fun _ _ h c => Eq.trans h (if_pos c)) (fun _ _ h c => Eq.trans h (if_pos c)) (fun r wx hR h1 h2 => by simp [execOp, h1, h2, go_sem])) ?_
  refine Gc (lnA (gd0 rfl) rfl (ouI rfl) (fun _ _ h _ => h) (fun _ _ h c hb => Eq.trans h (if_pos (by first | exact hb | (rw [hb]; rfl) | (rw [c, hb]; rfl))))) ?_
  refine Gc (ln1 (gd0 rfl) rfl (ouI rfl) (fun _ _ h _ => h) (fun r wx hR h1 => exec_mv (.inl rfl) h1)) ?_
  refine Gc (ln1 (gdU rfl (fun _ _ h => h) (want_t _)) rfl (ouU rfl) (fun _ _ h _ => h) (fun r wx hR h1 => by simp [execOp, h1, go_sem])) ?_
  refine Gc (ln1 (gdU rfl (fun _ _ h => h) (want_t _)) rfl (ouU rfl) (fun _ _ h c => Eq.trans h (if_pos c)) (fun r wx hR h1 => exg one4 rfl h1 (pv3 (hb1'.ext hR)))) ?_
  refine Gc (ln1 (gdU rfl (fun _ _ h => h) (want_t _)) rfl (ouU rfl) (fun _ _ h _ => h) (fun r wx hR h1 => by simp [execOp, h1, go_sem])) ?_
  refine Gc (ln1 (gdU rfl (fun _ _ h => h) (want_t _)) rfl (ouU rfl) (fun _ _ h c => Eq.trans h (if_pos c)) (fun r wx hR h1 => exg one4 rfl h1 (pv3 (hb2.ext hR)))) ?_
  refine Gc (ln2 (gdU rfl (fun _ _ h => h) (want_t _)) rfl (ouU rfl) (fun _ _ h c => Eq.trans h (if_pos c)) (fun _ _ h c => Eq.trans h (if_pos c)) (fun r wx hR h1 h2 => by simp [execOp, h1, h2, go_sem])) ?_
  refine Gc (lnA (gd0 rfl) rfl (ouI rfl) (fun _ _ h _ => h) (fun _ _ h c hb => Eq.trans h (if_pos (by first | exact hb | (rw [hb]; rfl) | (rw [c, hb]; rfl))))) ?_
  refine Gc (ln1 (gd0 rfl) rfl (ouI rfl) (fun _ _ h _ => h) (fun r wx hR h1 => exec_mv (.inl rfl) h1)) ?_
  refine Gc (ln1 (gdU rfl (fun _ _ h => h) (want_t _)) rfl (ouU rfl) (fun _ _ h _ => h) (fun r wx hR h1 => by simp [execOp, h1, go_sem])) ?_
  refine Gc (ln1 (gdU rfl (fun _ _ h => h) (want_t _)) rfl (ouU rfl) (fun _ _ h c => Eq.trans h (if_pos c)) (fun r wx hR h1 => exg one4 rfl h1 (pv4 (hb1'.ext hR)))) ?_
  refine Gc (ln1 (gdU rfl (fun _ _ h => h) (want_t _)) rfl (ouU rfl) (fun _ _ h _ => h) (fun r wx hR h1 => by simp [execOp, h1, go_sem])) ?_
  refine Gc (ln1 (gdU rfl (fun _ _ h => h) (want_t _)) rfl (ouU rfl) (fun _ _ h c => Eq.trans h (if_pos c)) (fun r wx hR h1 => exg one4 rfl h1 (pv4 (hb2.ext hR)))) ?_
  refine Gc (ln2 (gdU rfl (fun _ _ h => h) (want_t _)) rfl (ouU rfl) (fun _ _ h c => Eq.trans h (if_pos c)) (fun _ _ h c => Eq.trans h (if_pos c)) (fun r wx hR h1 h2 => by simp [execOp, h1, h2, go_sem])) ?_
  refine Gc (lnA (gd0 rfl) rfl (ouI rfl) (fun _ _ h _ => h) (fun _ _ h c hb => Eq.trans h (if_pos (by first | exact hb | (rw [hb]; rfl) | (rw [c, hb]; rfl))))) ?_
  refine Gc (ln1 (gd0 rfl) rfl (ouI rfl) (fun _ _ h _ => h) (fun r wx hR h1 => exec_mv (.inl rfl) h1)) ?_
  refine Gc (ln1 (gdU rfl (fun _ _ h => h) (want_t _)) rfl (ouU rfl) (fun _ _ h _ => h) (fun r wx hR h1 => by simp [execOp, h1, go_sem])) ?_
  refine Gc (ln1 (gdU rfl (fun _ _ h => h) (want_t _)) rfl (ouU rfl) (fun _ _ h c => Eq.trans h (if_pos c)) (fun r wx hR h1 => exg one4 rfl h1 (pv5 (hb1'.ext hR)))) ?_
  refine Gc (ln1 (gdU rfl (fun _ _ h => h) (want_t _)) rfl (ouU rfl) (fun _ _ h _ => h) (fun r wx hR h1 => by simp [execOp, h1, go_sem])) ?_
  refine Gc (ln1 (gdU rfl (fun _ _ h => h) (want_t _)) rfl (ouU rfl) (fun _ _ h c => Eq.trans h (if_pos c)) (fun r wx hR h1 => exg one4 rfl h1 (pv5 (hb2.ext hR)))) ?_
  refine Gc (ln2 (gdU rfl (fun _ _ h => h) (want_t _)) rfl (ouU rfl) (fun _ _ h c => Eq.trans h (if_pos c)) (fun _ _ h c => Eq.trans h (if_pos c)) (fun r wx hR h1 h2 => by simp [execOp, h1, h2, go_sem])) ?_
  refine Gc (lnA (gd0 rfl) rfl (ouI rfl) (fun _ _ h _ => h) (fun _ _ h c hb => Eq.trans h (if_pos (by first | exact hb | (rw [hb]; rfl) | (rw [c, hb]; rfl))))) ?_
  refine Gc (ln1 (gd0 rfl) rfl (ouI rfl) (fun _ _ h _ => h) (fun r wx hR h1 => exec_mv (.inl rfl) h1)) ?_
  refine Gc (ln1 (gdU rfl (fun _ _ h => h) (want_t _)) rfl (ouU rfl) (fun _ _ h _ => h) (fun r wx hR h1 => by simp [execOp, h1, go_sem])) ?_
  refine Gc (ln1 (gdU rfl (fun _ _ h => h) (want_t _)) rfl (ouU rfl) (fun _ _ h c => Eq.trans h (if_pos c)) (fun r wx hR h1 => exg oneS rfl h1 (pv6 (hb1'.ext hR)))) ?_
  refine Gc (ln1 (gdU rfl (fun _ _ h => h) (want_t _)) rfl (ouU rfl) (fun _ _ h _ => h) (fun r wx hR h1 => by simp [execOp, h1, go_sem])) ?_
  refine Gc (ln1 (gdU rfl (fun _ _ h => h) (want_t _)) rfl (ouU rfl) (fun _ _ h c => Eq.trans h (if_pos c)) (fun r wx hR h1 => exg oneS rfl h1 (pv6 (hb2.ext hR)))) ?_
  refine Gc ?_ ?_
  ·
   rintro r wx hR ⟨h1, h2, h3, _⟩
   replace h1 : r (.func 43) = .func (.func 43) #[] #[] := h1
   replace h2 : Under (((sp_4 c d))) (.slice s.tA s.tN s.tC) wx (r (.tmp 47)) := h2
   replace h3 : Under (((sp_4 c d))) (.slice u.tA u.tN u.tC) wx (r (.tmp 49)) := h3
   intro gb hgb
   refine guard_u (C := ((sp_4 c d))) (b := (sp_4 c d)) (want := true) hgb (want_t _) (fun hc => ?_) (fun hc => un_ hc)
   replace h2 := h2.get hc
   replace h3 := h3.get hc
   refine give_func #[.slice s.tA s.tN s.tC, .slice u.tA u.tN u.tC] rfl h1 Try.call43 (by simp [h2, h3]) ?_
   refine (equal_any ((ha.ext (he1.trans he2)).ext hR) ((hb.ext (he1.trans he2)).ext hR)).mono ?_
   rintro e wz ⟨rfl, hez⟩
   exact ⟨_, rfl, hez, uy hc⟩
  refine Gc (lnA (gd0 rfl) rfl (ouI rfl) (fun _ _ h _ => h) (fun _ _ h c hb => Eq.trans h (if_pos (by first | exact hb | (rw [hb]; rfl) | (rw [c, hb]; rfl))))) ?_
  refine Gc (ln1 (gd0 rfl) rfl (ouI rfl) (fun _ _ h _ => h) (fun r wx hR h1 => exec_mv (.inr rfl) h1)) ?_
  exact GoodAll.nil
 ·
  intro vs wE aE hR hold haE
  have hv : vs 47 = .bool (((((((((c.ptsn : Int) : Int) == ((d.ptsn : Int) : Int)) && ((((c.pstr : Int) : Int) == ((d.pstr : Int) : Int)))) && ((((c.pseq : Int) : Int) == ((d.pseq : Int) : Int)))) && (((c.pb) == (d.pb)))) && (((c.pe) == (d.pe)))) && (((c.pu) == (d.pu)))) && ((decide (c.text = d.text)))) := hold.at 47
  refine ‹∀ (a : Act) (w : World), Code.wp Try.prog Code.ret _ a w → _› _ _ ?_
  refine wp_ret ?_
  have hs : aE.tmps[4]? = some (.bool (((((((((c.ptsn : Int) : Int) == ((d.ptsn : Int) : Int)) && ((((c.pstr : Int) : Int) == ((d.pstr : Int) : Int)))) && ((((c.pseq : Int) : Int) == ((d.pseq : Int) : Int)))) && (((c.pb) == (d.pb)))) && (((c.pe) == (d.pe)))) && (((c.pu) == (d.pu)))) && ((decide (c.text = d.text))))) := by rw [haE, ← hv]; kernel_rfl
  have hdf : aE.defers = [] := by rw [haE]; exact putAll_defers _ _ _ _
  clear haE
  refine bodyPost_ret (v := .bool (((((((((c.ptsn : Int) : Int) == ((d.ptsn : Int) : Int)) && ((((c.pstr : Int) : Int) == ((d.pstr : Int) : Int)))) && ((((c.pseq : Int) : Int) == ((d.pseq : Int) : Int)))) && (((c.pb) == (d.pb)))) && (((c.pe) == (d.pe)))) && (((c.pu) == (d.pu)))) && ((decide (c.text = d.text))))) ?_ hdf ⟨rfl, (he1.trans he2).trans hR⟩
  simp [results, Try.results56, go_sem, hs]
set_option maxRecDepth 100000
theorem list_same {α : Type} (d : α) {l m : List α} (hl : l.length = m.length) (h : ∀ j, j < l.length → l.getD j d = m.getD j d) : l = m := by
 apply List.ext_getElem hl
 intro j h1 h2
 have := h j h1
 simpa [List.getD_eq_getElem?_getD, h1, h2] using this
set_option maxHeartbeats 2000000 in
theorem eqA_any {w : World} {a : Option Addr} {n cp : Nat} {a' : Option Addr} {n' cp' : Nat} {l m : List Int} (h : NumsAt .i64 w (.slice a n cp) l) (h' : NumsAt .i64 w (.slice a' n' cp') m) :
  Calls Try.prog 57 #[.slice a n cp, .slice a' n' cp'] w fun e w' => e = .returned (.bool (decide (l = m))) ∧ Ext w w' := by
 have H : Hid (NumsAt .i64 w (.slice a n cp) l ∧ NumsAt .i64 w (.slice a' n' cp') m ∧ n = l.length ∧ n' = m.length) := ⟨h, h', (nums_len h).1, (nums_len h').1⟩
 have hmx := (nums_len h).2
 have hmx' := (nums_len h').2
 unfold maxLen at hmx hmx'
 clear h h'
 by_cases hn : n = n'
 case neg =>
  have hd : ((n : Int) != (n' : Int)) = true := by simp; omega
  have HF : Hid (decide (l = m) = false) := decide_eq_false (fun e => hn (by rw [H.out.2.2.1, H.out.2.2.2, e]))
  go_enter Try.func57, Try.ntmps57
  go_wp2
  go_ret
  exact ⟨by rw [HF.out]; rfl, Ext.refl _⟩
 subst hn
 go_enter Try.func57, Try.ntmps57
 go_wp2
 go_loopg [13] n (fun gm t wr => ∃ k : Nat, k ≤ n ∧ gm = n - k ∧ t = .int .i64 (k : Int) ∧ Hid (Ext w wr ∧ ∀ j, j < k → l.getD j 0 = m.getD j 0))
 case atStart => exact ⟨0, Nat.zero_le _, rfl, rfl, Ext.refl _, fun j hj => by omega⟩
 case round =>
  obtain ⟨k, hk, rfl, rfl, HR⟩ := hrel
  by_cases hlt : k < n
  ·
   have hd : decide ((k : Int) < (n : Int)) = true := decide_eq_true (by omega)
   obtain ⟨b, off, rfl, hc⟩ := H.out.1.cellAt k (by rw [← H.out.2.2.1]; exact hlt)
   obtain ⟨b', off', rfl, hc'⟩ := H.out.2.1.cellAt k (by rw [← H.out.2.2.2]; exact hlt)
   replace hc := HR.out.1.cell hc
   replace hc' := HR.out.1.cell hc'
   obtain ⟨x, hx⟩ : ∃ x, x = l.getD k 0 := ⟨_, rfl⟩
   obtain ⟨y, hy⟩ : ∃ y, y = m.getD k 0 := ⟨_, rfl⟩
   rw [← hx] at hc
   rw [← hy] at hc'
   have HX : Hid (x = l.getD k 0 ∧ y = m.getD k 0) := ⟨hx, hy⟩
   clear hx hy
   by_cases hxy : x = y
   ·
    subst hxy
    have HX2 : Hid (l.getD k 0 = m.getD k 0) := HX.out.1.symm.trans HX.out.2
    clear HX
    go_wp2_with fail
    go_quiet (fail)
    go_wp2
    go_roundg (n - (k + 1))
    case measure => omega
    case rel =>
     refine ⟨k + 1, by omega, rfl, by simp, HR.out.1.trans (Ext.drewN _ _), fun j hj => ?_⟩
     by_cases hjk : j = k
     ·
      subst hjk; exact HX2.out
     ·
      exact HR.out.2 j (by omega)
   ·
    have hd2 : (x != y) = true := by simpa using hxy
    have hd3 : (x == y) = false := by simpa using hxy
    have hd4 : decide (x = y) = false := by simpa using hxy
    have HF : Hid (decide (l = m) = false) := decide_eq_false (fun e => hxy (by rw [HX.out.1, HX.out.2, e]))
    clear HX
    go_wp2_with fail
    go_quiet (fail)
    go_wp2
    go_ret
    exact ⟨by rw [HF.out]; rfl, HR.out.1.trans (Ext.drewN _ _)⟩
  ·
   have hd : decide ((k : Int) < (n : Int)) = false := decide_eq_false (by omega)
   have HF : Hid (decide (l = m) = true) := decide_eq_true (list_same 0 (by rw [← H.out.2.2.1, ← H.out.2.2.2]) (fun j hj => HR.out.2 j (by have := H.out.2.2.1; omega)))
   go_wp2
   go_ret
   exact ⟨by rw [HF.out]; rfl, HR.out.1⟩
set_option maxHeartbeats 2000000 in
theorem eqD_any {w : World} {a : Option Addr} {n cp : Nat} {a' : Option Addr} {n' cp' : Nat} {l m : List Int} (h : NumsAt .u32 w (.slice a n cp) l) (h' : NumsAt .u32 w (.slice a' n' cp') m) :
  Calls Try.prog 59 #[.slice a n cp, .slice a' n' cp'] w fun e w' => e = .returned (.bool (decide (l = m))) ∧ Ext w w' := by
 have H : Hid (NumsAt .u32 w (.slice a n cp) l ∧ NumsAt .u32 w (.slice a' n' cp') m ∧ n = l.length ∧ n' = m.length) := ⟨h, h', (nums_len h).1, (nums_len h').1⟩
 have hmx := (nums_len h).2
 have hmx' := (nums_len h').2
 unfold maxLen at hmx hmx'
 clear h h'
 by_cases hn : n = n'
 case neg =>
  have hd : ((n : Int) != (n' : Int)) = true := by simp; omega
  have HF : Hid (decide (l = m) = false) := decide_eq_false (fun e => hn (by rw [H.out.2.2.1, H.out.2.2.2, e]))
  go_enter Try.func59, Try.ntmps59
  go_wp2
  go_ret
  exact ⟨by rw [HF.out]; rfl, Ext.refl _⟩
 subst hn
 go_enter Try.func59, Try.ntmps59
 go_wp2
 go_loopg [13] n (fun gm t wr => ∃ k : Nat, k ≤ n ∧ gm = n - k ∧ t = .int .i64 (k : Int) ∧ Hid (Ext w wr ∧ ∀ j, j < k → l.getD j 0 = m.getD j 0))
 case atStart => exact ⟨0, Nat.zero_le _, rfl, rfl, Ext.refl _, fun j hj => by omega⟩
 case round =>
  obtain ⟨k, hk, rfl, rfl, HR⟩ := hrel
  by_cases hlt : k < n
  ·
   have hd : decide ((k : Int) < (n : Int)) = true := decide_eq_true (by omega)
   obtain ⟨b, off, rfl, hc⟩ := H.out.1.cellAt k (by rw [← H.out.2.2.1]; exact hlt)
   obtain ⟨b', off', rfl, hc'⟩ := H.out.2.1.cellAt k (by rw [← H.out.2.2.2]; exact hlt)
   replace hc := HR.out.1.cell hc
   replace hc' := HR.out.1.cell hc'
   obtain ⟨x, hx⟩ : ∃ x, x = l.getD k 0 := ⟨_, rfl⟩
   obtain ⟨y, hy⟩ : ∃ y, y = m.getD k 0 := ⟨_, rfl⟩
   rw [← hx] at hc
   rw [← hy] at hc'
   have HX : Hid (x = l.getD k 0 ∧ y = m.getD k 0) := ⟨hx, hy⟩
   clear hx hy
   by_cases hxy : x = y
   ·
    subst hxy
    have HX2 : Hid (l.getD k 0 = m.getD k 0) := HX.out.1.symm.trans HX.out.2
    clear HX
    go_wp2_with fail
    go_quiet (fail)
    go_wp2
    go_roundg (n - (k + 1))
    case measure => omega
    case rel =>
     refine ⟨k + 1, by omega, rfl, by simp, HR.out.1.trans (Ext.drewN _ _), fun j hj => ?_⟩
     by_cases hjk : j = k
     ·
      subst hjk; exact HX2.out
     ·
      exact HR.out.2 j (by omega)
   ·
    have hd2 : (x != y) = true := by simpa using hxy
    have hd3 : (x == y) = false := by simpa using hxy
    have hd4 : decide (x = y) = false := by simpa using hxy
    have HF : Hid (decide (l = m) = false) := decide_eq_false (fun e => hxy (by rw [HX.out.1, HX.out.2, e]))
    clear HX
    go_wp2_with fail
    go_quiet (fail)
    go_wp2
    go_ret
    exact ⟨by rw [HF.out]; rfl, HR.out.1.trans (Ext.drewN _ _)⟩
  ·
   have hd : decide ((k : Int) < (n : Int)) = false := decide_eq_false (by omega)
   have HF : Hid (decide (l = m) = true) := decide_eq_true (list_same 0 (by rw [← H.out.2.2.1, ← H.out.2.2.2]) (fun j hj => HR.out.2 j (by have := H.out.2.2.1; omega)))
   go_wp2
   go_ret
   exact ⟨by rw [HF.out]; rfl, HR.out.1⟩
set_option maxRecDepth 100000
/-- A type of two whole numbers that may be compared. -/
structure PairEq (t : TypeId) : Prop where
 u : Try.prog.underlying t = some (.struct (Try.prog.fieldsOf t))
 gd : Try.prog.eqGuardType Try.prog.depth t = false
 hd : Try.prog.stoodInHeld t = false
 fo : (Try.prog.fieldsOf t).toList.map (fun f => f.offset) = [0, 1]
 fa : (Try.prog.fieldsOf t).toList.map (fun f => decide (f.name = "_")) = [false, false]
 fy : (Try.prog.fieldsOf t).toList.map (fun f => f.type == 3 || f.type == 65) = [true, true]
theorem two_of {α : Type} : ∀ {L : List α}, L.length = 2 → ∃ f g, L = [f, g]
 | [f, g], _ => ⟨f, g, rfl⟩
 | [], h => by cases h
 | [_], h => by cases h
 | _ :: _ :: _ :: _, h => by simp at h
theorem equal_pair {t : TypeId} (hT : PairEq t) (w : World) (a b c d : Int) :
  (Op.equal t (.agg #[.int .i64 a, .int .i64 b]) (.agg #[.int .i64 c, .int .i64 d])).run Try.prog w = .ok (a == c && b == d) w := by
 show (Op.equalIn (9999 + 1) t _ _).run Try.prog w = _
 rw [run_equalIn_struct w 9999 t _ _ hT.u hT.hd]
 have h1 := hT.fo
 have h2 := hT.fa
 have h3 := hT.fy
 clear hT
 generalize (Try.prog.fieldsOf t).toList = L at *
 have hl : L.length = 2 := by simpa using congrArg List.length h1
 obtain ⟨f, g, rfl⟩ := two_of hl
 clear hl
 simp only [List.map_cons, List.map_nil, List.cons.injEq, and_true] at h1 h2 h3
 obtain ⟨f1, g1⟩ := h1
 have f2 : f.name ≠ "_" := of_decide_eq_false h2.1
 have g2 : g.name ≠ "_" := of_decide_eq_false h2.2
 have f3 := h3.1
 have g3 := h3.2
 rw [Bool.or_eq_true, beq_iff_eq, beq_iff_eq] at f3 g3
 have u3 := Try.underlying3
 have u65 := Try.underlying65
 have s3 : (Try.prog.info? 3).map (·.size) = some 1 := by kernel_rfl
 have s65 : (Try.prog.info? 65).map (·.size) = some 1 := by kernel_rfl
 have hf : Try.prog.underlying f.type = some (.int .i64) := by rcases f3 with h | h <;> rw [h] <;> assumption
 have hg : Try.prog.underlying g.type = some (.int .i64) := by rcases g3 with h | h <;> rw [h] <;> assumption
 have sf : (Try.prog.info? f.type).map (·.size) = some 1 := by rcases f3 with h | h <;> rw [h] <;> assumption
 have sg : (Try.prog.info? g.type).map (·.size) = some 1 := by rcases g3 with h | h <;> rw [h] <;> assumption
 cases hqf : Try.prog.info? f.type with
 | none => simp [hqf] at sf
 | some i =>
  cases hqg : Try.prog.info? g.type with
  | none => simp [hqg] at sg
  | some j =>
   have hi : i.size = 1 := by simpa [hqf] using sf
   have hj : j.size = 1 := by simpa [hqg] using sg
   have hqf' : (isAgg f.type).run Try.prog w = .ok false w := by unfold isAgg; rw [Sem.run_bind, run_underlying hf w]; rfl
   have hqg' : (isAgg g.type).run Try.prog w = .ok false w := by unfold isAgg; rw [Sem.run_bind, run_underlying hg w]; rfl
   simp [Op.eqFields, f1, f2, g1, g2, part, sizeOf, typeInfo, hqf, hqg, hi, hj, hqf', hqg', go_sem, run_equalIn_int w 9998 f.type .i64 .i64 a c hf, run_equalIn_int w 9998 g.type .i64 .i64 b d hg]
   by_cases e1 : a = c
   ·
    by_cases e2 : b = d
    ·
     simp [e1, e2]
    ·
     simp [e1, e2, beq_false_of_ne e2]
   ·
    simp [e1, beq_false_of_ne e1]
theorem exec_neqP {t : TypeId} (hT : PairEq t) {r : Operand → Value} {o : Oper} {x y : Operand} {ty : TypeId} {w : World} (ho : o.op = .binOp .neq t x y ty) {a b c d : Int} (hx : r x = .agg #[.int .i64 a, .int .i64 b]) (hy : r y = .agg #[.int .i64 c, .int .i64 d]) :
  (execOp r o).run Try.prog w = .ok (.value (.bool (!(a == c && b == d)))) w := by
 simp [execOp, ho, hx, hy, binOp, eqGuard, hT.gd, go_sem, equal_pair hT]
theorem pqG : PairEq 67 := ⟨by kernel_rfl, by kernel_rfl, by kernel_rfl, by kernel_rfl, by kernel_rfl, by kernel_rfl⟩
theorem pqO : PairEq 69 := ⟨by kernel_rfl, by kernel_rfl, by kernel_rfl, by kernel_rfl, by kernel_rfl, by kernel_rfl⟩
theorem pqG2 : PairEq 70 := ⟨by kernel_rfl, by kernel_rfl, by kernel_rfl, by kernel_rfl, by kernel_rfl, by kernel_rfl⟩
theorem pqO2 : PairEq 71 := ⟨by kernel_rfl, by kernel_rfl, by kernel_rfl, by kernel_rfl, by kernel_rfl, by kernel_rfl⟩
theorem two_cells {w : World} {b off : Nat} {u v : Value} (h0 : w.cell? ⟨b, off, none⟩ = some u) (h1 : w.cell? ⟨b, off + 1, none⟩ = some v) : ∀ (j : Nat) x, ([u, v] : List Value)[j]? = some x → w.cell? ⟨b, off + j, none⟩ = some x := by
 intro j x hx
 match j with
 | 0 => simp at hx; subst hx; exact h0
 | 1 => simp at hx; subst hx; exact h1
 | j + 2 => simp at hx
set_option maxHeartbeats 2000000 in
theorem eqG_any {w : World} {a : Option Addr} {n cp : Nat} {a' : Option Addr} {n' cp' : Nat} {l m : List (Int × Int)} (h : PairsAt w (.slice a n cp) l) (h' : PairsAt w (.slice a' n' cp') m) :
  Calls Try.prog 58 #[.slice a n cp, .slice a' n' cp'] w fun e w' => e = .returned (.bool (decide (l = m))) ∧ Ext w w' := by
 have H : Hid (PairsAt w (.slice a n cp) l ∧ PairsAt w (.slice a' n' cp') m ∧ n = l.length ∧ n' = m.length) := ⟨h, h', h.len.1, h'.len.1⟩
 have hmx := h.len.2.1
 have hmx' := h'.len.2.1
 unfold maxLen at hmx hmx'
 clear h h'
 by_cases hn : n = n'
 case neg =>
  have hd : ((n : Int) != (n' : Int)) = true := by simp; omega
  have HF : Hid (decide (l = m) = false) := decide_eq_false (fun e => hn (by rw [H.out.2.2.1, H.out.2.2.2, e]))
  go_enter Try.func58, Try.ntmps58
  go_wp2
  go_ret
  exact ⟨by rw [HF.out]; rfl, Ext.refl _⟩
 subst hn
 go_enter Try.func58, Try.ntmps58
 go_wp2
 go_loopg [13] n (fun gm t wr => ∃ k : Nat, k ≤ n ∧ gm = n - k ∧ t = .int .i64 (k : Int) ∧ Hid (Ext w wr ∧ ∀ j, j < k → l.getD j (0, 0) = m.getD j (0, 0)))
 case atStart => exact ⟨0, Nat.zero_le _, rfl, rfl, Ext.refl _, fun j hj => by omega⟩
 case round =>
  obtain ⟨k, hk, rfl, rfl, HR⟩ := hrel
  by_cases hlt : k < n
  ·
   have hd : decide ((k : Int) < (n : Int)) = true := decide_eq_true (by omega)
   obtain ⟨b, off, rfl, hc0, hc1⟩ := H.out.1.cellAt k (by rw [← H.out.2.2.1]; exact hlt)
   obtain ⟨b', off', rfl, hc0', hc1'⟩ := H.out.2.1.cellAt k (by rw [← H.out.2.2.2]; exact hlt)
   replace hc0 := HR.out.1.cell hc0
   replace hc0' := HR.out.1.cell hc0'
   replace hc1 := HR.out.1.cell hc1
   replace hc1' := HR.out.1.cell hc1'
   obtain ⟨p, hp⟩ : ∃ p, p = l.getD k (0, 0) := ⟨_, rfl⟩
   obtain ⟨q, hq⟩ : ∃ q, q = m.getD k (0, 0) := ⟨_, rfl⟩
   rw [← hp] at hc0 hc1
   rw [← hq] at hc0' hc1'
   obtain ⟨x, x2⟩ := p
   obtain ⟨y, y2⟩ := q
   have HX : Hid ((x, x2) = l.getD k (0, 0) ∧ (y, y2) = m.getD k (0, 0)) := ⟨hp, hq⟩
   clear hp hq
   dsimp only at hc0 hc1 hc0' hc1'
   have hkn : (k : Int) < (n : Int) := by omega
   replace hc0 := (Ext.drew wr).cell hc0
   replace hc1 := (Ext.drew wr).cell hc1
   replace hc0' := (Ext.drew wr).cell hc0'
   replace hc1' := (Ext.drew wr).cell hc1'
   have HB : Hid ((!(x == y && x2 == y2)) = !(decide ((x, x2) = (y, y2)))) := show _ = _ by
    congr 1
    rw [Bool.eq_iff_iff]; simp
   go_wp2_with fail
   refine wp_region_facts (fun t => bif Nat.ble 16 t && Nat.ble t 24 then some (t - 16) else none) 26 Ext
    [Is (.slice (some ⟨b, off, none⟩) n cp),
     Is (.int .i64 (k : Int)),
     Is (.pointer (some ⟨b, off + k * 2, none⟩)),
     Is (.agg #[.int .i64 x, .int .i64 x2]),
     Is (.slice (some ⟨b', off', none⟩) n cp'),
     Is (.int .i64 (k : Int)),
     Is (.pointer (some ⟨b', off' + k * 2, none⟩)),
     Is (.agg #[.int .i64 y, .int .i64 y2]),
     Is (.bool (!(x == y && x2 == y2)))]
    rfl (by kernel_rfl) (by kernel_rfl) rfl Ext.refl (fun _ _ _ => Ext.trans) (Ks (Ks (Ks (Ks (Ks (Ks (Ks (Ks (Ks (KeepAll.nil)))))))))) ?_ ?_
   ·
    refine Gc (ln1 (gd0 rfl) rfl (ouI rfl) (fun _ _ h _ => h) (fun r wx hR h1 => exec_mv (.inl rfl) h1)) ?_
    refine Gc (ln1 (gd0 rfl) rfl (ouI rfl) (fun _ _ h _ => h) (fun r wx hR h1 => exec_mv (.inl rfl) h1)) ?_
    refine Gc (ln2 (gd0 rfl) rfl (ouI rfl) (fun _ _ h _ => h) (fun _ _ h _ => h) (fun r wx hR h1 h2 => by simp [execOp, h1, h2, go_sem, hkn])) ?_
    refine Gc ?_ ?_
    ·
     rintro r wx hR ⟨h1, _⟩
     replace h1 : r (.tmp 18) = .pointer (some ⟨b, off + k * 2, none⟩) := h1
     exact gvo (exec_loadC rowGp rfl h1 [.int .i64 x, .int .i64 x2] (two_cells (hR.cell hc0) (hR.cell hc1)) rfl) ⟨Ext.refl _, rfl⟩
    refine Gc (ln1 (gd0 rfl) rfl (ouI rfl) (fun _ _ h _ => h) (fun r wx hR h1 => exec_mv (.inl rfl) h1)) ?_
    refine Gc (ln1 (gd0 rfl) rfl (ouI rfl) (fun _ _ h _ => h) (fun r wx hR h1 => exec_mv (.inl rfl) h1)) ?_
    refine Gc (ln2 (gd0 rfl) rfl (ouI rfl) (fun _ _ h _ => h) (fun _ _ h _ => h) (fun r wx hR h1 h2 => by simp [execOp, h1, h2, go_sem, hkn])) ?_
    refine Gc ?_ ?_
    ·
     rintro r wx hR ⟨h1, _⟩
     replace h1 : r (.tmp 22) = .pointer (some ⟨b', off' + k * 2, none⟩) := h1
     exact gvo (exec_loadC rowGp rfl h1 [.int .i64 y, .int .i64 y2] (two_cells (hR.cell hc0') (hR.cell hc1')) rfl) ⟨Ext.refl _, rfl⟩
    refine Gc (ln2 (gd0 rfl) rfl (ouI rfl) (fun _ _ h _ => h) (fun _ _ h _ => h) (fun r wx hR h1 h2 => exec_neqP pqG rfl h1 h2)) ?_
    exact GoodAll.nil
   ·
    intro vs w7 a7 hR hold ha7
    have hv0 : vs 0 = (.slice (some ⟨b, off, none⟩) n cp) := hold.at 0
    have hv1 : vs 1 = (.int .i64 (k : Int)) := hold.at 1
    have hv2 : vs 2 = (.pointer (some ⟨b, off + k * 2, none⟩)) := hold.at 2
    have hv3 : vs 3 = (.agg #[.int .i64 x, .int .i64 x2]) := hold.at 3
    have hv4 : vs 4 = (.slice (some ⟨b', off', none⟩) n cp') := hold.at 4
    have hv5 : vs 5 = (.int .i64 (k : Int)) := hold.at 5
    have hv6 : vs 6 = (.pointer (some ⟨b', off' + k * 2, none⟩)) := hold.at 6
    have hv7 : vs 7 = (.agg #[.int .i64 y, .int .i64 y2]) := hold.at 7
    have hv8 : vs 8 = (.bool (!(x == y && x2 == y2))) := hold.at 8
    simp only [putAll, Act.put, hv0, hv1, hv2, hv3, hv4, hv5, hv6, hv7, hv8, List.setIfInBounds_toArray, List.set_cons_succ, List.set_cons_zero] at ha7
    subst ha7
    clear hold hv0 hv1 hv2 hv3 hv4 hv5 hv6 hv7 hv8
    rw [HB.out]
    by_cases hxy : (x, x2) = (y, y2)
    ·
     have HX2 : Hid (l.getD k (0, 0) = m.getD k (0, 0)) := HX.out.1.symm.trans (hxy.trans HX.out.2)
     rw [decide_eq_true hxy]
     clear HX HB hxy hc0 hc1 hc0' hc1'
     go_wp2
     go_roundg (n - (k + 1))
     case measure => omega
     case rel =>
      refine ⟨k + 1, by omega, rfl, by simp, HR.out.1.trans ((Ext.drew _).trans hR), fun j hj => ?_⟩
      by_cases hjk : j = k
      ·
       subst hjk; exact HX2.out
      ·
       exact HR.out.2 j (by omega)
    ·
     have HF : Hid (decide (l = m) = false) := decide_eq_false (fun e => hxy (by rw [HX.out.1, HX.out.2, e]))
     rw [decide_eq_false hxy]
     clear HX HB hxy hc0 hc1 hc0' hc1'
     go_wp2
     go_ret
     exact ⟨by rw [HF.out]; rfl, HR.out.1.trans ((Ext.drew _).trans hR)⟩
  ·
   have hd : decide ((k : Int) < (n : Int)) = false := decide_eq_false (by omega)
   have HF : Hid (decide (l = m) = true) := decide_eq_true (list_same (0, 0) (by rw [← H.out.2.2.1, ← H.out.2.2.2]) (fun j hj => HR.out.2 j (by have := H.out.2.2.1; omega)))
   go_wp2
   go_ret
   exact ⟨by rw [HF.out]; rfl, HR.out.1⟩
set_option maxHeartbeats 2000000 in
theorem eqO_any {w : World} {a : Option Addr} {n cp : Nat} {a' : Option Addr} {n' cp' : Nat} {l m : List (Int × Int)} (h : PairsAt w (.slice a n cp) l) (h' : PairsAt w (.slice a' n' cp') m) :
  Calls Try.prog 60 #[.slice a n cp, .slice a' n' cp'] w fun e w' => e = .returned (.bool (decide (l = m))) ∧ Ext w w' := by
 have H : Hid (PairsAt w (.slice a n cp) l ∧ PairsAt w (.slice a' n' cp') m ∧ n = l.length ∧ n' = m.length) := ⟨h, h', h.len.1, h'.len.1⟩
 have hmx := h.len.2.1
 have hmx' := h'.len.2.1
 unfold maxLen at hmx hmx'
 clear h h'
 by_cases hn : n = n'
 case neg =>
  have hd : ((n : Int) != (n' : Int)) = true := by simp; omega
  have HF : Hid (decide (l = m) = false) := decide_eq_false (fun e => hn (by rw [H.out.2.2.1, H.out.2.2.2, e]))
  go_enter Try.func60, Try.ntmps60
  go_wp2
  go_ret
  exact ⟨by rw [HF.out]; rfl, Ext.refl _⟩
 subst hn
 go_enter Try.func60, Try.ntmps60
 go_wp2
 go_loopg [13] n (fun gm t wr => ∃ k : Nat, k ≤ n ∧ gm = n - k ∧ t = .int .i64 (k : Int) ∧ Hid (Ext w wr ∧ ∀ j, j < k → l.getD j (0, 0) = m.getD j (0, 0)))
 case atStart => exact ⟨0, Nat.zero_le _, rfl, rfl, Ext.refl _, fun j hj => by omega⟩
 case round =>
  obtain ⟨k, hk, rfl, rfl, HR⟩ := hrel
  by_cases hlt : k < n
  ·
   have hd : decide ((k : Int) < (n : Int)) = true := decide_eq_true (by omega)
   obtain ⟨b, off, rfl, hc0, hc1⟩ := H.out.1.cellAt k (by rw [← H.out.2.2.1]; exact hlt)
   obtain ⟨b', off', rfl, hc0', hc1'⟩ := H.out.2.1.cellAt k (by rw [← H.out.2.2.2]; exact hlt)
   replace hc0 := HR.out.1.cell hc0
   replace hc0' := HR.out.1.cell hc0'
   replace hc1 := HR.out.1.cell hc1
   replace hc1' := HR.out.1.cell hc1'
   obtain ⟨p, hp⟩ : ∃ p, p = l.getD k (0, 0) := ⟨_, rfl⟩
   obtain ⟨q, hq⟩ : ∃ q, q = m.getD k (0, 0) := ⟨_, rfl⟩
   rw [← hp] at hc0 hc1
   rw [← hq] at hc0' hc1'
   obtain ⟨x, x2⟩ := p
   obtain ⟨y, y2⟩ := q
   have HX : Hid ((x, x2) = l.getD k (0, 0) ∧ (y, y2) = m.getD k (0, 0)) := ⟨hp, hq⟩
   clear hp hq
   dsimp only at hc0 hc1 hc0' hc1'
   have hkn : (k : Int) < (n : Int) := by omega
   replace hc0 := (Ext.drew wr).cell hc0
   replace hc1 := (Ext.drew wr).cell hc1
   replace hc0' := (Ext.drew wr).cell hc0'
   replace hc1' := (Ext.drew wr).cell hc1'
   have HB : Hid ((!(x == y && x2 == y2)) = !(decide ((x, x2) = (y, y2)))) := show _ = _ by
    congr 1
    rw [Bool.eq_iff_iff]; simp
   go_wp2_with fail
   refine wp_region_facts (fun t => bif Nat.ble 16 t && Nat.ble t 24 then some (t - 16) else none) 26 Ext
    [Is (.slice (some ⟨b, off, none⟩) n cp),
     Is (.int .i64 (k : Int)),
     Is (.pointer (some ⟨b, off + k * 2, none⟩)),
     Is (.agg #[.int .i64 x, .int .i64 x2]),
     Is (.slice (some ⟨b', off', none⟩) n cp'),
     Is (.int .i64 (k : Int)),
     Is (.pointer (some ⟨b', off' + k * 2, none⟩)),
     Is (.agg #[.int .i64 y, .int .i64 y2]),
     Is (.bool (!(x == y && x2 == y2)))]
    rfl (by kernel_rfl) (by kernel_rfl) rfl Ext.refl (fun _ _ _ => Ext.trans) (Ks (Ks (Ks (Ks (Ks (Ks (Ks (Ks (Ks (KeepAll.nil)))))))))) ?_ ?_
   ·
    refine Gc (ln1 (gd0 rfl) rfl (ouI rfl) (fun _ _ h _ => h) (fun r wx hR h1 => exec_mv (.inl rfl) h1)) ?_
    refine Gc (ln1 (gd0 rfl) rfl (ouI rfl) (fun _ _ h _ => h) (fun r wx hR h1 => exec_mv (.inl rfl) h1)) ?_
    refine Gc (ln2 (gd0 rfl) rfl (ouI rfl) (fun _ _ h _ => h) (fun _ _ h _ => h) (fun r wx hR h1 h2 => by simp [execOp, h1, h2, go_sem, hkn])) ?_
    refine Gc ?_ ?_
    ·
     rintro r wx hR ⟨h1, _⟩
     replace h1 : r (.tmp 18) = .pointer (some ⟨b, off + k * 2, none⟩) := h1
     exact gvo (exec_loadC rowOp rfl h1 [.int .i64 x, .int .i64 x2] (two_cells (hR.cell hc0) (hR.cell hc1)) rfl) ⟨Ext.refl _, rfl⟩
    refine Gc (ln1 (gd0 rfl) rfl (ouI rfl) (fun _ _ h _ => h) (fun r wx hR h1 => exec_mv (.inl rfl) h1)) ?_
    refine Gc (ln1 (gd0 rfl) rfl (ouI rfl) (fun _ _ h _ => h) (fun r wx hR h1 => exec_mv (.inl rfl) h1)) ?_
    refine Gc (ln2 (gd0 rfl) rfl (ouI rfl) (fun _ _ h _ => h) (fun _ _ h _ => h) (fun r wx hR h1 h2 => by simp [execOp, h1, h2, go_sem, hkn])) ?_
    refine Gc ?_ ?_
    ·
     rintro r wx hR ⟨h1, _⟩
     replace h1 : r (.tmp 22) = .pointer (some ⟨b', off' + k * 2, none⟩) := h1
     exact gvo (exec_loadC rowOp rfl h1 [.int .i64 y, .int .i64 y2] (two_cells (hR.cell hc0') (hR.cell hc1')) rfl) ⟨Ext.refl _, rfl⟩
    refine Gc (ln2 (gd0 rfl) rfl (ouI rfl) (fun _ _ h _ => h) (fun _ _ h _ => h) (fun r wx hR h1 h2 => exec_neqP pqO rfl h1 h2)) ?_
    exact GoodAll.nil
   ·
    intro vs w7 a7 hR hold ha7
    have hv0 : vs 0 = (.slice (some ⟨b, off, none⟩) n cp) := hold.at 0
    have hv1 : vs 1 = (.int .i64 (k : Int)) := hold.at 1
    have hv2 : vs 2 = (.pointer (some ⟨b, off + k * 2, none⟩)) := hold.at 2
    have hv3 : vs 3 = (.agg #[.int .i64 x, .int .i64 x2]) := hold.at 3
    have hv4 : vs 4 = (.slice (some ⟨b', off', none⟩) n cp') := hold.at 4
    have hv5 : vs 5 = (.int .i64 (k : Int)) := hold.at 5
    have hv6 : vs 6 = (.pointer (some ⟨b', off' + k * 2, none⟩)) := hold.at 6
    have hv7 : vs 7 = (.agg #[.int .i64 y, .int .i64 y2]) := hold.at 7
    have hv8 : vs 8 = (.bool (!(x == y && x2 == y2))) := hold.at 8
    simp only [putAll, Act.put, hv0, hv1, hv2, hv3, hv4, hv5, hv6, hv7, hv8, List.setIfInBounds_toArray, List.set_cons_succ, List.set_cons_zero] at ha7
    subst ha7
    clear hold hv0 hv1 hv2 hv3 hv4 hv5 hv6 hv7 hv8
    rw [HB.out]
    by_cases hxy : (x, x2) = (y, y2)
    ·
     have HX2 : Hid (l.getD k (0, 0) = m.getD k (0, 0)) := HX.out.1.symm.trans (hxy.trans HX.out.2)
     rw [decide_eq_true hxy]
     clear HX HB hxy hc0 hc1 hc0' hc1'
     go_wp2
     go_roundg (n - (k + 1))
     case measure => omega
     case rel =>
      refine ⟨k + 1, by omega, rfl, by simp, HR.out.1.trans ((Ext.drew _).trans hR), fun j hj => ?_⟩
      by_cases hjk : j = k
      ·
       subst hjk; exact HX2.out
      ·
       exact HR.out.2 j (by omega)
    ·
     have HF : Hid (decide (l = m) = false) := decide_eq_false (fun e => hxy (by rw [HX.out.1, HX.out.2, e]))
     rw [decide_eq_false hxy]
     clear HX HB hxy hc0 hc1 hc0' hc1'
     go_wp2
     go_ret
     exact ⟨by rw [HF.out]; rfl, HR.out.1.trans ((Ext.drew _).trans hR)⟩
  ·
   have hd : decide ((k : Int) < (n : Int)) = false := decide_eq_false (by omega)
   have HF : Hid (decide (l = m) = true) := decide_eq_true (list_same (0, 0) (by rw [← H.out.2.2.1, ← H.out.2.2.2]) (fun j hj => HR.out.2 j (by have := H.out.2.2.1; omega)))
   go_wp2
   go_ret
   exact ⟨by rw [HF.out]; rfl, HR.out.1⟩
set_option maxRecDepth 100000
abbrev sb_0 (c d : Ck) : Bool := (((c.kind : Int) == (d.kind : Int)) && ((samePB c d)))
abbrev sb_1 (c d : Ck) : Bool := ((sb_0 c d) && ((((c.tag : Int) : Int) == ((d.tag : Int) : Int))))
abbrev sb_2 (c d : Ck) : Bool := ((sb_1 c d) && (((c.win : Int) == (d.win : Int))))
abbrev sb_3 (c d : Ck) : Bool := ((sb_2 c d) && (((c.out : Int) == (d.out : Int))))
abbrev sb_4 (c d : Ck) : Bool := ((sb_3 c d) && (((c.inn : Int) == (d.inn : Int))))
abbrev sb_5 (c d : Ck) : Bool := ((sb_4 c d) && ((((c.tsn : Int) : Int) == ((d.tsn : Int) : Int))))
abbrev sb_6 (c d : Ck) : Bool := ((sb_5 c d) && ((decide (c.rand = d.rand))))
abbrev sb_7 (c d : Ck) : Bool := ((sb_6 c d) && ((decide (c.addrs = d.addrs))))
abbrev sb_8 (c d : Ck) : Bool := ((sb_7 c d) && ((decide (c.info = d.info))))
abbrev sb_9 (c d : Ck) : Bool := ((sb_8 c d) && ((decide (c.gaps = d.gaps))))
abbrev sb_10 (c d : Ck) : Bool := ((sb_9 c d) && ((decide (ci c.dups = ci d.dups))))
abbrev sb_11 (c d : Ck) : Bool := ((sb_10 c d) && (((c.cause : Int) == (d.cause : Int))))
abbrev sb_12 (c d : Ck) : Bool := ((sb_11 c d) && ((((c.serial : Int) : Int) == ((d.serial : Int) : Int))))
abbrev sb_13 (c d : Ck) : Bool := ((sb_12 c d) && ((decide (c.ops = d.ops))))
abbrev sb_14 (c d : Ck) : Bool := ((sb_13 c d) && (((c.ok) == (d.ok))))
def sameB (c d : Ck) : Bool := (((((((((((((((((c.kind : Int) == (d.kind : Int)) && ((samePB c d))) && ((((c.tag : Int) : Int) == ((d.tag : Int) : Int)))) && (((c.win : Int) == (d.win : Int)))) && (((c.out : Int) == (d.out : Int)))) && (((c.inn : Int) == (d.inn : Int)))) && ((((c.tsn : Int) : Int) == ((d.tsn : Int) : Int)))) && ((decide (c.rand = d.rand)))) && ((decide (c.addrs = d.addrs)))) && ((decide (c.info = d.info)))) && ((decide (c.gaps = d.gaps)))) && ((decide (ci c.dups = ci d.dups)))) && (((c.cause : Int) == (d.cause : Int)))) && ((((c.serial : Int) : Int) == ((d.serial : Int) : Int)))) && ((decide (c.ops = d.ops)))) && (((c.ok) == (d.ok))))
set_option maxHeartbeats 8000000 in
theorem same_any {w : World} {c d : Ck} {s u : Sv} (ha : CkAt w s c) (hb : CkAt w u d) :
  Calls Try.prog 25 #[.agg (CV c s), .agg (CV d u)] w fun e w' => e = .returned (.bool (sameB c d)) ∧ Ext w w' := by
 unfold sameB
 go_enter Try.func25, Try.ntmps25
 refine wp_seq_k (fun K hK => ?_)
 have HK := Stop.mk hK
 clear hK
 go_wp2_with (first
  | (have q := he1; clear q; refine wl_box (C := CV d u) rfl rfl rfl ?_; intro w2 hb2 he2 hx; clear hx; have hb1' := hb1.ext he2)
  | (refine wl_box (C := CV c s) rfl rfl rfl ?_; intro w1 hb1 he1 hx; clear hx))
 refine HK.go _ _ ?_
 refine wp_seq_k (fun K2 hK2 => ?_)
 have HA := ha.ext (he1.trans he2)
 have HB := hb.ext (he1.trans he2)
 refine wp_line (fun t => bif Nat.ble 5 t && Nat.ble t 114 then some (t - 5) else bif Nat.beq t 4 then some 110 else none) 115 Ext
  [Is (.pointer (some ⟨w.heap.size, 0, none⟩)),
   Is (.int .i64 c.kind),
   Is (.pointer (some ⟨w1.heap.size, 0, none⟩)),
   Is (.int .i64 d.kind),
   Is (.bool ((c.kind : Int) == (d.kind : Int))),
   Is (.bool ((c.kind : Int) == (d.kind : Int))),
   Under ((((c.kind : Int) == (d.kind : Int)))) (.pointer (some ⟨w.heap.size, 1, none⟩)),
   Under ((((c.kind : Int) == (d.kind : Int)))) (.agg (PV c s)),
   Under ((((c.kind : Int) == (d.kind : Int)))) (.pointer (some ⟨w1.heap.size, 1, none⟩)),
   Under ((((c.kind : Int) == (d.kind : Int)))) (.agg (PV d u)),
   Under ((((c.kind : Int) == (d.kind : Int)))) (.bool (samePB c d)),
   Is (.bool (sb_0 c d)),
   Is (.bool (sb_0 c d)),
   Under (((sb_0 c d))) (.pointer (some ⟨w.heap.size, 8, none⟩)),
   Under (((sb_0 c d))) (.int .u32 (c.tag : Int)),
   Under (((sb_0 c d))) (.pointer (some ⟨w1.heap.size, 8, none⟩)),
   Under (((sb_0 c d))) (.int .u32 (d.tag : Int)),
   Under (((sb_0 c d))) (.bool (((c.tag : Int) : Int) == ((d.tag : Int) : Int))),
   Is (.bool (sb_1 c d)),
   Is (.bool (sb_1 c d)),
   Under (((sb_1 c d))) (.pointer (some ⟨w.heap.size, 9, none⟩)),
   Under (((sb_1 c d))) (.int .i64 c.win),
   Under (((sb_1 c d))) (.pointer (some ⟨w1.heap.size, 9, none⟩)),
   Under (((sb_1 c d))) (.int .i64 d.win),
   Under (((sb_1 c d))) (.bool ((c.win : Int) == (d.win : Int))),
   Is (.bool (sb_2 c d)),
   Is (.bool (sb_2 c d)),
   Under (((sb_2 c d))) (.pointer (some ⟨w.heap.size, 10, none⟩)),
   Under (((sb_2 c d))) (.int .i64 c.out),
   Under (((sb_2 c d))) (.pointer (some ⟨w1.heap.size, 10, none⟩)),
   Under (((sb_2 c d))) (.int .i64 d.out),
   Under (((sb_2 c d))) (.bool ((c.out : Int) == (d.out : Int))),
   Is (.bool (sb_3 c d)),
   Is (.bool (sb_3 c d)),
   Under (((sb_3 c d))) (.pointer (some ⟨w.heap.size, 11, none⟩)),
   Under (((sb_3 c d))) (.int .i64 c.inn),
   Under (((sb_3 c d))) (.pointer (some ⟨w1.heap.size, 11, none⟩)),
   Under (((sb_3 c d))) (.int .i64 d.inn),
   Under (((sb_3 c d))) (.bool ((c.inn : Int) == (d.inn : Int))),
   Is (.bool (sb_4 c d)),
   Is (.bool (sb_4 c d)),
   Under (((sb_4 c d))) (.pointer (some ⟨w.heap.size, 12, none⟩)),
   Under (((sb_4 c d))) (.int .u32 (c.tsn : Int)),
   Under (((sb_4 c d))) (.pointer (some ⟨w1.heap.size, 12, none⟩)),
   Under (((sb_4 c d))) (.int .u32 (d.tsn : Int)),
   Under (((sb_4 c d))) (.bool (((c.tsn : Int) : Int) == ((d.tsn : Int) : Int))),
   Is (.bool (sb_5 c d)),
   Is (.bool (sb_5 c d)),
   Under (((sb_5 c d))) (.pointer (some ⟨w.heap.size, 13, none⟩)),
   Under (((sb_5 c d))) (.slice s.rA s.rN s.rC),
   Under (((sb_5 c d))) (.pointer (some ⟨w1.heap.size, 13, none⟩)),
   Under (((sb_5 c d))) (.slice u.rA u.rN u.rC),
   Under (((sb_5 c d))) (.bool (decide (c.rand = d.rand))),
   Is (.bool (sb_6 c d)),
   Is (.bool (sb_6 c d)),
   Under (((sb_6 c d))) (.pointer (some ⟨w.heap.size, 14, none⟩)),
   Under (((sb_6 c d))) (.slice s.aA s.aN s.aC),
   Under (((sb_6 c d))) (.pointer (some ⟨w1.heap.size, 14, none⟩)),
   Under (((sb_6 c d))) (.slice u.aA u.aN u.aC),
   Under (((sb_6 c d))) (.bool (decide (c.addrs = d.addrs))),
   Is (.bool (sb_7 c d)),
   Is (.bool (sb_7 c d)),
   Under (((sb_7 c d))) (.pointer (some ⟨w.heap.size, 15, none⟩)),
   Under (((sb_7 c d))) (.slice s.iA s.iN s.iC),
   Under (((sb_7 c d))) (.pointer (some ⟨w1.heap.size, 15, none⟩)),
   Under (((sb_7 c d))) (.slice u.iA u.iN u.iC),
   Under (((sb_7 c d))) (.bool (decide (c.info = d.info))),
   Is (.bool (sb_8 c d)),
   Is (.bool (sb_8 c d)),
   Under (((sb_8 c d))) (.pointer (some ⟨w.heap.size, 16, none⟩)),
   Under (((sb_8 c d))) (.slice s.gA s.gN s.gC),
   Under (((sb_8 c d))) (.pointer (some ⟨w1.heap.size, 16, none⟩)),
   Under (((sb_8 c d))) (.slice u.gA u.gN u.gC),
   Under (((sb_8 c d))) (.bool (decide (c.gaps = d.gaps))),
   Is (.bool (sb_9 c d)),
   Is (.bool (sb_9 c d)),
   Under (((sb_9 c d))) (.pointer (some ⟨w.heap.size, 17, none⟩)),
   Under (((sb_9 c d))) (.slice s.dA s.dN s.dC),
   Under (((sb_9 c d))) (.pointer (some ⟨w1.heap.size, 17, none⟩)),
   Under (((sb_9 c d))) (.slice u.dA u.dN u.dC),
   Under (((sb_9 c d))) (.bool (decide (ci c.dups = ci d.dups))),
   Is (.bool (sb_10 c d)),
   Is (.bool (sb_10 c d)),
   Under (((sb_10 c d))) (.pointer (some ⟨w.heap.size, 18, none⟩)),
   Under (((sb_10 c d))) (.int .i64 c.cause),
   Under (((sb_10 c d))) (.pointer (some ⟨w1.heap.size, 18, none⟩)),
   Under (((sb_10 c d))) (.int .i64 d.cause),
   Under (((sb_10 c d))) (.bool ((c.cause : Int) == (d.cause : Int))),
   Is (.bool (sb_11 c d)),
   Is (.bool (sb_11 c d)),
   Under (((sb_11 c d))) (.pointer (some ⟨w.heap.size, 19, none⟩)),
   Under (((sb_11 c d))) (.int .u32 (c.serial : Int)),
   Under (((sb_11 c d))) (.pointer (some ⟨w1.heap.size, 19, none⟩)),
   Under (((sb_11 c d))) (.int .u32 (d.serial : Int)),
   Under (((sb_11 c d))) (.bool (((c.serial : Int) : Int) == ((d.serial : Int) : Int))),
   Is (.bool (sb_12 c d)),
   Is (.bool (sb_12 c d)),
   Under (((sb_12 c d))) (.pointer (some ⟨w.heap.size, 20, none⟩)),
   Under (((sb_12 c d))) (.slice s.oA s.oN s.oC),
   Under (((sb_12 c d))) (.pointer (some ⟨w1.heap.size, 20, none⟩)),
   Under (((sb_12 c d))) (.slice u.oA u.oN u.oC),
   Under (((sb_12 c d))) (.bool (decide (c.ops = d.ops))),
   Is (.bool (sb_13 c d)),
   Is (.bool (sb_13 c d)),
   Under (((sb_13 c d))) (.pointer (some ⟨w.heap.size, 21, none⟩)),
   Under (((sb_13 c d))) (.bool c.ok),
   Under (((sb_13 c d))) (.pointer (some ⟨w1.heap.size, 21, none⟩)),
   Under (((sb_13 c d))) (.bool d.ok),
   Under (((sb_13 c d))) (.bool ((c.ok) == (d.ok))),
   Is (.bool (sb_14 c d)),
   Is (.bool (sb_14 c d))]
  rfl (by kernel_rfl) rfl Ext.refl (fun _ _ _ => Ext.trans) (Ks (Ks (Ks (Ks (Ks (Ks (Ku (Ku (Ku (Ku (Ku (Ks (Ks (Ku (Ku (Ku (Ku (Ku (Ks (Ks (Ku (Ku (Ku (Ku (Ku (Ks (Ks (Ku (Ku (Ku (Ku (Ku (Ks (Ks (Ku (Ku (Ku (Ku (Ku (Ks (Ks (Ku (Ku (Ku (Ku (Ku (Ks (Ks (Ku (Ku (Ku (Ku (Ku (Ks (Ks (Ku (Ku (Ku (Ku (Ku (Ks (Ks (Ku (Ku (Ku (Ku (Ku (Ks (Ks (Ku (Ku (Ku (Ku (Ku (Ks (Ks (Ku (Ku (Ku (Ku (Ku (Ks (Ks (Ku (Ku (Ku (Ku (Ku (Ks (Ks (Ku (Ku (Ku (Ku (Ku (Ks (Ks (Ku (Ku (Ku (Ku (Ku (Ks (Ks (Ku (Ku (Ku (Ku (Ku (Ks (Ks (KeepAll.nil)))))))))))))))))))))))))))))))))))))))))))))))))))))))))))))))))))))))))))))))))))))))))))))))))))))))))))))))) ?_ ?_
 ·
  refine Gc (ln1 (gd0 rfl) rfl (ouI rfl) (fun _ _ h _ => h) (fun r wx hR h1 => by simp [execOp, h1, go_sem])) ?_
  refine Gc (ln1 (gd0 rfl) rfl (ouI rfl) (fun _ _ h _ => h) (fun r wx hR h1 => exg one3 rfl h1 (cv0 (hb1'.ext hR)))) ?_
  refine Gc (ln1 (gd0 rfl) rfl (ouI rfl) (fun _ _ h _ => h) (fun r wx hR h1 => by simp [execOp, h1, go_sem])) ?_
  refine Gc (ln1 (gd0 rfl) rfl (ouI rfl) (fun _ _ h _ => h) (fun r wx hR h1 => exg one3 rfl h1 (cv0 (hb2.ext hR)))) ?_
  refine Gc (ln2 (gd0 rfl) rfl (ouI rfl) (fun _ _ h _ => h) (fun _ _ h _ => h) (fun r wx hR h1 h2 => by simp [execOp, h1, h2, go_sem])) ?_
  refine Gc (ln1 (gd0 rfl) rfl (ouI rfl) (fun _ _ h _ => h) (fun r wx hR h1 => exec_mv (.inl rfl) h1)) ?_
  refine Gc (ln1 (gdU rfl (fun _ _ h => h) (want_t _)) rfl (ouU rfl) (fun _ _ h _ => h) (fun r wx hR h1 => by simp [execOp, h1, go_sem])) ?_
  refine Gc (ln1 (gdU rfl (fun _ _ h => h) (want_t _)) rfl (ouU rfl) (fun _ _ h c => Eq.trans h (if_pos c)) (fun r wx hR h1 => exec_load rowPc rfl h1 (hb1'.ext hR) (PV c s).toList (CV.piece c s) rfl)) ?_
  refine Gc (ln1 (gdU rfl (fun _ _ h => h) (want_t _)) rfl (ouU rfl) (fun _ _ h _ => h) (fun r wx hR h1 => by simp [execOp, h1, go_sem])) ?_
  refine Gc (ln1 (gdU rfl (fun _ _ h => h) (want_t _)) rfl (ouU rfl) (fun _ _ h c => Eq.trans h (if_pos c)) (fun r wx hR h1 => exec_load rowPc rfl h1 (hb2.ext hR) (PV d u).toList (CV.piece d u) rfl)) ?_
  refine Gc ?_ ?_
  ·
   rintro r wx hR ⟨h1, h2, h3, _⟩
   replace h1 : r (.func 56) = .func (.func 56) #[] #[] := h1
   replace h2 : Under ((((c.kind : Int) == (d.kind : Int)))) (.agg (PV c s)) wx (r (.tmp 12)) := h2
   replace h3 : Under ((((c.kind : Int) == (d.kind : Int)))) (.agg (PV d u)) wx (r (.tmp 14)) := h3
   intro gb hgb
   refine guard_u (C := (((c.kind : Int) == (d.kind : Int)))) (b := ((c.kind : Int) == (d.kind : Int))) (want := true) hgb (want_t _) (fun hc => ?_) (fun hc => un_ hc)
   replace h2 := h2.get hc
   replace h3 := h3.get hc
   refine give_func #[.agg (PV c s), .agg (PV d u)] rfl h1 Try.call56 (by simp [h2, h3]) ?_
   refine (samePiece_any (c := c) (d := d) (HA.t.ext hR) (HB.t.ext hR)).mono ?_
   rintro e wz ⟨rfl, hez⟩
   exact ⟨_, rfl, hez, uy hc⟩
  refine Gc (lnA (gd0 rfl) rfl (ouI rfl) (fun _ _ h _ => h) (fun _ _ h c hb => Eq.trans h (if_pos (by first | exact hb | (rw [hb]; rfl) | (rw [c, hb]; rfl))))) ?_
  refine Gc (ln1 (gd0 rfl) rfl (ouI rfl) (fun _ _ h _ => h) (fun r wx hR h1 => exec_mv (.inl rfl) h1)) ?_
  refine Gc (ln1 (gdU rfl (fun _ _ h => h) (want_t _)) rfl (ouU rfl) (fun _ _ h _ => h) (fun r wx hR h1 => by simp [execOp, h1, go_sem])) ?_
  refine Gc (ln1 (gdU rfl (fun _ _ h => h) (want_t _)) rfl (ouU rfl) (fun _ _ h c => Eq.trans h (if_pos c)) (fun r wx hR h1 => exg one22 rfl h1 (cv8 (hb1'.ext hR)))) ?_
  refine Gc (ln1 (gdU rfl (fun _ _ h => h) (want_t _)) rfl (ouU rfl) (fun _ _ h _ => h) (fun r wx hR h1 => by simp [execOp, h1, go_sem])) ?_
  refine Gc (ln1 (gdU rfl (fun _ _ h => h) (want_t _)) rfl (ouU rfl) (fun _ _ h c => Eq.trans h (if_pos c)) (fun r wx hR h1 => exg one22 rfl h1 (cv8 (hb2.ext hR)))) ?_
  refine Gc (ln2 (gdU rfl (fun _ _ h => h) (want_t _)) rfl (ouU rfl) (fun _ _ h c => Eq.trans h (if_pos c)) (fun _ _ h c => Eq.trans h (if_pos c)) (fun r wx hR h1 h2 => by simp [execOp, h1, h2, go_sem])) ?_
  refine Gc (lnA (gd0 rfl) rfl (ouI rfl) (fun _ _ h _ => h) (fun _ _ h c hb => Eq.trans h (if_pos (by first | exact hb | (rw [hb]; rfl) | (rw [c, hb]; rfl))))) ?_
  refine Gc (ln1 (gd0 rfl) rfl (ouI rfl) (fun _ _ h _ => h) (fun r wx hR h1 => exec_mv (.inl rfl) h1)) ?_
  refine Gc (ln1 (gdU rfl (fun _ _ h => h) (want_t _)) rfl (ouU rfl) (fun _ _ h _ => h) (fun r wx hR h1 => by simp [execOp, h1, go_sem])) ?_
  refine Gc (ln1 (gdU rfl (fun _ _ h => h) (want_t _)) rfl (ouU rfl) (fun _ _ h c => Eq.trans h (if_pos c)) (fun r wx hR h1 => exg one3 rfl h1 (cv9 (hb1'.ext hR)))) ?_
  refine Gc (ln1 (gdU rfl (fun _ _ h => h) (want_t _)) rfl (ouU rfl) (fun _ _ h _ => h) (fun r wx hR h1 => by simp [execOp, h1, go_sem])) ?_
  refine Gc (ln1 (gdU rfl (fun _ _ h => h) (want_t _)) rfl (ouU rfl) (fun _ _ h c => Eq.trans h (if_pos c)) (fun r wx hR h1 => exg one3 rfl h1 (cv9 (hb2.ext hR)))) ?_
  refine Gc (ln2 (gdU rfl (fun _ _ h => h) (want_t _)) rfl (ouU rfl) (fun _ _ h c => Eq.trans h (if_pos c)) (fun _ _ h c => Eq.trans h (if_pos c)) (fun r wx hR h1 h2 => by simp [execOp, h1, h2, go_sem])) ?_
  refine Gc (lnA (gd0 rfl) rfl (ouI rfl) (fun _ _ h _ => h) (fun _ _ h c hb => Eq.trans h (if_pos (by first | exact hb | (rw [hb]; rfl) | (rw [c, hb]; rfl))))) ?_
  refine Gc (ln1 (gd0 rfl) rfl (ouI rfl) (fun _ _ h _ => h) (fun r wx hR h1 => exec_mv (.inl rfl) h1)) ?_
  refine Gc (ln1 (gdU rfl (fun _ _ h => h) (want_t _)) rfl (ouU rfl) (fun _ _ h _ => h) (fun r wx hR h1 => by simp [execOp, h1, go_sem])) ?_
  refine Gc (ln1 (gdU rfl (fun _ _ h => h) (want_t _)) rfl (ouU rfl) (fun _ _ h c => Eq.trans h (if_pos c)) (fun r wx hR h1 => exg one3 rfl h1 (cv10 (hb1'.ext hR)))) ?_
  refine Gc (ln1 (gdU rfl (fun _ _ h => h) (want_t _)) rfl (ouU rfl) (fun _ _ h _ => h) (fun r wx hR h1 => by simp [execOp, h1, go_sem])) ?_
  refine Gc (ln1 (gdU rfl (fun _ _ h => h) (want_t _)) rfl (ouU rfl) (fun _ _ h c => Eq.trans h (if_pos c)) (fun r wx hR h1 => exg one3 rfl h1 (cv10 (hb2.ext hR)))) ?_
  refine Gc (ln2 (gdU rfl (fun _ _ h => h) (want_t _)) rfl (ouU rfl) (fun _ _ h c => Eq.trans h (if_pos c)) (fun _ _ h c => Eq.trans h (if_pos c)) (fun r wx hR h1 h2 => by simp [execOp, h1, h2, go_sem])) ?_
  refine Gc (lnA (gd0 rfl) rfl (ouI rfl) (fun _ _ h _ => h) (fun _ _ h c hb => Eq.trans h (if_pos (by first | exact hb | (rw [hb]; rfl) | (rw [c, hb]; rfl))))) ?_
  refine Gc (ln1 (gd0 rfl) rfl (ouI rfl) (fun _ _ h _ => h) (fun r wx hR h1 => exec_mv (.inl rfl) h1)) ?_
  refine Gc (ln1 (gdU rfl (fun _ _ h => h) (want_t _)) rfl (ouU rfl) (fun _ _ h _ => h) (fun r wx hR h1 => by simp [execOp, h1, go_sem])) ?_
  refine Gc (ln1 (gdU rfl (fun _ _ h => h) (want_t _)) rfl (ouU rfl) (fun _ _ h c => Eq.trans h (if_pos c)) (fun r wx hR h1 => exg one3 rfl h1 (cv11 (hb1'.ext hR)))) ?_
  refine Gc (ln1 (gdU rfl (fun _ _ h => h) (want_t _)) rfl (ouU rfl) (fun _ _ h _ => h) (fun r wx hR h1 => by simp [execOp, h1, go_sem])) ?_
  refine Gc (ln1 (gdU rfl (fun _ _ h => h) (want_t _)) rfl (ouU rfl) (fun _ _ h c => Eq.trans h (if_pos c)) (fun r wx hR h1 => exg one3 rfl h1 (cv11 (hb2.ext hR)))) ?_
  refine Gc (ln2 (gdU rfl (fun _ _ h => h) (want_t _)) rfl (ouU rfl) (fun _ _ h c => Eq.trans h (if_pos c)) (fun _ _ h c => Eq.trans h (if_pos c)) (fun r wx hR h1 h2 => by simp [execOp, h1, h2, go_sem])) ?_
  refine Gc (lnA (gd0 rfl) rfl (ouI rfl) (fun _ _ h _ => h) (fun _ _ h c hb => Eq.trans h (if_pos (by first | exact hb | (rw [hb]; rfl) | (rw [c, hb]; rfl))))) ?_
  refine Gc (ln1 (gd0 rfl) rfl (ouI rfl) (fun _ _ h _ => h) (fun r wx hR h1 => exec_mv (.inl rfl) h1)) ?_
  refine Gc (ln1 (gdU rfl (fun _ _ h => h) (want_t _)) rfl (ouU rfl) (fun _ _ h _ => h) (fun r wx hR h1 => by simp [execOp, h1, go_sem])) ?_
  refine Gc (ln1 (gdU rfl (fun _ _ h => h) (want_t _)) rfl (ouU rfl) (fun _ _ h c => Eq.trans h (if_pos c)) (fun r wx hR h1 => exg one22 rfl h1 (cv12 (hb1'.ext hR)))) ?_
  refine Gc (ln1 (gdU rfl (fun _ _ h => h) (want_t _)) rfl (ouU rfl) (fun _ _ h _ => h) (fun r wx hR h1 => by simp [execOp, h1, go_sem])) ?_
  refine Gc (ln1 (gdU rfl (fun _ _ h => h) (want_t _)) rfl (ouU rfl) (fun _ _ h c => Eq.trans h (if_pos c)) (fun r wx hR h1 => exg one22 rfl h1 (cv12 (hb2.ext hR)))) ?_
  refine Gc (ln2 (gdU rfl (fun _ _ h => h) (want_t _)) rfl (ouU rfl) (fun _ _ h c => Eq.trans h (if_pos c)) (fun _ _ h c => Eq.trans h (if_pos c)) (fun r wx hR h1 h2 => by simp [execOp, h1, h2, go_sem])) ?_
  refine Gc (lnA (gd0 rfl) rfl (ouI rfl) (fun _ _ h _ => h) (fun _ _ h c hb => Eq.trans h (if_pos (by first | exact hb | (rw [hb]; rfl) | (rw [c, hb]; rfl))))) ?_
  refine Gc (ln1 (gd0 rfl) rfl (ouI rfl) (fun _ _ h _ => h) (fun r wx hR h1 => exec_mv (.inl rfl) h1)) ?_
  refine Gc (ln1 (gdU rfl (fun _ _ h => h) (want_t _)) rfl (ouU rfl) (fun _ _ h _ => h) (fun r wx hR h1 => by simp [execOp, h1, go_sem])) ?_
  refine Gc (ln1 (gdU rfl (fun _ _ h => h) (want_t _)) rfl (ouU rfl) (fun _ _ h c => Eq.trans h (if_pos c)) (fun r wx hR h1 => exg oneS rfl h1 (cv13 (hb1'.ext hR)))) ?_
  refine Gc (ln1 (gdU rfl (fun _ _ h => h) (want_t _)) rfl (ouU rfl) (fun _ _ h _ => h) (fun r wx hR h1 => by simp [execOp, h1, go_sem])) ?_
  refine Gc (ln1 (gdU rfl (fun _ _ h => h) (want_t _)) rfl (ouU rfl) (fun _ _ h c => Eq.trans h (if_pos c)) (fun r wx hR h1 => exg oneS rfl h1 (cv13 (hb2.ext hR)))) ?_
  refine Gc ?_ ?_
  ·
   rintro r wx hR ⟨h1, h2, h3, _⟩
   replace h1 : r (.func 43) = .func (.func 43) #[] #[] := h1
   replace h2 : Under (((sb_5 c d))) (.slice s.rA s.rN s.rC) wx (r (.tmp 54)) := h2
   replace h3 : Under (((sb_5 c d))) (.slice u.rA u.rN u.rC) wx (r (.tmp 56)) := h3
   intro gb hgb
   refine guard_u (C := ((sb_5 c d))) (b := (sb_5 c d)) (want := true) hgb (want_t _) (fun hc => ?_) (fun hc => un_ hc)
   replace h2 := h2.get hc
   replace h3 := h3.get hc
   refine give_func #[.slice s.rA s.rN s.rC, .slice u.rA u.rN u.rC] rfl h1 Try.call43 (by simp [h2, h3]) ?_
   refine (equal_any (HA.r.ext hR) (HB.r.ext hR)).mono ?_
   rintro e wz ⟨rfl, hez⟩
   exact ⟨_, rfl, hez, uy hc⟩
  refine Gc (lnA (gd0 rfl) rfl (ouI rfl) (fun _ _ h _ => h) (fun _ _ h c hb => Eq.trans h (if_pos (by first | exact hb | (rw [hb]; rfl) | (rw [c, hb]; rfl))))) ?_
  refine Gc (ln1 (gd0 rfl) rfl (ouI rfl) (fun _ _ h _ => h) (fun r wx hR h1 => exec_mv (.inl rfl) h1)) ?_
  refine Gc (ln1 (gdU rfl (fun _ _ h => h) (want_t _)) rfl (ouU rfl) (fun _ _ h _ => h) (fun r wx hR h1 => by simp [execOp, h1, go_sem])) ?_
  refine Gc (ln1 (gdU rfl (fun _ _ h => h) (want_t _)) rfl (ouU rfl) (fun _ _ h c => Eq.trans h (if_pos c)) (fun r wx hR h1 => exg oneSA rfl h1 (cv14 (hb1'.ext hR)))) ?_
  refine Gc (ln1 (gdU rfl (fun _ _ h => h) (want_t _)) rfl (ouU rfl) (fun _ _ h _ => h) (fun r wx hR h1 => by simp [execOp, h1, go_sem])) ?_
  refine Gc (ln1 (gdU rfl (fun _ _ h => h) (want_t _)) rfl (ouU rfl) (fun _ _ h c => Eq.trans h (if_pos c)) (fun r wx hR h1 => exg oneSA rfl h1 (cv14 (hb2.ext hR)))) ?_
  refine Gc ?_ ?_
  ·
   rintro r wx hR ⟨h1, h2, h3, _⟩
   replace h1 : r (.func 57) = .func (.func 57) #[] #[] := h1
   replace h2 : Under (((sb_6 c d))) (.slice s.aA s.aN s.aC) wx (r (.tmp 61)) := h2
   replace h3 : Under (((sb_6 c d))) (.slice u.aA u.aN u.aC) wx (r (.tmp 63)) := h3
   intro gb hgb
   refine guard_u (C := ((sb_6 c d))) (b := (sb_6 c d)) (want := true) hgb (want_t _) (fun hc => ?_) (fun hc => un_ hc)
   replace h2 := h2.get hc
   replace h3 := h3.get hc
   refine give_func #[.slice s.aA s.aN s.aC, .slice u.aA u.aN u.aC] rfl h1 Try.call57 (by simp [h2, h3]) ?_
   refine (eqA_any (HA.a.ext hR) (HB.a.ext hR)).mono ?_
   rintro e wz ⟨rfl, hez⟩
   exact ⟨_, rfl, hez, uy hc⟩
  refine Gc (lnA (gd0 rfl) rfl (ouI rfl) (fun _ _ h _ => h) (fun _ _ h c hb => Eq.trans h (if_pos (by first | exact hb | (rw [hb]; rfl) | (rw [c, hb]; rfl))))) ?_
  refine Gc (ln1 (gd0 rfl) rfl (ouI rfl) (fun _ _ h _ => h) (fun r wx hR h1 => exec_mv (.inl rfl) h1)) ?_
  refine Gc (ln1 (gdU rfl (fun _ _ h => h) (want_t _)) rfl (ouU rfl) (fun _ _ h _ => h) (fun r wx hR h1 => by simp [execOp, h1, go_sem])) ?_
  refine Gc (ln1 (gdU rfl (fun _ _ h => h) (want_t _)) rfl (ouU rfl) (fun _ _ h c => Eq.trans h (if_pos c)) (fun r wx hR h1 => exg oneS rfl h1 (cv15 (hb1'.ext hR)))) ?_
  refine Gc (ln1 (gdU rfl (fun _ _ h => h) (want_t _)) rfl (ouU rfl) (fun _ _ h _ => h) (fun r wx hR h1 => by simp [execOp, h1, go_sem])) ?_
  refine Gc (ln1 (gdU rfl (fun _ _ h => h) (want_t _)) rfl (ouU rfl) (fun _ _ h c => Eq.trans h (if_pos c)) (fun r wx hR h1 => exg oneS rfl h1 (cv15 (hb2.ext hR)))) ?_
  refine Gc ?_ ?_
  ·
   rintro r wx hR ⟨h1, h2, h3, _⟩
   replace h1 : r (.func 43) = .func (.func 43) #[] #[] := h1
   replace h2 : Under (((sb_7 c d))) (.slice s.iA s.iN s.iC) wx (r (.tmp 68)) := h2
   replace h3 : Under (((sb_7 c d))) (.slice u.iA u.iN u.iC) wx (r (.tmp 70)) := h3
   intro gb hgb
   refine guard_u (C := ((sb_7 c d))) (b := (sb_7 c d)) (want := true) hgb (want_t _) (fun hc => ?_) (fun hc => un_ hc)
   replace h2 := h2.get hc
   replace h3 := h3.get hc
   refine give_func #[.slice s.iA s.iN s.iC, .slice u.iA u.iN u.iC] rfl h1 Try.call43 (by simp [h2, h3]) ?_
   refine (equal_any (HA.i.ext hR) (HB.i.ext hR)).mono ?_
   rintro e wz ⟨rfl, hez⟩
   exact ⟨_, rfl, hez, uy hc⟩
  refine Gc (lnA (gd0 rfl) rfl (ouI rfl) (fun _ _ h _ => h) (fun _ _ h c hb => Eq.trans h (if_pos (by first | exact hb | (rw [hb]; rfl) | (rw [c, hb]; rfl))))) ?_
  refine Gc (ln1 (gd0 rfl) rfl (ouI rfl) (fun _ _ h _ => h) (fun r wx hR h1 => exec_mv (.inl rfl) h1)) ?_
  refine Gc (ln1 (gdU rfl (fun _ _ h => h) (want_t _)) rfl (ouU rfl) (fun _ _ h _ => h) (fun r wx hR h1 => by simp [execOp, h1, go_sem])) ?_
  refine Gc (ln1 (gdU rfl (fun _ _ h => h) (want_t _)) rfl (ouU rfl) (fun _ _ h c => Eq.trans h (if_pos c)) (fun r wx hR h1 => exg oneSG rfl h1 (cv16 (hb1'.ext hR)))) ?_
  refine Gc (ln1 (gdU rfl (fun _ _ h => h) (want_t _)) rfl (ouU rfl) (fun _ _ h _ => h) (fun r wx hR h1 => by simp [execOp, h1, go_sem])) ?_
  refine Gc (ln1 (gdU rfl (fun _ _ h => h) (want_t _)) rfl (ouU rfl) (fun _ _ h c => Eq.trans h (if_pos c)) (fun r wx hR h1 => exg oneSG rfl h1 (cv16 (hb2.ext hR)))) ?_
  refine Gc ?_ ?_
  ·
   rintro r wx hR ⟨h1, h2, h3, _⟩
   replace h1 : r (.func 58) = .func (.func 58) #[] #[] := h1
   replace h2 : Under (((sb_8 c d))) (.slice s.gA s.gN s.gC) wx (r (.tmp 75)) := h2
   replace h3 : Under (((sb_8 c d))) (.slice u.gA u.gN u.gC) wx (r (.tmp 77)) := h3
   intro gb hgb
   refine guard_u (C := ((sb_8 c d))) (b := (sb_8 c d)) (want := true) hgb (want_t _) (fun hc => ?_) (fun hc => un_ hc)
   replace h2 := h2.get hc
   replace h3 := h3.get hc
   refine give_func #[.slice s.gA s.gN s.gC, .slice u.gA u.gN u.gC] rfl h1 Try.call58 (by simp [h2, h3]) ?_
   refine (eqG_any (HA.g.ext hR) (HB.g.ext hR)).mono ?_
   rintro e wz ⟨rfl, hez⟩
   exact ⟨_, rfl, hez, uy hc⟩
  refine Gc (lnA (gd0 rfl) rfl (ouI rfl) (fun _ _ h _ => h) (fun _ _ h c hb => Eq.trans h (if_pos (by first | exact hb | (rw [hb]; rfl) | (rw [c, hb]; rfl))))) ?_
  refine Gc (ln1 (gd0 rfl) rfl (ouI rfl) (fun _ _ h _ => h) (fun r wx hR h1 => exec_mv (.inl rfl) h1)) ?_
  refine Gc (ln1 (gdU rfl (fun _ _ h => h) (want_t _)) rfl (ouU rfl) (fun _ _ h _ => h) (fun r wx hR h1 => by simp [execOp, h1, go_sem])) ?_
  refine Gc (ln1 (gdU rfl (fun _ _ h => h) (want_t _)) rfl (ouU rfl) (fun _ _ h c => Eq.trans h (if_pos c)) (fun r wx hR h1 => exg oneSD rfl h1 (cv17 (hb1'.ext hR)))) ?_
  refine Gc (ln1 (gdU rfl (fun _ _ h => h) (want_t _)) rfl (ouU rfl) (fun _ _ h _ => h) (fun r wx hR h1 => by simp [execOp, h1, go_sem])) ?_
  refine Gc (ln1 (gdU rfl (fun _ _ h => h) (want_t _)) rfl (ouU rfl) (fun _ _ h c => Eq.trans h (if_pos c)) (fun r wx hR h1 => exg oneSD rfl h1 (cv17 (hb2.ext hR)))) ?_
  refine Gc ?_ ?_
  ·
   rintro r wx hR ⟨h1, h2, h3, _⟩
   replace h1 : r (.func 59) = .func (.func 59) #[] #[] := h1
   replace h2 : Under (((sb_9 c d))) (.slice s.dA s.dN s.dC) wx (r (.tmp 82)) := h2
   replace h3 : Under (((sb_9 c d))) (.slice u.dA u.dN u.dC) wx (r (.tmp 84)) := h3
   intro gb hgb
   refine guard_u (C := ((sb_9 c d))) (b := (sb_9 c d)) (want := true) hgb (want_t _) (fun hc => ?_) (fun hc => un_ hc)
   replace h2 := h2.get hc
   replace h3 := h3.get hc
   refine give_func #[.slice s.dA s.dN s.dC, .slice u.dA u.dN u.dC] rfl h1 Try.call59 (by simp [h2, h3]) ?_
   refine (eqD_any (HA.d.ext hR) (HB.d.ext hR)).mono ?_
   rintro e wz ⟨rfl, hez⟩
   exact ⟨_, rfl, hez, uy hc⟩
  refine Gc (lnA (gd0 rfl) rfl (ouI rfl) (fun _ _ h _ => h) (fun _ _ h c hb => Eq.trans h (if_pos (by first | exact hb | (rw [hb]; rfl) | (rw [c, hb]; rfl))))) ?_
  refine Gc (ln1 (gd0 rfl) rfl (ouI rfl) (fun _ _ h _ => h) (fun r wx hR h1 => exec_mv (.inl rfl) h1)) ?_
  refine Gc (ln1 (gdU rfl (fun _ _ h => h) (want_t _)) rfl (ouU rfl) (fun _ _ h _ => h) (fun r wx hR h1 => by simp [execOp, h1, go_sem])) ?_
  refine Gc (ln1 (gdU rfl (fun _ _ h => h) (want_t _)) rfl (ouU rfl) (fun _ _ h c => Eq.trans h (if_pos c)) (fun r wx hR h1 => exg one3 rfl h1 (cv18 (hb1'.ext hR)))) ?_
  refine Gc (ln1 (gdU rfl (fun _ _ h => h) (want_t _)) rfl (ouU rfl) (fun _ _ h _ => h) (fun r wx hR h1 => by simp [execOp, h1, go_sem])) ?_
  refine Gc (ln1 (gdU rfl (fun _ _ h => h) (want_t _)) rfl (ouU rfl) (fun _ _ h c => Eq.trans h (if_pos c)) (fun r wx hR h1 => exg one3 rfl h1 (cv18 (hb2.ext hR)))) ?_
  refine Gc (ln2 (gdU rfl (fun _ _ h => h) (want_t _)) rfl (ouU rfl) (fun _ _ h c => Eq.trans h (if_pos c)) (fun _ _ h c => Eq.trans h (if_pos c)) (fun r wx hR h1 h2 => by simp [execOp, h1, h2, go_sem])) ?_
  refine Gc (lnA (gd0 rfl) rfl (ouI rfl) (fun _ _ h _ => h) (fun _ _ h c hb => Eq.trans h (if_pos (by first | exact hb | (rw [hb]; rfl) | (rw [c, hb]; rfl))))) ?_
  refine Gc (ln1 (gd0 rfl) rfl (ouI rfl) (fun _ _ h _ => h) (fun r wx hR h1 => exec_mv (.inl rfl) h1)) ?_
  refine Gc (ln1 (gdU rfl (fun _ _ h => h) (want_t _)) rfl (ouU rfl) (fun _ _ h _ => h) (fun r wx hR h1 => by simp [execOp, h1, go_sem])) ?_
  refine Gc (ln1 (gdU rfl (fun _ _ h => h) (want_t _)) rfl (ouU rfl) (fun _ _ h c => Eq.trans h (if_pos c)) (fun r wx hR h1 => exg one22 rfl h1 (cv19 (hb1'.ext hR)))) ?_
  refine Gc (ln1 (gdU rfl (fun _ _ h => h) (want_t _)) rfl (ouU rfl) (fun _ _ h _ => h) (fun r wx hR h1 => by simp [execOp, h1, go_sem])) ?_
  refine Gc (ln1 (gdU rfl (fun _ _ h => h) (want_t _)) rfl (ouU rfl) (fun _ _ h c => Eq.trans h (if_pos c)) (fun r wx hR h1 => exg one22 rfl h1 (cv19 (hb2.ext hR)))) ?_
  refine Gc (ln2 (gdU rfl (fun _ _ h => h) (want_t _)) rfl (ouU rfl) (fun _ _ h c => Eq.trans h (if_pos c)) (fun _ _ h c => Eq.trans h (if_pos c)) (fun r wx hR h1 h2 => by simp [execOp, h1, h2, go_sem])) ?_
  refine Gc (lnA (gd0 rfl) rfl (ouI rfl) (fun _ _ h _ => h) (fun _ _ h c hb => Eq.trans h (if_pos (by first | exact hb | (rw [hb]; rfl) | (rw [c, hb]; rfl))))) ?_
  refine Gc (ln1 (gd0 rfl) rfl (ouI rfl) (fun _ _ h _ => h) (fun r wx hR h1 => exec_mv (.inl rfl) h1)) ?_
  refine Gc (ln1 (gdU rfl (fun _ _ h => h) (want_t _)) rfl (ouU rfl) (fun _ _ h _ => h) (fun r wx hR h1 => by simp [execOp, h1, go_sem])) ?_
  refine Gc (ln1 (gdU rfl (fun _ _ h => h) (want_t _)) rfl (ouU rfl) (fun _ _ h c => Eq.trans h (if_pos c)) (fun r wx hR h1 => exg oneSO rfl h1 (cv20 (hb1'.ext hR)))) ?_
  refine Gc (ln1 (gdU rfl (fun _ _ h => h) (want_t _)) rfl (ouU rfl) (fun _ _ h _ => h) (fun r wx hR h1 => by simp [execOp, h1, go_sem])) ?_
  refine Gc (ln1 (gdU rfl (fun _ _ h => h) (want_t _)) rfl (ouU rfl) (fun _ _ h c => Eq.trans h (if_pos c)) (fun r wx hR h1 => exg oneSO rfl h1 (cv20 (hb2.ext hR)))) ?_
  refine Gc ?_ ?_
  ·
   rintro r wx hR ⟨h1, h2, h3, _⟩
   replace h1 : r (.func 60) = .func (.func 60) #[] #[] := h1
   replace h2 : Under (((sb_12 c d))) (.slice s.oA s.oN s.oC) wx (r (.tmp 103)) := h2
   replace h3 : Under (((sb_12 c d))) (.slice u.oA u.oN u.oC) wx (r (.tmp 105)) := h3
   intro gb hgb
   refine guard_u (C := ((sb_12 c d))) (b := (sb_12 c d)) (want := true) hgb (want_t _) (fun hc => ?_) (fun hc => un_ hc)
   replace h2 := h2.get hc
   replace h3 := h3.get hc
   refine give_func #[.slice s.oA s.oN s.oC, .slice u.oA u.oN u.oC] rfl h1 Try.call60 (by simp [h2, h3]) ?_
   refine (eqO_any (HA.o.ext hR) (HB.o.ext hR)).mono ?_
   rintro e wz ⟨rfl, hez⟩
   exact ⟨_, rfl, hez, uy hc⟩
  refine Gc (lnA (gd0 rfl) rfl (ouI rfl) (fun _ _ h _ => h) (fun _ _ h c hb => Eq.trans h (if_pos (by first | exact hb | (rw [hb]; rfl) | (rw [c, hb]; rfl))))) ?_
  refine Gc (ln1 (gd0 rfl) rfl (ouI rfl) (fun _ _ h _ => h) (fun r wx hR h1 => exec_mv (.inl rfl) h1)) ?_
  refine Gc (ln1 (gdU rfl (fun _ _ h => h) (want_t _)) rfl (ouU rfl) (fun _ _ h _ => h) (fun r wx hR h1 => by simp [execOp, h1, go_sem])) ?_
  refine Gc (ln1 (gdU rfl (fun _ _ h => h) (want_t _)) rfl (ouU rfl) (fun _ _ h c => Eq.trans h (if_pos c)) (fun r wx hR h1 => exg one4 rfl h1 (cv21 (hb1'.ext hR)))) ?_
  refine Gc (ln1 (gdU rfl (fun _ _ h => h) (want_t _)) rfl (ouU rfl) (fun _ _ h _ => h) (fun r wx hR h1 => by simp [execOp, h1, go_sem])) ?_
  refine Gc (ln1 (gdU rfl (fun _ _ h => h) (want_t _)) rfl (ouU rfl) (fun _ _ h c => Eq.trans h (if_pos c)) (fun r wx hR h1 => exg one4 rfl h1 (cv21 (hb2.ext hR)))) ?_
  refine Gc (ln2 (gdU rfl (fun _ _ h => h) (want_t _)) rfl (ouU rfl) (fun _ _ h c => Eq.trans h (if_pos c)) (fun _ _ h c => Eq.trans h (if_pos c)) (fun r wx hR h1 h2 => by simp [execOp, h1, h2, go_sem])) ?_
  refine Gc (lnA (gd0 rfl) rfl (ouI rfl) (fun _ _ h _ => h) (fun _ _ h c hb => Eq.trans h (if_pos (by first | exact hb | (rw [hb]; rfl) | (rw [c, hb]; rfl))))) ?_
  refine Gc (ln1 (gd0 rfl) rfl (ouI rfl) (fun _ _ h _ => h) (fun r wx hR h1 => exec_mv (.inr rfl) h1)) ?_
  exact GoodAll.nil
 ·
  intro vs wE aE hR hold haE
  have hv : vs 110 = .bool (((((((((((((((((c.kind : Int) == (d.kind : Int)) && ((samePB c d))) && ((((c.tag : Int) : Int) == ((d.tag : Int) : Int)))) && (((c.win : Int) == (d.win : Int)))) && (((c.out : Int) == (d.out : Int)))) && (((c.inn : Int) == (d.inn : Int)))) && ((((c.tsn : Int) : Int) == ((d.tsn : Int) : Int)))) && ((decide (c.rand = d.rand)))) && ((decide (c.addrs = d.addrs)))) && ((decide (c.info = d.info)))) && ((decide (c.gaps = d.gaps)))) && ((decide (ci c.dups = ci d.dups)))) && (((c.cause : Int) == (d.cause : Int)))) && ((((c.serial : Int) : Int) == ((d.serial : Int) : Int)))) && ((decide (c.ops = d.ops)))) && (((c.ok) == (d.ok)))) := hold.at 110
  refine ‹∀ (a : Act) (w : World), Code.wp Try.prog Code.ret _ a w → _› _ _ ?_
  refine wp_ret ?_
  have hs : aE.tmps[4]? = some (.bool (((((((((((((((((c.kind : Int) == (d.kind : Int)) && ((samePB c d))) && ((((c.tag : Int) : Int) == ((d.tag : Int) : Int)))) && (((c.win : Int) == (d.win : Int)))) && (((c.out : Int) == (d.out : Int)))) && (((c.inn : Int) == (d.inn : Int)))) && ((((c.tsn : Int) : Int) == ((d.tsn : Int) : Int)))) && ((decide (c.rand = d.rand)))) && ((decide (c.addrs = d.addrs)))) && ((decide (c.info = d.info)))) && ((decide (c.gaps = d.gaps)))) && ((decide (ci c.dups = ci d.dups)))) && (((c.cause : Int) == (d.cause : Int)))) && ((((c.serial : Int) : Int) == ((d.serial : Int) : Int)))) && ((decide (c.ops = d.ops)))) && (((c.ok) == (d.ok))))) := by rw [haE, ← hv]; kernel_rfl
  have hdf : aE.defers = [] := by rw [haE]; exact putAll_defers _ _ _ _
  clear haE
  refine bodyPost_ret (v := .bool (((((((((((((((((c.kind : Int) == (d.kind : Int)) && ((samePB c d))) && ((((c.tag : Int) : Int) == ((d.tag : Int) : Int)))) && (((c.win : Int) == (d.win : Int)))) && (((c.out : Int) == (d.out : Int)))) && (((c.inn : Int) == (d.inn : Int)))) && ((((c.tsn : Int) : Int) == ((d.tsn : Int) : Int)))) && ((decide (c.rand = d.rand)))) && ((decide (c.addrs = d.addrs)))) && ((decide (c.info = d.info)))) && ((decide (c.gaps = d.gaps)))) && ((decide (ci c.dups = ci d.dups)))) && (((c.cause : Int) == (d.cause : Int)))) && ((((c.serial : Int) : Int) == ((d.serial : Int) : Int)))) && ((decide (c.ops = d.ops)))) && (((c.ok) == (d.ok))))) ?_ hdf ⟨rfl, (he1.trans he2).trans hR⟩
  simp [results, Try.results25, go_sem, hs]
set_option maxRecDepth 100000
set_option maxHeartbeats 2000000 in
theorem indexO_any {w : World} {a : Option Addr} {n cp : Nat} {L : List (Int × Int)} (h : PairsAt w (.slice a n cp) L) :
  Calls Try.prog 101 #[.slice a n cp, .func (.func 92) #[] #[]] w (FindIs w (opsB L)) := by
 have HN : Hid (PairsAt w (.slice a n cp) L ∧ n = L.length) := ⟨h, h.len.1⟩
 have hmx := h.len.2.1
 unfold maxLen at hmx
 clear h
 go_enter Try.func101, Try.ntmps101
 go_wp2
 go_loopg [8] n (fun gm t wr => ∃ k : Nat, k ≤ n ∧ gm = n - k ∧ t = .int .i64 (k : Int) ∧ Hid (Ext w wr ∧ ∀ j, j < k → opB (L.getD j (0, 0)) = true))
 case atStart => exact ⟨0, Nat.zero_le _, rfl, rfl, Ext.refl _, fun j hj => by omega⟩
 case round =>
  obtain ⟨k, hk, rfl, rfl, HR⟩ := hrel
  by_cases hlt : k < n
  ·
   have hd : decide ((k : Int) < (n : Int)) = true := decide_eq_true (by omega)
   have hkL : k < L.length := by rw [← HN.out.2]; exact hlt
   obtain ⟨b, off, rfl, hc0, hc1⟩ := HN.out.1.cellAt k hkL
   replace hc0 := HR.out.1.cell hc0
   replace hc1 := HR.out.1.cell hc1
   have HKL : Hid (k < L.length) := hkL
   clear hkL
   obtain ⟨p, hp⟩ : ∃ p, p = L.getD k (0, 0) := ⟨_, rfl⟩
   rw [← hp] at hc0 hc1
   obtain ⟨x, y⟩ := p
   dsimp only at hc0 hc1
   have HXX : Hid ((x, y) = L.getD k (0, 0)) := hp
   clear hp
   have hkn : (k : Int) < (n : Int) := by omega
   cases hb : opB (x, y) with
   | true =>
    go_wp2_with (first
     | (refine wl_loadP rfl rowOp rfl rfl hc0 hc1 ?_)
     | (go_at_call 92; refine (opsC_any _ _ _).mono ?_; rintro e w2 ⟨rfl, he2⟩; rw [hb]))
    go_roundg (n - (k + 1))
    case measure => omega
    case rel =>
     refine ⟨k + 1, by omega, rfl, by simp, HR.out.1.trans he2, fun j hj => ?_⟩
     by_cases hjk : j = k
     ·
      subst hjk; rw [← HXX.out]; exact hb
     ·
      exact HR.out.2 j (by omega)
   | false =>
    have HF : Hid (opsB L = false) := not_all_at (0, 0) HKL.out (by rw [← HXX.out]; exact hb)
    go_wp2_with (first
     | (refine wl_loadP rfl rowOp rfl rfl hc0 hc1 ?_)
     | (go_at_call 92; refine (opsC_any _ _ _).mono ?_; rintro e w2 ⟨rfl, he2⟩; rw [hb]))
    go_ret
    exact ⟨_, rfl, by rw [HF.out]; simp, HR.out.1.trans he2⟩
  ·
   have hd : decide ((k : Int) < (n : Int)) = false := decide_eq_false (by omega)
   have HF : Hid (opsB L = true) := all_at (0, 0) (fun j hj => HR.out.2 j (by have := HN.out.2; omega))
   go_wp2
   go_ret
   exact ⟨_, rfl, by rw [HF.out]; rfl, HR.out.1⟩
theorem hasA_any {w : World} {a : Option Addr} {n cp : Nat} {L : List Int} (h : NumsAt .i64 w (.slice a n cp) L) :
  Calls Try.prog 99 #[.slice a n cp, .func (.func 100) #[] #[]] w fun e w' => e = .returned (.bool (!adsB L)) ∧ Ext w w' := by
 go_enter Try.func99, Try.ntmps99
 go_wp2_with (first
  | (go_at_call 103; refine (indexA_any h).mono ?_; rintro e w2 ⟨i, rfl, hi, he2⟩))
 go_ret
 exact ⟨rfl, he2⟩
theorem hasO_any {w : World} {a : Option Addr} {n cp : Nat} {L : List (Int × Int)} (h : PairsAt w (.slice a n cp) L) :
  Calls Try.prog 91 #[.slice a n cp, .func (.func 92) #[] #[]] w fun e w' => e = .returned (.bool (!opsB L)) ∧ Ext w w' := by
 go_enter Try.func91, Try.ntmps91
 go_wp2_with (first
  | (go_at_call 101; refine (indexO_any h).mono ?_; rintro e w2 ⟨i, rfl, hi, he2⟩))
 go_ret
 exact ⟨rfl, he2⟩
set_option maxHeartbeats 2000000 in
theorem addrsFit_any {w : World} {a : Option Addr} {n cp : Nat} {L : List Int} (h : NumsAt .i64 w (.slice a n cp) L) :
  Calls Try.prog 90 #[.slice a n cp] w fun e w' => e = .returned (.bool (inB (L.length : Int) 1 4 && adsB L)) ∧ Ext w w' := by
 have HA := h
 have hn : n = L.length := (nums_len h).1
 rw [← hn]
 have e1 : ∀ b : Bool, (inB (n : Int) 1 4 && b) = (inB (n : Int) 1 4 && (!(!b))) := fun b => by cases b <;> simp
 rw [e1]
 clear hn h e1
 go_enter Try.func90, Try.ntmps90
 refine wp_seq_k (fun K hK => ?_)
 have HK := Stop.mk hK
 clear hK
 go_wp2
 refine HK.go _ _ ?_
 refine wp_seq_k (fun K2 hK2 => ?_)
 refine wp_line (fun t => bif Nat.ble 3 t && Nat.ble t 10 then some (t - 3) else bif Nat.beq t 2 then some 8 else none) 11 Ext
  [Is (.slice a n cp),
   Is (.int .i64 (n : Int)),
   Is (.bool (inB ((n : Int)) (1) (4))),
   Is (.bool (inB ((n : Int)) (1) (4))),
   Under (((inB ((n : Int)) (1) (4)))) (.slice a n cp),
   Under (((inB ((n : Int)) (1) (4)))) (.bool (!adsB L)),
   Under (((inB ((n : Int)) (1) (4)))) (.bool (!((!adsB L)))),
   Is (.bool ((inB ((n : Int)) (1) (4)) && ((!((!adsB L)))))),
   Is (.bool ((inB ((n : Int)) (1) (4)) && ((!((!adsB L))))))]
  rfl (by kernel_rfl) rfl Ext.refl (fun _ _ _ => Ext.trans) (Ks (Ks (Ks (Ks (Ku (Ku (Ku (Ks (Ks (KeepAll.nil)))))))))) ?_ ?_
 ·
  refine Gc (ln1 (gd0 rfl) rfl (ouI rfl) (fun _ _ h _ => h) (fun r wx hR h1 => exec_mv (.inl rfl) h1)) ?_
  refine Gc (ln1 (gd0 rfl) rfl (ouI rfl) (fun _ _ h _ => h) (fun r wx hR h1 => by replace h1 : r (.tmp 3) = _ := h1; simp [execOp, h1, go_sem])) ?_
  refine Gc ?_ ?_
  ·
   rintro r wx hR ⟨h1, h2, h3, h4, _⟩
   replace h1 : r (.func 69) = .func (.func 69) #[] #[] := h1
   replace h2 : r (.tmp 4) = .int .i64 (n : Int) := h2
   replace h3 : r (.const (.int .i64 1)) = .int .i64 1 := h3
   replace h4 : r (.const (.int .i64 4)) = .int .i64 4 := h4
   refine give_func #[.int .i64 (n : Int), .int .i64 1, .int .i64 4] rfl h1 Try.call69 (by simp [h2, h3, h4]) ?_
   refine (within_any _ _ _ _).mono ?_
   rintro e wz ⟨rfl, hez⟩
   exact ⟨_, rfl, hez, rfl⟩
  refine Gc (ln1 (gd0 rfl) rfl (ouI rfl) (fun _ _ h _ => h) (fun r wx hR h1 => exec_mv (.inl rfl) h1)) ?_
  refine Gc (ln1 (gdU rfl (fun _ _ h => h) (want_t _)) rfl (ouU rfl) (fun _ _ h _ => h) (fun r wx hR h1 => exec_mv (.inl rfl) h1)) ?_
  refine Gc ?_ ?_
  ·
   rintro r wx hR ⟨h1, h2, h3, _⟩
   replace h1 : r (.func 99) = .func (.func 99) #[] #[] := h1
   replace h2 : Under (((inB ((n : Int)) (1) (4)))) (.slice a n cp) wx (r (.tmp 7)) := h2
   replace h3 : r (.func 100) = .func (.func 100) #[] #[] := h3
   intro gb hgb
   refine guard_u (C := ((inB ((n : Int)) (1) (4)))) (b := (inB ((n : Int)) (1) (4))) (want := true) hgb (want_t _) (fun hc => ?_) (fun hc => un_ hc)
   replace h2 := h2.get hc
   refine give_func #[.slice a n cp, .func (.func 100) #[] #[]] rfl h1 Try.call99 (by simp [h2, h3]) ?_
   refine (hasA_any (HA.ext hR)).mono ?_
   rintro e wz ⟨rfl, hez⟩
   exact ⟨_, rfl, hez, uy hc⟩
  refine Gc (ln1 (gdU rfl (fun _ _ h => h) (want_t _)) rfl (ouU rfl) (fun _ _ h c => Eq.trans h (if_pos c)) (fun r wx hR h1 => by simp [execOp, h1, go_sem])) ?_
  refine Gc (lnA (gd0 rfl) rfl (ouI rfl) (fun _ _ h _ => h) (fun _ _ h c hb => Eq.trans h (if_pos (by first | exact hb | (rw [hb]; rfl) | (rw [c, hb]; rfl))))) ?_
  refine Gc (ln1 (gd0 rfl) rfl (ouI rfl) (fun _ _ h _ => h) (fun r wx hR h1 => exec_mv (.inr rfl) h1)) ?_
  exact GoodAll.nil
 ·
  intro vs wE aE hR hold haE
  have hv : vs 8 = .bool ((inB ((n : Int)) (1) (4)) && ((!((!adsB L))))) := hold.at 8
  refine ‹∀ (a : Act) (w : World), Code.wp Try.prog Code.ret _ a w → _› _ _ ?_
  refine wp_ret ?_
  have hs : aE.tmps[2]? = some (.bool ((inB ((n : Int)) (1) (4)) && ((!((!adsB L)))))) := by rw [haE, ← hv]; kernel_rfl
  have hdf : aE.defers = [] := by rw [haE]; exact putAll_defers _ _ _ _
  clear haE
  refine bodyPost_ret (v := .bool ((inB ((n : Int)) (1) (4)) && ((!((!adsB L)))))) ?_ hdf ⟨rfl, hR⟩
  simp [results, Try.results90, go_sem, hs]
set_option maxHeartbeats 2000000 in
theorem opsFit_any {w : World} {a : Option Addr} {n cp : Nat} {L : List (Int × Int)} (h : PairsAt w (.slice a n cp) L) :
  Calls Try.prog 74 #[.slice a n cp] w fun e w' => e = .returned (.bool (inB (L.length : Int) 1 9 && opsB L)) ∧ Ext w w' := by
 have HA := h
 have hn : n = L.length := h.len.1
 rw [← hn]
 have e1 : ∀ b : Bool, (inB (n : Int) 1 9 && b) = (inB (n : Int) 1 9 && (!(!b))) := fun b => by cases b <;> simp
 rw [e1]
 clear hn h e1
 go_enter Try.func74, Try.ntmps74
 refine wp_seq_k (fun K hK => ?_)
 have HK := Stop.mk hK
 clear hK
 go_wp2
 refine HK.go _ _ ?_
 refine wp_seq_k (fun K2 hK2 => ?_)
 refine wp_line (fun t => bif Nat.ble 3 t && Nat.ble t 10 then some (t - 3) else bif Nat.beq t 2 then some 8 else none) 11 Ext
  [Is (.slice a n cp),
   Is (.int .i64 (n : Int)),
   Is (.bool (inB ((n : Int)) (1) (9))),
   Is (.bool (inB ((n : Int)) (1) (9))),
   Under (((inB ((n : Int)) (1) (9)))) (.slice a n cp),
   Under (((inB ((n : Int)) (1) (9)))) (.bool (!opsB L)),
   Under (((inB ((n : Int)) (1) (9)))) (.bool (!((!opsB L)))),
   Is (.bool ((inB ((n : Int)) (1) (9)) && ((!((!opsB L)))))),
   Is (.bool ((inB ((n : Int)) (1) (9)) && ((!((!opsB L))))))]
  rfl (by kernel_rfl) rfl Ext.refl (fun _ _ _ => Ext.trans) (Ks (Ks (Ks (Ks (Ku (Ku (Ku (Ks (Ks (KeepAll.nil)))))))))) ?_ ?_
 ·
  refine Gc (ln1 (gd0 rfl) rfl (ouI rfl) (fun _ _ h _ => h) (fun r wx hR h1 => exec_mv (.inl rfl) h1)) ?_
  refine Gc (ln1 (gd0 rfl) rfl (ouI rfl) (fun _ _ h _ => h) (fun r wx hR h1 => by replace h1 : r (.tmp 3) = _ := h1; simp [execOp, h1, go_sem])) ?_
  refine Gc ?_ ?_
  ·
   rintro r wx hR ⟨h1, h2, h3, h4, _⟩
   replace h1 : r (.func 69) = .func (.func 69) #[] #[] := h1
   replace h2 : r (.tmp 4) = .int .i64 (n : Int) := h2
   replace h3 : r (.const (.int .i64 1)) = .int .i64 1 := h3
   replace h4 : r (.const (.int .i64 9)) = .int .i64 9 := h4
   refine give_func #[.int .i64 (n : Int), .int .i64 1, .int .i64 9] rfl h1 Try.call69 (by simp [h2, h3, h4]) ?_
   refine (within_any _ _ _ _).mono ?_
   rintro e wz ⟨rfl, hez⟩
   exact ⟨_, rfl, hez, rfl⟩
  refine Gc (ln1 (gd0 rfl) rfl (ouI rfl) (fun _ _ h _ => h) (fun r wx hR h1 => exec_mv (.inl rfl) h1)) ?_
  refine Gc (ln1 (gdU rfl (fun _ _ h => h) (want_t _)) rfl (ouU rfl) (fun _ _ h _ => h) (fun r wx hR h1 => exec_mv (.inl rfl) h1)) ?_
  refine Gc ?_ ?_
  ·
   rintro r wx hR ⟨h1, h2, h3, _⟩
   replace h1 : r (.func 91) = .func (.func 91) #[] #[] := h1
   replace h2 : Under (((inB ((n : Int)) (1) (9)))) (.slice a n cp) wx (r (.tmp 7)) := h2
   replace h3 : r (.func 92) = .func (.func 92) #[] #[] := h3
   intro gb hgb
   refine guard_u (C := ((inB ((n : Int)) (1) (9)))) (b := (inB ((n : Int)) (1) (9))) (want := true) hgb (want_t _) (fun hc => ?_) (fun hc => un_ hc)
   replace h2 := h2.get hc
   refine give_func #[.slice a n cp, .func (.func 92) #[] #[]] rfl h1 Try.call91 (by simp [h2, h3]) ?_
   refine (hasO_any (HA.ext hR)).mono ?_
   rintro e wz ⟨rfl, hez⟩
   exact ⟨_, rfl, hez, uy hc⟩
  refine Gc (ln1 (gdU rfl (fun _ _ h => h) (want_t _)) rfl (ouU rfl) (fun _ _ h c => Eq.trans h (if_pos c)) (fun r wx hR h1 => by simp [execOp, h1, go_sem])) ?_
  refine Gc (lnA (gd0 rfl) rfl (ouI rfl) (fun _ _ h _ => h) (fun _ _ h c hb => Eq.trans h (if_pos (by first | exact hb | (rw [hb]; rfl) | (rw [c, hb]; rfl))))) ?_
  refine Gc (ln1 (gd0 rfl) rfl (ouI rfl) (fun _ _ h _ => h) (fun r wx hR h1 => exec_mv (.inr rfl) h1)) ?_
  exact GoodAll.nil
 ·
  intro vs wE aE hR hold haE
  have hv : vs 8 = .bool ((inB ((n : Int)) (1) (9)) && ((!((!opsB L))))) := hold.at 8
  refine ‹∀ (a : Act) (w : World), Code.wp Try.prog Code.ret _ a w → _› _ _ ?_
  refine wp_ret ?_
  have hs : aE.tmps[2]? = some (.bool ((inB ((n : Int)) (1) (9)) && ((!((!opsB L)))))) := by rw [haE, ← hv]; kernel_rfl
  have hdf : aE.defers = [] := by rw [haE]; exact putAll_defers _ _ _ _
  clear haE
  refine bodyPost_ret (v := .bool ((inB ((n : Int)) (1) (9)) && ((!((!opsB L)))))) ?_ hdf ⟨rfl, hR⟩
  simp [results, Try.results74, go_sem, hs]
/-- Whether gaps stand one behind the other, the first behind a. -/
def gapsB (a : Int) : List (Int × Int) → Bool
 | [] => true
 | p :: L => !(decide (p.1 < a + 2) || (decide (p.1 > p.2) || decide (p.2 > 65535))) && gapsB p.2 L
theorem gapsB_cons (a : Int) (p : Int × Int) (L : List (Int × Int)) : gapsB a (p :: L) = (!(decide (p.1 < a + 2) || (decide (p.1 > p.2) || decide (p.2 > 65535))) && gapsB p.2 L) := rfl
theorem one_pair (x y : Int) : ∀ v ∈ (#[Value.int .i64 x, .int .i64 y] : Array Value).toList, v.oneCell' = true := by
 intro v hv
 simp at hv
 rcases hv with rfl | rfl <;> rfl
theorem zeroGp : (Try.prog.info? 67).bind (·.zero) = some (.agg #[.int .i64 0, .int .i64 0]) := by kernel_rfl
theorem drop_pair {L : List (Int × Int)} {k : Nat} (h : k < L.length) : L.drop k = L.getD k (0, 0) :: L.drop (k + 1) := by
 rw [List.drop_eq_getElem_cons h]; simp [List.getD_eq_getElem?_getD, h]
set_option maxHeartbeats 4000000 in
theorem gapsFit_any {w : World} {a : Option Addr} {n cp : Nat} {L : List (Int × Int)} (h : PairsAt w (.slice a n cp) L) :
  Calls Try.prog 73 #[.slice a n cp] w fun e w' => e = .returned (.bool (gapsB (-1) L && decide ((L.length : Int) ≤ 16))) ∧ Ext w w' := by
 have HN : Hid (PairsAt w (.slice a n cp) L ∧ n = L.length) := ⟨h, h.len.1⟩
 have hmx := h.len.2.1
 unfold maxLen at hmx
 clear h
 obtain ⟨G, hG⟩ : ∃ G, G = gapsB (-1) L := ⟨_, rfl⟩
 rw [← HN.out.2, ← hG]
 have HG : Hid (G = gapsB (-1) (L.drop 0)) := hG
 clear hG
 go_enter Try.func73, Try.ntmps73
 go_wp2
 go_loopg [3, 8] n (fun gm u t wr => ∃ (k : Nat) (z : Int), k ≤ n ∧ gm = n - k ∧ u = .int .i64 z ∧ t = .int .i64 (k : Int) ∧ -1 ≤ z ∧ z ≤ 65535 ∧ Hid (Ext w wr ∧ G = gapsB z (L.drop k)))
 case atStart => exact ⟨0, -1, Nat.zero_le _, rfl, rfl, rfl, by omega, by omega, Ext.refl _, HG.out⟩
 case round =>
  obtain ⟨k, z, hk, rfl, rfl, rfl, hz1, hz2, HR⟩ := hrel
  by_cases hlt : k < n
  ·
   have hd : decide ((k : Int) < (n : Int)) = true := decide_eq_true (by omega)
   have hkL : k < L.length := by rw [← HN.out.2]; exact hlt
   obtain ⟨b, off, rfl, hc0, hc1⟩ := HN.out.1.cellAt k hkL
   replace hc0 := HR.out.1.cell hc0
   replace hc1 := HR.out.1.cell hc1
   have HKL : Hid (L.drop k = L.getD k (0, 0) :: L.drop (k + 1)) := drop_pair hkL
   clear hkL
   obtain ⟨p, hp⟩ : ∃ p, p = L.getD k (0, 0) := ⟨_, rfl⟩
   rw [← hp] at hc0 hc1 HKL
   clear hp
   obtain ⟨x, y⟩ := p
   dsimp only at hc0 hc1
   have HQ : Hid (G = (!(decide (x < z + 2) || (decide (x > y) || decide (y > 65535))) && gapsB y (L.drop (k + 1)))) := HR.out.2.trans (by rw [HKL.out]; rfl)
   clear HKL
   by_cases h1 : x < z + 2
   ·
    have d1 : decide (x < z + 2) = true := decide_eq_true h1
    have HF : Hid (G = false) := HQ.out.trans (by rw [d1]; rfl)
    clear HQ
    go_wp2_with (first
     | (refine wl_loadP rfl rowGp rfl rfl hc0 hc1 ?_)
     | (refine wl_alloc rfl rfl zeroGp ?_; intro w2 hb2 he2 hx; clear hx)
     | (refine wl_store (D := #[.int .i64 x, .int .i64 y]) rfl rowGp rfl rfl rfl hb2 rfl rfl (one_pair x y) ?_; intro w3 hb3 hk3 hx; clear hx; have d0 := hb3.cell 0; have d1' := hb3.cell 1))
    go_ret
    exact ⟨by rw [HF.out]; rfl, HR.out.1.trans (he2.of_but hk3 (fun q e => by subst e; exact Nat.le_refl _))⟩
   have d1 : decide (x < z + 2) = false := decide_eq_false h1
   by_cases h2 : x > y
   ·
    have d2 : decide (x > y) = true := decide_eq_true h2
    have d2' : decide (y < x) = true := decide_eq_true h2
    have HF : Hid (G = false) := HQ.out.trans (by rw [d1, d2]; rfl)
    clear HQ
    go_wp2_with (first
     | (refine wl_loadP rfl rowGp rfl rfl hc0 hc1 ?_)
     | (refine wl_alloc rfl rfl zeroGp ?_; intro w2 hb2 he2 hx; clear hx)
     | (refine wl_store (D := #[.int .i64 x, .int .i64 y]) rfl rowGp rfl rfl rfl hb2 rfl rfl (one_pair x y) ?_; intro w3 hb3 hk3 hx; clear hx; have d0 := hb3.cell 0; have d1' := hb3.cell 1))
    go_ret
    exact ⟨by rw [HF.out]; rfl, HR.out.1.trans (he2.of_but hk3 (fun q e => by subst e; exact Nat.le_refl _))⟩
   have d2 : decide (x > y) = false := decide_eq_false h2
   have d2' : decide (y < x) = false := decide_eq_false h2
   by_cases h3 : y > 65535
   ·
    have d3 : decide (y > 65535) = true := decide_eq_true h3
    have d3' : decide (65535 < y) = true := decide_eq_true h3
    have HF : Hid (G = false) := HQ.out.trans (by rw [d1, d2, d3]; rfl)
    clear HQ
    go_wp2_with (first
     | (refine wl_loadP rfl rowGp rfl rfl hc0 hc1 ?_)
     | (refine wl_alloc rfl rfl zeroGp ?_; intro w2 hb2 he2 hx; clear hx)
     | (refine wl_store (D := #[.int .i64 x, .int .i64 y]) rfl rowGp rfl rfl rfl hb2 rfl rfl (one_pair x y) ?_; intro w3 hb3 hk3 hx; clear hx; have d0 := hb3.cell 0; have d1' := hb3.cell 1))
    go_ret
    exact ⟨by rw [HF.out]; rfl, HR.out.1.trans (he2.of_but hk3 (fun q e => by subst e; exact Nat.le_refl _))⟩
   have d3 : decide (y > 65535) = false := decide_eq_false h3
   have d3' : decide (65535 < y) = false := decide_eq_false h3
   have HF : Hid (G = gapsB y (L.drop (k + 1))) := HQ.out.trans (by rw [d1, d2, d3]; rfl)
   clear HQ
   have hy1 : -1 ≤ y := by omega
   have hy2 : y ≤ 65535 := by omega
   go_wp2_with (first
    | (refine wl_loadP rfl rowGp rfl rfl hc0 hc1 ?_)
    | (refine wl_alloc rfl rfl zeroGp ?_; intro w2 hb2 he2 hx; clear hx)
    | (refine wl_store (D := #[.int .i64 x, .int .i64 y]) rfl rowGp rfl rfl rfl hb2 rfl rfl (one_pair x y) ?_; intro w3 hb3 hk3 hx; clear hx; have d0 := hb3.cell 0; have d1' := hb3.cell 1))
   go_roundg (n - (k + 1))
   case measure => omega
   case rel => exact ⟨k + 1, y, by omega, rfl, rfl, by simp, hy1, hy2, HR.out.1.trans (he2.of_but hk3 (fun q e => by subst e; exact Nat.le_refl _)), HF.out⟩
  ·
   have hd : decide ((k : Int) < (n : Int)) = false := decide_eq_false (by omega)
   have HF : Hid (G = true) := HR.out.2.trans (by rw [List.drop_eq_nil_of_le (by rw [← HN.out.2]; omega)]; rfl)
   go_wp2
   go_ret
   exact ⟨by rw [HF.out]; simp, HR.out.1⟩
end Tlv
end Go.Proofs.Ytbahelhohkhkmaa
