/- Texts of the seat, one behind the other. No condition of its own. -/
import Derived.Test.YtfhoielfekeihaaDoorMgM5
import Derived.BigQuiet
import Derived.Deep.QuietTactic
import Derived.Laws.ResultCell
/- A cookie: what it holds, as cells and as lists; bounds. No condition of its own. -/
namespace Go.Proofs.YtfhoielfekeihaaDoor
namespace Tlv
open Go Go.RowKit
set_option linter.unusedVariables false
set_option linter.unusedSimpArgs false
set_option maxRecDepth 100000


/-- What a cookie holds. -/
structure Co where
  made : Int
  life : Int
  mine : Nat
  peers : Nat
  mtsn : Nat
  ptsn : Nat
  win : Int
  out : Int
  inn : Int
  addrs : List Int
  mr : List Nat
  pr : List Nat
  tm : Nat
  tp : Nat
/-- Where its lists lie. -/
structure So where
  aA : Option Addr
  aN : Nat
  aC : Nat
  mA : Option Addr
  mN : Nat
  mC : Nat
  pA : Option Addr
  pN : Nat
  pC : Nat
def co0 : Co := ⟨0, 0, 0, 0, 0, 0, 0, 0, 0, [], [], [], 0, 0⟩
def so0 : So := ⟨none, 0, 0, none, 0, 0, none, 0, 0⟩
/-- Its cells. -/
def KV (c : Co) (s : So) : Array Value := #[.int .i64 c.made, .int .i64 c.life, .int .u32 (c.mine : Int), .int .u32 (c.peers : Int), .int .u32 (c.mtsn : Int), .int .u32 (c.ptsn : Int), .int .i64 c.win, .int .i64 c.out, .int .i64 c.inn, .slice s.aA s.aN s.aC, .slice s.mA s.mN s.mC, .slice s.pA s.pN s.pC, .int .u32 (c.tm : Int), .int .u32 (c.tp : Int)]
theorem kv0 {w : World} {g T : Nat} {c : Co} {s : So} (h : Blk w g (KV c s) T) : w.cell? ⟨g, 0, none⟩ = some (.int .i64 c.made) := h.cell 0
theorem kv1 {w : World} {g T : Nat} {c : Co} {s : So} (h : Blk w g (KV c s) T) : w.cell? ⟨g, 1, none⟩ = some (.int .i64 c.life) := h.cell 1
theorem kv2 {w : World} {g T : Nat} {c : Co} {s : So} (h : Blk w g (KV c s) T) : w.cell? ⟨g, 2, none⟩ = some (.int .u32 (c.mine : Int)) := h.cell 2
theorem kv3 {w : World} {g T : Nat} {c : Co} {s : So} (h : Blk w g (KV c s) T) : w.cell? ⟨g, 3, none⟩ = some (.int .u32 (c.peers : Int)) := h.cell 3
theorem kv4 {w : World} {g T : Nat} {c : Co} {s : So} (h : Blk w g (KV c s) T) : w.cell? ⟨g, 4, none⟩ = some (.int .u32 (c.mtsn : Int)) := h.cell 4
theorem kv5 {w : World} {g T : Nat} {c : Co} {s : So} (h : Blk w g (KV c s) T) : w.cell? ⟨g, 5, none⟩ = some (.int .u32 (c.ptsn : Int)) := h.cell 5
theorem kv6 {w : World} {g T : Nat} {c : Co} {s : So} (h : Blk w g (KV c s) T) : w.cell? ⟨g, 6, none⟩ = some (.int .i64 c.win) := h.cell 6
theorem kv7 {w : World} {g T : Nat} {c : Co} {s : So} (h : Blk w g (KV c s) T) : w.cell? ⟨g, 7, none⟩ = some (.int .i64 c.out) := h.cell 7
theorem kv8 {w : World} {g T : Nat} {c : Co} {s : So} (h : Blk w g (KV c s) T) : w.cell? ⟨g, 8, none⟩ = some (.int .i64 c.inn) := h.cell 8
theorem kv9 {w : World} {g T : Nat} {c : Co} {s : So} (h : Blk w g (KV c s) T) : w.cell? ⟨g, 9, none⟩ = some (.slice s.aA s.aN s.aC) := h.cell 9
theorem kv10 {w : World} {g T : Nat} {c : Co} {s : So} (h : Blk w g (KV c s) T) : w.cell? ⟨g, 10, none⟩ = some (.slice s.mA s.mN s.mC) := h.cell 10
theorem kv11 {w : World} {g T : Nat} {c : Co} {s : So} (h : Blk w g (KV c s) T) : w.cell? ⟨g, 11, none⟩ = some (.slice s.pA s.pN s.pC) := h.cell 11
theorem kv12 {w : World} {g T : Nat} {c : Co} {s : So} (h : Blk w g (KV c s) T) : w.cell? ⟨g, 12, none⟩ = some (.int .u32 (c.tm : Int)) := h.cell 12
theorem kv13 {w : World} {g T : Nat} {c : Co} {s : So} (h : Blk w g (KV c s) T) : w.cell? ⟨g, 13, none⟩ = some (.int .u32 (c.tp : Int)) := h.cell 13
theorem KV.size (c : Co) (s : So) : (KV c s).size = 14 := rfl
theorem KV.one (c : Co) (s : So) : ∀ v ∈ (KV c s).toList, v.oneCell' = true := by
  intro v hv
  simp [KV] at hv
  rcases hv with rfl | rfl | rfl | rfl | rfl | rfl | rfl | rfl | rfl | rfl | rfl | rfl | rfl | rfl <;> rfl
theorem nums_len {k : IntKind} {w : World} {a : Option Addr} {n c : Nat} {l : List Int} (h : NumsAt k w (.slice a n c) l) : n = l.length ∧ n ≤ maxLen := by
  obtain ⟨x, y, e, _⟩ := h.form
  simp only [Value.slice.injEq] at e
  obtain ⟨rfl, rfl, rfl⟩ := e
  exact ⟨rfl, h.1⟩
theorem bytes_len {w : World} {a : Option Addr} {n c : Nat} {l : List Nat} (h : BytesAt w (.slice a n c) l) : n = l.length ∧ n ≤ maxLen := by
  obtain ⟨x, y, e, _⟩ := h.form
  simp only [Value.slice.injEq] at e
  obtain ⟨rfl, rfl, rfl⟩ := e
  exact ⟨rfl, h.2.1⟩
/-- A cookie's lists in memory. -/
structure CoAt (w : World) (s : So) (c : Co) : Prop where
  a : NumsAt .i64 w (.slice s.aA s.aN s.aC) c.addrs
  m : BytesAt w (.slice s.mA s.mN s.mC) c.mr
  p : BytesAt w (.slice s.pA s.pN s.pC) c.pr
theorem CoAt.ext {w w' : World} {s : So} {c : Co} (h : CoAt w s c) (he : Ext w w') : CoAt w' s c := ⟨h.a.ext he, h.m.ext he, h.p.ext he⟩
/-- Its numbers fit their kinds. -/
structure FitC (c : Co) : Prop where
  made : W64 c.made
  life : W64 c.life
  mine : c.mine < 4294967296
  peers : c.peers < 4294967296
  mtsn : c.mtsn < 4294967296
  ptsn : c.ptsn < 4294967296
  win : W64 c.win
  out : W64 c.out
  inn : W64 c.inn
  addrs : ∀ x ∈ c.addrs, W64 x
  tm : c.tm < 4294967296
  tp : c.tp < 4294967296
theorem rowC : RowT Tryd.prog 29 14 := ⟨⟨_, Tryd.underlying29, rfl⟩, by kernel_rfl⟩
theorem rowC2 : RowT Tryd.prog 26 14 := ⟨⟨_, Tryd.underlying26, rfl⟩, by kernel_rfl⟩
theorem one22 : OneT Tryd.prog 23 := ⟨⟨_, Tryd.underlying23, rfl⟩, by kernel_rfl⟩
theorem oneAd : OneT Tryd.prog 54 := ⟨⟨_, Tryd.underlying54, rfl⟩, by kernel_rfl⟩
theorem oneSA : OneT Tryd.prog 24 := ⟨⟨_, Tryd.underlying24, rfl⟩, by kernel_rfl⟩

/-! ### Bounds -/
def inB (n lo hi : Int) : Bool := decide (lo ≤ n) && decide (n ≤ hi)
theorem inB_iff (n lo hi : Int) : inB n lo hi = true ↔ lo ≤ n ∧ n ≤ hi := by simp [inB]
theorem within_any (n lo hi : Int) (w : World) : Calls Tryd.prog 25 #[.int .i64 n, .int .i64 lo, .int .i64 hi] w fun e w' => e = .returned (.bool (inB n lo hi)) ∧ Ext w w' := by
  unfold inB
  by_cases h1 : lo ≤ n
  · have d1 : decide (n ≥ lo) = true := decide_eq_true h1
    have d1' : decide (lo ≤ n) = true := decide_eq_true h1
    rw [d1']
    go_enter Tryd.func25, Tryd.ntmps25
    go_wp2
    go_ret
    exact ⟨by simp, Ext.refl _⟩
  · have d1 : decide (n ≥ lo) = false := decide_eq_false h1
    have d1' : decide (lo ≤ n) = false := decide_eq_false h1
    rw [d1']
    go_enter Tryd.func25, Tryd.ntmps25
    go_wp2
    go_ret
    exact ⟨by simp, Ext.refl _⟩
def adB (a : Int) : Bool := inB a 1 2147483647
def adsB (L : List Int) : Bool := L.all adB
theorem addrsC_any (a : Int) (w : World) : Calls Tryd.prog 48 #[.int .i64 a] w fun e w' => e = .returned (.bool (!adB a)) ∧ Ext w w' := by
  go_enter Tryd.func48, Tryd.ntmps48
  go_wp2_with (first
    | (go_at_call 25; refine (within_any _ _ _ _).mono ?_; rintro e w2 ⟨rfl, he2⟩))
  go_ret
  exact ⟨rfl, he2⟩
theorem not_all_at {α : Type} {f : α → Bool} {L : List α} (d : α) {k : Nat} (hk : k < L.length) (h : f (L.getD k d) = false) : L.all f = false := by
  rw [List.all_eq_false]
  exact ⟨_, getD_mem L d k hk, by rw [h]; simp⟩
theorem all_at {α : Type} {f : α → Bool} {L : List α} (d : α) (h : ∀ j, j < L.length → f (L.getD j d) = true) : L.all f = true := by
  rw [List.all_eq_true]
  intro x hx
  obtain ⟨j, hj, rfl⟩ := List.getElem_of_mem hx
  have := h j hj
  simpa [List.getD_eq_getElem?_getD, hj] using this
/-- What a search answers: where, or -1. -/
def FindIs (w : World) (b : Bool) (e : Ending) (w' : World) : Prop := ∃ i : Int, e = .returned (.int .i64 i) ∧ decide (i ≥ 0) = !b ∧ Ext w w'
set_option maxHeartbeats 2000000 in
theorem indexA_any {w : World} {a : Option Addr} {n cp : Nat} {L : List Int} (h : NumsAt .i64 w (.slice a n cp) L) :
    Calls Tryd.prog 62 #[.slice a n cp, .func (.func 48) #[] #[]] w (FindIs w (adsB L)) := by
  have HN : Hid (NumsAt .i64 w (.slice a n cp) L ∧ n = L.length) := ⟨h, (nums_len h).1⟩
  have hmx := (nums_len h).2
  unfold maxLen at hmx
  clear h
  go_enter Tryd.func62, Tryd.ntmps62
  go_wp2
  go_loopg [8] n (fun gm t wr => ∃ k : Nat, k ≤ n ∧ gm = n - k ∧ t = .int .i64 (k : Int) ∧ Hid (Ext w wr ∧ ∀ j, j < k → adB (L.getD j 0) = true))
  case atStart => exact ⟨0, Nat.zero_le _, rfl, rfl, Ext.refl _, fun j hj => by omega⟩
  case round =>
    obtain ⟨k, hk, rfl, rfl, HR⟩ := hrel
    by_cases hlt : k < n
    · have hd : decide ((k : Int) < (n : Int)) = true := decide_eq_true (by omega)
      have hkL : k < L.length := by rw [← HN.out.2]; exact hlt
      obtain ⟨b, off, rfl, hc⟩ := HN.out.1.cellAt k hkL
      have hc' := HR.out.1.cell hc
      have HX : Hid (∀ j, j = k → L.getD j 0 = L.getD k 0) := fun j h => by rw [h]
      have HKL : Hid (k < L.length) := hkL
      clear hc hkL
      obtain ⟨x, hx⟩ : ∃ x, x = L.getD k 0 := ⟨_, rfl⟩
      rw [← hx] at hc'
      have HXX : Hid (x = L.getD k 0) := hx
      clear hx
      cases hb : adB x with
      | true =>
        go_wp2_with (first
          | (go_at_call 48; refine (addrsC_any _ _).mono ?_; rintro e w2 ⟨rfl, he2⟩; rw [hb]))
        go_roundg (n - (k + 1))
        case measure => omega
        case rel =>
          refine ⟨k + 1, by omega, rfl, by simp, HR.out.1.trans he2, fun j hj => ?_⟩
          by_cases hjk : j = k
          · subst hjk; rw [← HXX.out]; exact hb
          · exact HR.out.2 j (by omega)
      | false =>
        have HF : Hid (adsB L = false) := not_all_at 0 HKL.out (by rw [← HXX.out]; exact hb)
        go_wp2_with (first
          | (go_at_call 48; refine (addrsC_any _ _).mono ?_; rintro e w2 ⟨rfl, he2⟩; rw [hb]))
        go_ret
        exact ⟨_, rfl, by rw [HF.out]; simp, HR.out.1.trans he2⟩
    · have hd : decide ((k : Int) < (n : Int)) = false := decide_eq_false (by omega)
      have HF : Hid (adsB L = true) := all_at 0 (fun j hj => HR.out.2 j (by have := HN.out.2; omega))
      go_wp2
      go_ret
      exact ⟨_, rfl, by rw [HF.out]; rfl, HR.out.1⟩
set_option maxHeartbeats 2000000 in
theorem hasA_any {w : World} {a : Option Addr} {n cp : Nat} {L : List Int} (h : NumsAt .i64 w (.slice a n cp) L) :
    Calls Tryd.prog 47 #[.slice a n cp, .func (.func 48) #[] #[]] w fun e w' => e = .returned (.bool (!adsB L)) ∧ Ext w w' := by
  go_enter Tryd.func47, Tryd.ntmps47
  go_wp2_with (first
    | (go_at_call 62; refine (indexA_any h).mono ?_; rintro e w2 ⟨i, rfl, hi, he2⟩))
  go_ret
  exact ⟨rfl, he2⟩
theorem list_same {α : Type} (d : α) {l m : List α} (hl : l.length = m.length) (h : ∀ j, j < l.length → l.getD j d = m.getD j d) : l = m := by
  apply List.ext_getElem hl
  intro j h1 h2
  have := h j h1
  simpa [List.getD_eq_getElem?_getD, h1, h2] using this

set_option maxHeartbeats 2000000 in
theorem eqA_any {w : World} {a : Option Addr} {n cp : Nat} {a' : Option Addr} {n' cp' : Nat} {l m : List Int} (h : NumsAt .i64 w (.slice a n cp) l) (h' : NumsAt .i64 w (.slice a' n' cp') m) :
    Calls Tryd.prog 37 #[.slice a n cp, .slice a' n' cp'] w fun e w' => e = .returned (.bool (decide (l = m))) ∧ Ext w w' := by
  have H : Hid (NumsAt .i64 w (.slice a n cp) l ∧ NumsAt .i64 w (.slice a' n' cp') m ∧ n = l.length ∧ n' = m.length) := ⟨h, h', (nums_len h).1, (nums_len h').1⟩
  have hmx := (nums_len h).2
  have hmx' := (nums_len h').2
  unfold maxLen at hmx hmx'
  clear h h'
  by_cases hn : n = n'
  case neg =>
    have hd : ((n : Int) != (n' : Int)) = true := by simp; omega
    have HF : Hid (decide (l = m) = false) := decide_eq_false (fun e => hn (by rw [H.out.2.2.1, H.out.2.2.2, e]))
    go_enter Tryd.func37, Tryd.ntmps37
    go_wp2
    go_ret
    exact ⟨by rw [HF.out]; rfl, Ext.refl _⟩
  subst hn
  go_enter Tryd.func37, Tryd.ntmps37
  go_wp2
  go_loopg [13] n (fun gm t wr => ∃ k : Nat, k ≤ n ∧ gm = n - k ∧ t = .int .i64 (k : Int) ∧ Hid (Ext w wr ∧ ∀ j, j < k → l.getD j 0 = m.getD j 0))
  case atStart => exact ⟨0, Nat.zero_le _, rfl, rfl, Ext.refl _, fun j hj => by omega⟩
  case round =>
    obtain ⟨k, hk, rfl, rfl, HR⟩ := hrel
    by_cases hlt : k < n
    · have hd : decide ((k : Int) < (n : Int)) = true := decide_eq_true (by omega)
      obtain ⟨b, off, rfl, hc⟩ := H.out.1.cellAt k (by rw [← H.out.2.2.1]; exact hlt)
      obtain ⟨b', off', rfl, hc'⟩ := H.out.2.1.cellAt k (by rw [← H.out.2.2.2]; exact hlt)
      replace hc := HR.out.1.cell hc
      replace hc' := HR.out.1.cell hc'
      obtain ⟨x, hx⟩ : ∃ x, x = l.getD k 0 := ⟨_, rfl⟩
      obtain ⟨y, hy⟩ : ∃ y, y = m.getD k 0 := ⟨_, rfl⟩
      rw [← hx] at hc
      rw [← hy] at hc'
      have HX : Hid (x = l.getD k 0 ∧ y = m.getD k 0) := ⟨hx, hy⟩
      clear hx hy
      by_cases hxy : x = y
      · subst hxy
        have HX2 : Hid (l.getD k 0 = m.getD k 0) := HX.out.1.symm.trans HX.out.2
        clear HX
        go_wp2_with fail
        go_quiet (fail)
        go_wp2
        go_roundg (n - (k + 1))
        case measure => omega
        case rel =>
          refine ⟨k + 1, by omega, rfl, by simp, HR.out.1.trans (Ext.drewN _ _), fun j hj => ?_⟩
          by_cases hjk : j = k
          · subst hjk; exact HX2.out
          · exact HR.out.2 j (by omega)
      · have hd2 : (x != y) = true := by simpa using hxy
        have hd3 : (x == y) = false := by simpa using hxy
        have hd4 : decide (x = y) = false := by simpa using hxy
        have HF : Hid (decide (l = m) = false) := decide_eq_false (fun e => hxy (by rw [HX.out.1, HX.out.2, e]))
        clear HX
        go_wp2_with fail
        go_quiet (fail)
        go_wp2
        go_ret
        exact ⟨by rw [HF.out]; rfl, HR.out.1.trans (Ext.drewN _ _)⟩
    · have hd : decide ((k : Int) < (n : Int)) = false := decide_eq_false (by omega)
      have HF : Hid (decide (l = m) = true) := decide_eq_true (list_same 0 (by rw [← H.out.2.2.1, ← H.out.2.2.2]) (fun j hj => HR.out.2 j (by have := H.out.2.2.1; omega)))
      go_wp2
      go_ret
      exact ⟨by rw [HF.out]; rfl, HR.out.1⟩

theorem equal_any {w : World} {v u : Value} {l m : List Nat} (hv : BytesAt w v l) (hu : BytesAt w u m) :
    Calls Tryd.prog 38 #[v, u] w fun e w' => e = .returned (.bool (decide (l = m))) ∧ Ext w w' := by
  have h1 := run_string_bytes byteT strT w _ _ hv
  have h2 := run_string_bytes byteT strT w _ _ hu
  have h3 := strOf_beq l m hv.1 hu.1
  obtain ⟨_, _, rfl, _⟩ := hv.form
  obtain ⟨_, _, rfl, _⟩ := hu.form
  clear hv hu
  go_enter Tryd.func38, Tryd.ntmps38
  go_wp2
  go_ret
  exact ⟨rfl, Ext.refl _⟩
end Tlv
end Go.Proofs.YtfhoielfekeihaaDoor

/- Which cookies are good. No condition of its own. -/
namespace Go.Proofs.YtfhoielfekeihaaDoor
namespace Tlv
open Go Go.RowKit
set_option linter.unusedVariables false
set_option linter.unusedSimpArgs false
set_option maxRecDepth 100000


def addrsB (L : List Int) : Bool := inB (L.length : Int) 1 4 && adsB L
def randB (l : List Nat) : Bool := inB (l.length : Int) 1 64
theorem isRandom_any {w : World} {a : Option Addr} {n cp : Nat} {l : List Nat} (h : BytesAt w (.slice a n cp) l) : Calls Tryd.prog 27 #[.slice a n cp] w fun e w' => e = .returned (.bool (randB l)) ∧ Ext w w' := by
  have HN : Hid (n = l.length) := (bytes_len h).1
  clear h
  go_enter Tryd.func27, Tryd.ntmps27
  go_wp2_with (first | (go_at_call 25; refine (within_any _ _ _ _).mono ?_; rintro e w1 ⟨rfl, he1⟩))
  go_ret
  exact ⟨by rw [HN.out]; rfl, he1⟩
theorem areAddrs_any {w : World} {a : Option Addr} {n cp : Nat} {L : List Int} (h : NumsAt .i64 w (.slice a n cp) L) : Calls Tryd.prog 26 #[.slice a n cp] w fun e w' => e = .returned (.bool (addrsB L)) ∧ Ext w w' := by
  have HN : Hid (NumsAt .i64 w (.slice a n cp) L ∧ n = L.length) := ⟨h, (nums_len h).1⟩
  clear h
  have HB : Hid (addrsB L = (inB (n : Int) 1 4 && adsB L)) := show _ = _ by rw [HN.out.2]; rfl
  rw [HB.out]
  cases hk : inB (n : Int) 1 4 with
  | true =>
    go_enter Tryd.func26, Tryd.ntmps26
    go_wp2_with (first
      | (go_at_call 25; refine (within_any _ _ _ _).mono ?_; rintro e w1 ⟨rfl, he1⟩; rw [hk])
      | (go_at_call 47; refine (hasA_any (HN.out.1.ext he1)).mono ?_; rintro e w2 ⟨rfl, he2⟩))
    go_ret
    exact ⟨by simp, he1.trans he2⟩
  | false =>
    go_enter Tryd.func26, Tryd.ntmps26
    go_wp2_with (first
      | (go_at_call 25; refine (within_any _ _ _ _).mono ?_; rintro e w1 ⟨rfl, he1⟩; rw [hk]))
    go_ret
    exact ⟨by simp, he1⟩
def goodK (c : Co) : Bool := ((((((((((inB (c.made) 0 4611686018427387904) && ((inB (c.life) 1 2147483648))) && ((((c.mine : Int) : Int) != (0 : Int)))) && ((((c.peers : Int) : Int) != (0 : Int)))) && ((inB (c.win) 0 2147483647))) && ((inB (c.out) 1 8))) && ((inB (c.inn) 1 8))) && ((addrsB c.addrs))) && ((randB c.mr))) && ((randB c.pr)))
abbrev gk_0 (c : Co) : Bool := ((inB (c.made) 0 4611686018427387904) && ((inB (c.life) 1 2147483648)))
abbrev gk_1 (c : Co) : Bool := ((gk_0 c) && ((((c.mine : Int) : Int) != (0 : Int))))
abbrev gk_2 (c : Co) : Bool := ((gk_1 c) && ((((c.peers : Int) : Int) != (0 : Int))))
abbrev gk_3 (c : Co) : Bool := ((gk_2 c) && ((inB (c.win) 0 2147483647)))
abbrev gk_4 (c : Co) : Bool := ((gk_3 c) && ((inB (c.out) 1 8)))
abbrev gk_5 (c : Co) : Bool := ((gk_4 c) && ((inB (c.inn) 1 8)))
abbrev gk_6 (c : Co) : Bool := ((gk_5 c) && ((addrsB c.addrs)))
abbrev gk_7 (c : Co) : Bool := ((gk_6 c) && ((randB c.mr)))
abbrev gk_8 (c : Co) : Bool := ((gk_7 c) && ((randB c.pr)))
set_option maxHeartbeats 4000000 in
theorem goodK_any {w : World} {c : Co} {s : So} (ha : CoAt w s c) :
    Calls Tryd.prog 12 #[.agg (KV c s)] w fun e w' => e = .returned (.bool (goodK c)) ∧ Ext w w' := by
  unfold goodK
  go_enter Tryd.func12, Tryd.ntmps12
  refine wp_seq_k (fun K hK => ?_)
  have HK := Stop.mk hK
  clear hK
  go_wp2_with (first
    | (refine wl_box (C := KV c s) rfl rfl rfl ?_; intro w1 hb1 he1 hx; clear hx))
  refine HK.go _ _ ?_
  refine wp_seq_k (fun K2 hK2 => ?_)
  have HA := ha.ext he1
  refine wp_line (fun t => bif Nat.ble 3 t && Nat.ble t 50 then some (t - 3) else bif Nat.beq t 2 then some 48 else none) 51 Ext
    [Is (.pointer (some ⟨w.heap.size, 0, none⟩)),
     Is (.int .i64 c.made),
     Is (.bool (inB (c.made) 0 4611686018427387904)),
     Is (.bool (inB (c.made) 0 4611686018427387904)),
     Under (((inB (c.made) 0 4611686018427387904))) (.pointer (some ⟨w.heap.size, 1, none⟩)),
     Under (((inB (c.made) 0 4611686018427387904))) (.int .i64 c.life),
     Under (((inB (c.made) 0 4611686018427387904))) (.bool (inB (c.life) 1 2147483648)),
     Is (.bool (gk_0 c)),
     Is (.bool (gk_0 c)),
     Under (((gk_0 c))) (.pointer (some ⟨w.heap.size, 2, none⟩)),
     Under (((gk_0 c))) (.int .u32 (c.mine : Int)),
     Under (((gk_0 c))) (.bool (((c.mine : Int) : Int) != (0 : Int))),
     Is (.bool (gk_1 c)),
     Is (.bool (gk_1 c)),
     Under (((gk_1 c))) (.pointer (some ⟨w.heap.size, 3, none⟩)),
     Under (((gk_1 c))) (.int .u32 (c.peers : Int)),
     Under (((gk_1 c))) (.bool (((c.peers : Int) : Int) != (0 : Int))),
     Is (.bool (gk_2 c)),
     Is (.bool (gk_2 c)),
     Under (((gk_2 c))) (.pointer (some ⟨w.heap.size, 6, none⟩)),
     Under (((gk_2 c))) (.int .i64 c.win),
     Under (((gk_2 c))) (.bool (inB (c.win) 0 2147483647)),
     Is (.bool (gk_3 c)),
     Is (.bool (gk_3 c)),
     Under (((gk_3 c))) (.pointer (some ⟨w.heap.size, 7, none⟩)),
     Under (((gk_3 c))) (.int .i64 c.out),
     Under (((gk_3 c))) (.bool (inB (c.out) 1 8)),
     Is (.bool (gk_4 c)),
     Is (.bool (gk_4 c)),
     Under (((gk_4 c))) (.pointer (some ⟨w.heap.size, 8, none⟩)),
     Under (((gk_4 c))) (.int .i64 c.inn),
     Under (((gk_4 c))) (.bool (inB (c.inn) 1 8)),
     Is (.bool (gk_5 c)),
     Is (.bool (gk_5 c)),
     Under (((gk_5 c))) (.pointer (some ⟨w.heap.size, 9, none⟩)),
     Under (((gk_5 c))) (.slice s.aA s.aN s.aC),
     Under (((gk_5 c))) (.bool (addrsB c.addrs)),
     Is (.bool (gk_6 c)),
     Is (.bool (gk_6 c)),
     Under (((gk_6 c))) (.pointer (some ⟨w.heap.size, 10, none⟩)),
     Under (((gk_6 c))) (.slice s.mA s.mN s.mC),
     Under (((gk_6 c))) (.bool (randB c.mr)),
     Is (.bool (gk_7 c)),
     Is (.bool (gk_7 c)),
     Under (((gk_7 c))) (.pointer (some ⟨w.heap.size, 11, none⟩)),
     Under (((gk_7 c))) (.slice s.pA s.pN s.pC),
     Under (((gk_7 c))) (.bool (randB c.pr)),
     Is (.bool (gk_8 c)),
     Is (.bool (gk_8 c))]
    rfl (by kernel_rfl) rfl Ext.refl (fun _ _ _ => Ext.trans) (KeepAll.is (KeepAll.is (KeepAll.is (KeepAll.is (KeepAll.under (KeepAll.under (KeepAll.under (KeepAll.is (KeepAll.is (KeepAll.under (KeepAll.under (KeepAll.under (KeepAll.is (KeepAll.is (KeepAll.under (KeepAll.under (KeepAll.under (KeepAll.is (KeepAll.is (KeepAll.under (KeepAll.under (KeepAll.under (KeepAll.is (KeepAll.is (KeepAll.under (KeepAll.under (KeepAll.under (KeepAll.is (KeepAll.is (KeepAll.under (KeepAll.under (KeepAll.under (KeepAll.is (KeepAll.is (KeepAll.under (KeepAll.under (KeepAll.under (KeepAll.is (KeepAll.is (KeepAll.under (KeepAll.under (KeepAll.under (KeepAll.is (KeepAll.is (KeepAll.under (KeepAll.under (KeepAll.under (KeepAll.is (KeepAll.is (KeepAll.nil)))))))))))))))))))))))))))))))))))))))))))))))))) ?_ ?_
  · refine GoodAll.cons ?_ ?_
    · intro r wx hR hx
      obtain ⟨h1, _⟩ := hx
      replace h1 : r (.tmp 1) = .pointer (some ⟨w.heap.size, 0, none⟩) := h1
      exact give_of (by simp [execOp, h1, go_sem]) ⟨Ext.refl _, rfl⟩
    refine GoodAll.cons ?_ ?_
    · intro r wx hR hx
      obtain ⟨h1, _⟩ := hx
      replace h1 : r (.tmp 3) = .pointer (some ⟨w.heap.size, 0, none⟩) := h1
      exact give_of (exec_get one3 rfl h1 (kv0 (hb1.ext hR))) ⟨Ext.refl _, rfl⟩
    refine GoodAll.cons ?_ ?_
    · intro r wx hR hx
      obtain ⟨h1, h2, h3, h4, _⟩ := hx
      replace h1 : r (.func 25) = .func (.func 25) #[] #[] := h1
      replace h2 : r (.tmp 4) = .int .i64 c.made := h2
      replace h3 : r (.const (.int .i64 0)) = .int .i64 0 := h3
      replace h4 : r (.const (.int .i64 4611686018427387904)) = .int .i64 4611686018427387904 := h4
      refine give_func #[.int .i64 c.made, .int .i64 0, .int .i64 4611686018427387904] rfl h1 Tryd.call25 (by simp [h2, h3, h4]) ?_
      refine (within_any _ _ _ _).mono ?_
      rintro e wz ⟨rfl, hez⟩
      exact ⟨_, rfl, hez, rfl⟩
    refine GoodAll.cons ?_ ?_
    · intro r wx hR hx
      obtain ⟨h1, _⟩ := hx
      replace h1 : r (.tmp 5) = .bool (inB (c.made) 0 4611686018427387904) := h1
      exact give_move (.inl rfl) ⟨Ext.refl _, h1⟩
    refine GoodAll.cons ?_ ?_
    · intro r wx hR hx
      obtain ⟨h1, _⟩ := hx
      replace h1 : r (.tmp 1) = .pointer (some ⟨w.heap.size, 0, none⟩) := h1
      intro gb hgb
      refine guard_u (C := ((inB (c.made) 0 4611686018427387904))) (b := (inB (c.made) 0 4611686018427387904)) (want := true) hgb (want_t _) (fun hc => ?_) (fun hc => under_no hc)
      exact give_of (by simp [execOp, h1, go_sem]) ⟨Ext.refl _, under_yes hc⟩
    refine GoodAll.cons ?_ ?_
    · intro r wx hR hx
      obtain ⟨h1, _⟩ := hx
      replace h1 : Under (((inB (c.made) 0 4611686018427387904))) (.pointer (some ⟨w.heap.size, 1, none⟩)) wx (r (.tmp 7)) := h1
      intro gb hgb
      refine guard_u (C := ((inB (c.made) 0 4611686018427387904))) (b := (inB (c.made) 0 4611686018427387904)) (want := true) hgb (want_t _) (fun hc => ?_) (fun hc => under_no hc)
      replace h1 := h1.get hc
      exact give_of (exec_get one3 rfl h1 (kv1 (hb1.ext hR))) ⟨Ext.refl _, under_yes hc⟩
    refine GoodAll.cons ?_ ?_
    · intro r wx hR hx
      obtain ⟨h1, h2, h3, h4, _⟩ := hx
      replace h1 : r (.func 25) = .func (.func 25) #[] #[] := h1
      replace h2 : Under (((inB (c.made) 0 4611686018427387904))) (.int .i64 c.life) wx (r (.tmp 8)) := h2
      replace h3 : r (.const (.int .i64 1)) = .int .i64 1 := h3
      replace h4 : r (.const (.int .i64 2147483648)) = .int .i64 2147483648 := h4
      intro gb hgb
      refine guard_u (C := ((inB (c.made) 0 4611686018427387904))) (b := (inB (c.made) 0 4611686018427387904)) (want := true) hgb (want_t _) (fun hc => ?_) (fun hc => under_no hc)
      replace h2 := h2.get hc
      refine give_func #[.int .i64 c.life, .int .i64 1, .int .i64 2147483648] rfl h1 Tryd.call25 (by simp [h2, h3, h4]) ?_
      refine (within_any _ _ _ _).mono ?_
      rintro e wz ⟨rfl, hez⟩
      exact ⟨_, rfl, hez, under_yes hc⟩
    refine GoodAll.cons ?_ ?_
    · intro r wx hR hx
      obtain ⟨h1, h2, h3, _⟩ := hx
      replace h1 : r (.tmp 6) = .bool (inB (c.made) 0 4611686018427387904) := h1
      replace h2 : Under (((inB (c.made) 0 4611686018427387904))) (.bool (inB (c.life) 1 2147483648)) wx (r (.tmp 9)) := h2
      replace h3 : r (.const (.bool false)) = .bool false := h3
      exact give_and rfl h3 h1 (fun hb => h2.get (by first | exact hb | (rw [hc, hb]; rfl) | (rw [hb]; rfl))) ⟨Ext.refl _, rfl⟩
    refine GoodAll.cons ?_ ?_
    · intro r wx hR hx
      obtain ⟨h1, _⟩ := hx
      replace h1 : r (.tmp 10) = .bool (gk_0 c) := h1
      exact give_move (.inl rfl) ⟨Ext.refl _, h1⟩
    refine GoodAll.cons ?_ ?_
    · intro r wx hR hx
      obtain ⟨h1, _⟩ := hx
      replace h1 : r (.tmp 1) = .pointer (some ⟨w.heap.size, 0, none⟩) := h1
      intro gb hgb
      refine guard_u (C := ((gk_0 c))) (b := (gk_0 c)) (want := true) hgb (want_t _) (fun hc => ?_) (fun hc => under_no hc)
      exact give_of (by simp [execOp, h1, go_sem]) ⟨Ext.refl _, under_yes hc⟩
    refine GoodAll.cons ?_ ?_
    · intro r wx hR hx
      obtain ⟨h1, _⟩ := hx
      replace h1 : Under (((gk_0 c))) (.pointer (some ⟨w.heap.size, 2, none⟩)) wx (r (.tmp 12)) := h1
      intro gb hgb
      refine guard_u (C := ((gk_0 c))) (b := (gk_0 c)) (want := true) hgb (want_t _) (fun hc => ?_) (fun hc => under_no hc)
      replace h1 := h1.get hc
      exact give_of (exec_get one22 rfl h1 (kv2 (hb1.ext hR))) ⟨Ext.refl _, under_yes hc⟩
    refine GoodAll.cons ?_ ?_
    · intro r wx hR hx
      obtain ⟨h1, h2, _⟩ := hx
      replace h1 : Under (((gk_0 c))) (.int .u32 (c.mine : Int)) wx (r (.tmp 13)) := h1
      replace h2 : r (.const (.int .u32 0)) = .int .u32 0 := h2
      intro gb hgb
      refine guard_u (C := ((gk_0 c))) (b := (gk_0 c)) (want := true) hgb (want_t _) (fun hc => ?_) (fun hc => under_no hc)
      replace h1 := h1.get hc
      exact give_of (by simp [execOp, h1, h2, go_sem]) ⟨Ext.refl _, under_yes hc⟩
    refine GoodAll.cons ?_ ?_
    · intro r wx hR hx
      obtain ⟨h1, h2, h3, _⟩ := hx
      replace h1 : r (.tmp 11) = .bool (gk_0 c) := h1
      replace h2 : Under (((gk_0 c))) (.bool (((c.mine : Int) : Int) != (0 : Int))) wx (r (.tmp 14)) := h2
      replace h3 : r (.const (.bool false)) = .bool false := h3
      exact give_and rfl h3 h1 (fun hb => h2.get (by first | exact hb | (rw [hc, hb]; rfl) | (rw [hb]; rfl))) ⟨Ext.refl _, rfl⟩
    refine GoodAll.cons ?_ ?_
    · intro r wx hR hx
      obtain ⟨h1, _⟩ := hx
      replace h1 : r (.tmp 15) = .bool (gk_1 c) := h1
      exact give_move (.inl rfl) ⟨Ext.refl _, h1⟩
    refine GoodAll.cons ?_ ?_
    · intro r wx hR hx
      obtain ⟨h1, _⟩ := hx
      replace h1 : r (.tmp 1) = .pointer (some ⟨w.heap.size, 0, none⟩) := h1
      intro gb hgb
      refine guard_u (C := ((gk_1 c))) (b := (gk_1 c)) (want := true) hgb (want_t _) (fun hc => ?_) (fun hc => under_no hc)
      exact give_of (by simp [execOp, h1, go_sem]) ⟨Ext.refl _, under_yes hc⟩
    refine GoodAll.cons ?_ ?_
    · intro r wx hR hx
      obtain ⟨h1, _⟩ := hx
      replace h1 : Under (((gk_1 c))) (.pointer (some ⟨w.heap.size, 3, none⟩)) wx (r (.tmp 17)) := h1
      intro gb hgb
      refine guard_u (C := ((gk_1 c))) (b := (gk_1 c)) (want := true) hgb (want_t _) (fun hc => ?_) (fun hc => under_no hc)
      replace h1 := h1.get hc
      exact give_of (exec_get one22 rfl h1 (kv3 (hb1.ext hR))) ⟨Ext.refl _, under_yes hc⟩
    refine GoodAll.cons ?_ ?_
    · intro r wx hR hx
      obtain ⟨h1, h2, _⟩ := hx
      replace h1 : Under (((gk_1 c))) (.int .u32 (c.peers : Int)) wx (r (.tmp 18)) := h1
      replace h2 : r (.const (.int .u32 0)) = .int .u32 0 := h2
      intro gb hgb
      refine guard_u (C := ((gk_1 c))) (b := (gk_1 c)) (want := true) hgb (want_t _) (fun hc => ?_) (fun hc => under_no hc)
      replace h1 := h1.get hc
      exact give_of (by simp [execOp, h1, h2, go_sem]) ⟨Ext.refl _, under_yes hc⟩
    refine GoodAll.cons ?_ ?_
    · intro r wx hR hx
      obtain ⟨h1, h2, h3, _⟩ := hx
      replace h1 : r (.tmp 16) = .bool (gk_1 c) := h1
      replace h2 : Under (((gk_1 c))) (.bool (((c.peers : Int) : Int) != (0 : Int))) wx (r (.tmp 19)) := h2
      replace h3 : r (.const (.bool false)) = .bool false := h3
      exact give_and rfl h3 h1 (fun hb => h2.get (by first | exact hb | (rw [hc, hb]; rfl) | (rw [hb]; rfl))) ⟨Ext.refl _, rfl⟩
    refine GoodAll.cons ?_ ?_
    · intro r wx hR hx
      obtain ⟨h1, _⟩ := hx
      replace h1 : r (.tmp 20) = .bool (gk_2 c) := h1
      exact give_move (.inl rfl) ⟨Ext.refl _, h1⟩
    refine GoodAll.cons ?_ ?_
    · intro r wx hR hx
      obtain ⟨h1, _⟩ := hx
      replace h1 : r (.tmp 1) = .pointer (some ⟨w.heap.size, 0, none⟩) := h1
      intro gb hgb
      refine guard_u (C := ((gk_2 c))) (b := (gk_2 c)) (want := true) hgb (want_t _) (fun hc => ?_) (fun hc => under_no hc)
      exact give_of (by simp [execOp, h1, go_sem]) ⟨Ext.refl _, under_yes hc⟩
    refine GoodAll.cons ?_ ?_
    · intro r wx hR hx
      obtain ⟨h1, _⟩ := hx
      replace h1 : Under (((gk_2 c))) (.pointer (some ⟨w.heap.size, 6, none⟩)) wx (r (.tmp 22)) := h1
      intro gb hgb
      refine guard_u (C := ((gk_2 c))) (b := (gk_2 c)) (want := true) hgb (want_t _) (fun hc => ?_) (fun hc => under_no hc)
      replace h1 := h1.get hc
      exact give_of (exec_get one3 rfl h1 (kv6 (hb1.ext hR))) ⟨Ext.refl _, under_yes hc⟩
    refine GoodAll.cons ?_ ?_
    · intro r wx hR hx
      obtain ⟨h1, h2, h3, h4, _⟩ := hx
      replace h1 : r (.func 25) = .func (.func 25) #[] #[] := h1
      replace h2 : Under (((gk_2 c))) (.int .i64 c.win) wx (r (.tmp 23)) := h2
      replace h3 : r (.const (.int .i64 0)) = .int .i64 0 := h3
      replace h4 : r (.const (.int .i64 2147483647)) = .int .i64 2147483647 := h4
      intro gb hgb
      refine guard_u (C := ((gk_2 c))) (b := (gk_2 c)) (want := true) hgb (want_t _) (fun hc => ?_) (fun hc => under_no hc)
      replace h2 := h2.get hc
      refine give_func #[.int .i64 c.win, .int .i64 0, .int .i64 2147483647] rfl h1 Tryd.call25 (by simp [h2, h3, h4]) ?_
      refine (within_any _ _ _ _).mono ?_
      rintro e wz ⟨rfl, hez⟩
      exact ⟨_, rfl, hez, under_yes hc⟩
    refine GoodAll.cons ?_ ?_
    · intro r wx hR hx
      obtain ⟨h1, h2, h3, _⟩ := hx
      replace h1 : r (.tmp 21) = .bool (gk_2 c) := h1
      replace h2 : Under (((gk_2 c))) (.bool (inB (c.win) 0 2147483647)) wx (r (.tmp 24)) := h2
      replace h3 : r (.const (.bool false)) = .bool false := h3
      exact give_and rfl h3 h1 (fun hb => h2.get (by first | exact hb | (rw [hc, hb]; rfl) | (rw [hb]; rfl))) ⟨Ext.refl _, rfl⟩
    refine GoodAll.cons ?_ ?_
    · intro r wx hR hx
      obtain ⟨h1, _⟩ := hx
      replace h1 : r (.tmp 25) = .bool (gk_3 c) := h1
      exact give_move (.inl rfl) ⟨Ext.refl _, h1⟩
    refine GoodAll.cons ?_ ?_
    · intro r wx hR hx
      obtain ⟨h1, _⟩ := hx
      replace h1 : r (.tmp 1) = .pointer (some ⟨w.heap.size, 0, none⟩) := h1
      intro gb hgb
      refine guard_u (C := ((gk_3 c))) (b := (gk_3 c)) (want := true) hgb (want_t _) (fun hc => ?_) (fun hc => under_no hc)
      exact give_of (by simp [execOp, h1, go_sem]) ⟨Ext.refl _, under_yes hc⟩
    refine GoodAll.cons ?_ ?_
    · intro r wx hR hx
      obtain ⟨h1, _⟩ := hx
      replace h1 : Under (((gk_3 c))) (.pointer (some ⟨w.heap.size, 7, none⟩)) wx (r (.tmp 27)) := h1
      intro gb hgb
      refine guard_u (C := ((gk_3 c))) (b := (gk_3 c)) (want := true) hgb (want_t _) (fun hc => ?_) (fun hc => under_no hc)
      replace h1 := h1.get hc
      exact give_of (exec_get one3 rfl h1 (kv7 (hb1.ext hR))) ⟨Ext.refl _, under_yes hc⟩
    refine GoodAll.cons ?_ ?_
    · intro r wx hR hx
      obtain ⟨h1, h2, h3, h4, _⟩ := hx
      replace h1 : r (.func 25) = .func (.func 25) #[] #[] := h1
      replace h2 : Under (((gk_3 c))) (.int .i64 c.out) wx (r (.tmp 28)) := h2
      replace h3 : r (.const (.int .i64 1)) = .int .i64 1 := h3
      replace h4 : r (.const (.int .i64 8)) = .int .i64 8 := h4
      intro gb hgb
      refine guard_u (C := ((gk_3 c))) (b := (gk_3 c)) (want := true) hgb (want_t _) (fun hc => ?_) (fun hc => under_no hc)
      replace h2 := h2.get hc
      refine give_func #[.int .i64 c.out, .int .i64 1, .int .i64 8] rfl h1 Tryd.call25 (by simp [h2, h3, h4]) ?_
      refine (within_any _ _ _ _).mono ?_
      rintro e wz ⟨rfl, hez⟩
      exact ⟨_, rfl, hez, under_yes hc⟩
    refine GoodAll.cons ?_ ?_
    · intro r wx hR hx
      obtain ⟨h1, h2, h3, _⟩ := hx
      replace h1 : r (.tmp 26) = .bool (gk_3 c) := h1
      replace h2 : Under (((gk_3 c))) (.bool (inB (c.out) 1 8)) wx (r (.tmp 29)) := h2
      replace h3 : r (.const (.bool false)) = .bool false := h3
      exact give_and rfl h3 h1 (fun hb => h2.get (by first | exact hb | (rw [hc, hb]; rfl) | (rw [hb]; rfl))) ⟨Ext.refl _, rfl⟩
    refine GoodAll.cons ?_ ?_
    · intro r wx hR hx
      obtain ⟨h1, _⟩ := hx
      replace h1 : r (.tmp 30) = .bool (gk_4 c) := h1
      exact give_move (.inl rfl) ⟨Ext.refl _, h1⟩
    refine GoodAll.cons ?_ ?_
    · intro r wx hR hx
      obtain ⟨h1, _⟩ := hx
      replace h1 : r (.tmp 1) = .pointer (some ⟨w.heap.size, 0, none⟩) := h1
      intro gb hgb
      refine guard_u (C := ((gk_4 c))) (b := (gk_4 c)) (want := true) hgb (want_t _) (fun hc => ?_) (fun hc => under_no hc)
      exact give_of (by simp [execOp, h1, go_sem]) ⟨Ext.refl _, under_yes hc⟩
    refine GoodAll.cons ?_ ?_
    · intro r wx hR hx
      obtain ⟨h1, _⟩ := hx
      replace h1 : Under (((gk_4 c))) (.pointer (some ⟨w.heap.size, 8, none⟩)) wx (r (.tmp 32)) := h1
      intro gb hgb
      refine guard_u (C := ((gk_4 c))) (b := (gk_4 c)) (want := true) hgb (want_t _) (fun hc => ?_) (fun hc => under_no hc)
      replace h1 := h1.get hc
      exact give_of (exec_get one3 rfl h1 (kv8 (hb1.ext hR))) ⟨Ext.refl _, under_yes hc⟩
    refine GoodAll.cons ?_ ?_
    · intro r wx hR hx
      obtain ⟨h1, h2, h3, h4, _⟩ := hx
      replace h1 : r (.func 25) = .func (.func 25) #[] #[] := h1
      replace h2 : Under (((gk_4 c))) (.int .i64 c.inn) wx (r (.tmp 33)) := h2
      replace h3 : r (.const (.int .i64 1)) = .int .i64 1 := h3
      replace h4 : r (.const (.int .i64 8)) = .int .i64 8 := h4
      intro gb hgb
      refine guard_u (C := ((gk_4 c))) (b := (gk_4 c)) (want := true) hgb (want_t _) (fun hc => ?_) (fun hc => under_no hc)
      replace h2 := h2.get hc
      refine give_func #[.int .i64 c.inn, .int .i64 1, .int .i64 8] rfl h1 Tryd.call25 (by simp [h2, h3, h4]) ?_
      refine (within_any _ _ _ _).mono ?_
      rintro e wz ⟨rfl, hez⟩
      exact ⟨_, rfl, hez, under_yes hc⟩
    refine GoodAll.cons ?_ ?_
    · intro r wx hR hx
      obtain ⟨h1, h2, h3, _⟩ := hx
      replace h1 : r (.tmp 31) = .bool (gk_4 c) := h1
      replace h2 : Under (((gk_4 c))) (.bool (inB (c.inn) 1 8)) wx (r (.tmp 34)) := h2
      replace h3 : r (.const (.bool false)) = .bool false := h3
      exact give_and rfl h3 h1 (fun hb => h2.get (by first | exact hb | (rw [hc, hb]; rfl) | (rw [hb]; rfl))) ⟨Ext.refl _, rfl⟩
    refine GoodAll.cons ?_ ?_
    · intro r wx hR hx
      obtain ⟨h1, _⟩ := hx
      replace h1 : r (.tmp 35) = .bool (gk_5 c) := h1
      exact give_move (.inl rfl) ⟨Ext.refl _, h1⟩
    refine GoodAll.cons ?_ ?_
    · intro r wx hR hx
      obtain ⟨h1, _⟩ := hx
      replace h1 : r (.tmp 1) = .pointer (some ⟨w.heap.size, 0, none⟩) := h1
      intro gb hgb
      refine guard_u (C := ((gk_5 c))) (b := (gk_5 c)) (want := true) hgb (want_t _) (fun hc => ?_) (fun hc => under_no hc)
      exact give_of (by simp [execOp, h1, go_sem]) ⟨Ext.refl _, under_yes hc⟩
    refine GoodAll.cons ?_ ?_
    · intro r wx hR hx
      obtain ⟨h1, _⟩ := hx
      replace h1 : Under (((gk_5 c))) (.pointer (some ⟨w.heap.size, 9, none⟩)) wx (r (.tmp 37)) := h1
      intro gb hgb
      refine guard_u (C := ((gk_5 c))) (b := (gk_5 c)) (want := true) hgb (want_t _) (fun hc => ?_) (fun hc => under_no hc)
      replace h1 := h1.get hc
      exact give_of (exec_get oneSA rfl h1 (kv9 (hb1.ext hR))) ⟨Ext.refl _, under_yes hc⟩
    refine GoodAll.cons ?_ ?_
    · intro r wx hR hx
      obtain ⟨h1, h2, _⟩ := hx
      replace h1 : r (.func 26) = .func (.func 26) #[] #[] := h1
      replace h2 : Under (((gk_5 c))) (.slice s.aA s.aN s.aC) wx (r (.tmp 38)) := h2
      intro gb hgb
      refine guard_u (C := ((gk_5 c))) (b := (gk_5 c)) (want := true) hgb (want_t _) (fun hc => ?_) (fun hc => under_no hc)
      replace h2 := h2.get hc
      refine give_func #[.slice s.aA s.aN s.aC] rfl h1 Tryd.call26 (by simp [h2]) ?_
      refine (areAddrs_any (HA.a.ext hR)).mono ?_
      rintro e wz ⟨rfl, hez⟩
      exact ⟨_, rfl, hez, under_yes hc⟩
    refine GoodAll.cons ?_ ?_
    · intro r wx hR hx
      obtain ⟨h1, h2, h3, _⟩ := hx
      replace h1 : r (.tmp 36) = .bool (gk_5 c) := h1
      replace h2 : Under (((gk_5 c))) (.bool (addrsB c.addrs)) wx (r (.tmp 39)) := h2
      replace h3 : r (.const (.bool false)) = .bool false := h3
      exact give_and rfl h3 h1 (fun hb => h2.get (by first | exact hb | (rw [hc, hb]; rfl) | (rw [hb]; rfl))) ⟨Ext.refl _, rfl⟩
    refine GoodAll.cons ?_ ?_
    · intro r wx hR hx
      obtain ⟨h1, _⟩ := hx
      replace h1 : r (.tmp 40) = .bool (gk_6 c) := h1
      exact give_move (.inl rfl) ⟨Ext.refl _, h1⟩
    refine GoodAll.cons ?_ ?_
    · intro r wx hR hx
      obtain ⟨h1, _⟩ := hx
      replace h1 : r (.tmp 1) = .pointer (some ⟨w.heap.size, 0, none⟩) := h1
      intro gb hgb
      refine guard_u (C := ((gk_6 c))) (b := (gk_6 c)) (want := true) hgb (want_t _) (fun hc => ?_) (fun hc => under_no hc)
      exact give_of (by simp [execOp, h1, go_sem]) ⟨Ext.refl _, under_yes hc⟩
    refine GoodAll.cons ?_ ?_
    · intro r wx hR hx
      obtain ⟨h1, _⟩ := hx
      replace h1 : Under (((gk_6 c))) (.pointer (some ⟨w.heap.size, 10, none⟩)) wx (r (.tmp 42)) := h1
      intro gb hgb
      refine guard_u (C := ((gk_6 c))) (b := (gk_6 c)) (want := true) hgb (want_t _) (fun hc => ?_) (fun hc => under_no hc)
      replace h1 := h1.get hc
      exact give_of (exec_get oneS rfl h1 (kv10 (hb1.ext hR))) ⟨Ext.refl _, under_yes hc⟩
    refine GoodAll.cons ?_ ?_
    · intro r wx hR hx
      obtain ⟨h1, h2, _⟩ := hx
      replace h1 : r (.func 27) = .func (.func 27) #[] #[] := h1
      replace h2 : Under (((gk_6 c))) (.slice s.mA s.mN s.mC) wx (r (.tmp 43)) := h2
      intro gb hgb
      refine guard_u (C := ((gk_6 c))) (b := (gk_6 c)) (want := true) hgb (want_t _) (fun hc => ?_) (fun hc => under_no hc)
      replace h2 := h2.get hc
      refine give_func #[.slice s.mA s.mN s.mC] rfl h1 Tryd.call27 (by simp [h2]) ?_
      refine (isRandom_any (HA.m.ext hR)).mono ?_
      rintro e wz ⟨rfl, hez⟩
      exact ⟨_, rfl, hez, under_yes hc⟩
    refine GoodAll.cons ?_ ?_
    · intro r wx hR hx
      obtain ⟨h1, h2, h3, _⟩ := hx
      replace h1 : r (.tmp 41) = .bool (gk_6 c) := h1
      replace h2 : Under (((gk_6 c))) (.bool (randB c.mr)) wx (r (.tmp 44)) := h2
      replace h3 : r (.const (.bool false)) = .bool false := h3
      exact give_and rfl h3 h1 (fun hb => h2.get (by first | exact hb | (rw [hc, hb]; rfl) | (rw [hb]; rfl))) ⟨Ext.refl _, rfl⟩
    refine GoodAll.cons ?_ ?_
    · intro r wx hR hx
      obtain ⟨h1, _⟩ := hx
      replace h1 : r (.tmp 45) = .bool (gk_7 c) := h1
      exact give_move (.inl rfl) ⟨Ext.refl _, h1⟩
    refine GoodAll.cons ?_ ?_
    · intro r wx hR hx
      obtain ⟨h1, _⟩ := hx
      replace h1 : r (.tmp 1) = .pointer (some ⟨w.heap.size, 0, none⟩) := h1
      intro gb hgb
      refine guard_u (C := ((gk_7 c))) (b := (gk_7 c)) (want := true) hgb (want_t _) (fun hc => ?_) (fun hc => under_no hc)
      exact give_of (by simp [execOp, h1, go_sem]) ⟨Ext.refl _, under_yes hc⟩
    refine GoodAll.cons ?_ ?_
    · intro r wx hR hx
      obtain ⟨h1, _⟩ := hx
      replace h1 : Under (((gk_7 c))) (.pointer (some ⟨w.heap.size, 11, none⟩)) wx (r (.tmp 47)) := h1
      intro gb hgb
      refine guard_u (C := ((gk_7 c))) (b := (gk_7 c)) (want := true) hgb (want_t _) (fun hc => ?_) (fun hc => under_no hc)
      replace h1 := h1.get hc
      exact give_of (exec_get oneS rfl h1 (kv11 (hb1.ext hR))) ⟨Ext.refl _, under_yes hc⟩
    refine GoodAll.cons ?_ ?_
    · intro r wx hR hx
      obtain ⟨h1, h2, _⟩ := hx
      replace h1 : r (.func 27) = .func (.func 27) #[] #[] := h1
      replace h2 : Under (((gk_7 c))) (.slice s.pA s.pN s.pC) wx (r (.tmp 48)) := h2
      intro gb hgb
      refine guard_u (C := ((gk_7 c))) (b := (gk_7 c)) (want := true) hgb (want_t _) (fun hc => ?_) (fun hc => under_no hc)
      replace h2 := h2.get hc
      refine give_func #[.slice s.pA s.pN s.pC] rfl h1 Tryd.call27 (by simp [h2]) ?_
      refine (isRandom_any (HA.p.ext hR)).mono ?_
      rintro e wz ⟨rfl, hez⟩
      exact ⟨_, rfl, hez, under_yes hc⟩
    refine GoodAll.cons ?_ ?_
    · intro r wx hR hx
      obtain ⟨h1, h2, h3, _⟩ := hx
      replace h1 : r (.tmp 46) = .bool (gk_7 c) := h1
      replace h2 : Under (((gk_7 c))) (.bool (randB c.pr)) wx (r (.tmp 49)) := h2
      replace h3 : r (.const (.bool false)) = .bool false := h3
      exact give_and rfl h3 h1 (fun hb => h2.get (by first | exact hb | (rw [hc, hb]; rfl) | (rw [hb]; rfl))) ⟨Ext.refl _, rfl⟩
    refine GoodAll.cons ?_ ?_
    · intro r wx hR hx
      obtain ⟨h1, _⟩ := hx
      replace h1 : r (.tmp 50) = .bool (gk_8 c) := h1
      exact give_move (.inr rfl) ⟨Ext.refl _, h1⟩
    exact GoodAll.nil
  · intro vs wE aE hR hold haE
    have hv : vs 48 = .bool (gk_8 c) := hold.at 48
    refine ‹∀ (a : Act) (w : World), Code.wp Tryd.prog Code.ret _ a w → _› _ _ ?_
    refine wp_ret ?_
    have hs : aE.tmps[2]? = some (.bool (gk_8 c)) := by rw [haE, ← hv]; kernel_rfl
    have hdf : aE.defers = [] := by rw [haE]; exact putAll_defers _ _ _ _
    clear haE
    refine bodyPost_ret (v := .bool (gk_8 c)) ?_ hdf ⟨rfl, he1.trans hR⟩
    simp [results, Tryd.results12, go_sem, hs]
end Tlv
end Go.Proofs.YtfhoielfekeihaaDoor

/- Cookies that are the same, by the program. No condition of its own. -/
namespace Go.Proofs.YtfhoielfekeihaaDoor
namespace Tlv
open Go Go.RowKit
set_option linter.unusedVariables false
set_option linter.unusedSimpArgs false
set_option maxRecDepth 100000


def sameK (c d : Co) : Bool := (((((((((((((((c.made : Int) == (d.made : Int)) && (((c.life : Int) == (d.life : Int)))) && ((((c.mine : Int) : Int) == ((d.mine : Int) : Int)))) && ((((c.peers : Int) : Int) == ((d.peers : Int) : Int)))) && ((((c.mtsn : Int) : Int) == ((d.mtsn : Int) : Int)))) && ((((c.ptsn : Int) : Int) == ((d.ptsn : Int) : Int)))) && (((c.win : Int) == (d.win : Int)))) && (((c.out : Int) == (d.out : Int)))) && (((c.inn : Int) == (d.inn : Int)))) && ((decide (c.addrs = d.addrs)))) && ((decide (c.mr = d.mr)))) && ((decide (c.pr = d.pr)))) && ((((c.tm : Int) : Int) == ((d.tm : Int) : Int)))) && ((((c.tp : Int) : Int) == ((d.tp : Int) : Int))))
abbrev sk_0 (c d : Co) : Bool := (((c.made : Int) == (d.made : Int)) && (((c.life : Int) == (d.life : Int))))
abbrev sk_1 (c d : Co) : Bool := ((sk_0 c d) && ((((c.mine : Int) : Int) == ((d.mine : Int) : Int))))
abbrev sk_2 (c d : Co) : Bool := ((sk_1 c d) && ((((c.peers : Int) : Int) == ((d.peers : Int) : Int))))
abbrev sk_3 (c d : Co) : Bool := ((sk_2 c d) && ((((c.mtsn : Int) : Int) == ((d.mtsn : Int) : Int))))
abbrev sk_4 (c d : Co) : Bool := ((sk_3 c d) && ((((c.ptsn : Int) : Int) == ((d.ptsn : Int) : Int))))
abbrev sk_5 (c d : Co) : Bool := ((sk_4 c d) && (((c.win : Int) == (d.win : Int))))
abbrev sk_6 (c d : Co) : Bool := ((sk_5 c d) && (((c.out : Int) == (d.out : Int))))
abbrev sk_7 (c d : Co) : Bool := ((sk_6 c d) && (((c.inn : Int) == (d.inn : Int))))
abbrev sk_8 (c d : Co) : Bool := ((sk_7 c d) && ((decide (c.addrs = d.addrs))))
abbrev sk_9 (c d : Co) : Bool := ((sk_8 c d) && ((decide (c.mr = d.mr))))
abbrev sk_10 (c d : Co) : Bool := ((sk_9 c d) && ((decide (c.pr = d.pr))))
abbrev sk_11 (c d : Co) : Bool := ((sk_10 c d) && ((((c.tm : Int) : Int) == ((d.tm : Int) : Int))))
abbrev sk_12 (c d : Co) : Bool := ((sk_11 c d) && ((((c.tp : Int) : Int) == ((d.tp : Int) : Int))))
set_option maxHeartbeats 8000000 in
theorem sameK_any {w : World} {c d : Co} {s u : So} (ha : CoAt w s c) (hb : CoAt w u d) :
    Calls Tryd.prog 20 #[.agg (KV c s), .agg (KV d u)] w fun e w' => e = .returned (.bool (sameK c d)) ∧ Ext w w' := by
  unfold sameK
  go_enter Tryd.func20, Tryd.ntmps20
  refine wp_seq_k (fun K hK => ?_)
  have HK := Stop.mk hK
  clear hK
  go_wp2_with (first
    | (have q := he1; clear q; refine wl_box (C := KV d u) rfl rfl rfl ?_; intro w2 hb2 he2 hx; clear hx; have hb1' := hb1.ext he2)
    | (refine wl_box (C := KV c s) rfl rfl rfl ?_; intro w1 hb1 he1 hx; clear hx))
  refine HK.go _ _ ?_
  refine wp_seq_k (fun K2 hK2 => ?_)
  have HA := ha.ext (he1.trans he2)
  have HB := hb.ext (he1.trans he2)
  refine wp_line (fun t => bif Nat.ble 5 t && Nat.ble t 100 then some (t - 5) else bif Nat.beq t 4 then some 96 else none) 101 Ext
    [Is (.pointer (some ⟨w.heap.size, 0, none⟩)),
     Is (.int .i64 c.made),
     Is (.pointer (some ⟨w1.heap.size, 0, none⟩)),
     Is (.int .i64 d.made),
     Is (.bool ((c.made : Int) == (d.made : Int))),
     Is (.bool ((c.made : Int) == (d.made : Int))),
     Under ((((c.made : Int) == (d.made : Int)))) (.pointer (some ⟨w.heap.size, 1, none⟩)),
     Under ((((c.made : Int) == (d.made : Int)))) (.int .i64 c.life),
     Under ((((c.made : Int) == (d.made : Int)))) (.pointer (some ⟨w1.heap.size, 1, none⟩)),
     Under ((((c.made : Int) == (d.made : Int)))) (.int .i64 d.life),
     Under ((((c.made : Int) == (d.made : Int)))) (.bool ((c.life : Int) == (d.life : Int))),
     Is (.bool (sk_0 c d)),
     Is (.bool (sk_0 c d)),
     Under (((sk_0 c d))) (.pointer (some ⟨w.heap.size, 2, none⟩)),
     Under (((sk_0 c d))) (.int .u32 (c.mine : Int)),
     Under (((sk_0 c d))) (.pointer (some ⟨w1.heap.size, 2, none⟩)),
     Under (((sk_0 c d))) (.int .u32 (d.mine : Int)),
     Under (((sk_0 c d))) (.bool (((c.mine : Int) : Int) == ((d.mine : Int) : Int))),
     Is (.bool (sk_1 c d)),
     Is (.bool (sk_1 c d)),
     Under (((sk_1 c d))) (.pointer (some ⟨w.heap.size, 3, none⟩)),
     Under (((sk_1 c d))) (.int .u32 (c.peers : Int)),
     Under (((sk_1 c d))) (.pointer (some ⟨w1.heap.size, 3, none⟩)),
     Under (((sk_1 c d))) (.int .u32 (d.peers : Int)),
     Under (((sk_1 c d))) (.bool (((c.peers : Int) : Int) == ((d.peers : Int) : Int))),
     Is (.bool (sk_2 c d)),
     Is (.bool (sk_2 c d)),
     Under (((sk_2 c d))) (.pointer (some ⟨w.heap.size, 4, none⟩)),
     Under (((sk_2 c d))) (.int .u32 (c.mtsn : Int)),
     Under (((sk_2 c d))) (.pointer (some ⟨w1.heap.size, 4, none⟩)),
     Under (((sk_2 c d))) (.int .u32 (d.mtsn : Int)),
     Under (((sk_2 c d))) (.bool (((c.mtsn : Int) : Int) == ((d.mtsn : Int) : Int))),
     Is (.bool (sk_3 c d)),
     Is (.bool (sk_3 c d)),
     Under (((sk_3 c d))) (.pointer (some ⟨w.heap.size, 5, none⟩)),
     Under (((sk_3 c d))) (.int .u32 (c.ptsn : Int)),
     Under (((sk_3 c d))) (.pointer (some ⟨w1.heap.size, 5, none⟩)),
     Under (((sk_3 c d))) (.int .u32 (d.ptsn : Int)),
     Under (((sk_3 c d))) (.bool (((c.ptsn : Int) : Int) == ((d.ptsn : Int) : Int))),
     Is (.bool (sk_4 c d)),
     Is (.bool (sk_4 c d)),
     Under (((sk_4 c d))) (.pointer (some ⟨w.heap.size, 6, none⟩)),
     Under (((sk_4 c d))) (.int .i64 c.win),
     Under (((sk_4 c d))) (.pointer (some ⟨w1.heap.size, 6, none⟩)),
     Under (((sk_4 c d))) (.int .i64 d.win),
     Under (((sk_4 c d))) (.bool ((c.win : Int) == (d.win : Int))),
     Is (.bool (sk_5 c d)),
     Is (.bool (sk_5 c d)),
     Under (((sk_5 c d))) (.pointer (some ⟨w.heap.size, 7, none⟩)),
     Under (((sk_5 c d))) (.int .i64 c.out),
     Under (((sk_5 c d))) (.pointer (some ⟨w1.heap.size, 7, none⟩)),
     Under (((sk_5 c d))) (.int .i64 d.out),
     Under (((sk_5 c d))) (.bool ((c.out : Int) == (d.out : Int))),
     Is (.bool (sk_6 c d)),
     Is (.bool (sk_6 c d)),
     Under (((sk_6 c d))) (.pointer (some ⟨w.heap.size, 8, none⟩)),
     Under (((sk_6 c d))) (.int .i64 c.inn),
     Under (((sk_6 c d))) (.pointer (some ⟨w1.heap.size, 8, none⟩)),
     Under (((sk_6 c d))) (.int .i64 d.inn),
     Under (((sk_6 c d))) (.bool ((c.inn : Int) == (d.inn : Int))),
     Is (.bool (sk_7 c d)),
     Is (.bool (sk_7 c d)),
     Under (((sk_7 c d))) (.pointer (some ⟨w.heap.size, 9, none⟩)),
     Under (((sk_7 c d))) (.slice s.aA s.aN s.aC),
     Under (((sk_7 c d))) (.pointer (some ⟨w1.heap.size, 9, none⟩)),
     Under (((sk_7 c d))) (.slice u.aA u.aN u.aC),
     Under (((sk_7 c d))) (.bool (decide (c.addrs = d.addrs))),
     Is (.bool (sk_8 c d)),
     Is (.bool (sk_8 c d)),
     Under (((sk_8 c d))) (.pointer (some ⟨w.heap.size, 10, none⟩)),
     Under (((sk_8 c d))) (.slice s.mA s.mN s.mC),
     Under (((sk_8 c d))) (.pointer (some ⟨w1.heap.size, 10, none⟩)),
     Under (((sk_8 c d))) (.slice u.mA u.mN u.mC),
     Under (((sk_8 c d))) (.bool (decide (c.mr = d.mr))),
     Is (.bool (sk_9 c d)),
     Is (.bool (sk_9 c d)),
     Under (((sk_9 c d))) (.pointer (some ⟨w.heap.size, 11, none⟩)),
     Under (((sk_9 c d))) (.slice s.pA s.pN s.pC),
     Under (((sk_9 c d))) (.pointer (some ⟨w1.heap.size, 11, none⟩)),
     Under (((sk_9 c d))) (.slice u.pA u.pN u.pC),
     Under (((sk_9 c d))) (.bool (decide (c.pr = d.pr))),
     Is (.bool (sk_10 c d)),
     Is (.bool (sk_10 c d)),
     Under (((sk_10 c d))) (.pointer (some ⟨w.heap.size, 12, none⟩)),
     Under (((sk_10 c d))) (.int .u32 (c.tm : Int)),
     Under (((sk_10 c d))) (.pointer (some ⟨w1.heap.size, 12, none⟩)),
     Under (((sk_10 c d))) (.int .u32 (d.tm : Int)),
     Under (((sk_10 c d))) (.bool (((c.tm : Int) : Int) == ((d.tm : Int) : Int))),
     Is (.bool (sk_11 c d)),
     Is (.bool (sk_11 c d)),
     Under (((sk_11 c d))) (.pointer (some ⟨w.heap.size, 13, none⟩)),
     Under (((sk_11 c d))) (.int .u32 (c.tp : Int)),
     Under (((sk_11 c d))) (.pointer (some ⟨w1.heap.size, 13, none⟩)),
     Under (((sk_11 c d))) (.int .u32 (d.tp : Int)),
     Under (((sk_11 c d))) (.bool (((c.tp : Int) : Int) == ((d.tp : Int) : Int))),
     Is (.bool (sk_12 c d)),
     Is (.bool (sk_12 c d))]
    rfl (by kernel_rfl) rfl Ext.refl (fun _ _ _ => Ext.trans) (KeepAll.is (KeepAll.is (KeepAll.is (KeepAll.is (KeepAll.is (KeepAll.is (KeepAll.under (KeepAll.under (KeepAll.under (KeepAll.under (KeepAll.under (KeepAll.is (KeepAll.is (KeepAll.under (KeepAll.under (KeepAll.under (KeepAll.under (KeepAll.under (KeepAll.is (KeepAll.is (KeepAll.under (KeepAll.under (KeepAll.under (KeepAll.under (KeepAll.under (KeepAll.is (KeepAll.is (KeepAll.under (KeepAll.under (KeepAll.under (KeepAll.under (KeepAll.under (KeepAll.is (KeepAll.is (KeepAll.under (KeepAll.under (KeepAll.under (KeepAll.under (KeepAll.under (KeepAll.is (KeepAll.is (KeepAll.under (KeepAll.under (KeepAll.under (KeepAll.under (KeepAll.under (KeepAll.is (KeepAll.is (KeepAll.under (KeepAll.under (KeepAll.under (KeepAll.under (KeepAll.under (KeepAll.is (KeepAll.is (KeepAll.under (KeepAll.under (KeepAll.under (KeepAll.under (KeepAll.under (KeepAll.is (KeepAll.is (KeepAll.under (KeepAll.under (KeepAll.under (KeepAll.under (KeepAll.under (KeepAll.is (KeepAll.is (KeepAll.under (KeepAll.under (KeepAll.under (KeepAll.under (KeepAll.under (KeepAll.is (KeepAll.is (KeepAll.under (KeepAll.under (KeepAll.under (KeepAll.under (KeepAll.under (KeepAll.is (KeepAll.is (KeepAll.under (KeepAll.under (KeepAll.under (KeepAll.under (KeepAll.under (KeepAll.is (KeepAll.is (KeepAll.under (KeepAll.under (KeepAll.under (KeepAll.under (KeepAll.under (KeepAll.is (KeepAll.is (KeepAll.nil)))))))))))))))))))))))))))))))))))))))))))))))))))))))))))))))))))))))))))))))))))))))))))))))))) ?_ ?_
  · refine GoodAll.cons ?_ ?_
    · intro r wx hR hx
      obtain ⟨h1, _⟩ := hx
      replace h1 : r (.tmp 2) = .pointer (some ⟨w.heap.size, 0, none⟩) := h1
      exact give_of (by simp [execOp, h1, go_sem]) ⟨Ext.refl _, rfl⟩
    refine GoodAll.cons ?_ ?_
    · intro r wx hR hx
      obtain ⟨h1, _⟩ := hx
      replace h1 : r (.tmp 5) = .pointer (some ⟨w.heap.size, 0, none⟩) := h1
      exact give_of (exec_get one3 rfl h1 (kv0 (hb1'.ext hR))) ⟨Ext.refl _, rfl⟩
    refine GoodAll.cons ?_ ?_
    · intro r wx hR hx
      obtain ⟨h1, _⟩ := hx
      replace h1 : r (.tmp 3) = .pointer (some ⟨w1.heap.size, 0, none⟩) := h1
      exact give_of (by simp [execOp, h1, go_sem]) ⟨Ext.refl _, rfl⟩
    refine GoodAll.cons ?_ ?_
    · intro r wx hR hx
      obtain ⟨h1, _⟩ := hx
      replace h1 : r (.tmp 7) = .pointer (some ⟨w1.heap.size, 0, none⟩) := h1
      exact give_of (exec_get one3 rfl h1 (kv0 (hb2.ext hR))) ⟨Ext.refl _, rfl⟩
    refine GoodAll.cons ?_ ?_
    · intro r wx hR hx
      obtain ⟨h1, h2, _⟩ := hx
      replace h1 : r (.tmp 6) = .int .i64 c.made := h1
      replace h2 : r (.tmp 8) = .int .i64 d.made := h2
      exact give_of (by simp [execOp, h1, h2, go_sem]) ⟨Ext.refl _, rfl⟩
    refine GoodAll.cons ?_ ?_
    · intro r wx hR hx
      obtain ⟨h1, _⟩ := hx
      replace h1 : r (.tmp 9) = .bool ((c.made : Int) == (d.made : Int)) := h1
      exact give_move (.inl rfl) ⟨Ext.refl _, h1⟩
    refine GoodAll.cons ?_ ?_
    · intro r wx hR hx
      obtain ⟨h1, _⟩ := hx
      replace h1 : r (.tmp 2) = .pointer (some ⟨w.heap.size, 0, none⟩) := h1
      intro gb hgb
      refine guard_u (C := (((c.made : Int) == (d.made : Int)))) (b := ((c.made : Int) == (d.made : Int))) (want := true) hgb (want_t _) (fun hc => ?_) (fun hc => under_no hc)
      exact give_of (by simp [execOp, h1, go_sem]) ⟨Ext.refl _, under_yes hc⟩
    refine GoodAll.cons ?_ ?_
    · intro r wx hR hx
      obtain ⟨h1, _⟩ := hx
      replace h1 : Under ((((c.made : Int) == (d.made : Int)))) (.pointer (some ⟨w.heap.size, 1, none⟩)) wx (r (.tmp 11)) := h1
      intro gb hgb
      refine guard_u (C := (((c.made : Int) == (d.made : Int)))) (b := ((c.made : Int) == (d.made : Int))) (want := true) hgb (want_t _) (fun hc => ?_) (fun hc => under_no hc)
      replace h1 := h1.get hc
      exact give_of (exec_get one3 rfl h1 (kv1 (hb1'.ext hR))) ⟨Ext.refl _, under_yes hc⟩
    refine GoodAll.cons ?_ ?_
    · intro r wx hR hx
      obtain ⟨h1, _⟩ := hx
      replace h1 : r (.tmp 3) = .pointer (some ⟨w1.heap.size, 0, none⟩) := h1
      intro gb hgb
      refine guard_u (C := (((c.made : Int) == (d.made : Int)))) (b := ((c.made : Int) == (d.made : Int))) (want := true) hgb (want_t _) (fun hc => ?_) (fun hc => under_no hc)
      exact give_of (by simp [execOp, h1, go_sem]) ⟨Ext.refl _, under_yes hc⟩
    refine GoodAll.cons ?_ ?_
    · intro r wx hR hx
      obtain ⟨h1, _⟩ := hx
      replace h1 : Under ((((c.made : Int) == (d.made : Int)))) (.pointer (some ⟨w1.heap.size, 1, none⟩)) wx (r (.tmp 13)) := h1
      intro gb hgb
      refine guard_u (C := (((c.made : Int) == (d.made : Int)))) (b := ((c.made : Int) == (d.made : Int))) (want := true) hgb (want_t _) (fun hc => ?_) (fun hc => under_no hc)
      replace h1 := h1.get hc
      exact give_of (exec_get one3 rfl h1 (kv1 (hb2.ext hR))) ⟨Ext.refl _, under_yes hc⟩
    refine GoodAll.cons ?_ ?_
    · intro r wx hR hx
      obtain ⟨h1, h2, _⟩ := hx
      replace h1 : Under ((((c.made : Int) == (d.made : Int)))) (.int .i64 c.life) wx (r (.tmp 12)) := h1
      replace h2 : Under ((((c.made : Int) == (d.made : Int)))) (.int .i64 d.life) wx (r (.tmp 14)) := h2
      intro gb hgb
      refine guard_u (C := (((c.made : Int) == (d.made : Int)))) (b := ((c.made : Int) == (d.made : Int))) (want := true) hgb (want_t _) (fun hc => ?_) (fun hc => under_no hc)
      replace h1 := h1.get hc
      replace h2 := h2.get hc
      exact give_of (by simp [execOp, h1, h2, go_sem]) ⟨Ext.refl _, under_yes hc⟩
    refine GoodAll.cons ?_ ?_
    · intro r wx hR hx
      obtain ⟨h1, h2, h3, _⟩ := hx
      replace h1 : r (.tmp 10) = .bool ((c.made : Int) == (d.made : Int)) := h1
      replace h2 : Under ((((c.made : Int) == (d.made : Int)))) (.bool ((c.life : Int) == (d.life : Int))) wx (r (.tmp 15)) := h2
      replace h3 : r (.const (.bool false)) = .bool false := h3
      exact give_and rfl h3 h1 (fun hb => h2.get (by first | exact hb | (rw [hc, hb]; rfl) | (rw [hb]; rfl))) ⟨Ext.refl _, rfl⟩
    refine GoodAll.cons ?_ ?_
    · intro r wx hR hx
      obtain ⟨h1, _⟩ := hx
      replace h1 : r (.tmp 16) = .bool (sk_0 c d) := h1
      exact give_move (.inl rfl) ⟨Ext.refl _, h1⟩
    refine GoodAll.cons ?_ ?_
    · intro r wx hR hx
      obtain ⟨h1, _⟩ := hx
      replace h1 : r (.tmp 2) = .pointer (some ⟨w.heap.size, 0, none⟩) := h1
      intro gb hgb
      refine guard_u (C := ((sk_0 c d))) (b := (sk_0 c d)) (want := true) hgb (want_t _) (fun hc => ?_) (fun hc => under_no hc)
      exact give_of (by simp [execOp, h1, go_sem]) ⟨Ext.refl _, under_yes hc⟩
    refine GoodAll.cons ?_ ?_
    · intro r wx hR hx
      obtain ⟨h1, _⟩ := hx
      replace h1 : Under (((sk_0 c d))) (.pointer (some ⟨w.heap.size, 2, none⟩)) wx (r (.tmp 18)) := h1
      intro gb hgb
      refine guard_u (C := ((sk_0 c d))) (b := (sk_0 c d)) (want := true) hgb (want_t _) (fun hc => ?_) (fun hc => under_no hc)
      replace h1 := h1.get hc
      exact give_of (exec_get one22 rfl h1 (kv2 (hb1'.ext hR))) ⟨Ext.refl _, under_yes hc⟩
    refine GoodAll.cons ?_ ?_
    · intro r wx hR hx
      obtain ⟨h1, _⟩ := hx
      replace h1 : r (.tmp 3) = .pointer (some ⟨w1.heap.size, 0, none⟩) := h1
      intro gb hgb
      refine guard_u (C := ((sk_0 c d))) (b := (sk_0 c d)) (want := true) hgb (want_t _) (fun hc => ?_) (fun hc => under_no hc)
      exact give_of (by simp [execOp, h1, go_sem]) ⟨Ext.refl _, under_yes hc⟩
    refine GoodAll.cons ?_ ?_
    · intro r wx hR hx
      obtain ⟨h1, _⟩ := hx
      replace h1 : Under (((sk_0 c d))) (.pointer (some ⟨w1.heap.size, 2, none⟩)) wx (r (.tmp 20)) := h1
      intro gb hgb
      refine guard_u (C := ((sk_0 c d))) (b := (sk_0 c d)) (want := true) hgb (want_t _) (fun hc => ?_) (fun hc => under_no hc)
      replace h1 := h1.get hc
      exact give_of (exec_get one22 rfl h1 (kv2 (hb2.ext hR))) ⟨Ext.refl _, under_yes hc⟩
    refine GoodAll.cons ?_ ?_
    · intro r wx hR hx
      obtain ⟨h1, h2, _⟩ := hx
      replace h1 : Under (((sk_0 c d))) (.int .u32 (c.mine : Int)) wx (r (.tmp 19)) := h1
      replace h2 : Under (((sk_0 c d))) (.int .u32 (d.mine : Int)) wx (r (.tmp 21)) := h2
      intro gb hgb
      refine guard_u (C := ((sk_0 c d))) (b := (sk_0 c d)) (want := true) hgb (want_t _) (fun hc => ?_) (fun hc => under_no hc)
      replace h1 := h1.get hc
      replace h2 := h2.get hc
      exact give_of (by simp [execOp, h1, h2, go_sem]) ⟨Ext.refl _, under_yes hc⟩
    refine GoodAll.cons ?_ ?_
    · intro r wx hR hx
      obtain ⟨h1, h2, h3, _⟩ := hx
      replace h1 : r (.tmp 17) = .bool (sk_0 c d) := h1
      replace h2 : Under (((sk_0 c d))) (.bool (((c.mine : Int) : Int) == ((d.mine : Int) : Int))) wx (r (.tmp 22)) := h2
      replace h3 : r (.const (.bool false)) = .bool false := h3
      exact give_and rfl h3 h1 (fun hb => h2.get (by first | exact hb | (rw [hc, hb]; rfl) | (rw [hb]; rfl))) ⟨Ext.refl _, rfl⟩
    refine GoodAll.cons ?_ ?_
    · intro r wx hR hx
      obtain ⟨h1, _⟩ := hx
      replace h1 : r (.tmp 23) = .bool (sk_1 c d) := h1
      exact give_move (.inl rfl) ⟨Ext.refl _, h1⟩
    refine GoodAll.cons ?_ ?_
    · intro r wx hR hx
      obtain ⟨h1, _⟩ := hx
      replace h1 : r (.tmp 2) = .pointer (some ⟨w.heap.size, 0, none⟩) := h1
      intro gb hgb
      refine guard_u (C := ((sk_1 c d))) (b := (sk_1 c d)) (want := true) hgb (want_t _) (fun hc => ?_) (fun hc => under_no hc)
      exact give_of (by simp [execOp, h1, go_sem]) ⟨Ext.refl _, under_yes hc⟩
    refine GoodAll.cons ?_ ?_
    · intro r wx hR hx
      obtain ⟨h1, _⟩ := hx
      replace h1 : Under (((sk_1 c d))) (.pointer (some ⟨w.heap.size, 3, none⟩)) wx (r (.tmp 25)) := h1
      intro gb hgb
      refine guard_u (C := ((sk_1 c d))) (b := (sk_1 c d)) (want := true) hgb (want_t _) (fun hc => ?_) (fun hc => under_no hc)
      replace h1 := h1.get hc
      exact give_of (exec_get one22 rfl h1 (kv3 (hb1'.ext hR))) ⟨Ext.refl _, under_yes hc⟩
    refine GoodAll.cons ?_ ?_
    · intro r wx hR hx
      obtain ⟨h1, _⟩ := hx
      replace h1 : r (.tmp 3) = .pointer (some ⟨w1.heap.size, 0, none⟩) := h1
      intro gb hgb
      refine guard_u (C := ((sk_1 c d))) (b := (sk_1 c d)) (want := true) hgb (want_t _) (fun hc => ?_) (fun hc => under_no hc)
      exact give_of (by simp [execOp, h1, go_sem]) ⟨Ext.refl _, under_yes hc⟩
    refine GoodAll.cons ?_ ?_
    · intro r wx hR hx
      obtain ⟨h1, _⟩ := hx
      replace h1 : Under (((sk_1 c d))) (.pointer (some ⟨w1.heap.size, 3, none⟩)) wx (r (.tmp 27)) := h1
      intro gb hgb
      refine guard_u (C := ((sk_1 c d))) (b := (sk_1 c d)) (want := true) hgb (want_t _) (fun hc => ?_) (fun hc => under_no hc)
      replace h1 := h1.get hc
      exact give_of (exec_get one22 rfl h1 (kv3 (hb2.ext hR))) ⟨Ext.refl _, under_yes hc⟩
    refine GoodAll.cons ?_ ?_
    · intro r wx hR hx
      obtain ⟨h1, h2, _⟩ := hx
      replace h1 : Under (((sk_1 c d))) (.int .u32 (c.peers : Int)) wx (r (.tmp 26)) := h1
      replace h2 : Under (((sk_1 c d))) (.int .u32 (d.peers : Int)) wx (r (.tmp 28)) := h2
      intro gb hgb
      refine guard_u (C := ((sk_1 c d))) (b := (sk_1 c d)) (want := true) hgb (want_t _) (fun hc => ?_) (fun hc => under_no hc)
      replace h1 := h1.get hc
      replace h2 := h2.get hc
      exact give_of (by simp [execOp, h1, h2, go_sem]) ⟨Ext.refl _, under_yes hc⟩
    refine GoodAll.cons ?_ ?_
    · intro r wx hR hx
      obtain ⟨h1, h2, h3, _⟩ := hx
      replace h1 : r (.tmp 24) = .bool (sk_1 c d) := h1
      replace h2 : Under (((sk_1 c d))) (.bool (((c.peers : Int) : Int) == ((d.peers : Int) : Int))) wx (r (.tmp 29)) := h2
      replace h3 : r (.const (.bool false)) = .bool false := h3
      exact give_and rfl h3 h1 (fun hb => h2.get (by first | exact hb | (rw [hc, hb]; rfl) | (rw [hb]; rfl))) ⟨Ext.refl _, rfl⟩
    refine GoodAll.cons ?_ ?_
    · intro r wx hR hx
      obtain ⟨h1, _⟩ := hx
      replace h1 : r (.tmp 30) = .bool (sk_2 c d) := h1
      exact give_move (.inl rfl) ⟨Ext.refl _, h1⟩
    refine GoodAll.cons ?_ ?_
    · intro r wx hR hx
      obtain ⟨h1, _⟩ := hx
      replace h1 : r (.tmp 2) = .pointer (some ⟨w.heap.size, 0, none⟩) := h1
      intro gb hgb
      refine guard_u (C := ((sk_2 c d))) (b := (sk_2 c d)) (want := true) hgb (want_t _) (fun hc => ?_) (fun hc => under_no hc)
      exact give_of (by simp [execOp, h1, go_sem]) ⟨Ext.refl _, under_yes hc⟩
    refine GoodAll.cons ?_ ?_
    · intro r wx hR hx
      obtain ⟨h1, _⟩ := hx
      replace h1 : Under (((sk_2 c d))) (.pointer (some ⟨w.heap.size, 4, none⟩)) wx (r (.tmp 32)) := h1
      intro gb hgb
      refine guard_u (C := ((sk_2 c d))) (b := (sk_2 c d)) (want := true) hgb (want_t _) (fun hc => ?_) (fun hc => under_no hc)
      replace h1 := h1.get hc
      exact give_of (exec_get one22 rfl h1 (kv4 (hb1'.ext hR))) ⟨Ext.refl _, under_yes hc⟩
    refine GoodAll.cons ?_ ?_
    · intro r wx hR hx
      obtain ⟨h1, _⟩ := hx
      replace h1 : r (.tmp 3) = .pointer (some ⟨w1.heap.size, 0, none⟩) := h1
      intro gb hgb
      refine guard_u (C := ((sk_2 c d))) (b := (sk_2 c d)) (want := true) hgb (want_t _) (fun hc => ?_) (fun hc => under_no hc)
      exact give_of (by simp [execOp, h1, go_sem]) ⟨Ext.refl _, under_yes hc⟩
    refine GoodAll.cons ?_ ?_
    · intro r wx hR hx
      obtain ⟨h1, _⟩ := hx
      replace h1 : Under (((sk_2 c d))) (.pointer (some ⟨w1.heap.size, 4, none⟩)) wx (r (.tmp 34)) := h1
      intro gb hgb
      refine guard_u (C := ((sk_2 c d))) (b := (sk_2 c d)) (want := true) hgb (want_t _) (fun hc => ?_) (fun hc => under_no hc)
      replace h1 := h1.get hc
      exact give_of (exec_get one22 rfl h1 (kv4 (hb2.ext hR))) ⟨Ext.refl _, under_yes hc⟩
    refine GoodAll.cons ?_ ?_
    · intro r wx hR hx
      obtain ⟨h1, h2, _⟩ := hx
      replace h1 : Under (((sk_2 c d))) (.int .u32 (c.mtsn : Int)) wx (r (.tmp 33)) := h1
      replace h2 : Under (((sk_2 c d))) (.int .u32 (d.mtsn : Int)) wx (r (.tmp 35)) := h2
      intro gb hgb
      refine guard_u (C := ((sk_2 c d))) (b := (sk_2 c d)) (want := true) hgb (want_t _) (fun hc => ?_) (fun hc => under_no hc)
      replace h1 := h1.get hc
      replace h2 := h2.get hc
      exact give_of (by simp [execOp, h1, h2, go_sem]) ⟨Ext.refl _, under_yes hc⟩
    refine GoodAll.cons ?_ ?_
    · intro r wx hR hx
      obtain ⟨h1, h2, h3, _⟩ := hx
      replace h1 : r (.tmp 31) = .bool (sk_2 c d) := h1
      replace h2 : Under (((sk_2 c d))) (.bool (((c.mtsn : Int) : Int) == ((d.mtsn : Int) : Int))) wx (r (.tmp 36)) := h2
      replace h3 : r (.const (.bool false)) = .bool false := h3
      exact give_and rfl h3 h1 (fun hb => h2.get (by first | exact hb | (rw [hc, hb]; rfl) | (rw [hb]; rfl))) ⟨Ext.refl _, rfl⟩
    refine GoodAll.cons ?_ ?_
    · intro r wx hR hx
      obtain ⟨h1, _⟩ := hx
      replace h1 : r (.tmp 37) = .bool (sk_3 c d) := h1
      exact give_move (.inl rfl) ⟨Ext.refl _, h1⟩
    refine GoodAll.cons ?_ ?_
    · intro r wx hR hx
      obtain ⟨h1, _⟩ := hx
      replace h1 : r (.tmp 2) = .pointer (some ⟨w.heap.size, 0, none⟩) := h1
      intro gb hgb
      refine guard_u (C := ((sk_3 c d))) (b := (sk_3 c d)) (want := true) hgb (want_t _) (fun hc => ?_) (fun hc => under_no hc)
      exact give_of (by simp [execOp, h1, go_sem]) ⟨Ext.refl _, under_yes hc⟩
    refine GoodAll.cons ?_ ?_
    · intro r wx hR hx
      obtain ⟨h1, _⟩ := hx
      replace h1 : Under (((sk_3 c d))) (.pointer (some ⟨w.heap.size, 5, none⟩)) wx (r (.tmp 39)) := h1
      intro gb hgb
      refine guard_u (C := ((sk_3 c d))) (b := (sk_3 c d)) (want := true) hgb (want_t _) (fun hc => ?_) (fun hc => under_no hc)
      replace h1 := h1.get hc
      exact give_of (exec_get one22 rfl h1 (kv5 (hb1'.ext hR))) ⟨Ext.refl _, under_yes hc⟩
    refine GoodAll.cons ?_ ?_
    · intro r wx hR hx
      obtain ⟨h1, _⟩ := hx
      replace h1 : r (.tmp 3) = .pointer (some ⟨w1.heap.size, 0, none⟩) := h1
      intro gb hgb
      refine guard_u (C := ((sk_3 c d))) (b := (sk_3 c d)) (want := true) hgb (want_t _) (fun hc => ?_) (fun hc => under_no hc)
      exact give_of (by simp [execOp, h1, go_sem]) ⟨Ext.refl _, under_yes hc⟩
    refine GoodAll.cons ?_ ?_
    · intro r wx hR hx
      obtain ⟨h1, _⟩ := hx
      replace h1 : Under (((sk_3 c d))) (.pointer (some ⟨w1.heap.size, 5, none⟩)) wx (r (.tmp 41)) := h1
      intro gb hgb
      refine guard_u (C := ((sk_3 c d))) (b := (sk_3 c d)) (want := true) hgb (want_t _) (fun hc => ?_) (fun hc => under_no hc)
      replace h1 := h1.get hc
      exact give_of (exec_get one22 rfl h1 (kv5 (hb2.ext hR))) ⟨Ext.refl _, under_yes hc⟩
    refine GoodAll.cons ?_ ?_
    · intro r wx hR hx
      obtain ⟨h1, h2, _⟩ := hx
      replace h1 : Under (((sk_3 c d))) (.int .u32 (c.ptsn : Int)) wx (r (.tmp 40)) := h1
      replace h2 : Under (((sk_3 c d))) (.int .u32 (d.ptsn : Int)) wx (r (.tmp 42)) := h2
      intro gb hgb
      refine guard_u (C := ((sk_3 c d))) (b := (sk_3 c d)) (want := true) hgb (want_t _) (fun hc => ?_) (fun hc => under_no hc)
      replace h1 := h1.get hc
      replace h2 := h2.get hc
      exact give_of (by simp [execOp, h1, h2, go_sem]) ⟨Ext.refl _, under_yes hc⟩
    refine GoodAll.cons ?_ ?_
    · intro r wx hR hx
      obtain ⟨h1, h2, h3, _⟩ := hx
      replace h1 : r (.tmp 38) = .bool (sk_3 c d) := h1
      replace h2 : Under (((sk_3 c d))) (.bool (((c.ptsn : Int) : Int) == ((d.ptsn : Int) : Int))) wx (r (.tmp 43)) := h2
      replace h3 : r (.const (.bool false)) = .bool false := h3
      exact give_and rfl h3 h1 (fun hb => h2.get (by first | exact hb | (rw [hc, hb]; rfl) | (rw [hb]; rfl))) ⟨Ext.refl _, rfl⟩
    refine GoodAll.cons ?_ ?_
    · intro r wx hR hx
      obtain ⟨h1, _⟩ := hx
      replace h1 : r (.tmp 44) = .bool (sk_4 c d) := h1
      exact give_move (.inl rfl) ⟨Ext.refl _, h1⟩
    refine GoodAll.cons ?_ ?_
    · intro r wx hR hx
      obtain ⟨h1, _⟩ := hx
      replace h1 : r (.tmp 2) = .pointer (some ⟨w.heap.size, 0, none⟩) := h1
      intro gb hgb
      refine guard_u (C := ((sk_4 c d))) (b := (sk_4 c d)) (want := true) hgb (want_t _) (fun hc => ?_) (fun hc => under_no hc)
      exact give_of (by simp [execOp, h1, go_sem]) ⟨Ext.refl _, under_yes hc⟩
    refine GoodAll.cons ?_ ?_
    · intro r wx hR hx
      obtain ⟨h1, _⟩ := hx
      replace h1 : Under (((sk_4 c d))) (.pointer (some ⟨w.heap.size, 6, none⟩)) wx (r (.tmp 46)) := h1
      intro gb hgb
      refine guard_u (C := ((sk_4 c d))) (b := (sk_4 c d)) (want := true) hgb (want_t _) (fun hc => ?_) (fun hc => under_no hc)
      replace h1 := h1.get hc
      exact give_of (exec_get one3 rfl h1 (kv6 (hb1'.ext hR))) ⟨Ext.refl _, under_yes hc⟩
    refine GoodAll.cons ?_ ?_
    · intro r wx hR hx
      obtain ⟨h1, _⟩ := hx
      replace h1 : r (.tmp 3) = .pointer (some ⟨w1.heap.size, 0, none⟩) := h1
      intro gb hgb
      refine guard_u (C := ((sk_4 c d))) (b := (sk_4 c d)) (want := true) hgb (want_t _) (fun hc => ?_) (fun hc => under_no hc)
      exact give_of (by simp [execOp, h1, go_sem]) ⟨Ext.refl _, under_yes hc⟩
    refine GoodAll.cons ?_ ?_
    · intro r wx hR hx
      obtain ⟨h1, _⟩ := hx
      replace h1 : Under (((sk_4 c d))) (.pointer (some ⟨w1.heap.size, 6, none⟩)) wx (r (.tmp 48)) := h1
      intro gb hgb
      refine guard_u (C := ((sk_4 c d))) (b := (sk_4 c d)) (want := true) hgb (want_t _) (fun hc => ?_) (fun hc => under_no hc)
      replace h1 := h1.get hc
      exact give_of (exec_get one3 rfl h1 (kv6 (hb2.ext hR))) ⟨Ext.refl _, under_yes hc⟩
    refine GoodAll.cons ?_ ?_
    · intro r wx hR hx
      obtain ⟨h1, h2, _⟩ := hx
      replace h1 : Under (((sk_4 c d))) (.int .i64 c.win) wx (r (.tmp 47)) := h1
      replace h2 : Under (((sk_4 c d))) (.int .i64 d.win) wx (r (.tmp 49)) := h2
      intro gb hgb
      refine guard_u (C := ((sk_4 c d))) (b := (sk_4 c d)) (want := true) hgb (want_t _) (fun hc => ?_) (fun hc => under_no hc)
      replace h1 := h1.get hc
      replace h2 := h2.get hc
      exact give_of (by simp [execOp, h1, h2, go_sem]) ⟨Ext.refl _, under_yes hc⟩
    refine GoodAll.cons ?_ ?_
    · intro r wx hR hx
      obtain ⟨h1, h2, h3, _⟩ := hx
      replace h1 : r (.tmp 45) = .bool (sk_4 c d) := h1
      replace h2 : Under (((sk_4 c d))) (.bool ((c.win : Int) == (d.win : Int))) wx (r (.tmp 50)) := h2
      replace h3 : r (.const (.bool false)) = .bool false := h3
      exact give_and rfl h3 h1 (fun hb => h2.get (by first | exact hb | (rw [hc, hb]; rfl) | (rw [hb]; rfl))) ⟨Ext.refl _, rfl⟩
    refine GoodAll.cons ?_ ?_
    · intro r wx hR hx
      obtain ⟨h1, _⟩ := hx
      replace h1 : r (.tmp 51) = .bool (sk_5 c d) := h1
      exact give_move (.inl rfl) ⟨Ext.refl _, h1⟩
    refine GoodAll.cons ?_ ?_
    · intro r wx hR hx
      obtain ⟨h1, _⟩ := hx
      replace h1 : r (.tmp 2) = .pointer (some ⟨w.heap.size, 0, none⟩) := h1
      intro gb hgb
      refine guard_u (C := ((sk_5 c d))) (b := (sk_5 c d)) (want := true) hgb (want_t _) (fun hc => ?_) (fun hc => under_no hc)
      exact give_of (by simp [execOp, h1, go_sem]) ⟨Ext.refl _, under_yes hc⟩
    refine GoodAll.cons ?_ ?_
    · intro r wx hR hx
      obtain ⟨h1, _⟩ := hx
      replace h1 : Under (((sk_5 c d))) (.pointer (some ⟨w.heap.size, 7, none⟩)) wx (r (.tmp 53)) := h1
      intro gb hgb
      refine guard_u (C := ((sk_5 c d))) (b := (sk_5 c d)) (want := true) hgb (want_t _) (fun hc => ?_) (fun hc => under_no hc)
      replace h1 := h1.get hc
      exact give_of (exec_get one3 rfl h1 (kv7 (hb1'.ext hR))) ⟨Ext.refl _, under_yes hc⟩
    refine GoodAll.cons ?_ ?_
    · intro r wx hR hx
      obtain ⟨h1, _⟩ := hx
      replace h1 : r (.tmp 3) = .pointer (some ⟨w1.heap.size, 0, none⟩) := h1
      intro gb hgb
      refine guard_u (C := ((sk_5 c d))) (b := (sk_5 c d)) (want := true) hgb (want_t _) (fun hc => ?_) (fun hc => under_no hc)
      exact give_of (by simp [execOp, h1, go_sem]) ⟨Ext.refl _, under_yes hc⟩
    refine GoodAll.cons ?_ ?_
    · intro r wx hR hx
      obtain ⟨h1, _⟩ := hx
      replace h1 : Under (((sk_5 c d))) (.pointer (some ⟨w1.heap.size, 7, none⟩)) wx (r (.tmp 55)) := h1
      intro gb hgb
      refine guard_u (C := ((sk_5 c d))) (b := (sk_5 c d)) (want := true) hgb (want_t _) (fun hc => ?_) (fun hc => under_no hc)
      replace h1 := h1.get hc
      exact give_of (exec_get one3 rfl h1 (kv7 (hb2.ext hR))) ⟨Ext.refl _, under_yes hc⟩
    refine GoodAll.cons ?_ ?_
    · intro r wx hR hx
      obtain ⟨h1, h2, _⟩ := hx
      replace h1 : Under (((sk_5 c d))) (.int .i64 c.out) wx (r (.tmp 54)) := h1
      replace h2 : Under (((sk_5 c d))) (.int .i64 d.out) wx (r (.tmp 56)) := h2
      intro gb hgb
      refine guard_u (C := ((sk_5 c d))) (b := (sk_5 c d)) (want := true) hgb (want_t _) (fun hc => ?_) (fun hc => under_no hc)
      replace h1 := h1.get hc
      replace h2 := h2.get hc
      exact give_of (by simp [execOp, h1, h2, go_sem]) ⟨Ext.refl _, under_yes hc⟩
    refine GoodAll.cons ?_ ?_
    · intro r wx hR hx
      obtain ⟨h1, h2, h3, _⟩ := hx
      replace h1 : r (.tmp 52) = .bool (sk_5 c d) := h1
      replace h2 : Under (((sk_5 c d))) (.bool ((c.out : Int) == (d.out : Int))) wx (r (.tmp 57)) := h2
      replace h3 : r (.const (.bool false)) = .bool false := h3
      exact give_and rfl h3 h1 (fun hb => h2.get (by first | exact hb | (rw [hc, hb]; rfl) | (rw [hb]; rfl))) ⟨Ext.refl _, rfl⟩
    refine GoodAll.cons ?_ ?_
    · intro r wx hR hx
      obtain ⟨h1, _⟩ := hx
      replace h1 : r (.tmp 58) = .bool (sk_6 c d) := h1
      exact give_move (.inl rfl) ⟨Ext.refl _, h1⟩
    refine GoodAll.cons ?_ ?_
    · intro r wx hR hx
      obtain ⟨h1, _⟩ := hx
      replace h1 : r (.tmp 2) = .pointer (some ⟨w.heap.size, 0, none⟩) := h1
      intro gb hgb
      refine guard_u (C := ((sk_6 c d))) (b := (sk_6 c d)) (want := true) hgb (want_t _) (fun hc => ?_) (fun hc => under_no hc)
      exact give_of (by simp [execOp, h1, go_sem]) ⟨Ext.refl _, under_yes hc⟩
    refine GoodAll.cons ?_ ?_
    · intro r wx hR hx
      obtain ⟨h1, _⟩ := hx
      replace h1 : Under (((sk_6 c d))) (.pointer (some ⟨w.heap.size, 8, none⟩)) wx (r (.tmp 60)) := h1
      intro gb hgb
      refine guard_u (C := ((sk_6 c d))) (b := (sk_6 c d)) (want := true) hgb (want_t _) (fun hc => ?_) (fun hc => under_no hc)
      replace h1 := h1.get hc
      exact give_of (exec_get one3 rfl h1 (kv8 (hb1'.ext hR))) ⟨Ext.refl _, under_yes hc⟩
    refine GoodAll.cons ?_ ?_
    · intro r wx hR hx
      obtain ⟨h1, _⟩ := hx
      replace h1 : r (.tmp 3) = .pointer (some ⟨w1.heap.size, 0, none⟩) := h1
      intro gb hgb
      refine guard_u (C := ((sk_6 c d))) (b := (sk_6 c d)) (want := true) hgb (want_t _) (fun hc => ?_) (fun hc => under_no hc)
      exact give_of (by simp [execOp, h1, go_sem]) ⟨Ext.refl _, under_yes hc⟩
    refine GoodAll.cons ?_ ?_
    · intro r wx hR hx
      obtain ⟨h1, _⟩ := hx
      replace h1 : Under (((sk_6 c d))) (.pointer (some ⟨w1.heap.size, 8, none⟩)) wx (r (.tmp 62)) := h1
      intro gb hgb
      refine guard_u (C := ((sk_6 c d))) (b := (sk_6 c d)) (want := true) hgb (want_t _) (fun hc => ?_) (fun hc => under_no hc)
      replace h1 := h1.get hc
      exact give_of (exec_get one3 rfl h1 (kv8 (hb2.ext hR))) ⟨Ext.refl _, under_yes hc⟩
    refine GoodAll.cons ?_ ?_
    · intro r wx hR hx
      obtain ⟨h1, h2, _⟩ := hx
      replace h1 : Under (((sk_6 c d))) (.int .i64 c.inn) wx (r (.tmp 61)) := h1
      replace h2 : Under (((sk_6 c d))) (.int .i64 d.inn) wx (r (.tmp 63)) := h2
      intro gb hgb
      refine guard_u (C := ((sk_6 c d))) (b := (sk_6 c d)) (want := true) hgb (want_t _) (fun hc => ?_) (fun hc => under_no hc)
      replace h1 := h1.get hc
      replace h2 := h2.get hc
      exact give_of (by simp [execOp, h1, h2, go_sem]) ⟨Ext.refl _, under_yes hc⟩
    refine GoodAll.cons ?_ ?_
    · intro r wx hR hx
      obtain ⟨h1, h2, h3, _⟩ := hx
      replace h1 : r (.tmp 59) = .bool (sk_6 c d) := h1
      replace h2 : Under (((sk_6 c d))) (.bool ((c.inn : Int) == (d.inn : Int))) wx (r (.tmp 64)) := h2
      replace h3 : r (.const (.bool false)) = .bool false := h3
      exact give_and rfl h3 h1 (fun hb => h2.get (by first | exact hb | (rw [hc, hb]; rfl) | (rw [hb]; rfl))) ⟨Ext.refl _, rfl⟩
    refine GoodAll.cons ?_ ?_
    · intro r wx hR hx
      obtain ⟨h1, _⟩ := hx
      replace h1 : r (.tmp 65) = .bool (sk_7 c d) := h1
      exact give_move (.inl rfl) ⟨Ext.refl _, h1⟩
    refine GoodAll.cons ?_ ?_
    · intro r wx hR hx
      obtain ⟨h1, _⟩ := hx
      replace h1 : r (.tmp 2) = .pointer (some ⟨w.heap.size, 0, none⟩) := h1
      intro gb hgb
      refine guard_u (C := ((sk_7 c d))) (b := (sk_7 c d)) (want := true) hgb (want_t _) (fun hc => ?_) (fun hc => under_no hc)
      exact give_of (by simp [execOp, h1, go_sem]) ⟨Ext.refl _, under_yes hc⟩
    refine GoodAll.cons ?_ ?_
    · intro r wx hR hx
      obtain ⟨h1, _⟩ := hx
      replace h1 : Under (((sk_7 c d))) (.pointer (some ⟨w.heap.size, 9, none⟩)) wx (r (.tmp 67)) := h1
      intro gb hgb
      refine guard_u (C := ((sk_7 c d))) (b := (sk_7 c d)) (want := true) hgb (want_t _) (fun hc => ?_) (fun hc => under_no hc)
      replace h1 := h1.get hc
      exact give_of (exec_get oneSA rfl h1 (kv9 (hb1'.ext hR))) ⟨Ext.refl _, under_yes hc⟩
    refine GoodAll.cons ?_ ?_
    · intro r wx hR hx
      obtain ⟨h1, _⟩ := hx
      replace h1 : r (.tmp 3) = .pointer (some ⟨w1.heap.size, 0, none⟩) := h1
      intro gb hgb
      refine guard_u (C := ((sk_7 c d))) (b := (sk_7 c d)) (want := true) hgb (want_t _) (fun hc => ?_) (fun hc => under_no hc)
      exact give_of (by simp [execOp, h1, go_sem]) ⟨Ext.refl _, under_yes hc⟩
    refine GoodAll.cons ?_ ?_
    · intro r wx hR hx
      obtain ⟨h1, _⟩ := hx
      replace h1 : Under (((sk_7 c d))) (.pointer (some ⟨w1.heap.size, 9, none⟩)) wx (r (.tmp 69)) := h1
      intro gb hgb
      refine guard_u (C := ((sk_7 c d))) (b := (sk_7 c d)) (want := true) hgb (want_t _) (fun hc => ?_) (fun hc => under_no hc)
      replace h1 := h1.get hc
      exact give_of (exec_get oneSA rfl h1 (kv9 (hb2.ext hR))) ⟨Ext.refl _, under_yes hc⟩
    refine GoodAll.cons ?_ ?_
    · intro r wx hR hx
      obtain ⟨h1, h2, h3, _⟩ := hx
      replace h1 : r (.func 37) = .func (.func 37) #[] #[] := h1
      replace h2 : Under (((sk_7 c d))) (.slice s.aA s.aN s.aC) wx (r (.tmp 68)) := h2
      replace h3 : Under (((sk_7 c d))) (.slice u.aA u.aN u.aC) wx (r (.tmp 70)) := h3
      intro gb hgb
      refine guard_u (C := ((sk_7 c d))) (b := (sk_7 c d)) (want := true) hgb (want_t _) (fun hc => ?_) (fun hc => under_no hc)
      replace h2 := h2.get hc
      replace h3 := h3.get hc
      refine give_func #[.slice s.aA s.aN s.aC, .slice u.aA u.aN u.aC] rfl h1 Tryd.call37 (by simp [h2, h3]) ?_
      refine (eqA_any (HA.a.ext hR) (HB.a.ext hR)).mono ?_
      rintro e wz ⟨rfl, hez⟩
      exact ⟨_, rfl, hez, under_yes hc⟩
    refine GoodAll.cons ?_ ?_
    · intro r wx hR hx
      obtain ⟨h1, h2, h3, _⟩ := hx
      replace h1 : r (.tmp 66) = .bool (sk_7 c d) := h1
      replace h2 : Under (((sk_7 c d))) (.bool (decide (c.addrs = d.addrs))) wx (r (.tmp 71)) := h2
      replace h3 : r (.const (.bool false)) = .bool false := h3
      exact give_and rfl h3 h1 (fun hb => h2.get (by first | exact hb | (rw [hc, hb]; rfl) | (rw [hb]; rfl))) ⟨Ext.refl _, rfl⟩
    refine GoodAll.cons ?_ ?_
    · intro r wx hR hx
      obtain ⟨h1, _⟩ := hx
      replace h1 : r (.tmp 72) = .bool (sk_8 c d) := h1
      exact give_move (.inl rfl) ⟨Ext.refl _, h1⟩
    refine GoodAll.cons ?_ ?_
    · intro r wx hR hx
      obtain ⟨h1, _⟩ := hx
      replace h1 : r (.tmp 2) = .pointer (some ⟨w.heap.size, 0, none⟩) := h1
      intro gb hgb
      refine guard_u (C := ((sk_8 c d))) (b := (sk_8 c d)) (want := true) hgb (want_t _) (fun hc => ?_) (fun hc => under_no hc)
      exact give_of (by simp [execOp, h1, go_sem]) ⟨Ext.refl _, under_yes hc⟩
    refine GoodAll.cons ?_ ?_
    · intro r wx hR hx
      obtain ⟨h1, _⟩ := hx
      replace h1 : Under (((sk_8 c d))) (.pointer (some ⟨w.heap.size, 10, none⟩)) wx (r (.tmp 74)) := h1
      intro gb hgb
      refine guard_u (C := ((sk_8 c d))) (b := (sk_8 c d)) (want := true) hgb (want_t _) (fun hc => ?_) (fun hc => under_no hc)
      replace h1 := h1.get hc
      exact give_of (exec_get oneS rfl h1 (kv10 (hb1'.ext hR))) ⟨Ext.refl _, under_yes hc⟩
    refine GoodAll.cons ?_ ?_
    · intro r wx hR hx
      obtain ⟨h1, _⟩ := hx
      replace h1 : r (.tmp 3) = .pointer (some ⟨w1.heap.size, 0, none⟩) := h1
      intro gb hgb
      refine guard_u (C := ((sk_8 c d))) (b := (sk_8 c d)) (want := true) hgb (want_t _) (fun hc => ?_) (fun hc => under_no hc)
      exact give_of (by simp [execOp, h1, go_sem]) ⟨Ext.refl _, under_yes hc⟩
    refine GoodAll.cons ?_ ?_
    · intro r wx hR hx
      obtain ⟨h1, _⟩ := hx
      replace h1 : Under (((sk_8 c d))) (.pointer (some ⟨w1.heap.size, 10, none⟩)) wx (r (.tmp 76)) := h1
      intro gb hgb
      refine guard_u (C := ((sk_8 c d))) (b := (sk_8 c d)) (want := true) hgb (want_t _) (fun hc => ?_) (fun hc => under_no hc)
      replace h1 := h1.get hc
      exact give_of (exec_get oneS rfl h1 (kv10 (hb2.ext hR))) ⟨Ext.refl _, under_yes hc⟩
    refine GoodAll.cons ?_ ?_
    · intro r wx hR hx
      obtain ⟨h1, h2, h3, _⟩ := hx
      replace h1 : r (.func 38) = .func (.func 38) #[] #[] := h1
      replace h2 : Under (((sk_8 c d))) (.slice s.mA s.mN s.mC) wx (r (.tmp 75)) := h2
      replace h3 : Under (((sk_8 c d))) (.slice u.mA u.mN u.mC) wx (r (.tmp 77)) := h3
      intro gb hgb
      refine guard_u (C := ((sk_8 c d))) (b := (sk_8 c d)) (want := true) hgb (want_t _) (fun hc => ?_) (fun hc => under_no hc)
      replace h2 := h2.get hc
      replace h3 := h3.get hc
      refine give_func #[.slice s.mA s.mN s.mC, .slice u.mA u.mN u.mC] rfl h1 Tryd.call38 (by simp [h2, h3]) ?_
      refine (equal_any (HA.m.ext hR) (HB.m.ext hR)).mono ?_
      rintro e wz ⟨rfl, hez⟩
      exact ⟨_, rfl, hez, under_yes hc⟩
    refine GoodAll.cons ?_ ?_
    · intro r wx hR hx
      obtain ⟨h1, h2, h3, _⟩ := hx
      replace h1 : r (.tmp 73) = .bool (sk_8 c d) := h1
      replace h2 : Under (((sk_8 c d))) (.bool (decide (c.mr = d.mr))) wx (r (.tmp 78)) := h2
      replace h3 : r (.const (.bool false)) = .bool false := h3
      exact give_and rfl h3 h1 (fun hb => h2.get (by first | exact hb | (rw [hc, hb]; rfl) | (rw [hb]; rfl))) ⟨Ext.refl _, rfl⟩
    refine GoodAll.cons ?_ ?_
    · intro r wx hR hx
      obtain ⟨h1, _⟩ := hx
      replace h1 : r (.tmp 79) = .bool (sk_9 c d) := h1
      exact give_move (.inl rfl) ⟨Ext.refl _, h1⟩
    refine GoodAll.cons ?_ ?_
    · intro r wx hR hx
      obtain ⟨h1, _⟩ := hx
      replace h1 : r (.tmp 2) = .pointer (some ⟨w.heap.size, 0, none⟩) := h1
      intro gb hgb
      refine guard_u (C := ((sk_9 c d))) (b := (sk_9 c d)) (want := true) hgb (want_t _) (fun hc => ?_) (fun hc => under_no hc)
      exact give_of (by simp [execOp, h1, go_sem]) ⟨Ext.refl _, under_yes hc⟩
    refine GoodAll.cons ?_ ?_
    · intro r wx hR hx
      obtain ⟨h1, _⟩ := hx
      replace h1 : Under (((sk_9 c d))) (.pointer (some ⟨w.heap.size, 11, none⟩)) wx (r (.tmp 81)) := h1
      intro gb hgb
      refine guard_u (C := ((sk_9 c d))) (b := (sk_9 c d)) (want := true) hgb (want_t _) (fun hc => ?_) (fun hc => under_no hc)
      replace h1 := h1.get hc
      exact give_of (exec_get oneS rfl h1 (kv11 (hb1'.ext hR))) ⟨Ext.refl _, under_yes hc⟩
    refine GoodAll.cons ?_ ?_
    · intro r wx hR hx
      obtain ⟨h1, _⟩ := hx
      replace h1 : r (.tmp 3) = .pointer (some ⟨w1.heap.size, 0, none⟩) := h1
      intro gb hgb
      refine guard_u (C := ((sk_9 c d))) (b := (sk_9 c d)) (want := true) hgb (want_t _) (fun hc => ?_) (fun hc => under_no hc)
      exact give_of (by simp [execOp, h1, go_sem]) ⟨Ext.refl _, under_yes hc⟩
    refine GoodAll.cons ?_ ?_
    · intro r wx hR hx
      obtain ⟨h1, _⟩ := hx
      replace h1 : Under (((sk_9 c d))) (.pointer (some ⟨w1.heap.size, 11, none⟩)) wx (r (.tmp 83)) := h1
      intro gb hgb
      refine guard_u (C := ((sk_9 c d))) (b := (sk_9 c d)) (want := true) hgb (want_t _) (fun hc => ?_) (fun hc => under_no hc)
      replace h1 := h1.get hc
      exact give_of (exec_get oneS rfl h1 (kv11 (hb2.ext hR))) ⟨Ext.refl _, under_yes hc⟩
    refine GoodAll.cons ?_ ?_
    · intro r wx hR hx
      obtain ⟨h1, h2, h3, _⟩ := hx
      replace h1 : r (.func 38) = .func (.func 38) #[] #[] := h1
      replace h2 : Under (((sk_9 c d))) (.slice s.pA s.pN s.pC) wx (r (.tmp 82)) := h2
      replace h3 : Under (((sk_9 c d))) (.slice u.pA u.pN u.pC) wx (r (.tmp 84)) := h3
      intro gb hgb
      refine guard_u (C := ((sk_9 c d))) (b := (sk_9 c d)) (want := true) hgb (want_t _) (fun hc => ?_) (fun hc => under_no hc)
      replace h2 := h2.get hc
      replace h3 := h3.get hc
      refine give_func #[.slice s.pA s.pN s.pC, .slice u.pA u.pN u.pC] rfl h1 Tryd.call38 (by simp [h2, h3]) ?_
      refine (equal_any (HA.p.ext hR) (HB.p.ext hR)).mono ?_
      rintro e wz ⟨rfl, hez⟩
      exact ⟨_, rfl, hez, under_yes hc⟩
    refine GoodAll.cons ?_ ?_
    · intro r wx hR hx
      obtain ⟨h1, h2, h3, _⟩ := hx
      replace h1 : r (.tmp 80) = .bool (sk_9 c d) := h1
      replace h2 : Under (((sk_9 c d))) (.bool (decide (c.pr = d.pr))) wx (r (.tmp 85)) := h2
      replace h3 : r (.const (.bool false)) = .bool false := h3
      exact give_and rfl h3 h1 (fun hb => h2.get (by first | exact hb | (rw [hc, hb]; rfl) | (rw [hb]; rfl))) ⟨Ext.refl _, rfl⟩
    refine GoodAll.cons ?_ ?_
    · intro r wx hR hx
      obtain ⟨h1, _⟩ := hx
      replace h1 : r (.tmp 86) = .bool (sk_10 c d) := h1
      exact give_move (.inl rfl) ⟨Ext.refl _, h1⟩
    refine GoodAll.cons ?_ ?_
    · intro r wx hR hx
      obtain ⟨h1, _⟩ := hx
      replace h1 : r (.tmp 2) = .pointer (some ⟨w.heap.size, 0, none⟩) := h1
      intro gb hgb
      refine guard_u (C := ((sk_10 c d))) (b := (sk_10 c d)) (want := true) hgb (want_t _) (fun hc => ?_) (fun hc => under_no hc)
      exact give_of (by simp [execOp, h1, go_sem]) ⟨Ext.refl _, under_yes hc⟩
    refine GoodAll.cons ?_ ?_
    · intro r wx hR hx
      obtain ⟨h1, _⟩ := hx
      replace h1 : Under (((sk_10 c d))) (.pointer (some ⟨w.heap.size, 12, none⟩)) wx (r (.tmp 88)) := h1
      intro gb hgb
      refine guard_u (C := ((sk_10 c d))) (b := (sk_10 c d)) (want := true) hgb (want_t _) (fun hc => ?_) (fun hc => under_no hc)
      replace h1 := h1.get hc
      exact give_of (exec_get one22 rfl h1 (kv12 (hb1'.ext hR))) ⟨Ext.refl _, under_yes hc⟩
    refine GoodAll.cons ?_ ?_
    · intro r wx hR hx
      obtain ⟨h1, _⟩ := hx
      replace h1 : r (.tmp 3) = .pointer (some ⟨w1.heap.size, 0, none⟩) := h1
      intro gb hgb
      refine guard_u (C := ((sk_10 c d))) (b := (sk_10 c d)) (want := true) hgb (want_t _) (fun hc => ?_) (fun hc => under_no hc)
      exact give_of (by simp [execOp, h1, go_sem]) ⟨Ext.refl _, under_yes hc⟩
    refine GoodAll.cons ?_ ?_
    · intro r wx hR hx
      obtain ⟨h1, _⟩ := hx
      replace h1 : Under (((sk_10 c d))) (.pointer (some ⟨w1.heap.size, 12, none⟩)) wx (r (.tmp 90)) := h1
      intro gb hgb
      refine guard_u (C := ((sk_10 c d))) (b := (sk_10 c d)) (want := true) hgb (want_t _) (fun hc => ?_) (fun hc => under_no hc)
      replace h1 := h1.get hc
      exact give_of (exec_get one22 rfl h1 (kv12 (hb2.ext hR))) ⟨Ext.refl _, under_yes hc⟩
    refine GoodAll.cons ?_ ?_
    · intro r wx hR hx
      obtain ⟨h1, h2, _⟩ := hx
      replace h1 : Under (((sk_10 c d))) (.int .u32 (c.tm : Int)) wx (r (.tmp 89)) := h1
      replace h2 : Under (((sk_10 c d))) (.int .u32 (d.tm : Int)) wx (r (.tmp 91)) := h2
      intro gb hgb
      refine guard_u (C := ((sk_10 c d))) (b := (sk_10 c d)) (want := true) hgb (want_t _) (fun hc => ?_) (fun hc => under_no hc)
      replace h1 := h1.get hc
      replace h2 := h2.get hc
      exact give_of (by simp [execOp, h1, h2, go_sem]) ⟨Ext.refl _, under_yes hc⟩
    refine GoodAll.cons ?_ ?_
    · intro r wx hR hx
      obtain ⟨h1, h2, h3, _⟩ := hx
      replace h1 : r (.tmp 87) = .bool (sk_10 c d) := h1
      replace h2 : Under (((sk_10 c d))) (.bool (((c.tm : Int) : Int) == ((d.tm : Int) : Int))) wx (r (.tmp 92)) := h2
      replace h3 : r (.const (.bool false)) = .bool false := h3
      exact give_and rfl h3 h1 (fun hb => h2.get (by first | exact hb | (rw [hc, hb]; rfl) | (rw [hb]; rfl))) ⟨Ext.refl _, rfl⟩
    refine GoodAll.cons ?_ ?_
    · intro r wx hR hx
      obtain ⟨h1, _⟩ := hx
      replace h1 : r (.tmp 93) = .bool (sk_11 c d) := h1
      exact give_move (.inl rfl) ⟨Ext.refl _, h1⟩
    refine GoodAll.cons ?_ ?_
    · intro r wx hR hx
      obtain ⟨h1, _⟩ := hx
      replace h1 : r (.tmp 2) = .pointer (some ⟨w.heap.size, 0, none⟩) := h1
      intro gb hgb
      refine guard_u (C := ((sk_11 c d))) (b := (sk_11 c d)) (want := true) hgb (want_t _) (fun hc => ?_) (fun hc => under_no hc)
      exact give_of (by simp [execOp, h1, go_sem]) ⟨Ext.refl _, under_yes hc⟩
    refine GoodAll.cons ?_ ?_
    · intro r wx hR hx
      obtain ⟨h1, _⟩ := hx
      replace h1 : Under (((sk_11 c d))) (.pointer (some ⟨w.heap.size, 13, none⟩)) wx (r (.tmp 95)) := h1
      intro gb hgb
      refine guard_u (C := ((sk_11 c d))) (b := (sk_11 c d)) (want := true) hgb (want_t _) (fun hc => ?_) (fun hc => under_no hc)
      replace h1 := h1.get hc
      exact give_of (exec_get one22 rfl h1 (kv13 (hb1'.ext hR))) ⟨Ext.refl _, under_yes hc⟩
    refine GoodAll.cons ?_ ?_
    · intro r wx hR hx
      obtain ⟨h1, _⟩ := hx
      replace h1 : r (.tmp 3) = .pointer (some ⟨w1.heap.size, 0, none⟩) := h1
      intro gb hgb
      refine guard_u (C := ((sk_11 c d))) (b := (sk_11 c d)) (want := true) hgb (want_t _) (fun hc => ?_) (fun hc => under_no hc)
      exact give_of (by simp [execOp, h1, go_sem]) ⟨Ext.refl _, under_yes hc⟩
    refine GoodAll.cons ?_ ?_
    · intro r wx hR hx
      obtain ⟨h1, _⟩ := hx
      replace h1 : Under (((sk_11 c d))) (.pointer (some ⟨w1.heap.size, 13, none⟩)) wx (r (.tmp 97)) := h1
      intro gb hgb
      refine guard_u (C := ((sk_11 c d))) (b := (sk_11 c d)) (want := true) hgb (want_t _) (fun hc => ?_) (fun hc => under_no hc)
      replace h1 := h1.get hc
      exact give_of (exec_get one22 rfl h1 (kv13 (hb2.ext hR))) ⟨Ext.refl _, under_yes hc⟩
    refine GoodAll.cons ?_ ?_
    · intro r wx hR hx
      obtain ⟨h1, h2, _⟩ := hx
      replace h1 : Under (((sk_11 c d))) (.int .u32 (c.tp : Int)) wx (r (.tmp 96)) := h1
      replace h2 : Under (((sk_11 c d))) (.int .u32 (d.tp : Int)) wx (r (.tmp 98)) := h2
      intro gb hgb
      refine guard_u (C := ((sk_11 c d))) (b := (sk_11 c d)) (want := true) hgb (want_t _) (fun hc => ?_) (fun hc => under_no hc)
      replace h1 := h1.get hc
      replace h2 := h2.get hc
      exact give_of (by simp [execOp, h1, h2, go_sem]) ⟨Ext.refl _, under_yes hc⟩
    refine GoodAll.cons ?_ ?_
    · intro r wx hR hx
      obtain ⟨h1, h2, h3, _⟩ := hx
      replace h1 : r (.tmp 94) = .bool (sk_11 c d) := h1
      replace h2 : Under (((sk_11 c d))) (.bool (((c.tp : Int) : Int) == ((d.tp : Int) : Int))) wx (r (.tmp 99)) := h2
      replace h3 : r (.const (.bool false)) = .bool false := h3
      exact give_and rfl h3 h1 (fun hb => h2.get (by first | exact hb | (rw [hc, hb]; rfl) | (rw [hb]; rfl))) ⟨Ext.refl _, rfl⟩
    refine GoodAll.cons ?_ ?_
    · intro r wx hR hx
      obtain ⟨h1, _⟩ := hx
      replace h1 : r (.tmp 100) = .bool (sk_12 c d) := h1
      exact give_move (.inr rfl) ⟨Ext.refl _, h1⟩
    exact GoodAll.nil
  · intro vs wE aE hR hold haE
    have hv : vs 96 = .bool (sk_12 c d) := hold.at 96
    refine ‹∀ (a : Act) (w : World), Code.wp Tryd.prog Code.ret _ a w → _› _ _ ?_
    refine wp_ret ?_
    have hs : aE.tmps[4]? = some (.bool (sk_12 c d)) := by rw [haE, ← hv]; kernel_rfl
    have hdf : aE.defers = [] := by rw [haE]; exact putAll_defers _ _ _ _
    clear haE
    refine bodyPost_ret (v := .bool (sk_12 c d)) ?_ hdf ⟨rfl, (he1.trans he2).trans hR⟩
    simp [results, Tryd.results20, go_sem, hs]

theorem sameK_iff (c d : Co) : sameK c d = true ↔ c = d := by
  unfold sameK
  constructor
  · intro h
    simp only [Bool.and_eq_true, beq_iff_eq, decide_eq_true_eq, Int.ofNat_inj, Int.natCast_inj] at h
    cases c; cases d
    simp only at h
    simp only [Co.mk.injEq]
    refine ⟨?_, ?_, ?_, ?_, ?_, ?_, ?_, ?_, ?_, ?_, ?_, ?_, ?_, ?_⟩ <;> simp [h]
  · rintro rfl
    simp
end Tlv
end Go.Proofs.YtfhoielfekeihaaDoor

/- How late a cookie is. No condition of its own. -/
namespace Go.Proofs.YtfhoielfekeihaaDoor
namespace Tlv
open Go Go.RowKit
set_option linter.unusedVariables false
set_option linter.unusedSimpArgs false
set_option maxRecDepth 100000


theorem goodK_nums {c : Co} (h : goodK c = true) : (0 ≤ c.made ∧ c.made ≤ 4611686018427387904) ∧ (1 ≤ c.life ∧ c.life ≤ 2147483648) ∧ c.mine ≠ 0 ∧ c.peers ≠ 0 ∧ (0 ≤ c.win ∧ c.win ≤ 2147483647) ∧ (1 ≤ c.out ∧ c.out ≤ 8) ∧ (1 ≤ c.inn ∧ c.inn ≤ 8) ∧ (1 ≤ c.addrs.length ∧ c.addrs.length ≤ 4) ∧ (∀ x ∈ c.addrs, 1 ≤ x ∧ x ≤ 2147483647) ∧ (1 ≤ c.mr.length ∧ c.mr.length ≤ 64) ∧ (1 ≤ c.pr.length ∧ c.pr.length ≤ 64) := by
  unfold goodK addrsB randB adsB adB at h
  simp only [Bool.and_eq_true, inB_iff, bne_iff_ne, ne_eq, List.all_eq_true] at h
  obtain ⟨⟨⟨⟨⟨⟨⟨⟨⟨h1, h2⟩, h3⟩, h4⟩, h5⟩, h6⟩, h7⟩, h8, h9⟩, h10⟩, h11⟩ := h
  refine ⟨h1, h2, by omega, by omega, h5, h6, h7, by omega, h9, by omega, by omega⟩
/-- By how many ticks. -/
def lateK (c : Co) (now : Int) : Int := if goodK c = true then (if now ≤ c.made + c.life then 0 else now - (c.made + c.life)) else 0
theorem late_any {w : World} {c : Co} {s : So} (ha : CoAt w s c) (now : Int) (hnow : W64 now) :
    Calls Tryd.prog 15 #[.agg (KV c s), .int .i64 now] w fun e w' => e = .returned (.int .i64 (lateK c now)) ∧ Ext w w' := by
  cases hg : goodK c with
  | false =>
    have e0 : lateK c now = 0 := by unfold lateK; rw [if_neg (by rw [hg]; decide)]
    rw [e0]
    go_enter Tryd.func15, Tryd.ntmps15
    go_wp2_with (first
      | (refine wl_box (C := KV c s) rfl rfl rfl ?_; intro w1 hb1 he1 hx; clear hx)
      | (refine wl_load rfl rowC rfl rfl hb1 rfl ?_)
      | (go_at_call 12; refine (goodK_any (ha.ext he1)).mono ?_; rintro e w2 ⟨rfl, he2⟩; rw [hg]))
    go_ret
    exact ⟨rfl, he1.trans he2⟩
  | true =>
    have hn := goodK_nums hg
    unfold W64 at hnow
    obtain ⟨M, hM⟩ : ∃ M, M = c.made := ⟨_, rfl⟩
    obtain ⟨L, hL⟩ : ∃ L, L = c.life := ⟨_, rfl⟩
    obtain ⟨S, hS⟩ : ∃ S, S = M + L := ⟨_, rfl⟩
    have hw1 : IntKind.i64.wrap (M + L) = S := by rw [IntKind.wrap_i64, hS]; rw [hM, hL]; omega
    have HS : Hid (c.made + c.life = S ∧ 0 ≤ S ∧ S ≤ 4611686020574871552) := ⟨by rw [hS, hM, hL], by rw [hS, hM, hL]; omega, by rw [hS, hM, hL]; omega⟩
    have HL : Hid (lateK c now = if now ≤ S then 0 else now - S) := show _ = _ by unfold lateK; rw [if_pos hg, HS.out.1]
    have c0 : ∀ {w1 : World}, Blk w1 w.heap.size (KV c s) 29 → w1.cell? ⟨w.heap.size, 0, none⟩ = some (.int .i64 M) ∧ w1.cell? ⟨w.heap.size, 1, none⟩ = some (.int .i64 L) := fun h => by rw [hM, hL]; exact ⟨kv0 h, kv1 h⟩
    clear hn hM hL hS
    by_cases hle : now ≤ S
    · have d1 : decide (now ≤ S) = true := decide_eq_true hle
      rw [HL.out, if_pos hle]
      go_enter Tryd.func15, Tryd.ntmps15
      go_wp2_with (first
        | (refine wl_box (C := KV c s) rfl rfl rfl ?_; intro w1 hb1 he1 hx; clear hx)
        | (refine wl_load rfl rowC rfl rfl hb1 rfl ?_)
        | (go_at_call 12; refine (goodK_any (ha.ext he1)).mono ?_; rintro e w2 ⟨rfl, he2⟩; rw [hg]; have x0 := (c0 (hb1.ext he2)).1; have x1 := (c0 (hb1.ext he2)).2; clear c0))
      go_ret
      exact ⟨rfl, he1.trans he2⟩
    · have d1 : decide (now ≤ S) = false := decide_eq_false hle
      obtain ⟨D, hD⟩ : ∃ D, D = now - S := ⟨_, rfl⟩
      have hw2 : IntKind.i64.wrap (now - S) = D := by rw [IntKind.wrap_i64, hD]; have := HS.out; omega
      rw [HL.out, if_neg hle, ← hD]
      clear hD
      go_enter Tryd.func15, Tryd.ntmps15
      go_wp2_with (first
        | (refine wl_box (C := KV c s) rfl rfl rfl ?_; intro w1 hb1 he1 hx; clear hx)
        | (refine wl_load rfl rowC rfl rfl hb1 rfl ?_)
        | (go_at_call 12; refine (goodK_any (ha.ext he1)).mono ?_; rintro e w2 ⟨rfl, he2⟩; rw [hg]; have x0 := (c0 (hb1.ext he2)).1; have x1 := (c0 (hb1.ext he2)).2; clear c0))
      go_ret
      exact ⟨rfl, he1.trans he2⟩
end Tlv
end Go.Proofs.YtfhoielfekeihaaDoor

/- The bytes of a cookie ahead of the seal, by the program. No condition of its own. -/
namespace Go.Proofs.YtfhoielfekeihaaDoor
namespace Tlv
open Go Go.RowKit
set_option linter.unusedVariables false
set_option linter.unusedSimpArgs false
set_option maxRecDepth 100000


/-- An Out that lies above w0, as all that it owns: what lay in w0 stands. -/
def OC (w0 w : World) (g : Nat) (l : List Nat) : Prop := w0.heap.size ≤ g ∧ Ext w0 w ∧ ∃ v, OutAt w w0.heap.size g v l
theorem OC.ext {w0 w w' : World} {g : Nat} {l : List Nat} (h : OC w0 w g l) (he : Ext w w') : OC w0 w' g l := by
  obtain ⟨h1, h2, v, h3⟩ := h
  exact ⟨h1, h2.trans he, v, h3.ext he⟩
theorem OC.out {w0 w : World} {g : Nat} {l : List Nat} (h : OC w0 w g l) : Ext w0 w := h.2.1
theorem OC.new {w w1 : World} (hb : Blk w1 w.heap.size #[.slice none 0 0] 56) (he : Ext w w1) : OC w w1 w.heap.size [] :=
  ⟨Nat.le_refl _, he, _, hb, OB.nil _ _⟩
/-- Blocks that are no bytes and no Out stand. -/
def Kept (g : Nat) (w w' : World) : Prop := ∀ q C t, Blk w q C t → t ≠ 5 → q ≠ g → Blk w' q C t
theorem Kept.trans {g : Nat} {a b c : World} (h : Kept g a b) (k : Kept g b c) : Kept g a c := fun q C t h1 h2 h3 => k q C t (h q C t h1 h2 h3) h2 h3
theorem Kept.ext {g : Nat} {a b : World} (h : Ext a b) : Kept g a b := fun q C t h1 _ _ => h1.ext h
/-- What a call on it leaves. -/
def PutIs (w0 w : World) (g : Nat) (l : List Nat) (e : Ending) (w' : World) : Prop := (∃ y, e = .returned y) ∧ OC w0 w' g l ∧ Kept g w w'
theorem ocNum {w0 w : World} {g : Nat} {l : List Nat} (h : OC w0 w g l) (N : Nat) (n : Int) (hl : l.length ≤ 900000) :
    Calls Tryd.prog 39 #[ptr g, .int .u64 (N : Int), .int .i64 n] w (PutIs w0 w g (l ++ numB N n)) := by
  obtain ⟨h1, h2, v, h3⟩ := h
  refine (outNum_any h3 N n hl h2.size).mono ?_
  rintro e w' ⟨hy, v', h4, hm⟩
  exact ⟨hy, ⟨h1, hm.extO h3 h2 (Nat.le_refl _) h1, v', h4⟩, fun q C t hb ht hq => hm.blk h3 hb ht hq⟩
theorem ocPut {w0 w : World} {g : Nat} {l m : List Nat} {x : Value} (h : OC w0 w g l) (hx : BytesAt w x m) (hl : l.length + m.length ≤ 1000000) :
    Calls Tryd.prog 24 #[ptr g, x] w (PutIs w0 w g (l ++ m)) := by
  obtain ⟨h1, h2, v, h3⟩ := h
  refine (outPut_any h3 hx hl h2.size).mono ?_
  rintro e w' ⟨hy, v', h4, hm⟩
  exact ⟨hy, ⟨h1, hm.extO h3 h2 (Nat.le_refl _) h1, v', h4⟩, fun q C t hb ht hq => hm.blk h3 hb ht hq⟩
theorem ocBytes {w0 w : World} {g : Nat} {l : List Nat} (h : OC w0 w g l) (hl : l.length ≤ 1000000) :
    Calls Tryd.prog 23 #[ptr g] w fun e w' => ∃ a n c, e = .returned (.slice a n c) ∧ n = l.length ∧ OB w' w0.heap.size (.slice a n c) l ∧ Ext w w' := by
  obtain ⟨h1, h2, v, h3⟩ := h
  refine (outBytes_any h3 hl).mono ?_
  rintro e w' ⟨a, n, c, rfl, hn, ho, he⟩
  exact ⟨a, n, c, rfl, hn, ho.base h2.size, he⟩

theorem numB8 (N : Nat) : numB N 8 = be N 8 := rfl
theorem numB4 (N : Nat) : numB N 4 = be N 4 := rfl
theorem numB1 (N : Nat) : numB N 1 = be N 1 := rfl
/-- Addresses as bytes. -/
def adsV (L : List Int) : List Nat := (L.map fun a => be a.toNat 4).flatten
theorem adsV_snoc {L : List Int} {k : Nat} (hk : k < L.length) : adsV (L.take (k + 1)) = adsV (L.take k) ++ be (L.getD k 0).toNat 4 := by
  unfold adsV
  rw [List.take_succ_eq_append_getElem hk, List.map_append, List.flatten_append]
  simp [List.getD_eq_getElem?_getD, hk]
theorem adsV_len (L : List Int) : (adsV L).length = 4 * L.length := by
  unfold adsV
  induction L with
  | nil => rfl
  | cons a L ih => rw [List.map_cons, List.flatten_cons, List.length_append, be_len, ih, List.length_cons]; omega
theorem adsV_take (L : List Int) (k : Nat) : (adsV (L.take k)).length ≤ 4 * L.length := by rw [adsV_len, List.length_take]; omega
/-- A cookie's bytes ahead of the addresses; behind them; all. -/
def headV (c : Co) : List Nat := be c.made.toNat 8 ++ (be c.life.toNat 8 ++ (be c.mine 4 ++ (be c.peers 4 ++ (be c.mtsn 4 ++ (be c.ptsn 4 ++ (be c.win.toNat 4 ++ (be c.out.toNat 1 ++ (be c.inn.toNat 1 ++ be c.addrs.length 1))))))))
def tailV (c : Co) : List Nat := be c.mr.length 1 ++ (c.mr ++ (be c.pr.length 1 ++ (c.pr ++ (be c.tm 4 ++ be c.tp 4))))
def laidK (c : Co) : List Nat := headV c ++ (adsV c.addrs ++ tailV c)
theorem headV_len (c : Co) : (headV c).length = 39 := by unfold headV; simp only [List.length_append, be_len]
theorem tailV_len (c : Co) : (tailV c).length = 10 + c.mr.length + c.pr.length := by unfold tailV; simp only [List.length_append, be_len]; omega
theorem laidK_len (c : Co) : (laidK c).length = 49 + 4 * c.addrs.length + c.mr.length + c.pr.length := by unfold laidK; rw [List.length_append, List.length_append, headV_len, tailV_len, adsV_len]; omega
theorem all_getD {α : Type} {f : α → Bool} {L : List α} (h : L.all f = true) (d : α) {k : Nat} (hk : k < L.length) : f (L.getD k d) = true := List.all_eq_true.1 h _ (getD_mem L d k hk)
theorem mem_getD {α : Type} {P : α → Prop} {L : List α} (h : ∀ x ∈ L, P x) (d : α) {k : Nat} (hk : k < L.length) : P (L.getD k d) := h _ (getD_mem L d k hk)
set_option maxHeartbeats 16000000 in
theorem write_any9 {w0 w : World} {g : Nat} {l : List Nat} {c : Co} {s : So} (h : OC w0 w g l) (hc : CoAt w0 s c) (hf : FitC c) (hg : goodK c = true) (hl : l.length ≤ 1000) :
    Calls Tryd.prog 21 #[ptr g, .agg (KV c s)] w (PutIs w0 w g (l ++ laidK c)) := by
  have hn := goodK_nums hg
  obtain ⟨M, hM⟩ : ∃ W : Nat, c.made = (W : Int) := ⟨c.made.toNat, by omega⟩
  obtain ⟨L, hL⟩ : ∃ W : Nat, c.life = (W : Int) := ⟨c.life.toNat, by omega⟩
  obtain ⟨W, hW⟩ : ∃ W : Nat, c.win = (W : Int) := ⟨c.win.toNat, by omega⟩
  obtain ⟨O, hO⟩ : ∃ W : Nat, c.out = (W : Int) := ⟨c.out.toNat, by omega⟩
  obtain ⟨I, hI⟩ : ∃ W : Nat, c.inn = (W : Int) := ⟨c.inn.toNat, by omega⟩
  obtain ⟨NA, hNA⟩ : ∃ n, n = c.addrs.length := ⟨_, rfl⟩
  obtain ⟨NM, hNM⟩ : ∃ n, n = c.mr.length := ⟨_, rfl⟩
  obtain ⟨NP, hNP⟩ : ∃ n, n = c.pr.length := ⟨_, rfl⟩
  have hgq : w.heap.size ≠ g := by obtain ⟨_, _, v, hv⟩ := h; exact (Nat.ne_of_lt hv.blk.lt).symm
  have HX : Hid (CoAt w0 s c ∧ FitC c ∧ l.length ≤ 1000 ∧ w.heap.size ≠ g ∧ NA ≤ 4 ∧ NM ≤ 64 ∧ NP ≤ 64 ∧ (∀ x ∈ c.addrs, 1 ≤ x ∧ x ≤ 2147483647)) := ⟨hc, hf, hl, hgq, by omega, by omega, by omega, hn.2.2.2.2.2.2.2.2.1⟩
  have HC : Hid (CoAt w0 s c) := hc
  have HV : Hid (headV c = be M 8 ++ (be L 8 ++ (be c.mine 4 ++ (be c.peers 4 ++ (be c.mtsn 4 ++ (be c.ptsn 4 ++ (be W 4 ++ (be O 1 ++ (be I 1 ++ be NA 1))))))))) := show _ = _ by
    unfold headV; rw [hM, hL, hW, hO, hI, ← hNA]; rfl
  have HT : Hid (tailV c = be NM 1 ++ (c.mr ++ (be NP 1 ++ (c.pr ++ (be c.tm 4 ++ be c.tp 4))))) := show _ = _ by unfold tailV; rw [hNM, hNP]
  have wM : IntKind.u64.wrap (M : Int) = (M : Int) := by rw [IntKind.wrap_u64]; omega
  have wL : IntKind.u64.wrap (L : Int) = (L : Int) := by rw [IntKind.wrap_u64]; omega
  have wW : IntKind.u64.wrap (W : Int) = (W : Int) := by rw [IntKind.wrap_u64]; omega
  have wO : IntKind.u64.wrap (O : Int) = (O : Int) := by rw [IntKind.wrap_u64]; omega
  have wI : IntKind.u64.wrap (I : Int) = (I : Int) := by rw [IntKind.wrap_u64]; omega
  have wNA : IntKind.u64.wrap (NA : Int) = (NA : Int) := by rw [IntKind.wrap_u64]; omega
  have wNM : IntKind.u64.wrap (NM : Int) = (NM : Int) := by rw [IntKind.wrap_u64]; omega
  have wNP : IntKind.u64.wrap (NP : Int) = (NP : Int) := by rw [IntKind.wrap_u64]; omega
  have w_mine : IntKind.u64.wrap (c.mine : Int) = (c.mine : Int) := by rw [IntKind.wrap_u64]; have := hf.mine; omega
  have w_peers : IntKind.u64.wrap (c.peers : Int) = (c.peers : Int) := by rw [IntKind.wrap_u64]; have := hf.peers; omega
  have w_mtsn : IntKind.u64.wrap (c.mtsn : Int) = (c.mtsn : Int) := by rw [IntKind.wrap_u64]; have := hf.mtsn; omega
  have w_ptsn : IntKind.u64.wrap (c.ptsn : Int) = (c.ptsn : Int) := by rw [IntKind.wrap_u64]; have := hf.ptsn; omega
  have w_tm : IntKind.u64.wrap (c.tm : Int) = (c.tm : Int) := by rw [IntKind.wrap_u64]; have := hf.tm; omega
  have w_tp : IntKind.u64.wrap (c.tp : Int) = (c.tp : Int) := by rw [IntKind.wrap_u64]; have := hf.tp; omega
  have hNs : s.aN = NA ∧ s.mN = NM ∧ s.pN = NP := ⟨by rw [hNA]; exact (nums_len hc.a).1, by rw [hNM]; exact (bytes_len hc.m).1, by rw [hNP]; exact (bytes_len hc.p).1⟩
  obtain ⟨hNs1, hNs2, hNs3⟩ := hNs
  have HN : Hid (NA = c.addrs.length ∧ NM = c.mr.length ∧ NP = c.pr.length ∧ s.aN = NA) := ⟨hNA, hNM, hNP, hNs1⟩
  have h0 := h
  clear h hc hf hl hn hgq hg hNA hNM hNP
  go_enter Tryd.func21, Tryd.ntmps21
  go_wp2_with (first
    | (have q := st10; clear q; go_at_call 39; refine (ocNum st10 NA 1 (by have := HX.out.2.2.1; (try simp only [List.length_append, be_len]); omega)).mono ?_; rintro e wst11 ⟨⟨yst11, rfl⟩, st11, kk⟩; rw [numB1] at st11; replace hb := kk _ _ _ hb (by decide) HX.out.2.2.2.1; replace HK : Hid (Kept g w wst11) := HK.out.trans kk; clear kk; have d_st11 := kv9 hb)
    | (have q := st9; clear q; go_at_call 39; refine (ocNum st9 I 1 (by have := HX.out.2.2.1; (try simp only [List.length_append, be_len]); omega)).mono ?_; rintro e wst10 ⟨⟨yst10, rfl⟩, st10, kk⟩; rw [numB1] at st10; replace hb := kk _ _ _ hb (by decide) HX.out.2.2.2.1; replace HK : Hid (Kept g w wst10) := HK.out.trans kk; clear kk; have d_st10 := kv9 hb)
    | (have q := st8; clear q; go_at_call 39; refine (ocNum st8 O 1 (by have := HX.out.2.2.1; (try simp only [List.length_append, be_len]); omega)).mono ?_; rintro e wst9 ⟨⟨yst9, rfl⟩, st9, kk⟩; rw [numB1] at st9; replace hb := kk _ _ _ hb (by decide) HX.out.2.2.2.1; replace HK : Hid (Kept g w wst9) := HK.out.trans kk; clear kk; have d_st9 := kv8 hb)
    | (have q := st7; clear q; go_at_call 39; refine (ocNum st7 W 4 (by have := HX.out.2.2.1; (try simp only [List.length_append, be_len]); omega)).mono ?_; rintro e wst8 ⟨⟨yst8, rfl⟩, st8, kk⟩; rw [numB4] at st8; replace hb := kk _ _ _ hb (by decide) HX.out.2.2.2.1; replace HK : Hid (Kept g w wst8) := HK.out.trans kk; clear kk; have d_st8 := kv7 hb)
    | (have q := st6; clear q; go_at_call 39; refine (ocNum st6 c.ptsn 4 (by have := HX.out.2.2.1; (try simp only [List.length_append, be_len]); omega)).mono ?_; rintro e wst7 ⟨⟨yst7, rfl⟩, st7, kk⟩; rw [numB4] at st7; replace hb := kk _ _ _ hb (by decide) HX.out.2.2.2.1; replace HK : Hid (Kept g w wst7) := HK.out.trans kk; clear kk; have d_st7 := kv6 hb)
    | (have q := st5; clear q; go_at_call 39; refine (ocNum st5 c.mtsn 4 (by have := HX.out.2.2.1; (try simp only [List.length_append, be_len]); omega)).mono ?_; rintro e wst6 ⟨⟨yst6, rfl⟩, st6, kk⟩; rw [numB4] at st6; replace hb := kk _ _ _ hb (by decide) HX.out.2.2.2.1; replace HK : Hid (Kept g w wst6) := HK.out.trans kk; clear kk; have d_st6 := kv5 hb)
    | (have q := st4; clear q; go_at_call 39; refine (ocNum st4 c.peers 4 (by have := HX.out.2.2.1; (try simp only [List.length_append, be_len]); omega)).mono ?_; rintro e wst5 ⟨⟨yst5, rfl⟩, st5, kk⟩; rw [numB4] at st5; replace hb := kk _ _ _ hb (by decide) HX.out.2.2.2.1; replace HK : Hid (Kept g w wst5) := HK.out.trans kk; clear kk; have d_st5 := kv4 hb)
    | (have q := st3; clear q; go_at_call 39; refine (ocNum st3 c.mine 4 (by have := HX.out.2.2.1; (try simp only [List.length_append, be_len]); omega)).mono ?_; rintro e wst4 ⟨⟨yst4, rfl⟩, st4, kk⟩; rw [numB4] at st4; replace hb := kk _ _ _ hb (by decide) HX.out.2.2.2.1; replace HK : Hid (Kept g w wst4) := HK.out.trans kk; clear kk; have d_st4 := kv3 hb)
    | (have q := st2; clear q; go_at_call 39; refine (ocNum st2 L 8 (by have := HX.out.2.2.1; (try simp only [List.length_append, be_len]); omega)).mono ?_; rintro e wst3 ⟨⟨yst3, rfl⟩, st3, kk⟩; rw [numB8] at st3; replace hb := kk _ _ _ hb (by decide) HX.out.2.2.2.1; replace HK : Hid (Kept g w wst3) := HK.out.trans kk; clear kk; have d_st3 := kv2 hb)
    | (have q := st1; clear q; go_at_call 39; refine (ocNum st1 M 8 (by have := HX.out.2.2.1; (try simp only [List.length_append, be_len]); omega)).mono ?_; rintro e wst2 ⟨⟨yst2, rfl⟩, st2, kk⟩; rw [numB8] at st2; replace hb := kk _ _ _ hb (by decide) HX.out.2.2.2.1; replace HK : Hid (Kept g w wst2) := HK.out.trans kk; clear kk; have d_st2 := kv1 hb)
    | (refine wl_box (C := KV c s) rfl rfl rfl ?_; intro w1 hb he1 hx; clear hx; have st1 := h0.ext he1; have HK : Hid (Kept g w w1) := Kept.ext he1; clear he1; have d_st1 := kv0 hb))
  rw [show (((((((((l ++ be M 8) ++ be L 8) ++ be c.mine 4) ++ be c.peers 4) ++ be c.mtsn 4) ++ be c.ptsn 4) ++ be W 4) ++ be O 1) ++ be I 1) ++ be NA 1 = l ++ headV c by rw [HV.out]; simp only [List.append_assoc]] at st11
  obtain ⟨L7, hL7⟩ : ∃ L, L = l ++ headV c := ⟨_, rfl⟩
  rw [← hL7] at st11
  have HL7 : Hid (l ++ laidK c = (L7 ++ adsV c.addrs) ++ tailV c ∧ L7.length ≤ 2000) := ⟨by rw [hL7]; unfold laidK; simp only [List.append_assoc], by
    rw [hL7, List.length_append, headV_len]
    have h2 := HX.out.2.2.1
    omega⟩
  clear hL7 st1 st2 st3 st4 st5 st6 st7 st8 st9 st10 d_st1 d_st2 d_st3 d_st4 d_st5 d_st6 d_st7 d_st8 d_st9 d_st10 d_st11 wM wL wW wO wI wNA w_mine w_peers w_mtsn w_ptsn hM hL hW hO hI HV
  have HS : Hid (OC w0 wst11 g L7 ∧ Blk wst11 w.heap.size (KV c s) 29 ∧ Kept g w wst11) := ⟨st11, hb, HK.out⟩
  clear st11 hb HK
  obtain ⟨aA, haA⟩ : ∃ x, x = s.aA := ⟨_, rfl⟩
  try rw [hNs1]
  rw [← haA]
  have HAt : Hid (NumsAt .i64 w0 (.slice aA NA s.aC) c.addrs) := show NumsAt .i64 w0 _ _ by rw [haA, ← hNs1]; exact HC.out.a
  clear haA hNs1
  have hn4 : NA ≤ 4 := HX.out.2.2.2.2.1
  go_loopg [60] NA (fun gm t wr => ∃ k : Nat, k ≤ NA ∧ gm = NA - k ∧ t = .int .i64 (k : Int) ∧ Hid (OC w0 wr g (L7 ++ adsV (c.addrs.take k)) ∧ Blk wr w.heap.size (KV c s) 29 ∧ Kept g w wr))
  case atStart => exact ⟨0, Nat.zero_le _, rfl, rfl, by rw [show L7 ++ adsV (c.addrs.take 0) = L7 by simp [adsV]]; exact HS.out.1, HS.out.2.1, HS.out.2.2⟩
  case round =>
    obtain ⟨k, hk, rfl, rfl, HR⟩ := hrel
    by_cases hlt : k < NA
    · have hd : decide ((k : Int) < (NA : Int)) = true := decide_eq_true (by omega)
      have hkL : k < c.addrs.length := by rw [← HN.out.1]; exact hlt
      have hkn : (k : Int) < (NA : Int) := by omega
      obtain ⟨b, off, rfl, hc0⟩ := HAt.out.cellAt k hkL
      have hab := mem_getD HX.out.2.2.2.2.2.2.2 0 hkL
      obtain ⟨A, hA⟩ : ∃ A : Nat, c.addrs.getD k 0 = (A : Int) := ⟨(c.addrs.getD k 0).toNat, by omega⟩
      have wA : IntKind.u64.wrap (A : Int) = (A : Int) := by rw [IntKind.wrap_u64]; omega
      clear hab
      replace hc0 := HR.out.1.out.cell hc0
      rw [hA] at hc0
      have HA : Hid (adsV (c.addrs.take (k + 1)) = adsV (c.addrs.take k) ++ be A 4) := show _ = _ by rw [adsV_snoc hkL, hA]; rfl
      clear hA hkL
      go_wp2_with (first
        | (go_at_call 39; refine (ocNum HR.out.1 A 4 (by have h1 := adsV_take c.addrs k; have h2 := HL7.out.2; have h3 := HX.out.2.2.2.2.1; have h4 := HN.out.1; rw [List.length_append]; omega)).mono ?_; rintro e w8 ⟨⟨y8, rfl⟩, st8, k8⟩; rw [numB4] at st8))
      go_roundg (NA - (k + 1))
      case measure => omega
      case rel => exact ⟨k + 1, by omega, rfl, by simp, by rw [HA.out, ← List.append_assoc]; exact st8, k8 _ _ _ HR.out.2.1 (by decide) HX.out.2.2.2.1, HR.out.2.2.trans k8⟩
    · have hd : decide ((k : Int) < (NA : Int)) = false := decide_eq_false (by omega)
      have HE : Hid ((L7 ++ adsV c.addrs).length ≤ 3000) := by
        have h1 := adsV_len c.addrs
        have h2 := HL7.out.2
        have h3 := HX.out.2.2.2.2.1
        have h4 := HN.out.1
        show _ ≤ _
        rw [List.length_append]; omega
      have hb := HR.out.2.1
      have HK : Hid (Kept g w wr) := HR.out.2.2
      have st1 := HR.out.1
      rw [List.take_of_length_le (by rw [← HN.out.1]; omega)] at st1
      obtain ⟨L8, hL8⟩ : ∃ L, L = L7 ++ adsV c.addrs := ⟨_, rfl⟩
      rw [← hL8] at st1
      have HL8 : Hid (l ++ laidK c = L8 ++ tailV c ∧ L8.length ≤ 3000 ∧ NM = c.mr.length ∧ NP = c.pr.length ∧ NM ≤ 64 ∧ NP ≤ 64) := ⟨by rw [HL7.out.1, hL8], by rw [hL8]; exact HE.out, HN.out.2.1, HN.out.2.2.1, HX.out.2.2.2.2.2.1, HX.out.2.2.2.2.2.2.1⟩
      clear hL8
      have d_st1 := kv10 hb
      try rw [hNs2] at d_st1
      have CM : Hid (BytesAt w0 (.slice s.mA NM s.mC) c.mr) := show BytesAt w0 _ _ by rw [← hNs2]; exact HC.out.m
      have CP : Hid (BytesAt w0 (.slice s.pA NP s.pC) c.pr) := show BytesAt w0 _ _ by rw [← hNs3]; exact HC.out.p
      go_wp2_with (first
        | (have q := st6; clear q; go_at_call 39; refine (ocNum st6 c.tp 4 (by have := HL8.out; (try simp only [List.length_append, be_len]); omega)).mono ?_; rintro e wst7 ⟨⟨yst7, rfl⟩, st7, kk⟩; rw [numB4] at st7; replace hb := kk _ _ _ hb (by decide) HX.out.2.2.2.1; replace HK : Hid (Kept g w wst7) := HK.out.trans kk; clear kk)
        | (have q := st5; clear q; go_at_call 39; refine (ocNum st5 c.tm 4 (by have := HL8.out; (try simp only [List.length_append, be_len]); omega)).mono ?_; rintro e wst6 ⟨⟨yst6, rfl⟩, st6, kk⟩; rw [numB4] at st6; replace hb := kk _ _ _ hb (by decide) HX.out.2.2.2.1; replace HK : Hid (Kept g w wst6) := HK.out.trans kk; clear kk; have d_st6 := kv13 hb)
        | (have q := st4; clear q; go_at_call 24; refine (ocPut st4 ((CP.out).ext st4.out) (by have := HL8.out; (try simp only [List.length_append, be_len]); omega)).mono ?_; rintro e wst5 ⟨⟨yst5, rfl⟩, st5, kk⟩; replace hb := kk _ _ _ hb (by decide) HX.out.2.2.2.1; replace HK : Hid (Kept g w wst5) := HK.out.trans kk; clear kk; have d_st5 := kv12 hb)
        | (have q := st3; clear q; go_at_call 39; refine (ocNum st3 NP 1 (by have := HL8.out; (try simp only [List.length_append, be_len]); omega)).mono ?_; rintro e wst4 ⟨⟨yst4, rfl⟩, st4, kk⟩; rw [numB1] at st4; replace hb := kk _ _ _ hb (by decide) HX.out.2.2.2.1; replace HK : Hid (Kept g w wst4) := HK.out.trans kk; clear kk; have d_st4 := kv11 hb; try rw [hNs3] at d_st4)
        | (have q := st2; clear q; go_at_call 24; refine (ocPut st2 ((CM.out).ext st2.out) (by have := HL8.out; (try simp only [List.length_append, be_len]); omega)).mono ?_; rintro e wst3 ⟨⟨yst3, rfl⟩, st3, kk⟩; replace hb := kk _ _ _ hb (by decide) HX.out.2.2.2.1; replace HK : Hid (Kept g w wst3) := HK.out.trans kk; clear kk; have d_st3 := kv11 hb; try rw [hNs3] at d_st3)
        | (have q := st1; clear q; go_at_call 39; refine (ocNum st1 NM 1 (by have := HL8.out; (try simp only [List.length_append, be_len]); omega)).mono ?_; rintro e wst2 ⟨⟨yst2, rfl⟩, st2, kk⟩; rw [numB1] at st2; replace hb := kk _ _ _ hb (by decide) HX.out.2.2.2.1; replace HK : Hid (Kept g w wst2) := HK.out.trans kk; clear kk; have d_st2 := kv10 hb; try rw [hNs2] at d_st2))
      go_end0
      refine ⟨⟨_, rfl⟩, ?_, HK.out⟩
      rw [HL8.out.1, HT.out]
      simpa only [List.append_assoc] using st7
end Tlv
end Go.Proofs.YtfhoielfekeihaaDoor
