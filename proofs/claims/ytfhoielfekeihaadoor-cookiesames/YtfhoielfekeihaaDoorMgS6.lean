/- Texts of the seat, one behind the other. No condition of its own. -/
import Derived.Test.YtfhoielfekeihaaDoorMgS5
import Derived.BigQuiet
import Derived.Deep.QuietTactic
import Derived.Laws.ResultCell
/- A cookie: what it holds, as cells and as lists; bounds. No condition of its own. -/
namespace Go.Proofs.YtfhoielfekeihaaDoor
namespace Tlv
open Go Go.RowKit
set_option linter.unusedVariables false
set_option linter.unusedSimpArgs false
set_option maxRecDepth 100000


/-- What a cookie holds. -/
structure Co where
  made : Int
  life : Int
  mine : Nat
  peers : Nat
  mtsn : Nat
  ptsn : Nat
  win : Int
  out : Int
  inn : Int
  addrs : List Int
  mr : List Nat
  pr : List Nat
  tm : Nat
  tp : Nat
/-- Where its lists lie. -/
structure So where
  aA : Option Addr
  aN : Nat
  aC : Nat
  mA : Option Addr
  mN : Nat
  mC : Nat
  pA : Option Addr
  pN : Nat
  pC : Nat
def co0 : Co := ⟨0, 0, 0, 0, 0, 0, 0, 0, 0, [], [], [], 0, 0⟩
def so0 : So := ⟨none, 0, 0, none, 0, 0, none, 0, 0⟩
/-- Its cells. -/
def KV (c : Co) (s : So) : Array Value := #[.int .i64 c.made, .int .i64 c.life, .int .u32 (c.mine : Int), .int .u32 (c.peers : Int), .int .u32 (c.mtsn : Int), .int .u32 (c.ptsn : Int), .int .i64 c.win, .int .i64 c.out, .int .i64 c.inn, .slice s.aA s.aN s.aC, .slice s.mA s.mN s.mC, .slice s.pA s.pN s.pC, .int .u32 (c.tm : Int), .int .u32 (c.tp : Int)]
theorem kv0 {w : World} {g T : Nat} {c : Co} {s : So} (h : Blk w g (KV c s) T) : w.cell? ⟨g, 0, none⟩ = some (.int .i64 c.made) := h.cell 0
theorem kv1 {w : World} {g T : Nat} {c : Co} {s : So} (h : Blk w g (KV c s) T) : w.cell? ⟨g, 1, none⟩ = some (.int .i64 c.life) := h.cell 1
theorem kv2 {w : World} {g T : Nat} {c : Co} {s : So} (h : Blk w g (KV c s) T) : w.cell? ⟨g, 2, none⟩ = some (.int .u32 (c.mine : Int)) := h.cell 2
theorem kv3 {w : World} {g T : Nat} {c : Co} {s : So} (h : Blk w g (KV c s) T) : w.cell? ⟨g, 3, none⟩ = some (.int .u32 (c.peers : Int)) := h.cell 3
theorem kv4 {w : World} {g T : Nat} {c : Co} {s : So} (h : Blk w g (KV c s) T) : w.cell? ⟨g, 4, none⟩ = some (.int .u32 (c.mtsn : Int)) := h.cell 4
theorem kv5 {w : World} {g T : Nat} {c : Co} {s : So} (h : Blk w g (KV c s) T) : w.cell? ⟨g, 5, none⟩ = some (.int .u32 (c.ptsn : Int)) := h.cell 5
theorem kv6 {w : World} {g T : Nat} {c : Co} {s : So} (h : Blk w g (KV c s) T) : w.cell? ⟨g, 6, none⟩ = some (.int .i64 c.win) := h.cell 6
theorem kv7 {w : World} {g T : Nat} {c : Co} {s : So} (h : Blk w g (KV c s) T) : w.cell? ⟨g, 7, none⟩ = some (.int .i64 c.out) := h.cell 7
theorem kv8 {w : World} {g T : Nat} {c : Co} {s : So} (h : Blk w g (KV c s) T) : w.cell? ⟨g, 8, none⟩ = some (.int .i64 c.inn) := h.cell 8
theorem kv9 {w : World} {g T : Nat} {c : Co} {s : So} (h : Blk w g (KV c s) T) : w.cell? ⟨g, 9, none⟩ = some (.slice s.aA s.aN s.aC) := h.cell 9
theorem kv10 {w : World} {g T : Nat} {c : Co} {s : So} (h : Blk w g (KV c s) T) : w.cell? ⟨g, 10, none⟩ = some (.slice s.mA s.mN s.mC) := h.cell 10
theorem kv11 {w : World} {g T : Nat} {c : Co} {s : So} (h : Blk w g (KV c s) T) : w.cell? ⟨g, 11, none⟩ = some (.slice s.pA s.pN s.pC) := h.cell 11
theorem kv12 {w : World} {g T : Nat} {c : Co} {s : So} (h : Blk w g (KV c s) T) : w.cell? ⟨g, 12, none⟩ = some (.int .u32 (c.tm : Int)) := h.cell 12
theorem kv13 {w : World} {g T : Nat} {c : Co} {s : So} (h : Blk w g (KV c s) T) : w.cell? ⟨g, 13, none⟩ = some (.int .u32 (c.tp : Int)) := h.cell 13
theorem KV.size (c : Co) (s : So) : (KV c s).size = 14 := rfl
theorem KV.one (c : Co) (s : So) : ∀ v ∈ (KV c s).toList, v.oneCell' = true := by
  intro v hv
  simp [KV] at hv
  rcases hv with rfl | rfl | rfl | rfl | rfl | rfl | rfl | rfl | rfl | rfl | rfl | rfl | rfl | rfl <;> rfl
theorem nums_len {k : IntKind} {w : World} {a : Option Addr} {n c : Nat} {l : List Int} (h : NumsAt k w (.slice a n c) l) : n = l.length ∧ n ≤ maxLen := by
  obtain ⟨x, y, e, _⟩ := h.form
  simp only [Value.slice.injEq] at e
  obtain ⟨rfl, rfl, rfl⟩ := e
  exact ⟨rfl, h.1⟩
theorem bytes_len {w : World} {a : Option Addr} {n c : Nat} {l : List Nat} (h : BytesAt w (.slice a n c) l) : n = l.length ∧ n ≤ maxLen := by
  obtain ⟨x, y, e, _⟩ := h.form
  simp only [Value.slice.injEq] at e
  obtain ⟨rfl, rfl, rfl⟩ := e
  exact ⟨rfl, h.2.1⟩
/-- A cookie's lists in memory. -/
structure CoAt (w : World) (s : So) (c : Co) : Prop where
  a : NumsAt .i64 w (.slice s.aA s.aN s.aC) c.addrs
  m : BytesAt w (.slice s.mA s.mN s.mC) c.mr
  p : BytesAt w (.slice s.pA s.pN s.pC) c.pr
theorem CoAt.ext {w w' : World} {s : So} {c : Co} (h : CoAt w s c) (he : Ext w w') : CoAt w' s c := ⟨h.a.ext he, h.m.ext he, h.p.ext he⟩
/-- Its numbers fit their kinds. -/
structure FitC (c : Co) : Prop where
  made : W64 c.made
  life : W64 c.life
  mine : c.mine < 4294967296
  peers : c.peers < 4294967296
  mtsn : c.mtsn < 4294967296
  ptsn : c.ptsn < 4294967296
  win : W64 c.win
  out : W64 c.out
  inn : W64 c.inn
  addrs : ∀ x ∈ c.addrs, W64 x
  tm : c.tm < 4294967296
  tp : c.tp < 4294967296
theorem rowC : RowT Tryd.prog 29 14 := ⟨⟨_, Tryd.underlying29, rfl⟩, by kernel_rfl⟩
theorem rowC2 : RowT Tryd.prog 26 14 := ⟨⟨_, Tryd.underlying26, rfl⟩, by kernel_rfl⟩
theorem one22 : OneT Tryd.prog 23 := ⟨⟨_, Tryd.underlying23, rfl⟩, by kernel_rfl⟩
theorem oneAd : OneT Tryd.prog 54 := ⟨⟨_, Tryd.underlying54, rfl⟩, by kernel_rfl⟩
theorem oneSA : OneT Tryd.prog 24 := ⟨⟨_, Tryd.underlying24, rfl⟩, by kernel_rfl⟩

/-! ### Bounds -/
def inB (n lo hi : Int) : Bool := decide (lo ≤ n) && decide (n ≤ hi)
theorem inB_iff (n lo hi : Int) : inB n lo hi = true ↔ lo ≤ n ∧ n ≤ hi := by simp [inB]
theorem within_any (n lo hi : Int) (w : World) : Calls Tryd.prog 25 #[.int .i64 n, .int .i64 lo, .int .i64 hi] w fun e w' => e = .returned (.bool (inB n lo hi)) ∧ Ext w w' := by
  unfold inB
  by_cases h1 : lo ≤ n
  · have d1 : decide (n ≥ lo) = true := decide_eq_true h1
    have d1' : decide (lo ≤ n) = true := decide_eq_true h1
    rw [d1']
    go_enter Tryd.func25, Tryd.ntmps25
    go_wp2
    go_ret
    exact ⟨by simp, Ext.refl _⟩
  · have d1 : decide (n ≥ lo) = false := decide_eq_false h1
    have d1' : decide (lo ≤ n) = false := decide_eq_false h1
    rw [d1']
    go_enter Tryd.func25, Tryd.ntmps25
    go_wp2
    go_ret
    exact ⟨by simp, Ext.refl _⟩
def adB (a : Int) : Bool := inB a 1 2147483647
def adsB (L : List Int) : Bool := L.all adB
theorem addrsC_any (a : Int) (w : World) : Calls Tryd.prog 48 #[.int .i64 a] w fun e w' => e = .returned (.bool (!adB a)) ∧ Ext w w' := by
  go_enter Tryd.func48, Tryd.ntmps48
  go_wp2_with (first
    | (go_at_call 25; refine (within_any _ _ _ _).mono ?_; rintro e w2 ⟨rfl, he2⟩))
  go_ret
  exact ⟨rfl, he2⟩
theorem not_all_at {α : Type} {f : α → Bool} {L : List α} (d : α) {k : Nat} (hk : k < L.length) (h : f (L.getD k d) = false) : L.all f = false := by
  rw [List.all_eq_false]
  exact ⟨_, getD_mem L d k hk, by rw [h]; simp⟩
theorem all_at {α : Type} {f : α → Bool} {L : List α} (d : α) (h : ∀ j, j < L.length → f (L.getD j d) = true) : L.all f = true := by
  rw [List.all_eq_true]
  intro x hx
  obtain ⟨j, hj, rfl⟩ := List.getElem_of_mem hx
  have := h j hj
  simpa [List.getD_eq_getElem?_getD, hj] using this
/-- What a search answers: where, or -1. -/
def FindIs (w : World) (b : Bool) (e : Ending) (w' : World) : Prop := ∃ i : Int, e = .returned (.int .i64 i) ∧ decide (i ≥ 0) = !b ∧ Ext w w'
set_option maxHeartbeats 2000000 in
theorem indexA_any {w : World} {a : Option Addr} {n cp : Nat} {L : List Int} (h : NumsAt .i64 w (.slice a n cp) L) :
    Calls Tryd.prog 62 #[.slice a n cp, .func (.func 48) #[] #[]] w (FindIs w (adsB L)) := by
  have HN : Hid (NumsAt .i64 w (.slice a n cp) L ∧ n = L.length) := ⟨h, (nums_len h).1⟩
  have hmx := (nums_len h).2
  unfold maxLen at hmx
  clear h
  go_enter Tryd.func62, Tryd.ntmps62
  go_wp2
  go_loopg [8] n (fun gm t wr => ∃ k : Nat, k ≤ n ∧ gm = n - k ∧ t = .int .i64 (k : Int) ∧ Hid (Ext w wr ∧ ∀ j, j < k → adB (L.getD j 0) = true))
  case atStart => exact ⟨0, Nat.zero_le _, rfl, rfl, Ext.refl _, fun j hj => by omega⟩
  case round =>
    obtain ⟨k, hk, rfl, rfl, HR⟩ := hrel
    by_cases hlt : k < n
    · have hd : decide ((k : Int) < (n : Int)) = true := decide_eq_true (by omega)
      have hkL : k < L.length := by rw [← HN.out.2]; exact hlt
      obtain ⟨b, off, rfl, hc⟩ := HN.out.1.cellAt k hkL
      have hc' := HR.out.1.cell hc
      have HX : Hid (∀ j, j = k → L.getD j 0 = L.getD k 0) := fun j h => by rw [h]
      have HKL : Hid (k < L.length) := hkL
      clear hc hkL
      obtain ⟨x, hx⟩ : ∃ x, x = L.getD k 0 := ⟨_, rfl⟩
      rw [← hx] at hc'
      have HXX : Hid (x = L.getD k 0) := hx
      clear hx
      cases hb : adB x with
      | true =>
        go_wp2_with (first
          | (go_at_call 48; refine (addrsC_any _ _).mono ?_; rintro e w2 ⟨rfl, he2⟩; rw [hb]))
        go_roundg (n - (k + 1))
        case measure => omega
        case rel =>
          refine ⟨k + 1, by omega, rfl, by simp, HR.out.1.trans he2, fun j hj => ?_⟩
          by_cases hjk : j = k
          · subst hjk; rw [← HXX.out]; exact hb
          · exact HR.out.2 j (by omega)
      | false =>
        have HF : Hid (adsB L = false) := not_all_at 0 HKL.out (by rw [← HXX.out]; exact hb)
        go_wp2_with (first
          | (go_at_call 48; refine (addrsC_any _ _).mono ?_; rintro e w2 ⟨rfl, he2⟩; rw [hb]))
        go_ret
        exact ⟨_, rfl, by rw [HF.out]; simp, HR.out.1.trans he2⟩
    · have hd : decide ((k : Int) < (n : Int)) = false := decide_eq_false (by omega)
      have HF : Hid (adsB L = true) := all_at 0 (fun j hj => HR.out.2 j (by have := HN.out.2; omega))
      go_wp2
      go_ret
      exact ⟨_, rfl, by rw [HF.out]; rfl, HR.out.1⟩
set_option maxHeartbeats 2000000 in
theorem hasA_any {w : World} {a : Option Addr} {n cp : Nat} {L : List Int} (h : NumsAt .i64 w (.slice a n cp) L) :
    Calls Tryd.prog 47 #[.slice a n cp, .func (.func 48) #[] #[]] w fun e w' => e = .returned (.bool (!adsB L)) ∧ Ext w w' := by
  go_enter Tryd.func47, Tryd.ntmps47
  go_wp2_with (first
    | (go_at_call 62; refine (indexA_any h).mono ?_; rintro e w2 ⟨i, rfl, hi, he2⟩))
  go_ret
  exact ⟨rfl, he2⟩
theorem list_same {α : Type} (d : α) {l m : List α} (hl : l.length = m.length) (h : ∀ j, j < l.length → l.getD j d = m.getD j d) : l = m := by
  apply List.ext_getElem hl
  intro j h1 h2
  have := h j h1
  simpa [List.getD_eq_getElem?_getD, h1, h2] using this

set_option maxHeartbeats 2000000 in
theorem eqA_any {w : World} {a : Option Addr} {n cp : Nat} {a' : Option Addr} {n' cp' : Nat} {l m : List Int} (h : NumsAt .i64 w (.slice a n cp) l) (h' : NumsAt .i64 w (.slice a' n' cp') m) :
    Calls Tryd.prog 37 #[.slice a n cp, .slice a' n' cp'] w fun e w' => e = .returned (.bool (decide (l = m))) ∧ Ext w w' := by
  have H : Hid (NumsAt .i64 w (.slice a n cp) l ∧ NumsAt .i64 w (.slice a' n' cp') m ∧ n = l.length ∧ n' = m.length) := ⟨h, h', (nums_len h).1, (nums_len h').1⟩
  have hmx := (nums_len h).2
  have hmx' := (nums_len h').2
  unfold maxLen at hmx hmx'
  clear h h'
  by_cases hn : n = n'
  case neg =>
    have hd : ((n : Int) != (n' : Int)) = true := by simp; omega
    have HF : Hid (decide (l = m) = false) := decide_eq_false (fun e => hn (by rw [H.out.2.2.1, H.out.2.2.2, e]))
    go_enter Tryd.func37, Tryd.ntmps37
    go_wp2
    go_ret
    exact ⟨by rw [HF.out]; rfl, Ext.refl _⟩
  subst hn
  go_enter Tryd.func37, Tryd.ntmps37
  go_wp2
  go_loopg [13] n (fun gm t wr => ∃ k : Nat, k ≤ n ∧ gm = n - k ∧ t = .int .i64 (k : Int) ∧ Hid (Ext w wr ∧ ∀ j, j < k → l.getD j 0 = m.getD j 0))
  case atStart => exact ⟨0, Nat.zero_le _, rfl, rfl, Ext.refl _, fun j hj => by omega⟩
  case round =>
    obtain ⟨k, hk, rfl, rfl, HR⟩ := hrel
    by_cases hlt : k < n
    · have hd : decide ((k : Int) < (n : Int)) = true := decide_eq_true (by omega)
      obtain ⟨b, off, rfl, hc⟩ := H.out.1.cellAt k (by rw [← H.out.2.2.1]; exact hlt)
      obtain ⟨b', off', rfl, hc'⟩ := H.out.2.1.cellAt k (by rw [← H.out.2.2.2]; exact hlt)
      replace hc := HR.out.1.cell hc
      replace hc' := HR.out.1.cell hc'
      obtain ⟨x, hx⟩ : ∃ x, x = l.getD k 0 := ⟨_, rfl⟩
      obtain ⟨y, hy⟩ : ∃ y, y = m.getD k 0 := ⟨_, rfl⟩
      rw [← hx] at hc
      rw [← hy] at hc'
      have HX : Hid (x = l.getD k 0 ∧ y = m.getD k 0) := ⟨hx, hy⟩
      clear hx hy
      by_cases hxy : x = y
      · subst hxy
        have HX2 : Hid (l.getD k 0 = m.getD k 0) := HX.out.1.symm.trans HX.out.2
        clear HX
        go_wp2_with fail
        go_quiet (fail)
        go_wp2
        go_roundg (n - (k + 1))
        case measure => omega
        case rel =>
          refine ⟨k + 1, by omega, rfl, by simp, HR.out.1.trans (Ext.drewN _ _), fun j hj => ?_⟩
          by_cases hjk : j = k
          · subst hjk; exact HX2.out
          · exact HR.out.2 j (by omega)
      · have hd2 : (x != y) = true := by simpa using hxy
        have hd3 : (x == y) = false := by simpa using hxy
        have hd4 : decide (x = y) = false := by simpa using hxy
        have HF : Hid (decide (l = m) = false) := decide_eq_false (fun e => hxy (by rw [HX.out.1, HX.out.2, e]))
        clear HX
        go_wp2_with fail
        go_quiet (fail)
        go_wp2
        go_ret
        exact ⟨by rw [HF.out]; rfl, HR.out.1.trans (Ext.drewN _ _)⟩
    · have hd : decide ((k : Int) < (n : Int)) = false := decide_eq_false (by omega)
      have HF : Hid (decide (l = m) = true) := decide_eq_true (list_same 0 (by rw [← H.out.2.2.1, ← H.out.2.2.2]) (fun j hj => HR.out.2 j (by have := H.out.2.2.1; omega)))
      go_wp2
      go_ret
      exact ⟨by rw [HF.out]; rfl, HR.out.1⟩

theorem equal_any {w : World} {v u : Value} {l m : List Nat} (hv : BytesAt w v l) (hu : BytesAt w u m) :
    Calls Tryd.prog 38 #[v, u] w fun e w' => e = .returned (.bool (decide (l = m))) ∧ Ext w w' := by
  have h1 := run_string_bytes byteT strT w _ _ hv
  have h2 := run_string_bytes byteT strT w _ _ hu
  have h3 := strOf_beq l m hv.1 hu.1
  obtain ⟨_, _, rfl, _⟩ := hv.form
  obtain ⟨_, _, rfl, _⟩ := hu.form
  clear hv hu
  go_enter Tryd.func38, Tryd.ntmps38
  go_wp2
  go_ret
  exact ⟨rfl, Ext.refl _⟩
end Tlv
end Go.Proofs.YtfhoielfekeihaaDoor

/- Which cookies are good. No condition of its own. -/
namespace Go.Proofs.YtfhoielfekeihaaDoor
namespace Tlv
open Go Go.RowKit
set_option linter.unusedVariables false
set_option linter.unusedSimpArgs false
set_option maxRecDepth 100000


def addrsB (L : List Int) : Bool := inB (L.length : Int) 1 4 && adsB L
def randB (l : List Nat) : Bool := inB (l.length : Int) 1 64
theorem isRandom_any {w : World} {a : Option Addr} {n cp : Nat} {l : List Nat} (h : BytesAt w (.slice a n cp) l) : Calls Tryd.prog 27 #[.slice a n cp] w fun e w' => e = .returned (.bool (randB l)) ∧ Ext w w' := by
  have HN : Hid (n = l.length) := (bytes_len h).1
  clear h
  go_enter Tryd.func27, Tryd.ntmps27
  go_wp2_with (first | (go_at_call 25; refine (within_any _ _ _ _).mono ?_; rintro e w1 ⟨rfl, he1⟩))
  go_ret
  exact ⟨by rw [HN.out]; rfl, he1⟩
theorem areAddrs_any {w : World} {a : Option Addr} {n cp : Nat} {L : List Int} (h : NumsAt .i64 w (.slice a n cp) L) : Calls Tryd.prog 26 #[.slice a n cp] w fun e w' => e = .returned (.bool (addrsB L)) ∧ Ext w w' := by
  have HN : Hid (NumsAt .i64 w (.slice a n cp) L ∧ n = L.length) := ⟨h, (nums_len h).1⟩
  clear h
  have HB : Hid (addrsB L = (inB (n : Int) 1 4 && adsB L)) := show _ = _ by rw [HN.out.2]; rfl
  rw [HB.out]
  cases hk : inB (n : Int) 1 4 with
  | true =>
    go_enter Tryd.func26, Tryd.ntmps26
    go_wp2_with (first
      | (go_at_call 25; refine (within_any _ _ _ _).mono ?_; rintro e w1 ⟨rfl, he1⟩; rw [hk])
      | (go_at_call 47; refine (hasA_any (HN.out.1.ext he1)).mono ?_; rintro e w2 ⟨rfl, he2⟩))
    go_ret
    exact ⟨by simp, he1.trans he2⟩
  | false =>
    go_enter Tryd.func26, Tryd.ntmps26
    go_wp2_with (first
      | (go_at_call 25; refine (within_any _ _ _ _).mono ?_; rintro e w1 ⟨rfl, he1⟩; rw [hk]))
    go_ret
    exact ⟨by simp, he1⟩
def goodK (c : Co) : Bool := ((((((((((inB (c.made) 0 4611686018427387904) && ((inB (c.life) 1 2147483648))) && ((((c.mine : Int) : Int) != (0 : Int)))) && ((((c.peers : Int) : Int) != (0 : Int)))) && ((inB (c.win) 0 2147483647))) && ((inB (c.out) 1 8))) && ((inB (c.inn) 1 8))) && ((addrsB c.addrs))) && ((randB c.mr))) && ((randB c.pr)))
set_option maxHeartbeats 4000000 in
theorem goodK_any {w : World} {c : Co} {s : So} (ha : CoAt w s c) :
    Calls Tryd.prog 12 #[.agg (KV c s)] w fun e w' => e = .returned (.bool (goodK c)) ∧ Ext w w' := by
  unfold goodK
  go_enter Tryd.func12, Tryd.ntmps12
  refine wp_seq_k (fun K hK => ?_)
  have HK := Stop.mk hK
  clear hK
  go_wp2_with (first
    | (refine wl_box (C := KV c s) rfl rfl rfl ?_; intro w1 hb1 he1 hx; clear hx))
  refine HK.go _ _ ?_
  refine wp_seq_k (fun K2 hK2 => ?_)
  have HA := ha.ext he1
  refine wp_line (fun t => bif Nat.ble 3 t && Nat.ble t 50 then some (t - 3) else bif Nat.beq t 2 then some 48 else none) 51 Ext
    [Is (.pointer (some ⟨w.heap.size, 0, none⟩)),
     Is (.int .i64 c.made),
     Is (.bool (inB (c.made) 0 4611686018427387904)),
     Is (.bool (inB (c.made) 0 4611686018427387904)),
     Under (((inB (c.made) 0 4611686018427387904))) (.pointer (some ⟨w.heap.size, 1, none⟩)),
     Under (((inB (c.made) 0 4611686018427387904))) (.int .i64 c.life),
     Under (((inB (c.made) 0 4611686018427387904))) (.bool (inB (c.life) 1 2147483648)),
     Is (.bool ((inB (c.made) 0 4611686018427387904) && ((inB (c.life) 1 2147483648)))),
     Is (.bool ((inB (c.made) 0 4611686018427387904) && ((inB (c.life) 1 2147483648)))),
     Under ((((inB (c.made) 0 4611686018427387904) && ((inB (c.life) 1 2147483648))))) (.pointer (some ⟨w.heap.size, 2, none⟩)),
     Under ((((inB (c.made) 0 4611686018427387904) && ((inB (c.life) 1 2147483648))))) (.int .u32 (c.mine : Int)),
     Under ((((inB (c.made) 0 4611686018427387904) && ((inB (c.life) 1 2147483648))))) (.bool (((c.mine : Int) : Int) != (0 : Int))),
     Is (.bool (((inB (c.made) 0 4611686018427387904) && ((inB (c.life) 1 2147483648))) && ((((c.mine : Int) : Int) != (0 : Int))))),
     Is (.bool (((inB (c.made) 0 4611686018427387904) && ((inB (c.life) 1 2147483648))) && ((((c.mine : Int) : Int) != (0 : Int))))),
     Under (((((inB (c.made) 0 4611686018427387904) && ((inB (c.life) 1 2147483648))) && ((((c.mine : Int) : Int) != (0 : Int)))))) (.pointer (some ⟨w.heap.size, 3, none⟩)),
     Under (((((inB (c.made) 0 4611686018427387904) && ((inB (c.life) 1 2147483648))) && ((((c.mine : Int) : Int) != (0 : Int)))))) (.int .u32 (c.peers : Int)),
     Under (((((inB (c.made) 0 4611686018427387904) && ((inB (c.life) 1 2147483648))) && ((((c.mine : Int) : Int) != (0 : Int)))))) (.bool (((c.peers : Int) : Int) != (0 : Int))),
     Is (.bool ((((inB (c.made) 0 4611686018427387904) && ((inB (c.life) 1 2147483648))) && ((((c.mine : Int) : Int) != (0 : Int)))) && ((((c.peers : Int) : Int) != (0 : Int))))),
     Is (.bool ((((inB (c.made) 0 4611686018427387904) && ((inB (c.life) 1 2147483648))) && ((((c.mine : Int) : Int) != (0 : Int)))) && ((((c.peers : Int) : Int) != (0 : Int))))),
     Under ((((((inB (c.made) 0 4611686018427387904) && ((inB (c.life) 1 2147483648))) && ((((c.mine : Int) : Int) != (0 : Int)))) && ((((c.peers : Int) : Int) != (0 : Int)))))) (.pointer (some ⟨w.heap.size, 6, none⟩)),
     Under ((((((inB (c.made) 0 4611686018427387904) && ((inB (c.life) 1 2147483648))) && ((((c.mine : Int) : Int) != (0 : Int)))) && ((((c.peers : Int) : Int) != (0 : Int)))))) (.int .i64 c.win),
     Under ((((((inB (c.made) 0 4611686018427387904) && ((inB (c.life) 1 2147483648))) && ((((c.mine : Int) : Int) != (0 : Int)))) && ((((c.peers : Int) : Int) != (0 : Int)))))) (.bool (inB (c.win) 0 2147483647)),
     Is (.bool (((((inB (c.made) 0 4611686018427387904) && ((inB (c.life) 1 2147483648))) && ((((c.mine : Int) : Int) != (0 : Int)))) && ((((c.peers : Int) : Int) != (0 : Int)))) && ((inB (c.win) 0 2147483647)))),
     Is (.bool (((((inB (c.made) 0 4611686018427387904) && ((inB (c.life) 1 2147483648))) && ((((c.mine : Int) : Int) != (0 : Int)))) && ((((c.peers : Int) : Int) != (0 : Int)))) && ((inB (c.win) 0 2147483647)))),
     Under (((((((inB (c.made) 0 4611686018427387904) && ((inB (c.life) 1 2147483648))) && ((((c.mine : Int) : Int) != (0 : Int)))) && ((((c.peers : Int) : Int) != (0 : Int)))) && ((inB (c.win) 0 2147483647))))) (.pointer (some ⟨w.heap.size, 7, none⟩)),
     Under (((((((inB (c.made) 0 4611686018427387904) && ((inB (c.life) 1 2147483648))) && ((((c.mine : Int) : Int) != (0 : Int)))) && ((((c.peers : Int) : Int) != (0 : Int)))) && ((inB (c.win) 0 2147483647))))) (.int .i64 c.out),
     Under (((((((inB (c.made) 0 4611686018427387904) && ((inB (c.life) 1 2147483648))) && ((((c.mine : Int) : Int) != (0 : Int)))) && ((((c.peers : Int) : Int) != (0 : Int)))) && ((inB (c.win) 0 2147483647))))) (.bool (inB (c.out) 1 8)),
     Is (.bool ((((((inB (c.made) 0 4611686018427387904) && ((inB (c.life) 1 2147483648))) && ((((c.mine : Int) : Int) != (0 : Int)))) && ((((c.peers : Int) : Int) != (0 : Int)))) && ((inB (c.win) 0 2147483647))) && ((inB (c.out) 1 8)))),
     Is (.bool ((((((inB (c.made) 0 4611686018427387904) && ((inB (c.life) 1 2147483648))) && ((((c.mine : Int) : Int) != (0 : Int)))) && ((((c.peers : Int) : Int) != (0 : Int)))) && ((inB (c.win) 0 2147483647))) && ((inB (c.out) 1 8)))),
     Under ((((((((inB (c.made) 0 4611686018427387904) && ((inB (c.life) 1 2147483648))) && ((((c.mine : Int) : Int) != (0 : Int)))) && ((((c.peers : Int) : Int) != (0 : Int)))) && ((inB (c.win) 0 2147483647))) && ((inB (c.out) 1 8))))) (.pointer (some ⟨w.heap.size, 8, none⟩)),
     Under ((((((((inB (c.made) 0 4611686018427387904) && ((inB (c.life) 1 2147483648))) && ((((c.mine : Int) : Int) != (0 : Int)))) && ((((c.peers : Int) : Int) != (0 : Int)))) && ((inB (c.win) 0 2147483647))) && ((inB (c.out) 1 8))))) (.int .i64 c.inn),
     Under ((((((((inB (c.made) 0 4611686018427387904) && ((inB (c.life) 1 2147483648))) && ((((c.mine : Int) : Int) != (0 : Int)))) && ((((c.peers : Int) : Int) != (0 : Int)))) && ((inB (c.win) 0 2147483647))) && ((inB (c.out) 1 8))))) (.bool (inB (c.inn) 1 8)),
     Is (.bool (((((((inB (c.made) 0 4611686018427387904) && ((inB (c.life) 1 2147483648))) && ((((c.mine : Int) : Int) != (0 : Int)))) && ((((c.peers : Int) : Int) != (0 : Int)))) && ((inB (c.win) 0 2147483647))) && ((inB (c.out) 1 8))) && ((inB (c.inn) 1 8)))),
     Is (.bool (((((((inB (c.made) 0 4611686018427387904) && ((inB (c.life) 1 2147483648))) && ((((c.mine : Int) : Int) != (0 : Int)))) && ((((c.peers : Int) : Int) != (0 : Int)))) && ((inB (c.win) 0 2147483647))) && ((inB (c.out) 1 8))) && ((inB (c.inn) 1 8)))),
     Under (((((((((inB (c.made) 0 4611686018427387904) && ((inB (c.life) 1 2147483648))) && ((((c.mine : Int) : Int) != (0 : Int)))) && ((((c.peers : Int) : Int) != (0 : Int)))) && ((inB (c.win) 0 2147483647))) && ((inB (c.out) 1 8))) && ((inB (c.inn) 1 8))))) (.pointer (some ⟨w.heap.size, 9, none⟩)),
     Under (((((((((inB (c.made) 0 4611686018427387904) && ((inB (c.life) 1 2147483648))) && ((((c.mine : Int) : Int) != (0 : Int)))) && ((((c.peers : Int) : Int) != (0 : Int)))) && ((inB (c.win) 0 2147483647))) && ((inB (c.out) 1 8))) && ((inB (c.inn) 1 8))))) (.slice s.aA s.aN s.aC),
     Under (((((((((inB (c.made) 0 4611686018427387904) && ((inB (c.life) 1 2147483648))) && ((((c.mine : Int) : Int) != (0 : Int)))) && ((((c.peers : Int) : Int) != (0 : Int)))) && ((inB (c.win) 0 2147483647))) && ((inB (c.out) 1 8))) && ((inB (c.inn) 1 8))))) (.bool (addrsB c.addrs)),
     Is (.bool ((((((((inB (c.made) 0 4611686018427387904) && ((inB (c.life) 1 2147483648))) && ((((c.mine : Int) : Int) != (0 : Int)))) && ((((c.peers : Int) : Int) != (0 : Int)))) && ((inB (c.win) 0 2147483647))) && ((inB (c.out) 1 8))) && ((inB (c.inn) 1 8))) && ((addrsB c.addrs)))),
     Is (.bool ((((((((inB (c.made) 0 4611686018427387904) && ((inB (c.life) 1 2147483648))) && ((((c.mine : Int) : Int) != (0 : Int)))) && ((((c.peers : Int) : Int) != (0 : Int)))) && ((inB (c.win) 0 2147483647))) && ((inB (c.out) 1 8))) && ((inB (c.inn) 1 8))) && ((addrsB c.addrs)))),
     Under ((((((((((inB (c.made) 0 4611686018427387904) && ((inB (c.life) 1 2147483648))) && ((((c.mine : Int) : Int) != (0 : Int)))) && ((((c.peers : Int) : Int) != (0 : Int)))) && ((inB (c.win) 0 2147483647))) && ((inB (c.out) 1 8))) && ((inB (c.inn) 1 8))) && ((addrsB c.addrs))))) (.pointer (some ⟨w.heap.size, 10, none⟩)),
     Under ((((((((((inB (c.made) 0 4611686018427387904) && ((inB (c.life) 1 2147483648))) && ((((c.mine : Int) : Int) != (0 : Int)))) && ((((c.peers : Int) : Int) != (0 : Int)))) && ((inB (c.win) 0 2147483647))) && ((inB (c.out) 1 8))) && ((inB (c.inn) 1 8))) && ((addrsB c.addrs))))) (.slice s.mA s.mN s.mC),
     Under ((((((((((inB (c.made) 0 4611686018427387904) && ((inB (c.life) 1 2147483648))) && ((((c.mine : Int) : Int) != (0 : Int)))) && ((((c.peers : Int) : Int) != (0 : Int)))) && ((inB (c.win) 0 2147483647))) && ((inB (c.out) 1 8))) && ((inB (c.inn) 1 8))) && ((addrsB c.addrs))))) (.bool (randB c.mr)),
     Is (.bool (((((((((inB (c.made) 0 4611686018427387904) && ((inB (c.life) 1 2147483648))) && ((((c.mine : Int) : Int) != (0 : Int)))) && ((((c.peers : Int) : Int) != (0 : Int)))) && ((inB (c.win) 0 2147483647))) && ((inB (c.out) 1 8))) && ((inB (c.inn) 1 8))) && ((addrsB c.addrs))) && ((randB c.mr)))),
     Is (.bool (((((((((inB (c.made) 0 4611686018427387904) && ((inB (c.life) 1 2147483648))) && ((((c.mine : Int) : Int) != (0 : Int)))) && ((((c.peers : Int) : Int) != (0 : Int)))) && ((inB (c.win) 0 2147483647))) && ((inB (c.out) 1 8))) && ((inB (c.inn) 1 8))) && ((addrsB c.addrs))) && ((randB c.mr)))),
     Under (((((((((((inB (c.made) 0 4611686018427387904) && ((inB (c.life) 1 2147483648))) && ((((c.mine : Int) : Int) != (0 : Int)))) && ((((c.peers : Int) : Int) != (0 : Int)))) && ((inB (c.win) 0 2147483647))) && ((inB (c.out) 1 8))) && ((inB (c.inn) 1 8))) && ((addrsB c.addrs))) && ((randB c.mr))))) (.pointer (some ⟨w.heap.size, 11, none⟩)),
     Under (((((((((((inB (c.made) 0 4611686018427387904) && ((inB (c.life) 1 2147483648))) && ((((c.mine : Int) : Int) != (0 : Int)))) && ((((c.peers : Int) : Int) != (0 : Int)))) && ((inB (c.win) 0 2147483647))) && ((inB (c.out) 1 8))) && ((inB (c.inn) 1 8))) && ((addrsB c.addrs))) && ((randB c.mr))))) (.slice s.pA s.pN s.pC),
     Under (((((((((((inB (c.made) 0 4611686018427387904) && ((inB (c.life) 1 2147483648))) && ((((c.mine : Int) : Int) != (0 : Int)))) && ((((c.peers : Int) : Int) != (0 : Int)))) && ((inB (c.win) 0 2147483647))) && ((inB (c.out) 1 8))) && ((inB (c.inn) 1 8))) && ((addrsB c.addrs))) && ((randB c.mr))))) (.bool (randB c.pr)),
     Is (.bool ((((((((((inB (c.made) 0 4611686018427387904) && ((inB (c.life) 1 2147483648))) && ((((c.mine : Int) : Int) != (0 : Int)))) && ((((c.peers : Int) : Int) != (0 : Int)))) && ((inB (c.win) 0 2147483647))) && ((inB (c.out) 1 8))) && ((inB (c.inn) 1 8))) && ((addrsB c.addrs))) && ((randB c.mr))) && ((randB c.pr)))),
     Is (.bool ((((((((((inB (c.made) 0 4611686018427387904) && ((inB (c.life) 1 2147483648))) && ((((c.mine : Int) : Int) != (0 : Int)))) && ((((c.peers : Int) : Int) != (0 : Int)))) && ((inB (c.win) 0 2147483647))) && ((inB (c.out) 1 8))) && ((inB (c.inn) 1 8))) && ((addrsB c.addrs))) && ((randB c.mr))) && ((randB c.pr))))]
    rfl (by kernel_rfl) rfl Ext.refl (fun _ _ _ => Ext.trans) (KeepAll.is (KeepAll.is (KeepAll.is (KeepAll.is (KeepAll.under (KeepAll.under (KeepAll.under (KeepAll.is (KeepAll.is (KeepAll.under (KeepAll.under (KeepAll.under (KeepAll.is (KeepAll.is (KeepAll.under (KeepAll.under (KeepAll.under (KeepAll.is (KeepAll.is (KeepAll.under (KeepAll.under (KeepAll.under (KeepAll.is (KeepAll.is (KeepAll.under (KeepAll.under (KeepAll.under (KeepAll.is (KeepAll.is (KeepAll.under (KeepAll.under (KeepAll.under (KeepAll.is (KeepAll.is (KeepAll.under (KeepAll.under (KeepAll.under (KeepAll.is (KeepAll.is (KeepAll.under (KeepAll.under (KeepAll.under (KeepAll.is (KeepAll.is (KeepAll.under (KeepAll.under (KeepAll.under (KeepAll.is (KeepAll.is (KeepAll.nil)))))))))))))))))))))))))))))))))))))))))))))))))) ?_ ?_
  · refine GoodAll.cons ?_ ?_
    · intro r wx hR hx
      obtain ⟨h1, _⟩ := hx
      replace h1 : r (.tmp 1) = .pointer (some ⟨w.heap.size, 0, none⟩) := h1
      exact give_of (by simp [execOp, h1, go_sem]) ⟨Ext.refl _, rfl⟩
    refine GoodAll.cons ?_ ?_
    · intro r wx hR hx
      obtain ⟨h1, _⟩ := hx
      replace h1 : r (.tmp 3) = .pointer (some ⟨w.heap.size, 0, none⟩) := h1
      exact give_of (exec_get one3 rfl h1 (kv0 (hb1.ext hR))) ⟨Ext.refl _, rfl⟩
    refine GoodAll.cons ?_ ?_
    · intro r wx hR hx
      obtain ⟨h1, h2, h3, h4, _⟩ := hx
      replace h1 : r (.func 25) = .func (.func 25) #[] #[] := h1
      replace h2 : r (.tmp 4) = .int .i64 c.made := h2
      replace h3 : r (.const (.int .i64 0)) = .int .i64 0 := h3
      replace h4 : r (.const (.int .i64 4611686018427387904)) = .int .i64 4611686018427387904 := h4
      refine give_func #[.int .i64 c.made, .int .i64 0, .int .i64 4611686018427387904] rfl h1 Tryd.call25 (by simp [h2, h3, h4]) ?_
      refine (within_any _ _ _ _).mono ?_
      rintro e wz ⟨rfl, hez⟩
      exact ⟨_, rfl, hez, rfl⟩
    refine GoodAll.cons ?_ ?_
    · intro r wx hR hx
      obtain ⟨h1, _⟩ := hx
      replace h1 : r (.tmp 5) = .bool (inB (c.made) 0 4611686018427387904) := h1
      exact give_move (.inl rfl) ⟨Ext.refl _, h1⟩
    refine GoodAll.cons ?_ ?_
    · intro r wx hR hx
      obtain ⟨h1, _⟩ := hx
      replace h1 : r (.tmp 1) = .pointer (some ⟨w.heap.size, 0, none⟩) := h1
      intro gb hgb
      refine guard_u (C := ((inB (c.made) 0 4611686018427387904))) (b := (inB (c.made) 0 4611686018427387904)) (want := true) hgb (want_t _) (fun hc => ?_) (fun hc => under_no hc)
      exact give_of (by simp [execOp, h1, go_sem]) ⟨Ext.refl _, under_yes hc⟩
    refine GoodAll.cons ?_ ?_
    · intro r wx hR hx
      obtain ⟨h1, _⟩ := hx
      replace h1 : Under (((inB (c.made) 0 4611686018427387904))) (.pointer (some ⟨w.heap.size, 1, none⟩)) wx (r (.tmp 7)) := h1
      intro gb hgb
      refine guard_u (C := ((inB (c.made) 0 4611686018427387904))) (b := (inB (c.made) 0 4611686018427387904)) (want := true) hgb (want_t _) (fun hc => ?_) (fun hc => under_no hc)
      replace h1 := h1.get hc
      exact give_of (exec_get one3 rfl h1 (kv1 (hb1.ext hR))) ⟨Ext.refl _, under_yes hc⟩
    refine GoodAll.cons ?_ ?_
    · intro r wx hR hx
      obtain ⟨h1, h2, h3, h4, _⟩ := hx
      replace h1 : r (.func 25) = .func (.func 25) #[] #[] := h1
      replace h2 : Under (((inB (c.made) 0 4611686018427387904))) (.int .i64 c.life) wx (r (.tmp 8)) := h2
      replace h3 : r (.const (.int .i64 1)) = .int .i64 1 := h3
      replace h4 : r (.const (.int .i64 2147483648)) = .int .i64 2147483648 := h4
      intro gb hgb
      refine guard_u (C := ((inB (c.made) 0 4611686018427387904))) (b := (inB (c.made) 0 4611686018427387904)) (want := true) hgb (want_t _) (fun hc => ?_) (fun hc => under_no hc)
      replace h2 := h2.get hc
      refine give_func #[.int .i64 c.life, .int .i64 1, .int .i64 2147483648] rfl h1 Tryd.call25 (by simp [h2, h3, h4]) ?_
      refine (within_any _ _ _ _).mono ?_
      rintro e wz ⟨rfl, hez⟩
      exact ⟨_, rfl, hez, under_yes hc⟩
    refine GoodAll.cons ?_ ?_
    · intro r wx hR hx
      obtain ⟨h1, h2, h3, _⟩ := hx
      replace h1 : r (.tmp 6) = .bool (inB (c.made) 0 4611686018427387904) := h1
      replace h2 : Under (((inB (c.made) 0 4611686018427387904))) (.bool (inB (c.life) 1 2147483648)) wx (r (.tmp 9)) := h2
      replace h3 : r (.const (.bool false)) = .bool false := h3
      exact give_and rfl h3 h1 (fun hb => h2.get (by first | exact hb | (rw [hc, hb]; rfl) | (rw [hb]; rfl))) ⟨Ext.refl _, rfl⟩
    refine GoodAll.cons ?_ ?_
    · intro r wx hR hx
      obtain ⟨h1, _⟩ := hx
      replace h1 : r (.tmp 10) = .bool ((inB (c.made) 0 4611686018427387904) && ((inB (c.life) 1 2147483648))) := h1
      exact give_move (.inl rfl) ⟨Ext.refl _, h1⟩
    refine GoodAll.cons ?_ ?_
    · intro r wx hR hx
      obtain ⟨h1, _⟩ := hx
      replace h1 : r (.tmp 1) = .pointer (some ⟨w.heap.size, 0, none⟩) := h1
      intro gb hgb
      refine guard_u (C := (((inB (c.made) 0 4611686018427387904) && ((inB (c.life) 1 2147483648))))) (b := ((inB (c.made) 0 4611686018427387904) && ((inB (c.life) 1 2147483648)))) (want := true) hgb (want_t _) (fun hc => ?_) (fun hc => under_no hc)
      exact give_of (by simp [execOp, h1, go_sem]) ⟨Ext.refl _, under_yes hc⟩
    refine GoodAll.cons ?_ ?_
    · intro r wx hR hx
      obtain ⟨h1, _⟩ := hx
      replace h1 : Under ((((inB (c.made) 0 4611686018427387904) && ((inB (c.life) 1 2147483648))))) (.pointer (some ⟨w.heap.size, 2, none⟩)) wx (r (.tmp 12)) := h1
      intro gb hgb
      refine guard_u (C := (((inB (c.made) 0 4611686018427387904) && ((inB (c.life) 1 2147483648))))) (b := ((inB (c.made) 0 4611686018427387904) && ((inB (c.life) 1 2147483648)))) (want := true) hgb (want_t _) (fun hc => ?_) (fun hc => under_no hc)
      replace h1 := h1.get hc
      exact give_of (exec_get one22 rfl h1 (kv2 (hb1.ext hR))) ⟨Ext.refl _, under_yes hc⟩
    refine GoodAll.cons ?_ ?_
    · intro r wx hR hx
      obtain ⟨h1, h2, _⟩ := hx
      replace h1 : Under ((((inB (c.made) 0 4611686018427387904) && ((inB (c.life) 1 2147483648))))) (.int .u32 (c.mine : Int)) wx (r (.tmp 13)) := h1
      replace h2 : r (.const (.int .u32 0)) = .int .u32 0 := h2
      intro gb hgb
      refine guard_u (C := (((inB (c.made) 0 4611686018427387904) && ((inB (c.life) 1 2147483648))))) (b := ((inB (c.made) 0 4611686018427387904) && ((inB (c.life) 1 2147483648)))) (want := true) hgb (want_t _) (fun hc => ?_) (fun hc => under_no hc)
      replace h1 := h1.get hc
      exact give_of (by simp [execOp, h1, h2, go_sem]) ⟨Ext.refl _, under_yes hc⟩
    refine GoodAll.cons ?_ ?_
    · intro r wx hR hx
      obtain ⟨h1, h2, h3, _⟩ := hx
      replace h1 : r (.tmp 11) = .bool ((inB (c.made) 0 4611686018427387904) && ((inB (c.life) 1 2147483648))) := h1
      replace h2 : Under ((((inB (c.made) 0 4611686018427387904) && ((inB (c.life) 1 2147483648))))) (.bool (((c.mine : Int) : Int) != (0 : Int))) wx (r (.tmp 14)) := h2
      replace h3 : r (.const (.bool false)) = .bool false := h3
      exact give_and rfl h3 h1 (fun hb => h2.get (by first | exact hb | (rw [hc, hb]; rfl) | (rw [hb]; rfl))) ⟨Ext.refl _, rfl⟩
    refine GoodAll.cons ?_ ?_
    · intro r wx hR hx
      obtain ⟨h1, _⟩ := hx
      replace h1 : r (.tmp 15) = .bool (((inB (c.made) 0 4611686018427387904) && ((inB (c.life) 1 2147483648))) && ((((c.mine : Int) : Int) != (0 : Int)))) := h1
      exact give_move (.inl rfl) ⟨Ext.refl _, h1⟩
    refine GoodAll.cons ?_ ?_
    · intro r wx hR hx
      obtain ⟨h1, _⟩ := hx
      replace h1 : r (.tmp 1) = .pointer (some ⟨w.heap.size, 0, none⟩) := h1
      intro gb hgb
      refine guard_u (C := ((((inB (c.made) 0 4611686018427387904) && ((inB (c.life) 1 2147483648))) && ((((c.mine : Int) : Int) != (0 : Int)))))) (b := (((inB (c.made) 0 4611686018427387904) && ((inB (c.life) 1 2147483648))) && ((((c.mine : Int) : Int) != (0 : Int))))) (want := true) hgb (want_t _) (fun hc => ?_) (fun hc => under_no hc)
      exact give_of (by simp [execOp, h1, go_sem]) ⟨Ext.refl _, under_yes hc⟩
    refine GoodAll.cons ?_ ?_
    · intro r wx hR hx
      obtain ⟨h1, _⟩ := hx
      replace h1 : Under (((((inB (c.made) 0 4611686018427387904) && ((inB (c.life) 1 2147483648))) && ((((c.mine : Int) : Int) != (0 : Int)))))) (.pointer (some ⟨w.heap.size, 3, none⟩)) wx (r (.tmp 17)) := h1
      intro gb hgb
      refine guard_u (C := ((((inB (c.made) 0 4611686018427387904) && ((inB (c.life) 1 2147483648))) && ((((c.mine : Int) : Int) != (0 : Int)))))) (b := (((inB (c.made) 0 4611686018427387904) && ((inB (c.life) 1 2147483648))) && ((((c.mine : Int) : Int) != (0 : Int))))) (want := true) hgb (want_t _) (fun hc => ?_) (fun hc => under_no hc)
      replace h1 := h1.get hc
      exact give_of (exec_get one22 rfl h1 (kv3 (hb1.ext hR))) ⟨Ext.refl _, under_yes hc⟩
    refine GoodAll.cons ?_ ?_
    · intro r wx hR hx
      obtain ⟨h1, h2, _⟩ := hx
      replace h1 : Under (((((inB (c.made) 0 4611686018427387904) && ((inB (c.life) 1 2147483648))) && ((((c.mine : Int) : Int) != (0 : Int)))))) (.int .u32 (c.peers : Int)) wx (r (.tmp 18)) := h1
      replace h2 : r (.const (.int .u32 0)) = .int .u32 0 := h2
      intro gb hgb
      refine guard_u (C := ((((inB (c.made) 0 4611686018427387904) && ((inB (c.life) 1 2147483648))) && ((((c.mine : Int) : Int) != (0 : Int)))))) (b := (((inB (c.made) 0 4611686018427387904) && ((inB (c.life) 1 2147483648))) && ((((c.mine : Int) : Int) != (0 : Int))))) (want := true) hgb (want_t _) (fun hc => ?_) (fun hc => under_no hc)
      replace h1 := h1.get hc
      exact give_of (by simp [execOp, h1, h2, go_sem]) ⟨Ext.refl _, under_yes hc⟩
    refine GoodAll.cons ?_ ?_
    · intro r wx hR hx
      obtain ⟨h1, h2, h3, _⟩ := hx
      replace h1 : r (.tmp 16) = .bool (((inB (c.made) 0 4611686018427387904) && ((inB (c.life) 1 2147483648))) && ((((c.mine : Int) : Int) != (0 : Int)))) := h1
      replace h2 : Under (((((inB (c.made) 0 4611686018427387904) && ((inB (c.life) 1 2147483648))) && ((((c.mine : Int) : Int) != (0 : Int)))))) (.bool (((c.peers : Int) : Int) != (0 : Int))) wx (r (.tmp 19)) := h2
      replace h3 : r (.const (.bool false)) = .bool false := h3
      exact give_and rfl h3 h1 (fun hb => h2.get (by first | exact hb | (rw [hc, hb]; rfl) | (rw [hb]; rfl))) ⟨Ext.refl _, rfl⟩
    refine GoodAll.cons ?_ ?_
    · intro r wx hR hx
      obtain ⟨h1, _⟩ := hx
      replace h1 : r (.tmp 20) = .bool ((((inB (c.made) 0 4611686018427387904) && ((inB (c.life) 1 2147483648))) && ((((c.mine : Int) : Int) != (0 : Int)))) && ((((c.peers : Int) : Int) != (0 : Int)))) := h1
      exact give_move (.inl rfl) ⟨Ext.refl _, h1⟩
    refine GoodAll.cons ?_ ?_
    · intro r wx hR hx
      obtain ⟨h1, _⟩ := hx
      replace h1 : r (.tmp 1) = .pointer (some ⟨w.heap.size, 0, none⟩) := h1
      intro gb hgb
      refine guard_u (C := (((((inB (c.made) 0 4611686018427387904) && ((inB (c.life) 1 2147483648))) && ((((c.mine : Int) : Int) != (0 : Int)))) && ((((c.peers : Int) : Int) != (0 : Int)))))) (b := ((((inB (c.made) 0 4611686018427387904) && ((inB (c.life) 1 2147483648))) && ((((c.mine : Int) : Int) != (0 : Int)))) && ((((c.peers : Int) : Int) != (0 : Int))))) (want := true) hgb (want_t _) (fun hc => ?_) (fun hc => under_no hc)
      exact give_of (by simp [execOp, h1, go_sem]) ⟨Ext.refl _, under_yes hc⟩
    refine GoodAll.cons ?_ ?_
    · intro r wx hR hx
      obtain ⟨h1, _⟩ := hx
      replace h1 : Under ((((((inB (c.made) 0 4611686018427387904) && ((inB (c.life) 1 2147483648))) && ((((c.mine : Int) : Int) != (0 : Int)))) && ((((c.peers : Int) : Int) != (0 : Int)))))) (.pointer (some ⟨w.heap.size, 6, none⟩)) wx (r (.tmp 22)) := h1
      intro gb hgb
      refine guard_u (C := (((((inB (c.made) 0 4611686018427387904) && ((inB (c.life) 1 2147483648))) && ((((c.mine : Int) : Int) != (0 : Int)))) && ((((c.peers : Int) : Int) != (0 : Int)))))) (b := ((((inB (c.made) 0 4611686018427387904) && ((inB (c.life) 1 2147483648))) && ((((c.mine : Int) : Int) != (0 : Int)))) && ((((c.peers : Int) : Int) != (0 : Int))))) (want := true) hgb (want_t _) (fun hc => ?_) (fun hc => under_no hc)
      replace h1 := h1.get hc
      exact give_of (exec_get one3 rfl h1 (kv6 (hb1.ext hR))) ⟨Ext.refl _, under_yes hc⟩
    refine GoodAll.cons ?_ ?_
    · intro r wx hR hx
      obtain ⟨h1, h2, h3, h4, _⟩ := hx
      replace h1 : r (.func 25) = .func (.func 25) #[] #[] := h1
      replace h2 : Under ((((((inB (c.made) 0 4611686018427387904) && ((inB (c.life) 1 2147483648))) && ((((c.mine : Int) : Int) != (0 : Int)))) && ((((c.peers : Int) : Int) != (0 : Int)))))) (.int .i64 c.win) wx (r (.tmp 23)) := h2
      replace h3 : r (.const (.int .i64 0)) = .int .i64 0 := h3
      replace h4 : r (.const (.int .i64 2147483647)) = .int .i64 2147483647 := h4
      intro gb hgb
      refine guard_u (C := (((((inB (c.made) 0 4611686018427387904) && ((inB (c.life) 1 2147483648))) && ((((c.mine : Int) : Int) != (0 : Int)))) && ((((c.peers : Int) : Int) != (0 : Int)))))) (b := ((((inB (c.made) 0 4611686018427387904) && ((inB (c.life) 1 2147483648))) && ((((c.mine : Int) : Int) != (0 : Int)))) && ((((c.peers : Int) : Int) != (0 : Int))))) (want := true) hgb (want_t _) (fun hc => ?_) (fun hc => under_no hc)
      replace h2 := h2.get hc
      refine give_func #[.int .i64 c.win, .int .i64 0, .int .i64 2147483647] rfl h1 Tryd.call25 (by simp [h2, h3, h4]) ?_
      refine (within_any _ _ _ _).mono ?_
      rintro e wz ⟨rfl, hez⟩
      exact ⟨_, rfl, hez, under_yes hc⟩
    refine GoodAll.cons ?_ ?_
    · intro r wx hR hx
      obtain ⟨h1, h2, h3, _⟩ := hx
      replace h1 : r (.tmp 21) = .bool ((((inB (c.made) 0 4611686018427387904) && ((inB (c.life) 1 2147483648))) && ((((c.mine : Int) : Int) != (0 : Int)))) && ((((c.peers : Int) : Int) != (0 : Int)))) := h1
      replace h2 : Under ((((((inB (c.made) 0 4611686018427387904) && ((inB (c.life) 1 2147483648))) && ((((c.mine : Int) : Int) != (0 : Int)))) && ((((c.peers : Int) : Int) != (0 : Int)))))) (.bool (inB (c.win) 0 2147483647)) wx (r (.tmp 24)) := h2
      replace h3 : r (.const (.bool false)) = .bool false := h3
      exact give_and rfl h3 h1 (fun hb => h2.get (by first | exact hb | (rw [hc, hb]; rfl) | (rw [hb]; rfl))) ⟨Ext.refl _, rfl⟩
    refine GoodAll.cons ?_ ?_
    · intro r wx hR hx
      obtain ⟨h1, _⟩ := hx
      replace h1 : r (.tmp 25) = .bool (((((inB (c.made) 0 4611686018427387904) && ((inB (c.life) 1 2147483648))) && ((((c.mine : Int) : Int) != (0 : Int)))) && ((((c.peers : Int) : Int) != (0 : Int)))) && ((inB (c.win) 0 2147483647))) := h1
      exact give_move (.inl rfl) ⟨Ext.refl _, h1⟩
    refine GoodAll.cons ?_ ?_
    · intro r wx hR hx
      obtain ⟨h1, _⟩ := hx
      replace h1 : r (.tmp 1) = .pointer (some ⟨w.heap.size, 0, none⟩) := h1
      intro gb hgb
      refine guard_u (C := ((((((inB (c.made) 0 4611686018427387904) && ((inB (c.life) 1 2147483648))) && ((((c.mine : Int) : Int) != (0 : Int)))) && ((((c.peers : Int) : Int) != (0 : Int)))) && ((inB (c.win) 0 2147483647))))) (b := (((((inB (c.made) 0 4611686018427387904) && ((inB (c.life) 1 2147483648))) && ((((c.mine : Int) : Int) != (0 : Int)))) && ((((c.peers : Int) : Int) != (0 : Int)))) && ((inB (c.win) 0 2147483647)))) (want := true) hgb (want_t _) (fun hc => ?_) (fun hc => under_no hc)
      exact give_of (by simp [execOp, h1, go_sem]) ⟨Ext.refl _, under_yes hc⟩
    refine GoodAll.cons ?_ ?_
    · intro r wx hR hx
      obtain ⟨h1, _⟩ := hx
      replace h1 : Under (((((((inB (c.made) 0 4611686018427387904) && ((inB (c.life) 1 2147483648))) && ((((c.mine : Int) : Int) != (0 : Int)))) && ((((c.peers : Int) : Int) != (0 : Int)))) && ((inB (c.win) 0 2147483647))))) (.pointer (some ⟨w.heap.size, 7, none⟩)) wx (r (.tmp 27)) := h1
      intro gb hgb
      refine guard_u (C := ((((((inB (c.made) 0 4611686018427387904) && ((inB (c.life) 1 2147483648))) && ((((c.mine : Int) : Int) != (0 : Int)))) && ((((c.peers : Int) : Int) != (0 : Int)))) && ((inB (c.win) 0 2147483647))))) (b := (((((inB (c.made) 0 4611686018427387904) && ((inB (c.life) 1 2147483648))) && ((((c.mine : Int) : Int) != (0 : Int)))) && ((((c.peers : Int) : Int) != (0 : Int)))) && ((inB (c.win) 0 2147483647)))) (want := true) hgb (want_t _) (fun hc => ?_) (fun hc => under_no hc)
      replace h1 := h1.get hc
      exact give_of (exec_get one3 rfl h1 (kv7 (hb1.ext hR))) ⟨Ext.refl _, under_yes hc⟩
    refine GoodAll.cons ?_ ?_
    · intro r wx hR hx
      obtain ⟨h1, h2, h3, h4, _⟩ := hx
      replace h1 : r (.func 25) = .func (.func 25) #[] #[] := h1
      replace h2 : Under (((((((inB (c.made) 0 4611686018427387904) && ((inB (c.life) 1 2147483648))) && ((((c.mine : Int) : Int) != (0 : Int)))) && ((((c.peers : Int) : Int) != (0 : Int)))) && ((inB (c.win) 0 2147483647))))) (.int .i64 c.out) wx (r (.tmp 28)) := h2
      replace h3 : r (.const (.int .i64 1)) = .int .i64 1 := h3
      replace h4 : r (.const (.int .i64 8)) = .int .i64 8 := h4
      intro gb hgb
      refine guard_u (C := ((((((inB (c.made) 0 4611686018427387904) && ((inB (c.life) 1 2147483648))) && ((((c.mine : Int) : Int) != (0 : Int)))) && ((((c.peers : Int) : Int) != (0 : Int)))) && ((inB (c.win) 0 2147483647))))) (b := (((((inB (c.made) 0 4611686018427387904) && ((inB (c.life) 1 2147483648))) && ((((c.mine : Int) : Int) != (0 : Int)))) && ((((c.peers : Int) : Int) != (0 : Int)))) && ((inB (c.win) 0 2147483647)))) (want := true) hgb (want_t _) (fun hc => ?_) (fun hc => under_no hc)
      replace h2 := h2.get hc
      refine give_func #[.int .i64 c.out, .int .i64 1, .int .i64 8] rfl h1 Tryd.call25 (by simp [h2, h3, h4]) ?_
      refine (within_any _ _ _ _).mono ?_
      rintro e wz ⟨rfl, hez⟩
      exact ⟨_, rfl, hez, under_yes hc⟩
    refine GoodAll.cons ?_ ?_
    · intro r wx hR hx
      obtain ⟨h1, h2, h3, _⟩ := hx
      replace h1 : r (.tmp 26) = .bool (((((inB (c.made) 0 4611686018427387904) && ((inB (c.life) 1 2147483648))) && ((((c.mine : Int) : Int) != (0 : Int)))) && ((((c.peers : Int) : Int) != (0 : Int)))) && ((inB (c.win) 0 2147483647))) := h1
      replace h2 : Under (((((((inB (c.made) 0 4611686018427387904) && ((inB (c.life) 1 2147483648))) && ((((c.mine : Int) : Int) != (0 : Int)))) && ((((c.peers : Int) : Int) != (0 : Int)))) && ((inB (c.win) 0 2147483647))))) (.bool (inB (c.out) 1 8)) wx (r (.tmp 29)) := h2
      replace h3 : r (.const (.bool false)) = .bool false := h3
      exact give_and rfl h3 h1 (fun hb => h2.get (by first | exact hb | (rw [hc, hb]; rfl) | (rw [hb]; rfl))) ⟨Ext.refl _, rfl⟩
    refine GoodAll.cons ?_ ?_
    · intro r wx hR hx
      obtain ⟨h1, _⟩ := hx
      replace h1 : r (.tmp 30) = .bool ((((((inB (c.made) 0 4611686018427387904) && ((inB (c.life) 1 2147483648))) && ((((c.mine : Int) : Int) != (0 : Int)))) && ((((c.peers : Int) : Int) != (0 : Int)))) && ((inB (c.win) 0 2147483647))) && ((inB (c.out) 1 8))) := h1
      exact give_move (.inl rfl) ⟨Ext.refl _, h1⟩
    refine GoodAll.cons ?_ ?_
    · intro r wx hR hx
      obtain ⟨h1, _⟩ := hx
      replace h1 : r (.tmp 1) = .pointer (some ⟨w.heap.size, 0, none⟩) := h1
      intro gb hgb
      refine guard_u (C := (((((((inB (c.made) 0 4611686018427387904) && ((inB (c.life) 1 2147483648))) && ((((c.mine : Int) : Int) != (0 : Int)))) && ((((c.peers : Int) : Int) != (0 : Int)))) && ((inB (c.win) 0 2147483647))) && ((inB (c.out) 1 8))))) (b := ((((((inB (c.made) 0 4611686018427387904) && ((inB (c.life) 1 2147483648))) && ((((c.mine : Int) : Int) != (0 : Int)))) && ((((c.peers : Int) : Int) != (0 : Int)))) && ((inB (c.win) 0 2147483647))) && ((inB (c.out) 1 8)))) (want := true) hgb (want_t _) (fun hc => ?_) (fun hc => under_no hc)
      exact give_of (by simp [execOp, h1, go_sem]) ⟨Ext.refl _, under_yes hc⟩
    refine GoodAll.cons ?_ ?_
    · intro r wx hR hx
      obtain ⟨h1, _⟩ := hx
      replace h1 : Under ((((((((inB (c.made) 0 4611686018427387904) && ((inB (c.life) 1 2147483648))) && ((((c.mine : Int) : Int) != (0 : Int)))) && ((((c.peers : Int) : Int) != (0 : Int)))) && ((inB (c.win) 0 2147483647))) && ((inB (c.out) 1 8))))) (.pointer (some ⟨w.heap.size, 8, none⟩)) wx (r (.tmp 32)) := h1
      intro gb hgb
      refine guard_u (C := (((((((inB (c.made) 0 4611686018427387904) && ((inB (c.life) 1 2147483648))) && ((((c.mine : Int) : Int) != (0 : Int)))) && ((((c.peers : Int) : Int) != (0 : Int)))) && ((inB (c.win) 0 2147483647))) && ((inB (c.out) 1 8))))) (b := ((((((inB (c.made) 0 4611686018427387904) && ((inB (c.life) 1 2147483648))) && ((((c.mine : Int) : Int) != (0 : Int)))) && ((((c.peers : Int) : Int) != (0 : Int)))) && ((inB (c.win) 0 2147483647))) && ((inB (c.out) 1 8)))) (want := true) hgb (want_t _) (fun hc => ?_) (fun hc => under_no hc)
      replace h1 := h1.get hc
      exact give_of (exec_get one3 rfl h1 (kv8 (hb1.ext hR))) ⟨Ext.refl _, under_yes hc⟩
    refine GoodAll.cons ?_ ?_
    · intro r wx hR hx
      obtain ⟨h1, h2, h3, h4, _⟩ := hx
      replace h1 : r (.func 25) = .func (.func 25) #[] #[] := h1
      replace h2 : Under ((((((((inB (c.made) 0 4611686018427387904) && ((inB (c.life) 1 2147483648))) && ((((c.mine : Int) : Int) != (0 : Int)))) && ((((c.peers : Int) : Int) != (0 : Int)))) && ((inB (c.win) 0 2147483647))) && ((inB (c.out) 1 8))))) (.int .i64 c.inn) wx (r (.tmp 33)) := h2
      replace h3 : r (.const (.int .i64 1)) = .int .i64 1 := h3
      replace h4 : r (.const (.int .i64 8)) = .int .i64 8 := h4
      intro gb hgb
      refine guard_u (C := (((((((inB (c.made) 0 4611686018427387904) && ((inB (c.life) 1 2147483648))) && ((((c.mine : Int) : Int) != (0 : Int)))) && ((((c.peers : Int) : Int) != (0 : Int)))) && ((inB (c.win) 0 2147483647))) && ((inB (c.out) 1 8))))) (b := ((((((inB (c.made) 0 4611686018427387904) && ((inB (c.life) 1 2147483648))) && ((((c.mine : Int) : Int) != (0 : Int)))) && ((((c.peers : Int) : Int) != (0 : Int)))) && ((inB (c.win) 0 2147483647))) && ((inB (c.out) 1 8)))) (want := true) hgb (want_t _) (fun hc => ?_) (fun hc => under_no hc)
      replace h2 := h2.get hc
      refine give_func #[.int .i64 c.inn, .int .i64 1, .int .i64 8] rfl h1 Tryd.call25 (by simp [h2, h3, h4]) ?_
      refine (within_any _ _ _ _).mono ?_
      rintro e wz ⟨rfl, hez⟩
      exact ⟨_, rfl, hez, under_yes hc⟩
    refine GoodAll.cons ?_ ?_
    · intro r wx hR hx
      obtain ⟨h1, h2, h3, _⟩ := hx
      replace h1 : r (.tmp 31) = .bool ((((((inB (c.made) 0 4611686018427387904) && ((inB (c.life) 1 2147483648))) && ((((c.mine : Int) : Int) != (0 : Int)))) && ((((c.peers : Int) : Int) != (0 : Int)))) && ((inB (c.win) 0 2147483647))) && ((inB (c.out) 1 8))) := h1
      replace h2 : Under ((((((((inB (c.made) 0 4611686018427387904) && ((inB (c.life) 1 2147483648))) && ((((c.mine : Int) : Int) != (0 : Int)))) && ((((c.peers : Int) : Int) != (0 : Int)))) && ((inB (c.win) 0 2147483647))) && ((inB (c.out) 1 8))))) (.bool (inB (c.inn) 1 8)) wx (r (.tmp 34)) := h2
      replace h3 : r (.const (.bool false)) = .bool false := h3
      exact give_and rfl h3 h1 (fun hb => h2.get (by first | exact hb | (rw [hc, hb]; rfl) | (rw [hb]; rfl))) ⟨Ext.refl _, rfl⟩
    refine GoodAll.cons ?_ ?_
    · intro r wx hR hx
      obtain ⟨h1, _⟩ := hx
      replace h1 : r (.tmp 35) = .bool (((((((inB (c.made) 0 4611686018427387904) && ((inB (c.life) 1 2147483648))) && ((((c.mine : Int) : Int) != (0 : Int)))) && ((((c.peers : Int) : Int) != (0 : Int)))) && ((inB (c.win) 0 2147483647))) && ((inB (c.out) 1 8))) && ((inB (c.inn) 1 8))) := h1
      exact give_move (.inl rfl) ⟨Ext.refl _, h1⟩
    refine GoodAll.cons ?_ ?_
    · intro r wx hR hx
      obtain ⟨h1, _⟩ := hx
      replace h1 : r (.tmp 1) = .pointer (some ⟨w.heap.size, 0, none⟩) := h1
      intro gb hgb
      refine guard_u (C := ((((((((inB (c.made) 0 4611686018427387904) && ((inB (c.life) 1 2147483648))) && ((((c.mine : Int) : Int) != (0 : Int)))) && ((((c.peers : Int) : Int) != (0 : Int)))) && ((inB (c.win) 0 2147483647))) && ((inB (c.out) 1 8))) && ((inB (c.inn) 1 8))))) (b := (((((((inB (c.made) 0 4611686018427387904) && ((inB (c.life) 1 2147483648))) && ((((c.mine : Int) : Int) != (0 : Int)))) && ((((c.peers : Int) : Int) != (0 : Int)))) && ((inB (c.win) 0 2147483647))) && ((inB (c.out) 1 8))) && ((inB (c.inn) 1 8)))) (want := true) hgb (want_t _) (fun hc => ?_) (fun hc => under_no hc)
      exact give_of (by simp [execOp, h1, go_sem]) ⟨Ext.refl _, under_yes hc⟩
    refine GoodAll.cons ?_ ?_
    · intro r wx hR hx
      obtain ⟨h1, _⟩ := hx
      replace h1 : Under (((((((((inB (c.made) 0 4611686018427387904) && ((inB (c.life) 1 2147483648))) && ((((c.mine : Int) : Int) != (0 : Int)))) && ((((c.peers : Int) : Int) != (0 : Int)))) && ((inB (c.win) 0 2147483647))) && ((inB (c.out) 1 8))) && ((inB (c.inn) 1 8))))) (.pointer (some ⟨w.heap.size, 9, none⟩)) wx (r (.tmp 37)) := h1
      intro gb hgb
      refine guard_u (C := ((((((((inB (c.made) 0 4611686018427387904) && ((inB (c.life) 1 2147483648))) && ((((c.mine : Int) : Int) != (0 : Int)))) && ((((c.peers : Int) : Int) != (0 : Int)))) && ((inB (c.win) 0 2147483647))) && ((inB (c.out) 1 8))) && ((inB (c.inn) 1 8))))) (b := (((((((inB (c.made) 0 4611686018427387904) && ((inB (c.life) 1 2147483648))) && ((((c.mine : Int) : Int) != (0 : Int)))) && ((((c.peers : Int) : Int) != (0 : Int)))) && ((inB (c.win) 0 2147483647))) && ((inB (c.out) 1 8))) && ((inB (c.inn) 1 8)))) (want := true) hgb (want_t _) (fun hc => ?_) (fun hc => under_no hc)
      replace h1 := h1.get hc
      exact give_of (exec_get oneSA rfl h1 (kv9 (hb1.ext hR))) ⟨Ext.refl _, under_yes hc⟩
    refine GoodAll.cons ?_ ?_
    · intro r wx hR hx
      obtain ⟨h1, h2, _⟩ := hx
      replace h1 : r (.func 26) = .func (.func 26) #[] #[] := h1
      replace h2 : Under (((((((((inB (c.made) 0 4611686018427387904) && ((inB (c.life) 1 2147483648))) && ((((c.mine : Int) : Int) != (0 : Int)))) && ((((c.peers : Int) : Int) != (0 : Int)))) && ((inB (c.win) 0 2147483647))) && ((inB (c.out) 1 8))) && ((inB (c.inn) 1 8))))) (.slice s.aA s.aN s.aC) wx (r (.tmp 38)) := h2
      intro gb hgb
      refine guard_u (C := ((((((((inB (c.made) 0 4611686018427387904) && ((inB (c.life) 1 2147483648))) && ((((c.mine : Int) : Int) != (0 : Int)))) && ((((c.peers : Int) : Int) != (0 : Int)))) && ((inB (c.win) 0 2147483647))) && ((inB (c.out) 1 8))) && ((inB (c.inn) 1 8))))) (b := (((((((inB (c.made) 0 4611686018427387904) && ((inB (c.life) 1 2147483648))) && ((((c.mine : Int) : Int) != (0 : Int)))) && ((((c.peers : Int) : Int) != (0 : Int)))) && ((inB (c.win) 0 2147483647))) && ((inB (c.out) 1 8))) && ((inB (c.inn) 1 8)))) (want := true) hgb (want_t _) (fun hc => ?_) (fun hc => under_no hc)
      replace h2 := h2.get hc
      refine give_func #[.slice s.aA s.aN s.aC] rfl h1 Tryd.call26 (by simp [h2]) ?_
      refine (areAddrs_any (HA.a.ext hR)).mono ?_
      rintro e wz ⟨rfl, hez⟩
      exact ⟨_, rfl, hez, under_yes hc⟩
    refine GoodAll.cons ?_ ?_
    · intro r wx hR hx
      obtain ⟨h1, h2, h3, _⟩ := hx
      replace h1 : r (.tmp 36) = .bool (((((((inB (c.made) 0 4611686018427387904) && ((inB (c.life) 1 2147483648))) && ((((c.mine : Int) : Int) != (0 : Int)))) && ((((c.peers : Int) : Int) != (0 : Int)))) && ((inB (c.win) 0 2147483647))) && ((inB (c.out) 1 8))) && ((inB (c.inn) 1 8))) := h1
      replace h2 : Under (((((((((inB (c.made) 0 4611686018427387904) && ((inB (c.life) 1 2147483648))) && ((((c.mine : Int) : Int) != (0 : Int)))) && ((((c.peers : Int) : Int) != (0 : Int)))) && ((inB (c.win) 0 2147483647))) && ((inB (c.out) 1 8))) && ((inB (c.inn) 1 8))))) (.bool (addrsB c.addrs)) wx (r (.tmp 39)) := h2
      replace h3 : r (.const (.bool false)) = .bool false := h3
      exact give_and rfl h3 h1 (fun hb => h2.get (by first | exact hb | (rw [hc, hb]; rfl) | (rw [hb]; rfl))) ⟨Ext.refl _, rfl⟩
    refine GoodAll.cons ?_ ?_
    · intro r wx hR hx
      obtain ⟨h1, _⟩ := hx
      replace h1 : r (.tmp 40) = .bool ((((((((inB (c.made) 0 4611686018427387904) && ((inB (c.life) 1 2147483648))) && ((((c.mine : Int) : Int) != (0 : Int)))) && ((((c.peers : Int) : Int) != (0 : Int)))) && ((inB (c.win) 0 2147483647))) && ((inB (c.out) 1 8))) && ((inB (c.inn) 1 8))) && ((addrsB c.addrs))) := h1
      exact give_move (.inl rfl) ⟨Ext.refl _, h1⟩
    refine GoodAll.cons ?_ ?_
    · intro r wx hR hx
      obtain ⟨h1, _⟩ := hx
      replace h1 : r (.tmp 1) = .pointer (some ⟨w.heap.size, 0, none⟩) := h1
      intro gb hgb
      refine guard_u (C := (((((((((inB (c.made) 0 4611686018427387904) && ((inB (c.life) 1 2147483648))) && ((((c.mine : Int) : Int) != (0 : Int)))) && ((((c.peers : Int) : Int) != (0 : Int)))) && ((inB (c.win) 0 2147483647))) && ((inB (c.out) 1 8))) && ((inB (c.inn) 1 8))) && ((addrsB c.addrs))))) (b := ((((((((inB (c.made) 0 4611686018427387904) && ((inB (c.life) 1 2147483648))) && ((((c.mine : Int) : Int) != (0 : Int)))) && ((((c.peers : Int) : Int) != (0 : Int)))) && ((inB (c.win) 0 2147483647))) && ((inB (c.out) 1 8))) && ((inB (c.inn) 1 8))) && ((addrsB c.addrs)))) (want := true) hgb (want_t _) (fun hc => ?_) (fun hc => under_no hc)
      exact give_of (by simp [execOp, h1, go_sem]) ⟨Ext.refl _, under_yes hc⟩
    refine GoodAll.cons ?_ ?_
    · intro r wx hR hx
      obtain ⟨h1, _⟩ := hx
      replace h1 : Under ((((((((((inB (c.made) 0 4611686018427387904) && ((inB (c.life) 1 2147483648))) && ((((c.mine : Int) : Int) != (0 : Int)))) && ((((c.peers : Int) : Int) != (0 : Int)))) && ((inB (c.win) 0 2147483647))) && ((inB (c.out) 1 8))) && ((inB (c.inn) 1 8))) && ((addrsB c.addrs))))) (.pointer (some ⟨w.heap.size, 10, none⟩)) wx (r (.tmp 42)) := h1
      intro gb hgb
      refine guard_u (C := (((((((((inB (c.made) 0 4611686018427387904) && ((inB (c.life) 1 2147483648))) && ((((c.mine : Int) : Int) != (0 : Int)))) && ((((c.peers : Int) : Int) != (0 : Int)))) && ((inB (c.win) 0 2147483647))) && ((inB (c.out) 1 8))) && ((inB (c.inn) 1 8))) && ((addrsB c.addrs))))) (b := ((((((((inB (c.made) 0 4611686018427387904) && ((inB (c.life) 1 2147483648))) && ((((c.mine : Int) : Int) != (0 : Int)))) && ((((c.peers : Int) : Int) != (0 : Int)))) && ((inB (c.win) 0 2147483647))) && ((inB (c.out) 1 8))) && ((inB (c.inn) 1 8))) && ((addrsB c.addrs)))) (want := true) hgb (want_t _) (fun hc => ?_) (fun hc => under_no hc)
      replace h1 := h1.get hc
      exact give_of (exec_get oneS rfl h1 (kv10 (hb1.ext hR))) ⟨Ext.refl _, under_yes hc⟩
    refine GoodAll.cons ?_ ?_
    · intro r wx hR hx
      obtain ⟨h1, h2, _⟩ := hx
      replace h1 : r (.func 27) = .func (.func 27) #[] #[] := h1
      replace h2 : Under ((((((((((inB (c.made) 0 4611686018427387904) && ((inB (c.life) 1 2147483648))) && ((((c.mine : Int) : Int) != (0 : Int)))) && ((((c.peers : Int) : Int) != (0 : Int)))) && ((inB (c.win) 0 2147483647))) && ((inB (c.out) 1 8))) && ((inB (c.inn) 1 8))) && ((addrsB c.addrs))))) (.slice s.mA s.mN s.mC) wx (r (.tmp 43)) := h2
      intro gb hgb
      refine guard_u (C := (((((((((inB (c.made) 0 4611686018427387904) && ((inB (c.life) 1 2147483648))) && ((((c.mine : Int) : Int) != (0 : Int)))) && ((((c.peers : Int) : Int) != (0 : Int)))) && ((inB (c.win) 0 2147483647))) && ((inB (c.out) 1 8))) && ((inB (c.inn) 1 8))) && ((addrsB c.addrs))))) (b := ((((((((inB (c.made) 0 4611686018427387904) && ((inB (c.life) 1 2147483648))) && ((((c.mine : Int) : Int) != (0 : Int)))) && ((((c.peers : Int) : Int) != (0 : Int)))) && ((inB (c.win) 0 2147483647))) && ((inB (c.out) 1 8))) && ((inB (c.inn) 1 8))) && ((addrsB c.addrs)))) (want := true) hgb (want_t _) (fun hc => ?_) (fun hc => under_no hc)
      replace h2 := h2.get hc
      refine give_func #[.slice s.mA s.mN s.mC] rfl h1 Tryd.call27 (by simp [h2]) ?_
      refine (isRandom_any (HA.m.ext hR)).mono ?_
      rintro e wz ⟨rfl, hez⟩
      exact ⟨_, rfl, hez, under_yes hc⟩
    refine GoodAll.cons ?_ ?_
    · intro r wx hR hx
      obtain ⟨h1, h2, h3, _⟩ := hx
      replace h1 : r (.tmp 41) = .bool ((((((((inB (c.made) 0 4611686018427387904) && ((inB (c.life) 1 2147483648))) && ((((c.mine : Int) : Int) != (0 : Int)))) && ((((c.peers : Int) : Int) != (0 : Int)))) && ((inB (c.win) 0 2147483647))) && ((inB (c.out) 1 8))) && ((inB (c.inn) 1 8))) && ((addrsB c.addrs))) := h1
      replace h2 : Under ((((((((((inB (c.made) 0 4611686018427387904) && ((inB (c.life) 1 2147483648))) && ((((c.mine : Int) : Int) != (0 : Int)))) && ((((c.peers : Int) : Int) != (0 : Int)))) && ((inB (c.win) 0 2147483647))) && ((inB (c.out) 1 8))) && ((inB (c.inn) 1 8))) && ((addrsB c.addrs))))) (.bool (randB c.mr)) wx (r (.tmp 44)) := h2
      replace h3 : r (.const (.bool false)) = .bool false := h3
      exact give_and rfl h3 h1 (fun hb => h2.get (by first | exact hb | (rw [hc, hb]; rfl) | (rw [hb]; rfl))) ⟨Ext.refl _, rfl⟩
    refine GoodAll.cons ?_ ?_
    · intro r wx hR hx
      obtain ⟨h1, _⟩ := hx
      replace h1 : r (.tmp 45) = .bool (((((((((inB (c.made) 0 4611686018427387904) && ((inB (c.life) 1 2147483648))) && ((((c.mine : Int) : Int) != (0 : Int)))) && ((((c.peers : Int) : Int) != (0 : Int)))) && ((inB (c.win) 0 2147483647))) && ((inB (c.out) 1 8))) && ((inB (c.inn) 1 8))) && ((addrsB c.addrs))) && ((randB c.mr))) := h1
      exact give_move (.inl rfl) ⟨Ext.refl _, h1⟩
    refine GoodAll.cons ?_ ?_
    · intro r wx hR hx
      obtain ⟨h1, _⟩ := hx
      replace h1 : r (.tmp 1) = .pointer (some ⟨w.heap.size, 0, none⟩) := h1
      intro gb hgb
      refine guard_u (C := ((((((((((inB (c.made) 0 4611686018427387904) && ((inB (c.life) 1 2147483648))) && ((((c.mine : Int) : Int) != (0 : Int)))) && ((((c.peers : Int) : Int) != (0 : Int)))) && ((inB (c.win) 0 2147483647))) && ((inB (c.out) 1 8))) && ((inB (c.inn) 1 8))) && ((addrsB c.addrs))) && ((randB c.mr))))) (b := (((((((((inB (c.made) 0 4611686018427387904) && ((inB (c.life) 1 2147483648))) && ((((c.mine : Int) : Int) != (0 : Int)))) && ((((c.peers : Int) : Int) != (0 : Int)))) && ((inB (c.win) 0 2147483647))) && ((inB (c.out) 1 8))) && ((inB (c.inn) 1 8))) && ((addrsB c.addrs))) && ((randB c.mr)))) (want := true) hgb (want_t _) (fun hc => ?_) (fun hc => under_no hc)
      exact give_of (by simp [execOp, h1, go_sem]) ⟨Ext.refl _, under_yes hc⟩
    refine GoodAll.cons ?_ ?_
    · intro r wx hR hx
      obtain ⟨h1, _⟩ := hx
      replace h1 : Under (((((((((((inB (c.made) 0 4611686018427387904) && ((inB (c.life) 1 2147483648))) && ((((c.mine : Int) : Int) != (0 : Int)))) && ((((c.peers : Int) : Int) != (0 : Int)))) && ((inB (c.win) 0 2147483647))) && ((inB (c.out) 1 8))) && ((inB (c.inn) 1 8))) && ((addrsB c.addrs))) && ((randB c.mr))))) (.pointer (some ⟨w.heap.size, 11, none⟩)) wx (r (.tmp 47)) := h1
      intro gb hgb
      refine guard_u (C := ((((((((((inB (c.made) 0 4611686018427387904) && ((inB (c.life) 1 2147483648))) && ((((c.mine : Int) : Int) != (0 : Int)))) && ((((c.peers : Int) : Int) != (0 : Int)))) && ((inB (c.win) 0 2147483647))) && ((inB (c.out) 1 8))) && ((inB (c.inn) 1 8))) && ((addrsB c.addrs))) && ((randB c.mr))))) (b := (((((((((inB (c.made) 0 4611686018427387904) && ((inB (c.life) 1 2147483648))) && ((((c.mine : Int) : Int) != (0 : Int)))) && ((((c.peers : Int) : Int) != (0 : Int)))) && ((inB (c.win) 0 2147483647))) && ((inB (c.out) 1 8))) && ((inB (c.inn) 1 8))) && ((addrsB c.addrs))) && ((randB c.mr)))) (want := true) hgb (want_t _) (fun hc => ?_) (fun hc => under_no hc)
      replace h1 := h1.get hc
      exact give_of (exec_get oneS rfl h1 (kv11 (hb1.ext hR))) ⟨Ext.refl _, under_yes hc⟩
    refine GoodAll.cons ?_ ?_
    · intro r wx hR hx
      obtain ⟨h1, h2, _⟩ := hx
      replace h1 : r (.func 27) = .func (.func 27) #[] #[] := h1
      replace h2 : Under (((((((((((inB (c.made) 0 4611686018427387904) && ((inB (c.life) 1 2147483648))) && ((((c.mine : Int) : Int) != (0 : Int)))) && ((((c.peers : Int) : Int) != (0 : Int)))) && ((inB (c.win) 0 2147483647))) && ((inB (c.out) 1 8))) && ((inB (c.inn) 1 8))) && ((addrsB c.addrs))) && ((randB c.mr))))) (.slice s.pA s.pN s.pC) wx (r (.tmp 48)) := h2
      intro gb hgb
      refine guard_u (C := ((((((((((inB (c.made) 0 4611686018427387904) && ((inB (c.life) 1 2147483648))) && ((((c.mine : Int) : Int) != (0 : Int)))) && ((((c.peers : Int) : Int) != (0 : Int)))) && ((inB (c.win) 0 2147483647))) && ((inB (c.out) 1 8))) && ((inB (c.inn) 1 8))) && ((addrsB c.addrs))) && ((randB c.mr))))) (b := (((((((((inB (c.made) 0 4611686018427387904) && ((inB (c.life) 1 2147483648))) && ((((c.mine : Int) : Int) != (0 : Int)))) && ((((c.peers : Int) : Int) != (0 : Int)))) && ((inB (c.win) 0 2147483647))) && ((inB (c.out) 1 8))) && ((inB (c.inn) 1 8))) && ((addrsB c.addrs))) && ((randB c.mr)))) (want := true) hgb (want_t _) (fun hc => ?_) (fun hc => under_no hc)
      replace h2 := h2.get hc
      refine give_func #[.slice s.pA s.pN s.pC] rfl h1 Tryd.call27 (by simp [h2]) ?_
      refine (isRandom_any (HA.p.ext hR)).mono ?_
      rintro e wz ⟨rfl, hez⟩
      exact ⟨_, rfl, hez, under_yes hc⟩
    refine GoodAll.cons ?_ ?_
    · intro r wx hR hx
      obtain ⟨h1, h2, h3, _⟩ := hx
      replace h1 : r (.tmp 46) = .bool (((((((((inB (c.made) 0 4611686018427387904) && ((inB (c.life) 1 2147483648))) && ((((c.mine : Int) : Int) != (0 : Int)))) && ((((c.peers : Int) : Int) != (0 : Int)))) && ((inB (c.win) 0 2147483647))) && ((inB (c.out) 1 8))) && ((inB (c.inn) 1 8))) && ((addrsB c.addrs))) && ((randB c.mr))) := h1
      replace h2 : Under (((((((((((inB (c.made) 0 4611686018427387904) && ((inB (c.life) 1 2147483648))) && ((((c.mine : Int) : Int) != (0 : Int)))) && ((((c.peers : Int) : Int) != (0 : Int)))) && ((inB (c.win) 0 2147483647))) && ((inB (c.out) 1 8))) && ((inB (c.inn) 1 8))) && ((addrsB c.addrs))) && ((randB c.mr))))) (.bool (randB c.pr)) wx (r (.tmp 49)) := h2
      replace h3 : r (.const (.bool false)) = .bool false := h3
      exact give_and rfl h3 h1 (fun hb => h2.get (by first | exact hb | (rw [hc, hb]; rfl) | (rw [hb]; rfl))) ⟨Ext.refl _, rfl⟩
    refine GoodAll.cons ?_ ?_
    · intro r wx hR hx
      obtain ⟨h1, _⟩ := hx
      replace h1 : r (.tmp 50) = .bool ((((((((((inB (c.made) 0 4611686018427387904) && ((inB (c.life) 1 2147483648))) && ((((c.mine : Int) : Int) != (0 : Int)))) && ((((c.peers : Int) : Int) != (0 : Int)))) && ((inB (c.win) 0 2147483647))) && ((inB (c.out) 1 8))) && ((inB (c.inn) 1 8))) && ((addrsB c.addrs))) && ((randB c.mr))) && ((randB c.pr))) := h1
      exact give_move (.inr rfl) ⟨Ext.refl _, h1⟩
    exact GoodAll.nil
  · intro vs wE aE hR hold haE
    have hv : vs 48 = .bool ((((((((((inB (c.made) 0 4611686018427387904) && ((inB (c.life) 1 2147483648))) && ((((c.mine : Int) : Int) != (0 : Int)))) && ((((c.peers : Int) : Int) != (0 : Int)))) && ((inB (c.win) 0 2147483647))) && ((inB (c.out) 1 8))) && ((inB (c.inn) 1 8))) && ((addrsB c.addrs))) && ((randB c.mr))) && ((randB c.pr))) := hold.at 48
    refine ‹∀ (a : Act) (w : World), Code.wp Tryd.prog Code.ret _ a w → _› _ _ ?_
    refine wp_ret ?_
    have hs : aE.tmps[2]? = some (.bool ((((((((((inB (c.made) 0 4611686018427387904) && ((inB (c.life) 1 2147483648))) && ((((c.mine : Int) : Int) != (0 : Int)))) && ((((c.peers : Int) : Int) != (0 : Int)))) && ((inB (c.win) 0 2147483647))) && ((inB (c.out) 1 8))) && ((inB (c.inn) 1 8))) && ((addrsB c.addrs))) && ((randB c.mr))) && ((randB c.pr)))) := by rw [haE, ← hv]; kernel_rfl
    have hdf : aE.defers = [] := by rw [haE]; exact putAll_defers _ _ _ _
    clear haE
    refine bodyPost_ret (v := .bool ((((((((((inB (c.made) 0 4611686018427387904) && ((inB (c.life) 1 2147483648))) && ((((c.mine : Int) : Int) != (0 : Int)))) && ((((c.peers : Int) : Int) != (0 : Int)))) && ((inB (c.win) 0 2147483647))) && ((inB (c.out) 1 8))) && ((inB (c.inn) 1 8))) && ((addrsB c.addrs))) && ((randB c.mr))) && ((randB c.pr)))) ?_ hdf ⟨rfl, he1.trans hR⟩
    simp [results, Tryd.results12, go_sem, hs]
end Tlv
end Go.Proofs.YtfhoielfekeihaaDoor
