/- Texts of the seat, one behind the other. No condition of its own. -/
import Derived.Test.YtfhoielfekeihaaDoorMgS6
/- Cookies that are the same, by the program. No condition of its own. -/
namespace Go.Proofs.YtfhoielfekeihaaDoor
namespace Tlv
open Go Go.RowKit
set_option linter.unusedVariables false
set_option linter.unusedSimpArgs false
set_option maxRecDepth 100000


def sameK (c d : Co) : Bool := (((((((((((((((c.made : Int) == (d.made : Int)) && (((c.life : Int) == (d.life : Int)))) && ((((c.mine : Int) : Int) == ((d.mine : Int) : Int)))) && ((((c.peers : Int) : Int) == ((d.peers : Int) : Int)))) && ((((c.mtsn : Int) : Int) == ((d.mtsn : Int) : Int)))) && ((((c.ptsn : Int) : Int) == ((d.ptsn : Int) : Int)))) && (((c.win : Int) == (d.win : Int)))) && (((c.out : Int) == (d.out : Int)))) && (((c.inn : Int) == (d.inn : Int)))) && ((decide (c.addrs = d.addrs)))) && ((decide (c.mr = d.mr)))) && ((decide (c.pr = d.pr)))) && ((((c.tm : Int) : Int) == ((d.tm : Int) : Int)))) && ((((c.tp : Int) : Int) == ((d.tp : Int) : Int))))
set_option maxHeartbeats 8000000 in
theorem sameK_any {w : World} {c d : Co} {s u : So} (ha : CoAt w s c) (hb : CoAt w u d) :
    Calls Tryd.prog 20 #[.agg (KV c s), .agg (KV d u)] w fun e w' => e = .returned (.bool (sameK c d)) ∧ Ext w w' := by
  unfold sameK
  go_enter Tryd.func20, Tryd.ntmps20
  refine wp_seq_k (fun K hK => ?_)
  have HK := Stop.mk hK
  clear hK
  go_wp2_with (first
    | (have q := he1; clear q; refine wl_box (C := KV d u) rfl rfl rfl ?_; intro w2 hb2 he2 hx; clear hx; have hb1' := hb1.ext he2)
    | (refine wl_box (C := KV c s) rfl rfl rfl ?_; intro w1 hb1 he1 hx; clear hx))
  refine HK.go _ _ ?_
  refine wp_seq_k (fun K2 hK2 => ?_)
  have HA := ha.ext (he1.trans he2)
  have HB := hb.ext (he1.trans he2)
  refine wp_line (fun t => bif Nat.ble 5 t && Nat.ble t 100 then some (t - 5) else bif Nat.beq t 4 then some 96 else none) 101 Ext
    [Is (.pointer (some ⟨w.heap.size, 0, none⟩)),
     Is (.int .i64 c.made),
     Is (.pointer (some ⟨w1.heap.size, 0, none⟩)),
     Is (.int .i64 d.made),
     Is (.bool ((c.made : Int) == (d.made : Int))),
     Is (.bool ((c.made : Int) == (d.made : Int))),
     Under ((((c.made : Int) == (d.made : Int)))) (.pointer (some ⟨w.heap.size, 1, none⟩)),
     Under ((((c.made : Int) == (d.made : Int)))) (.int .i64 c.life),
     Under ((((c.made : Int) == (d.made : Int)))) (.pointer (some ⟨w1.heap.size, 1, none⟩)),
     Under ((((c.made : Int) == (d.made : Int)))) (.int .i64 d.life),
     Under ((((c.made : Int) == (d.made : Int)))) (.bool ((c.life : Int) == (d.life : Int))),
     Is (.bool (((c.made : Int) == (d.made : Int)) && (((c.life : Int) == (d.life : Int))))),
     Is (.bool (((c.made : Int) == (d.made : Int)) && (((c.life : Int) == (d.life : Int))))),
     Under (((((c.made : Int) == (d.made : Int)) && (((c.life : Int) == (d.life : Int)))))) (.pointer (some ⟨w.heap.size, 2, none⟩)),
     Under (((((c.made : Int) == (d.made : Int)) && (((c.life : Int) == (d.life : Int)))))) (.int .u32 (c.mine : Int)),
     Under (((((c.made : Int) == (d.made : Int)) && (((c.life : Int) == (d.life : Int)))))) (.pointer (some ⟨w1.heap.size, 2, none⟩)),
     Under (((((c.made : Int) == (d.made : Int)) && (((c.life : Int) == (d.life : Int)))))) (.int .u32 (d.mine : Int)),
     Under (((((c.made : Int) == (d.made : Int)) && (((c.life : Int) == (d.life : Int)))))) (.bool (((c.mine : Int) : Int) == ((d.mine : Int) : Int))),
     Is (.bool ((((c.made : Int) == (d.made : Int)) && (((c.life : Int) == (d.life : Int)))) && ((((c.mine : Int) : Int) == ((d.mine : Int) : Int))))),
     Is (.bool ((((c.made : Int) == (d.made : Int)) && (((c.life : Int) == (d.life : Int)))) && ((((c.mine : Int) : Int) == ((d.mine : Int) : Int))))),
     Under ((((((c.made : Int) == (d.made : Int)) && (((c.life : Int) == (d.life : Int)))) && ((((c.mine : Int) : Int) == ((d.mine : Int) : Int)))))) (.pointer (some ⟨w.heap.size, 3, none⟩)),
     Under ((((((c.made : Int) == (d.made : Int)) && (((c.life : Int) == (d.life : Int)))) && ((((c.mine : Int) : Int) == ((d.mine : Int) : Int)))))) (.int .u32 (c.peers : Int)),
     Under ((((((c.made : Int) == (d.made : Int)) && (((c.life : Int) == (d.life : Int)))) && ((((c.mine : Int) : Int) == ((d.mine : Int) : Int)))))) (.pointer (some ⟨w1.heap.size, 3, none⟩)),
     Under ((((((c.made : Int) == (d.made : Int)) && (((c.life : Int) == (d.life : Int)))) && ((((c.mine : Int) : Int) == ((d.mine : Int) : Int)))))) (.int .u32 (d.peers : Int)),
     Under ((((((c.made : Int) == (d.made : Int)) && (((c.life : Int) == (d.life : Int)))) && ((((c.mine : Int) : Int) == ((d.mine : Int) : Int)))))) (.bool (((c.peers : Int) : Int) == ((d.peers : Int) : Int))),
     Is (.bool (((((c.made : Int) == (d.made : Int)) && (((c.life : Int) == (d.life : Int)))) && ((((c.mine : Int) : Int) == ((d.mine : Int) : Int)))) && ((((c.peers : Int) : Int) == ((d.peers : Int) : Int))))),
     Is (.bool (((((c.made : Int) == (d.made : Int)) && (((c.life : Int) == (d.life : Int)))) && ((((c.mine : Int) : Int) == ((d.mine : Int) : Int)))) && ((((c.peers : Int) : Int) == ((d.peers : Int) : Int))))),
     Under (((((((c.made : Int) == (d.made : Int)) && (((c.life : Int) == (d.life : Int)))) && ((((c.mine : Int) : Int) == ((d.mine : Int) : Int)))) && ((((c.peers : Int) : Int) == ((d.peers : Int) : Int)))))) (.pointer (some ⟨w.heap.size, 4, none⟩)),
     Under (((((((c.made : Int) == (d.made : Int)) && (((c.life : Int) == (d.life : Int)))) && ((((c.mine : Int) : Int) == ((d.mine : Int) : Int)))) && ((((c.peers : Int) : Int) == ((d.peers : Int) : Int)))))) (.int .u32 (c.mtsn : Int)),
     Under (((((((c.made : Int) == (d.made : Int)) && (((c.life : Int) == (d.life : Int)))) && ((((c.mine : Int) : Int) == ((d.mine : Int) : Int)))) && ((((c.peers : Int) : Int) == ((d.peers : Int) : Int)))))) (.pointer (some ⟨w1.heap.size, 4, none⟩)),
     Under (((((((c.made : Int) == (d.made : Int)) && (((c.life : Int) == (d.life : Int)))) && ((((c.mine : Int) : Int) == ((d.mine : Int) : Int)))) && ((((c.peers : Int) : Int) == ((d.peers : Int) : Int)))))) (.int .u32 (d.mtsn : Int)),
     Under (((((((c.made : Int) == (d.made : Int)) && (((c.life : Int) == (d.life : Int)))) && ((((c.mine : Int) : Int) == ((d.mine : Int) : Int)))) && ((((c.peers : Int) : Int) == ((d.peers : Int) : Int)))))) (.bool (((c.mtsn : Int) : Int) == ((d.mtsn : Int) : Int))),
     Is (.bool ((((((c.made : Int) == (d.made : Int)) && (((c.life : Int) == (d.life : Int)))) && ((((c.mine : Int) : Int) == ((d.mine : Int) : Int)))) && ((((c.peers : Int) : Int) == ((d.peers : Int) : Int)))) && ((((c.mtsn : Int) : Int) == ((d.mtsn : Int) : Int))))),
     Is (.bool ((((((c.made : Int) == (d.made : Int)) && (((c.life : Int) == (d.life : Int)))) && ((((c.mine : Int) : Int) == ((d.mine : Int) : Int)))) && ((((c.peers : Int) : Int) == ((d.peers : Int) : Int)))) && ((((c.mtsn : Int) : Int) == ((d.mtsn : Int) : Int))))),
     Under ((((((((c.made : Int) == (d.made : Int)) && (((c.life : Int) == (d.life : Int)))) && ((((c.mine : Int) : Int) == ((d.mine : Int) : Int)))) && ((((c.peers : Int) : Int) == ((d.peers : Int) : Int)))) && ((((c.mtsn : Int) : Int) == ((d.mtsn : Int) : Int)))))) (.pointer (some ⟨w.heap.size, 5, none⟩)),
     Under ((((((((c.made : Int) == (d.made : Int)) && (((c.life : Int) == (d.life : Int)))) && ((((c.mine : Int) : Int) == ((d.mine : Int) : Int)))) && ((((c.peers : Int) : Int) == ((d.peers : Int) : Int)))) && ((((c.mtsn : Int) : Int) == ((d.mtsn : Int) : Int)))))) (.int .u32 (c.ptsn : Int)),
     Under ((((((((c.made : Int) == (d.made : Int)) && (((c.life : Int) == (d.life : Int)))) && ((((c.mine : Int) : Int) == ((d.mine : Int) : Int)))) && ((((c.peers : Int) : Int) == ((d.peers : Int) : Int)))) && ((((c.mtsn : Int) : Int) == ((d.mtsn : Int) : Int)))))) (.pointer (some ⟨w1.heap.size, 5, none⟩)),
     Under ((((((((c.made : Int) == (d.made : Int)) && (((c.life : Int) == (d.life : Int)))) && ((((c.mine : Int) : Int) == ((d.mine : Int) : Int)))) && ((((c.peers : Int) : Int) == ((d.peers : Int) : Int)))) && ((((c.mtsn : Int) : Int) == ((d.mtsn : Int) : Int)))))) (.int .u32 (d.ptsn : Int)),
     Under ((((((((c.made : Int) == (d.made : Int)) && (((c.life : Int) == (d.life : Int)))) && ((((c.mine : Int) : Int) == ((d.mine : Int) : Int)))) && ((((c.peers : Int) : Int) == ((d.peers : Int) : Int)))) && ((((c.mtsn : Int) : Int) == ((d.mtsn : Int) : Int)))))) (.bool (((c.ptsn : Int) : Int) == ((d.ptsn : Int) : Int))),
     Is (.bool (((((((c.made : Int) == (d.made : Int)) && (((c.life : Int) == (d.life : Int)))) && ((((c.mine : Int) : Int) == ((d.mine : Int) : Int)))) && ((((c.peers : Int) : Int) == ((d.peers : Int) : Int)))) && ((((c.mtsn : Int) : Int) == ((d.mtsn : Int) : Int)))) && ((((c.ptsn : Int) : Int) == ((d.ptsn : Int) : Int))))),
     Is (.bool (((((((c.made : Int) == (d.made : Int)) && (((c.life : Int) == (d.life : Int)))) && ((((c.mine : Int) : Int) == ((d.mine : Int) : Int)))) && ((((c.peers : Int) : Int) == ((d.peers : Int) : Int)))) && ((((c.mtsn : Int) : Int) == ((d.mtsn : Int) : Int)))) && ((((c.ptsn : Int) : Int) == ((d.ptsn : Int) : Int))))),
     Under (((((((((c.made : Int) == (d.made : Int)) && (((c.life : Int) == (d.life : Int)))) && ((((c.mine : Int) : Int) == ((d.mine : Int) : Int)))) && ((((c.peers : Int) : Int) == ((d.peers : Int) : Int)))) && ((((c.mtsn : Int) : Int) == ((d.mtsn : Int) : Int)))) && ((((c.ptsn : Int) : Int) == ((d.ptsn : Int) : Int)))))) (.pointer (some ⟨w.heap.size, 6, none⟩)),
     Under (((((((((c.made : Int) == (d.made : Int)) && (((c.life : Int) == (d.life : Int)))) && ((((c.mine : Int) : Int) == ((d.mine : Int) : Int)))) && ((((c.peers : Int) : Int) == ((d.peers : Int) : Int)))) && ((((c.mtsn : Int) : Int) == ((d.mtsn : Int) : Int)))) && ((((c.ptsn : Int) : Int) == ((d.ptsn : Int) : Int)))))) (.int .i64 c.win),
     Under (((((((((c.made : Int) == (d.made : Int)) && (((c.life : Int) == (d.life : Int)))) && ((((c.mine : Int) : Int) == ((d.mine : Int) : Int)))) && ((((c.peers : Int) : Int) == ((d.peers : Int) : Int)))) && ((((c.mtsn : Int) : Int) == ((d.mtsn : Int) : Int)))) && ((((c.ptsn : Int) : Int) == ((d.ptsn : Int) : Int)))))) (.pointer (some ⟨w1.heap.size, 6, none⟩)),
     Under (((((((((c.made : Int) == (d.made : Int)) && (((c.life : Int) == (d.life : Int)))) && ((((c.mine : Int) : Int) == ((d.mine : Int) : Int)))) && ((((c.peers : Int) : Int) == ((d.peers : Int) : Int)))) && ((((c.mtsn : Int) : Int) == ((d.mtsn : Int) : Int)))) && ((((c.ptsn : Int) : Int) == ((d.ptsn : Int) : Int)))))) (.int .i64 d.win),
     Under (((((((((c.made : Int) == (d.made : Int)) && (((c.life : Int) == (d.life : Int)))) && ((((c.mine : Int) : Int) == ((d.mine : Int) : Int)))) && ((((c.peers : Int) : Int) == ((d.peers : Int) : Int)))) && ((((c.mtsn : Int) : Int) == ((d.mtsn : Int) : Int)))) && ((((c.ptsn : Int) : Int) == ((d.ptsn : Int) : Int)))))) (.bool ((c.win : Int) == (d.win : Int))),
     Is (.bool ((((((((c.made : Int) == (d.made : Int)) && (((c.life : Int) == (d.life : Int)))) && ((((c.mine : Int) : Int) == ((d.mine : Int) : Int)))) && ((((c.peers : Int) : Int) == ((d.peers : Int) : Int)))) && ((((c.mtsn : Int) : Int) == ((d.mtsn : Int) : Int)))) && ((((c.ptsn : Int) : Int) == ((d.ptsn : Int) : Int)))) && (((c.win : Int) == (d.win : Int))))),
     Is (.bool ((((((((c.made : Int) == (d.made : Int)) && (((c.life : Int) == (d.life : Int)))) && ((((c.mine : Int) : Int) == ((d.mine : Int) : Int)))) && ((((c.peers : Int) : Int) == ((d.peers : Int) : Int)))) && ((((c.mtsn : Int) : Int) == ((d.mtsn : Int) : Int)))) && ((((c.ptsn : Int) : Int) == ((d.ptsn : Int) : Int)))) && (((c.win : Int) == (d.win : Int))))),
     Under ((((((((((c.made : Int) == (d.made : Int)) && (((c.life : Int) == (d.life : Int)))) && ((((c.mine : Int) : Int) == ((d.mine : Int) : Int)))) && ((((c.peers : Int) : Int) == ((d.peers : Int) : Int)))) && ((((c.mtsn : Int) : Int) == ((d.mtsn : Int) : Int)))) && ((((c.ptsn : Int) : Int) == ((d.ptsn : Int) : Int)))) && (((c.win : Int) == (d.win : Int)))))) (.pointer (some ⟨w.heap.size, 7, none⟩)),
     Under ((((((((((c.made : Int) == (d.made : Int)) && (((c.life : Int) == (d.life : Int)))) && ((((c.mine : Int) : Int) == ((d.mine : Int) : Int)))) && ((((c.peers : Int) : Int) == ((d.peers : Int) : Int)))) && ((((c.mtsn : Int) : Int) == ((d.mtsn : Int) : Int)))) && ((((c.ptsn : Int) : Int) == ((d.ptsn : Int) : Int)))) && (((c.win : Int) == (d.win : Int)))))) (.int .i64 c.out),
     Under ((((((((((c.made : Int) == (d.made : Int)) && (((c.life : Int) == (d.life : Int)))) && ((((c.mine : Int) : Int) == ((d.mine : Int) : Int)))) && ((((c.peers : Int) : Int) == ((d.peers : Int) : Int)))) && ((((c.mtsn : Int) : Int) == ((d.mtsn : Int) : Int)))) && ((((c.ptsn : Int) : Int) == ((d.ptsn : Int) : Int)))) && (((c.win : Int) == (d.win : Int)))))) (.pointer (some ⟨w1.heap.size, 7, none⟩)),
     Under ((((((((((c.made : Int) == (d.made : Int)) && (((c.life : Int) == (d.life : Int)))) && ((((c.mine : Int) : Int) == ((d.mine : Int) : Int)))) && ((((c.peers : Int) : Int) == ((d.peers : Int) : Int)))) && ((((c.mtsn : Int) : Int) == ((d.mtsn : Int) : Int)))) && ((((c.ptsn : Int) : Int) == ((d.ptsn : Int) : Int)))) && (((c.win : Int) == (d.win : Int)))))) (.int .i64 d.out),
     Under ((((((((((c.made : Int) == (d.made : Int)) && (((c.life : Int) == (d.life : Int)))) && ((((c.mine : Int) : Int) == ((d.mine : Int) : Int)))) && ((((c.peers : Int) : Int) == ((d.peers : Int) : Int)))) && ((((c.mtsn : Int) : Int) == ((d.mtsn : Int) : Int)))) && ((((c.ptsn : Int) : Int) == ((d.ptsn : Int) : Int)))) && (((c.win : Int) == (d.win : Int)))))) (.bool ((c.out : Int) == (d.out : Int))),
     Is (.bool (((((((((c.made : Int) == (d.made : Int)) && (((c.life : Int) == (d.life : Int)))) && ((((c.mine : Int) : Int) == ((d.mine : Int) : Int)))) && ((((c.peers : Int) : Int) == ((d.peers : Int) : Int)))) && ((((c.mtsn : Int) : Int) == ((d.mtsn : Int) : Int)))) && ((((c.ptsn : Int) : Int) == ((d.ptsn : Int) : Int)))) && (((c.win : Int) == (d.win : Int)))) && (((c.out : Int) == (d.out : Int))))),
     Is (.bool (((((((((c.made : Int) == (d.made : Int)) && (((c.life : Int) == (d.life : Int)))) && ((((c.mine : Int) : Int) == ((d.mine : Int) : Int)))) && ((((c.peers : Int) : Int) == ((d.peers : Int) : Int)))) && ((((c.mtsn : Int) : Int) == ((d.mtsn : Int) : Int)))) && ((((c.ptsn : Int) : Int) == ((d.ptsn : Int) : Int)))) && (((c.win : Int) == (d.win : Int)))) && (((c.out : Int) == (d.out : Int))))),
     Under (((((((((((c.made : Int) == (d.made : Int)) && (((c.life : Int) == (d.life : Int)))) && ((((c.mine : Int) : Int) == ((d.mine : Int) : Int)))) && ((((c.peers : Int) : Int) == ((d.peers : Int) : Int)))) && ((((c.mtsn : Int) : Int) == ((d.mtsn : Int) : Int)))) && ((((c.ptsn : Int) : Int) == ((d.ptsn : Int) : Int)))) && (((c.win : Int) == (d.win : Int)))) && (((c.out : Int) == (d.out : Int)))))) (.pointer (some ⟨w.heap.size, 8, none⟩)),
     Under (((((((((((c.made : Int) == (d.made : Int)) && (((c.life : Int) == (d.life : Int)))) && ((((c.mine : Int) : Int) == ((d.mine : Int) : Int)))) && ((((c.peers : Int) : Int) == ((d.peers : Int) : Int)))) && ((((c.mtsn : Int) : Int) == ((d.mtsn : Int) : Int)))) && ((((c.ptsn : Int) : Int) == ((d.ptsn : Int) : Int)))) && (((c.win : Int) == (d.win : Int)))) && (((c.out : Int) == (d.out : Int)))))) (.int .i64 c.inn),
     Under (((((((((((c.made : Int) == (d.made : Int)) && (((c.life : Int) == (d.life : Int)))) && ((((c.mine : Int) : Int) == ((d.mine : Int) : Int)))) && ((((c.peers : Int) : Int) == ((d.peers : Int) : Int)))) && ((((c.mtsn : Int) : Int) == ((d.mtsn : Int) : Int)))) && ((((c.ptsn : Int) : Int) == ((d.ptsn : Int) : Int)))) && (((c.win : Int) == (d.win : Int)))) && (((c.out : Int) == (d.out : Int)))))) (.pointer (some ⟨w1.heap.size, 8, none⟩)),
     Under (((((((((((c.made : Int) == (d.made : Int)) && (((c.life : Int) == (d.life : Int)))) && ((((c.mine : Int) : Int) == ((d.mine : Int) : Int)))) && ((((c.peers : Int) : Int) == ((d.peers : Int) : Int)))) && ((((c.mtsn : Int) : Int) == ((d.mtsn : Int) : Int)))) && ((((c.ptsn : Int) : Int) == ((d.ptsn : Int) : Int)))) && (((c.win : Int) == (d.win : Int)))) && (((c.out : Int) == (d.out : Int)))))) (.int .i64 d.inn),
     Under (((((((((((c.made : Int) == (d.made : Int)) && (((c.life : Int) == (d.life : Int)))) && ((((c.mine : Int) : Int) == ((d.mine : Int) : Int)))) && ((((c.peers : Int) : Int) == ((d.peers : Int) : Int)))) && ((((c.mtsn : Int) : Int) == ((d.mtsn : Int) : Int)))) && ((((c.ptsn : Int) : Int) == ((d.ptsn : Int) : Int)))) && (((c.win : Int) == (d.win : Int)))) && (((c.out : Int) == (d.out : Int)))))) (.bool ((c.inn : Int) == (d.inn : Int))),
     Is (.bool ((((((((((c.made : Int) == (d.made : Int)) && (((c.life : Int) == (d.life : Int)))) && ((((c.mine : Int) : Int) == ((d.mine : Int) : Int)))) && ((((c.peers : Int) : Int) == ((d.peers : Int) : Int)))) && ((((c.mtsn : Int) : Int) == ((d.mtsn : Int) : Int)))) && ((((c.ptsn : Int) : Int) == ((d.ptsn : Int) : Int)))) && (((c.win : Int) == (d.win : Int)))) && (((c.out : Int) == (d.out : Int)))) && (((c.inn : Int) == (d.inn : Int))))),
     Is (.bool ((((((((((c.made : Int) == (d.made : Int)) && (((c.life : Int) == (d.life : Int)))) && ((((c.mine : Int) : Int) == ((d.mine : Int) : Int)))) && ((((c.peers : Int) : Int) == ((d.peers : Int) : Int)))) && ((((c.mtsn : Int) : Int) == ((d.mtsn : Int) : Int)))) && ((((c.ptsn : Int) : Int) == ((d.ptsn : Int) : Int)))) && (((c.win : Int) == (d.win : Int)))) && (((c.out : Int) == (d.out : Int)))) && (((c.inn : Int) == (d.inn : Int))))),
     Under ((((((((((((c.made : Int) == (d.made : Int)) && (((c.life : Int) == (d.life : Int)))) && ((((c.mine : Int) : Int) == ((d.mine : Int) : Int)))) && ((((c.peers : Int) : Int) == ((d.peers : Int) : Int)))) && ((((c.mtsn : Int) : Int) == ((d.mtsn : Int) : Int)))) && ((((c.ptsn : Int) : Int) == ((d.ptsn : Int) : Int)))) && (((c.win : Int) == (d.win : Int)))) && (((c.out : Int) == (d.out : Int)))) && (((c.inn : Int) == (d.inn : Int)))))) (.pointer (some ⟨w.heap.size, 9, none⟩)),
     Under ((((((((((((c.made : Int) == (d.made : Int)) && (((c.life : Int) == (d.life : Int)))) && ((((c.mine : Int) : Int) == ((d.mine : Int) : Int)))) && ((((c.peers : Int) : Int) == ((d.peers : Int) : Int)))) && ((((c.mtsn : Int) : Int) == ((d.mtsn : Int) : Int)))) && ((((c.ptsn : Int) : Int) == ((d.ptsn : Int) : Int)))) && (((c.win : Int) == (d.win : Int)))) && (((c.out : Int) == (d.out : Int)))) && (((c.inn : Int) == (d.inn : Int)))))) (.slice s.aA s.aN s.aC),
     Under ((((((((((((c.made : Int) == (d.made : Int)) && (((c.life : Int) == (d.life : Int)))) && ((((c.mine : Int) : Int) == ((d.mine : Int) : Int)))) && ((((c.peers : Int) : Int) == ((d.peers : Int) : Int)))) && ((((c.mtsn : Int) : Int) == ((d.mtsn : Int) : Int)))) && ((((c.ptsn : Int) : Int) == ((d.ptsn : Int) : Int)))) && (((c.win : Int) == (d.win : Int)))) && (((c.out : Int) == (d.out : Int)))) && (((c.inn : Int) == (d.inn : Int)))))) (.pointer (some ⟨w1.heap.size, 9, none⟩)),
     Under ((((((((((((c.made : Int) == (d.made : Int)) && (((c.life : Int) == (d.life : Int)))) && ((((c.mine : Int) : Int) == ((d.mine : Int) : Int)))) && ((((c.peers : Int) : Int) == ((d.peers : Int) : Int)))) && ((((c.mtsn : Int) : Int) == ((d.mtsn : Int) : Int)))) && ((((c.ptsn : Int) : Int) == ((d.ptsn : Int) : Int)))) && (((c.win : Int) == (d.win : Int)))) && (((c.out : Int) == (d.out : Int)))) && (((c.inn : Int) == (d.inn : Int)))))) (.slice u.aA u.aN u.aC),
     Under ((((((((((((c.made : Int) == (d.made : Int)) && (((c.life : Int) == (d.life : Int)))) && ((((c.mine : Int) : Int) == ((d.mine : Int) : Int)))) && ((((c.peers : Int) : Int) == ((d.peers : Int) : Int)))) && ((((c.mtsn : Int) : Int) == ((d.mtsn : Int) : Int)))) && ((((c.ptsn : Int) : Int) == ((d.ptsn : Int) : Int)))) && (((c.win : Int) == (d.win : Int)))) && (((c.out : Int) == (d.out : Int)))) && (((c.inn : Int) == (d.inn : Int)))))) (.bool (decide (c.addrs = d.addrs))),
     Is (.bool (((((((((((c.made : Int) == (d.made : Int)) && (((c.life : Int) == (d.life : Int)))) && ((((c.mine : Int) : Int) == ((d.mine : Int) : Int)))) && ((((c.peers : Int) : Int) == ((d.peers : Int) : Int)))) && ((((c.mtsn : Int) : Int) == ((d.mtsn : Int) : Int)))) && ((((c.ptsn : Int) : Int) == ((d.ptsn : Int) : Int)))) && (((c.win : Int) == (d.win : Int)))) && (((c.out : Int) == (d.out : Int)))) && (((c.inn : Int) == (d.inn : Int)))) && ((decide (c.addrs = d.addrs))))),
     Is (.bool (((((((((((c.made : Int) == (d.made : Int)) && (((c.life : Int) == (d.life : Int)))) && ((((c.mine : Int) : Int) == ((d.mine : Int) : Int)))) && ((((c.peers : Int) : Int) == ((d.peers : Int) : Int)))) && ((((c.mtsn : Int) : Int) == ((d.mtsn : Int) : Int)))) && ((((c.ptsn : Int) : Int) == ((d.ptsn : Int) : Int)))) && (((c.win : Int) == (d.win : Int)))) && (((c.out : Int) == (d.out : Int)))) && (((c.inn : Int) == (d.inn : Int)))) && ((decide (c.addrs = d.addrs))))),
     Under (((((((((((((c.made : Int) == (d.made : Int)) && (((c.life : Int) == (d.life : Int)))) && ((((c.mine : Int) : Int) == ((d.mine : Int) : Int)))) && ((((c.peers : Int) : Int) == ((d.peers : Int) : Int)))) && ((((c.mtsn : Int) : Int) == ((d.mtsn : Int) : Int)))) && ((((c.ptsn : Int) : Int) == ((d.ptsn : Int) : Int)))) && (((c.win : Int) == (d.win : Int)))) && (((c.out : Int) == (d.out : Int)))) && (((c.inn : Int) == (d.inn : Int)))) && ((decide (c.addrs = d.addrs)))))) (.pointer (some ⟨w.heap.size, 10, none⟩)),
     Under (((((((((((((c.made : Int) == (d.made : Int)) && (((c.life : Int) == (d.life : Int)))) && ((((c.mine : Int) : Int) == ((d.mine : Int) : Int)))) && ((((c.peers : Int) : Int) == ((d.peers : Int) : Int)))) && ((((c.mtsn : Int) : Int) == ((d.mtsn : Int) : Int)))) && ((((c.ptsn : Int) : Int) == ((d.ptsn : Int) : Int)))) && (((c.win : Int) == (d.win : Int)))) && (((c.out : Int) == (d.out : Int)))) && (((c.inn : Int) == (d.inn : Int)))) && ((decide (c.addrs = d.addrs)))))) (.slice s.mA s.mN s.mC),
     Under (((((((((((((c.made : Int) == (d.made : Int)) && (((c.life : Int) == (d.life : Int)))) && ((((c.mine : Int) : Int) == ((d.mine : Int) : Int)))) && ((((c.peers : Int) : Int) == ((d.peers : Int) : Int)))) && ((((c.mtsn : Int) : Int) == ((d.mtsn : Int) : Int)))) && ((((c.ptsn : Int) : Int) == ((d.ptsn : Int) : Int)))) && (((c.win : Int) == (d.win : Int)))) && (((c.out : Int) == (d.out : Int)))) && (((c.inn : Int) == (d.inn : Int)))) && ((decide (c.addrs = d.addrs)))))) (.pointer (some ⟨w1.heap.size, 10, none⟩)),
     Under (((((((((((((c.made : Int) == (d.made : Int)) && (((c.life : Int) == (d.life : Int)))) && ((((c.mine : Int) : Int) == ((d.mine : Int) : Int)))) && ((((c.peers : Int) : Int) == ((d.peers : Int) : Int)))) && ((((c.mtsn : Int) : Int) == ((d.mtsn : Int) : Int)))) && ((((c.ptsn : Int) : Int) == ((d.ptsn : Int) : Int)))) && (((c.win : Int) == (d.win : Int)))) && (((c.out : Int) == (d.out : Int)))) && (((c.inn : Int) == (d.inn : Int)))) && ((decide (c.addrs = d.addrs)))))) (.slice u.mA u.mN u.mC),
     Under (((((((((((((c.made : Int) == (d.made : Int)) && (((c.life : Int) == (d.life : Int)))) && ((((c.mine : Int) : Int) == ((d.mine : Int) : Int)))) && ((((c.peers : Int) : Int) == ((d.peers : Int) : Int)))) && ((((c.mtsn : Int) : Int) == ((d.mtsn : Int) : Int)))) && ((((c.ptsn : Int) : Int) == ((d.ptsn : Int) : Int)))) && (((c.win : Int) == (d.win : Int)))) && (((c.out : Int) == (d.out : Int)))) && (((c.inn : Int) == (d.inn : Int)))) && ((decide (c.addrs = d.addrs)))))) (.bool (decide (c.mr = d.mr))),
     Is (.bool ((((((((((((c.made : Int) == (d.made : Int)) && (((c.life : Int) == (d.life : Int)))) && ((((c.mine : Int) : Int) == ((d.mine : Int) : Int)))) && ((((c.peers : Int) : Int) == ((d.peers : Int) : Int)))) && ((((c.mtsn : Int) : Int) == ((d.mtsn : Int) : Int)))) && ((((c.ptsn : Int) : Int) == ((d.ptsn : Int) : Int)))) && (((c.win : Int) == (d.win : Int)))) && (((c.out : Int) == (d.out : Int)))) && (((c.inn : Int) == (d.inn : Int)))) && ((decide (c.addrs = d.addrs)))) && ((decide (c.mr = d.mr))))),
     Is (.bool ((((((((((((c.made : Int) == (d.made : Int)) && (((c.life : Int) == (d.life : Int)))) && ((((c.mine : Int) : Int) == ((d.mine : Int) : Int)))) && ((((c.peers : Int) : Int) == ((d.peers : Int) : Int)))) && ((((c.mtsn : Int) : Int) == ((d.mtsn : Int) : Int)))) && ((((c.ptsn : Int) : Int) == ((d.ptsn : Int) : Int)))) && (((c.win : Int) == (d.win : Int)))) && (((c.out : Int) == (d.out : Int)))) && (((c.inn : Int) == (d.inn : Int)))) && ((decide (c.addrs = d.addrs)))) && ((decide (c.mr = d.mr))))),
     Under ((((((((((((((c.made : Int) == (d.made : Int)) && (((c.life : Int) == (d.life : Int)))) && ((((c.mine : Int) : Int) == ((d.mine : Int) : Int)))) && ((((c.peers : Int) : Int) == ((d.peers : Int) : Int)))) && ((((c.mtsn : Int) : Int) == ((d.mtsn : Int) : Int)))) && ((((c.ptsn : Int) : Int) == ((d.ptsn : Int) : Int)))) && (((c.win : Int) == (d.win : Int)))) && (((c.out : Int) == (d.out : Int)))) && (((c.inn : Int) == (d.inn : Int)))) && ((decide (c.addrs = d.addrs)))) && ((decide (c.mr = d.mr)))))) (.pointer (some ⟨w.heap.size, 11, none⟩)),
     Under ((((((((((((((c.made : Int) == (d.made : Int)) && (((c.life : Int) == (d.life : Int)))) && ((((c.mine : Int) : Int) == ((d.mine : Int) : Int)))) && ((((c.peers : Int) : Int) == ((d.peers : Int) : Int)))) && ((((c.mtsn : Int) : Int) == ((d.mtsn : Int) : Int)))) && ((((c.ptsn : Int) : Int) == ((d.ptsn : Int) : Int)))) && (((c.win : Int) == (d.win : Int)))) && (((c.out : Int) == (d.out : Int)))) && (((c.inn : Int) == (d.inn : Int)))) && ((decide (c.addrs = d.addrs)))) && ((decide (c.mr = d.mr)))))) (.slice s.pA s.pN s.pC),
     Under ((((((((((((((c.made : Int) == (d.made : Int)) && (((c.life : Int) == (d.life : Int)))) && ((((c.mine : Int) : Int) == ((d.mine : Int) : Int)))) && ((((c.peers : Int) : Int) == ((d.peers : Int) : Int)))) && ((((c.mtsn : Int) : Int) == ((d.mtsn : Int) : Int)))) && ((((c.ptsn : Int) : Int) == ((d.ptsn : Int) : Int)))) && (((c.win : Int) == (d.win : Int)))) && (((c.out : Int) == (d.out : Int)))) && (((c.inn : Int) == (d.inn : Int)))) && ((decide (c.addrs = d.addrs)))) && ((decide (c.mr = d.mr)))))) (.pointer (some ⟨w1.heap.size, 11, none⟩)),
     Under ((((((((((((((c.made : Int) == (d.made : Int)) && (((c.life : Int) == (d.life : Int)))) && ((((c.mine : Int) : Int) == ((d.mine : Int) : Int)))) && ((((c.peers : Int) : Int) == ((d.peers : Int) : Int)))) && ((((c.mtsn : Int) : Int) == ((d.mtsn : Int) : Int)))) && ((((c.ptsn : Int) : Int) == ((d.ptsn : Int) : Int)))) && (((c.win : Int) == (d.win : Int)))) && (((c.out : Int) == (d.out : Int)))) && (((c.inn : Int) == (d.inn : Int)))) && ((decide (c.addrs = d.addrs)))) && ((decide (c.mr = d.mr)))))) (.slice u.pA u.pN u.pC),
     Under ((((((((((((((c.made : Int) == (d.made : Int)) && (((c.life : Int) == (d.life : Int)))) && ((((c.mine : Int) : Int) == ((d.mine : Int) : Int)))) && ((((c.peers : Int) : Int) == ((d.peers : Int) : Int)))) && ((((c.mtsn : Int) : Int) == ((d.mtsn : Int) : Int)))) && ((((c.ptsn : Int) : Int) == ((d.ptsn : Int) : Int)))) && (((c.win : Int) == (d.win : Int)))) && (((c.out : Int) == (d.out : Int)))) && (((c.inn : Int) == (d.inn : Int)))) && ((decide (c.addrs = d.addrs)))) && ((decide (c.mr = d.mr)))))) (.bool (decide (c.pr = d.pr))),
     Is (.bool (((((((((((((c.made : Int) == (d.made : Int)) && (((c.life : Int) == (d.life : Int)))) && ((((c.mine : Int) : Int) == ((d.mine : Int) : Int)))) && ((((c.peers : Int) : Int) == ((d.peers : Int) : Int)))) && ((((c.mtsn : Int) : Int) == ((d.mtsn : Int) : Int)))) && ((((c.ptsn : Int) : Int) == ((d.ptsn : Int) : Int)))) && (((c.win : Int) == (d.win : Int)))) && (((c.out : Int) == (d.out : Int)))) && (((c.inn : Int) == (d.inn : Int)))) && ((decide (c.addrs = d.addrs)))) && ((decide (c.mr = d.mr)))) && ((decide (c.pr = d.pr))))),
     Is (.bool (((((((((((((c.made : Int) == (d.made : Int)) && (((c.life : Int) == (d.life : Int)))) && ((((c.mine : Int) : Int) == ((d.mine : Int) : Int)))) && ((((c.peers : Int) : Int) == ((d.peers : Int) : Int)))) && ((((c.mtsn : Int) : Int) == ((d.mtsn : Int) : Int)))) && ((((c.ptsn : Int) : Int) == ((d.ptsn : Int) : Int)))) && (((c.win : Int) == (d.win : Int)))) && (((c.out : Int) == (d.out : Int)))) && (((c.inn : Int) == (d.inn : Int)))) && ((decide (c.addrs = d.addrs)))) && ((decide (c.mr = d.mr)))) && ((decide (c.pr = d.pr))))),
     Under (((((((((((((((c.made : Int) == (d.made : Int)) && (((c.life : Int) == (d.life : Int)))) && ((((c.mine : Int) : Int) == ((d.mine : Int) : Int)))) && ((((c.peers : Int) : Int) == ((d.peers : Int) : Int)))) && ((((c.mtsn : Int) : Int) == ((d.mtsn : Int) : Int)))) && ((((c.ptsn : Int) : Int) == ((d.ptsn : Int) : Int)))) && (((c.win : Int) == (d.win : Int)))) && (((c.out : Int) == (d.out : Int)))) && (((c.inn : Int) == (d.inn : Int)))) && ((decide (c.addrs = d.addrs)))) && ((decide (c.mr = d.mr)))) && ((decide (c.pr = d.pr)))))) (.pointer (some ⟨w.heap.size, 12, none⟩)),
     Under (((((((((((((((c.made : Int) == (d.made : Int)) && (((c.life : Int) == (d.life : Int)))) && ((((c.mine : Int) : Int) == ((d.mine : Int) : Int)))) && ((((c.peers : Int) : Int) == ((d.peers : Int) : Int)))) && ((((c.mtsn : Int) : Int) == ((d.mtsn : Int) : Int)))) && ((((c.ptsn : Int) : Int) == ((d.ptsn : Int) : Int)))) && (((c.win : Int) == (d.win : Int)))) && (((c.out : Int) == (d.out : Int)))) && (((c.inn : Int) == (d.inn : Int)))) && ((decide (c.addrs = d.addrs)))) && ((decide (c.mr = d.mr)))) && ((decide (c.pr = d.pr)))))) (.int .u32 (c.tm : Int)),
     Under (((((((((((((((c.made : Int) == (d.made : Int)) && (((c.life : Int) == (d.life : Int)))) && ((((c.mine : Int) : Int) == ((d.mine : Int) : Int)))) && ((((c.peers : Int) : Int) == ((d.peers : Int) : Int)))) && ((((c.mtsn : Int) : Int) == ((d.mtsn : Int) : Int)))) && ((((c.ptsn : Int) : Int) == ((d.ptsn : Int) : Int)))) && (((c.win : Int) == (d.win : Int)))) && (((c.out : Int) == (d.out : Int)))) && (((c.inn : Int) == (d.inn : Int)))) && ((decide (c.addrs = d.addrs)))) && ((decide (c.mr = d.mr)))) && ((decide (c.pr = d.pr)))))) (.pointer (some ⟨w1.heap.size, 12, none⟩)),
     Under (((((((((((((((c.made : Int) == (d.made : Int)) && (((c.life : Int) == (d.life : Int)))) && ((((c.mine : Int) : Int) == ((d.mine : Int) : Int)))) && ((((c.peers : Int) : Int) == ((d.peers : Int) : Int)))) && ((((c.mtsn : Int) : Int) == ((d.mtsn : Int) : Int)))) && ((((c.ptsn : Int) : Int) == ((d.ptsn : Int) : Int)))) && (((c.win : Int) == (d.win : Int)))) && (((c.out : Int) == (d.out : Int)))) && (((c.inn : Int) == (d.inn : Int)))) && ((decide (c.addrs = d.addrs)))) && ((decide (c.mr = d.mr)))) && ((decide (c.pr = d.pr)))))) (.int .u32 (d.tm : Int)),
     Under (((((((((((((((c.made : Int) == (d.made : Int)) && (((c.life : Int) == (d.life : Int)))) && ((((c.mine : Int) : Int) == ((d.mine : Int) : Int)))) && ((((c.peers : Int) : Int) == ((d.peers : Int) : Int)))) && ((((c.mtsn : Int) : Int) == ((d.mtsn : Int) : Int)))) && ((((c.ptsn : Int) : Int) == ((d.ptsn : Int) : Int)))) && (((c.win : Int) == (d.win : Int)))) && (((c.out : Int) == (d.out : Int)))) && (((c.inn : Int) == (d.inn : Int)))) && ((decide (c.addrs = d.addrs)))) && ((decide (c.mr = d.mr)))) && ((decide (c.pr = d.pr)))))) (.bool (((c.tm : Int) : Int) == ((d.tm : Int) : Int))),
     Is (.bool ((((((((((((((c.made : Int) == (d.made : Int)) && (((c.life : Int) == (d.life : Int)))) && ((((c.mine : Int) : Int) == ((d.mine : Int) : Int)))) && ((((c.peers : Int) : Int) == ((d.peers : Int) : Int)))) && ((((c.mtsn : Int) : Int) == ((d.mtsn : Int) : Int)))) && ((((c.ptsn : Int) : Int) == ((d.ptsn : Int) : Int)))) && (((c.win : Int) == (d.win : Int)))) && (((c.out : Int) == (d.out : Int)))) && (((c.inn : Int) == (d.inn : Int)))) && ((decide (c.addrs = d.addrs)))) && ((decide (c.mr = d.mr)))) && ((decide (c.pr = d.pr)))) && ((((c.tm : Int) : Int) == ((d.tm : Int) : Int))))),
     Is (.bool ((((((((((((((c.made : Int) == (d.made : Int)) && (((c.life : Int) == (d.life : Int)))) && ((((c.mine : Int) : Int) == ((d.mine : Int) : Int)))) && ((((c.peers : Int) : Int) == ((d.peers : Int) : Int)))) && ((((c.mtsn : Int) : Int) == ((d.mtsn : Int) : Int)))) && ((((c.ptsn : Int) : Int) == ((d.ptsn : Int) : Int)))) && (((c.win : Int) == (d.win : Int)))) && (((c.out : Int) == (d.out : Int)))) && (((c.inn : Int) == (d.inn : Int)))) && ((decide (c.addrs = d.addrs)))) && ((decide (c.mr = d.mr)))) && ((decide (c.pr = d.pr)))) && ((((c.tm : Int) : Int) == ((d.tm : Int) : Int))))),
     Under ((((((((((((((((c.made : Int) == (d.made : Int)) && (((c.life : Int) == (d.life : Int)))) && ((((c.mine : Int) : Int) == ((d.mine : Int) : Int)))) && ((((c.peers : Int) : Int) == ((d.peers : Int) : Int)))) && ((((c.mtsn : Int) : Int) == ((d.mtsn : Int) : Int)))) && ((((c.ptsn : Int) : Int) == ((d.ptsn : Int) : Int)))) && (((c.win : Int) == (d.win : Int)))) && (((c.out : Int) == (d.out : Int)))) && (((c.inn : Int) == (d.inn : Int)))) && ((decide (c.addrs = d.addrs)))) && ((decide (c.mr = d.mr)))) && ((decide (c.pr = d.pr)))) && ((((c.tm : Int) : Int) == ((d.tm : Int) : Int)))))) (.pointer (some ⟨w.heap.size, 13, none⟩)),
     Under ((((((((((((((((c.made : Int) == (d.made : Int)) && (((c.life : Int) == (d.life : Int)))) && ((((c.mine : Int) : Int) == ((d.mine : Int) : Int)))) && ((((c.peers : Int) : Int) == ((d.peers : Int) : Int)))) && ((((c.mtsn : Int) : Int) == ((d.mtsn : Int) : Int)))) && ((((c.ptsn : Int) : Int) == ((d.ptsn : Int) : Int)))) && (((c.win : Int) == (d.win : Int)))) && (((c.out : Int) == (d.out : Int)))) && (((c.inn : Int) == (d.inn : Int)))) && ((decide (c.addrs = d.addrs)))) && ((decide (c.mr = d.mr)))) && ((decide (c.pr = d.pr)))) && ((((c.tm : Int) : Int) == ((d.tm : Int) : Int)))))) (.int .u32 (c.tp : Int)),
     Under ((((((((((((((((c.made : Int) == (d.made : Int)) && (((c.life : Int) == (d.life : Int)))) && ((((c.mine : Int) : Int) == ((d.mine : Int) : Int)))) && ((((c.peers : Int) : Int) == ((d.peers : Int) : Int)))) && ((((c.mtsn : Int) : Int) == ((d.mtsn : Int) : Int)))) && ((((c.ptsn : Int) : Int) == ((d.ptsn : Int) : Int)))) && (((c.win : Int) == (d.win : Int)))) && (((c.out : Int) == (d.out : Int)))) && (((c.inn : Int) == (d.inn : Int)))) && ((decide (c.addrs = d.addrs)))) && ((decide (c.mr = d.mr)))) && ((decide (c.pr = d.pr)))) && ((((c.tm : Int) : Int) == ((d.tm : Int) : Int)))))) (.pointer (some ⟨w1.heap.size, 13, none⟩)),
     Under ((((((((((((((((c.made : Int) == (d.made : Int)) && (((c.life : Int) == (d.life : Int)))) && ((((c.mine : Int) : Int) == ((d.mine : Int) : Int)))) && ((((c.peers : Int) : Int) == ((d.peers : Int) : Int)))) && ((((c.mtsn : Int) : Int) == ((d.mtsn : Int) : Int)))) && ((((c.ptsn : Int) : Int) == ((d.ptsn : Int) : Int)))) && (((c.win : Int) == (d.win : Int)))) && (((c.out : Int) == (d.out : Int)))) && (((c.inn : Int) == (d.inn : Int)))) && ((decide (c.addrs = d.addrs)))) && ((decide (c.mr = d.mr)))) && ((decide (c.pr = d.pr)))) && ((((c.tm : Int) : Int) == ((d.tm : Int) : Int)))))) (.int .u32 (d.tp : Int)),
     Under ((((((((((((((((c.made : Int) == (d.made : Int)) && (((c.life : Int) == (d.life : Int)))) && ((((c.mine : Int) : Int) == ((d.mine : Int) : Int)))) && ((((c.peers : Int) : Int) == ((d.peers : Int) : Int)))) && ((((c.mtsn : Int) : Int) == ((d.mtsn : Int) : Int)))) && ((((c.ptsn : Int) : Int) == ((d.ptsn : Int) : Int)))) && (((c.win : Int) == (d.win : Int)))) && (((c.out : Int) == (d.out : Int)))) && (((c.inn : Int) == (d.inn : Int)))) && ((decide (c.addrs = d.addrs)))) && ((decide (c.mr = d.mr)))) && ((decide (c.pr = d.pr)))) && ((((c.tm : Int) : Int) == ((d.tm : Int) : Int)))))) (.bool (((c.tp : Int) : Int) == ((d.tp : Int) : Int))),
     Is (.bool (((((((((((((((c.made : Int) == (d.made : Int)) && (((c.life : Int) == (d.life : Int)))) && ((((c.mine : Int) : Int) == ((d.mine : Int) : Int)))) && ((((c.peers : Int) : Int) == ((d.peers : Int) : Int)))) && ((((c.mtsn : Int) : Int) == ((d.mtsn : Int) : Int)))) && ((((c.ptsn : Int) : Int) == ((d.ptsn : Int) : Int)))) && (((c.win : Int) == (d.win : Int)))) && (((c.out : Int) == (d.out : Int)))) && (((c.inn : Int) == (d.inn : Int)))) && ((decide (c.addrs = d.addrs)))) && ((decide (c.mr = d.mr)))) && ((decide (c.pr = d.pr)))) && ((((c.tm : Int) : Int) == ((d.tm : Int) : Int)))) && ((((c.tp : Int) : Int) == ((d.tp : Int) : Int))))),
     Is (.bool (((((((((((((((c.made : Int) == (d.made : Int)) && (((c.life : Int) == (d.life : Int)))) && ((((c.mine : Int) : Int) == ((d.mine : Int) : Int)))) && ((((c.peers : Int) : Int) == ((d.peers : Int) : Int)))) && ((((c.mtsn : Int) : Int) == ((d.mtsn : Int) : Int)))) && ((((c.ptsn : Int) : Int) == ((d.ptsn : Int) : Int)))) && (((c.win : Int) == (d.win : Int)))) && (((c.out : Int) == (d.out : Int)))) && (((c.inn : Int) == (d.inn : Int)))) && ((decide (c.addrs = d.addrs)))) && ((decide (c.mr = d.mr)))) && ((decide (c.pr = d.pr)))) && ((((c.tm : Int) : Int) == ((d.tm : Int) : Int)))) && ((((c.tp : Int) : Int) == ((d.tp : Int) : Int)))))]
    rfl (by kernel_rfl) rfl Ext.refl (fun _ _ _ => Ext.trans) (KeepAll.is (KeepAll.is (KeepAll.is (KeepAll.is (KeepAll.is (KeepAll.is (KeepAll.under (KeepAll.under (KeepAll.under (KeepAll.under (KeepAll.under (KeepAll.is (KeepAll.is (KeepAll.under (KeepAll.under (KeepAll.under (KeepAll.under (KeepAll.under (KeepAll.is (KeepAll.is (KeepAll.under (KeepAll.under (KeepAll.under (KeepAll.under (KeepAll.under (KeepAll.is (KeepAll.is (KeepAll.under (KeepAll.under (KeepAll.under (KeepAll.under (KeepAll.under (KeepAll.is (KeepAll.is (KeepAll.under (KeepAll.under (KeepAll.under (KeepAll.under (KeepAll.under (KeepAll.is (KeepAll.is (KeepAll.under (KeepAll.under (KeepAll.under (KeepAll.under (KeepAll.under (KeepAll.is (KeepAll.is (KeepAll.under (KeepAll.under (KeepAll.under (KeepAll.under (KeepAll.under (KeepAll.is (KeepAll.is (KeepAll.under (KeepAll.under (KeepAll.under (KeepAll.under (KeepAll.under (KeepAll.is (KeepAll.is (KeepAll.under (KeepAll.under (KeepAll.under (KeepAll.under (KeepAll.under (KeepAll.is (KeepAll.is (KeepAll.under (KeepAll.under (KeepAll.under (KeepAll.under (KeepAll.under (KeepAll.is (KeepAll.is (KeepAll.under (KeepAll.under (KeepAll.under (KeepAll.under (KeepAll.under (KeepAll.is (KeepAll.is (KeepAll.under (KeepAll.under (KeepAll.under (KeepAll.under (KeepAll.under (KeepAll.is (KeepAll.is (KeepAll.under (KeepAll.under (KeepAll.under (KeepAll.under (KeepAll.under (KeepAll.is (KeepAll.is (KeepAll.nil)))))))))))))))))))))))))))))))))))))))))))))))))))))))))))))))))))))))))))))))))))))))))))))))))) ?_ ?_
  · refine GoodAll.cons ?_ ?_
    · intro r wx hR hx
      obtain ⟨h1, _⟩ := hx
      replace h1 : r (.tmp 2) = .pointer (some ⟨w.heap.size, 0, none⟩) := h1
      exact give_of (by simp [execOp, h1, go_sem]) ⟨Ext.refl _, rfl⟩
    refine GoodAll.cons ?_ ?_
    · intro r wx hR hx
      obtain ⟨h1, _⟩ := hx
      replace h1 : r (.tmp 5) = .pointer (some ⟨w.heap.size, 0, none⟩) := h1
      exact give_of (exec_get one3 rfl h1 (kv0 (hb1'.ext hR))) ⟨Ext.refl _, rfl⟩
    refine GoodAll.cons ?_ ?_
    · intro r wx hR hx
      obtain ⟨h1, _⟩ := hx
      replace h1 : r (.tmp 3) = .pointer (some ⟨w1.heap.size, 0, none⟩) := h1
      exact give_of (by simp [execOp, h1, go_sem]) ⟨Ext.refl _, rfl⟩
    refine GoodAll.cons ?_ ?_
    · intro r wx hR hx
      obtain ⟨h1, _⟩ := hx
      replace h1 : r (.tmp 7) = .pointer (some ⟨w1.heap.size, 0, none⟩) := h1
      exact give_of (exec_get one3 rfl h1 (kv0 (hb2.ext hR))) ⟨Ext.refl _, rfl⟩
    refine GoodAll.cons ?_ ?_
    · intro r wx hR hx
      obtain ⟨h1, h2, _⟩ := hx
      replace h1 : r (.tmp 6) = .int .i64 c.made := h1
      replace h2 : r (.tmp 8) = .int .i64 d.made := h2
      exact give_of (by simp [execOp, h1, h2, go_sem]) ⟨Ext.refl _, rfl⟩
    refine GoodAll.cons ?_ ?_
    · intro r wx hR hx
      obtain ⟨h1, _⟩ := hx
      replace h1 : r (.tmp 9) = .bool ((c.made : Int) == (d.made : Int)) := h1
      exact give_move (.inl rfl) ⟨Ext.refl _, h1⟩
    refine GoodAll.cons ?_ ?_
    · intro r wx hR hx
      obtain ⟨h1, _⟩ := hx
      replace h1 : r (.tmp 2) = .pointer (some ⟨w.heap.size, 0, none⟩) := h1
      intro gb hgb
      refine guard_u (C := (((c.made : Int) == (d.made : Int)))) (b := ((c.made : Int) == (d.made : Int))) (want := true) hgb (want_t _) (fun hc => ?_) (fun hc => under_no hc)
      exact give_of (by simp [execOp, h1, go_sem]) ⟨Ext.refl _, under_yes hc⟩
    refine GoodAll.cons ?_ ?_
    · intro r wx hR hx
      obtain ⟨h1, _⟩ := hx
      replace h1 : Under ((((c.made : Int) == (d.made : Int)))) (.pointer (some ⟨w.heap.size, 1, none⟩)) wx (r (.tmp 11)) := h1
      intro gb hgb
      refine guard_u (C := (((c.made : Int) == (d.made : Int)))) (b := ((c.made : Int) == (d.made : Int))) (want := true) hgb (want_t _) (fun hc => ?_) (fun hc => under_no hc)
      replace h1 := h1.get hc
      exact give_of (exec_get one3 rfl h1 (kv1 (hb1'.ext hR))) ⟨Ext.refl _, under_yes hc⟩
    refine GoodAll.cons ?_ ?_
    · intro r wx hR hx
      obtain ⟨h1, _⟩ := hx
      replace h1 : r (.tmp 3) = .pointer (some ⟨w1.heap.size, 0, none⟩) := h1
      intro gb hgb
      refine guard_u (C := (((c.made : Int) == (d.made : Int)))) (b := ((c.made : Int) == (d.made : Int))) (want := true) hgb (want_t _) (fun hc => ?_) (fun hc => under_no hc)
      exact give_of (by simp [execOp, h1, go_sem]) ⟨Ext.refl _, under_yes hc⟩
    refine GoodAll.cons ?_ ?_
    · intro r wx hR hx
      obtain ⟨h1, _⟩ := hx
      replace h1 : Under ((((c.made : Int) == (d.made : Int)))) (.pointer (some ⟨w1.heap.size, 1, none⟩)) wx (r (.tmp 13)) := h1
      intro gb hgb
      refine guard_u (C := (((c.made : Int) == (d.made : Int)))) (b := ((c.made : Int) == (d.made : Int))) (want := true) hgb (want_t _) (fun hc => ?_) (fun hc => under_no hc)
      replace h1 := h1.get hc
      exact give_of (exec_get one3 rfl h1 (kv1 (hb2.ext hR))) ⟨Ext.refl _, under_yes hc⟩
    refine GoodAll.cons ?_ ?_
    · intro r wx hR hx
      obtain ⟨h1, h2, _⟩ := hx
      replace h1 : Under ((((c.made : Int) == (d.made : Int)))) (.int .i64 c.life) wx (r (.tmp 12)) := h1
      replace h2 : Under ((((c.made : Int) == (d.made : Int)))) (.int .i64 d.life) wx (r (.tmp 14)) := h2
      intro gb hgb
      refine guard_u (C := (((c.made : Int) == (d.made : Int)))) (b := ((c.made : Int) == (d.made : Int))) (want := true) hgb (want_t _) (fun hc => ?_) (fun hc => under_no hc)
      replace h1 := h1.get hc
      replace h2 := h2.get hc
      exact give_of (by simp [execOp, h1, h2, go_sem]) ⟨Ext.refl _, under_yes hc⟩
    refine GoodAll.cons ?_ ?_
    · intro r wx hR hx
      obtain ⟨h1, h2, h3, _⟩ := hx
      replace h1 : r (.tmp 10) = .bool ((c.made : Int) == (d.made : Int)) := h1
      replace h2 : Under ((((c.made : Int) == (d.made : Int)))) (.bool ((c.life : Int) == (d.life : Int))) wx (r (.tmp 15)) := h2
      replace h3 : r (.const (.bool false)) = .bool false := h3
      exact give_and rfl h3 h1 (fun hb => h2.get (by first | exact hb | (rw [hc, hb]; rfl) | (rw [hb]; rfl))) ⟨Ext.refl _, rfl⟩
    refine GoodAll.cons ?_ ?_
    · intro r wx hR hx
      obtain ⟨h1, _⟩ := hx
      replace h1 : r (.tmp 16) = .bool (((c.made : Int) == (d.made : Int)) && (((c.life : Int) == (d.life : Int)))) := h1
      exact give_move (.inl rfl) ⟨Ext.refl _, h1⟩
    refine GoodAll.cons ?_ ?_
    · intro r wx hR hx
      obtain ⟨h1, _⟩ := hx
      replace h1 : r (.tmp 2) = .pointer (some ⟨w.heap.size, 0, none⟩) := h1
      intro gb hgb
      refine guard_u (C := ((((c.made : Int) == (d.made : Int)) && (((c.life : Int) == (d.life : Int)))))) (b := (((c.made : Int) == (d.made : Int)) && (((c.life : Int) == (d.life : Int))))) (want := true) hgb (want_t _) (fun hc => ?_) (fun hc => under_no hc)
      exact give_of (by simp [execOp, h1, go_sem]) ⟨Ext.refl _, under_yes hc⟩
    refine GoodAll.cons ?_ ?_
    · intro r wx hR hx
      obtain ⟨h1, _⟩ := hx
      replace h1 : Under (((((c.made : Int) == (d.made : Int)) && (((c.life : Int) == (d.life : Int)))))) (.pointer (some ⟨w.heap.size, 2, none⟩)) wx (r (.tmp 18)) := h1
      intro gb hgb
      refine guard_u (C := ((((c.made : Int) == (d.made : Int)) && (((c.life : Int) == (d.life : Int)))))) (b := (((c.made : Int) == (d.made : Int)) && (((c.life : Int) == (d.life : Int))))) (want := true) hgb (want_t _) (fun hc => ?_) (fun hc => under_no hc)
      replace h1 := h1.get hc
      exact give_of (exec_get one22 rfl h1 (kv2 (hb1'.ext hR))) ⟨Ext.refl _, under_yes hc⟩
    refine GoodAll.cons ?_ ?_
    · intro r wx hR hx
      obtain ⟨h1, _⟩ := hx
      replace h1 : r (.tmp 3) = .pointer (some ⟨w1.heap.size, 0, none⟩) := h1
      intro gb hgb
      refine guard_u (C := ((((c.made : Int) == (d.made : Int)) && (((c.life : Int) == (d.life : Int)))))) (b := (((c.made : Int) == (d.made : Int)) && (((c.life : Int) == (d.life : Int))))) (want := true) hgb (want_t _) (fun hc => ?_) (fun hc => under_no hc)
      exact give_of (by simp [execOp, h1, go_sem]) ⟨Ext.refl _, under_yes hc⟩
    refine GoodAll.cons ?_ ?_
    · intro r wx hR hx
      obtain ⟨h1, _⟩ := hx
      replace h1 : Under (((((c.made : Int) == (d.made : Int)) && (((c.life : Int) == (d.life : Int)))))) (.pointer (some ⟨w1.heap.size, 2, none⟩)) wx (r (.tmp 20)) := h1
      intro gb hgb
      refine guard_u (C := ((((c.made : Int) == (d.made : Int)) && (((c.life : Int) == (d.life : Int)))))) (b := (((c.made : Int) == (d.made : Int)) && (((c.life : Int) == (d.life : Int))))) (want := true) hgb (want_t _) (fun hc => ?_) (fun hc => under_no hc)
      replace h1 := h1.get hc
      exact give_of (exec_get one22 rfl h1 (kv2 (hb2.ext hR))) ⟨Ext.refl _, under_yes hc⟩
    refine GoodAll.cons ?_ ?_
    · intro r wx hR hx
      obtain ⟨h1, h2, _⟩ := hx
      replace h1 : Under (((((c.made : Int) == (d.made : Int)) && (((c.life : Int) == (d.life : Int)))))) (.int .u32 (c.mine : Int)) wx (r (.tmp 19)) := h1
      replace h2 : Under (((((c.made : Int) == (d.made : Int)) && (((c.life : Int) == (d.life : Int)))))) (.int .u32 (d.mine : Int)) wx (r (.tmp 21)) := h2
      intro gb hgb
      refine guard_u (C := ((((c.made : Int) == (d.made : Int)) && (((c.life : Int) == (d.life : Int)))))) (b := (((c.made : Int) == (d.made : Int)) && (((c.life : Int) == (d.life : Int))))) (want := true) hgb (want_t _) (fun hc => ?_) (fun hc => under_no hc)
      replace h1 := h1.get hc
      replace h2 := h2.get hc
      exact give_of (by simp [execOp, h1, h2, go_sem]) ⟨Ext.refl _, under_yes hc⟩
    refine GoodAll.cons ?_ ?_
    · intro r wx hR hx
      obtain ⟨h1, h2, h3, _⟩ := hx
      replace h1 : r (.tmp 17) = .bool (((c.made : Int) == (d.made : Int)) && (((c.life : Int) == (d.life : Int)))) := h1
      replace h2 : Under (((((c.made : Int) == (d.made : Int)) && (((c.life : Int) == (d.life : Int)))))) (.bool (((c.mine : Int) : Int) == ((d.mine : Int) : Int))) wx (r (.tmp 22)) := h2
      replace h3 : r (.const (.bool false)) = .bool false := h3
      exact give_and rfl h3 h1 (fun hb => h2.get (by first | exact hb | (rw [hc, hb]; rfl) | (rw [hb]; rfl))) ⟨Ext.refl _, rfl⟩
    refine GoodAll.cons ?_ ?_
    · intro r wx hR hx
      obtain ⟨h1, _⟩ := hx
      replace h1 : r (.tmp 23) = .bool ((((c.made : Int) == (d.made : Int)) && (((c.life : Int) == (d.life : Int)))) && ((((c.mine : Int) : Int) == ((d.mine : Int) : Int)))) := h1
      exact give_move (.inl rfl) ⟨Ext.refl _, h1⟩
    refine GoodAll.cons ?_ ?_
    · intro r wx hR hx
      obtain ⟨h1, _⟩ := hx
      replace h1 : r (.tmp 2) = .pointer (some ⟨w.heap.size, 0, none⟩) := h1
      intro gb hgb
      refine guard_u (C := (((((c.made : Int) == (d.made : Int)) && (((c.life : Int) == (d.life : Int)))) && ((((c.mine : Int) : Int) == ((d.mine : Int) : Int)))))) (b := ((((c.made : Int) == (d.made : Int)) && (((c.life : Int) == (d.life : Int)))) && ((((c.mine : Int) : Int) == ((d.mine : Int) : Int))))) (want := true) hgb (want_t _) (fun hc => ?_) (fun hc => under_no hc)
      exact give_of (by simp [execOp, h1, go_sem]) ⟨Ext.refl _, under_yes hc⟩
    refine GoodAll.cons ?_ ?_
    · intro r wx hR hx
      obtain ⟨h1, _⟩ := hx
      replace h1 : Under ((((((c.made : Int) == (d.made : Int)) && (((c.life : Int) == (d.life : Int)))) && ((((c.mine : Int) : Int) == ((d.mine : Int) : Int)))))) (.pointer (some ⟨w.heap.size, 3, none⟩)) wx (r (.tmp 25)) := h1
      intro gb hgb
      refine guard_u (C := (((((c.made : Int) == (d.made : Int)) && (((c.life : Int) == (d.life : Int)))) && ((((c.mine : Int) : Int) == ((d.mine : Int) : Int)))))) (b := ((((c.made : Int) == (d.made : Int)) && (((c.life : Int) == (d.life : Int)))) && ((((c.mine : Int) : Int) == ((d.mine : Int) : Int))))) (want := true) hgb (want_t _) (fun hc => ?_) (fun hc => under_no hc)
      replace h1 := h1.get hc
      exact give_of (exec_get one22 rfl h1 (kv3 (hb1'.ext hR))) ⟨Ext.refl _, under_yes hc⟩
    refine GoodAll.cons ?_ ?_
    · intro r wx hR hx
      obtain ⟨h1, _⟩ := hx
      replace h1 : r (.tmp 3) = .pointer (some ⟨w1.heap.size, 0, none⟩) := h1
      intro gb hgb
      refine guard_u (C := (((((c.made : Int) == (d.made : Int)) && (((c.life : Int) == (d.life : Int)))) && ((((c.mine : Int) : Int) == ((d.mine : Int) : Int)))))) (b := ((((c.made : Int) == (d.made : Int)) && (((c.life : Int) == (d.life : Int)))) && ((((c.mine : Int) : Int) == ((d.mine : Int) : Int))))) (want := true) hgb (want_t _) (fun hc => ?_) (fun hc => under_no hc)
      exact give_of (by simp [execOp, h1, go_sem]) ⟨Ext.refl _, under_yes hc⟩
    refine GoodAll.cons ?_ ?_
    · intro r wx hR hx
      obtain ⟨h1, _⟩ := hx
      replace h1 : Under ((((((c.made : Int) == (d.made : Int)) && (((c.life : Int) == (d.life : Int)))) && ((((c.mine : Int) : Int) == ((d.mine : Int) : Int)))))) (.pointer (some ⟨w1.heap.size, 3, none⟩)) wx (r (.tmp 27)) := h1
      intro gb hgb
      refine guard_u (C := (((((c.made : Int) == (d.made : Int)) && (((c.life : Int) == (d.life : Int)))) && ((((c.mine : Int) : Int) == ((d.mine : Int) : Int)))))) (b := ((((c.made : Int) == (d.made : Int)) && (((c.life : Int) == (d.life : Int)))) && ((((c.mine : Int) : Int) == ((d.mine : Int) : Int))))) (want := true) hgb (want_t _) (fun hc => ?_) (fun hc => under_no hc)
      replace h1 := h1.get hc
      exact give_of (exec_get one22 rfl h1 (kv3 (hb2.ext hR))) ⟨Ext.refl _, under_yes hc⟩
    refine GoodAll.cons ?_ ?_
    · intro r wx hR hx
      obtain ⟨h1, h2, _⟩ := hx
      replace h1 : Under ((((((c.made : Int) == (d.made : Int)) && (((c.life : Int) == (d.life : Int)))) && ((((c.mine : Int) : Int) == ((d.mine : Int) : Int)))))) (.int .u32 (c.peers : Int)) wx (r (.tmp 26)) := h1
      replace h2 : Under ((((((c.made : Int) == (d.made : Int)) && (((c.life : Int) == (d.life : Int)))) && ((((c.mine : Int) : Int) == ((d.mine : Int) : Int)))))) (.int .u32 (d.peers : Int)) wx (r (.tmp 28)) := h2
      intro gb hgb
      refine guard_u (C := (((((c.made : Int) == (d.made : Int)) && (((c.life : Int) == (d.life : Int)))) && ((((c.mine : Int) : Int) == ((d.mine : Int) : Int)))))) (b := ((((c.made : Int) == (d.made : Int)) && (((c.life : Int) == (d.life : Int)))) && ((((c.mine : Int) : Int) == ((d.mine : Int) : Int))))) (want := true) hgb (want_t _) (fun hc => ?_) (fun hc => under_no hc)
      replace h1 := h1.get hc
      replace h2 := h2.get hc
      exact give_of (by simp [execOp, h1, h2, go_sem]) ⟨Ext.refl _, under_yes hc⟩
    refine GoodAll.cons ?_ ?_
    · intro r wx hR hx
      obtain ⟨h1, h2, h3, _⟩ := hx
      replace h1 : r (.tmp 24) = .bool ((((c.made : Int) == (d.made : Int)) && (((c.life : Int) == (d.life : Int)))) && ((((c.mine : Int) : Int) == ((d.mine : Int) : Int)))) := h1
      replace h2 : Under ((((((c.made : Int) == (d.made : Int)) && (((c.life : Int) == (d.life : Int)))) && ((((c.mine : Int) : Int) == ((d.mine : Int) : Int)))))) (.bool (((c.peers : Int) : Int) == ((d.peers : Int) : Int))) wx (r (.tmp 29)) := h2
      replace h3 : r (.const (.bool false)) = .bool false := h3
      exact give_and rfl h3 h1 (fun hb => h2.get (by first | exact hb | (rw [hc, hb]; rfl) | (rw [hb]; rfl))) ⟨Ext.refl _, rfl⟩
    refine GoodAll.cons ?_ ?_
    · intro r wx hR hx
      obtain ⟨h1, _⟩ := hx
      replace h1 : r (.tmp 30) = .bool (((((c.made : Int) == (d.made : Int)) && (((c.life : Int) == (d.life : Int)))) && ((((c.mine : Int) : Int) == ((d.mine : Int) : Int)))) && ((((c.peers : Int) : Int) == ((d.peers : Int) : Int)))) := h1
      exact give_move (.inl rfl) ⟨Ext.refl _, h1⟩
    refine GoodAll.cons ?_ ?_
    · intro r wx hR hx
      obtain ⟨h1, _⟩ := hx
      replace h1 : r (.tmp 2) = .pointer (some ⟨w.heap.size, 0, none⟩) := h1
      intro gb hgb
      refine guard_u (C := ((((((c.made : Int) == (d.made : Int)) && (((c.life : Int) == (d.life : Int)))) && ((((c.mine : Int) : Int) == ((d.mine : Int) : Int)))) && ((((c.peers : Int) : Int) == ((d.peers : Int) : Int)))))) (b := (((((c.made : Int) == (d.made : Int)) && (((c.life : Int) == (d.life : Int)))) && ((((c.mine : Int) : Int) == ((d.mine : Int) : Int)))) && ((((c.peers : Int) : Int) == ((d.peers : Int) : Int))))) (want := true) hgb (want_t _) (fun hc => ?_) (fun hc => under_no hc)
      exact give_of (by simp [execOp, h1, go_sem]) ⟨Ext.refl _, under_yes hc⟩
    refine GoodAll.cons ?_ ?_
    · intro r wx hR hx
      obtain ⟨h1, _⟩ := hx
      replace h1 : Under (((((((c.made : Int) == (d.made : Int)) && (((c.life : Int) == (d.life : Int)))) && ((((c.mine : Int) : Int) == ((d.mine : Int) : Int)))) && ((((c.peers : Int) : Int) == ((d.peers : Int) : Int)))))) (.pointer (some ⟨w.heap.size, 4, none⟩)) wx (r (.tmp 32)) := h1
      intro gb hgb
      refine guard_u (C := ((((((c.made : Int) == (d.made : Int)) && (((c.life : Int) == (d.life : Int)))) && ((((c.mine : Int) : Int) == ((d.mine : Int) : Int)))) && ((((c.peers : Int) : Int) == ((d.peers : Int) : Int)))))) (b := (((((c.made : Int) == (d.made : Int)) && (((c.life : Int) == (d.life : Int)))) && ((((c.mine : Int) : Int) == ((d.mine : Int) : Int)))) && ((((c.peers : Int) : Int) == ((d.peers : Int) : Int))))) (want := true) hgb (want_t _) (fun hc => ?_) (fun hc => under_no hc)
      replace h1 := h1.get hc
      exact give_of (exec_get one22 rfl h1 (kv4 (hb1'.ext hR))) ⟨Ext.refl _, under_yes hc⟩
    refine GoodAll.cons ?_ ?_
    · intro r wx hR hx
      obtain ⟨h1, _⟩ := hx
      replace h1 : r (.tmp 3) = .pointer (some ⟨w1.heap.size, 0, none⟩) := h1
      intro gb hgb
      refine guard_u (C := ((((((c.made : Int) == (d.made : Int)) && (((c.life : Int) == (d.life : Int)))) && ((((c.mine : Int) : Int) == ((d.mine : Int) : Int)))) && ((((c.peers : Int) : Int) == ((d.peers : Int) : Int)))))) (b := (((((c.made : Int) == (d.made : Int)) && (((c.life : Int) == (d.life : Int)))) && ((((c.mine : Int) : Int) == ((d.mine : Int) : Int)))) && ((((c.peers : Int) : Int) == ((d.peers : Int) : Int))))) (want := true) hgb (want_t _) (fun hc => ?_) (fun hc => under_no hc)
      exact give_of (by simp [execOp, h1, go_sem]) ⟨Ext.refl _, under_yes hc⟩
    refine GoodAll.cons ?_ ?_
    · intro r wx hR hx
      obtain ⟨h1, _⟩ := hx
      replace h1 : Under (((((((c.made : Int) == (d.made : Int)) && (((c.life : Int) == (d.life : Int)))) && ((((c.mine : Int) : Int) == ((d.mine : Int) : Int)))) && ((((c.peers : Int) : Int) == ((d.peers : Int) : Int)))))) (.pointer (some ⟨w1.heap.size, 4, none⟩)) wx (r (.tmp 34)) := h1
      intro gb hgb
      refine guard_u (C := ((((((c.made : Int) == (d.made : Int)) && (((c.life : Int) == (d.life : Int)))) && ((((c.mine : Int) : Int) == ((d.mine : Int) : Int)))) && ((((c.peers : Int) : Int) == ((d.peers : Int) : Int)))))) (b := (((((c.made : Int) == (d.made : Int)) && (((c.life : Int) == (d.life : Int)))) && ((((c.mine : Int) : Int) == ((d.mine : Int) : Int)))) && ((((c.peers : Int) : Int) == ((d.peers : Int) : Int))))) (want := true) hgb (want_t _) (fun hc => ?_) (fun hc => under_no hc)
      replace h1 := h1.get hc
      exact give_of (exec_get one22 rfl h1 (kv4 (hb2.ext hR))) ⟨Ext.refl _, under_yes hc⟩
    refine GoodAll.cons ?_ ?_
    · intro r wx hR hx
      obtain ⟨h1, h2, _⟩ := hx
      replace h1 : Under (((((((c.made : Int) == (d.made : Int)) && (((c.life : Int) == (d.life : Int)))) && ((((c.mine : Int) : Int) == ((d.mine : Int) : Int)))) && ((((c.peers : Int) : Int) == ((d.peers : Int) : Int)))))) (.int .u32 (c.mtsn : Int)) wx (r (.tmp 33)) := h1
      replace h2 : Under (((((((c.made : Int) == (d.made : Int)) && (((c.life : Int) == (d.life : Int)))) && ((((c.mine : Int) : Int) == ((d.mine : Int) : Int)))) && ((((c.peers : Int) : Int) == ((d.peers : Int) : Int)))))) (.int .u32 (d.mtsn : Int)) wx (r (.tmp 35)) := h2
      intro gb hgb
      refine guard_u (C := ((((((c.made : Int) == (d.made : Int)) && (((c.life : Int) == (d.life : Int)))) && ((((c.mine : Int) : Int) == ((d.mine : Int) : Int)))) && ((((c.peers : Int) : Int) == ((d.peers : Int) : Int)))))) (b := (((((c.made : Int) == (d.made : Int)) && (((c.life : Int) == (d.life : Int)))) && ((((c.mine : Int) : Int) == ((d.mine : Int) : Int)))) && ((((c.peers : Int) : Int) == ((d.peers : Int) : Int))))) (want := true) hgb (want_t _) (fun hc => ?_) (fun hc => under_no hc)
      replace h1 := h1.get hc
      replace h2 := h2.get hc
      exact give_of (by simp [execOp, h1, h2, go_sem]) ⟨Ext.refl _, under_yes hc⟩
    refine GoodAll.cons ?_ ?_
    · intro r wx hR hx
      obtain ⟨h1, h2, h3, _⟩ := hx
      replace h1 : r (.tmp 31) = .bool (((((c.made : Int) == (d.made : Int)) && (((c.life : Int) == (d.life : Int)))) && ((((c.mine : Int) : Int) == ((d.mine : Int) : Int)))) && ((((c.peers : Int) : Int) == ((d.peers : Int) : Int)))) := h1
      replace h2 : Under (((((((c.made : Int) == (d.made : Int)) && (((c.life : Int) == (d.life : Int)))) && ((((c.mine : Int) : Int) == ((d.mine : Int) : Int)))) && ((((c.peers : Int) : Int) == ((d.peers : Int) : Int)))))) (.bool (((c.mtsn : Int) : Int) == ((d.mtsn : Int) : Int))) wx (r (.tmp 36)) := h2
      replace h3 : r (.const (.bool false)) = .bool false := h3
      exact give_and rfl h3 h1 (fun hb => h2.get (by first | exact hb | (rw [hc, hb]; rfl) | (rw [hb]; rfl))) ⟨Ext.refl _, rfl⟩
    refine GoodAll.cons ?_ ?_
    · intro r wx hR hx
      obtain ⟨h1, _⟩ := hx
      replace h1 : r (.tmp 37) = .bool ((((((c.made : Int) == (d.made : Int)) && (((c.life : Int) == (d.life : Int)))) && ((((c.mine : Int) : Int) == ((d.mine : Int) : Int)))) && ((((c.peers : Int) : Int) == ((d.peers : Int) : Int)))) && ((((c.mtsn : Int) : Int) == ((d.mtsn : Int) : Int)))) := h1
      exact give_move (.inl rfl) ⟨Ext.refl _, h1⟩
    refine GoodAll.cons ?_ ?_
    · intro r wx hR hx
      obtain ⟨h1, _⟩ := hx
      replace h1 : r (.tmp 2) = .pointer (some ⟨w.heap.size, 0, none⟩) := h1
      intro gb hgb
      refine guard_u (C := (((((((c.made : Int) == (d.made : Int)) && (((c.life : Int) == (d.life : Int)))) && ((((c.mine : Int) : Int) == ((d.mine : Int) : Int)))) && ((((c.peers : Int) : Int) == ((d.peers : Int) : Int)))) && ((((c.mtsn : Int) : Int) == ((d.mtsn : Int) : Int)))))) (b := ((((((c.made : Int) == (d.made : Int)) && (((c.life : Int) == (d.life : Int)))) && ((((c.mine : Int) : Int) == ((d.mine : Int) : Int)))) && ((((c.peers : Int) : Int) == ((d.peers : Int) : Int)))) && ((((c.mtsn : Int) : Int) == ((d.mtsn : Int) : Int))))) (want := true) hgb (want_t _) (fun hc => ?_) (fun hc => under_no hc)
      exact give_of (by simp [execOp, h1, go_sem]) ⟨Ext.refl _, under_yes hc⟩
    refine GoodAll.cons ?_ ?_
    · intro r wx hR hx
      obtain ⟨h1, _⟩ := hx
      replace h1 : Under ((((((((c.made : Int) == (d.made : Int)) && (((c.life : Int) == (d.life : Int)))) && ((((c.mine : Int) : Int) == ((d.mine : Int) : Int)))) && ((((c.peers : Int) : Int) == ((d.peers : Int) : Int)))) && ((((c.mtsn : Int) : Int) == ((d.mtsn : Int) : Int)))))) (.pointer (some ⟨w.heap.size, 5, none⟩)) wx (r (.tmp 39)) := h1
      intro gb hgb
      refine guard_u (C := (((((((c.made : Int) == (d.made : Int)) && (((c.life : Int) == (d.life : Int)))) && ((((c.mine : Int) : Int) == ((d.mine : Int) : Int)))) && ((((c.peers : Int) : Int) == ((d.peers : Int) : Int)))) && ((((c.mtsn : Int) : Int) == ((d.mtsn : Int) : Int)))))) (b := ((((((c.made : Int) == (d.made : Int)) && (((c.life : Int) == (d.life : Int)))) && ((((c.mine : Int) : Int) == ((d.mine : Int) : Int)))) && ((((c.peers : Int) : Int) == ((d.peers : Int) : Int)))) && ((((c.mtsn : Int) : Int) == ((d.mtsn : Int) : Int))))) (want := true) hgb (want_t _) (fun hc => ?_) (fun hc => under_no hc)
      replace h1 := h1.get hc
      exact give_of (exec_get one22 rfl h1 (kv5 (hb1'.ext hR))) ⟨Ext.refl _, under_yes hc⟩
    refine GoodAll.cons ?_ ?_
    · intro r wx hR hx
      obtain ⟨h1, _⟩ := hx
      replace h1 : r (.tmp 3) = .pointer (some ⟨w1.heap.size, 0, none⟩) := h1
      intro gb hgb
      refine guard_u (C := (((((((c.made : Int) == (d.made : Int)) && (((c.life : Int) == (d.life : Int)))) && ((((c.mine : Int) : Int) == ((d.mine : Int) : Int)))) && ((((c.peers : Int) : Int) == ((d.peers : Int) : Int)))) && ((((c.mtsn : Int) : Int) == ((d.mtsn : Int) : Int)))))) (b := ((((((c.made : Int) == (d.made : Int)) && (((c.life : Int) == (d.life : Int)))) && ((((c.mine : Int) : Int) == ((d.mine : Int) : Int)))) && ((((c.peers : Int) : Int) == ((d.peers : Int) : Int)))) && ((((c.mtsn : Int) : Int) == ((d.mtsn : Int) : Int))))) (want := true) hgb (want_t _) (fun hc => ?_) (fun hc => under_no hc)
      exact give_of (by simp [execOp, h1, go_sem]) ⟨Ext.refl _, under_yes hc⟩
    refine GoodAll.cons ?_ ?_
    · intro r wx hR hx
      obtain ⟨h1, _⟩ := hx
      replace h1 : Under ((((((((c.made : Int) == (d.made : Int)) && (((c.life : Int) == (d.life : Int)))) && ((((c.mine : Int) : Int) == ((d.mine : Int) : Int)))) && ((((c.peers : Int) : Int) == ((d.peers : Int) : Int)))) && ((((c.mtsn : Int) : Int) == ((d.mtsn : Int) : Int)))))) (.pointer (some ⟨w1.heap.size, 5, none⟩)) wx (r (.tmp 41)) := h1
      intro gb hgb
      refine guard_u (C := (((((((c.made : Int) == (d.made : Int)) && (((c.life : Int) == (d.life : Int)))) && ((((c.mine : Int) : Int) == ((d.mine : Int) : Int)))) && ((((c.peers : Int) : Int) == ((d.peers : Int) : Int)))) && ((((c.mtsn : Int) : Int) == ((d.mtsn : Int) : Int)))))) (b := ((((((c.made : Int) == (d.made : Int)) && (((c.life : Int) == (d.life : Int)))) && ((((c.mine : Int) : Int) == ((d.mine : Int) : Int)))) && ((((c.peers : Int) : Int) == ((d.peers : Int) : Int)))) && ((((c.mtsn : Int) : Int) == ((d.mtsn : Int) : Int))))) (want := true) hgb (want_t _) (fun hc => ?_) (fun hc => under_no hc)
      replace h1 := h1.get hc
      exact give_of (exec_get one22 rfl h1 (kv5 (hb2.ext hR))) ⟨Ext.refl _, under_yes hc⟩
    refine GoodAll.cons ?_ ?_
    · intro r wx hR hx
      obtain ⟨h1, h2, _⟩ := hx
      replace h1 : Under ((((((((c.made : Int) == (d.made : Int)) && (((c.life : Int) == (d.life : Int)))) && ((((c.mine : Int) : Int) == ((d.mine : Int) : Int)))) && ((((c.peers : Int) : Int) == ((d.peers : Int) : Int)))) && ((((c.mtsn : Int) : Int) == ((d.mtsn : Int) : Int)))))) (.int .u32 (c.ptsn : Int)) wx (r (.tmp 40)) := h1
      replace h2 : Under ((((((((c.made : Int) == (d.made : Int)) && (((c.life : Int) == (d.life : Int)))) && ((((c.mine : Int) : Int) == ((d.mine : Int) : Int)))) && ((((c.peers : Int) : Int) == ((d.peers : Int) : Int)))) && ((((c.mtsn : Int) : Int) == ((d.mtsn : Int) : Int)))))) (.int .u32 (d.ptsn : Int)) wx (r (.tmp 42)) := h2
      intro gb hgb
      refine guard_u (C := (((((((c.made : Int) == (d.made : Int)) && (((c.life : Int) == (d.life : Int)))) && ((((c.mine : Int) : Int) == ((d.mine : Int) : Int)))) && ((((c.peers : Int) : Int) == ((d.peers : Int) : Int)))) && ((((c.mtsn : Int) : Int) == ((d.mtsn : Int) : Int)))))) (b := ((((((c.made : Int) == (d.made : Int)) && (((c.life : Int) == (d.life : Int)))) && ((((c.mine : Int) : Int) == ((d.mine : Int) : Int)))) && ((((c.peers : Int) : Int) == ((d.peers : Int) : Int)))) && ((((c.mtsn : Int) : Int) == ((d.mtsn : Int) : Int))))) (want := true) hgb (want_t _) (fun hc => ?_) (fun hc => under_no hc)
      replace h1 := h1.get hc
      replace h2 := h2.get hc
      exact give_of (by simp [execOp, h1, h2, go_sem]) ⟨Ext.refl _, under_yes hc⟩
    refine GoodAll.cons ?_ ?_
    · intro r wx hR hx
      obtain ⟨h1, h2, h3, _⟩ := hx
      replace h1 : r (.tmp 38) = .bool ((((((c.made : Int) == (d.made : Int)) && (((c.life : Int) == (d.life : Int)))) && ((((c.mine : Int) : Int) == ((d.mine : Int) : Int)))) && ((((c.peers : Int) : Int) == ((d.peers : Int) : Int)))) && ((((c.mtsn : Int) : Int) == ((d.mtsn : Int) : Int)))) := h1
      replace h2 : Under ((((((((c.made : Int) == (d.made : Int)) && (((c.life : Int) == (d.life : Int)))) && ((((c.mine : Int) : Int) == ((d.mine : Int) : Int)))) && ((((c.peers : Int) : Int) == ((d.peers : Int) : Int)))) && ((((c.mtsn : Int) : Int) == ((d.mtsn : Int) : Int)))))) (.bool (((c.ptsn : Int) : Int) == ((d.ptsn : Int) : Int))) wx (r (.tmp 43)) := h2
      replace h3 : r (.const (.bool false)) = .bool false := h3
      exact give_and rfl h3 h1 (fun hb => h2.get (by first | exact hb | (rw [hc, hb]; rfl) | (rw [hb]; rfl))) ⟨Ext.refl _, rfl⟩
    refine GoodAll.cons ?_ ?_
    · intro r wx hR hx
      obtain ⟨h1, _⟩ := hx
      replace h1 : r (.tmp 44) = .bool (((((((c.made : Int) == (d.made : Int)) && (((c.life : Int) == (d.life : Int)))) && ((((c.mine : Int) : Int) == ((d.mine : Int) : Int)))) && ((((c.peers : Int) : Int) == ((d.peers : Int) : Int)))) && ((((c.mtsn : Int) : Int) == ((d.mtsn : Int) : Int)))) && ((((c.ptsn : Int) : Int) == ((d.ptsn : Int) : Int)))) := h1
      exact give_move (.inl rfl) ⟨Ext.refl _, h1⟩
    refine GoodAll.cons ?_ ?_
    · intro r wx hR hx
      obtain ⟨h1, _⟩ := hx
      replace h1 : r (.tmp 2) = .pointer (some ⟨w.heap.size, 0, none⟩) := h1
      intro gb hgb
      refine guard_u (C := ((((((((c.made : Int) == (d.made : Int)) && (((c.life : Int) == (d.life : Int)))) && ((((c.mine : Int) : Int) == ((d.mine : Int) : Int)))) && ((((c.peers : Int) : Int) == ((d.peers : Int) : Int)))) && ((((c.mtsn : Int) : Int) == ((d.mtsn : Int) : Int)))) && ((((c.ptsn : Int) : Int) == ((d.ptsn : Int) : Int)))))) (b := (((((((c.made : Int) == (d.made : Int)) && (((c.life : Int) == (d.life : Int)))) && ((((c.mine : Int) : Int) == ((d.mine : Int) : Int)))) && ((((c.peers : Int) : Int) == ((d.peers : Int) : Int)))) && ((((c.mtsn : Int) : Int) == ((d.mtsn : Int) : Int)))) && ((((c.ptsn : Int) : Int) == ((d.ptsn : Int) : Int))))) (want := true) hgb (want_t _) (fun hc => ?_) (fun hc => under_no hc)
      exact give_of (by simp [execOp, h1, go_sem]) ⟨Ext.refl _, under_yes hc⟩
    refine GoodAll.cons ?_ ?_
    · intro r wx hR hx
      obtain ⟨h1, _⟩ := hx
      replace h1 : Under (((((((((c.made : Int) == (d.made : Int)) && (((c.life : Int) == (d.life : Int)))) && ((((c.mine : Int) : Int) == ((d.mine : Int) : Int)))) && ((((c.peers : Int) : Int) == ((d.peers : Int) : Int)))) && ((((c.mtsn : Int) : Int) == ((d.mtsn : Int) : Int)))) && ((((c.ptsn : Int) : Int) == ((d.ptsn : Int) : Int)))))) (.pointer (some ⟨w.heap.size, 6, none⟩)) wx (r (.tmp 46)) := h1
      intro gb hgb
      refine guard_u (C := ((((((((c.made : Int) == (d.made : Int)) && (((c.life : Int) == (d.life : Int)))) && ((((c.mine : Int) : Int) == ((d.mine : Int) : Int)))) && ((((c.peers : Int) : Int) == ((d.peers : Int) : Int)))) && ((((c.mtsn : Int) : Int) == ((d.mtsn : Int) : Int)))) && ((((c.ptsn : Int) : Int) == ((d.ptsn : Int) : Int)))))) (b := (((((((c.made : Int) == (d.made : Int)) && (((c.life : Int) == (d.life : Int)))) && ((((c.mine : Int) : Int) == ((d.mine : Int) : Int)))) && ((((c.peers : Int) : Int) == ((d.peers : Int) : Int)))) && ((((c.mtsn : Int) : Int) == ((d.mtsn : Int) : Int)))) && ((((c.ptsn : Int) : Int) == ((d.ptsn : Int) : Int))))) (want := true) hgb (want_t _) (fun hc => ?_) (fun hc => under_no hc)
      replace h1 := h1.get hc
      exact give_of (exec_get one3 rfl h1 (kv6 (hb1'.ext hR))) ⟨Ext.refl _, under_yes hc⟩
    refine GoodAll.cons ?_ ?_
    · intro r wx hR hx
      obtain ⟨h1, _⟩ := hx
      replace h1 : r (.tmp 3) = .pointer (some ⟨w1.heap.size, 0, none⟩) := h1
      intro gb hgb
      refine guard_u (C := ((((((((c.made : Int) == (d.made : Int)) && (((c.life : Int) == (d.life : Int)))) && ((((c.mine : Int) : Int) == ((d.mine : Int) : Int)))) && ((((c.peers : Int) : Int) == ((d.peers : Int) : Int)))) && ((((c.mtsn : Int) : Int) == ((d.mtsn : Int) : Int)))) && ((((c.ptsn : Int) : Int) == ((d.ptsn : Int) : Int)))))) (b := (((((((c.made : Int) == (d.made : Int)) && (((c.life : Int) == (d.life : Int)))) && ((((c.mine : Int) : Int) == ((d.mine : Int) : Int)))) && ((((c.peers : Int) : Int) == ((d.peers : Int) : Int)))) && ((((c.mtsn : Int) : Int) == ((d.mtsn : Int) : Int)))) && ((((c.ptsn : Int) : Int) == ((d.ptsn : Int) : Int))))) (want := true) hgb (want_t _) (fun hc => ?_) (fun hc => under_no hc)
      exact give_of (by simp [execOp, h1, go_sem]) ⟨Ext.refl _, under_yes hc⟩
    refine GoodAll.cons ?_ ?_
    · intro r wx hR hx
      obtain ⟨h1, _⟩ := hx
      replace h1 : Under (((((((((c.made : Int) == (d.made : Int)) && (((c.life : Int) == (d.life : Int)))) && ((((c.mine : Int) : Int) == ((d.mine : Int) : Int)))) && ((((c.peers : Int) : Int) == ((d.peers : Int) : Int)))) && ((((c.mtsn : Int) : Int) == ((d.mtsn : Int) : Int)))) && ((((c.ptsn : Int) : Int) == ((d.ptsn : Int) : Int)))))) (.pointer (some ⟨w1.heap.size, 6, none⟩)) wx (r (.tmp 48)) := h1
      intro gb hgb
      refine guard_u (C := ((((((((c.made : Int) == (d.made : Int)) && (((c.life : Int) == (d.life : Int)))) && ((((c.mine : Int) : Int) == ((d.mine : Int) : Int)))) && ((((c.peers : Int) : Int) == ((d.peers : Int) : Int)))) && ((((c.mtsn : Int) : Int) == ((d.mtsn : Int) : Int)))) && ((((c.ptsn : Int) : Int) == ((d.ptsn : Int) : Int)))))) (b := (((((((c.made : Int) == (d.made : Int)) && (((c.life : Int) == (d.life : Int)))) && ((((c.mine : Int) : Int) == ((d.mine : Int) : Int)))) && ((((c.peers : Int) : Int) == ((d.peers : Int) : Int)))) && ((((c.mtsn : Int) : Int) == ((d.mtsn : Int) : Int)))) && ((((c.ptsn : Int) : Int) == ((d.ptsn : Int) : Int))))) (want := true) hgb (want_t _) (fun hc => ?_) (fun hc => under_no hc)
      replace h1 := h1.get hc
      exact give_of (exec_get one3 rfl h1 (kv6 (hb2.ext hR))) ⟨Ext.refl _, under_yes hc⟩
    refine GoodAll.cons ?_ ?_
    · intro r wx hR hx
      obtain ⟨h1, h2, _⟩ := hx
      replace h1 : Under (((((((((c.made : Int) == (d.made : Int)) && (((c.life : Int) == (d.life : Int)))) && ((((c.mine : Int) : Int) == ((d.mine : Int) : Int)))) && ((((c.peers : Int) : Int) == ((d.peers : Int) : Int)))) && ((((c.mtsn : Int) : Int) == ((d.mtsn : Int) : Int)))) && ((((c.ptsn : Int) : Int) == ((d.ptsn : Int) : Int)))))) (.int .i64 c.win) wx (r (.tmp 47)) := h1
      replace h2 : Under (((((((((c.made : Int) == (d.made : Int)) && (((c.life : Int) == (d.life : Int)))) && ((((c.mine : Int) : Int) == ((d.mine : Int) : Int)))) && ((((c.peers : Int) : Int) == ((d.peers : Int) : Int)))) && ((((c.mtsn : Int) : Int) == ((d.mtsn : Int) : Int)))) && ((((c.ptsn : Int) : Int) == ((d.ptsn : Int) : Int)))))) (.int .i64 d.win) wx (r (.tmp 49)) := h2
      intro gb hgb
      refine guard_u (C := ((((((((c.made : Int) == (d.made : Int)) && (((c.life : Int) == (d.life : Int)))) && ((((c.mine : Int) : Int) == ((d.mine : Int) : Int)))) && ((((c.peers : Int) : Int) == ((d.peers : Int) : Int)))) && ((((c.mtsn : Int) : Int) == ((d.mtsn : Int) : Int)))) && ((((c.ptsn : Int) : Int) == ((d.ptsn : Int) : Int)))))) (b := (((((((c.made : Int) == (d.made : Int)) && (((c.life : Int) == (d.life : Int)))) && ((((c.mine : Int) : Int) == ((d.mine : Int) : Int)))) && ((((c.peers : Int) : Int) == ((d.peers : Int) : Int)))) && ((((c.mtsn : Int) : Int) == ((d.mtsn : Int) : Int)))) && ((((c.ptsn : Int) : Int) == ((d.ptsn : Int) : Int))))) (want := true) hgb (want_t _) (fun hc => ?_) (fun hc => under_no hc)
      replace h1 := h1.get hc
      replace h2 := h2.get hc
      exact give_of (by simp [execOp, h1, h2, go_sem]) ⟨Ext.refl _, under_yes hc⟩
    refine GoodAll.cons ?_ ?_
    · intro r wx hR hx
      obtain ⟨h1, h2, h3, _⟩ := hx
      replace h1 : r (.tmp 45) = .bool (((((((c.made : Int) == (d.made : Int)) && (((c.life : Int) == (d.life : Int)))) && ((((c.mine : Int) : Int) == ((d.mine : Int) : Int)))) && ((((c.peers : Int) : Int) == ((d.peers : Int) : Int)))) && ((((c.mtsn : Int) : Int) == ((d.mtsn : Int) : Int)))) && ((((c.ptsn : Int) : Int) == ((d.ptsn : Int) : Int)))) := h1
      replace h2 : Under (((((((((c.made : Int) == (d.made : Int)) && (((c.life : Int) == (d.life : Int)))) && ((((c.mine : Int) : Int) == ((d.mine : Int) : Int)))) && ((((c.peers : Int) : Int) == ((d.peers : Int) : Int)))) && ((((c.mtsn : Int) : Int) == ((d.mtsn : Int) : Int)))) && ((((c.ptsn : Int) : Int) == ((d.ptsn : Int) : Int)))))) (.bool ((c.win : Int) == (d.win : Int))) wx (r (.tmp 50)) := h2
      replace h3 : r (.const (.bool false)) = .bool false := h3
      exact give_and rfl h3 h1 (fun hb => h2.get (by first | exact hb | (rw [hc, hb]; rfl) | (rw [hb]; rfl))) ⟨Ext.refl _, rfl⟩
    refine GoodAll.cons ?_ ?_
    · intro r wx hR hx
      obtain ⟨h1, _⟩ := hx
      replace h1 : r (.tmp 51) = .bool ((((((((c.made : Int) == (d.made : Int)) && (((c.life : Int) == (d.life : Int)))) && ((((c.mine : Int) : Int) == ((d.mine : Int) : Int)))) && ((((c.peers : Int) : Int) == ((d.peers : Int) : Int)))) && ((((c.mtsn : Int) : Int) == ((d.mtsn : Int) : Int)))) && ((((c.ptsn : Int) : Int) == ((d.ptsn : Int) : Int)))) && (((c.win : Int) == (d.win : Int)))) := h1
      exact give_move (.inl rfl) ⟨Ext.refl _, h1⟩
    refine GoodAll.cons ?_ ?_
    · intro r wx hR hx
      obtain ⟨h1, _⟩ := hx
      replace h1 : r (.tmp 2) = .pointer (some ⟨w.heap.size, 0, none⟩) := h1
      intro gb hgb
      refine guard_u (C := (((((((((c.made : Int) == (d.made : Int)) && (((c.life : Int) == (d.life : Int)))) && ((((c.mine : Int) : Int) == ((d.mine : Int) : Int)))) && ((((c.peers : Int) : Int) == ((d.peers : Int) : Int)))) && ((((c.mtsn : Int) : Int) == ((d.mtsn : Int) : Int)))) && ((((c.ptsn : Int) : Int) == ((d.ptsn : Int) : Int)))) && (((c.win : Int) == (d.win : Int)))))) (b := ((((((((c.made : Int) == (d.made : Int)) && (((c.life : Int) == (d.life : Int)))) && ((((c.mine : Int) : Int) == ((d.mine : Int) : Int)))) && ((((c.peers : Int) : Int) == ((d.peers : Int) : Int)))) && ((((c.mtsn : Int) : Int) == ((d.mtsn : Int) : Int)))) && ((((c.ptsn : Int) : Int) == ((d.ptsn : Int) : Int)))) && (((c.win : Int) == (d.win : Int))))) (want := true) hgb (want_t _) (fun hc => ?_) (fun hc => under_no hc)
      exact give_of (by simp [execOp, h1, go_sem]) ⟨Ext.refl _, under_yes hc⟩
    refine GoodAll.cons ?_ ?_
    · intro r wx hR hx
      obtain ⟨h1, _⟩ := hx
      replace h1 : Under ((((((((((c.made : Int) == (d.made : Int)) && (((c.life : Int) == (d.life : Int)))) && ((((c.mine : Int) : Int) == ((d.mine : Int) : Int)))) && ((((c.peers : Int) : Int) == ((d.peers : Int) : Int)))) && ((((c.mtsn : Int) : Int) == ((d.mtsn : Int) : Int)))) && ((((c.ptsn : Int) : Int) == ((d.ptsn : Int) : Int)))) && (((c.win : Int) == (d.win : Int)))))) (.pointer (some ⟨w.heap.size, 7, none⟩)) wx (r (.tmp 53)) := h1
      intro gb hgb
      refine guard_u (C := (((((((((c.made : Int) == (d.made : Int)) && (((c.life : Int) == (d.life : Int)))) && ((((c.mine : Int) : Int) == ((d.mine : Int) : Int)))) && ((((c.peers : Int) : Int) == ((d.peers : Int) : Int)))) && ((((c.mtsn : Int) : Int) == ((d.mtsn : Int) : Int)))) && ((((c.ptsn : Int) : Int) == ((d.ptsn : Int) : Int)))) && (((c.win : Int) == (d.win : Int)))))) (b := ((((((((c.made : Int) == (d.made : Int)) && (((c.life : Int) == (d.life : Int)))) && ((((c.mine : Int) : Int) == ((d.mine : Int) : Int)))) && ((((c.peers : Int) : Int) == ((d.peers : Int) : Int)))) && ((((c.mtsn : Int) : Int) == ((d.mtsn : Int) : Int)))) && ((((c.ptsn : Int) : Int) == ((d.ptsn : Int) : Int)))) && (((c.win : Int) == (d.win : Int))))) (want := true) hgb (want_t _) (fun hc => ?_) (fun hc => under_no hc)
      replace h1 := h1.get hc
      exact give_of (exec_get one3 rfl h1 (kv7 (hb1'.ext hR))) ⟨Ext.refl _, under_yes hc⟩
    refine GoodAll.cons ?_ ?_
    · intro r wx hR hx
      obtain ⟨h1, _⟩ := hx
      replace h1 : r (.tmp 3) = .pointer (some ⟨w1.heap.size, 0, none⟩) := h1
      intro gb hgb
      refine guard_u (C := (((((((((c.made : Int) == (d.made : Int)) && (((c.life : Int) == (d.life : Int)))) && ((((c.mine : Int) : Int) == ((d.mine : Int) : Int)))) && ((((c.peers : Int) : Int) == ((d.peers : Int) : Int)))) && ((((c.mtsn : Int) : Int) == ((d.mtsn : Int) : Int)))) && ((((c.ptsn : Int) : Int) == ((d.ptsn : Int) : Int)))) && (((c.win : Int) == (d.win : Int)))))) (b := ((((((((c.made : Int) == (d.made : Int)) && (((c.life : Int) == (d.life : Int)))) && ((((c.mine : Int) : Int) == ((d.mine : Int) : Int)))) && ((((c.peers : Int) : Int) == ((d.peers : Int) : Int)))) && ((((c.mtsn : Int) : Int) == ((d.mtsn : Int) : Int)))) && ((((c.ptsn : Int) : Int) == ((d.ptsn : Int) : Int)))) && (((c.win : Int) == (d.win : Int))))) (want := true) hgb (want_t _) (fun hc => ?_) (fun hc => under_no hc)
      exact give_of (by simp [execOp, h1, go_sem]) ⟨Ext.refl _, under_yes hc⟩
    refine GoodAll.cons ?_ ?_
    · intro r wx hR hx
      obtain ⟨h1, _⟩ := hx
      replace h1 : Under ((((((((((c.made : Int) == (d.made : Int)) && (((c.life : Int) == (d.life : Int)))) && ((((c.mine : Int) : Int) == ((d.mine : Int) : Int)))) && ((((c.peers : Int) : Int) == ((d.peers : Int) : Int)))) && ((((c.mtsn : Int) : Int) == ((d.mtsn : Int) : Int)))) && ((((c.ptsn : Int) : Int) == ((d.ptsn : Int) : Int)))) && (((c.win : Int) == (d.win : Int)))))) (.pointer (some ⟨w1.heap.size, 7, none⟩)) wx (r (.tmp 55)) := h1
      intro gb hgb
      refine guard_u (C := (((((((((c.made : Int) == (d.made : Int)) && (((c.life : Int) == (d.life : Int)))) && ((((c.mine : Int) : Int) == ((d.mine : Int) : Int)))) && ((((c.peers : Int) : Int) == ((d.peers : Int) : Int)))) && ((((c.mtsn : Int) : Int) == ((d.mtsn : Int) : Int)))) && ((((c.ptsn : Int) : Int) == ((d.ptsn : Int) : Int)))) && (((c.win : Int) == (d.win : Int)))))) (b := ((((((((c.made : Int) == (d.made : Int)) && (((c.life : Int) == (d.life : Int)))) && ((((c.mine : Int) : Int) == ((d.mine : Int) : Int)))) && ((((c.peers : Int) : Int) == ((d.peers : Int) : Int)))) && ((((c.mtsn : Int) : Int) == ((d.mtsn : Int) : Int)))) && ((((c.ptsn : Int) : Int) == ((d.ptsn : Int) : Int)))) && (((c.win : Int) == (d.win : Int))))) (want := true) hgb (want_t _) (fun hc => ?_) (fun hc => under_no hc)
      replace h1 := h1.get hc
      exact give_of (exec_get one3 rfl h1 (kv7 (hb2.ext hR))) ⟨Ext.refl _, under_yes hc⟩
    refine GoodAll.cons ?_ ?_
    · intro r wx hR hx
      obtain ⟨h1, h2, _⟩ := hx
      replace h1 : Under ((((((((((c.made : Int) == (d.made : Int)) && (((c.life : Int) == (d.life : Int)))) && ((((c.mine : Int) : Int) == ((d.mine : Int) : Int)))) && ((((c.peers : Int) : Int) == ((d.peers : Int) : Int)))) && ((((c.mtsn : Int) : Int) == ((d.mtsn : Int) : Int)))) && ((((c.ptsn : Int) : Int) == ((d.ptsn : Int) : Int)))) && (((c.win : Int) == (d.win : Int)))))) (.int .i64 c.out) wx (r (.tmp 54)) := h1
      replace h2 : Under ((((((((((c.made : Int) == (d.made : Int)) && (((c.life : Int) == (d.life : Int)))) && ((((c.mine : Int) : Int) == ((d.mine : Int) : Int)))) && ((((c.peers : Int) : Int) == ((d.peers : Int) : Int)))) && ((((c.mtsn : Int) : Int) == ((d.mtsn : Int) : Int)))) && ((((c.ptsn : Int) : Int) == ((d.ptsn : Int) : Int)))) && (((c.win : Int) == (d.win : Int)))))) (.int .i64 d.out) wx (r (.tmp 56)) := h2
      intro gb hgb
      refine guard_u (C := (((((((((c.made : Int) == (d.made : Int)) && (((c.life : Int) == (d.life : Int)))) && ((((c.mine : Int) : Int) == ((d.mine : Int) : Int)))) && ((((c.peers : Int) : Int) == ((d.peers : Int) : Int)))) && ((((c.mtsn : Int) : Int) == ((d.mtsn : Int) : Int)))) && ((((c.ptsn : Int) : Int) == ((d.ptsn : Int) : Int)))) && (((c.win : Int) == (d.win : Int)))))) (b := ((((((((c.made : Int) == (d.made : Int)) && (((c.life : Int) == (d.life : Int)))) && ((((c.mine : Int) : Int) == ((d.mine : Int) : Int)))) && ((((c.peers : Int) : Int) == ((d.peers : Int) : Int)))) && ((((c.mtsn : Int) : Int) == ((d.mtsn : Int) : Int)))) && ((((c.ptsn : Int) : Int) == ((d.ptsn : Int) : Int)))) && (((c.win : Int) == (d.win : Int))))) (want := true) hgb (want_t _) (fun hc => ?_) (fun hc => under_no hc)
      replace h1 := h1.get hc
      replace h2 := h2.get hc
      exact give_of (by simp [execOp, h1, h2, go_sem]) ⟨Ext.refl _, under_yes hc⟩
    refine GoodAll.cons ?_ ?_
    · intro r wx hR hx
      obtain ⟨h1, h2, h3, _⟩ := hx
      replace h1 : r (.tmp 52) = .bool ((((((((c.made : Int) == (d.made : Int)) && (((c.life : Int) == (d.life : Int)))) && ((((c.mine : Int) : Int) == ((d.mine : Int) : Int)))) && ((((c.peers : Int) : Int) == ((d.peers : Int) : Int)))) && ((((c.mtsn : Int) : Int) == ((d.mtsn : Int) : Int)))) && ((((c.ptsn : Int) : Int) == ((d.ptsn : Int) : Int)))) && (((c.win : Int) == (d.win : Int)))) := h1
      replace h2 : Under ((((((((((c.made : Int) == (d.made : Int)) && (((c.life : Int) == (d.life : Int)))) && ((((c.mine : Int) : Int) == ((d.mine : Int) : Int)))) && ((((c.peers : Int) : Int) == ((d.peers : Int) : Int)))) && ((((c.mtsn : Int) : Int) == ((d.mtsn : Int) : Int)))) && ((((c.ptsn : Int) : Int) == ((d.ptsn : Int) : Int)))) && (((c.win : Int) == (d.win : Int)))))) (.bool ((c.out : Int) == (d.out : Int))) wx (r (.tmp 57)) := h2
      replace h3 : r (.const (.bool false)) = .bool false := h3
      exact give_and rfl h3 h1 (fun hb => h2.get (by first | exact hb | (rw [hc, hb]; rfl) | (rw [hb]; rfl))) ⟨Ext.refl _, rfl⟩
    refine GoodAll.cons ?_ ?_
    · intro r wx hR hx
      obtain ⟨h1, _⟩ := hx
      replace h1 : r (.tmp 58) = .bool (((((((((c.made : Int) == (d.made : Int)) && (((c.life : Int) == (d.life : Int)))) && ((((c.mine : Int) : Int) == ((d.mine : Int) : Int)))) && ((((c.peers : Int) : Int) == ((d.peers : Int) : Int)))) && ((((c.mtsn : Int) : Int) == ((d.mtsn : Int) : Int)))) && ((((c.ptsn : Int) : Int) == ((d.ptsn : Int) : Int)))) && (((c.win : Int) == (d.win : Int)))) && (((c.out : Int) == (d.out : Int)))) := h1
      exact give_move (.inl rfl) ⟨Ext.refl _, h1⟩
    refine GoodAll.cons ?_ ?_
    · intro r wx hR hx
      obtain ⟨h1, _⟩ := hx
      replace h1 : r (.tmp 2) = .pointer (some ⟨w.heap.size, 0, none⟩) := h1
      intro gb hgb
      refine guard_u (C := ((((((((((c.made : Int) == (d.made : Int)) && (((c.life : Int) == (d.life : Int)))) && ((((c.mine : Int) : Int) == ((d.mine : Int) : Int)))) && ((((c.peers : Int) : Int) == ((d.peers : Int) : Int)))) && ((((c.mtsn : Int) : Int) == ((d.mtsn : Int) : Int)))) && ((((c.ptsn : Int) : Int) == ((d.ptsn : Int) : Int)))) && (((c.win : Int) == (d.win : Int)))) && (((c.out : Int) == (d.out : Int)))))) (b := (((((((((c.made : Int) == (d.made : Int)) && (((c.life : Int) == (d.life : Int)))) && ((((c.mine : Int) : Int) == ((d.mine : Int) : Int)))) && ((((c.peers : Int) : Int) == ((d.peers : Int) : Int)))) && ((((c.mtsn : Int) : Int) == ((d.mtsn : Int) : Int)))) && ((((c.ptsn : Int) : Int) == ((d.ptsn : Int) : Int)))) && (((c.win : Int) == (d.win : Int)))) && (((c.out : Int) == (d.out : Int))))) (want := true) hgb (want_t _) (fun hc => ?_) (fun hc => under_no hc)
      exact give_of (by simp [execOp, h1, go_sem]) ⟨Ext.refl _, under_yes hc⟩
    refine GoodAll.cons ?_ ?_
    · intro r wx hR hx
      obtain ⟨h1, _⟩ := hx
      replace h1 : Under (((((((((((c.made : Int) == (d.made : Int)) && (((c.life : Int) == (d.life : Int)))) && ((((c.mine : Int) : Int) == ((d.mine : Int) : Int)))) && ((((c.peers : Int) : Int) == ((d.peers : Int) : Int)))) && ((((c.mtsn : Int) : Int) == ((d.mtsn : Int) : Int)))) && ((((c.ptsn : Int) : Int) == ((d.ptsn : Int) : Int)))) && (((c.win : Int) == (d.win : Int)))) && (((c.out : Int) == (d.out : Int)))))) (.pointer (some ⟨w.heap.size, 8, none⟩)) wx (r (.tmp 60)) := h1
      intro gb hgb
      refine guard_u (C := ((((((((((c.made : Int) == (d.made : Int)) && (((c.life : Int) == (d.life : Int)))) && ((((c.mine : Int) : Int) == ((d.mine : Int) : Int)))) && ((((c.peers : Int) : Int) == ((d.peers : Int) : Int)))) && ((((c.mtsn : Int) : Int) == ((d.mtsn : Int) : Int)))) && ((((c.ptsn : Int) : Int) == ((d.ptsn : Int) : Int)))) && (((c.win : Int) == (d.win : Int)))) && (((c.out : Int) == (d.out : Int)))))) (b := (((((((((c.made : Int) == (d.made : Int)) && (((c.life : Int) == (d.life : Int)))) && ((((c.mine : Int) : Int) == ((d.mine : Int) : Int)))) && ((((c.peers : Int) : Int) == ((d.peers : Int) : Int)))) && ((((c.mtsn : Int) : Int) == ((d.mtsn : Int) : Int)))) && ((((c.ptsn : Int) : Int) == ((d.ptsn : Int) : Int)))) && (((c.win : Int) == (d.win : Int)))) && (((c.out : Int) == (d.out : Int))))) (want := true) hgb (want_t _) (fun hc => ?_) (fun hc => under_no hc)
      replace h1 := h1.get hc
      exact give_of (exec_get one3 rfl h1 (kv8 (hb1'.ext hR))) ⟨Ext.refl _, under_yes hc⟩
    refine GoodAll.cons ?_ ?_
    · intro r wx hR hx
      obtain ⟨h1, _⟩ := hx
      replace h1 : r (.tmp 3) = .pointer (some ⟨w1.heap.size, 0, none⟩) := h1
      intro gb hgb
      refine guard_u (C := ((((((((((c.made : Int) == (d.made : Int)) && (((c.life : Int) == (d.life : Int)))) && ((((c.mine : Int) : Int) == ((d.mine : Int) : Int)))) && ((((c.peers : Int) : Int) == ((d.peers : Int) : Int)))) && ((((c.mtsn : Int) : Int) == ((d.mtsn : Int) : Int)))) && ((((c.ptsn : Int) : Int) == ((d.ptsn : Int) : Int)))) && (((c.win : Int) == (d.win : Int)))) && (((c.out : Int) == (d.out : Int)))))) (b := (((((((((c.made : Int) == (d.made : Int)) && (((c.life : Int) == (d.life : Int)))) && ((((c.mine : Int) : Int) == ((d.mine : Int) : Int)))) && ((((c.peers : Int) : Int) == ((d.peers : Int) : Int)))) && ((((c.mtsn : Int) : Int) == ((d.mtsn : Int) : Int)))) && ((((c.ptsn : Int) : Int) == ((d.ptsn : Int) : Int)))) && (((c.win : Int) == (d.win : Int)))) && (((c.out : Int) == (d.out : Int))))) (want := true) hgb (want_t _) (fun hc => ?_) (fun hc => under_no hc)
      exact give_of (by simp [execOp, h1, go_sem]) ⟨Ext.refl _, under_yes hc⟩
    refine GoodAll.cons ?_ ?_
    · intro r wx hR hx
      obtain ⟨h1, _⟩ := hx
      replace h1 : Under (((((((((((c.made : Int) == (d.made : Int)) && (((c.life : Int) == (d.life : Int)))) && ((((c.mine : Int) : Int) == ((d.mine : Int) : Int)))) && ((((c.peers : Int) : Int) == ((d.peers : Int) : Int)))) && ((((c.mtsn : Int) : Int) == ((d.mtsn : Int) : Int)))) && ((((c.ptsn : Int) : Int) == ((d.ptsn : Int) : Int)))) && (((c.win : Int) == (d.win : Int)))) && (((c.out : Int) == (d.out : Int)))))) (.pointer (some ⟨w1.heap.size, 8, none⟩)) wx (r (.tmp 62)) := h1
      intro gb hgb
      refine guard_u (C := ((((((((((c.made : Int) == (d.made : Int)) && (((c.life : Int) == (d.life : Int)))) && ((((c.mine : Int) : Int) == ((d.mine : Int) : Int)))) && ((((c.peers : Int) : Int) == ((d.peers : Int) : Int)))) && ((((c.mtsn : Int) : Int) == ((d.mtsn : Int) : Int)))) && ((((c.ptsn : Int) : Int) == ((d.ptsn : Int) : Int)))) && (((c.win : Int) == (d.win : Int)))) && (((c.out : Int) == (d.out : Int)))))) (b := (((((((((c.made : Int) == (d.made : Int)) && (((c.life : Int) == (d.life : Int)))) && ((((c.mine : Int) : Int) == ((d.mine : Int) : Int)))) && ((((c.peers : Int) : Int) == ((d.peers : Int) : Int)))) && ((((c.mtsn : Int) : Int) == ((d.mtsn : Int) : Int)))) && ((((c.ptsn : Int) : Int) == ((d.ptsn : Int) : Int)))) && (((c.win : Int) == (d.win : Int)))) && (((c.out : Int) == (d.out : Int))))) (want := true) hgb (want_t _) (fun hc => ?_) (fun hc => under_no hc)
      replace h1 := h1.get hc
      exact give_of (exec_get one3 rfl h1 (kv8 (hb2.ext hR))) ⟨Ext.refl _, under_yes hc⟩
    refine GoodAll.cons ?_ ?_
    · intro r wx hR hx
      obtain ⟨h1, h2, _⟩ := hx
      replace h1 : Under (((((((((((c.made : Int) == (d.made : Int)) && (((c.life : Int) == (d.life : Int)))) && ((((c.mine : Int) : Int) == ((d.mine : Int) : Int)))) && ((((c.peers : Int) : Int) == ((d.peers : Int) : Int)))) && ((((c.mtsn : Int) : Int) == ((d.mtsn : Int) : Int)))) && ((((c.ptsn : Int) : Int) == ((d.ptsn : Int) : Int)))) && (((c.win : Int) == (d.win : Int)))) && (((c.out : Int) == (d.out : Int)))))) (.int .i64 c.inn) wx (r (.tmp 61)) := h1
      replace h2 : Under (((((((((((c.made : Int) == (d.made : Int)) && (((c.life : Int) == (d.life : Int)))) && ((((c.mine : Int) : Int) == ((d.mine : Int) : Int)))) && ((((c.peers : Int) : Int) == ((d.peers : Int) : Int)))) && ((((c.mtsn : Int) : Int) == ((d.mtsn : Int) : Int)))) && ((((c.ptsn : Int) : Int) == ((d.ptsn : Int) : Int)))) && (((c.win : Int) == (d.win : Int)))) && (((c.out : Int) == (d.out : Int)))))) (.int .i64 d.inn) wx (r (.tmp 63)) := h2
      intro gb hgb
      refine guard_u (C := ((((((((((c.made : Int) == (d.made : Int)) && (((c.life : Int) == (d.life : Int)))) && ((((c.mine : Int) : Int) == ((d.mine : Int) : Int)))) && ((((c.peers : Int) : Int) == ((d.peers : Int) : Int)))) && ((((c.mtsn : Int) : Int) == ((d.mtsn : Int) : Int)))) && ((((c.ptsn : Int) : Int) == ((d.ptsn : Int) : Int)))) && (((c.win : Int) == (d.win : Int)))) && (((c.out : Int) == (d.out : Int)))))) (b := (((((((((c.made : Int) == (d.made : Int)) && (((c.life : Int) == (d.life : Int)))) && ((((c.mine : Int) : Int) == ((d.mine : Int) : Int)))) && ((((c.peers : Int) : Int) == ((d.peers : Int) : Int)))) && ((((c.mtsn : Int) : Int) == ((d.mtsn : Int) : Int)))) && ((((c.ptsn : Int) : Int) == ((d.ptsn : Int) : Int)))) && (((c.win : Int) == (d.win : Int)))) && (((c.out : Int) == (d.out : Int))))) (want := true) hgb (want_t _) (fun hc => ?_) (fun hc => under_no hc)
      replace h1 := h1.get hc
      replace h2 := h2.get hc
      exact give_of (by simp [execOp, h1, h2, go_sem]) ⟨Ext.refl _, under_yes hc⟩
    refine GoodAll.cons ?_ ?_
    · intro r wx hR hx
      obtain ⟨h1, h2, h3, _⟩ := hx
      replace h1 : r (.tmp 59) = .bool (((((((((c.made : Int) == (d.made : Int)) && (((c.life : Int) == (d.life : Int)))) && ((((c.mine : Int) : Int) == ((d.mine : Int) : Int)))) && ((((c.peers : Int) : Int) == ((d.peers : Int) : Int)))) && ((((c.mtsn : Int) : Int) == ((d.mtsn : Int) : Int)))) && ((((c.ptsn : Int) : Int) == ((d.ptsn : Int) : Int)))) && (((c.win : Int) == (d.win : Int)))) && (((c.out : Int) == (d.out : Int)))) := h1
      replace h2 : Under (((((((((((c.made : Int) == (d.made : Int)) && (((c.life : Int) == (d.life : Int)))) && ((((c.mine : Int) : Int) == ((d.mine : Int) : Int)))) && ((((c.peers : Int) : Int) == ((d.peers : Int) : Int)))) && ((((c.mtsn : Int) : Int) == ((d.mtsn : Int) : Int)))) && ((((c.ptsn : Int) : Int) == ((d.ptsn : Int) : Int)))) && (((c.win : Int) == (d.win : Int)))) && (((c.out : Int) == (d.out : Int)))))) (.bool ((c.inn : Int) == (d.inn : Int))) wx (r (.tmp 64)) := h2
      replace h3 : r (.const (.bool false)) = .bool false := h3
      exact give_and rfl h3 h1 (fun hb => h2.get (by first | exact hb | (rw [hc, hb]; rfl) | (rw [hb]; rfl))) ⟨Ext.refl _, rfl⟩
    refine GoodAll.cons ?_ ?_
    · intro r wx hR hx
      obtain ⟨h1, _⟩ := hx
      replace h1 : r (.tmp 65) = .bool ((((((((((c.made : Int) == (d.made : Int)) && (((c.life : Int) == (d.life : Int)))) && ((((c.mine : Int) : Int) == ((d.mine : Int) : Int)))) && ((((c.peers : Int) : Int) == ((d.peers : Int) : Int)))) && ((((c.mtsn : Int) : Int) == ((d.mtsn : Int) : Int)))) && ((((c.ptsn : Int) : Int) == ((d.ptsn : Int) : Int)))) && (((c.win : Int) == (d.win : Int)))) && (((c.out : Int) == (d.out : Int)))) && (((c.inn : Int) == (d.inn : Int)))) := h1
      exact give_move (.inl rfl) ⟨Ext.refl _, h1⟩
    refine GoodAll.cons ?_ ?_
    · intro r wx hR hx
      obtain ⟨h1, _⟩ := hx
      replace h1 : r (.tmp 2) = .pointer (some ⟨w.heap.size, 0, none⟩) := h1
      intro gb hgb
      refine guard_u (C := (((((((((((c.made : Int) == (d.made : Int)) && (((c.life : Int) == (d.life : Int)))) && ((((c.mine : Int) : Int) == ((d.mine : Int) : Int)))) && ((((c.peers : Int) : Int) == ((d.peers : Int) : Int)))) && ((((c.mtsn : Int) : Int) == ((d.mtsn : Int) : Int)))) && ((((c.ptsn : Int) : Int) == ((d.ptsn : Int) : Int)))) && (((c.win : Int) == (d.win : Int)))) && (((c.out : Int) == (d.out : Int)))) && (((c.inn : Int) == (d.inn : Int)))))) (b := ((((((((((c.made : Int) == (d.made : Int)) && (((c.life : Int) == (d.life : Int)))) && ((((c.mine : Int) : Int) == ((d.mine : Int) : Int)))) && ((((c.peers : Int) : Int) == ((d.peers : Int) : Int)))) && ((((c.mtsn : Int) : Int) == ((d.mtsn : Int) : Int)))) && ((((c.ptsn : Int) : Int) == ((d.ptsn : Int) : Int)))) && (((c.win : Int) == (d.win : Int)))) && (((c.out : Int) == (d.out : Int)))) && (((c.inn : Int) == (d.inn : Int))))) (want := true) hgb (want_t _) (fun hc => ?_) (fun hc => under_no hc)
      exact give_of (by simp [execOp, h1, go_sem]) ⟨Ext.refl _, under_yes hc⟩
    refine GoodAll.cons ?_ ?_
    · intro r wx hR hx
      obtain ⟨h1, _⟩ := hx
      replace h1 : Under ((((((((((((c.made : Int) == (d.made : Int)) && (((c.life : Int) == (d.life : Int)))) && ((((c.mine : Int) : Int) == ((d.mine : Int) : Int)))) && ((((c.peers : Int) : Int) == ((d.peers : Int) : Int)))) && ((((c.mtsn : Int) : Int) == ((d.mtsn : Int) : Int)))) && ((((c.ptsn : Int) : Int) == ((d.ptsn : Int) : Int)))) && (((c.win : Int) == (d.win : Int)))) && (((c.out : Int) == (d.out : Int)))) && (((c.inn : Int) == (d.inn : Int)))))) (.pointer (some ⟨w.heap.size, 9, none⟩)) wx (r (.tmp 67)) := h1
      intro gb hgb
      refine guard_u (C := (((((((((((c.made : Int) == (d.made : Int)) && (((c.life : Int) == (d.life : Int)))) && ((((c.mine : Int) : Int) == ((d.mine : Int) : Int)))) && ((((c.peers : Int) : Int) == ((d.peers : Int) : Int)))) && ((((c.mtsn : Int) : Int) == ((d.mtsn : Int) : Int)))) && ((((c.ptsn : Int) : Int) == ((d.ptsn : Int) : Int)))) && (((c.win : Int) == (d.win : Int)))) && (((c.out : Int) == (d.out : Int)))) && (((c.inn : Int) == (d.inn : Int)))))) (b := ((((((((((c.made : Int) == (d.made : Int)) && (((c.life : Int) == (d.life : Int)))) && ((((c.mine : Int) : Int) == ((d.mine : Int) : Int)))) && ((((c.peers : Int) : Int) == ((d.peers : Int) : Int)))) && ((((c.mtsn : Int) : Int) == ((d.mtsn : Int) : Int)))) && ((((c.ptsn : Int) : Int) == ((d.ptsn : Int) : Int)))) && (((c.win : Int) == (d.win : Int)))) && (((c.out : Int) == (d.out : Int)))) && (((c.inn : Int) == (d.inn : Int))))) (want := true) hgb (want_t _) (fun hc => ?_) (fun hc => under_no hc)
      replace h1 := h1.get hc
      exact give_of (exec_get oneSA rfl h1 (kv9 (hb1'.ext hR))) ⟨Ext.refl _, under_yes hc⟩
    refine GoodAll.cons ?_ ?_
    · intro r wx hR hx
      obtain ⟨h1, _⟩ := hx
      replace h1 : r (.tmp 3) = .pointer (some ⟨w1.heap.size, 0, none⟩) := h1
      intro gb hgb
      refine guard_u (C := (((((((((((c.made : Int) == (d.made : Int)) && (((c.life : Int) == (d.life : Int)))) && ((((c.mine : Int) : Int) == ((d.mine : Int) : Int)))) && ((((c.peers : Int) : Int) == ((d.peers : Int) : Int)))) && ((((c.mtsn : Int) : Int) == ((d.mtsn : Int) : Int)))) && ((((c.ptsn : Int) : Int) == ((d.ptsn : Int) : Int)))) && (((c.win : Int) == (d.win : Int)))) && (((c.out : Int) == (d.out : Int)))) && (((c.inn : Int) == (d.inn : Int)))))) (b := ((((((((((c.made : Int) == (d.made : Int)) && (((c.life : Int) == (d.life : Int)))) && ((((c.mine : Int) : Int) == ((d.mine : Int) : Int)))) && ((((c.peers : Int) : Int) == ((d.peers : Int) : Int)))) && ((((c.mtsn : Int) : Int) == ((d.mtsn : Int) : Int)))) && ((((c.ptsn : Int) : Int) == ((d.ptsn : Int) : Int)))) && (((c.win : Int) == (d.win : Int)))) && (((c.out : Int) == (d.out : Int)))) && (((c.inn : Int) == (d.inn : Int))))) (want := true) hgb (want_t _) (fun hc => ?_) (fun hc => under_no hc)
      exact give_of (by simp [execOp, h1, go_sem]) ⟨Ext.refl _, under_yes hc⟩
    refine GoodAll.cons ?_ ?_
    · intro r wx hR hx
      obtain ⟨h1, _⟩ := hx
      replace h1 : Under ((((((((((((c.made : Int) == (d.made : Int)) && (((c.life : Int) == (d.life : Int)))) && ((((c.mine : Int) : Int) == ((d.mine : Int) : Int)))) && ((((c.peers : Int) : Int) == ((d.peers : Int) : Int)))) && ((((c.mtsn : Int) : Int) == ((d.mtsn : Int) : Int)))) && ((((c.ptsn : Int) : Int) == ((d.ptsn : Int) : Int)))) && (((c.win : Int) == (d.win : Int)))) && (((c.out : Int) == (d.out : Int)))) && (((c.inn : Int) == (d.inn : Int)))))) (.pointer (some ⟨w1.heap.size, 9, none⟩)) wx (r (.tmp 69)) := h1
      intro gb hgb
      refine guard_u (C := (((((((((((c.made : Int) == (d.made : Int)) && (((c.life : Int) == (d.life : Int)))) && ((((c.mine : Int) : Int) == ((d.mine : Int) : Int)))) && ((((c.peers : Int) : Int) == ((d.peers : Int) : Int)))) && ((((c.mtsn : Int) : Int) == ((d.mtsn : Int) : Int)))) && ((((c.ptsn : Int) : Int) == ((d.ptsn : Int) : Int)))) && (((c.win : Int) == (d.win : Int)))) && (((c.out : Int) == (d.out : Int)))) && (((c.inn : Int) == (d.inn : Int)))))) (b := ((((((((((c.made : Int) == (d.made : Int)) && (((c.life : Int) == (d.life : Int)))) && ((((c.mine : Int) : Int) == ((d.mine : Int) : Int)))) && ((((c.peers : Int) : Int) == ((d.peers : Int) : Int)))) && ((((c.mtsn : Int) : Int) == ((d.mtsn : Int) : Int)))) && ((((c.ptsn : Int) : Int) == ((d.ptsn : Int) : Int)))) && (((c.win : Int) == (d.win : Int)))) && (((c.out : Int) == (d.out : Int)))) && (((c.inn : Int) == (d.inn : Int))))) (want := true) hgb (want_t _) (fun hc => ?_) (fun hc => under_no hc)
      replace h1 := h1.get hc
      exact give_of (exec_get oneSA rfl h1 (kv9 (hb2.ext hR))) ⟨Ext.refl _, under_yes hc⟩
    refine GoodAll.cons ?_ ?_
    · intro r wx hR hx
      obtain ⟨h1, h2, h3, _⟩ := hx
      replace h1 : r (.func 37) = .func (.func 37) #[] #[] := h1
      replace h2 : Under ((((((((((((c.made : Int) == (d.made : Int)) && (((c.life : Int) == (d.life : Int)))) && ((((c.mine : Int) : Int) == ((d.mine : Int) : Int)))) && ((((c.peers : Int) : Int) == ((d.peers : Int) : Int)))) && ((((c.mtsn : Int) : Int) == ((d.mtsn : Int) : Int)))) && ((((c.ptsn : Int) : Int) == ((d.ptsn : Int) : Int)))) && (((c.win : Int) == (d.win : Int)))) && (((c.out : Int) == (d.out : Int)))) && (((c.inn : Int) == (d.inn : Int)))))) (.slice s.aA s.aN s.aC) wx (r (.tmp 68)) := h2
      replace h3 : Under ((((((((((((c.made : Int) == (d.made : Int)) && (((c.life : Int) == (d.life : Int)))) && ((((c.mine : Int) : Int) == ((d.mine : Int) : Int)))) && ((((c.peers : Int) : Int) == ((d.peers : Int) : Int)))) && ((((c.mtsn : Int) : Int) == ((d.mtsn : Int) : Int)))) && ((((c.ptsn : Int) : Int) == ((d.ptsn : Int) : Int)))) && (((c.win : Int) == (d.win : Int)))) && (((c.out : Int) == (d.out : Int)))) && (((c.inn : Int) == (d.inn : Int)))))) (.slice u.aA u.aN u.aC) wx (r (.tmp 70)) := h3
      intro gb hgb
      refine guard_u (C := (((((((((((c.made : Int) == (d.made : Int)) && (((c.life : Int) == (d.life : Int)))) && ((((c.mine : Int) : Int) == ((d.mine : Int) : Int)))) && ((((c.peers : Int) : Int) == ((d.peers : Int) : Int)))) && ((((c.mtsn : Int) : Int) == ((d.mtsn : Int) : Int)))) && ((((c.ptsn : Int) : Int) == ((d.ptsn : Int) : Int)))) && (((c.win : Int) == (d.win : Int)))) && (((c.out : Int) == (d.out : Int)))) && (((c.inn : Int) == (d.inn : Int)))))) (b := ((((((((((c.made : Int) == (d.made : Int)) && (((c.life : Int) == (d.life : Int)))) && ((((c.mine : Int) : Int) == ((d.mine : Int) : Int)))) && ((((c.peers : Int) : Int) == ((d.peers : Int) : Int)))) && ((((c.mtsn : Int) : Int) == ((d.mtsn : Int) : Int)))) && ((((c.ptsn : Int) : Int) == ((d.ptsn : Int) : Int)))) && (((c.win : Int) == (d.win : Int)))) && (((c.out : Int) == (d.out : Int)))) && (((c.inn : Int) == (d.inn : Int))))) (want := true) hgb (want_t _) (fun hc => ?_) (fun hc => under_no hc)
      replace h2 := h2.get hc
      replace h3 := h3.get hc
      refine give_func #[.slice s.aA s.aN s.aC, .slice u.aA u.aN u.aC] rfl h1 Tryd.call37 (by simp [h2, h3]) ?_
      refine (eqA_any (HA.a.ext hR) (HB.a.ext hR)).mono ?_
      rintro e wz ⟨rfl, hez⟩
      exact ⟨_, rfl, hez, under_yes hc⟩
    refine GoodAll.cons ?_ ?_
    · intro r wx hR hx
      obtain ⟨h1, h2, h3, _⟩ := hx
      replace h1 : r (.tmp 66) = .bool ((((((((((c.made : Int) == (d.made : Int)) && (((c.life : Int) == (d.life : Int)))) && ((((c.mine : Int) : Int) == ((d.mine : Int) : Int)))) && ((((c.peers : Int) : Int) == ((d.peers : Int) : Int)))) && ((((c.mtsn : Int) : Int) == ((d.mtsn : Int) : Int)))) && ((((c.ptsn : Int) : Int) == ((d.ptsn : Int) : Int)))) && (((c.win : Int) == (d.win : Int)))) && (((c.out : Int) == (d.out : Int)))) && (((c.inn : Int) == (d.inn : Int)))) := h1
      replace h2 : Under ((((((((((((c.made : Int) == (d.made : Int)) && (((c.life : Int) == (d.life : Int)))) && ((((c.mine : Int) : Int) == ((d.mine : Int) : Int)))) && ((((c.peers : Int) : Int) == ((d.peers : Int) : Int)))) && ((((c.mtsn : Int) : Int) == ((d.mtsn : Int) : Int)))) && ((((c.ptsn : Int) : Int) == ((d.ptsn : Int) : Int)))) && (((c.win : Int) == (d.win : Int)))) && (((c.out : Int) == (d.out : Int)))) && (((c.inn : Int) == (d.inn : Int)))))) (.bool (decide (c.addrs = d.addrs))) wx (r (.tmp 71)) := h2
      replace h3 : r (.const (.bool false)) = .bool false := h3
      exact give_and rfl h3 h1 (fun hb => h2.get (by first | exact hb | (rw [hc, hb]; rfl) | (rw [hb]; rfl))) ⟨Ext.refl _, rfl⟩
    refine GoodAll.cons ?_ ?_
    · intro r wx hR hx
      obtain ⟨h1, _⟩ := hx
      replace h1 : r (.tmp 72) = .bool (((((((((((c.made : Int) == (d.made : Int)) && (((c.life : Int) == (d.life : Int)))) && ((((c.mine : Int) : Int) == ((d.mine : Int) : Int)))) && ((((c.peers : Int) : Int) == ((d.peers : Int) : Int)))) && ((((c.mtsn : Int) : Int) == ((d.mtsn : Int) : Int)))) && ((((c.ptsn : Int) : Int) == ((d.ptsn : Int) : Int)))) && (((c.win : Int) == (d.win : Int)))) && (((c.out : Int) == (d.out : Int)))) && (((c.inn : Int) == (d.inn : Int)))) && ((decide (c.addrs = d.addrs)))) := h1
      exact give_move (.inl rfl) ⟨Ext.refl _, h1⟩
    refine GoodAll.cons ?_ ?_
    · intro r wx hR hx
      obtain ⟨h1, _⟩ := hx
      replace h1 : r (.tmp 2) = .pointer (some ⟨w.heap.size, 0, none⟩) := h1
      intro gb hgb
      refine guard_u (C := ((((((((((((c.made : Int) == (d.made : Int)) && (((c.life : Int) == (d.life : Int)))) && ((((c.mine : Int) : Int) == ((d.mine : Int) : Int)))) && ((((c.peers : Int) : Int) == ((d.peers : Int) : Int)))) && ((((c.mtsn : Int) : Int) == ((d.mtsn : Int) : Int)))) && ((((c.ptsn : Int) : Int) == ((d.ptsn : Int) : Int)))) && (((c.win : Int) == (d.win : Int)))) && (((c.out : Int) == (d.out : Int)))) && (((c.inn : Int) == (d.inn : Int)))) && ((decide (c.addrs = d.addrs)))))) (b := (((((((((((c.made : Int) == (d.made : Int)) && (((c.life : Int) == (d.life : Int)))) && ((((c.mine : Int) : Int) == ((d.mine : Int) : Int)))) && ((((c.peers : Int) : Int) == ((d.peers : Int) : Int)))) && ((((c.mtsn : Int) : Int) == ((d.mtsn : Int) : Int)))) && ((((c.ptsn : Int) : Int) == ((d.ptsn : Int) : Int)))) && (((c.win : Int) == (d.win : Int)))) && (((c.out : Int) == (d.out : Int)))) && (((c.inn : Int) == (d.inn : Int)))) && ((decide (c.addrs = d.addrs))))) (want := true) hgb (want_t _) (fun hc => ?_) (fun hc => under_no hc)
      exact give_of (by simp [execOp, h1, go_sem]) ⟨Ext.refl _, under_yes hc⟩
    refine GoodAll.cons ?_ ?_
    · intro r wx hR hx
      obtain ⟨h1, _⟩ := hx
      replace h1 : Under (((((((((((((c.made : Int) == (d.made : Int)) && (((c.life : Int) == (d.life : Int)))) && ((((c.mine : Int) : Int) == ((d.mine : Int) : Int)))) && ((((c.peers : Int) : Int) == ((d.peers : Int) : Int)))) && ((((c.mtsn : Int) : Int) == ((d.mtsn : Int) : Int)))) && ((((c.ptsn : Int) : Int) == ((d.ptsn : Int) : Int)))) && (((c.win : Int) == (d.win : Int)))) && (((c.out : Int) == (d.out : Int)))) && (((c.inn : Int) == (d.inn : Int)))) && ((decide (c.addrs = d.addrs)))))) (.pointer (some ⟨w.heap.size, 10, none⟩)) wx (r (.tmp 74)) := h1
      intro gb hgb
      refine guard_u (C := ((((((((((((c.made : Int) == (d.made : Int)) && (((c.life : Int) == (d.life : Int)))) && ((((c.mine : Int) : Int) == ((d.mine : Int) : Int)))) && ((((c.peers : Int) : Int) == ((d.peers : Int) : Int)))) && ((((c.mtsn : Int) : Int) == ((d.mtsn : Int) : Int)))) && ((((c.ptsn : Int) : Int) == ((d.ptsn : Int) : Int)))) && (((c.win : Int) == (d.win : Int)))) && (((c.out : Int) == (d.out : Int)))) && (((c.inn : Int) == (d.inn : Int)))) && ((decide (c.addrs = d.addrs)))))) (b := (((((((((((c.made : Int) == (d.made : Int)) && (((c.life : Int) == (d.life : Int)))) && ((((c.mine : Int) : Int) == ((d.mine : Int) : Int)))) && ((((c.peers : Int) : Int) == ((d.peers : Int) : Int)))) && ((((c.mtsn : Int) : Int) == ((d.mtsn : Int) : Int)))) && ((((c.ptsn : Int) : Int) == ((d.ptsn : Int) : Int)))) && (((c.win : Int) == (d.win : Int)))) && (((c.out : Int) == (d.out : Int)))) && (((c.inn : Int) == (d.inn : Int)))) && ((decide (c.addrs = d.addrs))))) (want := true) hgb (want_t _) (fun hc => ?_) (fun hc => under_no hc)
      replace h1 := h1.get hc
      exact give_of (exec_get oneS rfl h1 (kv10 (hb1'.ext hR))) ⟨Ext.refl _, under_yes hc⟩
    refine GoodAll.cons ?_ ?_
    · intro r wx hR hx
      obtain ⟨h1, _⟩ := hx
      replace h1 : r (.tmp 3) = .pointer (some ⟨w1.heap.size, 0, none⟩) := h1
      intro gb hgb
      refine guard_u (C := ((((((((((((c.made : Int) == (d.made : Int)) && (((c.life : Int) == (d.life : Int)))) && ((((c.mine : Int) : Int) == ((d.mine : Int) : Int)))) && ((((c.peers : Int) : Int) == ((d.peers : Int) : Int)))) && ((((c.mtsn : Int) : Int) == ((d.mtsn : Int) : Int)))) && ((((c.ptsn : Int) : Int) == ((d.ptsn : Int) : Int)))) && (((c.win : Int) == (d.win : Int)))) && (((c.out : Int) == (d.out : Int)))) && (((c.inn : Int) == (d.inn : Int)))) && ((decide (c.addrs = d.addrs)))))) (b := (((((((((((c.made : Int) == (d.made : Int)) && (((c.life : Int) == (d.life : Int)))) && ((((c.mine : Int) : Int) == ((d.mine : Int) : Int)))) && ((((c.peers : Int) : Int) == ((d.peers : Int) : Int)))) && ((((c.mtsn : Int) : Int) == ((d.mtsn : Int) : Int)))) && ((((c.ptsn : Int) : Int) == ((d.ptsn : Int) : Int)))) && (((c.win : Int) == (d.win : Int)))) && (((c.out : Int) == (d.out : Int)))) && (((c.inn : Int) == (d.inn : Int)))) && ((decide (c.addrs = d.addrs))))) (want := true) hgb (want_t _) (fun hc => ?_) (fun hc => under_no hc)
      exact give_of (by simp [execOp, h1, go_sem]) ⟨Ext.refl _, under_yes hc⟩
    refine GoodAll.cons ?_ ?_
    · intro r wx hR hx
      obtain ⟨h1, _⟩ := hx
      replace h1 : Under (((((((((((((c.made : Int) == (d.made : Int)) && (((c.life : Int) == (d.life : Int)))) && ((((c.mine : Int) : Int) == ((d.mine : Int) : Int)))) && ((((c.peers : Int) : Int) == ((d.peers : Int) : Int)))) && ((((c.mtsn : Int) : Int) == ((d.mtsn : Int) : Int)))) && ((((c.ptsn : Int) : Int) == ((d.ptsn : Int) : Int)))) && (((c.win : Int) == (d.win : Int)))) && (((c.out : Int) == (d.out : Int)))) && (((c.inn : Int) == (d.inn : Int)))) && ((decide (c.addrs = d.addrs)))))) (.pointer (some ⟨w1.heap.size, 10, none⟩)) wx (r (.tmp 76)) := h1
      intro gb hgb
      refine guard_u (C := ((((((((((((c.made : Int) == (d.made : Int)) && (((c.life : Int) == (d.life : Int)))) && ((((c.mine : Int) : Int) == ((d.mine : Int) : Int)))) && ((((c.peers : Int) : Int) == ((d.peers : Int) : Int)))) && ((((c.mtsn : Int) : Int) == ((d.mtsn : Int) : Int)))) && ((((c.ptsn : Int) : Int) == ((d.ptsn : Int) : Int)))) && (((c.win : Int) == (d.win : Int)))) && (((c.out : Int) == (d.out : Int)))) && (((c.inn : Int) == (d.inn : Int)))) && ((decide (c.addrs = d.addrs)))))) (b := (((((((((((c.made : Int) == (d.made : Int)) && (((c.life : Int) == (d.life : Int)))) && ((((c.mine : Int) : Int) == ((d.mine : Int) : Int)))) && ((((c.peers : Int) : Int) == ((d.peers : Int) : Int)))) && ((((c.mtsn : Int) : Int) == ((d.mtsn : Int) : Int)))) && ((((c.ptsn : Int) : Int) == ((d.ptsn : Int) : Int)))) && (((c.win : Int) == (d.win : Int)))) && (((c.out : Int) == (d.out : Int)))) && (((c.inn : Int) == (d.inn : Int)))) && ((decide (c.addrs = d.addrs))))) (want := true) hgb (want_t _) (fun hc => ?_) (fun hc => under_no hc)
      replace h1 := h1.get hc
      exact give_of (exec_get oneS rfl h1 (kv10 (hb2.ext hR))) ⟨Ext.refl _, under_yes hc⟩
    refine GoodAll.cons ?_ ?_
    · intro r wx hR hx
      obtain ⟨h1, h2, h3, _⟩ := hx
      replace h1 : r (.func 38) = .func (.func 38) #[] #[] := h1
      replace h2 : Under (((((((((((((c.made : Int) == (d.made : Int)) && (((c.life : Int) == (d.life : Int)))) && ((((c.mine : Int) : Int) == ((d.mine : Int) : Int)))) && ((((c.peers : Int) : Int) == ((d.peers : Int) : Int)))) && ((((c.mtsn : Int) : Int) == ((d.mtsn : Int) : Int)))) && ((((c.ptsn : Int) : Int) == ((d.ptsn : Int) : Int)))) && (((c.win : Int) == (d.win : Int)))) && (((c.out : Int) == (d.out : Int)))) && (((c.inn : Int) == (d.inn : Int)))) && ((decide (c.addrs = d.addrs)))))) (.slice s.mA s.mN s.mC) wx (r (.tmp 75)) := h2
      replace h3 : Under (((((((((((((c.made : Int) == (d.made : Int)) && (((c.life : Int) == (d.life : Int)))) && ((((c.mine : Int) : Int) == ((d.mine : Int) : Int)))) && ((((c.peers : Int) : Int) == ((d.peers : Int) : Int)))) && ((((c.mtsn : Int) : Int) == ((d.mtsn : Int) : Int)))) && ((((c.ptsn : Int) : Int) == ((d.ptsn : Int) : Int)))) && (((c.win : Int) == (d.win : Int)))) && (((c.out : Int) == (d.out : Int)))) && (((c.inn : Int) == (d.inn : Int)))) && ((decide (c.addrs = d.addrs)))))) (.slice u.mA u.mN u.mC) wx (r (.tmp 77)) := h3
      intro gb hgb
      refine guard_u (C := ((((((((((((c.made : Int) == (d.made : Int)) && (((c.life : Int) == (d.life : Int)))) && ((((c.mine : Int) : Int) == ((d.mine : Int) : Int)))) && ((((c.peers : Int) : Int) == ((d.peers : Int) : Int)))) && ((((c.mtsn : Int) : Int) == ((d.mtsn : Int) : Int)))) && ((((c.ptsn : Int) : Int) == ((d.ptsn : Int) : Int)))) && (((c.win : Int) == (d.win : Int)))) && (((c.out : Int) == (d.out : Int)))) && (((c.inn : Int) == (d.inn : Int)))) && ((decide (c.addrs = d.addrs)))))) (b := (((((((((((c.made : Int) == (d.made : Int)) && (((c.life : Int) == (d.life : Int)))) && ((((c.mine : Int) : Int) == ((d.mine : Int) : Int)))) && ((((c.peers : Int) : Int) == ((d.peers : Int) : Int)))) && ((((c.mtsn : Int) : Int) == ((d.mtsn : Int) : Int)))) && ((((c.ptsn : Int) : Int) == ((d.ptsn : Int) : Int)))) && (((c.win : Int) == (d.win : Int)))) && (((c.out : Int) == (d.out : Int)))) && (((c.inn : Int) == (d.inn : Int)))) && ((decide (c.addrs = d.addrs))))) (want := true) hgb (want_t _) (fun hc => ?_) (fun hc => under_no hc)
      replace h2 := h2.get hc
      replace h3 := h3.get hc
      refine give_func #[.slice s.mA s.mN s.mC, .slice u.mA u.mN u.mC] rfl h1 Tryd.call38 (by simp [h2, h3]) ?_
      refine (equal_any (HA.m.ext hR) (HB.m.ext hR)).mono ?_
      rintro e wz ⟨rfl, hez⟩
      exact ⟨_, rfl, hez, under_yes hc⟩
    refine GoodAll.cons ?_ ?_
    · intro r wx hR hx
      obtain ⟨h1, h2, h3, _⟩ := hx
      replace h1 : r (.tmp 73) = .bool (((((((((((c.made : Int) == (d.made : Int)) && (((c.life : Int) == (d.life : Int)))) && ((((c.mine : Int) : Int) == ((d.mine : Int) : Int)))) && ((((c.peers : Int) : Int) == ((d.peers : Int) : Int)))) && ((((c.mtsn : Int) : Int) == ((d.mtsn : Int) : Int)))) && ((((c.ptsn : Int) : Int) == ((d.ptsn : Int) : Int)))) && (((c.win : Int) == (d.win : Int)))) && (((c.out : Int) == (d.out : Int)))) && (((c.inn : Int) == (d.inn : Int)))) && ((decide (c.addrs = d.addrs)))) := h1
      replace h2 : Under (((((((((((((c.made : Int) == (d.made : Int)) && (((c.life : Int) == (d.life : Int)))) && ((((c.mine : Int) : Int) == ((d.mine : Int) : Int)))) && ((((c.peers : Int) : Int) == ((d.peers : Int) : Int)))) && ((((c.mtsn : Int) : Int) == ((d.mtsn : Int) : Int)))) && ((((c.ptsn : Int) : Int) == ((d.ptsn : Int) : Int)))) && (((c.win : Int) == (d.win : Int)))) && (((c.out : Int) == (d.out : Int)))) && (((c.inn : Int) == (d.inn : Int)))) && ((decide (c.addrs = d.addrs)))))) (.bool (decide (c.mr = d.mr))) wx (r (.tmp 78)) := h2
      replace h3 : r (.const (.bool false)) = .bool false := h3
      exact give_and rfl h3 h1 (fun hb => h2.get (by first | exact hb | (rw [hc, hb]; rfl) | (rw [hb]; rfl))) ⟨Ext.refl _, rfl⟩
    refine GoodAll.cons ?_ ?_
    · intro r wx hR hx
      obtain ⟨h1, _⟩ := hx
      replace h1 : r (.tmp 79) = .bool ((((((((((((c.made : Int) == (d.made : Int)) && (((c.life : Int) == (d.life : Int)))) && ((((c.mine : Int) : Int) == ((d.mine : Int) : Int)))) && ((((c.peers : Int) : Int) == ((d.peers : Int) : Int)))) && ((((c.mtsn : Int) : Int) == ((d.mtsn : Int) : Int)))) && ((((c.ptsn : Int) : Int) == ((d.ptsn : Int) : Int)))) && (((c.win : Int) == (d.win : Int)))) && (((c.out : Int) == (d.out : Int)))) && (((c.inn : Int) == (d.inn : Int)))) && ((decide (c.addrs = d.addrs)))) && ((decide (c.mr = d.mr)))) := h1
      exact give_move (.inl rfl) ⟨Ext.refl _, h1⟩
    refine GoodAll.cons ?_ ?_
    · intro r wx hR hx
      obtain ⟨h1, _⟩ := hx
      replace h1 : r (.tmp 2) = .pointer (some ⟨w.heap.size, 0, none⟩) := h1
      intro gb hgb
      refine guard_u (C := (((((((((((((c.made : Int) == (d.made : Int)) && (((c.life : Int) == (d.life : Int)))) && ((((c.mine : Int) : Int) == ((d.mine : Int) : Int)))) && ((((c.peers : Int) : Int) == ((d.peers : Int) : Int)))) && ((((c.mtsn : Int) : Int) == ((d.mtsn : Int) : Int)))) && ((((c.ptsn : Int) : Int) == ((d.ptsn : Int) : Int)))) && (((c.win : Int) == (d.win : Int)))) && (((c.out : Int) == (d.out : Int)))) && (((c.inn : Int) == (d.inn : Int)))) && ((decide (c.addrs = d.addrs)))) && ((decide (c.mr = d.mr)))))) (b := ((((((((((((c.made : Int) == (d.made : Int)) && (((c.life : Int) == (d.life : Int)))) && ((((c.mine : Int) : Int) == ((d.mine : Int) : Int)))) && ((((c.peers : Int) : Int) == ((d.peers : Int) : Int)))) && ((((c.mtsn : Int) : Int) == ((d.mtsn : Int) : Int)))) && ((((c.ptsn : Int) : Int) == ((d.ptsn : Int) : Int)))) && (((c.win : Int) == (d.win : Int)))) && (((c.out : Int) == (d.out : Int)))) && (((c.inn : Int) == (d.inn : Int)))) && ((decide (c.addrs = d.addrs)))) && ((decide (c.mr = d.mr))))) (want := true) hgb (want_t _) (fun hc => ?_) (fun hc => under_no hc)
      exact give_of (by simp [execOp, h1, go_sem]) ⟨Ext.refl _, under_yes hc⟩
    refine GoodAll.cons ?_ ?_
    · intro r wx hR hx
      obtain ⟨h1, _⟩ := hx
      replace h1 : Under ((((((((((((((c.made : Int) == (d.made : Int)) && (((c.life : Int) == (d.life : Int)))) && ((((c.mine : Int) : Int) == ((d.mine : Int) : Int)))) && ((((c.peers : Int) : Int) == ((d.peers : Int) : Int)))) && ((((c.mtsn : Int) : Int) == ((d.mtsn : Int) : Int)))) && ((((c.ptsn : Int) : Int) == ((d.ptsn : Int) : Int)))) && (((c.win : Int) == (d.win : Int)))) && (((c.out : Int) == (d.out : Int)))) && (((c.inn : Int) == (d.inn : Int)))) && ((decide (c.addrs = d.addrs)))) && ((decide (c.mr = d.mr)))))) (.pointer (some ⟨w.heap.size, 11, none⟩)) wx (r (.tmp 81)) := h1
      intro gb hgb
      refine guard_u (C := (((((((((((((c.made : Int) == (d.made : Int)) && (((c.life : Int) == (d.life : Int)))) && ((((c.mine : Int) : Int) == ((d.mine : Int) : Int)))) && ((((c.peers : Int) : Int) == ((d.peers : Int) : Int)))) && ((((c.mtsn : Int) : Int) == ((d.mtsn : Int) : Int)))) && ((((c.ptsn : Int) : Int) == ((d.ptsn : Int) : Int)))) && (((c.win : Int) == (d.win : Int)))) && (((c.out : Int) == (d.out : Int)))) && (((c.inn : Int) == (d.inn : Int)))) && ((decide (c.addrs = d.addrs)))) && ((decide (c.mr = d.mr)))))) (b := ((((((((((((c.made : Int) == (d.made : Int)) && (((c.life : Int) == (d.life : Int)))) && ((((c.mine : Int) : Int) == ((d.mine : Int) : Int)))) && ((((c.peers : Int) : Int) == ((d.peers : Int) : Int)))) && ((((c.mtsn : Int) : Int) == ((d.mtsn : Int) : Int)))) && ((((c.ptsn : Int) : Int) == ((d.ptsn : Int) : Int)))) && (((c.win : Int) == (d.win : Int)))) && (((c.out : Int) == (d.out : Int)))) && (((c.inn : Int) == (d.inn : Int)))) && ((decide (c.addrs = d.addrs)))) && ((decide (c.mr = d.mr))))) (want := true) hgb (want_t _) (fun hc => ?_) (fun hc => under_no hc)
      replace h1 := h1.get hc
      exact give_of (exec_get oneS rfl h1 (kv11 (hb1'.ext hR))) ⟨Ext.refl _, under_yes hc⟩
    refine GoodAll.cons ?_ ?_
    · intro r wx hR hx
      obtain ⟨h1, _⟩ := hx
      replace h1 : r (.tmp 3) = .pointer (some ⟨w1.heap.size, 0, none⟩) := h1
      intro gb hgb
      refine guard_u (C := (((((((((((((c.made : Int) == (d.made : Int)) && (((c.life : Int) == (d.life : Int)))) && ((((c.mine : Int) : Int) == ((d.mine : Int) : Int)))) && ((((c.peers : Int) : Int) == ((d.peers : Int) : Int)))) && ((((c.mtsn : Int) : Int) == ((d.mtsn : Int) : Int)))) && ((((c.ptsn : Int) : Int) == ((d.ptsn : Int) : Int)))) && (((c.win : Int) == (d.win : Int)))) && (((c.out : Int) == (d.out : Int)))) && (((c.inn : Int) == (d.inn : Int)))) && ((decide (c.addrs = d.addrs)))) && ((decide (c.mr = d.mr)))))) (b := ((((((((((((c.made : Int) == (d.made : Int)) && (((c.life : Int) == (d.life : Int)))) && ((((c.mine : Int) : Int) == ((d.mine : Int) : Int)))) && ((((c.peers : Int) : Int) == ((d.peers : Int) : Int)))) && ((((c.mtsn : Int) : Int) == ((d.mtsn : Int) : Int)))) && ((((c.ptsn : Int) : Int) == ((d.ptsn : Int) : Int)))) && (((c.win : Int) == (d.win : Int)))) && (((c.out : Int) == (d.out : Int)))) && (((c.inn : Int) == (d.inn : Int)))) && ((decide (c.addrs = d.addrs)))) && ((decide (c.mr = d.mr))))) (want := true) hgb (want_t _) (fun hc => ?_) (fun hc => under_no hc)
      exact give_of (by simp [execOp, h1, go_sem]) ⟨Ext.refl _, under_yes hc⟩
    refine GoodAll.cons ?_ ?_
    · intro r wx hR hx
      obtain ⟨h1, _⟩ := hx
      replace h1 : Under ((((((((((((((c.made : Int) == (d.made : Int)) && (((c.life : Int) == (d.life : Int)))) && ((((c.mine : Int) : Int) == ((d.mine : Int) : Int)))) && ((((c.peers : Int) : Int) == ((d.peers : Int) : Int)))) && ((((c.mtsn : Int) : Int) == ((d.mtsn : Int) : Int)))) && ((((c.ptsn : Int) : Int) == ((d.ptsn : Int) : Int)))) && (((c.win : Int) == (d.win : Int)))) && (((c.out : Int) == (d.out : Int)))) && (((c.inn : Int) == (d.inn : Int)))) && ((decide (c.addrs = d.addrs)))) && ((decide (c.mr = d.mr)))))) (.pointer (some ⟨w1.heap.size, 11, none⟩)) wx (r (.tmp 83)) := h1
      intro gb hgb
      refine guard_u (C := (((((((((((((c.made : Int) == (d.made : Int)) && (((c.life : Int) == (d.life : Int)))) && ((((c.mine : Int) : Int) == ((d.mine : Int) : Int)))) && ((((c.peers : Int) : Int) == ((d.peers : Int) : Int)))) && ((((c.mtsn : Int) : Int) == ((d.mtsn : Int) : Int)))) && ((((c.ptsn : Int) : Int) == ((d.ptsn : Int) : Int)))) && (((c.win : Int) == (d.win : Int)))) && (((c.out : Int) == (d.out : Int)))) && (((c.inn : Int) == (d.inn : Int)))) && ((decide (c.addrs = d.addrs)))) && ((decide (c.mr = d.mr)))))) (b := ((((((((((((c.made : Int) == (d.made : Int)) && (((c.life : Int) == (d.life : Int)))) && ((((c.mine : Int) : Int) == ((d.mine : Int) : Int)))) && ((((c.peers : Int) : Int) == ((d.peers : Int) : Int)))) && ((((c.mtsn : Int) : Int) == ((d.mtsn : Int) : Int)))) && ((((c.ptsn : Int) : Int) == ((d.ptsn : Int) : Int)))) && (((c.win : Int) == (d.win : Int)))) && (((c.out : Int) == (d.out : Int)))) && (((c.inn : Int) == (d.inn : Int)))) && ((decide (c.addrs = d.addrs)))) && ((decide (c.mr = d.mr))))) (want := true) hgb (want_t _) (fun hc => ?_) (fun hc => under_no hc)
      replace h1 := h1.get hc
      exact give_of (exec_get oneS rfl h1 (kv11 (hb2.ext hR))) ⟨Ext.refl _, under_yes hc⟩
    refine GoodAll.cons ?_ ?_
    · intro r wx hR hx
      obtain ⟨h1, h2, h3, _⟩ := hx
      replace h1 : r (.func 38) = .func (.func 38) #[] #[] := h1
      replace h2 : Under ((((((((((((((c.made : Int) == (d.made : Int)) && (((c.life : Int) == (d.life : Int)))) && ((((c.mine : Int) : Int) == ((d.mine : Int) : Int)))) && ((((c.peers : Int) : Int) == ((d.peers : Int) : Int)))) && ((((c.mtsn : Int) : Int) == ((d.mtsn : Int) : Int)))) && ((((c.ptsn : Int) : Int) == ((d.ptsn : Int) : Int)))) && (((c.win : Int) == (d.win : Int)))) && (((c.out : Int) == (d.out : Int)))) && (((c.inn : Int) == (d.inn : Int)))) && ((decide (c.addrs = d.addrs)))) && ((decide (c.mr = d.mr)))))) (.slice s.pA s.pN s.pC) wx (r (.tmp 82)) := h2
      replace h3 : Under ((((((((((((((c.made : Int) == (d.made : Int)) && (((c.life : Int) == (d.life : Int)))) && ((((c.mine : Int) : Int) == ((d.mine : Int) : Int)))) && ((((c.peers : Int) : Int) == ((d.peers : Int) : Int)))) && ((((c.mtsn : Int) : Int) == ((d.mtsn : Int) : Int)))) && ((((c.ptsn : Int) : Int) == ((d.ptsn : Int) : Int)))) && (((c.win : Int) == (d.win : Int)))) && (((c.out : Int) == (d.out : Int)))) && (((c.inn : Int) == (d.inn : Int)))) && ((decide (c.addrs = d.addrs)))) && ((decide (c.mr = d.mr)))))) (.slice u.pA u.pN u.pC) wx (r (.tmp 84)) := h3
      intro gb hgb
      refine guard_u (C := (((((((((((((c.made : Int) == (d.made : Int)) && (((c.life : Int) == (d.life : Int)))) && ((((c.mine : Int) : Int) == ((d.mine : Int) : Int)))) && ((((c.peers : Int) : Int) == ((d.peers : Int) : Int)))) && ((((c.mtsn : Int) : Int) == ((d.mtsn : Int) : Int)))) && ((((c.ptsn : Int) : Int) == ((d.ptsn : Int) : Int)))) && (((c.win : Int) == (d.win : Int)))) && (((c.out : Int) == (d.out : Int)))) && (((c.inn : Int) == (d.inn : Int)))) && ((decide (c.addrs = d.addrs)))) && ((decide (c.mr = d.mr)))))) (b := ((((((((((((c.made : Int) == (d.made : Int)) && (((c.life : Int) == (d.life : Int)))) && ((((c.mine : Int) : Int) == ((d.mine : Int) : Int)))) && ((((c.peers : Int) : Int) == ((d.peers : Int) : Int)))) && ((((c.mtsn : Int) : Int) == ((d.mtsn : Int) : Int)))) && ((((c.ptsn : Int) : Int) == ((d.ptsn : Int) : Int)))) && (((c.win : Int) == (d.win : Int)))) && (((c.out : Int) == (d.out : Int)))) && (((c.inn : Int) == (d.inn : Int)))) && ((decide (c.addrs = d.addrs)))) && ((decide (c.mr = d.mr))))) (want := true) hgb (want_t _) (fun hc => ?_) (fun hc => under_no hc)
      replace h2 := h2.get hc
      replace h3 := h3.get hc
      refine give_func #[.slice s.pA s.pN s.pC, .slice u.pA u.pN u.pC] rfl h1 Tryd.call38 (by simp [h2, h3]) ?_
      refine (equal_any (HA.p.ext hR) (HB.p.ext hR)).mono ?_
      rintro e wz ⟨rfl, hez⟩
      exact ⟨_, rfl, hez, under_yes hc⟩
    refine GoodAll.cons ?_ ?_
    · intro r wx hR hx
      obtain ⟨h1, h2, h3, _⟩ := hx
      replace h1 : r (.tmp 80) = .bool ((((((((((((c.made : Int) == (d.made : Int)) && (((c.life : Int) == (d.life : Int)))) && ((((c.mine : Int) : Int) == ((d.mine : Int) : Int)))) && ((((c.peers : Int) : Int) == ((d.peers : Int) : Int)))) && ((((c.mtsn : Int) : Int) == ((d.mtsn : Int) : Int)))) && ((((c.ptsn : Int) : Int) == ((d.ptsn : Int) : Int)))) && (((c.win : Int) == (d.win : Int)))) && (((c.out : Int) == (d.out : Int)))) && (((c.inn : Int) == (d.inn : Int)))) && ((decide (c.addrs = d.addrs)))) && ((decide (c.mr = d.mr)))) := h1
      replace h2 : Under ((((((((((((((c.made : Int) == (d.made : Int)) && (((c.life : Int) == (d.life : Int)))) && ((((c.mine : Int) : Int) == ((d.mine : Int) : Int)))) && ((((c.peers : Int) : Int) == ((d.peers : Int) : Int)))) && ((((c.mtsn : Int) : Int) == ((d.mtsn : Int) : Int)))) && ((((c.ptsn : Int) : Int) == ((d.ptsn : Int) : Int)))) && (((c.win : Int) == (d.win : Int)))) && (((c.out : Int) == (d.out : Int)))) && (((c.inn : Int) == (d.inn : Int)))) && ((decide (c.addrs = d.addrs)))) && ((decide (c.mr = d.mr)))))) (.bool (decide (c.pr = d.pr))) wx (r (.tmp 85)) := h2
      replace h3 : r (.const (.bool false)) = .bool false := h3
      exact give_and rfl h3 h1 (fun hb => h2.get (by first | exact hb | (rw [hc, hb]; rfl) | (rw [hb]; rfl))) ⟨Ext.refl _, rfl⟩
    refine GoodAll.cons ?_ ?_
    · intro r wx hR hx
      obtain ⟨h1, _⟩ := hx
      replace h1 : r (.tmp 86) = .bool (((((((((((((c.made : Int) == (d.made : Int)) && (((c.life : Int) == (d.life : Int)))) && ((((c.mine : Int) : Int) == ((d.mine : Int) : Int)))) && ((((c.peers : Int) : Int) == ((d.peers : Int) : Int)))) && ((((c.mtsn : Int) : Int) == ((d.mtsn : Int) : Int)))) && ((((c.ptsn : Int) : Int) == ((d.ptsn : Int) : Int)))) && (((c.win : Int) == (d.win : Int)))) && (((c.out : Int) == (d.out : Int)))) && (((c.inn : Int) == (d.inn : Int)))) && ((decide (c.addrs = d.addrs)))) && ((decide (c.mr = d.mr)))) && ((decide (c.pr = d.pr)))) := h1
      exact give_move (.inl rfl) ⟨Ext.refl _, h1⟩
    refine GoodAll.cons ?_ ?_
    · intro r wx hR hx
      obtain ⟨h1, _⟩ := hx
      replace h1 : r (.tmp 2) = .pointer (some ⟨w.heap.size, 0, none⟩) := h1
      intro gb hgb
      refine guard_u (C := ((((((((((((((c.made : Int) == (d.made : Int)) && (((c.life : Int) == (d.life : Int)))) && ((((c.mine : Int) : Int) == ((d.mine : Int) : Int)))) && ((((c.peers : Int) : Int) == ((d.peers : Int) : Int)))) && ((((c.mtsn : Int) : Int) == ((d.mtsn : Int) : Int)))) && ((((c.ptsn : Int) : Int) == ((d.ptsn : Int) : Int)))) && (((c.win : Int) == (d.win : Int)))) && (((c.out : Int) == (d.out : Int)))) && (((c.inn : Int) == (d.inn : Int)))) && ((decide (c.addrs = d.addrs)))) && ((decide (c.mr = d.mr)))) && ((decide (c.pr = d.pr)))))) (b := (((((((((((((c.made : Int) == (d.made : Int)) && (((c.life : Int) == (d.life : Int)))) && ((((c.mine : Int) : Int) == ((d.mine : Int) : Int)))) && ((((c.peers : Int) : Int) == ((d.peers : Int) : Int)))) && ((((c.mtsn : Int) : Int) == ((d.mtsn : Int) : Int)))) && ((((c.ptsn : Int) : Int) == ((d.ptsn : Int) : Int)))) && (((c.win : Int) == (d.win : Int)))) && (((c.out : Int) == (d.out : Int)))) && (((c.inn : Int) == (d.inn : Int)))) && ((decide (c.addrs = d.addrs)))) && ((decide (c.mr = d.mr)))) && ((decide (c.pr = d.pr))))) (want := true) hgb (want_t _) (fun hc => ?_) (fun hc => under_no hc)
      exact give_of (by simp [execOp, h1, go_sem]) ⟨Ext.refl _, under_yes hc⟩
    refine GoodAll.cons ?_ ?_
    · intro r wx hR hx
      obtain ⟨h1, _⟩ := hx
      replace h1 : Under (((((((((((((((c.made : Int) == (d.made : Int)) && (((c.life : Int) == (d.life : Int)))) && ((((c.mine : Int) : Int) == ((d.mine : Int) : Int)))) && ((((c.peers : Int) : Int) == ((d.peers : Int) : Int)))) && ((((c.mtsn : Int) : Int) == ((d.mtsn : Int) : Int)))) && ((((c.ptsn : Int) : Int) == ((d.ptsn : Int) : Int)))) && (((c.win : Int) == (d.win : Int)))) && (((c.out : Int) == (d.out : Int)))) && (((c.inn : Int) == (d.inn : Int)))) && ((decide (c.addrs = d.addrs)))) && ((decide (c.mr = d.mr)))) && ((decide (c.pr = d.pr)))))) (.pointer (some ⟨w.heap.size, 12, none⟩)) wx (r (.tmp 88)) := h1
      intro gb hgb
      refine guard_u (C := ((((((((((((((c.made : Int) == (d.made : Int)) && (((c.life : Int) == (d.life : Int)))) && ((((c.mine : Int) : Int) == ((d.mine : Int) : Int)))) && ((((c.peers : Int) : Int) == ((d.peers : Int) : Int)))) && ((((c.mtsn : Int) : Int) == ((d.mtsn : Int) : Int)))) && ((((c.ptsn : Int) : Int) == ((d.ptsn : Int) : Int)))) && (((c.win : Int) == (d.win : Int)))) && (((c.out : Int) == (d.out : Int)))) && (((c.inn : Int) == (d.inn : Int)))) && ((decide (c.addrs = d.addrs)))) && ((decide (c.mr = d.mr)))) && ((decide (c.pr = d.pr)))))) (b := (((((((((((((c.made : Int) == (d.made : Int)) && (((c.life : Int) == (d.life : Int)))) && ((((c.mine : Int) : Int) == ((d.mine : Int) : Int)))) && ((((c.peers : Int) : Int) == ((d.peers : Int) : Int)))) && ((((c.mtsn : Int) : Int) == ((d.mtsn : Int) : Int)))) && ((((c.ptsn : Int) : Int) == ((d.ptsn : Int) : Int)))) && (((c.win : Int) == (d.win : Int)))) && (((c.out : Int) == (d.out : Int)))) && (((c.inn : Int) == (d.inn : Int)))) && ((decide (c.addrs = d.addrs)))) && ((decide (c.mr = d.mr)))) && ((decide (c.pr = d.pr))))) (want := true) hgb (want_t _) (fun hc => ?_) (fun hc => under_no hc)
      replace h1 := h1.get hc
      exact give_of (exec_get one22 rfl h1 (kv12 (hb1'.ext hR))) ⟨Ext.refl _, under_yes hc⟩
    refine GoodAll.cons ?_ ?_
    · intro r wx hR hx
      obtain ⟨h1, _⟩ := hx
      replace h1 : r (.tmp 3) = .pointer (some ⟨w1.heap.size, 0, none⟩) := h1
      intro gb hgb
      refine guard_u (C := ((((((((((((((c.made : Int) == (d.made : Int)) && (((c.life : Int) == (d.life : Int)))) && ((((c.mine : Int) : Int) == ((d.mine : Int) : Int)))) && ((((c.peers : Int) : Int) == ((d.peers : Int) : Int)))) && ((((c.mtsn : Int) : Int) == ((d.mtsn : Int) : Int)))) && ((((c.ptsn : Int) : Int) == ((d.ptsn : Int) : Int)))) && (((c.win : Int) == (d.win : Int)))) && (((c.out : Int) == (d.out : Int)))) && (((c.inn : Int) == (d.inn : Int)))) && ((decide (c.addrs = d.addrs)))) && ((decide (c.mr = d.mr)))) && ((decide (c.pr = d.pr)))))) (b := (((((((((((((c.made : Int) == (d.made : Int)) && (((c.life : Int) == (d.life : Int)))) && ((((c.mine : Int) : Int) == ((d.mine : Int) : Int)))) && ((((c.peers : Int) : Int) == ((d.peers : Int) : Int)))) && ((((c.mtsn : Int) : Int) == ((d.mtsn : Int) : Int)))) && ((((c.ptsn : Int) : Int) == ((d.ptsn : Int) : Int)))) && (((c.win : Int) == (d.win : Int)))) && (((c.out : Int) == (d.out : Int)))) && (((c.inn : Int) == (d.inn : Int)))) && ((decide (c.addrs = d.addrs)))) && ((decide (c.mr = d.mr)))) && ((decide (c.pr = d.pr))))) (want := true) hgb (want_t _) (fun hc => ?_) (fun hc => under_no hc)
      exact give_of (by simp [execOp, h1, go_sem]) ⟨Ext.refl _, under_yes hc⟩
    refine GoodAll.cons ?_ ?_
    · intro r wx hR hx
      obtain ⟨h1, _⟩ := hx
      replace h1 : Under (((((((((((((((c.made : Int) == (d.made : Int)) && (((c.life : Int) == (d.life : Int)))) && ((((c.mine : Int) : Int) == ((d.mine : Int) : Int)))) && ((((c.peers : Int) : Int) == ((d.peers : Int) : Int)))) && ((((c.mtsn : Int) : Int) == ((d.mtsn : Int) : Int)))) && ((((c.ptsn : Int) : Int) == ((d.ptsn : Int) : Int)))) && (((c.win : Int) == (d.win : Int)))) && (((c.out : Int) == (d.out : Int)))) && (((c.inn : Int) == (d.inn : Int)))) && ((decide (c.addrs = d.addrs)))) && ((decide (c.mr = d.mr)))) && ((decide (c.pr = d.pr)))))) (.pointer (some ⟨w1.heap.size, 12, none⟩)) wx (r (.tmp 90)) := h1
      intro gb hgb
      refine guard_u (C := ((((((((((((((c.made : Int) == (d.made : Int)) && (((c.life : Int) == (d.life : Int)))) && ((((c.mine : Int) : Int) == ((d.mine : Int) : Int)))) && ((((c.peers : Int) : Int) == ((d.peers : Int) : Int)))) && ((((c.mtsn : Int) : Int) == ((d.mtsn : Int) : Int)))) && ((((c.ptsn : Int) : Int) == ((d.ptsn : Int) : Int)))) && (((c.win : Int) == (d.win : Int)))) && (((c.out : Int) == (d.out : Int)))) && (((c.inn : Int) == (d.inn : Int)))) && ((decide (c.addrs = d.addrs)))) && ((decide (c.mr = d.mr)))) && ((decide (c.pr = d.pr)))))) (b := (((((((((((((c.made : Int) == (d.made : Int)) && (((c.life : Int) == (d.life : Int)))) && ((((c.mine : Int) : Int) == ((d.mine : Int) : Int)))) && ((((c.peers : Int) : Int) == ((d.peers : Int) : Int)))) && ((((c.mtsn : Int) : Int) == ((d.mtsn : Int) : Int)))) && ((((c.ptsn : Int) : Int) == ((d.ptsn : Int) : Int)))) && (((c.win : Int) == (d.win : Int)))) && (((c.out : Int) == (d.out : Int)))) && (((c.inn : Int) == (d.inn : Int)))) && ((decide (c.addrs = d.addrs)))) && ((decide (c.mr = d.mr)))) && ((decide (c.pr = d.pr))))) (want := true) hgb (want_t _) (fun hc => ?_) (fun hc => under_no hc)
      replace h1 := h1.get hc
      exact give_of (exec_get one22 rfl h1 (kv12 (hb2.ext hR))) ⟨Ext.refl _, under_yes hc⟩
    refine GoodAll.cons ?_ ?_
    · intro r wx hR hx
      obtain ⟨h1, h2, _⟩ := hx
      replace h1 : Under (((((((((((((((c.made : Int) == (d.made : Int)) && (((c.life : Int) == (d.life : Int)))) && ((((c.mine : Int) : Int) == ((d.mine : Int) : Int)))) && ((((c.peers : Int) : Int) == ((d.peers : Int) : Int)))) && ((((c.mtsn : Int) : Int) == ((d.mtsn : Int) : Int)))) && ((((c.ptsn : Int) : Int) == ((d.ptsn : Int) : Int)))) && (((c.win : Int) == (d.win : Int)))) && (((c.out : Int) == (d.out : Int)))) && (((c.inn : Int) == (d.inn : Int)))) && ((decide (c.addrs = d.addrs)))) && ((decide (c.mr = d.mr)))) && ((decide (c.pr = d.pr)))))) (.int .u32 (c.tm : Int)) wx (r (.tmp 89)) := h1
      replace h2 : Under (((((((((((((((c.made : Int) == (d.made : Int)) && (((c.life : Int) == (d.life : Int)))) && ((((c.mine : Int) : Int) == ((d.mine : Int) : Int)))) && ((((c.peers : Int) : Int) == ((d.peers : Int) : Int)))) && ((((c.mtsn : Int) : Int) == ((d.mtsn : Int) : Int)))) && ((((c.ptsn : Int) : Int) == ((d.ptsn : Int) : Int)))) && (((c.win : Int) == (d.win : Int)))) && (((c.out : Int) == (d.out : Int)))) && (((c.inn : Int) == (d.inn : Int)))) && ((decide (c.addrs = d.addrs)))) && ((decide (c.mr = d.mr)))) && ((decide (c.pr = d.pr)))))) (.int .u32 (d.tm : Int)) wx (r (.tmp 91)) := h2
      intro gb hgb
      refine guard_u (C := ((((((((((((((c.made : Int) == (d.made : Int)) && (((c.life : Int) == (d.life : Int)))) && ((((c.mine : Int) : Int) == ((d.mine : Int) : Int)))) && ((((c.peers : Int) : Int) == ((d.peers : Int) : Int)))) && ((((c.mtsn : Int) : Int) == ((d.mtsn : Int) : Int)))) && ((((c.ptsn : Int) : Int) == ((d.ptsn : Int) : Int)))) && (((c.win : Int) == (d.win : Int)))) && (((c.out : Int) == (d.out : Int)))) && (((c.inn : Int) == (d.inn : Int)))) && ((decide (c.addrs = d.addrs)))) && ((decide (c.mr = d.mr)))) && ((decide (c.pr = d.pr)))))) (b := (((((((((((((c.made : Int) == (d.made : Int)) && (((c.life : Int) == (d.life : Int)))) && ((((c.mine : Int) : Int) == ((d.mine : Int) : Int)))) && ((((c.peers : Int) : Int) == ((d.peers : Int) : Int)))) && ((((c.mtsn : Int) : Int) == ((d.mtsn : Int) : Int)))) && ((((c.ptsn : Int) : Int) == ((d.ptsn : Int) : Int)))) && (((c.win : Int) == (d.win : Int)))) && (((c.out : Int) == (d.out : Int)))) && (((c.inn : Int) == (d.inn : Int)))) && ((decide (c.addrs = d.addrs)))) && ((decide (c.mr = d.mr)))) && ((decide (c.pr = d.pr))))) (want := true) hgb (want_t _) (fun hc => ?_) (fun hc => under_no hc)
      replace h1 := h1.get hc
      replace h2 := h2.get hc
      exact give_of (by simp [execOp, h1, h2, go_sem]) ⟨Ext.refl _, under_yes hc⟩
    refine GoodAll.cons ?_ ?_
    · intro r wx hR hx
      obtain ⟨h1, h2, h3, _⟩ := hx
      replace h1 : r (.tmp 87) = .bool (((((((((((((c.made : Int) == (d.made : Int)) && (((c.life : Int) == (d.life : Int)))) && ((((c.mine : Int) : Int) == ((d.mine : Int) : Int)))) && ((((c.peers : Int) : Int) == ((d.peers : Int) : Int)))) && ((((c.mtsn : Int) : Int) == ((d.mtsn : Int) : Int)))) && ((((c.ptsn : Int) : Int) == ((d.ptsn : Int) : Int)))) && (((c.win : Int) == (d.win : Int)))) && (((c.out : Int) == (d.out : Int)))) && (((c.inn : Int) == (d.inn : Int)))) && ((decide (c.addrs = d.addrs)))) && ((decide (c.mr = d.mr)))) && ((decide (c.pr = d.pr)))) := h1
      replace h2 : Under (((((((((((((((c.made : Int) == (d.made : Int)) && (((c.life : Int) == (d.life : Int)))) && ((((c.mine : Int) : Int) == ((d.mine : Int) : Int)))) && ((((c.peers : Int) : Int) == ((d.peers : Int) : Int)))) && ((((c.mtsn : Int) : Int) == ((d.mtsn : Int) : Int)))) && ((((c.ptsn : Int) : Int) == ((d.ptsn : Int) : Int)))) && (((c.win : Int) == (d.win : Int)))) && (((c.out : Int) == (d.out : Int)))) && (((c.inn : Int) == (d.inn : Int)))) && ((decide (c.addrs = d.addrs)))) && ((decide (c.mr = d.mr)))) && ((decide (c.pr = d.pr)))))) (.bool (((c.tm : Int) : Int) == ((d.tm : Int) : Int))) wx (r (.tmp 92)) := h2
      replace h3 : r (.const (.bool false)) = .bool false := h3
      exact give_and rfl h3 h1 (fun hb => h2.get (by first | exact hb | (rw [hc, hb]; rfl) | (rw [hb]; rfl))) ⟨Ext.refl _, rfl⟩
    refine GoodAll.cons ?_ ?_
    · intro r wx hR hx
      obtain ⟨h1, _⟩ := hx
      replace h1 : r (.tmp 93) = .bool ((((((((((((((c.made : Int) == (d.made : Int)) && (((c.life : Int) == (d.life : Int)))) && ((((c.mine : Int) : Int) == ((d.mine : Int) : Int)))) && ((((c.peers : Int) : Int) == ((d.peers : Int) : Int)))) && ((((c.mtsn : Int) : Int) == ((d.mtsn : Int) : Int)))) && ((((c.ptsn : Int) : Int) == ((d.ptsn : Int) : Int)))) && (((c.win : Int) == (d.win : Int)))) && (((c.out : Int) == (d.out : Int)))) && (((c.inn : Int) == (d.inn : Int)))) && ((decide (c.addrs = d.addrs)))) && ((decide (c.mr = d.mr)))) && ((decide (c.pr = d.pr)))) && ((((c.tm : Int) : Int) == ((d.tm : Int) : Int)))) := h1
      exact give_move (.inl rfl) ⟨Ext.refl _, h1⟩
    refine GoodAll.cons ?_ ?_
    · intro r wx hR hx
      obtain ⟨h1, _⟩ := hx
      replace h1 : r (.tmp 2) = .pointer (some ⟨w.heap.size, 0, none⟩) := h1
      intro gb hgb
      refine guard_u (C := (((((((((((((((c.made : Int) == (d.made : Int)) && (((c.life : Int) == (d.life : Int)))) && ((((c.mine : Int) : Int) == ((d.mine : Int) : Int)))) && ((((c.peers : Int) : Int) == ((d.peers : Int) : Int)))) && ((((c.mtsn : Int) : Int) == ((d.mtsn : Int) : Int)))) && ((((c.ptsn : Int) : Int) == ((d.ptsn : Int) : Int)))) && (((c.win : Int) == (d.win : Int)))) && (((c.out : Int) == (d.out : Int)))) && (((c.inn : Int) == (d.inn : Int)))) && ((decide (c.addrs = d.addrs)))) && ((decide (c.mr = d.mr)))) && ((decide (c.pr = d.pr)))) && ((((c.tm : Int) : Int) == ((d.tm : Int) : Int)))))) (b := ((((((((((((((c.made : Int) == (d.made : Int)) && (((c.life : Int) == (d.life : Int)))) && ((((c.mine : Int) : Int) == ((d.mine : Int) : Int)))) && ((((c.peers : Int) : Int) == ((d.peers : Int) : Int)))) && ((((c.mtsn : Int) : Int) == ((d.mtsn : Int) : Int)))) && ((((c.ptsn : Int) : Int) == ((d.ptsn : Int) : Int)))) && (((c.win : Int) == (d.win : Int)))) && (((c.out : Int) == (d.out : Int)))) && (((c.inn : Int) == (d.inn : Int)))) && ((decide (c.addrs = d.addrs)))) && ((decide (c.mr = d.mr)))) && ((decide (c.pr = d.pr)))) && ((((c.tm : Int) : Int) == ((d.tm : Int) : Int))))) (want := true) hgb (want_t _) (fun hc => ?_) (fun hc => under_no hc)
      exact give_of (by simp [execOp, h1, go_sem]) ⟨Ext.refl _, under_yes hc⟩
    refine GoodAll.cons ?_ ?_
    · intro r wx hR hx
      obtain ⟨h1, _⟩ := hx
      replace h1 : Under ((((((((((((((((c.made : Int) == (d.made : Int)) && (((c.life : Int) == (d.life : Int)))) && ((((c.mine : Int) : Int) == ((d.mine : Int) : Int)))) && ((((c.peers : Int) : Int) == ((d.peers : Int) : Int)))) && ((((c.mtsn : Int) : Int) == ((d.mtsn : Int) : Int)))) && ((((c.ptsn : Int) : Int) == ((d.ptsn : Int) : Int)))) && (((c.win : Int) == (d.win : Int)))) && (((c.out : Int) == (d.out : Int)))) && (((c.inn : Int) == (d.inn : Int)))) && ((decide (c.addrs = d.addrs)))) && ((decide (c.mr = d.mr)))) && ((decide (c.pr = d.pr)))) && ((((c.tm : Int) : Int) == ((d.tm : Int) : Int)))))) (.pointer (some ⟨w.heap.size, 13, none⟩)) wx (r (.tmp 95)) := h1
      intro gb hgb
      refine guard_u (C := (((((((((((((((c.made : Int) == (d.made : Int)) && (((c.life : Int) == (d.life : Int)))) && ((((c.mine : Int) : Int) == ((d.mine : Int) : Int)))) && ((((c.peers : Int) : Int) == ((d.peers : Int) : Int)))) && ((((c.mtsn : Int) : Int) == ((d.mtsn : Int) : Int)))) && ((((c.ptsn : Int) : Int) == ((d.ptsn : Int) : Int)))) && (((c.win : Int) == (d.win : Int)))) && (((c.out : Int) == (d.out : Int)))) && (((c.inn : Int) == (d.inn : Int)))) && ((decide (c.addrs = d.addrs)))) && ((decide (c.mr = d.mr)))) && ((decide (c.pr = d.pr)))) && ((((c.tm : Int) : Int) == ((d.tm : Int) : Int)))))) (b := ((((((((((((((c.made : Int) == (d.made : Int)) && (((c.life : Int) == (d.life : Int)))) && ((((c.mine : Int) : Int) == ((d.mine : Int) : Int)))) && ((((c.peers : Int) : Int) == ((d.peers : Int) : Int)))) && ((((c.mtsn : Int) : Int) == ((d.mtsn : Int) : Int)))) && ((((c.ptsn : Int) : Int) == ((d.ptsn : Int) : Int)))) && (((c.win : Int) == (d.win : Int)))) && (((c.out : Int) == (d.out : Int)))) && (((c.inn : Int) == (d.inn : Int)))) && ((decide (c.addrs = d.addrs)))) && ((decide (c.mr = d.mr)))) && ((decide (c.pr = d.pr)))) && ((((c.tm : Int) : Int) == ((d.tm : Int) : Int))))) (want := true) hgb (want_t _) (fun hc => ?_) (fun hc => under_no hc)
      replace h1 := h1.get hc
      exact give_of (exec_get one22 rfl h1 (kv13 (hb1'.ext hR))) ⟨Ext.refl _, under_yes hc⟩
    refine GoodAll.cons ?_ ?_
    · intro r wx hR hx
      obtain ⟨h1, _⟩ := hx
      replace h1 : r (.tmp 3) = .pointer (some ⟨w1.heap.size, 0, none⟩) := h1
      intro gb hgb
      refine guard_u (C := (((((((((((((((c.made : Int) == (d.made : Int)) && (((c.life : Int) == (d.life : Int)))) && ((((c.mine : Int) : Int) == ((d.mine : Int) : Int)))) && ((((c.peers : Int) : Int) == ((d.peers : Int) : Int)))) && ((((c.mtsn : Int) : Int) == ((d.mtsn : Int) : Int)))) && ((((c.ptsn : Int) : Int) == ((d.ptsn : Int) : Int)))) && (((c.win : Int) == (d.win : Int)))) && (((c.out : Int) == (d.out : Int)))) && (((c.inn : Int) == (d.inn : Int)))) && ((decide (c.addrs = d.addrs)))) && ((decide (c.mr = d.mr)))) && ((decide (c.pr = d.pr)))) && ((((c.tm : Int) : Int) == ((d.tm : Int) : Int)))))) (b := ((((((((((((((c.made : Int) == (d.made : Int)) && (((c.life : Int) == (d.life : Int)))) && ((((c.mine : Int) : Int) == ((d.mine : Int) : Int)))) && ((((c.peers : Int) : Int) == ((d.peers : Int) : Int)))) && ((((c.mtsn : Int) : Int) == ((d.mtsn : Int) : Int)))) && ((((c.ptsn : Int) : Int) == ((d.ptsn : Int) : Int)))) && (((c.win : Int) == (d.win : Int)))) && (((c.out : Int) == (d.out : Int)))) && (((c.inn : Int) == (d.inn : Int)))) && ((decide (c.addrs = d.addrs)))) && ((decide (c.mr = d.mr)))) && ((decide (c.pr = d.pr)))) && ((((c.tm : Int) : Int) == ((d.tm : Int) : Int))))) (want := true) hgb (want_t _) (fun hc => ?_) (fun hc => under_no hc)
      exact give_of (by simp [execOp, h1, go_sem]) ⟨Ext.refl _, under_yes hc⟩
    refine GoodAll.cons ?_ ?_
    · intro r wx hR hx
      obtain ⟨h1, _⟩ := hx
      replace h1 : Under ((((((((((((((((c.made : Int) == (d.made : Int)) && (((c.life : Int) == (d.life : Int)))) && ((((c.mine : Int) : Int) == ((d.mine : Int) : Int)))) && ((((c.peers : Int) : Int) == ((d.peers : Int) : Int)))) && ((((c.mtsn : Int) : Int) == ((d.mtsn : Int) : Int)))) && ((((c.ptsn : Int) : Int) == ((d.ptsn : Int) : Int)))) && (((c.win : Int) == (d.win : Int)))) && (((c.out : Int) == (d.out : Int)))) && (((c.inn : Int) == (d.inn : Int)))) && ((decide (c.addrs = d.addrs)))) && ((decide (c.mr = d.mr)))) && ((decide (c.pr = d.pr)))) && ((((c.tm : Int) : Int) == ((d.tm : Int) : Int)))))) (.pointer (some ⟨w1.heap.size, 13, none⟩)) wx (r (.tmp 97)) := h1
      intro gb hgb
      refine guard_u (C := (((((((((((((((c.made : Int) == (d.made : Int)) && (((c.life : Int) == (d.life : Int)))) && ((((c.mine : Int) : Int) == ((d.mine : Int) : Int)))) && ((((c.peers : Int) : Int) == ((d.peers : Int) : Int)))) && ((((c.mtsn : Int) : Int) == ((d.mtsn : Int) : Int)))) && ((((c.ptsn : Int) : Int) == ((d.ptsn : Int) : Int)))) && (((c.win : Int) == (d.win : Int)))) && (((c.out : Int) == (d.out : Int)))) && (((c.inn : Int) == (d.inn : Int)))) && ((decide (c.addrs = d.addrs)))) && ((decide (c.mr = d.mr)))) && ((decide (c.pr = d.pr)))) && ((((c.tm : Int) : Int) == ((d.tm : Int) : Int)))))) (b := ((((((((((((((c.made : Int) == (d.made : Int)) && (((c.life : Int) == (d.life : Int)))) && ((((c.mine : Int) : Int) == ((d.mine : Int) : Int)))) && ((((c.peers : Int) : Int) == ((d.peers : Int) : Int)))) && ((((c.mtsn : Int) : Int) == ((d.mtsn : Int) : Int)))) && ((((c.ptsn : Int) : Int) == ((d.ptsn : Int) : Int)))) && (((c.win : Int) == (d.win : Int)))) && (((c.out : Int) == (d.out : Int)))) && (((c.inn : Int) == (d.inn : Int)))) && ((decide (c.addrs = d.addrs)))) && ((decide (c.mr = d.mr)))) && ((decide (c.pr = d.pr)))) && ((((c.tm : Int) : Int) == ((d.tm : Int) : Int))))) (want := true) hgb (want_t _) (fun hc => ?_) (fun hc => under_no hc)
      replace h1 := h1.get hc
      exact give_of (exec_get one22 rfl h1 (kv13 (hb2.ext hR))) ⟨Ext.refl _, under_yes hc⟩
    refine GoodAll.cons ?_ ?_
    · intro r wx hR hx
      obtain ⟨h1, h2, _⟩ := hx
      replace h1 : Under ((((((((((((((((c.made : Int) == (d.made : Int)) && (((c.life : Int) == (d.life : Int)))) && ((((c.mine : Int) : Int) == ((d.mine : Int) : Int)))) && ((((c.peers : Int) : Int) == ((d.peers : Int) : Int)))) && ((((c.mtsn : Int) : Int) == ((d.mtsn : Int) : Int)))) && ((((c.ptsn : Int) : Int) == ((d.ptsn : Int) : Int)))) && (((c.win : Int) == (d.win : Int)))) && (((c.out : Int) == (d.out : Int)))) && (((c.inn : Int) == (d.inn : Int)))) && ((decide (c.addrs = d.addrs)))) && ((decide (c.mr = d.mr)))) && ((decide (c.pr = d.pr)))) && ((((c.tm : Int) : Int) == ((d.tm : Int) : Int)))))) (.int .u32 (c.tp : Int)) wx (r (.tmp 96)) := h1
      replace h2 : Under ((((((((((((((((c.made : Int) == (d.made : Int)) && (((c.life : Int) == (d.life : Int)))) && ((((c.mine : Int) : Int) == ((d.mine : Int) : Int)))) && ((((c.peers : Int) : Int) == ((d.peers : Int) : Int)))) && ((((c.mtsn : Int) : Int) == ((d.mtsn : Int) : Int)))) && ((((c.ptsn : Int) : Int) == ((d.ptsn : Int) : Int)))) && (((c.win : Int) == (d.win : Int)))) && (((c.out : Int) == (d.out : Int)))) && (((c.inn : Int) == (d.inn : Int)))) && ((decide (c.addrs = d.addrs)))) && ((decide (c.mr = d.mr)))) && ((decide (c.pr = d.pr)))) && ((((c.tm : Int) : Int) == ((d.tm : Int) : Int)))))) (.int .u32 (d.tp : Int)) wx (r (.tmp 98)) := h2
      intro gb hgb
      refine guard_u (C := (((((((((((((((c.made : Int) == (d.made : Int)) && (((c.life : Int) == (d.life : Int)))) && ((((c.mine : Int) : Int) == ((d.mine : Int) : Int)))) && ((((c.peers : Int) : Int) == ((d.peers : Int) : Int)))) && ((((c.mtsn : Int) : Int) == ((d.mtsn : Int) : Int)))) && ((((c.ptsn : Int) : Int) == ((d.ptsn : Int) : Int)))) && (((c.win : Int) == (d.win : Int)))) && (((c.out : Int) == (d.out : Int)))) && (((c.inn : Int) == (d.inn : Int)))) && ((decide (c.addrs = d.addrs)))) && ((decide (c.mr = d.mr)))) && ((decide (c.pr = d.pr)))) && ((((c.tm : Int) : Int) == ((d.tm : Int) : Int)))))) (b := ((((((((((((((c.made : Int) == (d.made : Int)) && (((c.life : Int) == (d.life : Int)))) && ((((c.mine : Int) : Int) == ((d.mine : Int) : Int)))) && ((((c.peers : Int) : Int) == ((d.peers : Int) : Int)))) && ((((c.mtsn : Int) : Int) == ((d.mtsn : Int) : Int)))) && ((((c.ptsn : Int) : Int) == ((d.ptsn : Int) : Int)))) && (((c.win : Int) == (d.win : Int)))) && (((c.out : Int) == (d.out : Int)))) && (((c.inn : Int) == (d.inn : Int)))) && ((decide (c.addrs = d.addrs)))) && ((decide (c.mr = d.mr)))) && ((decide (c.pr = d.pr)))) && ((((c.tm : Int) : Int) == ((d.tm : Int) : Int))))) (want := true) hgb (want_t _) (fun hc => ?_) (fun hc => under_no hc)
      replace h1 := h1.get hc
      replace h2 := h2.get hc
      exact give_of (by simp [execOp, h1, h2, go_sem]) ⟨Ext.refl _, under_yes hc⟩
    refine GoodAll.cons ?_ ?_
    · intro r wx hR hx
      obtain ⟨h1, h2, h3, _⟩ := hx
      replace h1 : r (.tmp 94) = .bool ((((((((((((((c.made : Int) == (d.made : Int)) && (((c.life : Int) == (d.life : Int)))) && ((((c.mine : Int) : Int) == ((d.mine : Int) : Int)))) && ((((c.peers : Int) : Int) == ((d.peers : Int) : Int)))) && ((((c.mtsn : Int) : Int) == ((d.mtsn : Int) : Int)))) && ((((c.ptsn : Int) : Int) == ((d.ptsn : Int) : Int)))) && (((c.win : Int) == (d.win : Int)))) && (((c.out : Int) == (d.out : Int)))) && (((c.inn : Int) == (d.inn : Int)))) && ((decide (c.addrs = d.addrs)))) && ((decide (c.mr = d.mr)))) && ((decide (c.pr = d.pr)))) && ((((c.tm : Int) : Int) == ((d.tm : Int) : Int)))) := h1
      replace h2 : Under ((((((((((((((((c.made : Int) == (d.made : Int)) && (((c.life : Int) == (d.life : Int)))) && ((((c.mine : Int) : Int) == ((d.mine : Int) : Int)))) && ((((c.peers : Int) : Int) == ((d.peers : Int) : Int)))) && ((((c.mtsn : Int) : Int) == ((d.mtsn : Int) : Int)))) && ((((c.ptsn : Int) : Int) == ((d.ptsn : Int) : Int)))) && (((c.win : Int) == (d.win : Int)))) && (((c.out : Int) == (d.out : Int)))) && (((c.inn : Int) == (d.inn : Int)))) && ((decide (c.addrs = d.addrs)))) && ((decide (c.mr = d.mr)))) && ((decide (c.pr = d.pr)))) && ((((c.tm : Int) : Int) == ((d.tm : Int) : Int)))))) (.bool (((c.tp : Int) : Int) == ((d.tp : Int) : Int))) wx (r (.tmp 99)) := h2
      replace h3 : r (.const (.bool false)) = .bool false := h3
      exact give_and rfl h3 h1 (fun hb => h2.get (by first | exact hb | (rw [hc, hb]; rfl) | (rw [hb]; rfl))) ⟨Ext.refl _, rfl⟩
    refine GoodAll.cons ?_ ?_
    · intro r wx hR hx
      obtain ⟨h1, _⟩ := hx
      replace h1 : r (.tmp 100) = .bool (((((((((((((((c.made : Int) == (d.made : Int)) && (((c.life : Int) == (d.life : Int)))) && ((((c.mine : Int) : Int) == ((d.mine : Int) : Int)))) && ((((c.peers : Int) : Int) == ((d.peers : Int) : Int)))) && ((((c.mtsn : Int) : Int) == ((d.mtsn : Int) : Int)))) && ((((c.ptsn : Int) : Int) == ((d.ptsn : Int) : Int)))) && (((c.win : Int) == (d.win : Int)))) && (((c.out : Int) == (d.out : Int)))) && (((c.inn : Int) == (d.inn : Int)))) && ((decide (c.addrs = d.addrs)))) && ((decide (c.mr = d.mr)))) && ((decide (c.pr = d.pr)))) && ((((c.tm : Int) : Int) == ((d.tm : Int) : Int)))) && ((((c.tp : Int) : Int) == ((d.tp : Int) : Int)))) := h1
      exact give_move (.inr rfl) ⟨Ext.refl _, h1⟩
    exact GoodAll.nil
  · intro vs wE aE hR hold haE
    have hv : vs 96 = .bool (((((((((((((((c.made : Int) == (d.made : Int)) && (((c.life : Int) == (d.life : Int)))) && ((((c.mine : Int) : Int) == ((d.mine : Int) : Int)))) && ((((c.peers : Int) : Int) == ((d.peers : Int) : Int)))) && ((((c.mtsn : Int) : Int) == ((d.mtsn : Int) : Int)))) && ((((c.ptsn : Int) : Int) == ((d.ptsn : Int) : Int)))) && (((c.win : Int) == (d.win : Int)))) && (((c.out : Int) == (d.out : Int)))) && (((c.inn : Int) == (d.inn : Int)))) && ((decide (c.addrs = d.addrs)))) && ((decide (c.mr = d.mr)))) && ((decide (c.pr = d.pr)))) && ((((c.tm : Int) : Int) == ((d.tm : Int) : Int)))) && ((((c.tp : Int) : Int) == ((d.tp : Int) : Int)))) := hold.at 96
    refine ‹∀ (a : Act) (w : World), Code.wp Tryd.prog Code.ret _ a w → _› _ _ ?_
    refine wp_ret ?_
    have hs : aE.tmps[4]? = some (.bool (((((((((((((((c.made : Int) == (d.made : Int)) && (((c.life : Int) == (d.life : Int)))) && ((((c.mine : Int) : Int) == ((d.mine : Int) : Int)))) && ((((c.peers : Int) : Int) == ((d.peers : Int) : Int)))) && ((((c.mtsn : Int) : Int) == ((d.mtsn : Int) : Int)))) && ((((c.ptsn : Int) : Int) == ((d.ptsn : Int) : Int)))) && (((c.win : Int) == (d.win : Int)))) && (((c.out : Int) == (d.out : Int)))) && (((c.inn : Int) == (d.inn : Int)))) && ((decide (c.addrs = d.addrs)))) && ((decide (c.mr = d.mr)))) && ((decide (c.pr = d.pr)))) && ((((c.tm : Int) : Int) == ((d.tm : Int) : Int)))) && ((((c.tp : Int) : Int) == ((d.tp : Int) : Int))))) := by rw [haE, ← hv]; kernel_rfl
    have hdf : aE.defers = [] := by rw [haE]; exact putAll_defers _ _ _ _
    clear haE
    refine bodyPost_ret (v := .bool (((((((((((((((c.made : Int) == (d.made : Int)) && (((c.life : Int) == (d.life : Int)))) && ((((c.mine : Int) : Int) == ((d.mine : Int) : Int)))) && ((((c.peers : Int) : Int) == ((d.peers : Int) : Int)))) && ((((c.mtsn : Int) : Int) == ((d.mtsn : Int) : Int)))) && ((((c.ptsn : Int) : Int) == ((d.ptsn : Int) : Int)))) && (((c.win : Int) == (d.win : Int)))) && (((c.out : Int) == (d.out : Int)))) && (((c.inn : Int) == (d.inn : Int)))) && ((decide (c.addrs = d.addrs)))) && ((decide (c.mr = d.mr)))) && ((decide (c.pr = d.pr)))) && ((((c.tm : Int) : Int) == ((d.tm : Int) : Int)))) && ((((c.tp : Int) : Int) == ((d.tp : Int) : Int))))) ?_ hdf ⟨rfl, (he1.trans he2).trans hR⟩
    simp [results, Tryd.results20, go_sem, hs]

theorem sameK_iff (c d : Co) : sameK c d = true ↔ c = d := by
  unfold sameK
  constructor
  · intro h
    simp only [Bool.and_eq_true, beq_iff_eq, decide_eq_true_eq, Int.ofNat_inj, Int.natCast_inj] at h
    cases c; cases d
    simp only at h
    simp only [Co.mk.injEq]
    refine ⟨?_, ?_, ?_, ?_, ?_, ?_, ?_, ?_, ?_, ?_, ?_, ?_, ?_, ?_⟩ <;> simp [h]
  · rintro rfl
    simp
end Tlv
end Go.Proofs.YtfhoielfekeihaaDoor
