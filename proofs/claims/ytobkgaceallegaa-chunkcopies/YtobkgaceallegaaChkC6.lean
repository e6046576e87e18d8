/- Texts of the seat, one behind the other. No condition of its own. -/
import Derived.Test.YtobkgaceallegaaChkC5
/- Chunks that are the same. No condition of its own. -/
namespace Go.Proofs.Ytobkgaceallegaa
namespace Tlv
open Go Go.RowKit
set_option linter.unusedVariables false
set_option linter.unusedSimpArgs false
set_option maxRecDepth 100000


def sameB (c d : Ck) : Bool := (((((((((((((((((c.kind : Int) == (d.kind : Int)) && ((samePB c d))) && ((((c.tag : Int) : Int) == ((d.tag : Int) : Int)))) && (((c.win : Int) == (d.win : Int)))) && (((c.out : Int) == (d.out : Int)))) && (((c.inn : Int) == (d.inn : Int)))) && ((((c.tsn : Int) : Int) == ((d.tsn : Int) : Int)))) && ((decide (c.rand = d.rand)))) && ((decide (c.addrs = d.addrs)))) && ((decide (c.info = d.info)))) && ((decide (c.gaps = d.gaps)))) && ((decide (ci c.dups = ci d.dups)))) && (((c.cause : Int) == (d.cause : Int)))) && ((((c.serial : Int) : Int) == ((d.serial : Int) : Int)))) && ((decide (c.ops = d.ops)))) && (((c.ok) == (d.ok))))
set_option maxHeartbeats 8000000 in
theorem same_any {w : World} {c d : Ck} {s u : Sv} (ha : CkAt w s c) (hb : CkAt w u d) :
    Calls Try.prog 25 #[.agg (CV c s), .agg (CV d u)] w fun e w' => e = .returned (.bool (sameB c d)) ∧ Ext w w' := by
  unfold sameB
  go_enter Try.func25, Try.ntmps25
  refine wp_seq_k (fun K hK => ?_)
  have HK := Stop.mk hK
  clear hK
  go_wp2_with (first
    | (have q := he1; clear q; refine wl_box (C := CV d u) rfl rfl rfl ?_; intro w2 hb2 he2 hx; clear hx; have hb1' := hb1.ext he2)
    | (refine wl_box (C := CV c s) rfl rfl rfl ?_; intro w1 hb1 he1 hx; clear hx))
  refine HK.go _ _ ?_
  refine wp_seq_k (fun K2 hK2 => ?_)
  have HA := ha.ext (he1.trans he2)
  have HB := hb.ext (he1.trans he2)
  refine wp_line (fun t => bif Nat.ble 5 t && Nat.ble t 114 then some (t - 5) else bif Nat.beq t 4 then some 110 else none) 115 Ext
    [Is (.pointer (some ⟨w.heap.size, 0, none⟩)),
     Is (.int .i64 c.kind),
     Is (.pointer (some ⟨w1.heap.size, 0, none⟩)),
     Is (.int .i64 d.kind),
     Is (.bool ((c.kind : Int) == (d.kind : Int))),
     Is (.bool ((c.kind : Int) == (d.kind : Int))),
     Under ((((c.kind : Int) == (d.kind : Int)))) (.pointer (some ⟨w.heap.size, 1, none⟩)),
     Under ((((c.kind : Int) == (d.kind : Int)))) (.agg (PV c s)),
     Under ((((c.kind : Int) == (d.kind : Int)))) (.pointer (some ⟨w1.heap.size, 1, none⟩)),
     Under ((((c.kind : Int) == (d.kind : Int)))) (.agg (PV d u)),
     Under ((((c.kind : Int) == (d.kind : Int)))) (.bool (samePB c d)),
     Is (.bool (((c.kind : Int) == (d.kind : Int)) && ((samePB c d)))),
     Is (.bool (((c.kind : Int) == (d.kind : Int)) && ((samePB c d)))),
     Under (((((c.kind : Int) == (d.kind : Int)) && ((samePB c d))))) (.pointer (some ⟨w.heap.size, 8, none⟩)),
     Under (((((c.kind : Int) == (d.kind : Int)) && ((samePB c d))))) (.int .u32 (c.tag : Int)),
     Under (((((c.kind : Int) == (d.kind : Int)) && ((samePB c d))))) (.pointer (some ⟨w1.heap.size, 8, none⟩)),
     Under (((((c.kind : Int) == (d.kind : Int)) && ((samePB c d))))) (.int .u32 (d.tag : Int)),
     Under (((((c.kind : Int) == (d.kind : Int)) && ((samePB c d))))) (.bool (((c.tag : Int) : Int) == ((d.tag : Int) : Int))),
     Is (.bool ((((c.kind : Int) == (d.kind : Int)) && ((samePB c d))) && ((((c.tag : Int) : Int) == ((d.tag : Int) : Int))))),
     Is (.bool ((((c.kind : Int) == (d.kind : Int)) && ((samePB c d))) && ((((c.tag : Int) : Int) == ((d.tag : Int) : Int))))),
     Under ((((((c.kind : Int) == (d.kind : Int)) && ((samePB c d))) && ((((c.tag : Int) : Int) == ((d.tag : Int) : Int)))))) (.pointer (some ⟨w.heap.size, 9, none⟩)),
     Under ((((((c.kind : Int) == (d.kind : Int)) && ((samePB c d))) && ((((c.tag : Int) : Int) == ((d.tag : Int) : Int)))))) (.int .i64 c.win),
     Under ((((((c.kind : Int) == (d.kind : Int)) && ((samePB c d))) && ((((c.tag : Int) : Int) == ((d.tag : Int) : Int)))))) (.pointer (some ⟨w1.heap.size, 9, none⟩)),
     Under ((((((c.kind : Int) == (d.kind : Int)) && ((samePB c d))) && ((((c.tag : Int) : Int) == ((d.tag : Int) : Int)))))) (.int .i64 d.win),
     Under ((((((c.kind : Int) == (d.kind : Int)) && ((samePB c d))) && ((((c.tag : Int) : Int) == ((d.tag : Int) : Int)))))) (.bool ((c.win : Int) == (d.win : Int))),
     Is (.bool (((((c.kind : Int) == (d.kind : Int)) && ((samePB c d))) && ((((c.tag : Int) : Int) == ((d.tag : Int) : Int)))) && (((c.win : Int) == (d.win : Int))))),
     Is (.bool (((((c.kind : Int) == (d.kind : Int)) && ((samePB c d))) && ((((c.tag : Int) : Int) == ((d.tag : Int) : Int)))) && (((c.win : Int) == (d.win : Int))))),
     Under (((((((c.kind : Int) == (d.kind : Int)) && ((samePB c d))) && ((((c.tag : Int) : Int) == ((d.tag : Int) : Int)))) && (((c.win : Int) == (d.win : Int)))))) (.pointer (some ⟨w.heap.size, 10, none⟩)),
     Under (((((((c.kind : Int) == (d.kind : Int)) && ((samePB c d))) && ((((c.tag : Int) : Int) == ((d.tag : Int) : Int)))) && (((c.win : Int) == (d.win : Int)))))) (.int .i64 c.out),
     Under (((((((c.kind : Int) == (d.kind : Int)) && ((samePB c d))) && ((((c.tag : Int) : Int) == ((d.tag : Int) : Int)))) && (((c.win : Int) == (d.win : Int)))))) (.pointer (some ⟨w1.heap.size, 10, none⟩)),
     Under (((((((c.kind : Int) == (d.kind : Int)) && ((samePB c d))) && ((((c.tag : Int) : Int) == ((d.tag : Int) : Int)))) && (((c.win : Int) == (d.win : Int)))))) (.int .i64 d.out),
     Under (((((((c.kind : Int) == (d.kind : Int)) && ((samePB c d))) && ((((c.tag : Int) : Int) == ((d.tag : Int) : Int)))) && (((c.win : Int) == (d.win : Int)))))) (.bool ((c.out : Int) == (d.out : Int))),
     Is (.bool ((((((c.kind : Int) == (d.kind : Int)) && ((samePB c d))) && ((((c.tag : Int) : Int) == ((d.tag : Int) : Int)))) && (((c.win : Int) == (d.win : Int)))) && (((c.out : Int) == (d.out : Int))))),
     Is (.bool ((((((c.kind : Int) == (d.kind : Int)) && ((samePB c d))) && ((((c.tag : Int) : Int) == ((d.tag : Int) : Int)))) && (((c.win : Int) == (d.win : Int)))) && (((c.out : Int) == (d.out : Int))))),
     Under ((((((((c.kind : Int) == (d.kind : Int)) && ((samePB c d))) && ((((c.tag : Int) : Int) == ((d.tag : Int) : Int)))) && (((c.win : Int) == (d.win : Int)))) && (((c.out : Int) == (d.out : Int)))))) (.pointer (some ⟨w.heap.size, 11, none⟩)),
     Under ((((((((c.kind : Int) == (d.kind : Int)) && ((samePB c d))) && ((((c.tag : Int) : Int) == ((d.tag : Int) : Int)))) && (((c.win : Int) == (d.win : Int)))) && (((c.out : Int) == (d.out : Int)))))) (.int .i64 c.inn),
     Under ((((((((c.kind : Int) == (d.kind : Int)) && ((samePB c d))) && ((((c.tag : Int) : Int) == ((d.tag : Int) : Int)))) && (((c.win : Int) == (d.win : Int)))) && (((c.out : Int) == (d.out : Int)))))) (.pointer (some ⟨w1.heap.size, 11, none⟩)),
     Under ((((((((c.kind : Int) == (d.kind : Int)) && ((samePB c d))) && ((((c.tag : Int) : Int) == ((d.tag : Int) : Int)))) && (((c.win : Int) == (d.win : Int)))) && (((c.out : Int) == (d.out : Int)))))) (.int .i64 d.inn),
     Under ((((((((c.kind : Int) == (d.kind : Int)) && ((samePB c d))) && ((((c.tag : Int) : Int) == ((d.tag : Int) : Int)))) && (((c.win : Int) == (d.win : Int)))) && (((c.out : Int) == (d.out : Int)))))) (.bool ((c.inn : Int) == (d.inn : Int))),
     Is (.bool (((((((c.kind : Int) == (d.kind : Int)) && ((samePB c d))) && ((((c.tag : Int) : Int) == ((d.tag : Int) : Int)))) && (((c.win : Int) == (d.win : Int)))) && (((c.out : Int) == (d.out : Int)))) && (((c.inn : Int) == (d.inn : Int))))),
     Is (.bool (((((((c.kind : Int) == (d.kind : Int)) && ((samePB c d))) && ((((c.tag : Int) : Int) == ((d.tag : Int) : Int)))) && (((c.win : Int) == (d.win : Int)))) && (((c.out : Int) == (d.out : Int)))) && (((c.inn : Int) == (d.inn : Int))))),
     Under (((((((((c.kind : Int) == (d.kind : Int)) && ((samePB c d))) && ((((c.tag : Int) : Int) == ((d.tag : Int) : Int)))) && (((c.win : Int) == (d.win : Int)))) && (((c.out : Int) == (d.out : Int)))) && (((c.inn : Int) == (d.inn : Int)))))) (.pointer (some ⟨w.heap.size, 12, none⟩)),
     Under (((((((((c.kind : Int) == (d.kind : Int)) && ((samePB c d))) && ((((c.tag : Int) : Int) == ((d.tag : Int) : Int)))) && (((c.win : Int) == (d.win : Int)))) && (((c.out : Int) == (d.out : Int)))) && (((c.inn : Int) == (d.inn : Int)))))) (.int .u32 (c.tsn : Int)),
     Under (((((((((c.kind : Int) == (d.kind : Int)) && ((samePB c d))) && ((((c.tag : Int) : Int) == ((d.tag : Int) : Int)))) && (((c.win : Int) == (d.win : Int)))) && (((c.out : Int) == (d.out : Int)))) && (((c.inn : Int) == (d.inn : Int)))))) (.pointer (some ⟨w1.heap.size, 12, none⟩)),
     Under (((((((((c.kind : Int) == (d.kind : Int)) && ((samePB c d))) && ((((c.tag : Int) : Int) == ((d.tag : Int) : Int)))) && (((c.win : Int) == (d.win : Int)))) && (((c.out : Int) == (d.out : Int)))) && (((c.inn : Int) == (d.inn : Int)))))) (.int .u32 (d.tsn : Int)),
     Under (((((((((c.kind : Int) == (d.kind : Int)) && ((samePB c d))) && ((((c.tag : Int) : Int) == ((d.tag : Int) : Int)))) && (((c.win : Int) == (d.win : Int)))) && (((c.out : Int) == (d.out : Int)))) && (((c.inn : Int) == (d.inn : Int)))))) (.bool (((c.tsn : Int) : Int) == ((d.tsn : Int) : Int))),
     Is (.bool ((((((((c.kind : Int) == (d.kind : Int)) && ((samePB c d))) && ((((c.tag : Int) : Int) == ((d.tag : Int) : Int)))) && (((c.win : Int) == (d.win : Int)))) && (((c.out : Int) == (d.out : Int)))) && (((c.inn : Int) == (d.inn : Int)))) && ((((c.tsn : Int) : Int) == ((d.tsn : Int) : Int))))),
     Is (.bool ((((((((c.kind : Int) == (d.kind : Int)) && ((samePB c d))) && ((((c.tag : Int) : Int) == ((d.tag : Int) : Int)))) && (((c.win : Int) == (d.win : Int)))) && (((c.out : Int) == (d.out : Int)))) && (((c.inn : Int) == (d.inn : Int)))) && ((((c.tsn : Int) : Int) == ((d.tsn : Int) : Int))))),
     Under ((((((((((c.kind : Int) == (d.kind : Int)) && ((samePB c d))) && ((((c.tag : Int) : Int) == ((d.tag : Int) : Int)))) && (((c.win : Int) == (d.win : Int)))) && (((c.out : Int) == (d.out : Int)))) && (((c.inn : Int) == (d.inn : Int)))) && ((((c.tsn : Int) : Int) == ((d.tsn : Int) : Int)))))) (.pointer (some ⟨w.heap.size, 13, none⟩)),
     Under ((((((((((c.kind : Int) == (d.kind : Int)) && ((samePB c d))) && ((((c.tag : Int) : Int) == ((d.tag : Int) : Int)))) && (((c.win : Int) == (d.win : Int)))) && (((c.out : Int) == (d.out : Int)))) && (((c.inn : Int) == (d.inn : Int)))) && ((((c.tsn : Int) : Int) == ((d.tsn : Int) : Int)))))) (.slice s.rA s.rN s.rC),
     Under ((((((((((c.kind : Int) == (d.kind : Int)) && ((samePB c d))) && ((((c.tag : Int) : Int) == ((d.tag : Int) : Int)))) && (((c.win : Int) == (d.win : Int)))) && (((c.out : Int) == (d.out : Int)))) && (((c.inn : Int) == (d.inn : Int)))) && ((((c.tsn : Int) : Int) == ((d.tsn : Int) : Int)))))) (.pointer (some ⟨w1.heap.size, 13, none⟩)),
     Under ((((((((((c.kind : Int) == (d.kind : Int)) && ((samePB c d))) && ((((c.tag : Int) : Int) == ((d.tag : Int) : Int)))) && (((c.win : Int) == (d.win : Int)))) && (((c.out : Int) == (d.out : Int)))) && (((c.inn : Int) == (d.inn : Int)))) && ((((c.tsn : Int) : Int) == ((d.tsn : Int) : Int)))))) (.slice u.rA u.rN u.rC),
     Under ((((((((((c.kind : Int) == (d.kind : Int)) && ((samePB c d))) && ((((c.tag : Int) : Int) == ((d.tag : Int) : Int)))) && (((c.win : Int) == (d.win : Int)))) && (((c.out : Int) == (d.out : Int)))) && (((c.inn : Int) == (d.inn : Int)))) && ((((c.tsn : Int) : Int) == ((d.tsn : Int) : Int)))))) (.bool (decide (c.rand = d.rand))),
     Is (.bool (((((((((c.kind : Int) == (d.kind : Int)) && ((samePB c d))) && ((((c.tag : Int) : Int) == ((d.tag : Int) : Int)))) && (((c.win : Int) == (d.win : Int)))) && (((c.out : Int) == (d.out : Int)))) && (((c.inn : Int) == (d.inn : Int)))) && ((((c.tsn : Int) : Int) == ((d.tsn : Int) : Int)))) && ((decide (c.rand = d.rand))))),
     Is (.bool (((((((((c.kind : Int) == (d.kind : Int)) && ((samePB c d))) && ((((c.tag : Int) : Int) == ((d.tag : Int) : Int)))) && (((c.win : Int) == (d.win : Int)))) && (((c.out : Int) == (d.out : Int)))) && (((c.inn : Int) == (d.inn : Int)))) && ((((c.tsn : Int) : Int) == ((d.tsn : Int) : Int)))) && ((decide (c.rand = d.rand))))),
     Under (((((((((((c.kind : Int) == (d.kind : Int)) && ((samePB c d))) && ((((c.tag : Int) : Int) == ((d.tag : Int) : Int)))) && (((c.win : Int) == (d.win : Int)))) && (((c.out : Int) == (d.out : Int)))) && (((c.inn : Int) == (d.inn : Int)))) && ((((c.tsn : Int) : Int) == ((d.tsn : Int) : Int)))) && ((decide (c.rand = d.rand)))))) (.pointer (some ⟨w.heap.size, 14, none⟩)),
     Under (((((((((((c.kind : Int) == (d.kind : Int)) && ((samePB c d))) && ((((c.tag : Int) : Int) == ((d.tag : Int) : Int)))) && (((c.win : Int) == (d.win : Int)))) && (((c.out : Int) == (d.out : Int)))) && (((c.inn : Int) == (d.inn : Int)))) && ((((c.tsn : Int) : Int) == ((d.tsn : Int) : Int)))) && ((decide (c.rand = d.rand)))))) (.slice s.aA s.aN s.aC),
     Under (((((((((((c.kind : Int) == (d.kind : Int)) && ((samePB c d))) && ((((c.tag : Int) : Int) == ((d.tag : Int) : Int)))) && (((c.win : Int) == (d.win : Int)))) && (((c.out : Int) == (d.out : Int)))) && (((c.inn : Int) == (d.inn : Int)))) && ((((c.tsn : Int) : Int) == ((d.tsn : Int) : Int)))) && ((decide (c.rand = d.rand)))))) (.pointer (some ⟨w1.heap.size, 14, none⟩)),
     Under (((((((((((c.kind : Int) == (d.kind : Int)) && ((samePB c d))) && ((((c.tag : Int) : Int) == ((d.tag : Int) : Int)))) && (((c.win : Int) == (d.win : Int)))) && (((c.out : Int) == (d.out : Int)))) && (((c.inn : Int) == (d.inn : Int)))) && ((((c.tsn : Int) : Int) == ((d.tsn : Int) : Int)))) && ((decide (c.rand = d.rand)))))) (.slice u.aA u.aN u.aC),
     Under (((((((((((c.kind : Int) == (d.kind : Int)) && ((samePB c d))) && ((((c.tag : Int) : Int) == ((d.tag : Int) : Int)))) && (((c.win : Int) == (d.win : Int)))) && (((c.out : Int) == (d.out : Int)))) && (((c.inn : Int) == (d.inn : Int)))) && ((((c.tsn : Int) : Int) == ((d.tsn : Int) : Int)))) && ((decide (c.rand = d.rand)))))) (.bool (decide (c.addrs = d.addrs))),
     Is (.bool ((((((((((c.kind : Int) == (d.kind : Int)) && ((samePB c d))) && ((((c.tag : Int) : Int) == ((d.tag : Int) : Int)))) && (((c.win : Int) == (d.win : Int)))) && (((c.out : Int) == (d.out : Int)))) && (((c.inn : Int) == (d.inn : Int)))) && ((((c.tsn : Int) : Int) == ((d.tsn : Int) : Int)))) && ((decide (c.rand = d.rand)))) && ((decide (c.addrs = d.addrs))))),
     Is (.bool ((((((((((c.kind : Int) == (d.kind : Int)) && ((samePB c d))) && ((((c.tag : Int) : Int) == ((d.tag : Int) : Int)))) && (((c.win : Int) == (d.win : Int)))) && (((c.out : Int) == (d.out : Int)))) && (((c.inn : Int) == (d.inn : Int)))) && ((((c.tsn : Int) : Int) == ((d.tsn : Int) : Int)))) && ((decide (c.rand = d.rand)))) && ((decide (c.addrs = d.addrs))))),
     Under ((((((((((((c.kind : Int) == (d.kind : Int)) && ((samePB c d))) && ((((c.tag : Int) : Int) == ((d.tag : Int) : Int)))) && (((c.win : Int) == (d.win : Int)))) && (((c.out : Int) == (d.out : Int)))) && (((c.inn : Int) == (d.inn : Int)))) && ((((c.tsn : Int) : Int) == ((d.tsn : Int) : Int)))) && ((decide (c.rand = d.rand)))) && ((decide (c.addrs = d.addrs)))))) (.pointer (some ⟨w.heap.size, 15, none⟩)),
     Under ((((((((((((c.kind : Int) == (d.kind : Int)) && ((samePB c d))) && ((((c.tag : Int) : Int) == ((d.tag : Int) : Int)))) && (((c.win : Int) == (d.win : Int)))) && (((c.out : Int) == (d.out : Int)))) && (((c.inn : Int) == (d.inn : Int)))) && ((((c.tsn : Int) : Int) == ((d.tsn : Int) : Int)))) && ((decide (c.rand = d.rand)))) && ((decide (c.addrs = d.addrs)))))) (.slice s.iA s.iN s.iC),
     Under ((((((((((((c.kind : Int) == (d.kind : Int)) && ((samePB c d))) && ((((c.tag : Int) : Int) == ((d.tag : Int) : Int)))) && (((c.win : Int) == (d.win : Int)))) && (((c.out : Int) == (d.out : Int)))) && (((c.inn : Int) == (d.inn : Int)))) && ((((c.tsn : Int) : Int) == ((d.tsn : Int) : Int)))) && ((decide (c.rand = d.rand)))) && ((decide (c.addrs = d.addrs)))))) (.pointer (some ⟨w1.heap.size, 15, none⟩)),
     Under ((((((((((((c.kind : Int) == (d.kind : Int)) && ((samePB c d))) && ((((c.tag : Int) : Int) == ((d.tag : Int) : Int)))) && (((c.win : Int) == (d.win : Int)))) && (((c.out : Int) == (d.out : Int)))) && (((c.inn : Int) == (d.inn : Int)))) && ((((c.tsn : Int) : Int) == ((d.tsn : Int) : Int)))) && ((decide (c.rand = d.rand)))) && ((decide (c.addrs = d.addrs)))))) (.slice u.iA u.iN u.iC),
     Under ((((((((((((c.kind : Int) == (d.kind : Int)) && ((samePB c d))) && ((((c.tag : Int) : Int) == ((d.tag : Int) : Int)))) && (((c.win : Int) == (d.win : Int)))) && (((c.out : Int) == (d.out : Int)))) && (((c.inn : Int) == (d.inn : Int)))) && ((((c.tsn : Int) : Int) == ((d.tsn : Int) : Int)))) && ((decide (c.rand = d.rand)))) && ((decide (c.addrs = d.addrs)))))) (.bool (decide (c.info = d.info))),
     Is (.bool (((((((((((c.kind : Int) == (d.kind : Int)) && ((samePB c d))) && ((((c.tag : Int) : Int) == ((d.tag : Int) : Int)))) && (((c.win : Int) == (d.win : Int)))) && (((c.out : Int) == (d.out : Int)))) && (((c.inn : Int) == (d.inn : Int)))) && ((((c.tsn : Int) : Int) == ((d.tsn : Int) : Int)))) && ((decide (c.rand = d.rand)))) && ((decide (c.addrs = d.addrs)))) && ((decide (c.info = d.info))))),
     Is (.bool (((((((((((c.kind : Int) == (d.kind : Int)) && ((samePB c d))) && ((((c.tag : Int) : Int) == ((d.tag : Int) : Int)))) && (((c.win : Int) == (d.win : Int)))) && (((c.out : Int) == (d.out : Int)))) && (((c.inn : Int) == (d.inn : Int)))) && ((((c.tsn : Int) : Int) == ((d.tsn : Int) : Int)))) && ((decide (c.rand = d.rand)))) && ((decide (c.addrs = d.addrs)))) && ((decide (c.info = d.info))))),
     Under (((((((((((((c.kind : Int) == (d.kind : Int)) && ((samePB c d))) && ((((c.tag : Int) : Int) == ((d.tag : Int) : Int)))) && (((c.win : Int) == (d.win : Int)))) && (((c.out : Int) == (d.out : Int)))) && (((c.inn : Int) == (d.inn : Int)))) && ((((c.tsn : Int) : Int) == ((d.tsn : Int) : Int)))) && ((decide (c.rand = d.rand)))) && ((decide (c.addrs = d.addrs)))) && ((decide (c.info = d.info)))))) (.pointer (some ⟨w.heap.size, 16, none⟩)),
     Under (((((((((((((c.kind : Int) == (d.kind : Int)) && ((samePB c d))) && ((((c.tag : Int) : Int) == ((d.tag : Int) : Int)))) && (((c.win : Int) == (d.win : Int)))) && (((c.out : Int) == (d.out : Int)))) && (((c.inn : Int) == (d.inn : Int)))) && ((((c.tsn : Int) : Int) == ((d.tsn : Int) : Int)))) && ((decide (c.rand = d.rand)))) && ((decide (c.addrs = d.addrs)))) && ((decide (c.info = d.info)))))) (.slice s.gA s.gN s.gC),
     Under (((((((((((((c.kind : Int) == (d.kind : Int)) && ((samePB c d))) && ((((c.tag : Int) : Int) == ((d.tag : Int) : Int)))) && (((c.win : Int) == (d.win : Int)))) && (((c.out : Int) == (d.out : Int)))) && (((c.inn : Int) == (d.inn : Int)))) && ((((c.tsn : Int) : Int) == ((d.tsn : Int) : Int)))) && ((decide (c.rand = d.rand)))) && ((decide (c.addrs = d.addrs)))) && ((decide (c.info = d.info)))))) (.pointer (some ⟨w1.heap.size, 16, none⟩)),
     Under (((((((((((((c.kind : Int) == (d.kind : Int)) && ((samePB c d))) && ((((c.tag : Int) : Int) == ((d.tag : Int) : Int)))) && (((c.win : Int) == (d.win : Int)))) && (((c.out : Int) == (d.out : Int)))) && (((c.inn : Int) == (d.inn : Int)))) && ((((c.tsn : Int) : Int) == ((d.tsn : Int) : Int)))) && ((decide (c.rand = d.rand)))) && ((decide (c.addrs = d.addrs)))) && ((decide (c.info = d.info)))))) (.slice u.gA u.gN u.gC),
     Under (((((((((((((c.kind : Int) == (d.kind : Int)) && ((samePB c d))) && ((((c.tag : Int) : Int) == ((d.tag : Int) : Int)))) && (((c.win : Int) == (d.win : Int)))) && (((c.out : Int) == (d.out : Int)))) && (((c.inn : Int) == (d.inn : Int)))) && ((((c.tsn : Int) : Int) == ((d.tsn : Int) : Int)))) && ((decide (c.rand = d.rand)))) && ((decide (c.addrs = d.addrs)))) && ((decide (c.info = d.info)))))) (.bool (decide (c.gaps = d.gaps))),
     Is (.bool ((((((((((((c.kind : Int) == (d.kind : Int)) && ((samePB c d))) && ((((c.tag : Int) : Int) == ((d.tag : Int) : Int)))) && (((c.win : Int) == (d.win : Int)))) && (((c.out : Int) == (d.out : Int)))) && (((c.inn : Int) == (d.inn : Int)))) && ((((c.tsn : Int) : Int) == ((d.tsn : Int) : Int)))) && ((decide (c.rand = d.rand)))) && ((decide (c.addrs = d.addrs)))) && ((decide (c.info = d.info)))) && ((decide (c.gaps = d.gaps))))),
     Is (.bool ((((((((((((c.kind : Int) == (d.kind : Int)) && ((samePB c d))) && ((((c.tag : Int) : Int) == ((d.tag : Int) : Int)))) && (((c.win : Int) == (d.win : Int)))) && (((c.out : Int) == (d.out : Int)))) && (((c.inn : Int) == (d.inn : Int)))) && ((((c.tsn : Int) : Int) == ((d.tsn : Int) : Int)))) && ((decide (c.rand = d.rand)))) && ((decide (c.addrs = d.addrs)))) && ((decide (c.info = d.info)))) && ((decide (c.gaps = d.gaps))))),
     Under ((((((((((((((c.kind : Int) == (d.kind : Int)) && ((samePB c d))) && ((((c.tag : Int) : Int) == ((d.tag : Int) : Int)))) && (((c.win : Int) == (d.win : Int)))) && (((c.out : Int) == (d.out : Int)))) && (((c.inn : Int) == (d.inn : Int)))) && ((((c.tsn : Int) : Int) == ((d.tsn : Int) : Int)))) && ((decide (c.rand = d.rand)))) && ((decide (c.addrs = d.addrs)))) && ((decide (c.info = d.info)))) && ((decide (c.gaps = d.gaps)))))) (.pointer (some ⟨w.heap.size, 17, none⟩)),
     Under ((((((((((((((c.kind : Int) == (d.kind : Int)) && ((samePB c d))) && ((((c.tag : Int) : Int) == ((d.tag : Int) : Int)))) && (((c.win : Int) == (d.win : Int)))) && (((c.out : Int) == (d.out : Int)))) && (((c.inn : Int) == (d.inn : Int)))) && ((((c.tsn : Int) : Int) == ((d.tsn : Int) : Int)))) && ((decide (c.rand = d.rand)))) && ((decide (c.addrs = d.addrs)))) && ((decide (c.info = d.info)))) && ((decide (c.gaps = d.gaps)))))) (.slice s.dA s.dN s.dC),
     Under ((((((((((((((c.kind : Int) == (d.kind : Int)) && ((samePB c d))) && ((((c.tag : Int) : Int) == ((d.tag : Int) : Int)))) && (((c.win : Int) == (d.win : Int)))) && (((c.out : Int) == (d.out : Int)))) && (((c.inn : Int) == (d.inn : Int)))) && ((((c.tsn : Int) : Int) == ((d.tsn : Int) : Int)))) && ((decide (c.rand = d.rand)))) && ((decide (c.addrs = d.addrs)))) && ((decide (c.info = d.info)))) && ((decide (c.gaps = d.gaps)))))) (.pointer (some ⟨w1.heap.size, 17, none⟩)),
     Under ((((((((((((((c.kind : Int) == (d.kind : Int)) && ((samePB c d))) && ((((c.tag : Int) : Int) == ((d.tag : Int) : Int)))) && (((c.win : Int) == (d.win : Int)))) && (((c.out : Int) == (d.out : Int)))) && (((c.inn : Int) == (d.inn : Int)))) && ((((c.tsn : Int) : Int) == ((d.tsn : Int) : Int)))) && ((decide (c.rand = d.rand)))) && ((decide (c.addrs = d.addrs)))) && ((decide (c.info = d.info)))) && ((decide (c.gaps = d.gaps)))))) (.slice u.dA u.dN u.dC),
     Under ((((((((((((((c.kind : Int) == (d.kind : Int)) && ((samePB c d))) && ((((c.tag : Int) : Int) == ((d.tag : Int) : Int)))) && (((c.win : Int) == (d.win : Int)))) && (((c.out : Int) == (d.out : Int)))) && (((c.inn : Int) == (d.inn : Int)))) && ((((c.tsn : Int) : Int) == ((d.tsn : Int) : Int)))) && ((decide (c.rand = d.rand)))) && ((decide (c.addrs = d.addrs)))) && ((decide (c.info = d.info)))) && ((decide (c.gaps = d.gaps)))))) (.bool (decide (ci c.dups = ci d.dups))),
     Is (.bool (((((((((((((c.kind : Int) == (d.kind : Int)) && ((samePB c d))) && ((((c.tag : Int) : Int) == ((d.tag : Int) : Int)))) && (((c.win : Int) == (d.win : Int)))) && (((c.out : Int) == (d.out : Int)))) && (((c.inn : Int) == (d.inn : Int)))) && ((((c.tsn : Int) : Int) == ((d.tsn : Int) : Int)))) && ((decide (c.rand = d.rand)))) && ((decide (c.addrs = d.addrs)))) && ((decide (c.info = d.info)))) && ((decide (c.gaps = d.gaps)))) && ((decide (ci c.dups = ci d.dups))))),
     Is (.bool (((((((((((((c.kind : Int) == (d.kind : Int)) && ((samePB c d))) && ((((c.tag : Int) : Int) == ((d.tag : Int) : Int)))) && (((c.win : Int) == (d.win : Int)))) && (((c.out : Int) == (d.out : Int)))) && (((c.inn : Int) == (d.inn : Int)))) && ((((c.tsn : Int) : Int) == ((d.tsn : Int) : Int)))) && ((decide (c.rand = d.rand)))) && ((decide (c.addrs = d.addrs)))) && ((decide (c.info = d.info)))) && ((decide (c.gaps = d.gaps)))) && ((decide (ci c.dups = ci d.dups))))),
     Under (((((((((((((((c.kind : Int) == (d.kind : Int)) && ((samePB c d))) && ((((c.tag : Int) : Int) == ((d.tag : Int) : Int)))) && (((c.win : Int) == (d.win : Int)))) && (((c.out : Int) == (d.out : Int)))) && (((c.inn : Int) == (d.inn : Int)))) && ((((c.tsn : Int) : Int) == ((d.tsn : Int) : Int)))) && ((decide (c.rand = d.rand)))) && ((decide (c.addrs = d.addrs)))) && ((decide (c.info = d.info)))) && ((decide (c.gaps = d.gaps)))) && ((decide (ci c.dups = ci d.dups)))))) (.pointer (some ⟨w.heap.size, 18, none⟩)),
     Under (((((((((((((((c.kind : Int) == (d.kind : Int)) && ((samePB c d))) && ((((c.tag : Int) : Int) == ((d.tag : Int) : Int)))) && (((c.win : Int) == (d.win : Int)))) && (((c.out : Int) == (d.out : Int)))) && (((c.inn : Int) == (d.inn : Int)))) && ((((c.tsn : Int) : Int) == ((d.tsn : Int) : Int)))) && ((decide (c.rand = d.rand)))) && ((decide (c.addrs = d.addrs)))) && ((decide (c.info = d.info)))) && ((decide (c.gaps = d.gaps)))) && ((decide (ci c.dups = ci d.dups)))))) (.int .i64 c.cause),
     Under (((((((((((((((c.kind : Int) == (d.kind : Int)) && ((samePB c d))) && ((((c.tag : Int) : Int) == ((d.tag : Int) : Int)))) && (((c.win : Int) == (d.win : Int)))) && (((c.out : Int) == (d.out : Int)))) && (((c.inn : Int) == (d.inn : Int)))) && ((((c.tsn : Int) : Int) == ((d.tsn : Int) : Int)))) && ((decide (c.rand = d.rand)))) && ((decide (c.addrs = d.addrs)))) && ((decide (c.info = d.info)))) && ((decide (c.gaps = d.gaps)))) && ((decide (ci c.dups = ci d.dups)))))) (.pointer (some ⟨w1.heap.size, 18, none⟩)),
     Under (((((((((((((((c.kind : Int) == (d.kind : Int)) && ((samePB c d))) && ((((c.tag : Int) : Int) == ((d.tag : Int) : Int)))) && (((c.win : Int) == (d.win : Int)))) && (((c.out : Int) == (d.out : Int)))) && (((c.inn : Int) == (d.inn : Int)))) && ((((c.tsn : Int) : Int) == ((d.tsn : Int) : Int)))) && ((decide (c.rand = d.rand)))) && ((decide (c.addrs = d.addrs)))) && ((decide (c.info = d.info)))) && ((decide (c.gaps = d.gaps)))) && ((decide (ci c.dups = ci d.dups)))))) (.int .i64 d.cause),
     Under (((((((((((((((c.kind : Int) == (d.kind : Int)) && ((samePB c d))) && ((((c.tag : Int) : Int) == ((d.tag : Int) : Int)))) && (((c.win : Int) == (d.win : Int)))) && (((c.out : Int) == (d.out : Int)))) && (((c.inn : Int) == (d.inn : Int)))) && ((((c.tsn : Int) : Int) == ((d.tsn : Int) : Int)))) && ((decide (c.rand = d.rand)))) && ((decide (c.addrs = d.addrs)))) && ((decide (c.info = d.info)))) && ((decide (c.gaps = d.gaps)))) && ((decide (ci c.dups = ci d.dups)))))) (.bool ((c.cause : Int) == (d.cause : Int))),
     Is (.bool ((((((((((((((c.kind : Int) == (d.kind : Int)) && ((samePB c d))) && ((((c.tag : Int) : Int) == ((d.tag : Int) : Int)))) && (((c.win : Int) == (d.win : Int)))) && (((c.out : Int) == (d.out : Int)))) && (((c.inn : Int) == (d.inn : Int)))) && ((((c.tsn : Int) : Int) == ((d.tsn : Int) : Int)))) && ((decide (c.rand = d.rand)))) && ((decide (c.addrs = d.addrs)))) && ((decide (c.info = d.info)))) && ((decide (c.gaps = d.gaps)))) && ((decide (ci c.dups = ci d.dups)))) && (((c.cause : Int) == (d.cause : Int))))),
     Is (.bool ((((((((((((((c.kind : Int) == (d.kind : Int)) && ((samePB c d))) && ((((c.tag : Int) : Int) == ((d.tag : Int) : Int)))) && (((c.win : Int) == (d.win : Int)))) && (((c.out : Int) == (d.out : Int)))) && (((c.inn : Int) == (d.inn : Int)))) && ((((c.tsn : Int) : Int) == ((d.tsn : Int) : Int)))) && ((decide (c.rand = d.rand)))) && ((decide (c.addrs = d.addrs)))) && ((decide (c.info = d.info)))) && ((decide (c.gaps = d.gaps)))) && ((decide (ci c.dups = ci d.dups)))) && (((c.cause : Int) == (d.cause : Int))))),
     Under ((((((((((((((((c.kind : Int) == (d.kind : Int)) && ((samePB c d))) && ((((c.tag : Int) : Int) == ((d.tag : Int) : Int)))) && (((c.win : Int) == (d.win : Int)))) && (((c.out : Int) == (d.out : Int)))) && (((c.inn : Int) == (d.inn : Int)))) && ((((c.tsn : Int) : Int) == ((d.tsn : Int) : Int)))) && ((decide (c.rand = d.rand)))) && ((decide (c.addrs = d.addrs)))) && ((decide (c.info = d.info)))) && ((decide (c.gaps = d.gaps)))) && ((decide (ci c.dups = ci d.dups)))) && (((c.cause : Int) == (d.cause : Int)))))) (.pointer (some ⟨w.heap.size, 19, none⟩)),
     Under ((((((((((((((((c.kind : Int) == (d.kind : Int)) && ((samePB c d))) && ((((c.tag : Int) : Int) == ((d.tag : Int) : Int)))) && (((c.win : Int) == (d.win : Int)))) && (((c.out : Int) == (d.out : Int)))) && (((c.inn : Int) == (d.inn : Int)))) && ((((c.tsn : Int) : Int) == ((d.tsn : Int) : Int)))) && ((decide (c.rand = d.rand)))) && ((decide (c.addrs = d.addrs)))) && ((decide (c.info = d.info)))) && ((decide (c.gaps = d.gaps)))) && ((decide (ci c.dups = ci d.dups)))) && (((c.cause : Int) == (d.cause : Int)))))) (.int .u32 (c.serial : Int)),
     Under ((((((((((((((((c.kind : Int) == (d.kind : Int)) && ((samePB c d))) && ((((c.tag : Int) : Int) == ((d.tag : Int) : Int)))) && (((c.win : Int) == (d.win : Int)))) && (((c.out : Int) == (d.out : Int)))) && (((c.inn : Int) == (d.inn : Int)))) && ((((c.tsn : Int) : Int) == ((d.tsn : Int) : Int)))) && ((decide (c.rand = d.rand)))) && ((decide (c.addrs = d.addrs)))) && ((decide (c.info = d.info)))) && ((decide (c.gaps = d.gaps)))) && ((decide (ci c.dups = ci d.dups)))) && (((c.cause : Int) == (d.cause : Int)))))) (.pointer (some ⟨w1.heap.size, 19, none⟩)),
     Under ((((((((((((((((c.kind : Int) == (d.kind : Int)) && ((samePB c d))) && ((((c.tag : Int) : Int) == ((d.tag : Int) : Int)))) && (((c.win : Int) == (d.win : Int)))) && (((c.out : Int) == (d.out : Int)))) && (((c.inn : Int) == (d.inn : Int)))) && ((((c.tsn : Int) : Int) == ((d.tsn : Int) : Int)))) && ((decide (c.rand = d.rand)))) && ((decide (c.addrs = d.addrs)))) && ((decide (c.info = d.info)))) && ((decide (c.gaps = d.gaps)))) && ((decide (ci c.dups = ci d.dups)))) && (((c.cause : Int) == (d.cause : Int)))))) (.int .u32 (d.serial : Int)),
     Under ((((((((((((((((c.kind : Int) == (d.kind : Int)) && ((samePB c d))) && ((((c.tag : Int) : Int) == ((d.tag : Int) : Int)))) && (((c.win : Int) == (d.win : Int)))) && (((c.out : Int) == (d.out : Int)))) && (((c.inn : Int) == (d.inn : Int)))) && ((((c.tsn : Int) : Int) == ((d.tsn : Int) : Int)))) && ((decide (c.rand = d.rand)))) && ((decide (c.addrs = d.addrs)))) && ((decide (c.info = d.info)))) && ((decide (c.gaps = d.gaps)))) && ((decide (ci c.dups = ci d.dups)))) && (((c.cause : Int) == (d.cause : Int)))))) (.bool (((c.serial : Int) : Int) == ((d.serial : Int) : Int))),
     Is (.bool (((((((((((((((c.kind : Int) == (d.kind : Int)) && ((samePB c d))) && ((((c.tag : Int) : Int) == ((d.tag : Int) : Int)))) && (((c.win : Int) == (d.win : Int)))) && (((c.out : Int) == (d.out : Int)))) && (((c.inn : Int) == (d.inn : Int)))) && ((((c.tsn : Int) : Int) == ((d.tsn : Int) : Int)))) && ((decide (c.rand = d.rand)))) && ((decide (c.addrs = d.addrs)))) && ((decide (c.info = d.info)))) && ((decide (c.gaps = d.gaps)))) && ((decide (ci c.dups = ci d.dups)))) && (((c.cause : Int) == (d.cause : Int)))) && ((((c.serial : Int) : Int) == ((d.serial : Int) : Int))))),
     Is (.bool (((((((((((((((c.kind : Int) == (d.kind : Int)) && ((samePB c d))) && ((((c.tag : Int) : Int) == ((d.tag : Int) : Int)))) && (((c.win : Int) == (d.win : Int)))) && (((c.out : Int) == (d.out : Int)))) && (((c.inn : Int) == (d.inn : Int)))) && ((((c.tsn : Int) : Int) == ((d.tsn : Int) : Int)))) && ((decide (c.rand = d.rand)))) && ((decide (c.addrs = d.addrs)))) && ((decide (c.info = d.info)))) && ((decide (c.gaps = d.gaps)))) && ((decide (ci c.dups = ci d.dups)))) && (((c.cause : Int) == (d.cause : Int)))) && ((((c.serial : Int) : Int) == ((d.serial : Int) : Int))))),
     Under (((((((((((((((((c.kind : Int) == (d.kind : Int)) && ((samePB c d))) && ((((c.tag : Int) : Int) == ((d.tag : Int) : Int)))) && (((c.win : Int) == (d.win : Int)))) && (((c.out : Int) == (d.out : Int)))) && (((c.inn : Int) == (d.inn : Int)))) && ((((c.tsn : Int) : Int) == ((d.tsn : Int) : Int)))) && ((decide (c.rand = d.rand)))) && ((decide (c.addrs = d.addrs)))) && ((decide (c.info = d.info)))) && ((decide (c.gaps = d.gaps)))) && ((decide (ci c.dups = ci d.dups)))) && (((c.cause : Int) == (d.cause : Int)))) && ((((c.serial : Int) : Int) == ((d.serial : Int) : Int)))))) (.pointer (some ⟨w.heap.size, 20, none⟩)),
     Under (((((((((((((((((c.kind : Int) == (d.kind : Int)) && ((samePB c d))) && ((((c.tag : Int) : Int) == ((d.tag : Int) : Int)))) && (((c.win : Int) == (d.win : Int)))) && (((c.out : Int) == (d.out : Int)))) && (((c.inn : Int) == (d.inn : Int)))) && ((((c.tsn : Int) : Int) == ((d.tsn : Int) : Int)))) && ((decide (c.rand = d.rand)))) && ((decide (c.addrs = d.addrs)))) && ((decide (c.info = d.info)))) && ((decide (c.gaps = d.gaps)))) && ((decide (ci c.dups = ci d.dups)))) && (((c.cause : Int) == (d.cause : Int)))) && ((((c.serial : Int) : Int) == ((d.serial : Int) : Int)))))) (.slice s.oA s.oN s.oC),
     Under (((((((((((((((((c.kind : Int) == (d.kind : Int)) && ((samePB c d))) && ((((c.tag : Int) : Int) == ((d.tag : Int) : Int)))) && (((c.win : Int) == (d.win : Int)))) && (((c.out : Int) == (d.out : Int)))) && (((c.inn : Int) == (d.inn : Int)))) && ((((c.tsn : Int) : Int) == ((d.tsn : Int) : Int)))) && ((decide (c.rand = d.rand)))) && ((decide (c.addrs = d.addrs)))) && ((decide (c.info = d.info)))) && ((decide (c.gaps = d.gaps)))) && ((decide (ci c.dups = ci d.dups)))) && (((c.cause : Int) == (d.cause : Int)))) && ((((c.serial : Int) : Int) == ((d.serial : Int) : Int)))))) (.pointer (some ⟨w1.heap.size, 20, none⟩)),
     Under (((((((((((((((((c.kind : Int) == (d.kind : Int)) && ((samePB c d))) && ((((c.tag : Int) : Int) == ((d.tag : Int) : Int)))) && (((c.win : Int) == (d.win : Int)))) && (((c.out : Int) == (d.out : Int)))) && (((c.inn : Int) == (d.inn : Int)))) && ((((c.tsn : Int) : Int) == ((d.tsn : Int) : Int)))) && ((decide (c.rand = d.rand)))) && ((decide (c.addrs = d.addrs)))) && ((decide (c.info = d.info)))) && ((decide (c.gaps = d.gaps)))) && ((decide (ci c.dups = ci d.dups)))) && (((c.cause : Int) == (d.cause : Int)))) && ((((c.serial : Int) : Int) == ((d.serial : Int) : Int)))))) (.slice u.oA u.oN u.oC),
     Under (((((((((((((((((c.kind : Int) == (d.kind : Int)) && ((samePB c d))) && ((((c.tag : Int) : Int) == ((d.tag : Int) : Int)))) && (((c.win : Int) == (d.win : Int)))) && (((c.out : Int) == (d.out : Int)))) && (((c.inn : Int) == (d.inn : Int)))) && ((((c.tsn : Int) : Int) == ((d.tsn : Int) : Int)))) && ((decide (c.rand = d.rand)))) && ((decide (c.addrs = d.addrs)))) && ((decide (c.info = d.info)))) && ((decide (c.gaps = d.gaps)))) && ((decide (ci c.dups = ci d.dups)))) && (((c.cause : Int) == (d.cause : Int)))) && ((((c.serial : Int) : Int) == ((d.serial : Int) : Int)))))) (.bool (decide (c.ops = d.ops))),
     Is (.bool ((((((((((((((((c.kind : Int) == (d.kind : Int)) && ((samePB c d))) && ((((c.tag : Int) : Int) == ((d.tag : Int) : Int)))) && (((c.win : Int) == (d.win : Int)))) && (((c.out : Int) == (d.out : Int)))) && (((c.inn : Int) == (d.inn : Int)))) && ((((c.tsn : Int) : Int) == ((d.tsn : Int) : Int)))) && ((decide (c.rand = d.rand)))) && ((decide (c.addrs = d.addrs)))) && ((decide (c.info = d.info)))) && ((decide (c.gaps = d.gaps)))) && ((decide (ci c.dups = ci d.dups)))) && (((c.cause : Int) == (d.cause : Int)))) && ((((c.serial : Int) : Int) == ((d.serial : Int) : Int)))) && ((decide (c.ops = d.ops))))),
     Is (.bool ((((((((((((((((c.kind : Int) == (d.kind : Int)) && ((samePB c d))) && ((((c.tag : Int) : Int) == ((d.tag : Int) : Int)))) && (((c.win : Int) == (d.win : Int)))) && (((c.out : Int) == (d.out : Int)))) && (((c.inn : Int) == (d.inn : Int)))) && ((((c.tsn : Int) : Int) == ((d.tsn : Int) : Int)))) && ((decide (c.rand = d.rand)))) && ((decide (c.addrs = d.addrs)))) && ((decide (c.info = d.info)))) && ((decide (c.gaps = d.gaps)))) && ((decide (ci c.dups = ci d.dups)))) && (((c.cause : Int) == (d.cause : Int)))) && ((((c.serial : Int) : Int) == ((d.serial : Int) : Int)))) && ((decide (c.ops = d.ops))))),
     Under ((((((((((((((((((c.kind : Int) == (d.kind : Int)) && ((samePB c d))) && ((((c.tag : Int) : Int) == ((d.tag : Int) : Int)))) && (((c.win : Int) == (d.win : Int)))) && (((c.out : Int) == (d.out : Int)))) && (((c.inn : Int) == (d.inn : Int)))) && ((((c.tsn : Int) : Int) == ((d.tsn : Int) : Int)))) && ((decide (c.rand = d.rand)))) && ((decide (c.addrs = d.addrs)))) && ((decide (c.info = d.info)))) && ((decide (c.gaps = d.gaps)))) && ((decide (ci c.dups = ci d.dups)))) && (((c.cause : Int) == (d.cause : Int)))) && ((((c.serial : Int) : Int) == ((d.serial : Int) : Int)))) && ((decide (c.ops = d.ops)))))) (.pointer (some ⟨w.heap.size, 21, none⟩)),
     Under ((((((((((((((((((c.kind : Int) == (d.kind : Int)) && ((samePB c d))) && ((((c.tag : Int) : Int) == ((d.tag : Int) : Int)))) && (((c.win : Int) == (d.win : Int)))) && (((c.out : Int) == (d.out : Int)))) && (((c.inn : Int) == (d.inn : Int)))) && ((((c.tsn : Int) : Int) == ((d.tsn : Int) : Int)))) && ((decide (c.rand = d.rand)))) && ((decide (c.addrs = d.addrs)))) && ((decide (c.info = d.info)))) && ((decide (c.gaps = d.gaps)))) && ((decide (ci c.dups = ci d.dups)))) && (((c.cause : Int) == (d.cause : Int)))) && ((((c.serial : Int) : Int) == ((d.serial : Int) : Int)))) && ((decide (c.ops = d.ops)))))) (.bool c.ok),
     Under ((((((((((((((((((c.kind : Int) == (d.kind : Int)) && ((samePB c d))) && ((((c.tag : Int) : Int) == ((d.tag : Int) : Int)))) && (((c.win : Int) == (d.win : Int)))) && (((c.out : Int) == (d.out : Int)))) && (((c.inn : Int) == (d.inn : Int)))) && ((((c.tsn : Int) : Int) == ((d.tsn : Int) : Int)))) && ((decide (c.rand = d.rand)))) && ((decide (c.addrs = d.addrs)))) && ((decide (c.info = d.info)))) && ((decide (c.gaps = d.gaps)))) && ((decide (ci c.dups = ci d.dups)))) && (((c.cause : Int) == (d.cause : Int)))) && ((((c.serial : Int) : Int) == ((d.serial : Int) : Int)))) && ((decide (c.ops = d.ops)))))) (.pointer (some ⟨w1.heap.size, 21, none⟩)),
     Under ((((((((((((((((((c.kind : Int) == (d.kind : Int)) && ((samePB c d))) && ((((c.tag : Int) : Int) == ((d.tag : Int) : Int)))) && (((c.win : Int) == (d.win : Int)))) && (((c.out : Int) == (d.out : Int)))) && (((c.inn : Int) == (d.inn : Int)))) && ((((c.tsn : Int) : Int) == ((d.tsn : Int) : Int)))) && ((decide (c.rand = d.rand)))) && ((decide (c.addrs = d.addrs)))) && ((decide (c.info = d.info)))) && ((decide (c.gaps = d.gaps)))) && ((decide (ci c.dups = ci d.dups)))) && (((c.cause : Int) == (d.cause : Int)))) && ((((c.serial : Int) : Int) == ((d.serial : Int) : Int)))) && ((decide (c.ops = d.ops)))))) (.bool d.ok),
     Under ((((((((((((((((((c.kind : Int) == (d.kind : Int)) && ((samePB c d))) && ((((c.tag : Int) : Int) == ((d.tag : Int) : Int)))) && (((c.win : Int) == (d.win : Int)))) && (((c.out : Int) == (d.out : Int)))) && (((c.inn : Int) == (d.inn : Int)))) && ((((c.tsn : Int) : Int) == ((d.tsn : Int) : Int)))) && ((decide (c.rand = d.rand)))) && ((decide (c.addrs = d.addrs)))) && ((decide (c.info = d.info)))) && ((decide (c.gaps = d.gaps)))) && ((decide (ci c.dups = ci d.dups)))) && (((c.cause : Int) == (d.cause : Int)))) && ((((c.serial : Int) : Int) == ((d.serial : Int) : Int)))) && ((decide (c.ops = d.ops)))))) (.bool ((c.ok) == (d.ok))),
     Is (.bool (((((((((((((((((c.kind : Int) == (d.kind : Int)) && ((samePB c d))) && ((((c.tag : Int) : Int) == ((d.tag : Int) : Int)))) && (((c.win : Int) == (d.win : Int)))) && (((c.out : Int) == (d.out : Int)))) && (((c.inn : Int) == (d.inn : Int)))) && ((((c.tsn : Int) : Int) == ((d.tsn : Int) : Int)))) && ((decide (c.rand = d.rand)))) && ((decide (c.addrs = d.addrs)))) && ((decide (c.info = d.info)))) && ((decide (c.gaps = d.gaps)))) && ((decide (ci c.dups = ci d.dups)))) && (((c.cause : Int) == (d.cause : Int)))) && ((((c.serial : Int) : Int) == ((d.serial : Int) : Int)))) && ((decide (c.ops = d.ops)))) && (((c.ok) == (d.ok))))),
     Is (.bool (((((((((((((((((c.kind : Int) == (d.kind : Int)) && ((samePB c d))) && ((((c.tag : Int) : Int) == ((d.tag : Int) : Int)))) && (((c.win : Int) == (d.win : Int)))) && (((c.out : Int) == (d.out : Int)))) && (((c.inn : Int) == (d.inn : Int)))) && ((((c.tsn : Int) : Int) == ((d.tsn : Int) : Int)))) && ((decide (c.rand = d.rand)))) && ((decide (c.addrs = d.addrs)))) && ((decide (c.info = d.info)))) && ((decide (c.gaps = d.gaps)))) && ((decide (ci c.dups = ci d.dups)))) && (((c.cause : Int) == (d.cause : Int)))) && ((((c.serial : Int) : Int) == ((d.serial : Int) : Int)))) && ((decide (c.ops = d.ops)))) && (((c.ok) == (d.ok)))))]
    rfl (by kernel_rfl) rfl Ext.refl (fun _ _ _ => Ext.trans) (KeepAll.is (KeepAll.is (KeepAll.is (KeepAll.is (KeepAll.is (KeepAll.is (KeepAll.under (KeepAll.under (KeepAll.under (KeepAll.under (KeepAll.under (KeepAll.is (KeepAll.is (KeepAll.under (KeepAll.under (KeepAll.under (KeepAll.under (KeepAll.under (KeepAll.is (KeepAll.is (KeepAll.under (KeepAll.under (KeepAll.under (KeepAll.under (KeepAll.under (KeepAll.is (KeepAll.is (KeepAll.under (KeepAll.under (KeepAll.under (KeepAll.under (KeepAll.under (KeepAll.is (KeepAll.is (KeepAll.under (KeepAll.under (KeepAll.under (KeepAll.under (KeepAll.under (KeepAll.is (KeepAll.is (KeepAll.under (KeepAll.under (KeepAll.under (KeepAll.under (KeepAll.under (KeepAll.is (KeepAll.is (KeepAll.under (KeepAll.under (KeepAll.under (KeepAll.under (KeepAll.under (KeepAll.is (KeepAll.is (KeepAll.under (KeepAll.under (KeepAll.under (KeepAll.under (KeepAll.under (KeepAll.is (KeepAll.is (KeepAll.under (KeepAll.under (KeepAll.under (KeepAll.under (KeepAll.under (KeepAll.is (KeepAll.is (KeepAll.under (KeepAll.under (KeepAll.under (KeepAll.under (KeepAll.under (KeepAll.is (KeepAll.is (KeepAll.under (KeepAll.under (KeepAll.under (KeepAll.under (KeepAll.under (KeepAll.is (KeepAll.is (KeepAll.under (KeepAll.under (KeepAll.under (KeepAll.under (KeepAll.under (KeepAll.is (KeepAll.is (KeepAll.under (KeepAll.under (KeepAll.under (KeepAll.under (KeepAll.under (KeepAll.is (KeepAll.is (KeepAll.under (KeepAll.under (KeepAll.under (KeepAll.under (KeepAll.under (KeepAll.is (KeepAll.is (KeepAll.under (KeepAll.under (KeepAll.under (KeepAll.under (KeepAll.under (KeepAll.is (KeepAll.is (KeepAll.nil)))))))))))))))))))))))))))))))))))))))))))))))))))))))))))))))))))))))))))))))))))))))))))))))))))))))))))))))) ?_ ?_
  · refine GoodAll.cons ?_ ?_
    · intro r wx hR hx
      obtain ⟨h1, _⟩ := hx
      replace h1 : r (.tmp 2) = .pointer (some ⟨w.heap.size, 0, none⟩) := h1
      exact give_of (by simp [execOp, h1, go_sem]) ⟨Ext.refl _, rfl⟩
    refine GoodAll.cons ?_ ?_
    · intro r wx hR hx
      obtain ⟨h1, _⟩ := hx
      replace h1 : r (.tmp 5) = .pointer (some ⟨w.heap.size, 0, none⟩) := h1
      exact give_of (exec_get one3 rfl h1 (cv0 (hb1'.ext hR))) ⟨Ext.refl _, rfl⟩
    refine GoodAll.cons ?_ ?_
    · intro r wx hR hx
      obtain ⟨h1, _⟩ := hx
      replace h1 : r (.tmp 3) = .pointer (some ⟨w1.heap.size, 0, none⟩) := h1
      exact give_of (by simp [execOp, h1, go_sem]) ⟨Ext.refl _, rfl⟩
    refine GoodAll.cons ?_ ?_
    · intro r wx hR hx
      obtain ⟨h1, _⟩ := hx
      replace h1 : r (.tmp 7) = .pointer (some ⟨w1.heap.size, 0, none⟩) := h1
      exact give_of (exec_get one3 rfl h1 (cv0 (hb2.ext hR))) ⟨Ext.refl _, rfl⟩
    refine GoodAll.cons ?_ ?_
    · intro r wx hR hx
      obtain ⟨h1, h2, _⟩ := hx
      replace h1 : r (.tmp 6) = .int .i64 c.kind := h1
      replace h2 : r (.tmp 8) = .int .i64 d.kind := h2
      exact give_of (by simp [execOp, h1, h2, go_sem]) ⟨Ext.refl _, rfl⟩
    refine GoodAll.cons ?_ ?_
    · intro r wx hR hx
      obtain ⟨h1, _⟩ := hx
      replace h1 : r (.tmp 9) = .bool ((c.kind : Int) == (d.kind : Int)) := h1
      exact give_move (.inl rfl) ⟨Ext.refl _, h1⟩
    refine GoodAll.cons ?_ ?_
    · intro r wx hR hx
      obtain ⟨h1, _⟩ := hx
      replace h1 : r (.tmp 2) = .pointer (some ⟨w.heap.size, 0, none⟩) := h1
      intro gb hgb
      refine guard_u (C := (((c.kind : Int) == (d.kind : Int)))) (b := ((c.kind : Int) == (d.kind : Int))) (want := true) hgb (want_t _) (fun hc => ?_) (fun hc => under_no hc)
      exact give_of (by simp [execOp, h1, go_sem]) ⟨Ext.refl _, under_yes hc⟩
    refine GoodAll.cons ?_ ?_
    · intro r wx hR hx
      obtain ⟨h1, _⟩ := hx
      replace h1 : Under ((((c.kind : Int) == (d.kind : Int)))) (.pointer (some ⟨w.heap.size, 1, none⟩)) wx (r (.tmp 11)) := h1
      intro gb hgb
      refine guard_u (C := (((c.kind : Int) == (d.kind : Int)))) (b := ((c.kind : Int) == (d.kind : Int))) (want := true) hgb (want_t _) (fun hc => ?_) (fun hc => under_no hc)
      replace h1 := h1.get hc
      exact give_of (exec_load rowPc rfl h1 (hb1'.ext hR) (PV c s).toList (CV.piece c s) rfl) ⟨Ext.refl _, under_yes hc⟩
    refine GoodAll.cons ?_ ?_
    · intro r wx hR hx
      obtain ⟨h1, _⟩ := hx
      replace h1 : r (.tmp 3) = .pointer (some ⟨w1.heap.size, 0, none⟩) := h1
      intro gb hgb
      refine guard_u (C := (((c.kind : Int) == (d.kind : Int)))) (b := ((c.kind : Int) == (d.kind : Int))) (want := true) hgb (want_t _) (fun hc => ?_) (fun hc => under_no hc)
      exact give_of (by simp [execOp, h1, go_sem]) ⟨Ext.refl _, under_yes hc⟩
    refine GoodAll.cons ?_ ?_
    · intro r wx hR hx
      obtain ⟨h1, _⟩ := hx
      replace h1 : Under ((((c.kind : Int) == (d.kind : Int)))) (.pointer (some ⟨w1.heap.size, 1, none⟩)) wx (r (.tmp 13)) := h1
      intro gb hgb
      refine guard_u (C := (((c.kind : Int) == (d.kind : Int)))) (b := ((c.kind : Int) == (d.kind : Int))) (want := true) hgb (want_t _) (fun hc => ?_) (fun hc => under_no hc)
      replace h1 := h1.get hc
      exact give_of (exec_load rowPc rfl h1 (hb2.ext hR) (PV d u).toList (CV.piece d u) rfl) ⟨Ext.refl _, under_yes hc⟩
    refine GoodAll.cons ?_ ?_
    · intro r wx hR hx
      obtain ⟨h1, h2, h3, _⟩ := hx
      replace h1 : r (.func 56) = .func (.func 56) #[] #[] := h1
      replace h2 : Under ((((c.kind : Int) == (d.kind : Int)))) (.agg (PV c s)) wx (r (.tmp 12)) := h2
      replace h3 : Under ((((c.kind : Int) == (d.kind : Int)))) (.agg (PV d u)) wx (r (.tmp 14)) := h3
      intro gb hgb
      refine guard_u (C := (((c.kind : Int) == (d.kind : Int)))) (b := ((c.kind : Int) == (d.kind : Int))) (want := true) hgb (want_t _) (fun hc => ?_) (fun hc => under_no hc)
      replace h2 := h2.get hc
      replace h3 := h3.get hc
      refine give_func #[.agg (PV c s), .agg (PV d u)] rfl h1 Try.call56 (by simp [h2, h3]) ?_
      refine (samePiece_any (c := c) (d := d) (HA.t.ext hR) (HB.t.ext hR)).mono ?_
      rintro e wz ⟨rfl, hez⟩
      exact ⟨_, rfl, hez, under_yes hc⟩
    refine GoodAll.cons ?_ ?_
    · intro r wx hR hx
      obtain ⟨h1, h2, h3, _⟩ := hx
      replace h1 : r (.tmp 10) = .bool ((c.kind : Int) == (d.kind : Int)) := h1
      replace h2 : Under ((((c.kind : Int) == (d.kind : Int)))) (.bool (samePB c d)) wx (r (.tmp 15)) := h2
      replace h3 : r (.const (.bool false)) = .bool false := h3
      exact give_and rfl h3 h1 (fun hb => h2.get (by first | exact hb | (rw [hc, hb]; rfl) | (rw [hb]; rfl))) ⟨Ext.refl _, rfl⟩
    refine GoodAll.cons ?_ ?_
    · intro r wx hR hx
      obtain ⟨h1, _⟩ := hx
      replace h1 : r (.tmp 16) = .bool (((c.kind : Int) == (d.kind : Int)) && ((samePB c d))) := h1
      exact give_move (.inl rfl) ⟨Ext.refl _, h1⟩
    refine GoodAll.cons ?_ ?_
    · intro r wx hR hx
      obtain ⟨h1, _⟩ := hx
      replace h1 : r (.tmp 2) = .pointer (some ⟨w.heap.size, 0, none⟩) := h1
      intro gb hgb
      refine guard_u (C := ((((c.kind : Int) == (d.kind : Int)) && ((samePB c d))))) (b := (((c.kind : Int) == (d.kind : Int)) && ((samePB c d)))) (want := true) hgb (want_t _) (fun hc => ?_) (fun hc => under_no hc)
      exact give_of (by simp [execOp, h1, go_sem]) ⟨Ext.refl _, under_yes hc⟩
    refine GoodAll.cons ?_ ?_
    · intro r wx hR hx
      obtain ⟨h1, _⟩ := hx
      replace h1 : Under (((((c.kind : Int) == (d.kind : Int)) && ((samePB c d))))) (.pointer (some ⟨w.heap.size, 8, none⟩)) wx (r (.tmp 18)) := h1
      intro gb hgb
      refine guard_u (C := ((((c.kind : Int) == (d.kind : Int)) && ((samePB c d))))) (b := (((c.kind : Int) == (d.kind : Int)) && ((samePB c d)))) (want := true) hgb (want_t _) (fun hc => ?_) (fun hc => under_no hc)
      replace h1 := h1.get hc
      exact give_of (exec_get one22 rfl h1 (cv8 (hb1'.ext hR))) ⟨Ext.refl _, under_yes hc⟩
    refine GoodAll.cons ?_ ?_
    · intro r wx hR hx
      obtain ⟨h1, _⟩ := hx
      replace h1 : r (.tmp 3) = .pointer (some ⟨w1.heap.size, 0, none⟩) := h1
      intro gb hgb
      refine guard_u (C := ((((c.kind : Int) == (d.kind : Int)) && ((samePB c d))))) (b := (((c.kind : Int) == (d.kind : Int)) && ((samePB c d)))) (want := true) hgb (want_t _) (fun hc => ?_) (fun hc => under_no hc)
      exact give_of (by simp [execOp, h1, go_sem]) ⟨Ext.refl _, under_yes hc⟩
    refine GoodAll.cons ?_ ?_
    · intro r wx hR hx
      obtain ⟨h1, _⟩ := hx
      replace h1 : Under (((((c.kind : Int) == (d.kind : Int)) && ((samePB c d))))) (.pointer (some ⟨w1.heap.size, 8, none⟩)) wx (r (.tmp 20)) := h1
      intro gb hgb
      refine guard_u (C := ((((c.kind : Int) == (d.kind : Int)) && ((samePB c d))))) (b := (((c.kind : Int) == (d.kind : Int)) && ((samePB c d)))) (want := true) hgb (want_t _) (fun hc => ?_) (fun hc => under_no hc)
      replace h1 := h1.get hc
      exact give_of (exec_get one22 rfl h1 (cv8 (hb2.ext hR))) ⟨Ext.refl _, under_yes hc⟩
    refine GoodAll.cons ?_ ?_
    · intro r wx hR hx
      obtain ⟨h1, h2, _⟩ := hx
      replace h1 : Under (((((c.kind : Int) == (d.kind : Int)) && ((samePB c d))))) (.int .u32 (c.tag : Int)) wx (r (.tmp 19)) := h1
      replace h2 : Under (((((c.kind : Int) == (d.kind : Int)) && ((samePB c d))))) (.int .u32 (d.tag : Int)) wx (r (.tmp 21)) := h2
      intro gb hgb
      refine guard_u (C := ((((c.kind : Int) == (d.kind : Int)) && ((samePB c d))))) (b := (((c.kind : Int) == (d.kind : Int)) && ((samePB c d)))) (want := true) hgb (want_t _) (fun hc => ?_) (fun hc => under_no hc)
      replace h1 := h1.get hc
      replace h2 := h2.get hc
      exact give_of (by simp [execOp, h1, h2, go_sem]) ⟨Ext.refl _, under_yes hc⟩
    refine GoodAll.cons ?_ ?_
    · intro r wx hR hx
      obtain ⟨h1, h2, h3, _⟩ := hx
      replace h1 : r (.tmp 17) = .bool (((c.kind : Int) == (d.kind : Int)) && ((samePB c d))) := h1
      replace h2 : Under (((((c.kind : Int) == (d.kind : Int)) && ((samePB c d))))) (.bool (((c.tag : Int) : Int) == ((d.tag : Int) : Int))) wx (r (.tmp 22)) := h2
      replace h3 : r (.const (.bool false)) = .bool false := h3
      exact give_and rfl h3 h1 (fun hb => h2.get (by first | exact hb | (rw [hc, hb]; rfl) | (rw [hb]; rfl))) ⟨Ext.refl _, rfl⟩
    refine GoodAll.cons ?_ ?_
    · intro r wx hR hx
      obtain ⟨h1, _⟩ := hx
      replace h1 : r (.tmp 23) = .bool ((((c.kind : Int) == (d.kind : Int)) && ((samePB c d))) && ((((c.tag : Int) : Int) == ((d.tag : Int) : Int)))) := h1
      exact give_move (.inl rfl) ⟨Ext.refl _, h1⟩
    refine GoodAll.cons ?_ ?_
    · intro r wx hR hx
      obtain ⟨h1, _⟩ := hx
      replace h1 : r (.tmp 2) = .pointer (some ⟨w.heap.size, 0, none⟩) := h1
      intro gb hgb
      refine guard_u (C := (((((c.kind : Int) == (d.kind : Int)) && ((samePB c d))) && ((((c.tag : Int) : Int) == ((d.tag : Int) : Int)))))) (b := ((((c.kind : Int) == (d.kind : Int)) && ((samePB c d))) && ((((c.tag : Int) : Int) == ((d.tag : Int) : Int))))) (want := true) hgb (want_t _) (fun hc => ?_) (fun hc => under_no hc)
      exact give_of (by simp [execOp, h1, go_sem]) ⟨Ext.refl _, under_yes hc⟩
    refine GoodAll.cons ?_ ?_
    · intro r wx hR hx
      obtain ⟨h1, _⟩ := hx
      replace h1 : Under ((((((c.kind : Int) == (d.kind : Int)) && ((samePB c d))) && ((((c.tag : Int) : Int) == ((d.tag : Int) : Int)))))) (.pointer (some ⟨w.heap.size, 9, none⟩)) wx (r (.tmp 25)) := h1
      intro gb hgb
      refine guard_u (C := (((((c.kind : Int) == (d.kind : Int)) && ((samePB c d))) && ((((c.tag : Int) : Int) == ((d.tag : Int) : Int)))))) (b := ((((c.kind : Int) == (d.kind : Int)) && ((samePB c d))) && ((((c.tag : Int) : Int) == ((d.tag : Int) : Int))))) (want := true) hgb (want_t _) (fun hc => ?_) (fun hc => under_no hc)
      replace h1 := h1.get hc
      exact give_of (exec_get one3 rfl h1 (cv9 (hb1'.ext hR))) ⟨Ext.refl _, under_yes hc⟩
    refine GoodAll.cons ?_ ?_
    · intro r wx hR hx
      obtain ⟨h1, _⟩ := hx
      replace h1 : r (.tmp 3) = .pointer (some ⟨w1.heap.size, 0, none⟩) := h1
      intro gb hgb
      refine guard_u (C := (((((c.kind : Int) == (d.kind : Int)) && ((samePB c d))) && ((((c.tag : Int) : Int) == ((d.tag : Int) : Int)))))) (b := ((((c.kind : Int) == (d.kind : Int)) && ((samePB c d))) && ((((c.tag : Int) : Int) == ((d.tag : Int) : Int))))) (want := true) hgb (want_t _) (fun hc => ?_) (fun hc => under_no hc)
      exact give_of (by simp [execOp, h1, go_sem]) ⟨Ext.refl _, under_yes hc⟩
    refine GoodAll.cons ?_ ?_
    · intro r wx hR hx
      obtain ⟨h1, _⟩ := hx
      replace h1 : Under ((((((c.kind : Int) == (d.kind : Int)) && ((samePB c d))) && ((((c.tag : Int) : Int) == ((d.tag : Int) : Int)))))) (.pointer (some ⟨w1.heap.size, 9, none⟩)) wx (r (.tmp 27)) := h1
      intro gb hgb
      refine guard_u (C := (((((c.kind : Int) == (d.kind : Int)) && ((samePB c d))) && ((((c.tag : Int) : Int) == ((d.tag : Int) : Int)))))) (b := ((((c.kind : Int) == (d.kind : Int)) && ((samePB c d))) && ((((c.tag : Int) : Int) == ((d.tag : Int) : Int))))) (want := true) hgb (want_t _) (fun hc => ?_) (fun hc => under_no hc)
      replace h1 := h1.get hc
      exact give_of (exec_get one3 rfl h1 (cv9 (hb2.ext hR))) ⟨Ext.refl _, under_yes hc⟩
    refine GoodAll.cons ?_ ?_
    · intro r wx hR hx
      obtain ⟨h1, h2, _⟩ := hx
      replace h1 : Under ((((((c.kind : Int) == (d.kind : Int)) && ((samePB c d))) && ((((c.tag : Int) : Int) == ((d.tag : Int) : Int)))))) (.int .i64 c.win) wx (r (.tmp 26)) := h1
      replace h2 : Under ((((((c.kind : Int) == (d.kind : Int)) && ((samePB c d))) && ((((c.tag : Int) : Int) == ((d.tag : Int) : Int)))))) (.int .i64 d.win) wx (r (.tmp 28)) := h2
      intro gb hgb
      refine guard_u (C := (((((c.kind : Int) == (d.kind : Int)) && ((samePB c d))) && ((((c.tag : Int) : Int) == ((d.tag : Int) : Int)))))) (b := ((((c.kind : Int) == (d.kind : Int)) && ((samePB c d))) && ((((c.tag : Int) : Int) == ((d.tag : Int) : Int))))) (want := true) hgb (want_t _) (fun hc => ?_) (fun hc => under_no hc)
      replace h1 := h1.get hc
      replace h2 := h2.get hc
      exact give_of (by simp [execOp, h1, h2, go_sem]) ⟨Ext.refl _, under_yes hc⟩
    refine GoodAll.cons ?_ ?_
    · intro r wx hR hx
      obtain ⟨h1, h2, h3, _⟩ := hx
      replace h1 : r (.tmp 24) = .bool ((((c.kind : Int) == (d.kind : Int)) && ((samePB c d))) && ((((c.tag : Int) : Int) == ((d.tag : Int) : Int)))) := h1
      replace h2 : Under ((((((c.kind : Int) == (d.kind : Int)) && ((samePB c d))) && ((((c.tag : Int) : Int) == ((d.tag : Int) : Int)))))) (.bool ((c.win : Int) == (d.win : Int))) wx (r (.tmp 29)) := h2
      replace h3 : r (.const (.bool false)) = .bool false := h3
      exact give_and rfl h3 h1 (fun hb => h2.get (by first | exact hb | (rw [hc, hb]; rfl) | (rw [hb]; rfl))) ⟨Ext.refl _, rfl⟩
    refine GoodAll.cons ?_ ?_
    · intro r wx hR hx
      obtain ⟨h1, _⟩ := hx
      replace h1 : r (.tmp 30) = .bool (((((c.kind : Int) == (d.kind : Int)) && ((samePB c d))) && ((((c.tag : Int) : Int) == ((d.tag : Int) : Int)))) && (((c.win : Int) == (d.win : Int)))) := h1
      exact give_move (.inl rfl) ⟨Ext.refl _, h1⟩
    refine GoodAll.cons ?_ ?_
    · intro r wx hR hx
      obtain ⟨h1, _⟩ := hx
      replace h1 : r (.tmp 2) = .pointer (some ⟨w.heap.size, 0, none⟩) := h1
      intro gb hgb
      refine guard_u (C := ((((((c.kind : Int) == (d.kind : Int)) && ((samePB c d))) && ((((c.tag : Int) : Int) == ((d.tag : Int) : Int)))) && (((c.win : Int) == (d.win : Int)))))) (b := (((((c.kind : Int) == (d.kind : Int)) && ((samePB c d))) && ((((c.tag : Int) : Int) == ((d.tag : Int) : Int)))) && (((c.win : Int) == (d.win : Int))))) (want := true) hgb (want_t _) (fun hc => ?_) (fun hc => under_no hc)
      exact give_of (by simp [execOp, h1, go_sem]) ⟨Ext.refl _, under_yes hc⟩
    refine GoodAll.cons ?_ ?_
    · intro r wx hR hx
      obtain ⟨h1, _⟩ := hx
      replace h1 : Under (((((((c.kind : Int) == (d.kind : Int)) && ((samePB c d))) && ((((c.tag : Int) : Int) == ((d.tag : Int) : Int)))) && (((c.win : Int) == (d.win : Int)))))) (.pointer (some ⟨w.heap.size, 10, none⟩)) wx (r (.tmp 32)) := h1
      intro gb hgb
      refine guard_u (C := ((((((c.kind : Int) == (d.kind : Int)) && ((samePB c d))) && ((((c.tag : Int) : Int) == ((d.tag : Int) : Int)))) && (((c.win : Int) == (d.win : Int)))))) (b := (((((c.kind : Int) == (d.kind : Int)) && ((samePB c d))) && ((((c.tag : Int) : Int) == ((d.tag : Int) : Int)))) && (((c.win : Int) == (d.win : Int))))) (want := true) hgb (want_t _) (fun hc => ?_) (fun hc => under_no hc)
      replace h1 := h1.get hc
      exact give_of (exec_get one3 rfl h1 (cv10 (hb1'.ext hR))) ⟨Ext.refl _, under_yes hc⟩
    refine GoodAll.cons ?_ ?_
    · intro r wx hR hx
      obtain ⟨h1, _⟩ := hx
      replace h1 : r (.tmp 3) = .pointer (some ⟨w1.heap.size, 0, none⟩) := h1
      intro gb hgb
      refine guard_u (C := ((((((c.kind : Int) == (d.kind : Int)) && ((samePB c d))) && ((((c.tag : Int) : Int) == ((d.tag : Int) : Int)))) && (((c.win : Int) == (d.win : Int)))))) (b := (((((c.kind : Int) == (d.kind : Int)) && ((samePB c d))) && ((((c.tag : Int) : Int) == ((d.tag : Int) : Int)))) && (((c.win : Int) == (d.win : Int))))) (want := true) hgb (want_t _) (fun hc => ?_) (fun hc => under_no hc)
      exact give_of (by simp [execOp, h1, go_sem]) ⟨Ext.refl _, under_yes hc⟩
    refine GoodAll.cons ?_ ?_
    · intro r wx hR hx
      obtain ⟨h1, _⟩ := hx
      replace h1 : Under (((((((c.kind : Int) == (d.kind : Int)) && ((samePB c d))) && ((((c.tag : Int) : Int) == ((d.tag : Int) : Int)))) && (((c.win : Int) == (d.win : Int)))))) (.pointer (some ⟨w1.heap.size, 10, none⟩)) wx (r (.tmp 34)) := h1
      intro gb hgb
      refine guard_u (C := ((((((c.kind : Int) == (d.kind : Int)) && ((samePB c d))) && ((((c.tag : Int) : Int) == ((d.tag : Int) : Int)))) && (((c.win : Int) == (d.win : Int)))))) (b := (((((c.kind : Int) == (d.kind : Int)) && ((samePB c d))) && ((((c.tag : Int) : Int) == ((d.tag : Int) : Int)))) && (((c.win : Int) == (d.win : Int))))) (want := true) hgb (want_t _) (fun hc => ?_) (fun hc => under_no hc)
      replace h1 := h1.get hc
      exact give_of (exec_get one3 rfl h1 (cv10 (hb2.ext hR))) ⟨Ext.refl _, under_yes hc⟩
    refine GoodAll.cons ?_ ?_
    · intro r wx hR hx
      obtain ⟨h1, h2, _⟩ := hx
      replace h1 : Under (((((((c.kind : Int) == (d.kind : Int)) && ((samePB c d))) && ((((c.tag : Int) : Int) == ((d.tag : Int) : Int)))) && (((c.win : Int) == (d.win : Int)))))) (.int .i64 c.out) wx (r (.tmp 33)) := h1
      replace h2 : Under (((((((c.kind : Int) == (d.kind : Int)) && ((samePB c d))) && ((((c.tag : Int) : Int) == ((d.tag : Int) : Int)))) && (((c.win : Int) == (d.win : Int)))))) (.int .i64 d.out) wx (r (.tmp 35)) := h2
      intro gb hgb
      refine guard_u (C := ((((((c.kind : Int) == (d.kind : Int)) && ((samePB c d))) && ((((c.tag : Int) : Int) == ((d.tag : Int) : Int)))) && (((c.win : Int) == (d.win : Int)))))) (b := (((((c.kind : Int) == (d.kind : Int)) && ((samePB c d))) && ((((c.tag : Int) : Int) == ((d.tag : Int) : Int)))) && (((c.win : Int) == (d.win : Int))))) (want := true) hgb (want_t _) (fun hc => ?_) (fun hc => under_no hc)
      replace h1 := h1.get hc
      replace h2 := h2.get hc
      exact give_of (by simp [execOp, h1, h2, go_sem]) ⟨Ext.refl _, under_yes hc⟩
    refine GoodAll.cons ?_ ?_
    · intro r wx hR hx
      obtain ⟨h1, h2, h3, _⟩ := hx
      replace h1 : r (.tmp 31) = .bool (((((c.kind : Int) == (d.kind : Int)) && ((samePB c d))) && ((((c.tag : Int) : Int) == ((d.tag : Int) : Int)))) && (((c.win : Int) == (d.win : Int)))) := h1
      replace h2 : Under (((((((c.kind : Int) == (d.kind : Int)) && ((samePB c d))) && ((((c.tag : Int) : Int) == ((d.tag : Int) : Int)))) && (((c.win : Int) == (d.win : Int)))))) (.bool ((c.out : Int) == (d.out : Int))) wx (r (.tmp 36)) := h2
      replace h3 : r (.const (.bool false)) = .bool false := h3
      exact give_and rfl h3 h1 (fun hb => h2.get (by first | exact hb | (rw [hc, hb]; rfl) | (rw [hb]; rfl))) ⟨Ext.refl _, rfl⟩
    refine GoodAll.cons ?_ ?_
    · intro r wx hR hx
      obtain ⟨h1, _⟩ := hx
      replace h1 : r (.tmp 37) = .bool ((((((c.kind : Int) == (d.kind : Int)) && ((samePB c d))) && ((((c.tag : Int) : Int) == ((d.tag : Int) : Int)))) && (((c.win : Int) == (d.win : Int)))) && (((c.out : Int) == (d.out : Int)))) := h1
      exact give_move (.inl rfl) ⟨Ext.refl _, h1⟩
    refine GoodAll.cons ?_ ?_
    · intro r wx hR hx
      obtain ⟨h1, _⟩ := hx
      replace h1 : r (.tmp 2) = .pointer (some ⟨w.heap.size, 0, none⟩) := h1
      intro gb hgb
      refine guard_u (C := (((((((c.kind : Int) == (d.kind : Int)) && ((samePB c d))) && ((((c.tag : Int) : Int) == ((d.tag : Int) : Int)))) && (((c.win : Int) == (d.win : Int)))) && (((c.out : Int) == (d.out : Int)))))) (b := ((((((c.kind : Int) == (d.kind : Int)) && ((samePB c d))) && ((((c.tag : Int) : Int) == ((d.tag : Int) : Int)))) && (((c.win : Int) == (d.win : Int)))) && (((c.out : Int) == (d.out : Int))))) (want := true) hgb (want_t _) (fun hc => ?_) (fun hc => under_no hc)
      exact give_of (by simp [execOp, h1, go_sem]) ⟨Ext.refl _, under_yes hc⟩
    refine GoodAll.cons ?_ ?_
    · intro r wx hR hx
      obtain ⟨h1, _⟩ := hx
      replace h1 : Under ((((((((c.kind : Int) == (d.kind : Int)) && ((samePB c d))) && ((((c.tag : Int) : Int) == ((d.tag : Int) : Int)))) && (((c.win : Int) == (d.win : Int)))) && (((c.out : Int) == (d.out : Int)))))) (.pointer (some ⟨w.heap.size, 11, none⟩)) wx (r (.tmp 39)) := h1
      intro gb hgb
      refine guard_u (C := (((((((c.kind : Int) == (d.kind : Int)) && ((samePB c d))) && ((((c.tag : Int) : Int) == ((d.tag : Int) : Int)))) && (((c.win : Int) == (d.win : Int)))) && (((c.out : Int) == (d.out : Int)))))) (b := ((((((c.kind : Int) == (d.kind : Int)) && ((samePB c d))) && ((((c.tag : Int) : Int) == ((d.tag : Int) : Int)))) && (((c.win : Int) == (d.win : Int)))) && (((c.out : Int) == (d.out : Int))))) (want := true) hgb (want_t _) (fun hc => ?_) (fun hc => under_no hc)
      replace h1 := h1.get hc
      exact give_of (exec_get one3 rfl h1 (cv11 (hb1'.ext hR))) ⟨Ext.refl _, under_yes hc⟩
    refine GoodAll.cons ?_ ?_
    · intro r wx hR hx
      obtain ⟨h1, _⟩ := hx
      replace h1 : r (.tmp 3) = .pointer (some ⟨w1.heap.size, 0, none⟩) := h1
      intro gb hgb
      refine guard_u (C := (((((((c.kind : Int) == (d.kind : Int)) && ((samePB c d))) && ((((c.tag : Int) : Int) == ((d.tag : Int) : Int)))) && (((c.win : Int) == (d.win : Int)))) && (((c.out : Int) == (d.out : Int)))))) (b := ((((((c.kind : Int) == (d.kind : Int)) && ((samePB c d))) && ((((c.tag : Int) : Int) == ((d.tag : Int) : Int)))) && (((c.win : Int) == (d.win : Int)))) && (((c.out : Int) == (d.out : Int))))) (want := true) hgb (want_t _) (fun hc => ?_) (fun hc => under_no hc)
      exact give_of (by simp [execOp, h1, go_sem]) ⟨Ext.refl _, under_yes hc⟩
    refine GoodAll.cons ?_ ?_
    · intro r wx hR hx
      obtain ⟨h1, _⟩ := hx
      replace h1 : Under ((((((((c.kind : Int) == (d.kind : Int)) && ((samePB c d))) && ((((c.tag : Int) : Int) == ((d.tag : Int) : Int)))) && (((c.win : Int) == (d.win : Int)))) && (((c.out : Int) == (d.out : Int)))))) (.pointer (some ⟨w1.heap.size, 11, none⟩)) wx (r (.tmp 41)) := h1
      intro gb hgb
      refine guard_u (C := (((((((c.kind : Int) == (d.kind : Int)) && ((samePB c d))) && ((((c.tag : Int) : Int) == ((d.tag : Int) : Int)))) && (((c.win : Int) == (d.win : Int)))) && (((c.out : Int) == (d.out : Int)))))) (b := ((((((c.kind : Int) == (d.kind : Int)) && ((samePB c d))) && ((((c.tag : Int) : Int) == ((d.tag : Int) : Int)))) && (((c.win : Int) == (d.win : Int)))) && (((c.out : Int) == (d.out : Int))))) (want := true) hgb (want_t _) (fun hc => ?_) (fun hc => under_no hc)
      replace h1 := h1.get hc
      exact give_of (exec_get one3 rfl h1 (cv11 (hb2.ext hR))) ⟨Ext.refl _, under_yes hc⟩
    refine GoodAll.cons ?_ ?_
    · intro r wx hR hx
      obtain ⟨h1, h2, _⟩ := hx
      replace h1 : Under ((((((((c.kind : Int) == (d.kind : Int)) && ((samePB c d))) && ((((c.tag : Int) : Int) == ((d.tag : Int) : Int)))) && (((c.win : Int) == (d.win : Int)))) && (((c.out : Int) == (d.out : Int)))))) (.int .i64 c.inn) wx (r (.tmp 40)) := h1
      replace h2 : Under ((((((((c.kind : Int) == (d.kind : Int)) && ((samePB c d))) && ((((c.tag : Int) : Int) == ((d.tag : Int) : Int)))) && (((c.win : Int) == (d.win : Int)))) && (((c.out : Int) == (d.out : Int)))))) (.int .i64 d.inn) wx (r (.tmp 42)) := h2
      intro gb hgb
      refine guard_u (C := (((((((c.kind : Int) == (d.kind : Int)) && ((samePB c d))) && ((((c.tag : Int) : Int) == ((d.tag : Int) : Int)))) && (((c.win : Int) == (d.win : Int)))) && (((c.out : Int) == (d.out : Int)))))) (b := ((((((c.kind : Int) == (d.kind : Int)) && ((samePB c d))) && ((((c.tag : Int) : Int) == ((d.tag : Int) : Int)))) && (((c.win : Int) == (d.win : Int)))) && (((c.out : Int) == (d.out : Int))))) (want := true) hgb (want_t _) (fun hc => ?_) (fun hc => under_no hc)
      replace h1 := h1.get hc
      replace h2 := h2.get hc
      exact give_of (by simp [execOp, h1, h2, go_sem]) ⟨Ext.refl _, under_yes hc⟩
    refine GoodAll.cons ?_ ?_
    · intro r wx hR hx
      obtain ⟨h1, h2, h3, _⟩ := hx
      replace h1 : r (.tmp 38) = .bool ((((((c.kind : Int) == (d.kind : Int)) && ((samePB c d))) && ((((c.tag : Int) : Int) == ((d.tag : Int) : Int)))) && (((c.win : Int) == (d.win : Int)))) && (((c.out : Int) == (d.out : Int)))) := h1
      replace h2 : Under ((((((((c.kind : Int) == (d.kind : Int)) && ((samePB c d))) && ((((c.tag : Int) : Int) == ((d.tag : Int) : Int)))) && (((c.win : Int) == (d.win : Int)))) && (((c.out : Int) == (d.out : Int)))))) (.bool ((c.inn : Int) == (d.inn : Int))) wx (r (.tmp 43)) := h2
      replace h3 : r (.const (.bool false)) = .bool false := h3
      exact give_and rfl h3 h1 (fun hb => h2.get (by first | exact hb | (rw [hc, hb]; rfl) | (rw [hb]; rfl))) ⟨Ext.refl _, rfl⟩
    refine GoodAll.cons ?_ ?_
    · intro r wx hR hx
      obtain ⟨h1, _⟩ := hx
      replace h1 : r (.tmp 44) = .bool (((((((c.kind : Int) == (d.kind : Int)) && ((samePB c d))) && ((((c.tag : Int) : Int) == ((d.tag : Int) : Int)))) && (((c.win : Int) == (d.win : Int)))) && (((c.out : Int) == (d.out : Int)))) && (((c.inn : Int) == (d.inn : Int)))) := h1
      exact give_move (.inl rfl) ⟨Ext.refl _, h1⟩
    refine GoodAll.cons ?_ ?_
    · intro r wx hR hx
      obtain ⟨h1, _⟩ := hx
      replace h1 : r (.tmp 2) = .pointer (some ⟨w.heap.size, 0, none⟩) := h1
      intro gb hgb
      refine guard_u (C := ((((((((c.kind : Int) == (d.kind : Int)) && ((samePB c d))) && ((((c.tag : Int) : Int) == ((d.tag : Int) : Int)))) && (((c.win : Int) == (d.win : Int)))) && (((c.out : Int) == (d.out : Int)))) && (((c.inn : Int) == (d.inn : Int)))))) (b := (((((((c.kind : Int) == (d.kind : Int)) && ((samePB c d))) && ((((c.tag : Int) : Int) == ((d.tag : Int) : Int)))) && (((c.win : Int) == (d.win : Int)))) && (((c.out : Int) == (d.out : Int)))) && (((c.inn : Int) == (d.inn : Int))))) (want := true) hgb (want_t _) (fun hc => ?_) (fun hc => under_no hc)
      exact give_of (by simp [execOp, h1, go_sem]) ⟨Ext.refl _, under_yes hc⟩
    refine GoodAll.cons ?_ ?_
    · intro r wx hR hx
      obtain ⟨h1, _⟩ := hx
      replace h1 : Under (((((((((c.kind : Int) == (d.kind : Int)) && ((samePB c d))) && ((((c.tag : Int) : Int) == ((d.tag : Int) : Int)))) && (((c.win : Int) == (d.win : Int)))) && (((c.out : Int) == (d.out : Int)))) && (((c.inn : Int) == (d.inn : Int)))))) (.pointer (some ⟨w.heap.size, 12, none⟩)) wx (r (.tmp 46)) := h1
      intro gb hgb
      refine guard_u (C := ((((((((c.kind : Int) == (d.kind : Int)) && ((samePB c d))) && ((((c.tag : Int) : Int) == ((d.tag : Int) : Int)))) && (((c.win : Int) == (d.win : Int)))) && (((c.out : Int) == (d.out : Int)))) && (((c.inn : Int) == (d.inn : Int)))))) (b := (((((((c.kind : Int) == (d.kind : Int)) && ((samePB c d))) && ((((c.tag : Int) : Int) == ((d.tag : Int) : Int)))) && (((c.win : Int) == (d.win : Int)))) && (((c.out : Int) == (d.out : Int)))) && (((c.inn : Int) == (d.inn : Int))))) (want := true) hgb (want_t _) (fun hc => ?_) (fun hc => under_no hc)
      replace h1 := h1.get hc
      exact give_of (exec_get one22 rfl h1 (cv12 (hb1'.ext hR))) ⟨Ext.refl _, under_yes hc⟩
    refine GoodAll.cons ?_ ?_
    · intro r wx hR hx
      obtain ⟨h1, _⟩ := hx
      replace h1 : r (.tmp 3) = .pointer (some ⟨w1.heap.size, 0, none⟩) := h1
      intro gb hgb
      refine guard_u (C := ((((((((c.kind : Int) == (d.kind : Int)) && ((samePB c d))) && ((((c.tag : Int) : Int) == ((d.tag : Int) : Int)))) && (((c.win : Int) == (d.win : Int)))) && (((c.out : Int) == (d.out : Int)))) && (((c.inn : Int) == (d.inn : Int)))))) (b := (((((((c.kind : Int) == (d.kind : Int)) && ((samePB c d))) && ((((c.tag : Int) : Int) == ((d.tag : Int) : Int)))) && (((c.win : Int) == (d.win : Int)))) && (((c.out : Int) == (d.out : Int)))) && (((c.inn : Int) == (d.inn : Int))))) (want := true) hgb (want_t _) (fun hc => ?_) (fun hc => under_no hc)
      exact give_of (by simp [execOp, h1, go_sem]) ⟨Ext.refl _, under_yes hc⟩
    refine GoodAll.cons ?_ ?_
    · intro r wx hR hx
      obtain ⟨h1, _⟩ := hx
      replace h1 : Under (((((((((c.kind : Int) == (d.kind : Int)) && ((samePB c d))) && ((((c.tag : Int) : Int) == ((d.tag : Int) : Int)))) && (((c.win : Int) == (d.win : Int)))) && (((c.out : Int) == (d.out : Int)))) && (((c.inn : Int) == (d.inn : Int)))))) (.pointer (some ⟨w1.heap.size, 12, none⟩)) wx (r (.tmp 48)) := h1
      intro gb hgb
      refine guard_u (C := ((((((((c.kind : Int) == (d.kind : Int)) && ((samePB c d))) && ((((c.tag : Int) : Int) == ((d.tag : Int) : Int)))) && (((c.win : Int) == (d.win : Int)))) && (((c.out : Int) == (d.out : Int)))) && (((c.inn : Int) == (d.inn : Int)))))) (b := (((((((c.kind : Int) == (d.kind : Int)) && ((samePB c d))) && ((((c.tag : Int) : Int) == ((d.tag : Int) : Int)))) && (((c.win : Int) == (d.win : Int)))) && (((c.out : Int) == (d.out : Int)))) && (((c.inn : Int) == (d.inn : Int))))) (want := true) hgb (want_t _) (fun hc => ?_) (fun hc => under_no hc)
      replace h1 := h1.get hc
      exact give_of (exec_get one22 rfl h1 (cv12 (hb2.ext hR))) ⟨Ext.refl _, under_yes hc⟩
    refine GoodAll.cons ?_ ?_
    · intro r wx hR hx
      obtain ⟨h1, h2, _⟩ := hx
      replace h1 : Under (((((((((c.kind : Int) == (d.kind : Int)) && ((samePB c d))) && ((((c.tag : Int) : Int) == ((d.tag : Int) : Int)))) && (((c.win : Int) == (d.win : Int)))) && (((c.out : Int) == (d.out : Int)))) && (((c.inn : Int) == (d.inn : Int)))))) (.int .u32 (c.tsn : Int)) wx (r (.tmp 47)) := h1
      replace h2 : Under (((((((((c.kind : Int) == (d.kind : Int)) && ((samePB c d))) && ((((c.tag : Int) : Int) == ((d.tag : Int) : Int)))) && (((c.win : Int) == (d.win : Int)))) && (((c.out : Int) == (d.out : Int)))) && (((c.inn : Int) == (d.inn : Int)))))) (.int .u32 (d.tsn : Int)) wx (r (.tmp 49)) := h2
      intro gb hgb
      refine guard_u (C := ((((((((c.kind : Int) == (d.kind : Int)) && ((samePB c d))) && ((((c.tag : Int) : Int) == ((d.tag : Int) : Int)))) && (((c.win : Int) == (d.win : Int)))) && (((c.out : Int) == (d.out : Int)))) && (((c.inn : Int) == (d.inn : Int)))))) (b := (((((((c.kind : Int) == (d.kind : Int)) && ((samePB c d))) && ((((c.tag : Int) : Int) == ((d.tag : Int) : Int)))) && (((c.win : Int) == (d.win : Int)))) && (((c.out : Int) == (d.out : Int)))) && (((c.inn : Int) == (d.inn : Int))))) (want := true) hgb (want_t _) (fun hc => ?_) (fun hc => under_no hc)
      replace h1 := h1.get hc
      replace h2 := h2.get hc
      exact give_of (by simp [execOp, h1, h2, go_sem]) ⟨Ext.refl _, under_yes hc⟩
    refine GoodAll.cons ?_ ?_
    · intro r wx hR hx
      obtain ⟨h1, h2, h3, _⟩ := hx
      replace h1 : r (.tmp 45) = .bool (((((((c.kind : Int) == (d.kind : Int)) && ((samePB c d))) && ((((c.tag : Int) : Int) == ((d.tag : Int) : Int)))) && (((c.win : Int) == (d.win : Int)))) && (((c.out : Int) == (d.out : Int)))) && (((c.inn : Int) == (d.inn : Int)))) := h1
      replace h2 : Under (((((((((c.kind : Int) == (d.kind : Int)) && ((samePB c d))) && ((((c.tag : Int) : Int) == ((d.tag : Int) : Int)))) && (((c.win : Int) == (d.win : Int)))) && (((c.out : Int) == (d.out : Int)))) && (((c.inn : Int) == (d.inn : Int)))))) (.bool (((c.tsn : Int) : Int) == ((d.tsn : Int) : Int))) wx (r (.tmp 50)) := h2
      replace h3 : r (.const (.bool false)) = .bool false := h3
      exact give_and rfl h3 h1 (fun hb => h2.get (by first | exact hb | (rw [hc, hb]; rfl) | (rw [hb]; rfl))) ⟨Ext.refl _, rfl⟩
    refine GoodAll.cons ?_ ?_
    · intro r wx hR hx
      obtain ⟨h1, _⟩ := hx
      replace h1 : r (.tmp 51) = .bool ((((((((c.kind : Int) == (d.kind : Int)) && ((samePB c d))) && ((((c.tag : Int) : Int) == ((d.tag : Int) : Int)))) && (((c.win : Int) == (d.win : Int)))) && (((c.out : Int) == (d.out : Int)))) && (((c.inn : Int) == (d.inn : Int)))) && ((((c.tsn : Int) : Int) == ((d.tsn : Int) : Int)))) := h1
      exact give_move (.inl rfl) ⟨Ext.refl _, h1⟩
    refine GoodAll.cons ?_ ?_
    · intro r wx hR hx
      obtain ⟨h1, _⟩ := hx
      replace h1 : r (.tmp 2) = .pointer (some ⟨w.heap.size, 0, none⟩) := h1
      intro gb hgb
      refine guard_u (C := (((((((((c.kind : Int) == (d.kind : Int)) && ((samePB c d))) && ((((c.tag : Int) : Int) == ((d.tag : Int) : Int)))) && (((c.win : Int) == (d.win : Int)))) && (((c.out : Int) == (d.out : Int)))) && (((c.inn : Int) == (d.inn : Int)))) && ((((c.tsn : Int) : Int) == ((d.tsn : Int) : Int)))))) (b := ((((((((c.kind : Int) == (d.kind : Int)) && ((samePB c d))) && ((((c.tag : Int) : Int) == ((d.tag : Int) : Int)))) && (((c.win : Int) == (d.win : Int)))) && (((c.out : Int) == (d.out : Int)))) && (((c.inn : Int) == (d.inn : Int)))) && ((((c.tsn : Int) : Int) == ((d.tsn : Int) : Int))))) (want := true) hgb (want_t _) (fun hc => ?_) (fun hc => under_no hc)
      exact give_of (by simp [execOp, h1, go_sem]) ⟨Ext.refl _, under_yes hc⟩
    refine GoodAll.cons ?_ ?_
    · intro r wx hR hx
      obtain ⟨h1, _⟩ := hx
      replace h1 : Under ((((((((((c.kind : Int) == (d.kind : Int)) && ((samePB c d))) && ((((c.tag : Int) : Int) == ((d.tag : Int) : Int)))) && (((c.win : Int) == (d.win : Int)))) && (((c.out : Int) == (d.out : Int)))) && (((c.inn : Int) == (d.inn : Int)))) && ((((c.tsn : Int) : Int) == ((d.tsn : Int) : Int)))))) (.pointer (some ⟨w.heap.size, 13, none⟩)) wx (r (.tmp 53)) := h1
      intro gb hgb
      refine guard_u (C := (((((((((c.kind : Int) == (d.kind : Int)) && ((samePB c d))) && ((((c.tag : Int) : Int) == ((d.tag : Int) : Int)))) && (((c.win : Int) == (d.win : Int)))) && (((c.out : Int) == (d.out : Int)))) && (((c.inn : Int) == (d.inn : Int)))) && ((((c.tsn : Int) : Int) == ((d.tsn : Int) : Int)))))) (b := ((((((((c.kind : Int) == (d.kind : Int)) && ((samePB c d))) && ((((c.tag : Int) : Int) == ((d.tag : Int) : Int)))) && (((c.win : Int) == (d.win : Int)))) && (((c.out : Int) == (d.out : Int)))) && (((c.inn : Int) == (d.inn : Int)))) && ((((c.tsn : Int) : Int) == ((d.tsn : Int) : Int))))) (want := true) hgb (want_t _) (fun hc => ?_) (fun hc => under_no hc)
      replace h1 := h1.get hc
      exact give_of (exec_get oneS rfl h1 (cv13 (hb1'.ext hR))) ⟨Ext.refl _, under_yes hc⟩
    refine GoodAll.cons ?_ ?_
    · intro r wx hR hx
      obtain ⟨h1, _⟩ := hx
      replace h1 : r (.tmp 3) = .pointer (some ⟨w1.heap.size, 0, none⟩) := h1
      intro gb hgb
      refine guard_u (C := (((((((((c.kind : Int) == (d.kind : Int)) && ((samePB c d))) && ((((c.tag : Int) : Int) == ((d.tag : Int) : Int)))) && (((c.win : Int) == (d.win : Int)))) && (((c.out : Int) == (d.out : Int)))) && (((c.inn : Int) == (d.inn : Int)))) && ((((c.tsn : Int) : Int) == ((d.tsn : Int) : Int)))))) (b := ((((((((c.kind : Int) == (d.kind : Int)) && ((samePB c d))) && ((((c.tag : Int) : Int) == ((d.tag : Int) : Int)))) && (((c.win : Int) == (d.win : Int)))) && (((c.out : Int) == (d.out : Int)))) && (((c.inn : Int) == (d.inn : Int)))) && ((((c.tsn : Int) : Int) == ((d.tsn : Int) : Int))))) (want := true) hgb (want_t _) (fun hc => ?_) (fun hc => under_no hc)
      exact give_of (by simp [execOp, h1, go_sem]) ⟨Ext.refl _, under_yes hc⟩
    refine GoodAll.cons ?_ ?_
    · intro r wx hR hx
      obtain ⟨h1, _⟩ := hx
      replace h1 : Under ((((((((((c.kind : Int) == (d.kind : Int)) && ((samePB c d))) && ((((c.tag : Int) : Int) == ((d.tag : Int) : Int)))) && (((c.win : Int) == (d.win : Int)))) && (((c.out : Int) == (d.out : Int)))) && (((c.inn : Int) == (d.inn : Int)))) && ((((c.tsn : Int) : Int) == ((d.tsn : Int) : Int)))))) (.pointer (some ⟨w1.heap.size, 13, none⟩)) wx (r (.tmp 55)) := h1
      intro gb hgb
      refine guard_u (C := (((((((((c.kind : Int) == (d.kind : Int)) && ((samePB c d))) && ((((c.tag : Int) : Int) == ((d.tag : Int) : Int)))) && (((c.win : Int) == (d.win : Int)))) && (((c.out : Int) == (d.out : Int)))) && (((c.inn : Int) == (d.inn : Int)))) && ((((c.tsn : Int) : Int) == ((d.tsn : Int) : Int)))))) (b := ((((((((c.kind : Int) == (d.kind : Int)) && ((samePB c d))) && ((((c.tag : Int) : Int) == ((d.tag : Int) : Int)))) && (((c.win : Int) == (d.win : Int)))) && (((c.out : Int) == (d.out : Int)))) && (((c.inn : Int) == (d.inn : Int)))) && ((((c.tsn : Int) : Int) == ((d.tsn : Int) : Int))))) (want := true) hgb (want_t _) (fun hc => ?_) (fun hc => under_no hc)
      replace h1 := h1.get hc
      exact give_of (exec_get oneS rfl h1 (cv13 (hb2.ext hR))) ⟨Ext.refl _, under_yes hc⟩
    refine GoodAll.cons ?_ ?_
    · intro r wx hR hx
      obtain ⟨h1, h2, h3, _⟩ := hx
      replace h1 : r (.func 43) = .func (.func 43) #[] #[] := h1
      replace h2 : Under ((((((((((c.kind : Int) == (d.kind : Int)) && ((samePB c d))) && ((((c.tag : Int) : Int) == ((d.tag : Int) : Int)))) && (((c.win : Int) == (d.win : Int)))) && (((c.out : Int) == (d.out : Int)))) && (((c.inn : Int) == (d.inn : Int)))) && ((((c.tsn : Int) : Int) == ((d.tsn : Int) : Int)))))) (.slice s.rA s.rN s.rC) wx (r (.tmp 54)) := h2
      replace h3 : Under ((((((((((c.kind : Int) == (d.kind : Int)) && ((samePB c d))) && ((((c.tag : Int) : Int) == ((d.tag : Int) : Int)))) && (((c.win : Int) == (d.win : Int)))) && (((c.out : Int) == (d.out : Int)))) && (((c.inn : Int) == (d.inn : Int)))) && ((((c.tsn : Int) : Int) == ((d.tsn : Int) : Int)))))) (.slice u.rA u.rN u.rC) wx (r (.tmp 56)) := h3
      intro gb hgb
      refine guard_u (C := (((((((((c.kind : Int) == (d.kind : Int)) && ((samePB c d))) && ((((c.tag : Int) : Int) == ((d.tag : Int) : Int)))) && (((c.win : Int) == (d.win : Int)))) && (((c.out : Int) == (d.out : Int)))) && (((c.inn : Int) == (d.inn : Int)))) && ((((c.tsn : Int) : Int) == ((d.tsn : Int) : Int)))))) (b := ((((((((c.kind : Int) == (d.kind : Int)) && ((samePB c d))) && ((((c.tag : Int) : Int) == ((d.tag : Int) : Int)))) && (((c.win : Int) == (d.win : Int)))) && (((c.out : Int) == (d.out : Int)))) && (((c.inn : Int) == (d.inn : Int)))) && ((((c.tsn : Int) : Int) == ((d.tsn : Int) : Int))))) (want := true) hgb (want_t _) (fun hc => ?_) (fun hc => under_no hc)
      replace h2 := h2.get hc
      replace h3 := h3.get hc
      refine give_func #[.slice s.rA s.rN s.rC, .slice u.rA u.rN u.rC] rfl h1 Try.call43 (by simp [h2, h3]) ?_
      refine (equal_any (HA.r.ext hR) (HB.r.ext hR)).mono ?_
      rintro e wz ⟨rfl, hez⟩
      exact ⟨_, rfl, hez, under_yes hc⟩
    refine GoodAll.cons ?_ ?_
    · intro r wx hR hx
      obtain ⟨h1, h2, h3, _⟩ := hx
      replace h1 : r (.tmp 52) = .bool ((((((((c.kind : Int) == (d.kind : Int)) && ((samePB c d))) && ((((c.tag : Int) : Int) == ((d.tag : Int) : Int)))) && (((c.win : Int) == (d.win : Int)))) && (((c.out : Int) == (d.out : Int)))) && (((c.inn : Int) == (d.inn : Int)))) && ((((c.tsn : Int) : Int) == ((d.tsn : Int) : Int)))) := h1
      replace h2 : Under ((((((((((c.kind : Int) == (d.kind : Int)) && ((samePB c d))) && ((((c.tag : Int) : Int) == ((d.tag : Int) : Int)))) && (((c.win : Int) == (d.win : Int)))) && (((c.out : Int) == (d.out : Int)))) && (((c.inn : Int) == (d.inn : Int)))) && ((((c.tsn : Int) : Int) == ((d.tsn : Int) : Int)))))) (.bool (decide (c.rand = d.rand))) wx (r (.tmp 57)) := h2
      replace h3 : r (.const (.bool false)) = .bool false := h3
      exact give_and rfl h3 h1 (fun hb => h2.get (by first | exact hb | (rw [hc, hb]; rfl) | (rw [hb]; rfl))) ⟨Ext.refl _, rfl⟩
    refine GoodAll.cons ?_ ?_
    · intro r wx hR hx
      obtain ⟨h1, _⟩ := hx
      replace h1 : r (.tmp 58) = .bool (((((((((c.kind : Int) == (d.kind : Int)) && ((samePB c d))) && ((((c.tag : Int) : Int) == ((d.tag : Int) : Int)))) && (((c.win : Int) == (d.win : Int)))) && (((c.out : Int) == (d.out : Int)))) && (((c.inn : Int) == (d.inn : Int)))) && ((((c.tsn : Int) : Int) == ((d.tsn : Int) : Int)))) && ((decide (c.rand = d.rand)))) := h1
      exact give_move (.inl rfl) ⟨Ext.refl _, h1⟩
    refine GoodAll.cons ?_ ?_
    · intro r wx hR hx
      obtain ⟨h1, _⟩ := hx
      replace h1 : r (.tmp 2) = .pointer (some ⟨w.heap.size, 0, none⟩) := h1
      intro gb hgb
      refine guard_u (C := ((((((((((c.kind : Int) == (d.kind : Int)) && ((samePB c d))) && ((((c.tag : Int) : Int) == ((d.tag : Int) : Int)))) && (((c.win : Int) == (d.win : Int)))) && (((c.out : Int) == (d.out : Int)))) && (((c.inn : Int) == (d.inn : Int)))) && ((((c.tsn : Int) : Int) == ((d.tsn : Int) : Int)))) && ((decide (c.rand = d.rand)))))) (b := (((((((((c.kind : Int) == (d.kind : Int)) && ((samePB c d))) && ((((c.tag : Int) : Int) == ((d.tag : Int) : Int)))) && (((c.win : Int) == (d.win : Int)))) && (((c.out : Int) == (d.out : Int)))) && (((c.inn : Int) == (d.inn : Int)))) && ((((c.tsn : Int) : Int) == ((d.tsn : Int) : Int)))) && ((decide (c.rand = d.rand))))) (want := true) hgb (want_t _) (fun hc => ?_) (fun hc => under_no hc)
      exact give_of (by simp [execOp, h1, go_sem]) ⟨Ext.refl _, under_yes hc⟩
    refine GoodAll.cons ?_ ?_
    · intro r wx hR hx
      obtain ⟨h1, _⟩ := hx
      replace h1 : Under (((((((((((c.kind : Int) == (d.kind : Int)) && ((samePB c d))) && ((((c.tag : Int) : Int) == ((d.tag : Int) : Int)))) && (((c.win : Int) == (d.win : Int)))) && (((c.out : Int) == (d.out : Int)))) && (((c.inn : Int) == (d.inn : Int)))) && ((((c.tsn : Int) : Int) == ((d.tsn : Int) : Int)))) && ((decide (c.rand = d.rand)))))) (.pointer (some ⟨w.heap.size, 14, none⟩)) wx (r (.tmp 60)) := h1
      intro gb hgb
      refine guard_u (C := ((((((((((c.kind : Int) == (d.kind : Int)) && ((samePB c d))) && ((((c.tag : Int) : Int) == ((d.tag : Int) : Int)))) && (((c.win : Int) == (d.win : Int)))) && (((c.out : Int) == (d.out : Int)))) && (((c.inn : Int) == (d.inn : Int)))) && ((((c.tsn : Int) : Int) == ((d.tsn : Int) : Int)))) && ((decide (c.rand = d.rand)))))) (b := (((((((((c.kind : Int) == (d.kind : Int)) && ((samePB c d))) && ((((c.tag : Int) : Int) == ((d.tag : Int) : Int)))) && (((c.win : Int) == (d.win : Int)))) && (((c.out : Int) == (d.out : Int)))) && (((c.inn : Int) == (d.inn : Int)))) && ((((c.tsn : Int) : Int) == ((d.tsn : Int) : Int)))) && ((decide (c.rand = d.rand))))) (want := true) hgb (want_t _) (fun hc => ?_) (fun hc => under_no hc)
      replace h1 := h1.get hc
      exact give_of (exec_get oneSA rfl h1 (cv14 (hb1'.ext hR))) ⟨Ext.refl _, under_yes hc⟩
    refine GoodAll.cons ?_ ?_
    · intro r wx hR hx
      obtain ⟨h1, _⟩ := hx
      replace h1 : r (.tmp 3) = .pointer (some ⟨w1.heap.size, 0, none⟩) := h1
      intro gb hgb
      refine guard_u (C := ((((((((((c.kind : Int) == (d.kind : Int)) && ((samePB c d))) && ((((c.tag : Int) : Int) == ((d.tag : Int) : Int)))) && (((c.win : Int) == (d.win : Int)))) && (((c.out : Int) == (d.out : Int)))) && (((c.inn : Int) == (d.inn : Int)))) && ((((c.tsn : Int) : Int) == ((d.tsn : Int) : Int)))) && ((decide (c.rand = d.rand)))))) (b := (((((((((c.kind : Int) == (d.kind : Int)) && ((samePB c d))) && ((((c.tag : Int) : Int) == ((d.tag : Int) : Int)))) && (((c.win : Int) == (d.win : Int)))) && (((c.out : Int) == (d.out : Int)))) && (((c.inn : Int) == (d.inn : Int)))) && ((((c.tsn : Int) : Int) == ((d.tsn : Int) : Int)))) && ((decide (c.rand = d.rand))))) (want := true) hgb (want_t _) (fun hc => ?_) (fun hc => under_no hc)
      exact give_of (by simp [execOp, h1, go_sem]) ⟨Ext.refl _, under_yes hc⟩
    refine GoodAll.cons ?_ ?_
    · intro r wx hR hx
      obtain ⟨h1, _⟩ := hx
      replace h1 : Under (((((((((((c.kind : Int) == (d.kind : Int)) && ((samePB c d))) && ((((c.tag : Int) : Int) == ((d.tag : Int) : Int)))) && (((c.win : Int) == (d.win : Int)))) && (((c.out : Int) == (d.out : Int)))) && (((c.inn : Int) == (d.inn : Int)))) && ((((c.tsn : Int) : Int) == ((d.tsn : Int) : Int)))) && ((decide (c.rand = d.rand)))))) (.pointer (some ⟨w1.heap.size, 14, none⟩)) wx (r (.tmp 62)) := h1
      intro gb hgb
      refine guard_u (C := ((((((((((c.kind : Int) == (d.kind : Int)) && ((samePB c d))) && ((((c.tag : Int) : Int) == ((d.tag : Int) : Int)))) && (((c.win : Int) == (d.win : Int)))) && (((c.out : Int) == (d.out : Int)))) && (((c.inn : Int) == (d.inn : Int)))) && ((((c.tsn : Int) : Int) == ((d.tsn : Int) : Int)))) && ((decide (c.rand = d.rand)))))) (b := (((((((((c.kind : Int) == (d.kind : Int)) && ((samePB c d))) && ((((c.tag : Int) : Int) == ((d.tag : Int) : Int)))) && (((c.win : Int) == (d.win : Int)))) && (((c.out : Int) == (d.out : Int)))) && (((c.inn : Int) == (d.inn : Int)))) && ((((c.tsn : Int) : Int) == ((d.tsn : Int) : Int)))) && ((decide (c.rand = d.rand))))) (want := true) hgb (want_t _) (fun hc => ?_) (fun hc => under_no hc)
      replace h1 := h1.get hc
      exact give_of (exec_get oneSA rfl h1 (cv14 (hb2.ext hR))) ⟨Ext.refl _, under_yes hc⟩
    refine GoodAll.cons ?_ ?_
    · intro r wx hR hx
      obtain ⟨h1, h2, h3, _⟩ := hx
      replace h1 : r (.func 57) = .func (.func 57) #[] #[] := h1
      replace h2 : Under (((((((((((c.kind : Int) == (d.kind : Int)) && ((samePB c d))) && ((((c.tag : Int) : Int) == ((d.tag : Int) : Int)))) && (((c.win : Int) == (d.win : Int)))) && (((c.out : Int) == (d.out : Int)))) && (((c.inn : Int) == (d.inn : Int)))) && ((((c.tsn : Int) : Int) == ((d.tsn : Int) : Int)))) && ((decide (c.rand = d.rand)))))) (.slice s.aA s.aN s.aC) wx (r (.tmp 61)) := h2
      replace h3 : Under (((((((((((c.kind : Int) == (d.kind : Int)) && ((samePB c d))) && ((((c.tag : Int) : Int) == ((d.tag : Int) : Int)))) && (((c.win : Int) == (d.win : Int)))) && (((c.out : Int) == (d.out : Int)))) && (((c.inn : Int) == (d.inn : Int)))) && ((((c.tsn : Int) : Int) == ((d.tsn : Int) : Int)))) && ((decide (c.rand = d.rand)))))) (.slice u.aA u.aN u.aC) wx (r (.tmp 63)) := h3
      intro gb hgb
      refine guard_u (C := ((((((((((c.kind : Int) == (d.kind : Int)) && ((samePB c d))) && ((((c.tag : Int) : Int) == ((d.tag : Int) : Int)))) && (((c.win : Int) == (d.win : Int)))) && (((c.out : Int) == (d.out : Int)))) && (((c.inn : Int) == (d.inn : Int)))) && ((((c.tsn : Int) : Int) == ((d.tsn : Int) : Int)))) && ((decide (c.rand = d.rand)))))) (b := (((((((((c.kind : Int) == (d.kind : Int)) && ((samePB c d))) && ((((c.tag : Int) : Int) == ((d.tag : Int) : Int)))) && (((c.win : Int) == (d.win : Int)))) && (((c.out : Int) == (d.out : Int)))) && (((c.inn : Int) == (d.inn : Int)))) && ((((c.tsn : Int) : Int) == ((d.tsn : Int) : Int)))) && ((decide (c.rand = d.rand))))) (want := true) hgb (want_t _) (fun hc => ?_) (fun hc => under_no hc)
      replace h2 := h2.get hc
      replace h3 := h3.get hc
      refine give_func #[.slice s.aA s.aN s.aC, .slice u.aA u.aN u.aC] rfl h1 Try.call57 (by simp [h2, h3]) ?_
      refine (eqA_any (HA.a.ext hR) (HB.a.ext hR)).mono ?_
      rintro e wz ⟨rfl, hez⟩
      exact ⟨_, rfl, hez, under_yes hc⟩
    refine GoodAll.cons ?_ ?_
    · intro r wx hR hx
      obtain ⟨h1, h2, h3, _⟩ := hx
      replace h1 : r (.tmp 59) = .bool (((((((((c.kind : Int) == (d.kind : Int)) && ((samePB c d))) && ((((c.tag : Int) : Int) == ((d.tag : Int) : Int)))) && (((c.win : Int) == (d.win : Int)))) && (((c.out : Int) == (d.out : Int)))) && (((c.inn : Int) == (d.inn : Int)))) && ((((c.tsn : Int) : Int) == ((d.tsn : Int) : Int)))) && ((decide (c.rand = d.rand)))) := h1
      replace h2 : Under (((((((((((c.kind : Int) == (d.kind : Int)) && ((samePB c d))) && ((((c.tag : Int) : Int) == ((d.tag : Int) : Int)))) && (((c.win : Int) == (d.win : Int)))) && (((c.out : Int) == (d.out : Int)))) && (((c.inn : Int) == (d.inn : Int)))) && ((((c.tsn : Int) : Int) == ((d.tsn : Int) : Int)))) && ((decide (c.rand = d.rand)))))) (.bool (decide (c.addrs = d.addrs))) wx (r (.tmp 64)) := h2
      replace h3 : r (.const (.bool false)) = .bool false := h3
      exact give_and rfl h3 h1 (fun hb => h2.get (by first | exact hb | (rw [hc, hb]; rfl) | (rw [hb]; rfl))) ⟨Ext.refl _, rfl⟩
    refine GoodAll.cons ?_ ?_
    · intro r wx hR hx
      obtain ⟨h1, _⟩ := hx
      replace h1 : r (.tmp 65) = .bool ((((((((((c.kind : Int) == (d.kind : Int)) && ((samePB c d))) && ((((c.tag : Int) : Int) == ((d.tag : Int) : Int)))) && (((c.win : Int) == (d.win : Int)))) && (((c.out : Int) == (d.out : Int)))) && (((c.inn : Int) == (d.inn : Int)))) && ((((c.tsn : Int) : Int) == ((d.tsn : Int) : Int)))) && ((decide (c.rand = d.rand)))) && ((decide (c.addrs = d.addrs)))) := h1
      exact give_move (.inl rfl) ⟨Ext.refl _, h1⟩
    refine GoodAll.cons ?_ ?_
    · intro r wx hR hx
      obtain ⟨h1, _⟩ := hx
      replace h1 : r (.tmp 2) = .pointer (some ⟨w.heap.size, 0, none⟩) := h1
      intro gb hgb
      refine guard_u (C := (((((((((((c.kind : Int) == (d.kind : Int)) && ((samePB c d))) && ((((c.tag : Int) : Int) == ((d.tag : Int) : Int)))) && (((c.win : Int) == (d.win : Int)))) && (((c.out : Int) == (d.out : Int)))) && (((c.inn : Int) == (d.inn : Int)))) && ((((c.tsn : Int) : Int) == ((d.tsn : Int) : Int)))) && ((decide (c.rand = d.rand)))) && ((decide (c.addrs = d.addrs)))))) (b := ((((((((((c.kind : Int) == (d.kind : Int)) && ((samePB c d))) && ((((c.tag : Int) : Int) == ((d.tag : Int) : Int)))) && (((c.win : Int) == (d.win : Int)))) && (((c.out : Int) == (d.out : Int)))) && (((c.inn : Int) == (d.inn : Int)))) && ((((c.tsn : Int) : Int) == ((d.tsn : Int) : Int)))) && ((decide (c.rand = d.rand)))) && ((decide (c.addrs = d.addrs))))) (want := true) hgb (want_t _) (fun hc => ?_) (fun hc => under_no hc)
      exact give_of (by simp [execOp, h1, go_sem]) ⟨Ext.refl _, under_yes hc⟩
    refine GoodAll.cons ?_ ?_
    · intro r wx hR hx
      obtain ⟨h1, _⟩ := hx
      replace h1 : Under ((((((((((((c.kind : Int) == (d.kind : Int)) && ((samePB c d))) && ((((c.tag : Int) : Int) == ((d.tag : Int) : Int)))) && (((c.win : Int) == (d.win : Int)))) && (((c.out : Int) == (d.out : Int)))) && (((c.inn : Int) == (d.inn : Int)))) && ((((c.tsn : Int) : Int) == ((d.tsn : Int) : Int)))) && ((decide (c.rand = d.rand)))) && ((decide (c.addrs = d.addrs)))))) (.pointer (some ⟨w.heap.size, 15, none⟩)) wx (r (.tmp 67)) := h1
      intro gb hgb
      refine guard_u (C := (((((((((((c.kind : Int) == (d.kind : Int)) && ((samePB c d))) && ((((c.tag : Int) : Int) == ((d.tag : Int) : Int)))) && (((c.win : Int) == (d.win : Int)))) && (((c.out : Int) == (d.out : Int)))) && (((c.inn : Int) == (d.inn : Int)))) && ((((c.tsn : Int) : Int) == ((d.tsn : Int) : Int)))) && ((decide (c.rand = d.rand)))) && ((decide (c.addrs = d.addrs)))))) (b := ((((((((((c.kind : Int) == (d.kind : Int)) && ((samePB c d))) && ((((c.tag : Int) : Int) == ((d.tag : Int) : Int)))) && (((c.win : Int) == (d.win : Int)))) && (((c.out : Int) == (d.out : Int)))) && (((c.inn : Int) == (d.inn : Int)))) && ((((c.tsn : Int) : Int) == ((d.tsn : Int) : Int)))) && ((decide (c.rand = d.rand)))) && ((decide (c.addrs = d.addrs))))) (want := true) hgb (want_t _) (fun hc => ?_) (fun hc => under_no hc)
      replace h1 := h1.get hc
      exact give_of (exec_get oneS rfl h1 (cv15 (hb1'.ext hR))) ⟨Ext.refl _, under_yes hc⟩
    refine GoodAll.cons ?_ ?_
    · intro r wx hR hx
      obtain ⟨h1, _⟩ := hx
      replace h1 : r (.tmp 3) = .pointer (some ⟨w1.heap.size, 0, none⟩) := h1
      intro gb hgb
      refine guard_u (C := (((((((((((c.kind : Int) == (d.kind : Int)) && ((samePB c d))) && ((((c.tag : Int) : Int) == ((d.tag : Int) : Int)))) && (((c.win : Int) == (d.win : Int)))) && (((c.out : Int) == (d.out : Int)))) && (((c.inn : Int) == (d.inn : Int)))) && ((((c.tsn : Int) : Int) == ((d.tsn : Int) : Int)))) && ((decide (c.rand = d.rand)))) && ((decide (c.addrs = d.addrs)))))) (b := ((((((((((c.kind : Int) == (d.kind : Int)) && ((samePB c d))) && ((((c.tag : Int) : Int) == ((d.tag : Int) : Int)))) && (((c.win : Int) == (d.win : Int)))) && (((c.out : Int) == (d.out : Int)))) && (((c.inn : Int) == (d.inn : Int)))) && ((((c.tsn : Int) : Int) == ((d.tsn : Int) : Int)))) && ((decide (c.rand = d.rand)))) && ((decide (c.addrs = d.addrs))))) (want := true) hgb (want_t _) (fun hc => ?_) (fun hc => under_no hc)
      exact give_of (by simp [execOp, h1, go_sem]) ⟨Ext.refl _, under_yes hc⟩
    refine GoodAll.cons ?_ ?_
    · intro r wx hR hx
      obtain ⟨h1, _⟩ := hx
      replace h1 : Under ((((((((((((c.kind : Int) == (d.kind : Int)) && ((samePB c d))) && ((((c.tag : Int) : Int) == ((d.tag : Int) : Int)))) && (((c.win : Int) == (d.win : Int)))) && (((c.out : Int) == (d.out : Int)))) && (((c.inn : Int) == (d.inn : Int)))) && ((((c.tsn : Int) : Int) == ((d.tsn : Int) : Int)))) && ((decide (c.rand = d.rand)))) && ((decide (c.addrs = d.addrs)))))) (.pointer (some ⟨w1.heap.size, 15, none⟩)) wx (r (.tmp 69)) := h1
      intro gb hgb
      refine guard_u (C := (((((((((((c.kind : Int) == (d.kind : Int)) && ((samePB c d))) && ((((c.tag : Int) : Int) == ((d.tag : Int) : Int)))) && (((c.win : Int) == (d.win : Int)))) && (((c.out : Int) == (d.out : Int)))) && (((c.inn : Int) == (d.inn : Int)))) && ((((c.tsn : Int) : Int) == ((d.tsn : Int) : Int)))) && ((decide (c.rand = d.rand)))) && ((decide (c.addrs = d.addrs)))))) (b := ((((((((((c.kind : Int) == (d.kind : Int)) && ((samePB c d))) && ((((c.tag : Int) : Int) == ((d.tag : Int) : Int)))) && (((c.win : Int) == (d.win : Int)))) && (((c.out : Int) == (d.out : Int)))) && (((c.inn : Int) == (d.inn : Int)))) && ((((c.tsn : Int) : Int) == ((d.tsn : Int) : Int)))) && ((decide (c.rand = d.rand)))) && ((decide (c.addrs = d.addrs))))) (want := true) hgb (want_t _) (fun hc => ?_) (fun hc => under_no hc)
      replace h1 := h1.get hc
      exact give_of (exec_get oneS rfl h1 (cv15 (hb2.ext hR))) ⟨Ext.refl _, under_yes hc⟩
    refine GoodAll.cons ?_ ?_
    · intro r wx hR hx
      obtain ⟨h1, h2, h3, _⟩ := hx
      replace h1 : r (.func 43) = .func (.func 43) #[] #[] := h1
      replace h2 : Under ((((((((((((c.kind : Int) == (d.kind : Int)) && ((samePB c d))) && ((((c.tag : Int) : Int) == ((d.tag : Int) : Int)))) && (((c.win : Int) == (d.win : Int)))) && (((c.out : Int) == (d.out : Int)))) && (((c.inn : Int) == (d.inn : Int)))) && ((((c.tsn : Int) : Int) == ((d.tsn : Int) : Int)))) && ((decide (c.rand = d.rand)))) && ((decide (c.addrs = d.addrs)))))) (.slice s.iA s.iN s.iC) wx (r (.tmp 68)) := h2
      replace h3 : Under ((((((((((((c.kind : Int) == (d.kind : Int)) && ((samePB c d))) && ((((c.tag : Int) : Int) == ((d.tag : Int) : Int)))) && (((c.win : Int) == (d.win : Int)))) && (((c.out : Int) == (d.out : Int)))) && (((c.inn : Int) == (d.inn : Int)))) && ((((c.tsn : Int) : Int) == ((d.tsn : Int) : Int)))) && ((decide (c.rand = d.rand)))) && ((decide (c.addrs = d.addrs)))))) (.slice u.iA u.iN u.iC) wx (r (.tmp 70)) := h3
      intro gb hgb
      refine guard_u (C := (((((((((((c.kind : Int) == (d.kind : Int)) && ((samePB c d))) && ((((c.tag : Int) : Int) == ((d.tag : Int) : Int)))) && (((c.win : Int) == (d.win : Int)))) && (((c.out : Int) == (d.out : Int)))) && (((c.inn : Int) == (d.inn : Int)))) && ((((c.tsn : Int) : Int) == ((d.tsn : Int) : Int)))) && ((decide (c.rand = d.rand)))) && ((decide (c.addrs = d.addrs)))))) (b := ((((((((((c.kind : Int) == (d.kind : Int)) && ((samePB c d))) && ((((c.tag : Int) : Int) == ((d.tag : Int) : Int)))) && (((c.win : Int) == (d.win : Int)))) && (((c.out : Int) == (d.out : Int)))) && (((c.inn : Int) == (d.inn : Int)))) && ((((c.tsn : Int) : Int) == ((d.tsn : Int) : Int)))) && ((decide (c.rand = d.rand)))) && ((decide (c.addrs = d.addrs))))) (want := true) hgb (want_t _) (fun hc => ?_) (fun hc => under_no hc)
      replace h2 := h2.get hc
      replace h3 := h3.get hc
      refine give_func #[.slice s.iA s.iN s.iC, .slice u.iA u.iN u.iC] rfl h1 Try.call43 (by simp [h2, h3]) ?_
      refine (equal_any (HA.i.ext hR) (HB.i.ext hR)).mono ?_
      rintro e wz ⟨rfl, hez⟩
      exact ⟨_, rfl, hez, under_yes hc⟩
    refine GoodAll.cons ?_ ?_
    · intro r wx hR hx
      obtain ⟨h1, h2, h3, _⟩ := hx
      replace h1 : r (.tmp 66) = .bool ((((((((((c.kind : Int) == (d.kind : Int)) && ((samePB c d))) && ((((c.tag : Int) : Int) == ((d.tag : Int) : Int)))) && (((c.win : Int) == (d.win : Int)))) && (((c.out : Int) == (d.out : Int)))) && (((c.inn : Int) == (d.inn : Int)))) && ((((c.tsn : Int) : Int) == ((d.tsn : Int) : Int)))) && ((decide (c.rand = d.rand)))) && ((decide (c.addrs = d.addrs)))) := h1
      replace h2 : Under ((((((((((((c.kind : Int) == (d.kind : Int)) && ((samePB c d))) && ((((c.tag : Int) : Int) == ((d.tag : Int) : Int)))) && (((c.win : Int) == (d.win : Int)))) && (((c.out : Int) == (d.out : Int)))) && (((c.inn : Int) == (d.inn : Int)))) && ((((c.tsn : Int) : Int) == ((d.tsn : Int) : Int)))) && ((decide (c.rand = d.rand)))) && ((decide (c.addrs = d.addrs)))))) (.bool (decide (c.info = d.info))) wx (r (.tmp 71)) := h2
      replace h3 : r (.const (.bool false)) = .bool false := h3
      exact give_and rfl h3 h1 (fun hb => h2.get (by first | exact hb | (rw [hc, hb]; rfl) | (rw [hb]; rfl))) ⟨Ext.refl _, rfl⟩
    refine GoodAll.cons ?_ ?_
    · intro r wx hR hx
      obtain ⟨h1, _⟩ := hx
      replace h1 : r (.tmp 72) = .bool (((((((((((c.kind : Int) == (d.kind : Int)) && ((samePB c d))) && ((((c.tag : Int) : Int) == ((d.tag : Int) : Int)))) && (((c.win : Int) == (d.win : Int)))) && (((c.out : Int) == (d.out : Int)))) && (((c.inn : Int) == (d.inn : Int)))) && ((((c.tsn : Int) : Int) == ((d.tsn : Int) : Int)))) && ((decide (c.rand = d.rand)))) && ((decide (c.addrs = d.addrs)))) && ((decide (c.info = d.info)))) := h1
      exact give_move (.inl rfl) ⟨Ext.refl _, h1⟩
    refine GoodAll.cons ?_ ?_
    · intro r wx hR hx
      obtain ⟨h1, _⟩ := hx
      replace h1 : r (.tmp 2) = .pointer (some ⟨w.heap.size, 0, none⟩) := h1
      intro gb hgb
      refine guard_u (C := ((((((((((((c.kind : Int) == (d.kind : Int)) && ((samePB c d))) && ((((c.tag : Int) : Int) == ((d.tag : Int) : Int)))) && (((c.win : Int) == (d.win : Int)))) && (((c.out : Int) == (d.out : Int)))) && (((c.inn : Int) == (d.inn : Int)))) && ((((c.tsn : Int) : Int) == ((d.tsn : Int) : Int)))) && ((decide (c.rand = d.rand)))) && ((decide (c.addrs = d.addrs)))) && ((decide (c.info = d.info)))))) (b := (((((((((((c.kind : Int) == (d.kind : Int)) && ((samePB c d))) && ((((c.tag : Int) : Int) == ((d.tag : Int) : Int)))) && (((c.win : Int) == (d.win : Int)))) && (((c.out : Int) == (d.out : Int)))) && (((c.inn : Int) == (d.inn : Int)))) && ((((c.tsn : Int) : Int) == ((d.tsn : Int) : Int)))) && ((decide (c.rand = d.rand)))) && ((decide (c.addrs = d.addrs)))) && ((decide (c.info = d.info))))) (want := true) hgb (want_t _) (fun hc => ?_) (fun hc => under_no hc)
      exact give_of (by simp [execOp, h1, go_sem]) ⟨Ext.refl _, under_yes hc⟩
    refine GoodAll.cons ?_ ?_
    · intro r wx hR hx
      obtain ⟨h1, _⟩ := hx
      replace h1 : Under (((((((((((((c.kind : Int) == (d.kind : Int)) && ((samePB c d))) && ((((c.tag : Int) : Int) == ((d.tag : Int) : Int)))) && (((c.win : Int) == (d.win : Int)))) && (((c.out : Int) == (d.out : Int)))) && (((c.inn : Int) == (d.inn : Int)))) && ((((c.tsn : Int) : Int) == ((d.tsn : Int) : Int)))) && ((decide (c.rand = d.rand)))) && ((decide (c.addrs = d.addrs)))) && ((decide (c.info = d.info)))))) (.pointer (some ⟨w.heap.size, 16, none⟩)) wx (r (.tmp 74)) := h1
      intro gb hgb
      refine guard_u (C := ((((((((((((c.kind : Int) == (d.kind : Int)) && ((samePB c d))) && ((((c.tag : Int) : Int) == ((d.tag : Int) : Int)))) && (((c.win : Int) == (d.win : Int)))) && (((c.out : Int) == (d.out : Int)))) && (((c.inn : Int) == (d.inn : Int)))) && ((((c.tsn : Int) : Int) == ((d.tsn : Int) : Int)))) && ((decide (c.rand = d.rand)))) && ((decide (c.addrs = d.addrs)))) && ((decide (c.info = d.info)))))) (b := (((((((((((c.kind : Int) == (d.kind : Int)) && ((samePB c d))) && ((((c.tag : Int) : Int) == ((d.tag : Int) : Int)))) && (((c.win : Int) == (d.win : Int)))) && (((c.out : Int) == (d.out : Int)))) && (((c.inn : Int) == (d.inn : Int)))) && ((((c.tsn : Int) : Int) == ((d.tsn : Int) : Int)))) && ((decide (c.rand = d.rand)))) && ((decide (c.addrs = d.addrs)))) && ((decide (c.info = d.info))))) (want := true) hgb (want_t _) (fun hc => ?_) (fun hc => under_no hc)
      replace h1 := h1.get hc
      exact give_of (exec_get oneSG rfl h1 (cv16 (hb1'.ext hR))) ⟨Ext.refl _, under_yes hc⟩
    refine GoodAll.cons ?_ ?_
    · intro r wx hR hx
      obtain ⟨h1, _⟩ := hx
      replace h1 : r (.tmp 3) = .pointer (some ⟨w1.heap.size, 0, none⟩) := h1
      intro gb hgb
      refine guard_u (C := ((((((((((((c.kind : Int) == (d.kind : Int)) && ((samePB c d))) && ((((c.tag : Int) : Int) == ((d.tag : Int) : Int)))) && (((c.win : Int) == (d.win : Int)))) && (((c.out : Int) == (d.out : Int)))) && (((c.inn : Int) == (d.inn : Int)))) && ((((c.tsn : Int) : Int) == ((d.tsn : Int) : Int)))) && ((decide (c.rand = d.rand)))) && ((decide (c.addrs = d.addrs)))) && ((decide (c.info = d.info)))))) (b := (((((((((((c.kind : Int) == (d.kind : Int)) && ((samePB c d))) && ((((c.tag : Int) : Int) == ((d.tag : Int) : Int)))) && (((c.win : Int) == (d.win : Int)))) && (((c.out : Int) == (d.out : Int)))) && (((c.inn : Int) == (d.inn : Int)))) && ((((c.tsn : Int) : Int) == ((d.tsn : Int) : Int)))) && ((decide (c.rand = d.rand)))) && ((decide (c.addrs = d.addrs)))) && ((decide (c.info = d.info))))) (want := true) hgb (want_t _) (fun hc => ?_) (fun hc => under_no hc)
      exact give_of (by simp [execOp, h1, go_sem]) ⟨Ext.refl _, under_yes hc⟩
    refine GoodAll.cons ?_ ?_
    · intro r wx hR hx
      obtain ⟨h1, _⟩ := hx
      replace h1 : Under (((((((((((((c.kind : Int) == (d.kind : Int)) && ((samePB c d))) && ((((c.tag : Int) : Int) == ((d.tag : Int) : Int)))) && (((c.win : Int) == (d.win : Int)))) && (((c.out : Int) == (d.out : Int)))) && (((c.inn : Int) == (d.inn : Int)))) && ((((c.tsn : Int) : Int) == ((d.tsn : Int) : Int)))) && ((decide (c.rand = d.rand)))) && ((decide (c.addrs = d.addrs)))) && ((decide (c.info = d.info)))))) (.pointer (some ⟨w1.heap.size, 16, none⟩)) wx (r (.tmp 76)) := h1
      intro gb hgb
      refine guard_u (C := ((((((((((((c.kind : Int) == (d.kind : Int)) && ((samePB c d))) && ((((c.tag : Int) : Int) == ((d.tag : Int) : Int)))) && (((c.win : Int) == (d.win : Int)))) && (((c.out : Int) == (d.out : Int)))) && (((c.inn : Int) == (d.inn : Int)))) && ((((c.tsn : Int) : Int) == ((d.tsn : Int) : Int)))) && ((decide (c.rand = d.rand)))) && ((decide (c.addrs = d.addrs)))) && ((decide (c.info = d.info)))))) (b := (((((((((((c.kind : Int) == (d.kind : Int)) && ((samePB c d))) && ((((c.tag : Int) : Int) == ((d.tag : Int) : Int)))) && (((c.win : Int) == (d.win : Int)))) && (((c.out : Int) == (d.out : Int)))) && (((c.inn : Int) == (d.inn : Int)))) && ((((c.tsn : Int) : Int) == ((d.tsn : Int) : Int)))) && ((decide (c.rand = d.rand)))) && ((decide (c.addrs = d.addrs)))) && ((decide (c.info = d.info))))) (want := true) hgb (want_t _) (fun hc => ?_) (fun hc => under_no hc)
      replace h1 := h1.get hc
      exact give_of (exec_get oneSG rfl h1 (cv16 (hb2.ext hR))) ⟨Ext.refl _, under_yes hc⟩
    refine GoodAll.cons ?_ ?_
    · intro r wx hR hx
      obtain ⟨h1, h2, h3, _⟩ := hx
      replace h1 : r (.func 58) = .func (.func 58) #[] #[] := h1
      replace h2 : Under (((((((((((((c.kind : Int) == (d.kind : Int)) && ((samePB c d))) && ((((c.tag : Int) : Int) == ((d.tag : Int) : Int)))) && (((c.win : Int) == (d.win : Int)))) && (((c.out : Int) == (d.out : Int)))) && (((c.inn : Int) == (d.inn : Int)))) && ((((c.tsn : Int) : Int) == ((d.tsn : Int) : Int)))) && ((decide (c.rand = d.rand)))) && ((decide (c.addrs = d.addrs)))) && ((decide (c.info = d.info)))))) (.slice s.gA s.gN s.gC) wx (r (.tmp 75)) := h2
      replace h3 : Under (((((((((((((c.kind : Int) == (d.kind : Int)) && ((samePB c d))) && ((((c.tag : Int) : Int) == ((d.tag : Int) : Int)))) && (((c.win : Int) == (d.win : Int)))) && (((c.out : Int) == (d.out : Int)))) && (((c.inn : Int) == (d.inn : Int)))) && ((((c.tsn : Int) : Int) == ((d.tsn : Int) : Int)))) && ((decide (c.rand = d.rand)))) && ((decide (c.addrs = d.addrs)))) && ((decide (c.info = d.info)))))) (.slice u.gA u.gN u.gC) wx (r (.tmp 77)) := h3
      intro gb hgb
      refine guard_u (C := ((((((((((((c.kind : Int) == (d.kind : Int)) && ((samePB c d))) && ((((c.tag : Int) : Int) == ((d.tag : Int) : Int)))) && (((c.win : Int) == (d.win : Int)))) && (((c.out : Int) == (d.out : Int)))) && (((c.inn : Int) == (d.inn : Int)))) && ((((c.tsn : Int) : Int) == ((d.tsn : Int) : Int)))) && ((decide (c.rand = d.rand)))) && ((decide (c.addrs = d.addrs)))) && ((decide (c.info = d.info)))))) (b := (((((((((((c.kind : Int) == (d.kind : Int)) && ((samePB c d))) && ((((c.tag : Int) : Int) == ((d.tag : Int) : Int)))) && (((c.win : Int) == (d.win : Int)))) && (((c.out : Int) == (d.out : Int)))) && (((c.inn : Int) == (d.inn : Int)))) && ((((c.tsn : Int) : Int) == ((d.tsn : Int) : Int)))) && ((decide (c.rand = d.rand)))) && ((decide (c.addrs = d.addrs)))) && ((decide (c.info = d.info))))) (want := true) hgb (want_t _) (fun hc => ?_) (fun hc => under_no hc)
      replace h2 := h2.get hc
      replace h3 := h3.get hc
      refine give_func #[.slice s.gA s.gN s.gC, .slice u.gA u.gN u.gC] rfl h1 Try.call58 (by simp [h2, h3]) ?_
      refine (eqG_any (HA.g.ext hR) (HB.g.ext hR)).mono ?_
      rintro e wz ⟨rfl, hez⟩
      exact ⟨_, rfl, hez, under_yes hc⟩
    refine GoodAll.cons ?_ ?_
    · intro r wx hR hx
      obtain ⟨h1, h2, h3, _⟩ := hx
      replace h1 : r (.tmp 73) = .bool (((((((((((c.kind : Int) == (d.kind : Int)) && ((samePB c d))) && ((((c.tag : Int) : Int) == ((d.tag : Int) : Int)))) && (((c.win : Int) == (d.win : Int)))) && (((c.out : Int) == (d.out : Int)))) && (((c.inn : Int) == (d.inn : Int)))) && ((((c.tsn : Int) : Int) == ((d.tsn : Int) : Int)))) && ((decide (c.rand = d.rand)))) && ((decide (c.addrs = d.addrs)))) && ((decide (c.info = d.info)))) := h1
      replace h2 : Under (((((((((((((c.kind : Int) == (d.kind : Int)) && ((samePB c d))) && ((((c.tag : Int) : Int) == ((d.tag : Int) : Int)))) && (((c.win : Int) == (d.win : Int)))) && (((c.out : Int) == (d.out : Int)))) && (((c.inn : Int) == (d.inn : Int)))) && ((((c.tsn : Int) : Int) == ((d.tsn : Int) : Int)))) && ((decide (c.rand = d.rand)))) && ((decide (c.addrs = d.addrs)))) && ((decide (c.info = d.info)))))) (.bool (decide (c.gaps = d.gaps))) wx (r (.tmp 78)) := h2
      replace h3 : r (.const (.bool false)) = .bool false := h3
      exact give_and rfl h3 h1 (fun hb => h2.get (by first | exact hb | (rw [hc, hb]; rfl) | (rw [hb]; rfl))) ⟨Ext.refl _, rfl⟩
    refine GoodAll.cons ?_ ?_
    · intro r wx hR hx
      obtain ⟨h1, _⟩ := hx
      replace h1 : r (.tmp 79) = .bool ((((((((((((c.kind : Int) == (d.kind : Int)) && ((samePB c d))) && ((((c.tag : Int) : Int) == ((d.tag : Int) : Int)))) && (((c.win : Int) == (d.win : Int)))) && (((c.out : Int) == (d.out : Int)))) && (((c.inn : Int) == (d.inn : Int)))) && ((((c.tsn : Int) : Int) == ((d.tsn : Int) : Int)))) && ((decide (c.rand = d.rand)))) && ((decide (c.addrs = d.addrs)))) && ((decide (c.info = d.info)))) && ((decide (c.gaps = d.gaps)))) := h1
      exact give_move (.inl rfl) ⟨Ext.refl _, h1⟩
    refine GoodAll.cons ?_ ?_
    · intro r wx hR hx
      obtain ⟨h1, _⟩ := hx
      replace h1 : r (.tmp 2) = .pointer (some ⟨w.heap.size, 0, none⟩) := h1
      intro gb hgb
      refine guard_u (C := (((((((((((((c.kind : Int) == (d.kind : Int)) && ((samePB c d))) && ((((c.tag : Int) : Int) == ((d.tag : Int) : Int)))) && (((c.win : Int) == (d.win : Int)))) && (((c.out : Int) == (d.out : Int)))) && (((c.inn : Int) == (d.inn : Int)))) && ((((c.tsn : Int) : Int) == ((d.tsn : Int) : Int)))) && ((decide (c.rand = d.rand)))) && ((decide (c.addrs = d.addrs)))) && ((decide (c.info = d.info)))) && ((decide (c.gaps = d.gaps)))))) (b := ((((((((((((c.kind : Int) == (d.kind : Int)) && ((samePB c d))) && ((((c.tag : Int) : Int) == ((d.tag : Int) : Int)))) && (((c.win : Int) == (d.win : Int)))) && (((c.out : Int) == (d.out : Int)))) && (((c.inn : Int) == (d.inn : Int)))) && ((((c.tsn : Int) : Int) == ((d.tsn : Int) : Int)))) && ((decide (c.rand = d.rand)))) && ((decide (c.addrs = d.addrs)))) && ((decide (c.info = d.info)))) && ((decide (c.gaps = d.gaps))))) (want := true) hgb (want_t _) (fun hc => ?_) (fun hc => under_no hc)
      exact give_of (by simp [execOp, h1, go_sem]) ⟨Ext.refl _, under_yes hc⟩
    refine GoodAll.cons ?_ ?_
    · intro r wx hR hx
      obtain ⟨h1, _⟩ := hx
      replace h1 : Under ((((((((((((((c.kind : Int) == (d.kind : Int)) && ((samePB c d))) && ((((c.tag : Int) : Int) == ((d.tag : Int) : Int)))) && (((c.win : Int) == (d.win : Int)))) && (((c.out : Int) == (d.out : Int)))) && (((c.inn : Int) == (d.inn : Int)))) && ((((c.tsn : Int) : Int) == ((d.tsn : Int) : Int)))) && ((decide (c.rand = d.rand)))) && ((decide (c.addrs = d.addrs)))) && ((decide (c.info = d.info)))) && ((decide (c.gaps = d.gaps)))))) (.pointer (some ⟨w.heap.size, 17, none⟩)) wx (r (.tmp 81)) := h1
      intro gb hgb
      refine guard_u (C := (((((((((((((c.kind : Int) == (d.kind : Int)) && ((samePB c d))) && ((((c.tag : Int) : Int) == ((d.tag : Int) : Int)))) && (((c.win : Int) == (d.win : Int)))) && (((c.out : Int) == (d.out : Int)))) && (((c.inn : Int) == (d.inn : Int)))) && ((((c.tsn : Int) : Int) == ((d.tsn : Int) : Int)))) && ((decide (c.rand = d.rand)))) && ((decide (c.addrs = d.addrs)))) && ((decide (c.info = d.info)))) && ((decide (c.gaps = d.gaps)))))) (b := ((((((((((((c.kind : Int) == (d.kind : Int)) && ((samePB c d))) && ((((c.tag : Int) : Int) == ((d.tag : Int) : Int)))) && (((c.win : Int) == (d.win : Int)))) && (((c.out : Int) == (d.out : Int)))) && (((c.inn : Int) == (d.inn : Int)))) && ((((c.tsn : Int) : Int) == ((d.tsn : Int) : Int)))) && ((decide (c.rand = d.rand)))) && ((decide (c.addrs = d.addrs)))) && ((decide (c.info = d.info)))) && ((decide (c.gaps = d.gaps))))) (want := true) hgb (want_t _) (fun hc => ?_) (fun hc => under_no hc)
      replace h1 := h1.get hc
      exact give_of (exec_get oneSD rfl h1 (cv17 (hb1'.ext hR))) ⟨Ext.refl _, under_yes hc⟩
    refine GoodAll.cons ?_ ?_
    · intro r wx hR hx
      obtain ⟨h1, _⟩ := hx
      replace h1 : r (.tmp 3) = .pointer (some ⟨w1.heap.size, 0, none⟩) := h1
      intro gb hgb
      refine guard_u (C := (((((((((((((c.kind : Int) == (d.kind : Int)) && ((samePB c d))) && ((((c.tag : Int) : Int) == ((d.tag : Int) : Int)))) && (((c.win : Int) == (d.win : Int)))) && (((c.out : Int) == (d.out : Int)))) && (((c.inn : Int) == (d.inn : Int)))) && ((((c.tsn : Int) : Int) == ((d.tsn : Int) : Int)))) && ((decide (c.rand = d.rand)))) && ((decide (c.addrs = d.addrs)))) && ((decide (c.info = d.info)))) && ((decide (c.gaps = d.gaps)))))) (b := ((((((((((((c.kind : Int) == (d.kind : Int)) && ((samePB c d))) && ((((c.tag : Int) : Int) == ((d.tag : Int) : Int)))) && (((c.win : Int) == (d.win : Int)))) && (((c.out : Int) == (d.out : Int)))) && (((c.inn : Int) == (d.inn : Int)))) && ((((c.tsn : Int) : Int) == ((d.tsn : Int) : Int)))) && ((decide (c.rand = d.rand)))) && ((decide (c.addrs = d.addrs)))) && ((decide (c.info = d.info)))) && ((decide (c.gaps = d.gaps))))) (want := true) hgb (want_t _) (fun hc => ?_) (fun hc => under_no hc)
      exact give_of (by simp [execOp, h1, go_sem]) ⟨Ext.refl _, under_yes hc⟩
    refine GoodAll.cons ?_ ?_
    · intro r wx hR hx
      obtain ⟨h1, _⟩ := hx
      replace h1 : Under ((((((((((((((c.kind : Int) == (d.kind : Int)) && ((samePB c d))) && ((((c.tag : Int) : Int) == ((d.tag : Int) : Int)))) && (((c.win : Int) == (d.win : Int)))) && (((c.out : Int) == (d.out : Int)))) && (((c.inn : Int) == (d.inn : Int)))) && ((((c.tsn : Int) : Int) == ((d.tsn : Int) : Int)))) && ((decide (c.rand = d.rand)))) && ((decide (c.addrs = d.addrs)))) && ((decide (c.info = d.info)))) && ((decide (c.gaps = d.gaps)))))) (.pointer (some ⟨w1.heap.size, 17, none⟩)) wx (r (.tmp 83)) := h1
      intro gb hgb
      refine guard_u (C := (((((((((((((c.kind : Int) == (d.kind : Int)) && ((samePB c d))) && ((((c.tag : Int) : Int) == ((d.tag : Int) : Int)))) && (((c.win : Int) == (d.win : Int)))) && (((c.out : Int) == (d.out : Int)))) && (((c.inn : Int) == (d.inn : Int)))) && ((((c.tsn : Int) : Int) == ((d.tsn : Int) : Int)))) && ((decide (c.rand = d.rand)))) && ((decide (c.addrs = d.addrs)))) && ((decide (c.info = d.info)))) && ((decide (c.gaps = d.gaps)))))) (b := ((((((((((((c.kind : Int) == (d.kind : Int)) && ((samePB c d))) && ((((c.tag : Int) : Int) == ((d.tag : Int) : Int)))) && (((c.win : Int) == (d.win : Int)))) && (((c.out : Int) == (d.out : Int)))) && (((c.inn : Int) == (d.inn : Int)))) && ((((c.tsn : Int) : Int) == ((d.tsn : Int) : Int)))) && ((decide (c.rand = d.rand)))) && ((decide (c.addrs = d.addrs)))) && ((decide (c.info = d.info)))) && ((decide (c.gaps = d.gaps))))) (want := true) hgb (want_t _) (fun hc => ?_) (fun hc => under_no hc)
      replace h1 := h1.get hc
      exact give_of (exec_get oneSD rfl h1 (cv17 (hb2.ext hR))) ⟨Ext.refl _, under_yes hc⟩
    refine GoodAll.cons ?_ ?_
    · intro r wx hR hx
      obtain ⟨h1, h2, h3, _⟩ := hx
      replace h1 : r (.func 59) = .func (.func 59) #[] #[] := h1
      replace h2 : Under ((((((((((((((c.kind : Int) == (d.kind : Int)) && ((samePB c d))) && ((((c.tag : Int) : Int) == ((d.tag : Int) : Int)))) && (((c.win : Int) == (d.win : Int)))) && (((c.out : Int) == (d.out : Int)))) && (((c.inn : Int) == (d.inn : Int)))) && ((((c.tsn : Int) : Int) == ((d.tsn : Int) : Int)))) && ((decide (c.rand = d.rand)))) && ((decide (c.addrs = d.addrs)))) && ((decide (c.info = d.info)))) && ((decide (c.gaps = d.gaps)))))) (.slice s.dA s.dN s.dC) wx (r (.tmp 82)) := h2
      replace h3 : Under ((((((((((((((c.kind : Int) == (d.kind : Int)) && ((samePB c d))) && ((((c.tag : Int) : Int) == ((d.tag : Int) : Int)))) && (((c.win : Int) == (d.win : Int)))) && (((c.out : Int) == (d.out : Int)))) && (((c.inn : Int) == (d.inn : Int)))) && ((((c.tsn : Int) : Int) == ((d.tsn : Int) : Int)))) && ((decide (c.rand = d.rand)))) && ((decide (c.addrs = d.addrs)))) && ((decide (c.info = d.info)))) && ((decide (c.gaps = d.gaps)))))) (.slice u.dA u.dN u.dC) wx (r (.tmp 84)) := h3
      intro gb hgb
      refine guard_u (C := (((((((((((((c.kind : Int) == (d.kind : Int)) && ((samePB c d))) && ((((c.tag : Int) : Int) == ((d.tag : Int) : Int)))) && (((c.win : Int) == (d.win : Int)))) && (((c.out : Int) == (d.out : Int)))) && (((c.inn : Int) == (d.inn : Int)))) && ((((c.tsn : Int) : Int) == ((d.tsn : Int) : Int)))) && ((decide (c.rand = d.rand)))) && ((decide (c.addrs = d.addrs)))) && ((decide (c.info = d.info)))) && ((decide (c.gaps = d.gaps)))))) (b := ((((((((((((c.kind : Int) == (d.kind : Int)) && ((samePB c d))) && ((((c.tag : Int) : Int) == ((d.tag : Int) : Int)))) && (((c.win : Int) == (d.win : Int)))) && (((c.out : Int) == (d.out : Int)))) && (((c.inn : Int) == (d.inn : Int)))) && ((((c.tsn : Int) : Int) == ((d.tsn : Int) : Int)))) && ((decide (c.rand = d.rand)))) && ((decide (c.addrs = d.addrs)))) && ((decide (c.info = d.info)))) && ((decide (c.gaps = d.gaps))))) (want := true) hgb (want_t _) (fun hc => ?_) (fun hc => under_no hc)
      replace h2 := h2.get hc
      replace h3 := h3.get hc
      refine give_func #[.slice s.dA s.dN s.dC, .slice u.dA u.dN u.dC] rfl h1 Try.call59 (by simp [h2, h3]) ?_
      refine (eqD_any (HA.d.ext hR) (HB.d.ext hR)).mono ?_
      rintro e wz ⟨rfl, hez⟩
      exact ⟨_, rfl, hez, under_yes hc⟩
    refine GoodAll.cons ?_ ?_
    · intro r wx hR hx
      obtain ⟨h1, h2, h3, _⟩ := hx
      replace h1 : r (.tmp 80) = .bool ((((((((((((c.kind : Int) == (d.kind : Int)) && ((samePB c d))) && ((((c.tag : Int) : Int) == ((d.tag : Int) : Int)))) && (((c.win : Int) == (d.win : Int)))) && (((c.out : Int) == (d.out : Int)))) && (((c.inn : Int) == (d.inn : Int)))) && ((((c.tsn : Int) : Int) == ((d.tsn : Int) : Int)))) && ((decide (c.rand = d.rand)))) && ((decide (c.addrs = d.addrs)))) && ((decide (c.info = d.info)))) && ((decide (c.gaps = d.gaps)))) := h1
      replace h2 : Under ((((((((((((((c.kind : Int) == (d.kind : Int)) && ((samePB c d))) && ((((c.tag : Int) : Int) == ((d.tag : Int) : Int)))) && (((c.win : Int) == (d.win : Int)))) && (((c.out : Int) == (d.out : Int)))) && (((c.inn : Int) == (d.inn : Int)))) && ((((c.tsn : Int) : Int) == ((d.tsn : Int) : Int)))) && ((decide (c.rand = d.rand)))) && ((decide (c.addrs = d.addrs)))) && ((decide (c.info = d.info)))) && ((decide (c.gaps = d.gaps)))))) (.bool (decide (ci c.dups = ci d.dups))) wx (r (.tmp 85)) := h2
      replace h3 : r (.const (.bool false)) = .bool false := h3
      exact give_and rfl h3 h1 (fun hb => h2.get (by first | exact hb | (rw [hc, hb]; rfl) | (rw [hb]; rfl))) ⟨Ext.refl _, rfl⟩
    refine GoodAll.cons ?_ ?_
    · intro r wx hR hx
      obtain ⟨h1, _⟩ := hx
      replace h1 : r (.tmp 86) = .bool (((((((((((((c.kind : Int) == (d.kind : Int)) && ((samePB c d))) && ((((c.tag : Int) : Int) == ((d.tag : Int) : Int)))) && (((c.win : Int) == (d.win : Int)))) && (((c.out : Int) == (d.out : Int)))) && (((c.inn : Int) == (d.inn : Int)))) && ((((c.tsn : Int) : Int) == ((d.tsn : Int) : Int)))) && ((decide (c.rand = d.rand)))) && ((decide (c.addrs = d.addrs)))) && ((decide (c.info = d.info)))) && ((decide (c.gaps = d.gaps)))) && ((decide (ci c.dups = ci d.dups)))) := h1
      exact give_move (.inl rfl) ⟨Ext.refl _, h1⟩
    refine GoodAll.cons ?_ ?_
    · intro r wx hR hx
      obtain ⟨h1, _⟩ := hx
      replace h1 : r (.tmp 2) = .pointer (some ⟨w.heap.size, 0, none⟩) := h1
      intro gb hgb
      refine guard_u (C := ((((((((((((((c.kind : Int) == (d.kind : Int)) && ((samePB c d))) && ((((c.tag : Int) : Int) == ((d.tag : Int) : Int)))) && (((c.win : Int) == (d.win : Int)))) && (((c.out : Int) == (d.out : Int)))) && (((c.inn : Int) == (d.inn : Int)))) && ((((c.tsn : Int) : Int) == ((d.tsn : Int) : Int)))) && ((decide (c.rand = d.rand)))) && ((decide (c.addrs = d.addrs)))) && ((decide (c.info = d.info)))) && ((decide (c.gaps = d.gaps)))) && ((decide (ci c.dups = ci d.dups)))))) (b := (((((((((((((c.kind : Int) == (d.kind : Int)) && ((samePB c d))) && ((((c.tag : Int) : Int) == ((d.tag : Int) : Int)))) && (((c.win : Int) == (d.win : Int)))) && (((c.out : Int) == (d.out : Int)))) && (((c.inn : Int) == (d.inn : Int)))) && ((((c.tsn : Int) : Int) == ((d.tsn : Int) : Int)))) && ((decide (c.rand = d.rand)))) && ((decide (c.addrs = d.addrs)))) && ((decide (c.info = d.info)))) && ((decide (c.gaps = d.gaps)))) && ((decide (ci c.dups = ci d.dups))))) (want := true) hgb (want_t _) (fun hc => ?_) (fun hc => under_no hc)
      exact give_of (by simp [execOp, h1, go_sem]) ⟨Ext.refl _, under_yes hc⟩
    refine GoodAll.cons ?_ ?_
    · intro r wx hR hx
      obtain ⟨h1, _⟩ := hx
      replace h1 : Under (((((((((((((((c.kind : Int) == (d.kind : Int)) && ((samePB c d))) && ((((c.tag : Int) : Int) == ((d.tag : Int) : Int)))) && (((c.win : Int) == (d.win : Int)))) && (((c.out : Int) == (d.out : Int)))) && (((c.inn : Int) == (d.inn : Int)))) && ((((c.tsn : Int) : Int) == ((d.tsn : Int) : Int)))) && ((decide (c.rand = d.rand)))) && ((decide (c.addrs = d.addrs)))) && ((decide (c.info = d.info)))) && ((decide (c.gaps = d.gaps)))) && ((decide (ci c.dups = ci d.dups)))))) (.pointer (some ⟨w.heap.size, 18, none⟩)) wx (r (.tmp 88)) := h1
      intro gb hgb
      refine guard_u (C := ((((((((((((((c.kind : Int) == (d.kind : Int)) && ((samePB c d))) && ((((c.tag : Int) : Int) == ((d.tag : Int) : Int)))) && (((c.win : Int) == (d.win : Int)))) && (((c.out : Int) == (d.out : Int)))) && (((c.inn : Int) == (d.inn : Int)))) && ((((c.tsn : Int) : Int) == ((d.tsn : Int) : Int)))) && ((decide (c.rand = d.rand)))) && ((decide (c.addrs = d.addrs)))) && ((decide (c.info = d.info)))) && ((decide (c.gaps = d.gaps)))) && ((decide (ci c.dups = ci d.dups)))))) (b := (((((((((((((c.kind : Int) == (d.kind : Int)) && ((samePB c d))) && ((((c.tag : Int) : Int) == ((d.tag : Int) : Int)))) && (((c.win : Int) == (d.win : Int)))) && (((c.out : Int) == (d.out : Int)))) && (((c.inn : Int) == (d.inn : Int)))) && ((((c.tsn : Int) : Int) == ((d.tsn : Int) : Int)))) && ((decide (c.rand = d.rand)))) && ((decide (c.addrs = d.addrs)))) && ((decide (c.info = d.info)))) && ((decide (c.gaps = d.gaps)))) && ((decide (ci c.dups = ci d.dups))))) (want := true) hgb (want_t _) (fun hc => ?_) (fun hc => under_no hc)
      replace h1 := h1.get hc
      exact give_of (exec_get one3 rfl h1 (cv18 (hb1'.ext hR))) ⟨Ext.refl _, under_yes hc⟩
    refine GoodAll.cons ?_ ?_
    · intro r wx hR hx
      obtain ⟨h1, _⟩ := hx
      replace h1 : r (.tmp 3) = .pointer (some ⟨w1.heap.size, 0, none⟩) := h1
      intro gb hgb
      refine guard_u (C := ((((((((((((((c.kind : Int) == (d.kind : Int)) && ((samePB c d))) && ((((c.tag : Int) : Int) == ((d.tag : Int) : Int)))) && (((c.win : Int) == (d.win : Int)))) && (((c.out : Int) == (d.out : Int)))) && (((c.inn : Int) == (d.inn : Int)))) && ((((c.tsn : Int) : Int) == ((d.tsn : Int) : Int)))) && ((decide (c.rand = d.rand)))) && ((decide (c.addrs = d.addrs)))) && ((decide (c.info = d.info)))) && ((decide (c.gaps = d.gaps)))) && ((decide (ci c.dups = ci d.dups)))))) (b := (((((((((((((c.kind : Int) == (d.kind : Int)) && ((samePB c d))) && ((((c.tag : Int) : Int) == ((d.tag : Int) : Int)))) && (((c.win : Int) == (d.win : Int)))) && (((c.out : Int) == (d.out : Int)))) && (((c.inn : Int) == (d.inn : Int)))) && ((((c.tsn : Int) : Int) == ((d.tsn : Int) : Int)))) && ((decide (c.rand = d.rand)))) && ((decide (c.addrs = d.addrs)))) && ((decide (c.info = d.info)))) && ((decide (c.gaps = d.gaps)))) && ((decide (ci c.dups = ci d.dups))))) (want := true) hgb (want_t _) (fun hc => ?_) (fun hc => under_no hc)
      exact give_of (by simp [execOp, h1, go_sem]) ⟨Ext.refl _, under_yes hc⟩
    refine GoodAll.cons ?_ ?_
    · intro r wx hR hx
      obtain ⟨h1, _⟩ := hx
      replace h1 : Under (((((((((((((((c.kind : Int) == (d.kind : Int)) && ((samePB c d))) && ((((c.tag : Int) : Int) == ((d.tag : Int) : Int)))) && (((c.win : Int) == (d.win : Int)))) && (((c.out : Int) == (d.out : Int)))) && (((c.inn : Int) == (d.inn : Int)))) && ((((c.tsn : Int) : Int) == ((d.tsn : Int) : Int)))) && ((decide (c.rand = d.rand)))) && ((decide (c.addrs = d.addrs)))) && ((decide (c.info = d.info)))) && ((decide (c.gaps = d.gaps)))) && ((decide (ci c.dups = ci d.dups)))))) (.pointer (some ⟨w1.heap.size, 18, none⟩)) wx (r (.tmp 90)) := h1
      intro gb hgb
      refine guard_u (C := ((((((((((((((c.kind : Int) == (d.kind : Int)) && ((samePB c d))) && ((((c.tag : Int) : Int) == ((d.tag : Int) : Int)))) && (((c.win : Int) == (d.win : Int)))) && (((c.out : Int) == (d.out : Int)))) && (((c.inn : Int) == (d.inn : Int)))) && ((((c.tsn : Int) : Int) == ((d.tsn : Int) : Int)))) && ((decide (c.rand = d.rand)))) && ((decide (c.addrs = d.addrs)))) && ((decide (c.info = d.info)))) && ((decide (c.gaps = d.gaps)))) && ((decide (ci c.dups = ci d.dups)))))) (b := (((((((((((((c.kind : Int) == (d.kind : Int)) && ((samePB c d))) && ((((c.tag : Int) : Int) == ((d.tag : Int) : Int)))) && (((c.win : Int) == (d.win : Int)))) && (((c.out : Int) == (d.out : Int)))) && (((c.inn : Int) == (d.inn : Int)))) && ((((c.tsn : Int) : Int) == ((d.tsn : Int) : Int)))) && ((decide (c.rand = d.rand)))) && ((decide (c.addrs = d.addrs)))) && ((decide (c.info = d.info)))) && ((decide (c.gaps = d.gaps)))) && ((decide (ci c.dups = ci d.dups))))) (want := true) hgb (want_t _) (fun hc => ?_) (fun hc => under_no hc)
      replace h1 := h1.get hc
      exact give_of (exec_get one3 rfl h1 (cv18 (hb2.ext hR))) ⟨Ext.refl _, under_yes hc⟩
    refine GoodAll.cons ?_ ?_
    · intro r wx hR hx
      obtain ⟨h1, h2, _⟩ := hx
      replace h1 : Under (((((((((((((((c.kind : Int) == (d.kind : Int)) && ((samePB c d))) && ((((c.tag : Int) : Int) == ((d.tag : Int) : Int)))) && (((c.win : Int) == (d.win : Int)))) && (((c.out : Int) == (d.out : Int)))) && (((c.inn : Int) == (d.inn : Int)))) && ((((c.tsn : Int) : Int) == ((d.tsn : Int) : Int)))) && ((decide (c.rand = d.rand)))) && ((decide (c.addrs = d.addrs)))) && ((decide (c.info = d.info)))) && ((decide (c.gaps = d.gaps)))) && ((decide (ci c.dups = ci d.dups)))))) (.int .i64 c.cause) wx (r (.tmp 89)) := h1
      replace h2 : Under (((((((((((((((c.kind : Int) == (d.kind : Int)) && ((samePB c d))) && ((((c.tag : Int) : Int) == ((d.tag : Int) : Int)))) && (((c.win : Int) == (d.win : Int)))) && (((c.out : Int) == (d.out : Int)))) && (((c.inn : Int) == (d.inn : Int)))) && ((((c.tsn : Int) : Int) == ((d.tsn : Int) : Int)))) && ((decide (c.rand = d.rand)))) && ((decide (c.addrs = d.addrs)))) && ((decide (c.info = d.info)))) && ((decide (c.gaps = d.gaps)))) && ((decide (ci c.dups = ci d.dups)))))) (.int .i64 d.cause) wx (r (.tmp 91)) := h2
      intro gb hgb
      refine guard_u (C := ((((((((((((((c.kind : Int) == (d.kind : Int)) && ((samePB c d))) && ((((c.tag : Int) : Int) == ((d.tag : Int) : Int)))) && (((c.win : Int) == (d.win : Int)))) && (((c.out : Int) == (d.out : Int)))) && (((c.inn : Int) == (d.inn : Int)))) && ((((c.tsn : Int) : Int) == ((d.tsn : Int) : Int)))) && ((decide (c.rand = d.rand)))) && ((decide (c.addrs = d.addrs)))) && ((decide (c.info = d.info)))) && ((decide (c.gaps = d.gaps)))) && ((decide (ci c.dups = ci d.dups)))))) (b := (((((((((((((c.kind : Int) == (d.kind : Int)) && ((samePB c d))) && ((((c.tag : Int) : Int) == ((d.tag : Int) : Int)))) && (((c.win : Int) == (d.win : Int)))) && (((c.out : Int) == (d.out : Int)))) && (((c.inn : Int) == (d.inn : Int)))) && ((((c.tsn : Int) : Int) == ((d.tsn : Int) : Int)))) && ((decide (c.rand = d.rand)))) && ((decide (c.addrs = d.addrs)))) && ((decide (c.info = d.info)))) && ((decide (c.gaps = d.gaps)))) && ((decide (ci c.dups = ci d.dups))))) (want := true) hgb (want_t _) (fun hc => ?_) (fun hc => under_no hc)
      replace h1 := h1.get hc
      replace h2 := h2.get hc
      exact give_of (by simp [execOp, h1, h2, go_sem]) ⟨Ext.refl _, under_yes hc⟩
    refine GoodAll.cons ?_ ?_
    · intro r wx hR hx
      obtain ⟨h1, h2, h3, _⟩ := hx
      replace h1 : r (.tmp 87) = .bool (((((((((((((c.kind : Int) == (d.kind : Int)) && ((samePB c d))) && ((((c.tag : Int) : Int) == ((d.tag : Int) : Int)))) && (((c.win : Int) == (d.win : Int)))) && (((c.out : Int) == (d.out : Int)))) && (((c.inn : Int) == (d.inn : Int)))) && ((((c.tsn : Int) : Int) == ((d.tsn : Int) : Int)))) && ((decide (c.rand = d.rand)))) && ((decide (c.addrs = d.addrs)))) && ((decide (c.info = d.info)))) && ((decide (c.gaps = d.gaps)))) && ((decide (ci c.dups = ci d.dups)))) := h1
      replace h2 : Under (((((((((((((((c.kind : Int) == (d.kind : Int)) && ((samePB c d))) && ((((c.tag : Int) : Int) == ((d.tag : Int) : Int)))) && (((c.win : Int) == (d.win : Int)))) && (((c.out : Int) == (d.out : Int)))) && (((c.inn : Int) == (d.inn : Int)))) && ((((c.tsn : Int) : Int) == ((d.tsn : Int) : Int)))) && ((decide (c.rand = d.rand)))) && ((decide (c.addrs = d.addrs)))) && ((decide (c.info = d.info)))) && ((decide (c.gaps = d.gaps)))) && ((decide (ci c.dups = ci d.dups)))))) (.bool ((c.cause : Int) == (d.cause : Int))) wx (r (.tmp 92)) := h2
      replace h3 : r (.const (.bool false)) = .bool false := h3
      exact give_and rfl h3 h1 (fun hb => h2.get (by first | exact hb | (rw [hc, hb]; rfl) | (rw [hb]; rfl))) ⟨Ext.refl _, rfl⟩
    refine GoodAll.cons ?_ ?_
    · intro r wx hR hx
      obtain ⟨h1, _⟩ := hx
      replace h1 : r (.tmp 93) = .bool ((((((((((((((c.kind : Int) == (d.kind : Int)) && ((samePB c d))) && ((((c.tag : Int) : Int) == ((d.tag : Int) : Int)))) && (((c.win : Int) == (d.win : Int)))) && (((c.out : Int) == (d.out : Int)))) && (((c.inn : Int) == (d.inn : Int)))) && ((((c.tsn : Int) : Int) == ((d.tsn : Int) : Int)))) && ((decide (c.rand = d.rand)))) && ((decide (c.addrs = d.addrs)))) && ((decide (c.info = d.info)))) && ((decide (c.gaps = d.gaps)))) && ((decide (ci c.dups = ci d.dups)))) && (((c.cause : Int) == (d.cause : Int)))) := h1
      exact give_move (.inl rfl) ⟨Ext.refl _, h1⟩
    refine GoodAll.cons ?_ ?_
    · intro r wx hR hx
      obtain ⟨h1, _⟩ := hx
      replace h1 : r (.tmp 2) = .pointer (some ⟨w.heap.size, 0, none⟩) := h1
      intro gb hgb
      refine guard_u (C := (((((((((((((((c.kind : Int) == (d.kind : Int)) && ((samePB c d))) && ((((c.tag : Int) : Int) == ((d.tag : Int) : Int)))) && (((c.win : Int) == (d.win : Int)))) && (((c.out : Int) == (d.out : Int)))) && (((c.inn : Int) == (d.inn : Int)))) && ((((c.tsn : Int) : Int) == ((d.tsn : Int) : Int)))) && ((decide (c.rand = d.rand)))) && ((decide (c.addrs = d.addrs)))) && ((decide (c.info = d.info)))) && ((decide (c.gaps = d.gaps)))) && ((decide (ci c.dups = ci d.dups)))) && (((c.cause : Int) == (d.cause : Int)))))) (b := ((((((((((((((c.kind : Int) == (d.kind : Int)) && ((samePB c d))) && ((((c.tag : Int) : Int) == ((d.tag : Int) : Int)))) && (((c.win : Int) == (d.win : Int)))) && (((c.out : Int) == (d.out : Int)))) && (((c.inn : Int) == (d.inn : Int)))) && ((((c.tsn : Int) : Int) == ((d.tsn : Int) : Int)))) && ((decide (c.rand = d.rand)))) && ((decide (c.addrs = d.addrs)))) && ((decide (c.info = d.info)))) && ((decide (c.gaps = d.gaps)))) && ((decide (ci c.dups = ci d.dups)))) && (((c.cause : Int) == (d.cause : Int))))) (want := true) hgb (want_t _) (fun hc => ?_) (fun hc => under_no hc)
      exact give_of (by simp [execOp, h1, go_sem]) ⟨Ext.refl _, under_yes hc⟩
    refine GoodAll.cons ?_ ?_
    · intro r wx hR hx
      obtain ⟨h1, _⟩ := hx
      replace h1 : Under ((((((((((((((((c.kind : Int) == (d.kind : Int)) && ((samePB c d))) && ((((c.tag : Int) : Int) == ((d.tag : Int) : Int)))) && (((c.win : Int) == (d.win : Int)))) && (((c.out : Int) == (d.out : Int)))) && (((c.inn : Int) == (d.inn : Int)))) && ((((c.tsn : Int) : Int) == ((d.tsn : Int) : Int)))) && ((decide (c.rand = d.rand)))) && ((decide (c.addrs = d.addrs)))) && ((decide (c.info = d.info)))) && ((decide (c.gaps = d.gaps)))) && ((decide (ci c.dups = ci d.dups)))) && (((c.cause : Int) == (d.cause : Int)))))) (.pointer (some ⟨w.heap.size, 19, none⟩)) wx (r (.tmp 95)) := h1
      intro gb hgb
      refine guard_u (C := (((((((((((((((c.kind : Int) == (d.kind : Int)) && ((samePB c d))) && ((((c.tag : Int) : Int) == ((d.tag : Int) : Int)))) && (((c.win : Int) == (d.win : Int)))) && (((c.out : Int) == (d.out : Int)))) && (((c.inn : Int) == (d.inn : Int)))) && ((((c.tsn : Int) : Int) == ((d.tsn : Int) : Int)))) && ((decide (c.rand = d.rand)))) && ((decide (c.addrs = d.addrs)))) && ((decide (c.info = d.info)))) && ((decide (c.gaps = d.gaps)))) && ((decide (ci c.dups = ci d.dups)))) && (((c.cause : Int) == (d.cause : Int)))))) (b := ((((((((((((((c.kind : Int) == (d.kind : Int)) && ((samePB c d))) && ((((c.tag : Int) : Int) == ((d.tag : Int) : Int)))) && (((c.win : Int) == (d.win : Int)))) && (((c.out : Int) == (d.out : Int)))) && (((c.inn : Int) == (d.inn : Int)))) && ((((c.tsn : Int) : Int) == ((d.tsn : Int) : Int)))) && ((decide (c.rand = d.rand)))) && ((decide (c.addrs = d.addrs)))) && ((decide (c.info = d.info)))) && ((decide (c.gaps = d.gaps)))) && ((decide (ci c.dups = ci d.dups)))) && (((c.cause : Int) == (d.cause : Int))))) (want := true) hgb (want_t _) (fun hc => ?_) (fun hc => under_no hc)
      replace h1 := h1.get hc
      exact give_of (exec_get one22 rfl h1 (cv19 (hb1'.ext hR))) ⟨Ext.refl _, under_yes hc⟩
    refine GoodAll.cons ?_ ?_
    · intro r wx hR hx
      obtain ⟨h1, _⟩ := hx
      replace h1 : r (.tmp 3) = .pointer (some ⟨w1.heap.size, 0, none⟩) := h1
      intro gb hgb
      refine guard_u (C := (((((((((((((((c.kind : Int) == (d.kind : Int)) && ((samePB c d))) && ((((c.tag : Int) : Int) == ((d.tag : Int) : Int)))) && (((c.win : Int) == (d.win : Int)))) && (((c.out : Int) == (d.out : Int)))) && (((c.inn : Int) == (d.inn : Int)))) && ((((c.tsn : Int) : Int) == ((d.tsn : Int) : Int)))) && ((decide (c.rand = d.rand)))) && ((decide (c.addrs = d.addrs)))) && ((decide (c.info = d.info)))) && ((decide (c.gaps = d.gaps)))) && ((decide (ci c.dups = ci d.dups)))) && (((c.cause : Int) == (d.cause : Int)))))) (b := ((((((((((((((c.kind : Int) == (d.kind : Int)) && ((samePB c d))) && ((((c.tag : Int) : Int) == ((d.tag : Int) : Int)))) && (((c.win : Int) == (d.win : Int)))) && (((c.out : Int) == (d.out : Int)))) && (((c.inn : Int) == (d.inn : Int)))) && ((((c.tsn : Int) : Int) == ((d.tsn : Int) : Int)))) && ((decide (c.rand = d.rand)))) && ((decide (c.addrs = d.addrs)))) && ((decide (c.info = d.info)))) && ((decide (c.gaps = d.gaps)))) && ((decide (ci c.dups = ci d.dups)))) && (((c.cause : Int) == (d.cause : Int))))) (want := true) hgb (want_t _) (fun hc => ?_) (fun hc => under_no hc)
      exact give_of (by simp [execOp, h1, go_sem]) ⟨Ext.refl _, under_yes hc⟩
    refine GoodAll.cons ?_ ?_
    · intro r wx hR hx
      obtain ⟨h1, _⟩ := hx
      replace h1 : Under ((((((((((((((((c.kind : Int) == (d.kind : Int)) && ((samePB c d))) && ((((c.tag : Int) : Int) == ((d.tag : Int) : Int)))) && (((c.win : Int) == (d.win : Int)))) && (((c.out : Int) == (d.out : Int)))) && (((c.inn : Int) == (d.inn : Int)))) && ((((c.tsn : Int) : Int) == ((d.tsn : Int) : Int)))) && ((decide (c.rand = d.rand)))) && ((decide (c.addrs = d.addrs)))) && ((decide (c.info = d.info)))) && ((decide (c.gaps = d.gaps)))) && ((decide (ci c.dups = ci d.dups)))) && (((c.cause : Int) == (d.cause : Int)))))) (.pointer (some ⟨w1.heap.size, 19, none⟩)) wx (r (.tmp 97)) := h1
      intro gb hgb
      refine guard_u (C := (((((((((((((((c.kind : Int) == (d.kind : Int)) && ((samePB c d))) && ((((c.tag : Int) : Int) == ((d.tag : Int) : Int)))) && (((c.win : Int) == (d.win : Int)))) && (((c.out : Int) == (d.out : Int)))) && (((c.inn : Int) == (d.inn : Int)))) && ((((c.tsn : Int) : Int) == ((d.tsn : Int) : Int)))) && ((decide (c.rand = d.rand)))) && ((decide (c.addrs = d.addrs)))) && ((decide (c.info = d.info)))) && ((decide (c.gaps = d.gaps)))) && ((decide (ci c.dups = ci d.dups)))) && (((c.cause : Int) == (d.cause : Int)))))) (b := ((((((((((((((c.kind : Int) == (d.kind : Int)) && ((samePB c d))) && ((((c.tag : Int) : Int) == ((d.tag : Int) : Int)))) && (((c.win : Int) == (d.win : Int)))) && (((c.out : Int) == (d.out : Int)))) && (((c.inn : Int) == (d.inn : Int)))) && ((((c.tsn : Int) : Int) == ((d.tsn : Int) : Int)))) && ((decide (c.rand = d.rand)))) && ((decide (c.addrs = d.addrs)))) && ((decide (c.info = d.info)))) && ((decide (c.gaps = d.gaps)))) && ((decide (ci c.dups = ci d.dups)))) && (((c.cause : Int) == (d.cause : Int))))) (want := true) hgb (want_t _) (fun hc => ?_) (fun hc => under_no hc)
      replace h1 := h1.get hc
      exact give_of (exec_get one22 rfl h1 (cv19 (hb2.ext hR))) ⟨Ext.refl _, under_yes hc⟩
    refine GoodAll.cons ?_ ?_
    · intro r wx hR hx
      obtain ⟨h1, h2, _⟩ := hx
      replace h1 : Under ((((((((((((((((c.kind : Int) == (d.kind : Int)) && ((samePB c d))) && ((((c.tag : Int) : Int) == ((d.tag : Int) : Int)))) && (((c.win : Int) == (d.win : Int)))) && (((c.out : Int) == (d.out : Int)))) && (((c.inn : Int) == (d.inn : Int)))) && ((((c.tsn : Int) : Int) == ((d.tsn : Int) : Int)))) && ((decide (c.rand = d.rand)))) && ((decide (c.addrs = d.addrs)))) && ((decide (c.info = d.info)))) && ((decide (c.gaps = d.gaps)))) && ((decide (ci c.dups = ci d.dups)))) && (((c.cause : Int) == (d.cause : Int)))))) (.int .u32 (c.serial : Int)) wx (r (.tmp 96)) := h1
      replace h2 : Under ((((((((((((((((c.kind : Int) == (d.kind : Int)) && ((samePB c d))) && ((((c.tag : Int) : Int) == ((d.tag : Int) : Int)))) && (((c.win : Int) == (d.win : Int)))) && (((c.out : Int) == (d.out : Int)))) && (((c.inn : Int) == (d.inn : Int)))) && ((((c.tsn : Int) : Int) == ((d.tsn : Int) : Int)))) && ((decide (c.rand = d.rand)))) && ((decide (c.addrs = d.addrs)))) && ((decide (c.info = d.info)))) && ((decide (c.gaps = d.gaps)))) && ((decide (ci c.dups = ci d.dups)))) && (((c.cause : Int) == (d.cause : Int)))))) (.int .u32 (d.serial : Int)) wx (r (.tmp 98)) := h2
      intro gb hgb
      refine guard_u (C := (((((((((((((((c.kind : Int) == (d.kind : Int)) && ((samePB c d))) && ((((c.tag : Int) : Int) == ((d.tag : Int) : Int)))) && (((c.win : Int) == (d.win : Int)))) && (((c.out : Int) == (d.out : Int)))) && (((c.inn : Int) == (d.inn : Int)))) && ((((c.tsn : Int) : Int) == ((d.tsn : Int) : Int)))) && ((decide (c.rand = d.rand)))) && ((decide (c.addrs = d.addrs)))) && ((decide (c.info = d.info)))) && ((decide (c.gaps = d.gaps)))) && ((decide (ci c.dups = ci d.dups)))) && (((c.cause : Int) == (d.cause : Int)))))) (b := ((((((((((((((c.kind : Int) == (d.kind : Int)) && ((samePB c d))) && ((((c.tag : Int) : Int) == ((d.tag : Int) : Int)))) && (((c.win : Int) == (d.win : Int)))) && (((c.out : Int) == (d.out : Int)))) && (((c.inn : Int) == (d.inn : Int)))) && ((((c.tsn : Int) : Int) == ((d.tsn : Int) : Int)))) && ((decide (c.rand = d.rand)))) && ((decide (c.addrs = d.addrs)))) && ((decide (c.info = d.info)))) && ((decide (c.gaps = d.gaps)))) && ((decide (ci c.dups = ci d.dups)))) && (((c.cause : Int) == (d.cause : Int))))) (want := true) hgb (want_t _) (fun hc => ?_) (fun hc => under_no hc)
      replace h1 := h1.get hc
      replace h2 := h2.get hc
      exact give_of (by simp [execOp, h1, h2, go_sem]) ⟨Ext.refl _, under_yes hc⟩
    refine GoodAll.cons ?_ ?_
    · intro r wx hR hx
      obtain ⟨h1, h2, h3, _⟩ := hx
      replace h1 : r (.tmp 94) = .bool ((((((((((((((c.kind : Int) == (d.kind : Int)) && ((samePB c d))) && ((((c.tag : Int) : Int) == ((d.tag : Int) : Int)))) && (((c.win : Int) == (d.win : Int)))) && (((c.out : Int) == (d.out : Int)))) && (((c.inn : Int) == (d.inn : Int)))) && ((((c.tsn : Int) : Int) == ((d.tsn : Int) : Int)))) && ((decide (c.rand = d.rand)))) && ((decide (c.addrs = d.addrs)))) && ((decide (c.info = d.info)))) && ((decide (c.gaps = d.gaps)))) && ((decide (ci c.dups = ci d.dups)))) && (((c.cause : Int) == (d.cause : Int)))) := h1
      replace h2 : Under ((((((((((((((((c.kind : Int) == (d.kind : Int)) && ((samePB c d))) && ((((c.tag : Int) : Int) == ((d.tag : Int) : Int)))) && (((c.win : Int) == (d.win : Int)))) && (((c.out : Int) == (d.out : Int)))) && (((c.inn : Int) == (d.inn : Int)))) && ((((c.tsn : Int) : Int) == ((d.tsn : Int) : Int)))) && ((decide (c.rand = d.rand)))) && ((decide (c.addrs = d.addrs)))) && ((decide (c.info = d.info)))) && ((decide (c.gaps = d.gaps)))) && ((decide (ci c.dups = ci d.dups)))) && (((c.cause : Int) == (d.cause : Int)))))) (.bool (((c.serial : Int) : Int) == ((d.serial : Int) : Int))) wx (r (.tmp 99)) := h2
      replace h3 : r (.const (.bool false)) = .bool false := h3
      exact give_and rfl h3 h1 (fun hb => h2.get (by first | exact hb | (rw [hc, hb]; rfl) | (rw [hb]; rfl))) ⟨Ext.refl _, rfl⟩
    refine GoodAll.cons ?_ ?_
    · intro r wx hR hx
      obtain ⟨h1, _⟩ := hx
      replace h1 : r (.tmp 100) = .bool (((((((((((((((c.kind : Int) == (d.kind : Int)) && ((samePB c d))) && ((((c.tag : Int) : Int) == ((d.tag : Int) : Int)))) && (((c.win : Int) == (d.win : Int)))) && (((c.out : Int) == (d.out : Int)))) && (((c.inn : Int) == (d.inn : Int)))) && ((((c.tsn : Int) : Int) == ((d.tsn : Int) : Int)))) && ((decide (c.rand = d.rand)))) && ((decide (c.addrs = d.addrs)))) && ((decide (c.info = d.info)))) && ((decide (c.gaps = d.gaps)))) && ((decide (ci c.dups = ci d.dups)))) && (((c.cause : Int) == (d.cause : Int)))) && ((((c.serial : Int) : Int) == ((d.serial : Int) : Int)))) := h1
      exact give_move (.inl rfl) ⟨Ext.refl _, h1⟩
    refine GoodAll.cons ?_ ?_
    · intro r wx hR hx
      obtain ⟨h1, _⟩ := hx
      replace h1 : r (.tmp 2) = .pointer (some ⟨w.heap.size, 0, none⟩) := h1
      intro gb hgb
      refine guard_u (C := ((((((((((((((((c.kind : Int) == (d.kind : Int)) && ((samePB c d))) && ((((c.tag : Int) : Int) == ((d.tag : Int) : Int)))) && (((c.win : Int) == (d.win : Int)))) && (((c.out : Int) == (d.out : Int)))) && (((c.inn : Int) == (d.inn : Int)))) && ((((c.tsn : Int) : Int) == ((d.tsn : Int) : Int)))) && ((decide (c.rand = d.rand)))) && ((decide (c.addrs = d.addrs)))) && ((decide (c.info = d.info)))) && ((decide (c.gaps = d.gaps)))) && ((decide (ci c.dups = ci d.dups)))) && (((c.cause : Int) == (d.cause : Int)))) && ((((c.serial : Int) : Int) == ((d.serial : Int) : Int)))))) (b := (((((((((((((((c.kind : Int) == (d.kind : Int)) && ((samePB c d))) && ((((c.tag : Int) : Int) == ((d.tag : Int) : Int)))) && (((c.win : Int) == (d.win : Int)))) && (((c.out : Int) == (d.out : Int)))) && (((c.inn : Int) == (d.inn : Int)))) && ((((c.tsn : Int) : Int) == ((d.tsn : Int) : Int)))) && ((decide (c.rand = d.rand)))) && ((decide (c.addrs = d.addrs)))) && ((decide (c.info = d.info)))) && ((decide (c.gaps = d.gaps)))) && ((decide (ci c.dups = ci d.dups)))) && (((c.cause : Int) == (d.cause : Int)))) && ((((c.serial : Int) : Int) == ((d.serial : Int) : Int))))) (want := true) hgb (want_t _) (fun hc => ?_) (fun hc => under_no hc)
      exact give_of (by simp [execOp, h1, go_sem]) ⟨Ext.refl _, under_yes hc⟩
    refine GoodAll.cons ?_ ?_
    · intro r wx hR hx
      obtain ⟨h1, _⟩ := hx
      replace h1 : Under (((((((((((((((((c.kind : Int) == (d.kind : Int)) && ((samePB c d))) && ((((c.tag : Int) : Int) == ((d.tag : Int) : Int)))) && (((c.win : Int) == (d.win : Int)))) && (((c.out : Int) == (d.out : Int)))) && (((c.inn : Int) == (d.inn : Int)))) && ((((c.tsn : Int) : Int) == ((d.tsn : Int) : Int)))) && ((decide (c.rand = d.rand)))) && ((decide (c.addrs = d.addrs)))) && ((decide (c.info = d.info)))) && ((decide (c.gaps = d.gaps)))) && ((decide (ci c.dups = ci d.dups)))) && (((c.cause : Int) == (d.cause : Int)))) && ((((c.serial : Int) : Int) == ((d.serial : Int) : Int)))))) (.pointer (some ⟨w.heap.size, 20, none⟩)) wx (r (.tmp 102)) := h1
      intro gb hgb
      refine guard_u (C := ((((((((((((((((c.kind : Int) == (d.kind : Int)) && ((samePB c d))) && ((((c.tag : Int) : Int) == ((d.tag : Int) : Int)))) && (((c.win : Int) == (d.win : Int)))) && (((c.out : Int) == (d.out : Int)))) && (((c.inn : Int) == (d.inn : Int)))) && ((((c.tsn : Int) : Int) == ((d.tsn : Int) : Int)))) && ((decide (c.rand = d.rand)))) && ((decide (c.addrs = d.addrs)))) && ((decide (c.info = d.info)))) && ((decide (c.gaps = d.gaps)))) && ((decide (ci c.dups = ci d.dups)))) && (((c.cause : Int) == (d.cause : Int)))) && ((((c.serial : Int) : Int) == ((d.serial : Int) : Int)))))) (b := (((((((((((((((c.kind : Int) == (d.kind : Int)) && ((samePB c d))) && ((((c.tag : Int) : Int) == ((d.tag : Int) : Int)))) && (((c.win : Int) == (d.win : Int)))) && (((c.out : Int) == (d.out : Int)))) && (((c.inn : Int) == (d.inn : Int)))) && ((((c.tsn : Int) : Int) == ((d.tsn : Int) : Int)))) && ((decide (c.rand = d.rand)))) && ((decide (c.addrs = d.addrs)))) && ((decide (c.info = d.info)))) && ((decide (c.gaps = d.gaps)))) && ((decide (ci c.dups = ci d.dups)))) && (((c.cause : Int) == (d.cause : Int)))) && ((((c.serial : Int) : Int) == ((d.serial : Int) : Int))))) (want := true) hgb (want_t _) (fun hc => ?_) (fun hc => under_no hc)
      replace h1 := h1.get hc
      exact give_of (exec_get oneSO rfl h1 (cv20 (hb1'.ext hR))) ⟨Ext.refl _, under_yes hc⟩
    refine GoodAll.cons ?_ ?_
    · intro r wx hR hx
      obtain ⟨h1, _⟩ := hx
      replace h1 : r (.tmp 3) = .pointer (some ⟨w1.heap.size, 0, none⟩) := h1
      intro gb hgb
      refine guard_u (C := ((((((((((((((((c.kind : Int) == (d.kind : Int)) && ((samePB c d))) && ((((c.tag : Int) : Int) == ((d.tag : Int) : Int)))) && (((c.win : Int) == (d.win : Int)))) && (((c.out : Int) == (d.out : Int)))) && (((c.inn : Int) == (d.inn : Int)))) && ((((c.tsn : Int) : Int) == ((d.tsn : Int) : Int)))) && ((decide (c.rand = d.rand)))) && ((decide (c.addrs = d.addrs)))) && ((decide (c.info = d.info)))) && ((decide (c.gaps = d.gaps)))) && ((decide (ci c.dups = ci d.dups)))) && (((c.cause : Int) == (d.cause : Int)))) && ((((c.serial : Int) : Int) == ((d.serial : Int) : Int)))))) (b := (((((((((((((((c.kind : Int) == (d.kind : Int)) && ((samePB c d))) && ((((c.tag : Int) : Int) == ((d.tag : Int) : Int)))) && (((c.win : Int) == (d.win : Int)))) && (((c.out : Int) == (d.out : Int)))) && (((c.inn : Int) == (d.inn : Int)))) && ((((c.tsn : Int) : Int) == ((d.tsn : Int) : Int)))) && ((decide (c.rand = d.rand)))) && ((decide (c.addrs = d.addrs)))) && ((decide (c.info = d.info)))) && ((decide (c.gaps = d.gaps)))) && ((decide (ci c.dups = ci d.dups)))) && (((c.cause : Int) == (d.cause : Int)))) && ((((c.serial : Int) : Int) == ((d.serial : Int) : Int))))) (want := true) hgb (want_t _) (fun hc => ?_) (fun hc => under_no hc)
      exact give_of (by simp [execOp, h1, go_sem]) ⟨Ext.refl _, under_yes hc⟩
    refine GoodAll.cons ?_ ?_
    · intro r wx hR hx
      obtain ⟨h1, _⟩ := hx
      replace h1 : Under (((((((((((((((((c.kind : Int) == (d.kind : Int)) && ((samePB c d))) && ((((c.tag : Int) : Int) == ((d.tag : Int) : Int)))) && (((c.win : Int) == (d.win : Int)))) && (((c.out : Int) == (d.out : Int)))) && (((c.inn : Int) == (d.inn : Int)))) && ((((c.tsn : Int) : Int) == ((d.tsn : Int) : Int)))) && ((decide (c.rand = d.rand)))) && ((decide (c.addrs = d.addrs)))) && ((decide (c.info = d.info)))) && ((decide (c.gaps = d.gaps)))) && ((decide (ci c.dups = ci d.dups)))) && (((c.cause : Int) == (d.cause : Int)))) && ((((c.serial : Int) : Int) == ((d.serial : Int) : Int)))))) (.pointer (some ⟨w1.heap.size, 20, none⟩)) wx (r (.tmp 104)) := h1
      intro gb hgb
      refine guard_u (C := ((((((((((((((((c.kind : Int) == (d.kind : Int)) && ((samePB c d))) && ((((c.tag : Int) : Int) == ((d.tag : Int) : Int)))) && (((c.win : Int) == (d.win : Int)))) && (((c.out : Int) == (d.out : Int)))) && (((c.inn : Int) == (d.inn : Int)))) && ((((c.tsn : Int) : Int) == ((d.tsn : Int) : Int)))) && ((decide (c.rand = d.rand)))) && ((decide (c.addrs = d.addrs)))) && ((decide (c.info = d.info)))) && ((decide (c.gaps = d.gaps)))) && ((decide (ci c.dups = ci d.dups)))) && (((c.cause : Int) == (d.cause : Int)))) && ((((c.serial : Int) : Int) == ((d.serial : Int) : Int)))))) (b := (((((((((((((((c.kind : Int) == (d.kind : Int)) && ((samePB c d))) && ((((c.tag : Int) : Int) == ((d.tag : Int) : Int)))) && (((c.win : Int) == (d.win : Int)))) && (((c.out : Int) == (d.out : Int)))) && (((c.inn : Int) == (d.inn : Int)))) && ((((c.tsn : Int) : Int) == ((d.tsn : Int) : Int)))) && ((decide (c.rand = d.rand)))) && ((decide (c.addrs = d.addrs)))) && ((decide (c.info = d.info)))) && ((decide (c.gaps = d.gaps)))) && ((decide (ci c.dups = ci d.dups)))) && (((c.cause : Int) == (d.cause : Int)))) && ((((c.serial : Int) : Int) == ((d.serial : Int) : Int))))) (want := true) hgb (want_t _) (fun hc => ?_) (fun hc => under_no hc)
      replace h1 := h1.get hc
      exact give_of (exec_get oneSO rfl h1 (cv20 (hb2.ext hR))) ⟨Ext.refl _, under_yes hc⟩
    refine GoodAll.cons ?_ ?_
    · intro r wx hR hx
      obtain ⟨h1, h2, h3, _⟩ := hx
      replace h1 : r (.func 60) = .func (.func 60) #[] #[] := h1
      replace h2 : Under (((((((((((((((((c.kind : Int) == (d.kind : Int)) && ((samePB c d))) && ((((c.tag : Int) : Int) == ((d.tag : Int) : Int)))) && (((c.win : Int) == (d.win : Int)))) && (((c.out : Int) == (d.out : Int)))) && (((c.inn : Int) == (d.inn : Int)))) && ((((c.tsn : Int) : Int) == ((d.tsn : Int) : Int)))) && ((decide (c.rand = d.rand)))) && ((decide (c.addrs = d.addrs)))) && ((decide (c.info = d.info)))) && ((decide (c.gaps = d.gaps)))) && ((decide (ci c.dups = ci d.dups)))) && (((c.cause : Int) == (d.cause : Int)))) && ((((c.serial : Int) : Int) == ((d.serial : Int) : Int)))))) (.slice s.oA s.oN s.oC) wx (r (.tmp 103)) := h2
      replace h3 : Under (((((((((((((((((c.kind : Int) == (d.kind : Int)) && ((samePB c d))) && ((((c.tag : Int) : Int) == ((d.tag : Int) : Int)))) && (((c.win : Int) == (d.win : Int)))) && (((c.out : Int) == (d.out : Int)))) && (((c.inn : Int) == (d.inn : Int)))) && ((((c.tsn : Int) : Int) == ((d.tsn : Int) : Int)))) && ((decide (c.rand = d.rand)))) && ((decide (c.addrs = d.addrs)))) && ((decide (c.info = d.info)))) && ((decide (c.gaps = d.gaps)))) && ((decide (ci c.dups = ci d.dups)))) && (((c.cause : Int) == (d.cause : Int)))) && ((((c.serial : Int) : Int) == ((d.serial : Int) : Int)))))) (.slice u.oA u.oN u.oC) wx (r (.tmp 105)) := h3
      intro gb hgb
      refine guard_u (C := ((((((((((((((((c.kind : Int) == (d.kind : Int)) && ((samePB c d))) && ((((c.tag : Int) : Int) == ((d.tag : Int) : Int)))) && (((c.win : Int) == (d.win : Int)))) && (((c.out : Int) == (d.out : Int)))) && (((c.inn : Int) == (d.inn : Int)))) && ((((c.tsn : Int) : Int) == ((d.tsn : Int) : Int)))) && ((decide (c.rand = d.rand)))) && ((decide (c.addrs = d.addrs)))) && ((decide (c.info = d.info)))) && ((decide (c.gaps = d.gaps)))) && ((decide (ci c.dups = ci d.dups)))) && (((c.cause : Int) == (d.cause : Int)))) && ((((c.serial : Int) : Int) == ((d.serial : Int) : Int)))))) (b := (((((((((((((((c.kind : Int) == (d.kind : Int)) && ((samePB c d))) && ((((c.tag : Int) : Int) == ((d.tag : Int) : Int)))) && (((c.win : Int) == (d.win : Int)))) && (((c.out : Int) == (d.out : Int)))) && (((c.inn : Int) == (d.inn : Int)))) && ((((c.tsn : Int) : Int) == ((d.tsn : Int) : Int)))) && ((decide (c.rand = d.rand)))) && ((decide (c.addrs = d.addrs)))) && ((decide (c.info = d.info)))) && ((decide (c.gaps = d.gaps)))) && ((decide (ci c.dups = ci d.dups)))) && (((c.cause : Int) == (d.cause : Int)))) && ((((c.serial : Int) : Int) == ((d.serial : Int) : Int))))) (want := true) hgb (want_t _) (fun hc => ?_) (fun hc => under_no hc)
      replace h2 := h2.get hc
      replace h3 := h3.get hc
      refine give_func #[.slice s.oA s.oN s.oC, .slice u.oA u.oN u.oC] rfl h1 Try.call60 (by simp [h2, h3]) ?_
      refine (eqO_any (HA.o.ext hR) (HB.o.ext hR)).mono ?_
      rintro e wz ⟨rfl, hez⟩
      exact ⟨_, rfl, hez, under_yes hc⟩
    refine GoodAll.cons ?_ ?_
    · intro r wx hR hx
      obtain ⟨h1, h2, h3, _⟩ := hx
      replace h1 : r (.tmp 101) = .bool (((((((((((((((c.kind : Int) == (d.kind : Int)) && ((samePB c d))) && ((((c.tag : Int) : Int) == ((d.tag : Int) : Int)))) && (((c.win : Int) == (d.win : Int)))) && (((c.out : Int) == (d.out : Int)))) && (((c.inn : Int) == (d.inn : Int)))) && ((((c.tsn : Int) : Int) == ((d.tsn : Int) : Int)))) && ((decide (c.rand = d.rand)))) && ((decide (c.addrs = d.addrs)))) && ((decide (c.info = d.info)))) && ((decide (c.gaps = d.gaps)))) && ((decide (ci c.dups = ci d.dups)))) && (((c.cause : Int) == (d.cause : Int)))) && ((((c.serial : Int) : Int) == ((d.serial : Int) : Int)))) := h1
      replace h2 : Under (((((((((((((((((c.kind : Int) == (d.kind : Int)) && ((samePB c d))) && ((((c.tag : Int) : Int) == ((d.tag : Int) : Int)))) && (((c.win : Int) == (d.win : Int)))) && (((c.out : Int) == (d.out : Int)))) && (((c.inn : Int) == (d.inn : Int)))) && ((((c.tsn : Int) : Int) == ((d.tsn : Int) : Int)))) && ((decide (c.rand = d.rand)))) && ((decide (c.addrs = d.addrs)))) && ((decide (c.info = d.info)))) && ((decide (c.gaps = d.gaps)))) && ((decide (ci c.dups = ci d.dups)))) && (((c.cause : Int) == (d.cause : Int)))) && ((((c.serial : Int) : Int) == ((d.serial : Int) : Int)))))) (.bool (decide (c.ops = d.ops))) wx (r (.tmp 106)) := h2
      replace h3 : r (.const (.bool false)) = .bool false := h3
      exact give_and rfl h3 h1 (fun hb => h2.get (by first | exact hb | (rw [hc, hb]; rfl) | (rw [hb]; rfl))) ⟨Ext.refl _, rfl⟩
    refine GoodAll.cons ?_ ?_
    · intro r wx hR hx
      obtain ⟨h1, _⟩ := hx
      replace h1 : r (.tmp 107) = .bool ((((((((((((((((c.kind : Int) == (d.kind : Int)) && ((samePB c d))) && ((((c.tag : Int) : Int) == ((d.tag : Int) : Int)))) && (((c.win : Int) == (d.win : Int)))) && (((c.out : Int) == (d.out : Int)))) && (((c.inn : Int) == (d.inn : Int)))) && ((((c.tsn : Int) : Int) == ((d.tsn : Int) : Int)))) && ((decide (c.rand = d.rand)))) && ((decide (c.addrs = d.addrs)))) && ((decide (c.info = d.info)))) && ((decide (c.gaps = d.gaps)))) && ((decide (ci c.dups = ci d.dups)))) && (((c.cause : Int) == (d.cause : Int)))) && ((((c.serial : Int) : Int) == ((d.serial : Int) : Int)))) && ((decide (c.ops = d.ops)))) := h1
      exact give_move (.inl rfl) ⟨Ext.refl _, h1⟩
    refine GoodAll.cons ?_ ?_
    · intro r wx hR hx
      obtain ⟨h1, _⟩ := hx
      replace h1 : r (.tmp 2) = .pointer (some ⟨w.heap.size, 0, none⟩) := h1
      intro gb hgb
      refine guard_u (C := (((((((((((((((((c.kind : Int) == (d.kind : Int)) && ((samePB c d))) && ((((c.tag : Int) : Int) == ((d.tag : Int) : Int)))) && (((c.win : Int) == (d.win : Int)))) && (((c.out : Int) == (d.out : Int)))) && (((c.inn : Int) == (d.inn : Int)))) && ((((c.tsn : Int) : Int) == ((d.tsn : Int) : Int)))) && ((decide (c.rand = d.rand)))) && ((decide (c.addrs = d.addrs)))) && ((decide (c.info = d.info)))) && ((decide (c.gaps = d.gaps)))) && ((decide (ci c.dups = ci d.dups)))) && (((c.cause : Int) == (d.cause : Int)))) && ((((c.serial : Int) : Int) == ((d.serial : Int) : Int)))) && ((decide (c.ops = d.ops)))))) (b := ((((((((((((((((c.kind : Int) == (d.kind : Int)) && ((samePB c d))) && ((((c.tag : Int) : Int) == ((d.tag : Int) : Int)))) && (((c.win : Int) == (d.win : Int)))) && (((c.out : Int) == (d.out : Int)))) && (((c.inn : Int) == (d.inn : Int)))) && ((((c.tsn : Int) : Int) == ((d.tsn : Int) : Int)))) && ((decide (c.rand = d.rand)))) && ((decide (c.addrs = d.addrs)))) && ((decide (c.info = d.info)))) && ((decide (c.gaps = d.gaps)))) && ((decide (ci c.dups = ci d.dups)))) && (((c.cause : Int) == (d.cause : Int)))) && ((((c.serial : Int) : Int) == ((d.serial : Int) : Int)))) && ((decide (c.ops = d.ops))))) (want := true) hgb (want_t _) (fun hc => ?_) (fun hc => under_no hc)
      exact give_of (by simp [execOp, h1, go_sem]) ⟨Ext.refl _, under_yes hc⟩
    refine GoodAll.cons ?_ ?_
    · intro r wx hR hx
      obtain ⟨h1, _⟩ := hx
      replace h1 : Under ((((((((((((((((((c.kind : Int) == (d.kind : Int)) && ((samePB c d))) && ((((c.tag : Int) : Int) == ((d.tag : Int) : Int)))) && (((c.win : Int) == (d.win : Int)))) && (((c.out : Int) == (d.out : Int)))) && (((c.inn : Int) == (d.inn : Int)))) && ((((c.tsn : Int) : Int) == ((d.tsn : Int) : Int)))) && ((decide (c.rand = d.rand)))) && ((decide (c.addrs = d.addrs)))) && ((decide (c.info = d.info)))) && ((decide (c.gaps = d.gaps)))) && ((decide (ci c.dups = ci d.dups)))) && (((c.cause : Int) == (d.cause : Int)))) && ((((c.serial : Int) : Int) == ((d.serial : Int) : Int)))) && ((decide (c.ops = d.ops)))))) (.pointer (some ⟨w.heap.size, 21, none⟩)) wx (r (.tmp 109)) := h1
      intro gb hgb
      refine guard_u (C := (((((((((((((((((c.kind : Int) == (d.kind : Int)) && ((samePB c d))) && ((((c.tag : Int) : Int) == ((d.tag : Int) : Int)))) && (((c.win : Int) == (d.win : Int)))) && (((c.out : Int) == (d.out : Int)))) && (((c.inn : Int) == (d.inn : Int)))) && ((((c.tsn : Int) : Int) == ((d.tsn : Int) : Int)))) && ((decide (c.rand = d.rand)))) && ((decide (c.addrs = d.addrs)))) && ((decide (c.info = d.info)))) && ((decide (c.gaps = d.gaps)))) && ((decide (ci c.dups = ci d.dups)))) && (((c.cause : Int) == (d.cause : Int)))) && ((((c.serial : Int) : Int) == ((d.serial : Int) : Int)))) && ((decide (c.ops = d.ops)))))) (b := ((((((((((((((((c.kind : Int) == (d.kind : Int)) && ((samePB c d))) && ((((c.tag : Int) : Int) == ((d.tag : Int) : Int)))) && (((c.win : Int) == (d.win : Int)))) && (((c.out : Int) == (d.out : Int)))) && (((c.inn : Int) == (d.inn : Int)))) && ((((c.tsn : Int) : Int) == ((d.tsn : Int) : Int)))) && ((decide (c.rand = d.rand)))) && ((decide (c.addrs = d.addrs)))) && ((decide (c.info = d.info)))) && ((decide (c.gaps = d.gaps)))) && ((decide (ci c.dups = ci d.dups)))) && (((c.cause : Int) == (d.cause : Int)))) && ((((c.serial : Int) : Int) == ((d.serial : Int) : Int)))) && ((decide (c.ops = d.ops))))) (want := true) hgb (want_t _) (fun hc => ?_) (fun hc => under_no hc)
      replace h1 := h1.get hc
      exact give_of (exec_get one4 rfl h1 (cv21 (hb1'.ext hR))) ⟨Ext.refl _, under_yes hc⟩
    refine GoodAll.cons ?_ ?_
    · intro r wx hR hx
      obtain ⟨h1, _⟩ := hx
      replace h1 : r (.tmp 3) = .pointer (some ⟨w1.heap.size, 0, none⟩) := h1
      intro gb hgb
      refine guard_u (C := (((((((((((((((((c.kind : Int) == (d.kind : Int)) && ((samePB c d))) && ((((c.tag : Int) : Int) == ((d.tag : Int) : Int)))) && (((c.win : Int) == (d.win : Int)))) && (((c.out : Int) == (d.out : Int)))) && (((c.inn : Int) == (d.inn : Int)))) && ((((c.tsn : Int) : Int) == ((d.tsn : Int) : Int)))) && ((decide (c.rand = d.rand)))) && ((decide (c.addrs = d.addrs)))) && ((decide (c.info = d.info)))) && ((decide (c.gaps = d.gaps)))) && ((decide (ci c.dups = ci d.dups)))) && (((c.cause : Int) == (d.cause : Int)))) && ((((c.serial : Int) : Int) == ((d.serial : Int) : Int)))) && ((decide (c.ops = d.ops)))))) (b := ((((((((((((((((c.kind : Int) == (d.kind : Int)) && ((samePB c d))) && ((((c.tag : Int) : Int) == ((d.tag : Int) : Int)))) && (((c.win : Int) == (d.win : Int)))) && (((c.out : Int) == (d.out : Int)))) && (((c.inn : Int) == (d.inn : Int)))) && ((((c.tsn : Int) : Int) == ((d.tsn : Int) : Int)))) && ((decide (c.rand = d.rand)))) && ((decide (c.addrs = d.addrs)))) && ((decide (c.info = d.info)))) && ((decide (c.gaps = d.gaps)))) && ((decide (ci c.dups = ci d.dups)))) && (((c.cause : Int) == (d.cause : Int)))) && ((((c.serial : Int) : Int) == ((d.serial : Int) : Int)))) && ((decide (c.ops = d.ops))))) (want := true) hgb (want_t _) (fun hc => ?_) (fun hc => under_no hc)
      exact give_of (by simp [execOp, h1, go_sem]) ⟨Ext.refl _, under_yes hc⟩
    refine GoodAll.cons ?_ ?_
    · intro r wx hR hx
      obtain ⟨h1, _⟩ := hx
      replace h1 : Under ((((((((((((((((((c.kind : Int) == (d.kind : Int)) && ((samePB c d))) && ((((c.tag : Int) : Int) == ((d.tag : Int) : Int)))) && (((c.win : Int) == (d.win : Int)))) && (((c.out : Int) == (d.out : Int)))) && (((c.inn : Int) == (d.inn : Int)))) && ((((c.tsn : Int) : Int) == ((d.tsn : Int) : Int)))) && ((decide (c.rand = d.rand)))) && ((decide (c.addrs = d.addrs)))) && ((decide (c.info = d.info)))) && ((decide (c.gaps = d.gaps)))) && ((decide (ci c.dups = ci d.dups)))) && (((c.cause : Int) == (d.cause : Int)))) && ((((c.serial : Int) : Int) == ((d.serial : Int) : Int)))) && ((decide (c.ops = d.ops)))))) (.pointer (some ⟨w1.heap.size, 21, none⟩)) wx (r (.tmp 111)) := h1
      intro gb hgb
      refine guard_u (C := (((((((((((((((((c.kind : Int) == (d.kind : Int)) && ((samePB c d))) && ((((c.tag : Int) : Int) == ((d.tag : Int) : Int)))) && (((c.win : Int) == (d.win : Int)))) && (((c.out : Int) == (d.out : Int)))) && (((c.inn : Int) == (d.inn : Int)))) && ((((c.tsn : Int) : Int) == ((d.tsn : Int) : Int)))) && ((decide (c.rand = d.rand)))) && ((decide (c.addrs = d.addrs)))) && ((decide (c.info = d.info)))) && ((decide (c.gaps = d.gaps)))) && ((decide (ci c.dups = ci d.dups)))) && (((c.cause : Int) == (d.cause : Int)))) && ((((c.serial : Int) : Int) == ((d.serial : Int) : Int)))) && ((decide (c.ops = d.ops)))))) (b := ((((((((((((((((c.kind : Int) == (d.kind : Int)) && ((samePB c d))) && ((((c.tag : Int) : Int) == ((d.tag : Int) : Int)))) && (((c.win : Int) == (d.win : Int)))) && (((c.out : Int) == (d.out : Int)))) && (((c.inn : Int) == (d.inn : Int)))) && ((((c.tsn : Int) : Int) == ((d.tsn : Int) : Int)))) && ((decide (c.rand = d.rand)))) && ((decide (c.addrs = d.addrs)))) && ((decide (c.info = d.info)))) && ((decide (c.gaps = d.gaps)))) && ((decide (ci c.dups = ci d.dups)))) && (((c.cause : Int) == (d.cause : Int)))) && ((((c.serial : Int) : Int) == ((d.serial : Int) : Int)))) && ((decide (c.ops = d.ops))))) (want := true) hgb (want_t _) (fun hc => ?_) (fun hc => under_no hc)
      replace h1 := h1.get hc
      exact give_of (exec_get one4 rfl h1 (cv21 (hb2.ext hR))) ⟨Ext.refl _, under_yes hc⟩
    refine GoodAll.cons ?_ ?_
    · intro r wx hR hx
      obtain ⟨h1, h2, _⟩ := hx
      replace h1 : Under ((((((((((((((((((c.kind : Int) == (d.kind : Int)) && ((samePB c d))) && ((((c.tag : Int) : Int) == ((d.tag : Int) : Int)))) && (((c.win : Int) == (d.win : Int)))) && (((c.out : Int) == (d.out : Int)))) && (((c.inn : Int) == (d.inn : Int)))) && ((((c.tsn : Int) : Int) == ((d.tsn : Int) : Int)))) && ((decide (c.rand = d.rand)))) && ((decide (c.addrs = d.addrs)))) && ((decide (c.info = d.info)))) && ((decide (c.gaps = d.gaps)))) && ((decide (ci c.dups = ci d.dups)))) && (((c.cause : Int) == (d.cause : Int)))) && ((((c.serial : Int) : Int) == ((d.serial : Int) : Int)))) && ((decide (c.ops = d.ops)))))) (.bool c.ok) wx (r (.tmp 110)) := h1
      replace h2 : Under ((((((((((((((((((c.kind : Int) == (d.kind : Int)) && ((samePB c d))) && ((((c.tag : Int) : Int) == ((d.tag : Int) : Int)))) && (((c.win : Int) == (d.win : Int)))) && (((c.out : Int) == (d.out : Int)))) && (((c.inn : Int) == (d.inn : Int)))) && ((((c.tsn : Int) : Int) == ((d.tsn : Int) : Int)))) && ((decide (c.rand = d.rand)))) && ((decide (c.addrs = d.addrs)))) && ((decide (c.info = d.info)))) && ((decide (c.gaps = d.gaps)))) && ((decide (ci c.dups = ci d.dups)))) && (((c.cause : Int) == (d.cause : Int)))) && ((((c.serial : Int) : Int) == ((d.serial : Int) : Int)))) && ((decide (c.ops = d.ops)))))) (.bool d.ok) wx (r (.tmp 112)) := h2
      intro gb hgb
      refine guard_u (C := (((((((((((((((((c.kind : Int) == (d.kind : Int)) && ((samePB c d))) && ((((c.tag : Int) : Int) == ((d.tag : Int) : Int)))) && (((c.win : Int) == (d.win : Int)))) && (((c.out : Int) == (d.out : Int)))) && (((c.inn : Int) == (d.inn : Int)))) && ((((c.tsn : Int) : Int) == ((d.tsn : Int) : Int)))) && ((decide (c.rand = d.rand)))) && ((decide (c.addrs = d.addrs)))) && ((decide (c.info = d.info)))) && ((decide (c.gaps = d.gaps)))) && ((decide (ci c.dups = ci d.dups)))) && (((c.cause : Int) == (d.cause : Int)))) && ((((c.serial : Int) : Int) == ((d.serial : Int) : Int)))) && ((decide (c.ops = d.ops)))))) (b := ((((((((((((((((c.kind : Int) == (d.kind : Int)) && ((samePB c d))) && ((((c.tag : Int) : Int) == ((d.tag : Int) : Int)))) && (((c.win : Int) == (d.win : Int)))) && (((c.out : Int) == (d.out : Int)))) && (((c.inn : Int) == (d.inn : Int)))) && ((((c.tsn : Int) : Int) == ((d.tsn : Int) : Int)))) && ((decide (c.rand = d.rand)))) && ((decide (c.addrs = d.addrs)))) && ((decide (c.info = d.info)))) && ((decide (c.gaps = d.gaps)))) && ((decide (ci c.dups = ci d.dups)))) && (((c.cause : Int) == (d.cause : Int)))) && ((((c.serial : Int) : Int) == ((d.serial : Int) : Int)))) && ((decide (c.ops = d.ops))))) (want := true) hgb (want_t _) (fun hc => ?_) (fun hc => under_no hc)
      replace h1 := h1.get hc
      replace h2 := h2.get hc
      exact give_of (by simp [execOp, h1, h2, go_sem]) ⟨Ext.refl _, under_yes hc⟩
    refine GoodAll.cons ?_ ?_
    · intro r wx hR hx
      obtain ⟨h1, h2, h3, _⟩ := hx
      replace h1 : r (.tmp 108) = .bool ((((((((((((((((c.kind : Int) == (d.kind : Int)) && ((samePB c d))) && ((((c.tag : Int) : Int) == ((d.tag : Int) : Int)))) && (((c.win : Int) == (d.win : Int)))) && (((c.out : Int) == (d.out : Int)))) && (((c.inn : Int) == (d.inn : Int)))) && ((((c.tsn : Int) : Int) == ((d.tsn : Int) : Int)))) && ((decide (c.rand = d.rand)))) && ((decide (c.addrs = d.addrs)))) && ((decide (c.info = d.info)))) && ((decide (c.gaps = d.gaps)))) && ((decide (ci c.dups = ci d.dups)))) && (((c.cause : Int) == (d.cause : Int)))) && ((((c.serial : Int) : Int) == ((d.serial : Int) : Int)))) && ((decide (c.ops = d.ops)))) := h1
      replace h2 : Under ((((((((((((((((((c.kind : Int) == (d.kind : Int)) && ((samePB c d))) && ((((c.tag : Int) : Int) == ((d.tag : Int) : Int)))) && (((c.win : Int) == (d.win : Int)))) && (((c.out : Int) == (d.out : Int)))) && (((c.inn : Int) == (d.inn : Int)))) && ((((c.tsn : Int) : Int) == ((d.tsn : Int) : Int)))) && ((decide (c.rand = d.rand)))) && ((decide (c.addrs = d.addrs)))) && ((decide (c.info = d.info)))) && ((decide (c.gaps = d.gaps)))) && ((decide (ci c.dups = ci d.dups)))) && (((c.cause : Int) == (d.cause : Int)))) && ((((c.serial : Int) : Int) == ((d.serial : Int) : Int)))) && ((decide (c.ops = d.ops)))))) (.bool ((c.ok) == (d.ok))) wx (r (.tmp 113)) := h2
      replace h3 : r (.const (.bool false)) = .bool false := h3
      exact give_and rfl h3 h1 (fun hb => h2.get (by first | exact hb | (rw [hc, hb]; rfl) | (rw [hb]; rfl))) ⟨Ext.refl _, rfl⟩
    refine GoodAll.cons ?_ ?_
    · intro r wx hR hx
      obtain ⟨h1, _⟩ := hx
      replace h1 : r (.tmp 114) = .bool (((((((((((((((((c.kind : Int) == (d.kind : Int)) && ((samePB c d))) && ((((c.tag : Int) : Int) == ((d.tag : Int) : Int)))) && (((c.win : Int) == (d.win : Int)))) && (((c.out : Int) == (d.out : Int)))) && (((c.inn : Int) == (d.inn : Int)))) && ((((c.tsn : Int) : Int) == ((d.tsn : Int) : Int)))) && ((decide (c.rand = d.rand)))) && ((decide (c.addrs = d.addrs)))) && ((decide (c.info = d.info)))) && ((decide (c.gaps = d.gaps)))) && ((decide (ci c.dups = ci d.dups)))) && (((c.cause : Int) == (d.cause : Int)))) && ((((c.serial : Int) : Int) == ((d.serial : Int) : Int)))) && ((decide (c.ops = d.ops)))) && (((c.ok) == (d.ok)))) := h1
      exact give_move (.inr rfl) ⟨Ext.refl _, h1⟩
    exact GoodAll.nil
  · intro vs wE aE hR hold haE
    have hv : vs 110 = .bool (((((((((((((((((c.kind : Int) == (d.kind : Int)) && ((samePB c d))) && ((((c.tag : Int) : Int) == ((d.tag : Int) : Int)))) && (((c.win : Int) == (d.win : Int)))) && (((c.out : Int) == (d.out : Int)))) && (((c.inn : Int) == (d.inn : Int)))) && ((((c.tsn : Int) : Int) == ((d.tsn : Int) : Int)))) && ((decide (c.rand = d.rand)))) && ((decide (c.addrs = d.addrs)))) && ((decide (c.info = d.info)))) && ((decide (c.gaps = d.gaps)))) && ((decide (ci c.dups = ci d.dups)))) && (((c.cause : Int) == (d.cause : Int)))) && ((((c.serial : Int) : Int) == ((d.serial : Int) : Int)))) && ((decide (c.ops = d.ops)))) && (((c.ok) == (d.ok)))) := hold.at 110
    refine ‹∀ (a : Act) (w : World), Code.wp Try.prog Code.ret _ a w → _› _ _ ?_
    refine wp_ret ?_
    have hs : aE.tmps[4]? = some (.bool (((((((((((((((((c.kind : Int) == (d.kind : Int)) && ((samePB c d))) && ((((c.tag : Int) : Int) == ((d.tag : Int) : Int)))) && (((c.win : Int) == (d.win : Int)))) && (((c.out : Int) == (d.out : Int)))) && (((c.inn : Int) == (d.inn : Int)))) && ((((c.tsn : Int) : Int) == ((d.tsn : Int) : Int)))) && ((decide (c.rand = d.rand)))) && ((decide (c.addrs = d.addrs)))) && ((decide (c.info = d.info)))) && ((decide (c.gaps = d.gaps)))) && ((decide (ci c.dups = ci d.dups)))) && (((c.cause : Int) == (d.cause : Int)))) && ((((c.serial : Int) : Int) == ((d.serial : Int) : Int)))) && ((decide (c.ops = d.ops)))) && (((c.ok) == (d.ok))))) := by rw [haE, ← hv]; kernel_rfl
    have hdf : aE.defers = [] := by rw [haE]; exact putAll_defers _ _ _ _
    clear haE
    refine bodyPost_ret (v := .bool (((((((((((((((((c.kind : Int) == (d.kind : Int)) && ((samePB c d))) && ((((c.tag : Int) : Int) == ((d.tag : Int) : Int)))) && (((c.win : Int) == (d.win : Int)))) && (((c.out : Int) == (d.out : Int)))) && (((c.inn : Int) == (d.inn : Int)))) && ((((c.tsn : Int) : Int) == ((d.tsn : Int) : Int)))) && ((decide (c.rand = d.rand)))) && ((decide (c.addrs = d.addrs)))) && ((decide (c.info = d.info)))) && ((decide (c.gaps = d.gaps)))) && ((decide (ci c.dups = ci d.dups)))) && (((c.cause : Int) == (d.cause : Int)))) && ((((c.serial : Int) : Int) == ((d.serial : Int) : Int)))) && ((decide (c.ops = d.ops)))) && (((c.ok) == (d.ok))))) ?_ hdf ⟨rfl, (he1.trans he2).trans hR⟩
    simp [results, Try.results25, go_sem, hs]
end Tlv
end Go.Proofs.Ytobkgaceallegaa
