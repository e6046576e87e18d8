/-
  No cell of these rows narrows 'for every input' (looked for: loops, veiled, ifaces, maps, wideKeys, modest, calm, conditions, laid).
  DERIVED. THE GIVEN ROWS OF THIS SEAT. 5 by the template 'for every input the law returns true; each argument reads behind the call as it read before'; 0 by the template 'total and deterministic' (their statements: YtmfkedkkkmnmmaaTotals.lean).
  GIVEN WITH THE SEED: the statements are not yours to turn. If you find one false, say at which input.
  Laid BY PROGRAM, IN A SANDBOX (cutbox-rows.mjs): the forced cells as the released guide's own fill.sh prints them over the translation bafcde9ec4c05fd0… (all of the seat's roots in one cut). By AI agents, Wed Nov 11 2026. No macro, syntax, notation, axiom, sorry.
-/
import Derived.Test.YtmfkedkkkmnmmaaChecked
import GoSem.Claim
import GoSem.ClaimJoined
import GoSem.ClaimMapViews
import Derived.JoinedTies
import Derived.KernelRfl
namespace Go.Proofs.Ytmfkedkkkmnmmaa
/- THE CELL 'sum', in the pinned program and in every row, IS THE sha256 OF THE DUMP (.gsa) THAT YtmfkedkkkmnmmaaProg.lean LOADS. Nothing in Lean hashes anything: it is a label: what it is worth is what the hold of that sum in a sandbox is worth. -/
noncomputable def Try.pinned : Pinned := { name := "ytmfkedkkkmnmmaa", sum := "bafcde9ec4c05fd0dd08802a49ec39edd96490fb9df09c735569db2303bf7cf3", checked := Try.checked }
namespace Rows
def none {H : Type} : Left H := { results := [], args := [] }

/-- 'weftlinelaw02.SerialLong': WHATEVER THE INPUT: true; the input reads as it did. -/
def serialLongSpec : ChangeSpec := { name := "serialLong", fn := fun _ => fun
  | [d1, d2, d3] => { results := [.lit (.bool true)], args := [d1, d2, d3] }
  | _ => none }
def serialLongRow : OpenClaim := { program := "ytmfkedkkkmnmmaa", sum := "bafcde9ec4c05fd0dd08802a49ec39edd96490fb9df09c735569db2303bf7cf3", func := "weftline/weftlinelaw02.SerialLong", spec := "serialLong", apart := false }
def SerialLongSaid : Prop := serialLongRow.holds Try.pinned (OpenSpec.ofChange serialLongSpec)

/-- ITS FALSE NEIGHBOUR: 'it returns false'. Refute it at one input. -/
def serialLongWrong : ChangeSpec := { name := "serialLong", fn := fun _ => fun
  | [d1, d2, d3] => { results := [.lit (.bool false)], args := [d1, d2, d3] }
  | _ => none }
def SerialLongWrongFalsely : Prop := serialLongRow.holds Try.pinned (OpenSpec.ofChange serialLongWrong)

/-- 'weftlinelaw02.SerialShort': WHATEVER THE INPUT: true; the input reads as it did. -/
def serialShortSpec : ChangeSpec := { name := "serialShort", fn := fun _ => fun
  | [d1, d2, d3] => { results := [.lit (.bool true)], args := [d1, d2, d3] }
  | _ => none }
def serialShortRow : OpenClaim := { program := "ytmfkedkkkmnmmaa", sum := "bafcde9ec4c05fd0dd08802a49ec39edd96490fb9df09c735569db2303bf7cf3", func := "weftline/weftlinelaw02.SerialShort", spec := "serialShort", apart := false }
def SerialShortSaid : Prop := serialShortRow.holds Try.pinned (OpenSpec.ofChange serialShortSpec)

/-- ITS FALSE NEIGHBOUR: 'it returns false'. Refute it at one input. -/
def serialShortWrong : ChangeSpec := { name := "serialShort", fn := fun _ => fun
  | [d1, d2, d3] => { results := [.lit (.bool false)], args := [d1, d2, d3] }
  | _ => none }
def SerialShortWrongFalsely : Prop := serialShortRow.holds Try.pinned (OpenSpec.ofChange serialShortWrong)

/-- 'weftlinelaw02.SerialLists': WHATEVER THE INPUT: true; the input reads as it did. -/
def serialListsSpec : ChangeSpec := { name := "serialLists", fn := fun _ => fun
  | [d1, d2, d3] => { results := [.lit (.bool true)], args := [d1, d2, d3] }
  | _ => none }
def serialListsRow : OpenClaim := { program := "ytmfkedkkkmnmmaa", sum := "bafcde9ec4c05fd0dd08802a49ec39edd96490fb9df09c735569db2303bf7cf3", func := "weftline/weftlinelaw02.SerialLists", spec := "serialLists", unfollowed := true, recurses := true, apart := false }
def SerialListsSaid : Prop := serialListsRow.holds Try.pinned (OpenSpec.ofChange serialListsSpec)

/-- ITS FALSE NEIGHBOUR: 'it returns false'. Refute it at one input. -/
def serialListsWrong : ChangeSpec := { name := "serialLists", fn := fun _ => fun
  | [d1, d2, d3] => { results := [.lit (.bool false)], args := [d1, d2, d3] }
  | _ => none }
def SerialListsWrongFalsely : Prop := serialListsRow.holds Try.pinned (OpenSpec.ofChange serialListsWrong)

/-- 'weftlinelaw02.SerialLeft': WHATEVER THE INPUT: true; the input reads as it did. -/
def serialLeftSpec : ChangeSpec := { name := "serialLeft", fn := fun _ => fun
  | [d] => { results := [.lit (.bool true)], args := [d] }
  | _ => none }
def serialLeftRow : OpenClaim := { program := "ytmfkedkkkmnmmaa", sum := "bafcde9ec4c05fd0dd08802a49ec39edd96490fb9df09c735569db2303bf7cf3", func := "weftline/weftlinelaw02.SerialLeft", spec := "serialLeft", unfollowed := true, recurses := true, apart := false }
def SerialLeftSaid : Prop := serialLeftRow.holds Try.pinned (OpenSpec.ofChange serialLeftSpec)

/-- ITS FALSE NEIGHBOUR: 'it returns false'. Refute it at one input. -/
def serialLeftWrong : ChangeSpec := { name := "serialLeft", fn := fun _ => fun
  | [d] => { results := [.lit (.bool false)], args := [d] }
  | _ => none }
def SerialLeftWrongFalsely : Prop := serialLeftRow.holds Try.pinned (OpenSpec.ofChange serialLeftWrong)

/-- 'weftlinelaw02.SerialTwo': WHATEVER THE INPUT: true; the input reads as it did. -/
def serialTwoSpec : ChangeSpec := { name := "serialTwo", fn := fun _ => fun
  | [d1, d2, d3] => { results := [.lit (.bool true)], args := [d1, d2, d3] }
  | _ => none }
def serialTwoRow : OpenClaim := { program := "ytmfkedkkkmnmmaa", sum := "bafcde9ec4c05fd0dd08802a49ec39edd96490fb9df09c735569db2303bf7cf3", func := "weftline/weftlinelaw02.SerialTwo", spec := "serialTwo", apart := false }
def SerialTwoSaid : Prop := serialTwoRow.holds Try.pinned (OpenSpec.ofChange serialTwoSpec)

/-- ITS FALSE NEIGHBOUR: 'it returns false'. Refute it at one input. -/
def serialTwoWrong : ChangeSpec := { name := "serialTwo", fn := fun _ => fun
  | [d1, d2, d3] => { results := [.lit (.bool false)], args := [d1, d2, d3] }
  | _ => none }
def SerialTwoWrongFalsely : Prop := serialTwoRow.holds Try.pinned (OpenSpec.ofChange serialTwoWrong)

/- THE SECOND FORM. 'bulk': how many values and letters a reading holds, each counted each time it is reached (what is shared counts as often as it is met; a slice's spare places count too). A statement '..UptoSaid' is the law's where the arguments, and the package variables that the reading takes, are together of bulk at most 1048576: NARROWER than '..Said'. Prove '..Said' where nothing that the law and all that it calls make is longer than what came in: it says more and counts as full. Else prove '..UptoSaid'. A law counts once. -/
mutual
def uptoBulk {H : Type} : DataW H → Nat
  | .lit (.string bytes) => bytes.length + 1
  | .lit _ => 1
  | .nil => 1
  | .ptr d => uptoBulk d + 1
  | .slice elems spare => uptoBulkAll elems + uptoBulkAll spare + 1
  | .agg parts => uptoBulkAll parts + 1
  | .iface _ d => uptoBulk d + 1
  | .map entries => uptoBulkEntries entries + 1
  | .held _ => 1
def uptoBulkAll {H : Type} : List (DataW H) → Nat
  | [] => 0
  | d :: r => uptoBulk d + uptoBulkAll r
def uptoBulkEntries {H : Type} : List (Lit × DataW H) → Nat
  | [] => 0
  | x :: r => uptoBulkEntry x + uptoBulkEntries r
def uptoBulkEntry {H : Type} : Lit × DataW H → Nat
  | (.string bytes, d) => bytes.length + uptoBulk d + 1
  | (_, d) => uptoBulk d + 1
 end
def uptoSmall : (H : Type) → List (DataW H) → Bool := fun _ ds => decide (uptoBulkAll ds ≤ 1048576)
def OpenSpec.upto (s : _root_.Go.ChangeSpec) : _root_.Go.OpenSpec := { _root_.Go.OpenSpec.ofChange s with cond := some uptoSmall }

/-- 'weftlinelaw02.SerialLong', WHERE WHAT IT READS IS OF BULK AT MOST 1048576: true; the input reads as it did. -/
def serialLongUptoRow : OpenClaim := { program := "ytmfkedkkkmnmmaa", sum := "bafcde9ec4c05fd0dd08802a49ec39edd96490fb9df09c735569db2303bf7cf3", func := "weftline/weftlinelaw02.SerialLong", spec := "serialLong", apart := false, narrowed := true }
def SerialLongUptoSaid : Prop := serialLongUptoRow.holds Try.pinned (OpenSpec.upto serialLongSpec)

/-- 'weftlinelaw02.SerialShort', WHERE WHAT IT READS IS OF BULK AT MOST 1048576: true; the input reads as it did. -/
def serialShortUptoRow : OpenClaim := { program := "ytmfkedkkkmnmmaa", sum := "bafcde9ec4c05fd0dd08802a49ec39edd96490fb9df09c735569db2303bf7cf3", func := "weftline/weftlinelaw02.SerialShort", spec := "serialShort", apart := false, narrowed := true }
def SerialShortUptoSaid : Prop := serialShortUptoRow.holds Try.pinned (OpenSpec.upto serialShortSpec)

/-- 'weftlinelaw02.SerialLists', WHERE WHAT IT READS IS OF BULK AT MOST 1048576: true; the input reads as it did. -/
def serialListsUptoRow : OpenClaim := { program := "ytmfkedkkkmnmmaa", sum := "bafcde9ec4c05fd0dd08802a49ec39edd96490fb9df09c735569db2303bf7cf3", func := "weftline/weftlinelaw02.SerialLists", spec := "serialLists", unfollowed := true, recurses := true, apart := false, narrowed := true }
def SerialListsUptoSaid : Prop := serialListsUptoRow.holds Try.pinned (OpenSpec.upto serialListsSpec)

/-- 'weftlinelaw02.SerialLeft', WHERE WHAT IT READS IS OF BULK AT MOST 1048576: true; the input reads as it did. -/
def serialLeftUptoRow : OpenClaim := { program := "ytmfkedkkkmnmmaa", sum := "bafcde9ec4c05fd0dd08802a49ec39edd96490fb9df09c735569db2303bf7cf3", func := "weftline/weftlinelaw02.SerialLeft", spec := "serialLeft", unfollowed := true, recurses := true, apart := false, narrowed := true }
def SerialLeftUptoSaid : Prop := serialLeftUptoRow.holds Try.pinned (OpenSpec.upto serialLeftSpec)

/-- 'weftlinelaw02.SerialTwo', WHERE WHAT IT READS IS OF BULK AT MOST 1048576: true; the input reads as it did. -/
def serialTwoUptoRow : OpenClaim := { program := "ytmfkedkkkmnmmaa", sum := "bafcde9ec4c05fd0dd08802a49ec39edd96490fb9df09c735569db2303bf7cf3", func := "weftline/weftlinelaw02.SerialTwo", spec := "serialTwo", apart := false, narrowed := true }
def SerialTwoUptoSaid : Prop := serialTwoUptoRow.holds Try.pinned (OpenSpec.upto serialTwoSpec)

end Rows
end Go.Proofs.Ytmfkedkkkmnmmaa
