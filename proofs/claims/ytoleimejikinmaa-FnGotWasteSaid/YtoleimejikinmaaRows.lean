/-
  No cell of these rows narrows 'for every input' (looked for: loops, veiled, ifaces, maps, wideKeys, modest, calm, conditions, laid).
  DERIVED. THE GIVEN ROWS OF THIS SEAT. 10 by the template 'for every input the law returns true; each argument reads behind the call as it read before'; 0 by the template 'total and deterministic' (their statements: YtoleimejikinmaaTotals.lean).
  GIVEN WITH THE SEED: the statements are not yours to turn. If you find one false, say at which input.
  Laid BY PROGRAM, IN A SANDBOX (cutbox-rows.mjs): the forced cells as the released guide's own fill.sh prints them over the translation 3df33393c0ca2d8a… (all of the seat's roots in one cut). By AI agents, Wed Nov 11 2026. No macro, syntax, notation, axiom, sorry.
-/
import Derived.Test.YtoleimejikinmaaChecked
import GoSem.Claim
import GoSem.ClaimJoined
import GoSem.ClaimMapViews
import Derived.JoinedTies
import Derived.KernelRfl
namespace Go.Proofs.Ytoleimejikinmaa
/- THE CELL 'sum', in the pinned program and in every row, IS THE sha256 OF THE DUMP (.gsa) THAT YtoleimejikinmaaProg.lean LOADS. Nothing in Lean hashes anything: it is a label: what it is worth is what the hold of that sum in a sandbox is worth. -/
noncomputable def Try.pinned : Pinned := { name := "ytoleimejikinmaa", sum := "3df33393c0ca2d8a0fc5b681d556f77a533e0b6255c9afa38cb4abeb44a38364", checked := Try.checked }
namespace Rows
def none {H : Type} : Left H := { results := [], args := [] }

/-- 'laws.FnAskTwice': WHATEVER THE INPUT: true; the input reads as it did. -/
def fnAskTwiceSpec : ChangeSpec := { name := "fnAskTwice", fn := fun _ => fun
  | [d] => { results := [.lit (.bool true)], args := [d] }
  | _ => none }
def fnAskTwiceRow : OpenClaim := { program := "ytoleimejikinmaa", sum := "3df33393c0ca2d8a0fc5b681d556f77a533e0b6255c9afa38cb4abeb44a38364", func := "loop.example/feedswarm/laws.FnAskTwice", spec := "fnAskTwice", unfollowed := true, recurses := true, apart := false }
def FnAskTwiceSaid : Prop := fnAskTwiceRow.holds Try.pinned (OpenSpec.ofChange fnAskTwiceSpec)

/-- ITS FALSE NEIGHBOUR: 'it returns false'. Refute it at one input. -/
def fnAskTwiceWrong : ChangeSpec := { name := "fnAskTwice", fn := fun _ => fun
  | [d] => { results := [.lit (.bool false)], args := [d] }
  | _ => none }
def FnAskTwiceWrongFalsely : Prop := fnAskTwiceRow.holds Try.pinned (OpenSpec.ofChange fnAskTwiceWrong)

/-- 'laws.FnAskRefused': WHATEVER THE INPUT: true; the input reads as it did. -/
def fnAskRefusedSpec : ChangeSpec := { name := "fnAskRefused", fn := fun _ => fun
  | [d] => { results := [.lit (.bool true)], args := [d] }
  | _ => none }
def fnAskRefusedRow : OpenClaim := { program := "ytoleimejikinmaa", sum := "3df33393c0ca2d8a0fc5b681d556f77a533e0b6255c9afa38cb4abeb44a38364", func := "loop.example/feedswarm/laws.FnAskRefused", spec := "fnAskRefused", unfollowed := true, recurses := true, apart := false }
def FnAskRefusedSaid : Prop := fnAskRefusedRow.holds Try.pinned (OpenSpec.ofChange fnAskRefusedSpec)

/-- ITS FALSE NEIGHBOUR: 'it returns false'. Refute it at one input. -/
def fnAskRefusedWrong : ChangeSpec := { name := "fnAskRefused", fn := fun _ => fun
  | [d] => { results := [.lit (.bool false)], args := [d] }
  | _ => none }
def FnAskRefusedWrongFalsely : Prop := fnAskRefusedRow.holds Try.pinned (OpenSpec.ofChange fnAskRefusedWrong)

/-- 'laws.FnAskSingle': WHATEVER THE INPUT: true; the input reads as it did. -/
def fnAskSingleSpec : ChangeSpec := { name := "fnAskSingle", fn := fun _ => fun
  | [d] => { results := [.lit (.bool true)], args := [d] }
  | _ => none }
def fnAskSingleRow : OpenClaim := { program := "ytoleimejikinmaa", sum := "3df33393c0ca2d8a0fc5b681d556f77a533e0b6255c9afa38cb4abeb44a38364", func := "loop.example/feedswarm/laws.FnAskSingle", spec := "fnAskSingle", unfollowed := true, recurses := true, apart := false }
def FnAskSingleSaid : Prop := fnAskSingleRow.holds Try.pinned (OpenSpec.ofChange fnAskSingleSpec)

/-- ITS FALSE NEIGHBOUR: 'it returns false'. Refute it at one input. -/
def fnAskSingleWrong : ChangeSpec := { name := "fnAskSingle", fn := fun _ => fun
  | [d] => { results := [.lit (.bool false)], args := [d] }
  | _ => none }
def FnAskSingleWrongFalsely : Prop := fnAskSingleRow.holds Try.pinned (OpenSpec.ofChange fnAskSingleWrong)

/-- 'laws.FnGotWaste': WHATEVER THE INPUT: true; the input reads as it did. -/
def fnGotWasteSpec : ChangeSpec := { name := "fnGotWaste", fn := fun _ => fun
  | [d] => { results := [.lit (.bool true)], args := [d] }
  | _ => none }
def fnGotWasteRow : OpenClaim := { program := "ytoleimejikinmaa", sum := "3df33393c0ca2d8a0fc5b681d556f77a533e0b6255c9afa38cb4abeb44a38364", func := "loop.example/feedswarm/laws.FnGotWaste", spec := "fnGotWaste", unfollowed := true, recurses := true, apart := false }
def FnGotWasteSaid : Prop := fnGotWasteRow.holds Try.pinned (OpenSpec.ofChange fnGotWasteSpec)

/-- ITS FALSE NEIGHBOUR: 'it returns false'. Refute it at one input. -/
def fnGotWasteWrong : ChangeSpec := { name := "fnGotWaste", fn := fun _ => fun
  | [d] => { results := [.lit (.bool false)], args := [d] }
  | _ => none }
def FnGotWasteWrongFalsely : Prop := fnGotWasteRow.holds Try.pinned (OpenSpec.ofChange fnGotWasteWrong)

/-- 'laws.FnGotTwice': WHATEVER THE INPUT: true; the input reads as it did. -/
def fnGotTwiceSpec : ChangeSpec := { name := "fnGotTwice", fn := fun _ => fun
  | [d] => { results := [.lit (.bool true)], args := [d] }
  | _ => none }
def fnGotTwiceRow : OpenClaim := { program := "ytoleimejikinmaa", sum := "3df33393c0ca2d8a0fc5b681d556f77a533e0b6255c9afa38cb4abeb44a38364", func := "loop.example/feedswarm/laws.FnGotTwice", spec := "fnGotTwice", unfollowed := true, recurses := true, apart := false }
def FnGotTwiceSaid : Prop := fnGotTwiceRow.holds Try.pinned (OpenSpec.ofChange fnGotTwiceSpec)

/-- ITS FALSE NEIGHBOUR: 'it returns false'. Refute it at one input. -/
def fnGotTwiceWrong : ChangeSpec := { name := "fnGotTwice", fn := fun _ => fun
  | [d] => { results := [.lit (.bool false)], args := [d] }
  | _ => none }
def FnGotTwiceWrongFalsely : Prop := fnGotTwiceRow.holds Try.pinned (OpenSpec.ofChange fnGotTwiceWrong)

/-- 'laws.FnDrop': WHATEVER THE INPUT: true; the input reads as it did. -/
def fnDropSpec : ChangeSpec := { name := "fnDrop", fn := fun _ => fun
  | [d] => { results := [.lit (.bool true)], args := [d] }
  | _ => none }
def fnDropRow : OpenClaim := { program := "ytoleimejikinmaa", sum := "3df33393c0ca2d8a0fc5b681d556f77a533e0b6255c9afa38cb4abeb44a38364", func := "loop.example/feedswarm/laws.FnDrop", spec := "fnDrop", unfollowed := true, recurses := true, apart := false }
def FnDropSaid : Prop := fnDropRow.holds Try.pinned (OpenSpec.ofChange fnDropSpec)

/-- ITS FALSE NEIGHBOUR: 'it returns false'. Refute it at one input. -/
def fnDropWrong : ChangeSpec := { name := "fnDrop", fn := fun _ => fun
  | [d] => { results := [.lit (.bool false)], args := [d] }
  | _ => none }
def FnDropWrongFalsely : Prop := fnDropRow.holds Try.pinned (OpenSpec.ofChange fnDropWrong)

/-- 'laws.FnRoom': WHATEVER THE INPUT: true; the input reads as it did. -/
def fnRoomSpec : ChangeSpec := { name := "fnRoom", fn := fun _ => fun
  | [d] => { results := [.lit (.bool true)], args := [d] }
  | _ => none }
def fnRoomRow : OpenClaim := { program := "ytoleimejikinmaa", sum := "3df33393c0ca2d8a0fc5b681d556f77a533e0b6255c9afa38cb4abeb44a38364", func := "loop.example/feedswarm/laws.FnRoom", spec := "fnRoom", unfollowed := true, recurses := true, apart := false }
def FnRoomSaid : Prop := fnRoomRow.holds Try.pinned (OpenSpec.ofChange fnRoomSpec)

/-- ITS FALSE NEIGHBOUR: 'it returns false'. Refute it at one input. -/
def fnRoomWrong : ChangeSpec := { name := "fnRoom", fn := fun _ => fun
  | [d] => { results := [.lit (.bool false)], args := [d] }
  | _ => none }
def FnRoomWrongFalsely : Prop := fnRoomRow.holds Try.pinned (OpenSpec.ofChange fnRoomWrong)

/-- 'laws.FnDropNone': WHATEVER THE INPUT: true; the input reads as it did. -/
def fnDropNoneSpec : ChangeSpec := { name := "fnDropNone", fn := fun _ => fun
  | [d] => { results := [.lit (.bool true)], args := [d] }
  | _ => none }
def fnDropNoneRow : OpenClaim := { program := "ytoleimejikinmaa", sum := "3df33393c0ca2d8a0fc5b681d556f77a533e0b6255c9afa38cb4abeb44a38364", func := "loop.example/feedswarm/laws.FnDropNone", spec := "fnDropNone", unfollowed := true, recurses := true, apart := false }
def FnDropNoneSaid : Prop := fnDropNoneRow.holds Try.pinned (OpenSpec.ofChange fnDropNoneSpec)

/-- ITS FALSE NEIGHBOUR: 'it returns false'. Refute it at one input. -/
def fnDropNoneWrong : ChangeSpec := { name := "fnDropNone", fn := fun _ => fun
  | [d] => { results := [.lit (.bool false)], args := [d] }
  | _ => none }
def FnDropNoneWrongFalsely : Prop := fnDropNoneRow.holds Try.pinned (OpenSpec.ofChange fnDropNoneWrong)

/-- 'laws.FnAskAgain': WHATEVER THE INPUT: true; the input reads as it did. -/
def fnAskAgainSpec : ChangeSpec := { name := "fnAskAgain", fn := fun _ => fun
  | [d] => { results := [.lit (.bool true)], args := [d] }
  | _ => none }
def fnAskAgainRow : OpenClaim := { program := "ytoleimejikinmaa", sum := "3df33393c0ca2d8a0fc5b681d556f77a533e0b6255c9afa38cb4abeb44a38364", func := "loop.example/feedswarm/laws.FnAskAgain", spec := "fnAskAgain", unfollowed := true, recurses := true, apart := false }
def FnAskAgainSaid : Prop := fnAskAgainRow.holds Try.pinned (OpenSpec.ofChange fnAskAgainSpec)

/-- ITS FALSE NEIGHBOUR: 'it returns false'. Refute it at one input. -/
def fnAskAgainWrong : ChangeSpec := { name := "fnAskAgain", fn := fun _ => fun
  | [d] => { results := [.lit (.bool false)], args := [d] }
  | _ => none }
def FnAskAgainWrongFalsely : Prop := fnAskAgainRow.holds Try.pinned (OpenSpec.ofChange fnAskAgainWrong)

/-- 'laws.FnAskEnd': WHATEVER THE INPUT: true; the input reads as it did. -/
def fnAskEndSpec : ChangeSpec := { name := "fnAskEnd", fn := fun _ => fun
  | [d] => { results := [.lit (.bool true)], args := [d] }
  | _ => none }
def fnAskEndRow : OpenClaim := { program := "ytoleimejikinmaa", sum := "3df33393c0ca2d8a0fc5b681d556f77a533e0b6255c9afa38cb4abeb44a38364", func := "loop.example/feedswarm/laws.FnAskEnd", spec := "fnAskEnd", unfollowed := true, recurses := true, apart := false }
def FnAskEndSaid : Prop := fnAskEndRow.holds Try.pinned (OpenSpec.ofChange fnAskEndSpec)

/-- ITS FALSE NEIGHBOUR: 'it returns false'. Refute it at one input. -/
def fnAskEndWrong : ChangeSpec := { name := "fnAskEnd", fn := fun _ => fun
  | [d] => { results := [.lit (.bool false)], args := [d] }
  | _ => none }
def FnAskEndWrongFalsely : Prop := fnAskEndRow.holds Try.pinned (OpenSpec.ofChange fnAskEndWrong)

/- THE SECOND FORM. 'bulk': how many values and letters a reading holds, each counted each time it is reached (what is shared counts as often as it is met; a slice's spare places count too). A statement '..UptoSaid' is the law's where the arguments, and the package variables that the reading takes, are together of bulk at most 1048576: NARROWER than '..Said'. Prove '..Said' where nothing that the law and all that it calls make is longer than what came in: it says more and counts as full. Else prove '..UptoSaid'. A law counts once. -/
mutual
def uptoBulk {H : Type} : DataW H → Nat
  | .lit (.string bytes) => bytes.length + 1
  | .lit _ => 1
  | .nil => 1
  | .ptr d => uptoBulk d + 1
  | .slice elems spare => uptoBulkAll elems + uptoBulkAll spare + 1
  | .agg parts => uptoBulkAll parts + 1
  | .iface _ d => uptoBulk d + 1
  | .map entries => uptoBulkEntries entries + 1
  | .held _ => 1
def uptoBulkAll {H : Type} : List (DataW H) → Nat
  | [] => 0
  | d :: r => uptoBulk d + uptoBulkAll r
def uptoBulkEntries {H : Type} : List (Lit × DataW H) → Nat
  | [] => 0
  | x :: r => uptoBulkEntry x + uptoBulkEntries r
def uptoBulkEntry {H : Type} : Lit × DataW H → Nat
  | (.string bytes, d) => bytes.length + uptoBulk d + 1
  | (_, d) => uptoBulk d + 1
 end
def uptoSmall : (H : Type) → List (DataW H) → Bool := fun _ ds => decide (uptoBulkAll ds ≤ 1048576)
def OpenSpec.upto (s : _root_.Go.ChangeSpec) : _root_.Go.OpenSpec := { _root_.Go.OpenSpec.ofChange s with cond := some uptoSmall }

/-- 'laws.FnAskTwice', WHERE WHAT IT READS IS OF BULK AT MOST 1048576: true; the input reads as it did. -/
def fnAskTwiceUptoRow : OpenClaim := { program := "ytoleimejikinmaa", sum := "3df33393c0ca2d8a0fc5b681d556f77a533e0b6255c9afa38cb4abeb44a38364", func := "loop.example/feedswarm/laws.FnAskTwice", spec := "fnAskTwice", unfollowed := true, recurses := true, apart := false, narrowed := true }
def FnAskTwiceUptoSaid : Prop := fnAskTwiceUptoRow.holds Try.pinned (OpenSpec.upto fnAskTwiceSpec)

/-- 'laws.FnAskRefused', WHERE WHAT IT READS IS OF BULK AT MOST 1048576: true; the input reads as it did. -/
def fnAskRefusedUptoRow : OpenClaim := { program := "ytoleimejikinmaa", sum := "3df33393c0ca2d8a0fc5b681d556f77a533e0b6255c9afa38cb4abeb44a38364", func := "loop.example/feedswarm/laws.FnAskRefused", spec := "fnAskRefused", unfollowed := true, recurses := true, apart := false, narrowed := true }
def FnAskRefusedUptoSaid : Prop := fnAskRefusedUptoRow.holds Try.pinned (OpenSpec.upto fnAskRefusedSpec)

/-- 'laws.FnAskSingle', WHERE WHAT IT READS IS OF BULK AT MOST 1048576: true; the input reads as it did. -/
def fnAskSingleUptoRow : OpenClaim := { program := "ytoleimejikinmaa", sum := "3df33393c0ca2d8a0fc5b681d556f77a533e0b6255c9afa38cb4abeb44a38364", func := "loop.example/feedswarm/laws.FnAskSingle", spec := "fnAskSingle", unfollowed := true, recurses := true, apart := false, narrowed := true }
def FnAskSingleUptoSaid : Prop := fnAskSingleUptoRow.holds Try.pinned (OpenSpec.upto fnAskSingleSpec)

/-- 'laws.FnGotWaste', WHERE WHAT IT READS IS OF BULK AT MOST 1048576: true; the input reads as it did. -/
def fnGotWasteUptoRow : OpenClaim := { program := "ytoleimejikinmaa", sum := "3df33393c0ca2d8a0fc5b681d556f77a533e0b6255c9afa38cb4abeb44a38364", func := "loop.example/feedswarm/laws.FnGotWaste", spec := "fnGotWaste", unfollowed := true, recurses := true, apart := false, narrowed := true }
def FnGotWasteUptoSaid : Prop := fnGotWasteUptoRow.holds Try.pinned (OpenSpec.upto fnGotWasteSpec)

/-- 'laws.FnGotTwice', WHERE WHAT IT READS IS OF BULK AT MOST 1048576: true; the input reads as it did. -/
def fnGotTwiceUptoRow : OpenClaim := { program := "ytoleimejikinmaa", sum := "3df33393c0ca2d8a0fc5b681d556f77a533e0b6255c9afa38cb4abeb44a38364", func := "loop.example/feedswarm/laws.FnGotTwice", spec := "fnGotTwice", unfollowed := true, recurses := true, apart := false, narrowed := true }
def FnGotTwiceUptoSaid : Prop := fnGotTwiceUptoRow.holds Try.pinned (OpenSpec.upto fnGotTwiceSpec)

/-- 'laws.FnDrop', WHERE WHAT IT READS IS OF BULK AT MOST 1048576: true; the input reads as it did. -/
def fnDropUptoRow : OpenClaim := { program := "ytoleimejikinmaa", sum := "3df33393c0ca2d8a0fc5b681d556f77a533e0b6255c9afa38cb4abeb44a38364", func := "loop.example/feedswarm/laws.FnDrop", spec := "fnDrop", unfollowed := true, recurses := true, apart := false, narrowed := true }
def FnDropUptoSaid : Prop := fnDropUptoRow.holds Try.pinned (OpenSpec.upto fnDropSpec)

/-- 'laws.FnRoom', WHERE WHAT IT READS IS OF BULK AT MOST 1048576: true; the input reads as it did. -/
def fnRoomUptoRow : OpenClaim := { program := "ytoleimejikinmaa", sum := "3df33393c0ca2d8a0fc5b681d556f77a533e0b6255c9afa38cb4abeb44a38364", func := "loop.example/feedswarm/laws.FnRoom", spec := "fnRoom", unfollowed := true, recurses := true, apart := false, narrowed := true }
def FnRoomUptoSaid : Prop := fnRoomUptoRow.holds Try.pinned (OpenSpec.upto fnRoomSpec)

/-- 'laws.FnDropNone', WHERE WHAT IT READS IS OF BULK AT MOST 1048576: true; the input reads as it did. -/
def fnDropNoneUptoRow : OpenClaim := { program := "ytoleimejikinmaa", sum := "3df33393c0ca2d8a0fc5b681d556f77a533e0b6255c9afa38cb4abeb44a38364", func := "loop.example/feedswarm/laws.FnDropNone", spec := "fnDropNone", unfollowed := true, recurses := true, apart := false, narrowed := true }
def FnDropNoneUptoSaid : Prop := fnDropNoneUptoRow.holds Try.pinned (OpenSpec.upto fnDropNoneSpec)

/-- 'laws.FnAskAgain', WHERE WHAT IT READS IS OF BULK AT MOST 1048576: true; the input reads as it did. -/
def fnAskAgainUptoRow : OpenClaim := { program := "ytoleimejikinmaa", sum := "3df33393c0ca2d8a0fc5b681d556f77a533e0b6255c9afa38cb4abeb44a38364", func := "loop.example/feedswarm/laws.FnAskAgain", spec := "fnAskAgain", unfollowed := true, recurses := true, apart := false, narrowed := true }
def FnAskAgainUptoSaid : Prop := fnAskAgainUptoRow.holds Try.pinned (OpenSpec.upto fnAskAgainSpec)

/-- 'laws.FnAskEnd', WHERE WHAT IT READS IS OF BULK AT MOST 1048576: true; the input reads as it did. -/
def fnAskEndUptoRow : OpenClaim := { program := "ytoleimejikinmaa", sum := "3df33393c0ca2d8a0fc5b681d556f77a533e0b6255c9afa38cb4abeb44a38364", func := "loop.example/feedswarm/laws.FnAskEnd", spec := "fnAskEnd", unfollowed := true, recurses := true, apart := false, narrowed := true }
def FnAskEndUptoSaid : Prop := fnAskEndUptoRow.holds Try.pinned (OpenSpec.upto fnAskEndSpec)

end Rows
end Go.Proofs.Ytoleimejikinmaa
