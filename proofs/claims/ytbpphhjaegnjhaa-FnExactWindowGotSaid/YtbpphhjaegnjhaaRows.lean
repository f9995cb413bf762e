/-
  No cell of these rows narrows 'for every input' (looked for: loops, veiled, ifaces, maps, wideKeys, modest, calm, conditions, laid).
  DERIVED. THE GIVEN ROWS OF THIS SEAT. 5 by the template 'for every input the law returns true; each argument reads behind the call as it read before'; 0 by the template 'total and deterministic' (their statements: YtbpphhjaegnjhaaTotals.lean).
  GIVEN WITH THE SEED: the statements are not yours to turn. If you find one false, say at which input.
  Laid BY PROGRAM, IN A SANDBOX (cutbox-rows.mjs): the forced cells as the released guide's own fill.sh prints them over the translation 0ae439c84d99f5d7… (all of the seat's roots in one cut). By AI agents, Wed Nov 11 2026. No macro, syntax, notation, axiom, sorry.
-/
import Derived.Test.YtbpphhjaegnjhaaChecked
import GoSem.Claim
import GoSem.ClaimJoined
import GoSem.ClaimMapViews
import Derived.JoinedTies
import Derived.KernelRfl
namespace Go.Proofs.Ytbpphhjaegnjhaa
/- THE CELL 'sum', in the pinned program and in every row, IS THE sha256 OF THE DUMP (.gsa) THAT YtbpphhjaegnjhaaProg.lean LOADS. Nothing in Lean hashes anything: it is a label: what it is worth is what the hold of that sum in a sandbox is worth. -/
noncomputable def Try.pinned : Pinned := { name := "ytbpphhjaegnjhaa", sum := "0ae439c84d99f5d7ea41368cf535d55deda376f4e7061c88ff2a62270501b148", checked := Try.checked }
namespace Rows
def none {H : Type} : Left H := { results := [], args := [] }

/-- 'laws.FnExactWindowValid': WHATEVER THE INPUT: true; the input reads as it did. -/
def fnExactWindowValidSpec : ChangeSpec := { name := "fnExactWindowValid", fn := fun _ => fun
  | [d] => { results := [.lit (.bool true)], args := [d] }
  | _ => none }
def fnExactWindowValidRow : OpenClaim := { program := "ytbpphhjaegnjhaa", sum := "0ae439c84d99f5d7ea41368cf535d55deda376f4e7061c88ff2a62270501b148", func := "loop.example/feedswarm/laws.FnExactWindowValid", spec := "fnExactWindowValid", unfollowed := true, recurses := true, apart := false }
def FnExactWindowValidSaid : Prop := fnExactWindowValidRow.holds Try.pinned (OpenSpec.ofChange fnExactWindowValidSpec)

/-- ITS FALSE NEIGHBOUR: 'it returns false'. Refute it at one input. -/
def fnExactWindowValidWrong : ChangeSpec := { name := "fnExactWindowValid", fn := fun _ => fun
  | [d] => { results := [.lit (.bool false)], args := [d] }
  | _ => none }
def FnExactWindowValidWrongFalsely : Prop := fnExactWindowValidRow.holds Try.pinned (OpenSpec.ofChange fnExactWindowValidWrong)

/-- 'laws.FnExactWindowAsk': WHATEVER THE INPUT: true; the input reads as it did. -/
def fnExactWindowAskSpec : ChangeSpec := { name := "fnExactWindowAsk", fn := fun _ => fun
  | [d1, d2, d3] => { results := [.lit (.bool true)], args := [d1, d2, d3] }
  | _ => none }
def fnExactWindowAskRow : OpenClaim := { program := "ytbpphhjaegnjhaa", sum := "0ae439c84d99f5d7ea41368cf535d55deda376f4e7061c88ff2a62270501b148", func := "loop.example/feedswarm/laws.FnExactWindowAsk", spec := "fnExactWindowAsk", unfollowed := true, recurses := true, apart := false }
def FnExactWindowAskSaid : Prop := fnExactWindowAskRow.holds Try.pinned (OpenSpec.ofChange fnExactWindowAskSpec)

/-- ITS FALSE NEIGHBOUR: 'it returns false'. Refute it at one input. -/
def fnExactWindowAskWrong : ChangeSpec := { name := "fnExactWindowAsk", fn := fun _ => fun
  | [d1, d2, d3] => { results := [.lit (.bool false)], args := [d1, d2, d3] }
  | _ => none }
def FnExactWindowAskWrongFalsely : Prop := fnExactWindowAskRow.holds Try.pinned (OpenSpec.ofChange fnExactWindowAskWrong)

/-- 'laws.FnExactWindowGot': WHATEVER THE INPUT: true; the input reads as it did. -/
def fnExactWindowGotSpec : ChangeSpec := { name := "fnExactWindowGot", fn := fun _ => fun
  | [d1, d2] => { results := [.lit (.bool true)], args := [d1, d2] }
  | _ => none }
def fnExactWindowGotRow : OpenClaim := { program := "ytbpphhjaegnjhaa", sum := "0ae439c84d99f5d7ea41368cf535d55deda376f4e7061c88ff2a62270501b148", func := "loop.example/feedswarm/laws.FnExactWindowGot", spec := "fnExactWindowGot", unfollowed := true, recurses := true, apart := false }
def FnExactWindowGotSaid : Prop := fnExactWindowGotRow.holds Try.pinned (OpenSpec.ofChange fnExactWindowGotSpec)

/-- ITS FALSE NEIGHBOUR: 'it returns false'. Refute it at one input. -/
def fnExactWindowGotWrong : ChangeSpec := { name := "fnExactWindowGot", fn := fun _ => fun
  | [d1, d2] => { results := [.lit (.bool false)], args := [d1, d2] }
  | _ => none }
def FnExactWindowGotWrongFalsely : Prop := fnExactWindowGotRow.holds Try.pinned (OpenSpec.ofChange fnExactWindowGotWrong)

/-- 'laws.FnExactWindowDrop': WHATEVER THE INPUT: true; the input reads as it did. -/
def fnExactWindowDropSpec : ChangeSpec := { name := "fnExactWindowDrop", fn := fun _ => fun
  | [d1, d2] => { results := [.lit (.bool true)], args := [d1, d2] }
  | _ => none }
def fnExactWindowDropRow : OpenClaim := { program := "ytbpphhjaegnjhaa", sum := "0ae439c84d99f5d7ea41368cf535d55deda376f4e7061c88ff2a62270501b148", func := "loop.example/feedswarm/laws.FnExactWindowDrop", spec := "fnExactWindowDrop", unfollowed := true, recurses := true, apart := false }
def FnExactWindowDropSaid : Prop := fnExactWindowDropRow.holds Try.pinned (OpenSpec.ofChange fnExactWindowDropSpec)

/-- ITS FALSE NEIGHBOUR: 'it returns false'. Refute it at one input. -/
def fnExactWindowDropWrong : ChangeSpec := { name := "fnExactWindowDrop", fn := fun _ => fun
  | [d1, d2] => { results := [.lit (.bool false)], args := [d1, d2] }
  | _ => none }
def FnExactWindowDropWrongFalsely : Prop := fnExactWindowDropRow.holds Try.pinned (OpenSpec.ofChange fnExactWindowDropWrong)

/-- 'laws.FnExactWindowRoom': WHATEVER THE INPUT: true; the input reads as it did. -/
def fnExactWindowRoomSpec : ChangeSpec := { name := "fnExactWindowRoom", fn := fun _ => fun
  | [d1, d2] => { results := [.lit (.bool true)], args := [d1, d2] }
  | _ => none }
def fnExactWindowRoomRow : OpenClaim := { program := "ytbpphhjaegnjhaa", sum := "0ae439c84d99f5d7ea41368cf535d55deda376f4e7061c88ff2a62270501b148", func := "loop.example/feedswarm/laws.FnExactWindowRoom", spec := "fnExactWindowRoom", unfollowed := true, recurses := true, apart := false }
def FnExactWindowRoomSaid : Prop := fnExactWindowRoomRow.holds Try.pinned (OpenSpec.ofChange fnExactWindowRoomSpec)

/-- ITS FALSE NEIGHBOUR: 'it returns false'. Refute it at one input. -/
def fnExactWindowRoomWrong : ChangeSpec := { name := "fnExactWindowRoom", fn := fun _ => fun
  | [d1, d2] => { results := [.lit (.bool false)], args := [d1, d2] }
  | _ => none }
def FnExactWindowRoomWrongFalsely : Prop := fnExactWindowRoomRow.holds Try.pinned (OpenSpec.ofChange fnExactWindowRoomWrong)

/- THE SECOND FORM. 'bulk': how many values and letters a reading holds, each counted each time it is reached (what is shared counts as often as it is met; a slice's spare places count too). A statement '..UptoSaid' is the law's where the arguments, and the package variables that the reading takes, are together of bulk at most 1048576: NARROWER than '..Said'. Prove '..Said' where nothing that the law and all that it calls make is longer than what came in: it says more and counts as full. Else prove '..UptoSaid'. A law counts once. -/
mutual
def uptoBulk {H : Type} : DataW H → Nat
  | .lit (.string bytes) => bytes.length + 1
  | .lit _ => 1
  | .nil => 1
  | .ptr d => uptoBulk d + 1
  | .slice elems spare => uptoBulkAll elems + uptoBulkAll spare + 1
  | .agg parts => uptoBulkAll parts + 1
  | .iface _ d => uptoBulk d + 1
  | .map entries => uptoBulkEntries entries + 1
  | .held _ => 1
def uptoBulkAll {H : Type} : List (DataW H) → Nat
  | [] => 0
  | d :: r => uptoBulk d + uptoBulkAll r
def uptoBulkEntries {H : Type} : List (Lit × DataW H) → Nat
  | [] => 0
  | x :: r => uptoBulkEntry x + uptoBulkEntries r
def uptoBulkEntry {H : Type} : Lit × DataW H → Nat
  | (.string bytes, d) => bytes.length + uptoBulk d + 1
  | (_, d) => uptoBulk d + 1
 end
def uptoSmall : (H : Type) → List (DataW H) → Bool := fun _ ds => decide (uptoBulkAll ds ≤ 1048576)
def OpenSpec.upto (s : _root_.Go.ChangeSpec) : _root_.Go.OpenSpec := { _root_.Go.OpenSpec.ofChange s with cond := some uptoSmall }

/-- 'laws.FnExactWindowValid', WHERE WHAT IT READS IS OF BULK AT MOST 1048576: true; the input reads as it did. -/
def fnExactWindowValidUptoRow : OpenClaim := { program := "ytbpphhjaegnjhaa", sum := "0ae439c84d99f5d7ea41368cf535d55deda376f4e7061c88ff2a62270501b148", func := "loop.example/feedswarm/laws.FnExactWindowValid", spec := "fnExactWindowValid", unfollowed := true, recurses := true, apart := false, narrowed := true }
def FnExactWindowValidUptoSaid : Prop := fnExactWindowValidUptoRow.holds Try.pinned (OpenSpec.upto fnExactWindowValidSpec)

/-- 'laws.FnExactWindowAsk', WHERE WHAT IT READS IS OF BULK AT MOST 1048576: true; the input reads as it did. -/
def fnExactWindowAskUptoRow : OpenClaim := { program := "ytbpphhjaegnjhaa", sum := "0ae439c84d99f5d7ea41368cf535d55deda376f4e7061c88ff2a62270501b148", func := "loop.example/feedswarm/laws.FnExactWindowAsk", spec := "fnExactWindowAsk", unfollowed := true, recurses := true, apart := false, narrowed := true }
def FnExactWindowAskUptoSaid : Prop := fnExactWindowAskUptoRow.holds Try.pinned (OpenSpec.upto fnExactWindowAskSpec)

/-- 'laws.FnExactWindowGot', WHERE WHAT IT READS IS OF BULK AT MOST 1048576: true; the input reads as it did. -/
def fnExactWindowGotUptoRow : OpenClaim := { program := "ytbpphhjaegnjhaa", sum := "0ae439c84d99f5d7ea41368cf535d55deda376f4e7061c88ff2a62270501b148", func := "loop.example/feedswarm/laws.FnExactWindowGot", spec := "fnExactWindowGot", unfollowed := true, recurses := true, apart := false, narrowed := true }
def FnExactWindowGotUptoSaid : Prop := fnExactWindowGotUptoRow.holds Try.pinned (OpenSpec.upto fnExactWindowGotSpec)

/-- 'laws.FnExactWindowDrop', WHERE WHAT IT READS IS OF BULK AT MOST 1048576: true; the input reads as it did. -/
def fnExactWindowDropUptoRow : OpenClaim := { program := "ytbpphhjaegnjhaa", sum := "0ae439c84d99f5d7ea41368cf535d55deda376f4e7061c88ff2a62270501b148", func := "loop.example/feedswarm/laws.FnExactWindowDrop", spec := "fnExactWindowDrop", unfollowed := true, recurses := true, apart := false, narrowed := true }
def FnExactWindowDropUptoSaid : Prop := fnExactWindowDropUptoRow.holds Try.pinned (OpenSpec.upto fnExactWindowDropSpec)

/-- 'laws.FnExactWindowRoom', WHERE WHAT IT READS IS OF BULK AT MOST 1048576: true; the input reads as it did. -/
def fnExactWindowRoomUptoRow : OpenClaim := { program := "ytbpphhjaegnjhaa", sum := "0ae439c84d99f5d7ea41368cf535d55deda376f4e7061c88ff2a62270501b148", func := "loop.example/feedswarm/laws.FnExactWindowRoom", spec := "fnExactWindowRoom", unfollowed := true, recurses := true, apart := false, narrowed := true }
def FnExactWindowRoomUptoSaid : Prop := fnExactWindowRoomUptoRow.holds Try.pinned (OpenSpec.upto fnExactWindowRoomSpec)

end Rows
end Go.Proofs.Ytbpphhjaegnjhaa
