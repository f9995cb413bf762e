/-
  No cell of these rows narrows 'for every input' (looked for: loops, veiled, ifaces, maps, wideKeys, modest, calm, conditions, laid).
  DERIVED. THE GIVEN ROWS OF THIS SEAT. 4 by the template 'for every input the law returns true; each argument reads behind the call as it read before'; 0 by the template 'total and deterministic' (their statements: YtjnpkcnnfojmpaaTotals.lean).
  GIVEN WITH THE SEED: the statements are not yours to turn. If you find one false, say at which input.
  Laid BY PROGRAM, IN A SANDBOX (cutbox-rows.mjs): the forced cells as the released guide's own fill.sh prints them over the translation 96e8e7455fb8db74… (all of the seat's roots in one cut). By AI agents, Wed Nov 11 2026. No macro, syntax, notation, axiom, sorry.
-/
import Derived.Test.YtjnpkcnnfojmpaaChecked
import GoSem.Claim
import GoSem.ClaimJoined
import GoSem.ClaimMapViews
import Derived.JoinedTies
import Derived.KernelRfl
namespace Go.Proofs.Ytjnpkcnnfojmpaa
/- THE CELL 'sum', in the pinned program and in every row, IS THE sha256 OF THE DUMP (.gsa) THAT YtjnpkcnnfojmpaaProg.lean LOADS. Nothing in Lean hashes anything: it is a label: what it is worth is what the hold of that sum in a sandbox is worth. -/
noncomputable def Try.pinned : Pinned := { name := "ytjnpkcnnfojmpaa", sum := "96e8e7455fb8db746e314501d04c4e259b6a01be58f1d9898cc5009b75c188fa", checked := Try.checked }
namespace Rows
def none {H : Type} : Left H := { results := [], args := [] }

/-- 'laws.FnExactRareCount': WHATEVER THE INPUT: true; the input reads as it did. -/
def fnExactRareCountSpec : ChangeSpec := { name := "fnExactRareCount", fn := fun _ => fun
  | [d1, d2] => { results := [.lit (.bool true)], args := [d1, d2] }
  | _ => none }
def fnExactRareCountRow : OpenClaim := { program := "ytjnpkcnnfojmpaa", sum := "96e8e7455fb8db746e314501d04c4e259b6a01be58f1d9898cc5009b75c188fa", func := "loop.example/feedswarm/laws.FnExactRareCount", spec := "fnExactRareCount", unfollowed := true, recurses := true, apart := false }
def FnExactRareCountSaid : Prop := fnExactRareCountRow.holds Try.pinned (OpenSpec.ofChange fnExactRareCountSpec)

/-- ITS FALSE NEIGHBOUR: 'it returns false'. Refute it at one input. -/
def fnExactRareCountWrong : ChangeSpec := { name := "fnExactRareCount", fn := fun _ => fun
  | [d1, d2] => { results := [.lit (.bool false)], args := [d1, d2] }
  | _ => none }
def FnExactRareCountWrongFalsely : Prop := fnExactRareCountRow.holds Try.pinned (OpenSpec.ofChange fnExactRareCountWrong)

/-- 'laws.FnExactRareOrder': WHATEVER THE INPUT: true; the input reads as it did. -/
def fnExactRareOrderSpec : ChangeSpec := { name := "fnExactRareOrder", fn := fun _ => fun
  | [d1, d2] => { results := [.lit (.bool true)], args := [d1, d2] }
  | _ => none }
def fnExactRareOrderRow : OpenClaim := { program := "ytjnpkcnnfojmpaa", sum := "96e8e7455fb8db746e314501d04c4e259b6a01be58f1d9898cc5009b75c188fa", func := "loop.example/feedswarm/laws.FnExactRareOrder", spec := "fnExactRareOrder", unfollowed := true, recurses := true, apart := false }
def FnExactRareOrderSaid : Prop := fnExactRareOrderRow.holds Try.pinned (OpenSpec.ofChange fnExactRareOrderSpec)

/-- ITS FALSE NEIGHBOUR: 'it returns false'. Refute it at one input. -/
def fnExactRareOrderWrong : ChangeSpec := { name := "fnExactRareOrder", fn := fun _ => fun
  | [d1, d2] => { results := [.lit (.bool false)], args := [d1, d2] }
  | _ => none }
def FnExactRareOrderWrongFalsely : Prop := fnExactRareOrderRow.holds Try.pinned (OpenSpec.ofChange fnExactRareOrderWrong)

/-- 'laws.FnExactRarePick': WHATEVER THE INPUT: true; the input reads as it did. -/
def fnExactRarePickSpec : ChangeSpec := { name := "fnExactRarePick", fn := fun _ => fun
  | [d1, d2, d3] => { results := [.lit (.bool true)], args := [d1, d2, d3] }
  | _ => none }
def fnExactRarePickRow : OpenClaim := { program := "ytjnpkcnnfojmpaa", sum := "96e8e7455fb8db746e314501d04c4e259b6a01be58f1d9898cc5009b75c188fa", func := "loop.example/feedswarm/laws.FnExactRarePick", spec := "fnExactRarePick", unfollowed := true, recurses := true, apart := false }
def FnExactRarePickSaid : Prop := fnExactRarePickRow.holds Try.pinned (OpenSpec.ofChange fnExactRarePickSpec)

/-- ITS FALSE NEIGHBOUR: 'it returns false'. Refute it at one input. -/
def fnExactRarePickWrong : ChangeSpec := { name := "fnExactRarePick", fn := fun _ => fun
  | [d1, d2, d3] => { results := [.lit (.bool false)], args := [d1, d2, d3] }
  | _ => none }
def FnExactRarePickWrongFalsely : Prop := fnExactRarePickRow.holds Try.pinned (OpenSpec.ofChange fnExactRarePickWrong)

/-- 'laws.FnExactRareWhole': WHATEVER THE INPUT: true; the input reads as it did. -/
def fnExactRareWholeSpec : ChangeSpec := { name := "fnExactRareWhole", fn := fun _ => fun
  | [d1, d2] => { results := [.lit (.bool true)], args := [d1, d2] }
  | _ => none }
def fnExactRareWholeRow : OpenClaim := { program := "ytjnpkcnnfojmpaa", sum := "96e8e7455fb8db746e314501d04c4e259b6a01be58f1d9898cc5009b75c188fa", func := "loop.example/feedswarm/laws.FnExactRareWhole", spec := "fnExactRareWhole", unfollowed := true, recurses := true, apart := false }
def FnExactRareWholeSaid : Prop := fnExactRareWholeRow.holds Try.pinned (OpenSpec.ofChange fnExactRareWholeSpec)

/-- ITS FALSE NEIGHBOUR: 'it returns false'. Refute it at one input. -/
def fnExactRareWholeWrong : ChangeSpec := { name := "fnExactRareWhole", fn := fun _ => fun
  | [d1, d2] => { results := [.lit (.bool false)], args := [d1, d2] }
  | _ => none }
def FnExactRareWholeWrongFalsely : Prop := fnExactRareWholeRow.holds Try.pinned (OpenSpec.ofChange fnExactRareWholeWrong)

/- THE SECOND FORM. 'bulk': how many values and letters a reading holds, each counted each time it is reached (what is shared counts as often as it is met; a slice's spare places count too). A statement '..UptoSaid' is the law's where the arguments, and the package variables that the reading takes, are together of bulk at most 1048576: NARROWER than '..Said'. Prove '..Said' where nothing that the law and all that it calls make is longer than what came in: it says more and counts as full. Else prove '..UptoSaid'. A law counts once. -/
mutual
def uptoBulk {H : Type} : DataW H → Nat
  | .lit (.string bytes) => bytes.length + 1
  | .lit _ => 1
  | .nil => 1
  | .ptr d => uptoBulk d + 1
  | .slice elems spare => uptoBulkAll elems + uptoBulkAll spare + 1
  | .agg parts => uptoBulkAll parts + 1
  | .iface _ d => uptoBulk d + 1
  | .map entries => uptoBulkEntries entries + 1
  | .held _ => 1
def uptoBulkAll {H : Type} : List (DataW H) → Nat
  | [] => 0
  | d :: r => uptoBulk d + uptoBulkAll r
def uptoBulkEntries {H : Type} : List (Lit × DataW H) → Nat
  | [] => 0
  | x :: r => uptoBulkEntry x + uptoBulkEntries r
def uptoBulkEntry {H : Type} : Lit × DataW H → Nat
  | (.string bytes, d) => bytes.length + uptoBulk d + 1
  | (_, d) => uptoBulk d + 1
 end
def uptoSmall : (H : Type) → List (DataW H) → Bool := fun _ ds => decide (uptoBulkAll ds ≤ 1048576)
def OpenSpec.upto (s : _root_.Go.ChangeSpec) : _root_.Go.OpenSpec := { _root_.Go.OpenSpec.ofChange s with cond := some uptoSmall }

/-- 'laws.FnExactRareCount', WHERE WHAT IT READS IS OF BULK AT MOST 1048576: true; the input reads as it did. -/
def fnExactRareCountUptoRow : OpenClaim := { program := "ytjnpkcnnfojmpaa", sum := "96e8e7455fb8db746e314501d04c4e259b6a01be58f1d9898cc5009b75c188fa", func := "loop.example/feedswarm/laws.FnExactRareCount", spec := "fnExactRareCount", unfollowed := true, recurses := true, apart := false, narrowed := true }
def FnExactRareCountUptoSaid : Prop := fnExactRareCountUptoRow.holds Try.pinned (OpenSpec.upto fnExactRareCountSpec)

/-- 'laws.FnExactRareOrder', WHERE WHAT IT READS IS OF BULK AT MOST 1048576: true; the input reads as it did. -/
def fnExactRareOrderUptoRow : OpenClaim := { program := "ytjnpkcnnfojmpaa", sum := "96e8e7455fb8db746e314501d04c4e259b6a01be58f1d9898cc5009b75c188fa", func := "loop.example/feedswarm/laws.FnExactRareOrder", spec := "fnExactRareOrder", unfollowed := true, recurses := true, apart := false, narrowed := true }
def FnExactRareOrderUptoSaid : Prop := fnExactRareOrderUptoRow.holds Try.pinned (OpenSpec.upto fnExactRareOrderSpec)

/-- 'laws.FnExactRarePick', WHERE WHAT IT READS IS OF BULK AT MOST 1048576: true; the input reads as it did. -/
def fnExactRarePickUptoRow : OpenClaim := { program := "ytjnpkcnnfojmpaa", sum := "96e8e7455fb8db746e314501d04c4e259b6a01be58f1d9898cc5009b75c188fa", func := "loop.example/feedswarm/laws.FnExactRarePick", spec := "fnExactRarePick", unfollowed := true, recurses := true, apart := false, narrowed := true }
def FnExactRarePickUptoSaid : Prop := fnExactRarePickUptoRow.holds Try.pinned (OpenSpec.upto fnExactRarePickSpec)

/-- 'laws.FnExactRareWhole', WHERE WHAT IT READS IS OF BULK AT MOST 1048576: true; the input reads as it did. -/
def fnExactRareWholeUptoRow : OpenClaim := { program := "ytjnpkcnnfojmpaa", sum := "96e8e7455fb8db746e314501d04c4e259b6a01be58f1d9898cc5009b75c188fa", func := "loop.example/feedswarm/laws.FnExactRareWhole", spec := "fnExactRareWhole", unfollowed := true, recurses := true, apart := false, narrowed := true }
def FnExactRareWholeUptoSaid : Prop := fnExactRareWholeUptoRow.holds Try.pinned (OpenSpec.upto fnExactRareWholeSpec)

end Rows
end Go.Proofs.Ytjnpkcnnfojmpaa
