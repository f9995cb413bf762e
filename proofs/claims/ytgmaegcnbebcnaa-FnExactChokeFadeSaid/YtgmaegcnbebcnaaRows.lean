/-
  No cell of these rows narrows 'for every input' (looked for: loops, veiled, ifaces, maps, wideKeys, modest, calm, conditions, laid).
  DERIVED. THE GIVEN ROWS OF THIS SEAT. 4 by the template 'for every input the law returns true; each argument reads behind the call as it read before'; 0 by the template 'total and deterministic' (their statements: YtgmaegcnbebcnaaTotals.lean).
  GIVEN WITH THE SEED: the statements are not yours to turn. If you find one false, say at which input.
  Laid BY PROGRAM, IN A SANDBOX (cutbox-rows.mjs): the forced cells as the released guide's own fill.sh prints them over the translation eac2d22e2bb9ea3b… (all of the seat's roots in one cut). By AI agents, Wed Nov 11 2026. No macro, syntax, notation, axiom, sorry.
-/
import Derived.Test.YtgmaegcnbebcnaaChecked
import GoSem.Claim
import GoSem.ClaimJoined
import GoSem.ClaimMapViews
import Derived.JoinedTies
import Derived.KernelRfl
namespace Go.Proofs.Ytgmaegcnbebcnaa
/- THE CELL 'sum', in the pinned program and in every row, IS THE sha256 OF THE DUMP (.gsa) THAT YtgmaegcnbebcnaaProg.lean LOADS. Nothing in Lean hashes anything: it is a label: what it is worth is what the hold of that sum in a sandbox is worth. -/
noncomputable def Try.pinned : Pinned := { name := "ytgmaegcnbebcnaa", sum := "eac2d22e2bb9ea3b1167e5c4419be5bca5d8022451d3ef642ce1f80c6fd639a8", checked := Try.checked }
namespace Rows
def none {H : Type} : Left H := { results := [], args := [] }

/-- 'laws.FnExactChokeServed': WHATEVER THE INPUT: true; the input reads as it did. -/
def fnExactChokeServedSpec : ChangeSpec := { name := "fnExactChokeServed", fn := fun _ => fun
  | [d1, d2] => { results := [.lit (.bool true)], args := [d1, d2] }
  | _ => none }
def fnExactChokeServedRow : OpenClaim := { program := "ytgmaegcnbebcnaa", sum := "eac2d22e2bb9ea3b1167e5c4419be5bca5d8022451d3ef642ce1f80c6fd639a8", func := "loop.example/feedswarm/laws.FnExactChokeServed", spec := "fnExactChokeServed", unfollowed := true, recurses := true, apart := false }
def FnExactChokeServedSaid : Prop := fnExactChokeServedRow.holds Try.pinned (OpenSpec.ofChange fnExactChokeServedSpec)

/-- ITS FALSE NEIGHBOUR: 'it returns false'. Refute it at one input. -/
def fnExactChokeServedWrong : ChangeSpec := { name := "fnExactChokeServed", fn := fun _ => fun
  | [d1, d2] => { results := [.lit (.bool false)], args := [d1, d2] }
  | _ => none }
def FnExactChokeServedWrongFalsely : Prop := fnExactChokeServedRow.holds Try.pinned (OpenSpec.ofChange fnExactChokeServedWrong)

/-- 'laws.FnExactChokeTurn': WHATEVER THE INPUT: true; the input reads as it did. -/
def fnExactChokeTurnSpec : ChangeSpec := { name := "fnExactChokeTurn", fn := fun _ => fun
  | [d1, d2] => { results := [.lit (.bool true)], args := [d1, d2] }
  | _ => none }
def fnExactChokeTurnRow : OpenClaim := { program := "ytgmaegcnbebcnaa", sum := "eac2d22e2bb9ea3b1167e5c4419be5bca5d8022451d3ef642ce1f80c6fd639a8", func := "loop.example/feedswarm/laws.FnExactChokeTurn", spec := "fnExactChokeTurn", unfollowed := true, recurses := true, apart := false }
def FnExactChokeTurnSaid : Prop := fnExactChokeTurnRow.holds Try.pinned (OpenSpec.ofChange fnExactChokeTurnSpec)

/-- ITS FALSE NEIGHBOUR: 'it returns false'. Refute it at one input. -/
def fnExactChokeTurnWrong : ChangeSpec := { name := "fnExactChokeTurn", fn := fun _ => fun
  | [d1, d2] => { results := [.lit (.bool false)], args := [d1, d2] }
  | _ => none }
def FnExactChokeTurnWrongFalsely : Prop := fnExactChokeTurnRow.holds Try.pinned (OpenSpec.ofChange fnExactChokeTurnWrong)

/-- 'laws.FnExactChokeGive': WHATEVER THE INPUT: true; the input reads as it did. -/
def fnExactChokeGiveSpec : ChangeSpec := { name := "fnExactChokeGive", fn := fun _ => fun
  | [d1, d2] => { results := [.lit (.bool true)], args := [d1, d2] }
  | _ => none }
def fnExactChokeGiveRow : OpenClaim := { program := "ytgmaegcnbebcnaa", sum := "eac2d22e2bb9ea3b1167e5c4419be5bca5d8022451d3ef642ce1f80c6fd639a8", func := "loop.example/feedswarm/laws.FnExactChokeGive", spec := "fnExactChokeGive", unfollowed := true, recurses := true, apart := false }
def FnExactChokeGiveSaid : Prop := fnExactChokeGiveRow.holds Try.pinned (OpenSpec.ofChange fnExactChokeGiveSpec)

/-- ITS FALSE NEIGHBOUR: 'it returns false'. Refute it at one input. -/
def fnExactChokeGiveWrong : ChangeSpec := { name := "fnExactChokeGive", fn := fun _ => fun
  | [d1, d2] => { results := [.lit (.bool false)], args := [d1, d2] }
  | _ => none }
def FnExactChokeGiveWrongFalsely : Prop := fnExactChokeGiveRow.holds Try.pinned (OpenSpec.ofChange fnExactChokeGiveWrong)

/-- 'laws.FnExactChokeFade': WHATEVER THE INPUT: true; the input reads as it did. -/
def fnExactChokeFadeSpec : ChangeSpec := { name := "fnExactChokeFade", fn := fun _ => fun
  | [d] => { results := [.lit (.bool true)], args := [d] }
  | _ => none }
def fnExactChokeFadeRow : OpenClaim := { program := "ytgmaegcnbebcnaa", sum := "eac2d22e2bb9ea3b1167e5c4419be5bca5d8022451d3ef642ce1f80c6fd639a8", func := "loop.example/feedswarm/laws.FnExactChokeFade", spec := "fnExactChokeFade", unfollowed := true, recurses := true, apart := false }
def FnExactChokeFadeSaid : Prop := fnExactChokeFadeRow.holds Try.pinned (OpenSpec.ofChange fnExactChokeFadeSpec)

/-- ITS FALSE NEIGHBOUR: 'it returns false'. Refute it at one input. -/
def fnExactChokeFadeWrong : ChangeSpec := { name := "fnExactChokeFade", fn := fun _ => fun
  | [d] => { results := [.lit (.bool false)], args := [d] }
  | _ => none }
def FnExactChokeFadeWrongFalsely : Prop := fnExactChokeFadeRow.holds Try.pinned (OpenSpec.ofChange fnExactChokeFadeWrong)

/- THE SECOND FORM. 'bulk': how many values and letters a reading holds, each counted each time it is reached (what is shared counts as often as it is met; a slice's spare places count too). A statement '..UptoSaid' is the law's where the arguments, and the package variables that the reading takes, are together of bulk at most 1048576: NARROWER than '..Said'. Prove '..Said' where nothing that the law and all that it calls make is longer than what came in: it says more and counts as full. Else prove '..UptoSaid'. A law counts once. -/
mutual
def uptoBulk {H : Type} : DataW H → Nat
  | .lit (.string bytes) => bytes.length + 1
  | .lit _ => 1
  | .nil => 1
  | .ptr d => uptoBulk d + 1
  | .slice elems spare => uptoBulkAll elems + uptoBulkAll spare + 1
  | .agg parts => uptoBulkAll parts + 1
  | .iface _ d => uptoBulk d + 1
  | .map entries => uptoBulkEntries entries + 1
  | .held _ => 1
def uptoBulkAll {H : Type} : List (DataW H) → Nat
  | [] => 0
  | d :: r => uptoBulk d + uptoBulkAll r
def uptoBulkEntries {H : Type} : List (Lit × DataW H) → Nat
  | [] => 0
  | x :: r => uptoBulkEntry x + uptoBulkEntries r
def uptoBulkEntry {H : Type} : Lit × DataW H → Nat
  | (.string bytes, d) => bytes.length + uptoBulk d + 1
  | (_, d) => uptoBulk d + 1
 end
def uptoSmall : (H : Type) → List (DataW H) → Bool := fun _ ds => decide (uptoBulkAll ds ≤ 1048576)
def OpenSpec.upto (s : _root_.Go.ChangeSpec) : _root_.Go.OpenSpec := { _root_.Go.OpenSpec.ofChange s with cond := some uptoSmall }

/-- 'laws.FnExactChokeServed', WHERE WHAT IT READS IS OF BULK AT MOST 1048576: true; the input reads as it did. -/
def fnExactChokeServedUptoRow : OpenClaim := { program := "ytgmaegcnbebcnaa", sum := "eac2d22e2bb9ea3b1167e5c4419be5bca5d8022451d3ef642ce1f80c6fd639a8", func := "loop.example/feedswarm/laws.FnExactChokeServed", spec := "fnExactChokeServed", unfollowed := true, recurses := true, apart := false, narrowed := true }
def FnExactChokeServedUptoSaid : Prop := fnExactChokeServedUptoRow.holds Try.pinned (OpenSpec.upto fnExactChokeServedSpec)

/-- 'laws.FnExactChokeTurn', WHERE WHAT IT READS IS OF BULK AT MOST 1048576: true; the input reads as it did. -/
def fnExactChokeTurnUptoRow : OpenClaim := { program := "ytgmaegcnbebcnaa", sum := "eac2d22e2bb9ea3b1167e5c4419be5bca5d8022451d3ef642ce1f80c6fd639a8", func := "loop.example/feedswarm/laws.FnExactChokeTurn", spec := "fnExactChokeTurn", unfollowed := true, recurses := true, apart := false, narrowed := true }
def FnExactChokeTurnUptoSaid : Prop := fnExactChokeTurnUptoRow.holds Try.pinned (OpenSpec.upto fnExactChokeTurnSpec)

/-- 'laws.FnExactChokeGive', WHERE WHAT IT READS IS OF BULK AT MOST 1048576: true; the input reads as it did. -/
def fnExactChokeGiveUptoRow : OpenClaim := { program := "ytgmaegcnbebcnaa", sum := "eac2d22e2bb9ea3b1167e5c4419be5bca5d8022451d3ef642ce1f80c6fd639a8", func := "loop.example/feedswarm/laws.FnExactChokeGive", spec := "fnExactChokeGive", unfollowed := true, recurses := true, apart := false, narrowed := true }
def FnExactChokeGiveUptoSaid : Prop := fnExactChokeGiveUptoRow.holds Try.pinned (OpenSpec.upto fnExactChokeGiveSpec)

/-- 'laws.FnExactChokeFade', WHERE WHAT IT READS IS OF BULK AT MOST 1048576: true; the input reads as it did. -/
def fnExactChokeFadeUptoRow : OpenClaim := { program := "ytgmaegcnbebcnaa", sum := "eac2d22e2bb9ea3b1167e5c4419be5bca5d8022451d3ef642ce1f80c6fd639a8", func := "loop.example/feedswarm/laws.FnExactChokeFade", spec := "fnExactChokeFade", unfollowed := true, recurses := true, apart := false, narrowed := true }
def FnExactChokeFadeUptoSaid : Prop := fnExactChokeFadeUptoRow.holds Try.pinned (OpenSpec.upto fnExactChokeFadeSpec)

end Rows
end Go.Proofs.Ytgmaegcnbebcnaa
