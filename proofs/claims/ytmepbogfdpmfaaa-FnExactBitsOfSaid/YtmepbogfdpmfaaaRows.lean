/-
  No cell of these rows narrows 'for every input' (looked for: loops, veiled, ifaces, maps, wideKeys, modest, calm, conditions, laid).
  DERIVED. THE GIVEN ROWS OF THIS SEAT. 6 by the template 'for every input the law returns true; each argument reads behind the call as it read before'; 0 by the template 'total and deterministic' (their statements: YtmepbogfdpmfaaaTotals.lean).
  GIVEN WITH THE SEED: the statements are not yours to turn. If you find one false, say at which input.
  Laid BY PROGRAM, IN A SANDBOX (cutbox-rows.mjs): the forced cells as the released guide's own fill.sh prints them over the translation e9d78de891aaad80… (all of the seat's roots in one cut). By AI agents, Wed Nov 11 2026. No macro, syntax, notation, axiom, sorry.
-/
import Derived.Test.YtmepbogfdpmfaaaChecked
import GoSem.Claim
import GoSem.ClaimJoined
import GoSem.ClaimMapViews
import Derived.JoinedTies
import Derived.KernelRfl
namespace Go.Proofs.Ytmepbogfdpmfaaa
/- THE CELL 'sum', in the pinned program and in every row, IS THE sha256 OF THE DUMP (.gsa) THAT YtmepbogfdpmfaaaProg.lean LOADS. Nothing in Lean hashes anything: it is a label: what it is worth is what the hold of that sum in a sandbox is worth. -/
noncomputable def Try.pinned : Pinned := { name := "ytmepbogfdpmfaaa", sum := "e9d78de891aaad80f30a9fb2d9670bbaa1b007139d429412c17812317ec8fe2f", checked := Try.checked }
namespace Rows
def none {H : Type} : Left H := { results := [], args := [] }

/-- 'laws.FnRuns': WHATEVER THE INPUT: true; the input reads as it did. -/
def fnRunsSpec : ChangeSpec := { name := "fnRuns", fn := fun _ => fun
  | [d] => { results := [.lit (.bool true)], args := [d] }
  | _ => none }
def fnRunsRow : OpenClaim := { program := "ytmepbogfdpmfaaa", sum := "e9d78de891aaad80f30a9fb2d9670bbaa1b007139d429412c17812317ec8fe2f", func := "loop.example/feedswarm/laws.FnRuns", spec := "fnRuns", unfollowed := true, recurses := true, apart := false }
def FnRunsSaid : Prop := fnRunsRow.holds Try.pinned (OpenSpec.ofChange fnRunsSpec)

/-- ITS FALSE NEIGHBOUR: 'it returns false'. Refute it at one input. -/
def fnRunsWrong : ChangeSpec := { name := "fnRuns", fn := fun _ => fun
  | [d] => { results := [.lit (.bool false)], args := [d] }
  | _ => none }
def FnRunsWrongFalsely : Prop := fnRunsRow.holds Try.pinned (OpenSpec.ofChange fnRunsWrong)

/-- 'laws.FnRunsBack': WHATEVER THE INPUT: true; the input reads as it did. -/
def fnRunsBackSpec : ChangeSpec := { name := "fnRunsBack", fn := fun _ => fun
  | [d] => { results := [.lit (.bool true)], args := [d] }
  | _ => none }
def fnRunsBackRow : OpenClaim := { program := "ytmepbogfdpmfaaa", sum := "e9d78de891aaad80f30a9fb2d9670bbaa1b007139d429412c17812317ec8fe2f", func := "loop.example/feedswarm/laws.FnRunsBack", spec := "fnRunsBack", unfollowed := true, recurses := true, apart := false }
def FnRunsBackSaid : Prop := fnRunsBackRow.holds Try.pinned (OpenSpec.ofChange fnRunsBackSpec)

/-- ITS FALSE NEIGHBOUR: 'it returns false'. Refute it at one input. -/
def fnRunsBackWrong : ChangeSpec := { name := "fnRunsBack", fn := fun _ => fun
  | [d] => { results := [.lit (.bool false)], args := [d] }
  | _ => none }
def FnRunsBackWrongFalsely : Prop := fnRunsBackRow.holds Try.pinned (OpenSpec.ofChange fnRunsBackWrong)

/-- 'laws.FnRunsCount': WHATEVER THE INPUT: true; the input reads as it did. -/
def fnRunsCountSpec : ChangeSpec := { name := "fnRunsCount", fn := fun _ => fun
  | [d] => { results := [.lit (.bool true)], args := [d] }
  | _ => none }
def fnRunsCountRow : OpenClaim := { program := "ytmepbogfdpmfaaa", sum := "e9d78de891aaad80f30a9fb2d9670bbaa1b007139d429412c17812317ec8fe2f", func := "loop.example/feedswarm/laws.FnRunsCount", spec := "fnRunsCount", unfollowed := true, recurses := true, apart := false }
def FnRunsCountSaid : Prop := fnRunsCountRow.holds Try.pinned (OpenSpec.ofChange fnRunsCountSpec)

/-- ITS FALSE NEIGHBOUR: 'it returns false'. Refute it at one input. -/
def fnRunsCountWrong : ChangeSpec := { name := "fnRunsCount", fn := fun _ => fun
  | [d] => { results := [.lit (.bool false)], args := [d] }
  | _ => none }
def FnRunsCountWrongFalsely : Prop := fnRunsCountRow.holds Try.pinned (OpenSpec.ofChange fnRunsCountWrong)

/-- 'laws.FnRunsPositive': WHATEVER THE INPUT: true; the input reads as it did. -/
def fnRunsPositiveSpec : ChangeSpec := { name := "fnRunsPositive", fn := fun _ => fun
  | [d] => { results := [.lit (.bool true)], args := [d] }
  | _ => none }
def fnRunsPositiveRow : OpenClaim := { program := "ytmepbogfdpmfaaa", sum := "e9d78de891aaad80f30a9fb2d9670bbaa1b007139d429412c17812317ec8fe2f", func := "loop.example/feedswarm/laws.FnRunsPositive", spec := "fnRunsPositive", unfollowed := true, recurses := true, apart := false }
def FnRunsPositiveSaid : Prop := fnRunsPositiveRow.holds Try.pinned (OpenSpec.ofChange fnRunsPositiveSpec)

/-- ITS FALSE NEIGHBOUR: 'it returns false'. Refute it at one input. -/
def fnRunsPositiveWrong : ChangeSpec := { name := "fnRunsPositive", fn := fun _ => fun
  | [d] => { results := [.lit (.bool false)], args := [d] }
  | _ => none }
def FnRunsPositiveWrongFalsely : Prop := fnRunsPositiveRow.holds Try.pinned (OpenSpec.ofChange fnRunsPositiveWrong)

/-- 'laws.FnExactBitsRuns': WHATEVER THE INPUT: true; the input reads as it did. -/
def fnExactBitsRunsSpec : ChangeSpec := { name := "fnExactBitsRuns", fn := fun _ => fun
  | [d] => { results := [.lit (.bool true)], args := [d] }
  | _ => none }
def fnExactBitsRunsRow : OpenClaim := { program := "ytmepbogfdpmfaaa", sum := "e9d78de891aaad80f30a9fb2d9670bbaa1b007139d429412c17812317ec8fe2f", func := "loop.example/feedswarm/laws.FnExactBitsRuns", spec := "fnExactBitsRuns", unfollowed := true, recurses := true, apart := false }
def FnExactBitsRunsSaid : Prop := fnExactBitsRunsRow.holds Try.pinned (OpenSpec.ofChange fnExactBitsRunsSpec)

/-- ITS FALSE NEIGHBOUR: 'it returns false'. Refute it at one input. -/
def fnExactBitsRunsWrong : ChangeSpec := { name := "fnExactBitsRuns", fn := fun _ => fun
  | [d] => { results := [.lit (.bool false)], args := [d] }
  | _ => none }
def FnExactBitsRunsWrongFalsely : Prop := fnExactBitsRunsRow.holds Try.pinned (OpenSpec.ofChange fnExactBitsRunsWrong)

/-- 'laws.FnExactBitsOf': WHATEVER THE INPUT: true; the input reads as it did. -/
def fnExactBitsOfSpec : ChangeSpec := { name := "fnExactBitsOf", fn := fun _ => fun
  | [d] => { results := [.lit (.bool true)], args := [d] }
  | _ => none }
def fnExactBitsOfRow : OpenClaim := { program := "ytmepbogfdpmfaaa", sum := "e9d78de891aaad80f30a9fb2d9670bbaa1b007139d429412c17812317ec8fe2f", func := "loop.example/feedswarm/laws.FnExactBitsOf", spec := "fnExactBitsOf", unfollowed := true, recurses := true, apart := false }
def FnExactBitsOfSaid : Prop := fnExactBitsOfRow.holds Try.pinned (OpenSpec.ofChange fnExactBitsOfSpec)

/-- ITS FALSE NEIGHBOUR: 'it returns false'. Refute it at one input. -/
def fnExactBitsOfWrong : ChangeSpec := { name := "fnExactBitsOf", fn := fun _ => fun
  | [d] => { results := [.lit (.bool false)], args := [d] }
  | _ => none }
def FnExactBitsOfWrongFalsely : Prop := fnExactBitsOfRow.holds Try.pinned (OpenSpec.ofChange fnExactBitsOfWrong)

/- THE SECOND FORM. 'bulk': how many values and letters a reading holds, each counted each time it is reached (what is shared counts as often as it is met; a slice's spare places count too). A statement '..UptoSaid' is the law's where the arguments, and the package variables that the reading takes, are together of bulk at most 1048576: NARROWER than '..Said'. Prove '..Said' where nothing that the law and all that it calls make is longer than what came in: it says more and counts as full. Else prove '..UptoSaid'. A law counts once. -/
mutual
def uptoBulk {H : Type} : DataW H → Nat
  | .lit (.string bytes) => bytes.length + 1
  | .lit _ => 1
  | .nil => 1
  | .ptr d => uptoBulk d + 1
  | .slice elems spare => uptoBulkAll elems + uptoBulkAll spare + 1
  | .agg parts => uptoBulkAll parts + 1
  | .iface _ d => uptoBulk d + 1
  | .map entries => uptoBulkEntries entries + 1
  | .held _ => 1
def uptoBulkAll {H : Type} : List (DataW H) → Nat
  | [] => 0
  | d :: r => uptoBulk d + uptoBulkAll r
def uptoBulkEntries {H : Type} : List (Lit × DataW H) → Nat
  | [] => 0
  | x :: r => uptoBulkEntry x + uptoBulkEntries r
def uptoBulkEntry {H : Type} : Lit × DataW H → Nat
  | (.string bytes, d) => bytes.length + uptoBulk d + 1
  | (_, d) => uptoBulk d + 1
 end
def uptoSmall : (H : Type) → List (DataW H) → Bool := fun _ ds => decide (uptoBulkAll ds ≤ 1048576)
def OpenSpec.upto (s : _root_.Go.ChangeSpec) : _root_.Go.OpenSpec := { _root_.Go.OpenSpec.ofChange s with cond := some uptoSmall }

/-- 'laws.FnRuns', WHERE WHAT IT READS IS OF BULK AT MOST 1048576: true; the input reads as it did. -/
def fnRunsUptoRow : OpenClaim := { program := "ytmepbogfdpmfaaa", sum := "e9d78de891aaad80f30a9fb2d9670bbaa1b007139d429412c17812317ec8fe2f", func := "loop.example/feedswarm/laws.FnRuns", spec := "fnRuns", unfollowed := true, recurses := true, apart := false, narrowed := true }
def FnRunsUptoSaid : Prop := fnRunsUptoRow.holds Try.pinned (OpenSpec.upto fnRunsSpec)

/-- 'laws.FnRunsBack', WHERE WHAT IT READS IS OF BULK AT MOST 1048576: true; the input reads as it did. -/
def fnRunsBackUptoRow : OpenClaim := { program := "ytmepbogfdpmfaaa", sum := "e9d78de891aaad80f30a9fb2d9670bbaa1b007139d429412c17812317ec8fe2f", func := "loop.example/feedswarm/laws.FnRunsBack", spec := "fnRunsBack", unfollowed := true, recurses := true, apart := false, narrowed := true }
def FnRunsBackUptoSaid : Prop := fnRunsBackUptoRow.holds Try.pinned (OpenSpec.upto fnRunsBackSpec)

/-- 'laws.FnRunsCount', WHERE WHAT IT READS IS OF BULK AT MOST 1048576: true; the input reads as it did. -/
def fnRunsCountUptoRow : OpenClaim := { program := "ytmepbogfdpmfaaa", sum := "e9d78de891aaad80f30a9fb2d9670bbaa1b007139d429412c17812317ec8fe2f", func := "loop.example/feedswarm/laws.FnRunsCount", spec := "fnRunsCount", unfollowed := true, recurses := true, apart := false, narrowed := true }
def FnRunsCountUptoSaid : Prop := fnRunsCountUptoRow.holds Try.pinned (OpenSpec.upto fnRunsCountSpec)

/-- 'laws.FnRunsPositive', WHERE WHAT IT READS IS OF BULK AT MOST 1048576: true; the input reads as it did. -/
def fnRunsPositiveUptoRow : OpenClaim := { program := "ytmepbogfdpmfaaa", sum := "e9d78de891aaad80f30a9fb2d9670bbaa1b007139d429412c17812317ec8fe2f", func := "loop.example/feedswarm/laws.FnRunsPositive", spec := "fnRunsPositive", unfollowed := true, recurses := true, apart := false, narrowed := true }
def FnRunsPositiveUptoSaid : Prop := fnRunsPositiveUptoRow.holds Try.pinned (OpenSpec.upto fnRunsPositiveSpec)

/-- 'laws.FnExactBitsRuns', WHERE WHAT IT READS IS OF BULK AT MOST 1048576: true; the input reads as it did. -/
def fnExactBitsRunsUptoRow : OpenClaim := { program := "ytmepbogfdpmfaaa", sum := "e9d78de891aaad80f30a9fb2d9670bbaa1b007139d429412c17812317ec8fe2f", func := "loop.example/feedswarm/laws.FnExactBitsRuns", spec := "fnExactBitsRuns", unfollowed := true, recurses := true, apart := false, narrowed := true }
def FnExactBitsRunsUptoSaid : Prop := fnExactBitsRunsUptoRow.holds Try.pinned (OpenSpec.upto fnExactBitsRunsSpec)

/-- 'laws.FnExactBitsOf', WHERE WHAT IT READS IS OF BULK AT MOST 1048576: true; the input reads as it did. -/
def fnExactBitsOfUptoRow : OpenClaim := { program := "ytmepbogfdpmfaaa", sum := "e9d78de891aaad80f30a9fb2d9670bbaa1b007139d429412c17812317ec8fe2f", func := "loop.example/feedswarm/laws.FnExactBitsOf", spec := "fnExactBitsOf", unfollowed := true, recurses := true, apart := false, narrowed := true }
def FnExactBitsOfUptoSaid : Prop := fnExactBitsOfUptoRow.holds Try.pinned (OpenSpec.upto fnExactBitsOfSpec)

end Rows
end Go.Proofs.Ytmepbogfdpmfaaa
