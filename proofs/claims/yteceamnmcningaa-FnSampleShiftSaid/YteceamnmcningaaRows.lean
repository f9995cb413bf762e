/-
  No cell of these rows narrows 'for every input' (looked for: loops, veiled, ifaces, maps, wideKeys, modest, calm, conditions, laid).
  DERIVED. THE GIVEN ROWS OF THIS SEAT. 12 by the template 'for every input the law returns true; each argument reads behind the call as it read before'; 0 by the template 'total and deterministic' (their statements: YteceamnmcningaaTotals.lean).
  GIVEN WITH THE SEED: the statements are not yours to turn. If you find one false, say at which input.
  Laid BY PROGRAM, IN A SANDBOX (cutbox-rows.mjs): the forced cells as the released guide's own fill.sh prints them over the translation 1bca5e20281bed2e… (all of the seat's roots in one cut). By AI agents, Wed Nov 11 2026. No macro, syntax, notation, axiom, sorry.
-/
import Derived.Test.YteceamnmcningaaChecked
import GoSem.Claim
import GoSem.ClaimJoined
import GoSem.ClaimMapViews
import Derived.JoinedTies
import Derived.KernelRfl
namespace Go.Proofs.Yteceamnmcningaa
/- THE CELL 'sum', in the pinned program and in every row, IS THE sha256 OF THE DUMP (.gsa) THAT YteceamnmcningaaProg.lean LOADS. Nothing in Lean hashes anything: it is a label: what it is worth is what the hold of that sum in a sandbox is worth. -/
noncomputable def Try.pinned : Pinned := { name := "yteceamnmcningaa", sum := "1bca5e20281bed2ec3838475e2acca91d5eb733067721c88a4edc295fcec017c", checked := Try.checked }
namespace Rows
def none {H : Type} : Left H := { results := [], args := [] }

/-- 'laws.FnListed': WHATEVER THE INPUT: true; the input reads as it did. -/
def fnListedSpec : ChangeSpec := { name := "fnListed", fn := fun _ => fun
  | [d] => { results := [.lit (.bool true)], args := [d] }
  | _ => none }
def fnListedRow : OpenClaim := { program := "yteceamnmcningaa", sum := "1bca5e20281bed2ec3838475e2acca91d5eb733067721c88a4edc295fcec017c", func := "loop.example/feedswarm/laws.FnListed", spec := "fnListed", apart := false }
def FnListedSaid : Prop := fnListedRow.holds Try.pinned (OpenSpec.ofChange fnListedSpec)

/-- ITS FALSE NEIGHBOUR: 'it returns false'. Refute it at one input. -/
def fnListedWrong : ChangeSpec := { name := "fnListed", fn := fun _ => fun
  | [d] => { results := [.lit (.bool false)], args := [d] }
  | _ => none }
def FnListedWrongFalsely : Prop := fnListedRow.holds Try.pinned (OpenSpec.ofChange fnListedWrong)

/-- 'laws.FnListedOthers': WHATEVER THE INPUT: true; the input reads as it did. -/
def fnListedOthersSpec : ChangeSpec := { name := "fnListedOthers", fn := fun _ => fun
  | [d] => { results := [.lit (.bool true)], args := [d] }
  | _ => none }
def fnListedOthersRow : OpenClaim := { program := "yteceamnmcningaa", sum := "1bca5e20281bed2ec3838475e2acca91d5eb733067721c88a4edc295fcec017c", func := "loop.example/feedswarm/laws.FnListedOthers", spec := "fnListedOthers", apart := false }
def FnListedOthersSaid : Prop := fnListedOthersRow.holds Try.pinned (OpenSpec.ofChange fnListedOthersSpec)

/-- ITS FALSE NEIGHBOUR: 'it returns false'. Refute it at one input. -/
def fnListedOthersWrong : ChangeSpec := { name := "fnListedOthers", fn := fun _ => fun
  | [d] => { results := [.lit (.bool false)], args := [d] }
  | _ => none }
def FnListedOthersWrongFalsely : Prop := fnListedOthersRow.holds Try.pinned (OpenSpec.ofChange fnListedOthersWrong)

/-- 'laws.FnListedFull': WHATEVER THE INPUT: true; the input reads as it did. -/
def fnListedFullSpec : ChangeSpec := { name := "fnListedFull", fn := fun _ => fun
  | [d] => { results := [.lit (.bool true)], args := [d] }
  | _ => none }
def fnListedFullRow : OpenClaim := { program := "yteceamnmcningaa", sum := "1bca5e20281bed2ec3838475e2acca91d5eb733067721c88a4edc295fcec017c", func := "loop.example/feedswarm/laws.FnListedFull", spec := "fnListedFull", apart := false }
def FnListedFullSaid : Prop := fnListedFullRow.holds Try.pinned (OpenSpec.ofChange fnListedFullSpec)

/-- ITS FALSE NEIGHBOUR: 'it returns false'. Refute it at one input. -/
def fnListedFullWrong : ChangeSpec := { name := "fnListedFull", fn := fun _ => fun
  | [d] => { results := [.lit (.bool false)], args := [d] }
  | _ => none }
def FnListedFullWrongFalsely : Prop := fnListedFullRow.holds Try.pinned (OpenSpec.ofChange fnListedFullWrong)

/-- 'laws.FnListedTwice': WHATEVER THE INPUT: true; the input reads as it did. -/
def fnListedTwiceSpec : ChangeSpec := { name := "fnListedTwice", fn := fun _ => fun
  | [d] => { results := [.lit (.bool true)], args := [d] }
  | _ => none }
def fnListedTwiceRow : OpenClaim := { program := "yteceamnmcningaa", sum := "1bca5e20281bed2ec3838475e2acca91d5eb733067721c88a4edc295fcec017c", func := "loop.example/feedswarm/laws.FnListedTwice", spec := "fnListedTwice", apart := false }
def FnListedTwiceSaid : Prop := fnListedTwiceRow.holds Try.pinned (OpenSpec.ofChange fnListedTwiceSpec)

/-- ITS FALSE NEIGHBOUR: 'it returns false'. Refute it at one input. -/
def fnListedTwiceWrong : ChangeSpec := { name := "fnListedTwice", fn := fun _ => fun
  | [d] => { results := [.lit (.bool false)], args := [d] }
  | _ => none }
def FnListedTwiceWrongFalsely : Prop := fnListedTwiceRow.holds Try.pinned (OpenSpec.ofChange fnListedTwiceWrong)

/-- 'laws.FnSweep': WHATEVER THE INPUT: true; the input reads as it did. -/
def fnSweepSpec : ChangeSpec := { name := "fnSweep", fn := fun _ => fun
  | [d] => { results := [.lit (.bool true)], args := [d] }
  | _ => none }
def fnSweepRow : OpenClaim := { program := "yteceamnmcningaa", sum := "1bca5e20281bed2ec3838475e2acca91d5eb733067721c88a4edc295fcec017c", func := "loop.example/feedswarm/laws.FnSweep", spec := "fnSweep", apart := false }
def FnSweepSaid : Prop := fnSweepRow.holds Try.pinned (OpenSpec.ofChange fnSweepSpec)

/-- ITS FALSE NEIGHBOUR: 'it returns false'. Refute it at one input. -/
def fnSweepWrong : ChangeSpec := { name := "fnSweep", fn := fun _ => fun
  | [d] => { results := [.lit (.bool false)], args := [d] }
  | _ => none }
def FnSweepWrongFalsely : Prop := fnSweepRow.holds Try.pinned (OpenSpec.ofChange fnSweepWrong)

/-- 'laws.FnSweepTwice': WHATEVER THE INPUT: true; the input reads as it did. -/
def fnSweepTwiceSpec : ChangeSpec := { name := "fnSweepTwice", fn := fun _ => fun
  | [d] => { results := [.lit (.bool true)], args := [d] }
  | _ => none }
def fnSweepTwiceRow : OpenClaim := { program := "yteceamnmcningaa", sum := "1bca5e20281bed2ec3838475e2acca91d5eb733067721c88a4edc295fcec017c", func := "loop.example/feedswarm/laws.FnSweepTwice", spec := "fnSweepTwice", apart := false }
def FnSweepTwiceSaid : Prop := fnSweepTwiceRow.holds Try.pinned (OpenSpec.ofChange fnSweepTwiceSpec)

/-- ITS FALSE NEIGHBOUR: 'it returns false'. Refute it at one input. -/
def fnSweepTwiceWrong : ChangeSpec := { name := "fnSweepTwice", fn := fun _ => fun
  | [d] => { results := [.lit (.bool false)], args := [d] }
  | _ => none }
def FnSweepTwiceWrongFalsely : Prop := fnSweepTwiceRow.holds Try.pinned (OpenSpec.ofChange fnSweepTwiceWrong)

/-- 'laws.FnSample': WHATEVER THE INPUT: true; the input reads as it did. -/
def fnSampleSpec : ChangeSpec := { name := "fnSample", fn := fun _ => fun
  | [d] => { results := [.lit (.bool true)], args := [d] }
  | _ => none }
def fnSampleRow : OpenClaim := { program := "yteceamnmcningaa", sum := "1bca5e20281bed2ec3838475e2acca91d5eb733067721c88a4edc295fcec017c", func := "loop.example/feedswarm/laws.FnSample", spec := "fnSample", apart := false }
def FnSampleSaid : Prop := fnSampleRow.holds Try.pinned (OpenSpec.ofChange fnSampleSpec)

/-- ITS FALSE NEIGHBOUR: 'it returns false'. Refute it at one input. -/
def fnSampleWrong : ChangeSpec := { name := "fnSample", fn := fun _ => fun
  | [d] => { results := [.lit (.bool false)], args := [d] }
  | _ => none }
def FnSampleWrongFalsely : Prop := fnSampleRow.holds Try.pinned (OpenSpec.ofChange fnSampleWrong)

/-- 'laws.FnSampleAll': WHATEVER THE INPUT: true; the input reads as it did. -/
def fnSampleAllSpec : ChangeSpec := { name := "fnSampleAll", fn := fun _ => fun
  | [d] => { results := [.lit (.bool true)], args := [d] }
  | _ => none }
def fnSampleAllRow : OpenClaim := { program := "yteceamnmcningaa", sum := "1bca5e20281bed2ec3838475e2acca91d5eb733067721c88a4edc295fcec017c", func := "loop.example/feedswarm/laws.FnSampleAll", spec := "fnSampleAll", apart := false }
def FnSampleAllSaid : Prop := fnSampleAllRow.holds Try.pinned (OpenSpec.ofChange fnSampleAllSpec)

/-- ITS FALSE NEIGHBOUR: 'it returns false'. Refute it at one input. -/
def fnSampleAllWrong : ChangeSpec := { name := "fnSampleAll", fn := fun _ => fun
  | [d] => { results := [.lit (.bool false)], args := [d] }
  | _ => none }
def FnSampleAllWrongFalsely : Prop := fnSampleAllRow.holds Try.pinned (OpenSpec.ofChange fnSampleAllWrong)

/-- 'laws.FnSampleMore': WHATEVER THE INPUT: true; the input reads as it did. -/
def fnSampleMoreSpec : ChangeSpec := { name := "fnSampleMore", fn := fun _ => fun
  | [d] => { results := [.lit (.bool true)], args := [d] }
  | _ => none }
def fnSampleMoreRow : OpenClaim := { program := "yteceamnmcningaa", sum := "1bca5e20281bed2ec3838475e2acca91d5eb733067721c88a4edc295fcec017c", func := "loop.example/feedswarm/laws.FnSampleMore", spec := "fnSampleMore", apart := false }
def FnSampleMoreSaid : Prop := fnSampleMoreRow.holds Try.pinned (OpenSpec.ofChange fnSampleMoreSpec)

/-- ITS FALSE NEIGHBOUR: 'it returns false'. Refute it at one input. -/
def fnSampleMoreWrong : ChangeSpec := { name := "fnSampleMore", fn := fun _ => fun
  | [d] => { results := [.lit (.bool false)], args := [d] }
  | _ => none }
def FnSampleMoreWrongFalsely : Prop := fnSampleMoreRow.holds Try.pinned (OpenSpec.ofChange fnSampleMoreWrong)

/-- 'laws.FnListedSize': WHATEVER THE INPUT: true; the input reads as it did. -/
def fnListedSizeSpec : ChangeSpec := { name := "fnListedSize", fn := fun _ => fun
  | [d] => { results := [.lit (.bool true)], args := [d] }
  | _ => none }
def fnListedSizeRow : OpenClaim := { program := "yteceamnmcningaa", sum := "1bca5e20281bed2ec3838475e2acca91d5eb733067721c88a4edc295fcec017c", func := "loop.example/feedswarm/laws.FnListedSize", spec := "fnListedSize", apart := false }
def FnListedSizeSaid : Prop := fnListedSizeRow.holds Try.pinned (OpenSpec.ofChange fnListedSizeSpec)

/-- ITS FALSE NEIGHBOUR: 'it returns false'. Refute it at one input. -/
def fnListedSizeWrong : ChangeSpec := { name := "fnListedSize", fn := fun _ => fun
  | [d] => { results := [.lit (.bool false)], args := [d] }
  | _ => none }
def FnListedSizeWrongFalsely : Prop := fnListedSizeRow.holds Try.pinned (OpenSpec.ofChange fnListedSizeWrong)

/-- 'laws.FnSampleWhole': WHATEVER THE INPUT: true; the input reads as it did. -/
def fnSampleWholeSpec : ChangeSpec := { name := "fnSampleWhole", fn := fun _ => fun
  | [d] => { results := [.lit (.bool true)], args := [d] }
  | _ => none }
def fnSampleWholeRow : OpenClaim := { program := "yteceamnmcningaa", sum := "1bca5e20281bed2ec3838475e2acca91d5eb733067721c88a4edc295fcec017c", func := "loop.example/feedswarm/laws.FnSampleWhole", spec := "fnSampleWhole", apart := false }
def FnSampleWholeSaid : Prop := fnSampleWholeRow.holds Try.pinned (OpenSpec.ofChange fnSampleWholeSpec)

/-- ITS FALSE NEIGHBOUR: 'it returns false'. Refute it at one input. -/
def fnSampleWholeWrong : ChangeSpec := { name := "fnSampleWhole", fn := fun _ => fun
  | [d] => { results := [.lit (.bool false)], args := [d] }
  | _ => none }
def FnSampleWholeWrongFalsely : Prop := fnSampleWholeRow.holds Try.pinned (OpenSpec.ofChange fnSampleWholeWrong)

/-- 'laws.FnSampleShift': WHATEVER THE INPUT: true; the input reads as it did. -/
def fnSampleShiftSpec : ChangeSpec := { name := "fnSampleShift", fn := fun _ => fun
  | [d] => { results := [.lit (.bool true)], args := [d] }
  | _ => none }
def fnSampleShiftRow : OpenClaim := { program := "yteceamnmcningaa", sum := "1bca5e20281bed2ec3838475e2acca91d5eb733067721c88a4edc295fcec017c", func := "loop.example/feedswarm/laws.FnSampleShift", spec := "fnSampleShift", apart := false }
def FnSampleShiftSaid : Prop := fnSampleShiftRow.holds Try.pinned (OpenSpec.ofChange fnSampleShiftSpec)

/-- ITS FALSE NEIGHBOUR: 'it returns false'. Refute it at one input. -/
def fnSampleShiftWrong : ChangeSpec := { name := "fnSampleShift", fn := fun _ => fun
  | [d] => { results := [.lit (.bool false)], args := [d] }
  | _ => none }
def FnSampleShiftWrongFalsely : Prop := fnSampleShiftRow.holds Try.pinned (OpenSpec.ofChange fnSampleShiftWrong)

/- THE SECOND FORM. 'bulk': how many values and letters a reading holds, each counted each time it is reached (what is shared counts as often as it is met; a slice's spare places count too). A statement '..UptoSaid' is the law's where the arguments, and the package variables that the reading takes, are together of bulk at most 1048576: NARROWER than '..Said'. Prove '..Said' where nothing that the law and all that it calls make is longer than what came in: it says more and counts as full. Else prove '..UptoSaid'. A law counts once. -/
mutual
def uptoBulk {H : Type} : DataW H → Nat
  | .lit (.string bytes) => bytes.length + 1
  | .lit _ => 1
  | .nil => 1
  | .ptr d => uptoBulk d + 1
  | .slice elems spare => uptoBulkAll elems + uptoBulkAll spare + 1
  | .agg parts => uptoBulkAll parts + 1
  | .iface _ d => uptoBulk d + 1
  | .map entries => uptoBulkEntries entries + 1
  | .held _ => 1
def uptoBulkAll {H : Type} : List (DataW H) → Nat
  | [] => 0
  | d :: r => uptoBulk d + uptoBulkAll r
def uptoBulkEntries {H : Type} : List (Lit × DataW H) → Nat
  | [] => 0
  | x :: r => uptoBulkEntry x + uptoBulkEntries r
def uptoBulkEntry {H : Type} : Lit × DataW H → Nat
  | (.string bytes, d) => bytes.length + uptoBulk d + 1
  | (_, d) => uptoBulk d + 1
 end
def uptoSmall : (H : Type) → List (DataW H) → Bool := fun _ ds => decide (uptoBulkAll ds ≤ 1048576)
def OpenSpec.upto (s : _root_.Go.ChangeSpec) : _root_.Go.OpenSpec := { _root_.Go.OpenSpec.ofChange s with cond := some uptoSmall }

/-- 'laws.FnListed', WHERE WHAT IT READS IS OF BULK AT MOST 1048576: true; the input reads as it did. -/
def fnListedUptoRow : OpenClaim := { program := "yteceamnmcningaa", sum := "1bca5e20281bed2ec3838475e2acca91d5eb733067721c88a4edc295fcec017c", func := "loop.example/feedswarm/laws.FnListed", spec := "fnListed", apart := false, narrowed := true }
def FnListedUptoSaid : Prop := fnListedUptoRow.holds Try.pinned (OpenSpec.upto fnListedSpec)

/-- 'laws.FnListedOthers', WHERE WHAT IT READS IS OF BULK AT MOST 1048576: true; the input reads as it did. -/
def fnListedOthersUptoRow : OpenClaim := { program := "yteceamnmcningaa", sum := "1bca5e20281bed2ec3838475e2acca91d5eb733067721c88a4edc295fcec017c", func := "loop.example/feedswarm/laws.FnListedOthers", spec := "fnListedOthers", apart := false, narrowed := true }
def FnListedOthersUptoSaid : Prop := fnListedOthersUptoRow.holds Try.pinned (OpenSpec.upto fnListedOthersSpec)

/-- 'laws.FnListedFull', WHERE WHAT IT READS IS OF BULK AT MOST 1048576: true; the input reads as it did. -/
def fnListedFullUptoRow : OpenClaim := { program := "yteceamnmcningaa", sum := "1bca5e20281bed2ec3838475e2acca91d5eb733067721c88a4edc295fcec017c", func := "loop.example/feedswarm/laws.FnListedFull", spec := "fnListedFull", apart := false, narrowed := true }
def FnListedFullUptoSaid : Prop := fnListedFullUptoRow.holds Try.pinned (OpenSpec.upto fnListedFullSpec)

/-- 'laws.FnListedTwice', WHERE WHAT IT READS IS OF BULK AT MOST 1048576: true; the input reads as it did. -/
def fnListedTwiceUptoRow : OpenClaim := { program := "yteceamnmcningaa", sum := "1bca5e20281bed2ec3838475e2acca91d5eb733067721c88a4edc295fcec017c", func := "loop.example/feedswarm/laws.FnListedTwice", spec := "fnListedTwice", apart := false, narrowed := true }
def FnListedTwiceUptoSaid : Prop := fnListedTwiceUptoRow.holds Try.pinned (OpenSpec.upto fnListedTwiceSpec)

/-- 'laws.FnSweep', WHERE WHAT IT READS IS OF BULK AT MOST 1048576: true; the input reads as it did. -/
def fnSweepUptoRow : OpenClaim := { program := "yteceamnmcningaa", sum := "1bca5e20281bed2ec3838475e2acca91d5eb733067721c88a4edc295fcec017c", func := "loop.example/feedswarm/laws.FnSweep", spec := "fnSweep", apart := false, narrowed := true }
def FnSweepUptoSaid : Prop := fnSweepUptoRow.holds Try.pinned (OpenSpec.upto fnSweepSpec)

/-- 'laws.FnSweepTwice', WHERE WHAT IT READS IS OF BULK AT MOST 1048576: true; the input reads as it did. -/
def fnSweepTwiceUptoRow : OpenClaim := { program := "yteceamnmcningaa", sum := "1bca5e20281bed2ec3838475e2acca91d5eb733067721c88a4edc295fcec017c", func := "loop.example/feedswarm/laws.FnSweepTwice", spec := "fnSweepTwice", apart := false, narrowed := true }
def FnSweepTwiceUptoSaid : Prop := fnSweepTwiceUptoRow.holds Try.pinned (OpenSpec.upto fnSweepTwiceSpec)

/-- 'laws.FnSample', WHERE WHAT IT READS IS OF BULK AT MOST 1048576: true; the input reads as it did. -/
def fnSampleUptoRow : OpenClaim := { program := "yteceamnmcningaa", sum := "1bca5e20281bed2ec3838475e2acca91d5eb733067721c88a4edc295fcec017c", func := "loop.example/feedswarm/laws.FnSample", spec := "fnSample", apart := false, narrowed := true }
def FnSampleUptoSaid : Prop := fnSampleUptoRow.holds Try.pinned (OpenSpec.upto fnSampleSpec)

/-- 'laws.FnSampleAll', WHERE WHAT IT READS IS OF BULK AT MOST 1048576: true; the input reads as it did. -/
def fnSampleAllUptoRow : OpenClaim := { program := "yteceamnmcningaa", sum := "1bca5e20281bed2ec3838475e2acca91d5eb733067721c88a4edc295fcec017c", func := "loop.example/feedswarm/laws.FnSampleAll", spec := "fnSampleAll", apart := false, narrowed := true }
def FnSampleAllUptoSaid : Prop := fnSampleAllUptoRow.holds Try.pinned (OpenSpec.upto fnSampleAllSpec)

/-- 'laws.FnSampleMore', WHERE WHAT IT READS IS OF BULK AT MOST 1048576: true; the input reads as it did. -/
def fnSampleMoreUptoRow : OpenClaim := { program := "yteceamnmcningaa", sum := "1bca5e20281bed2ec3838475e2acca91d5eb733067721c88a4edc295fcec017c", func := "loop.example/feedswarm/laws.FnSampleMore", spec := "fnSampleMore", apart := false, narrowed := true }
def FnSampleMoreUptoSaid : Prop := fnSampleMoreUptoRow.holds Try.pinned (OpenSpec.upto fnSampleMoreSpec)

/-- 'laws.FnListedSize', WHERE WHAT IT READS IS OF BULK AT MOST 1048576: true; the input reads as it did. -/
def fnListedSizeUptoRow : OpenClaim := { program := "yteceamnmcningaa", sum := "1bca5e20281bed2ec3838475e2acca91d5eb733067721c88a4edc295fcec017c", func := "loop.example/feedswarm/laws.FnListedSize", spec := "fnListedSize", apart := false, narrowed := true }
def FnListedSizeUptoSaid : Prop := fnListedSizeUptoRow.holds Try.pinned (OpenSpec.upto fnListedSizeSpec)

/-- 'laws.FnSampleWhole', WHERE WHAT IT READS IS OF BULK AT MOST 1048576: true; the input reads as it did. -/
def fnSampleWholeUptoRow : OpenClaim := { program := "yteceamnmcningaa", sum := "1bca5e20281bed2ec3838475e2acca91d5eb733067721c88a4edc295fcec017c", func := "loop.example/feedswarm/laws.FnSampleWhole", spec := "fnSampleWhole", apart := false, narrowed := true }
def FnSampleWholeUptoSaid : Prop := fnSampleWholeUptoRow.holds Try.pinned (OpenSpec.upto fnSampleWholeSpec)

/-- 'laws.FnSampleShift', WHERE WHAT IT READS IS OF BULK AT MOST 1048576: true; the input reads as it did. -/
def fnSampleShiftUptoRow : OpenClaim := { program := "yteceamnmcningaa", sum := "1bca5e20281bed2ec3838475e2acca91d5eb733067721c88a4edc295fcec017c", func := "loop.example/feedswarm/laws.FnSampleShift", spec := "fnSampleShift", apart := false, narrowed := true }
def FnSampleShiftUptoSaid : Prop := fnSampleShiftUptoRow.holds Try.pinned (OpenSpec.upto fnSampleShiftSpec)

end Rows
end Go.Proofs.Yteceamnmcningaa
