/-
  NARROWER THAN 'FOR EVERY INPUT', by the rows' own cells (each row's printed sentence says how): FnProof: laid · FnProofLeaf: laid · FnProofLength: laid · FnProofChange: laid · FnExactTreeCheck: laid.
  DERIVED. THE GIVEN ROWS OF THIS SEAT. 5 by the template 'for every input the law returns true; each argument reads behind the call as it read before'; 0 by the template 'total and deterministic' (their statements: YtlkgadgjcjpdcaaDoorTotals.lean).
  GIVEN WITH THE SEED: the statements are not yours to turn. If you find one false, say at which input.
  Laid BY PROGRAM, IN A SANDBOX (cutbox-rows.mjs): the forced cells as the released guide's own fill.sh prints them over the translation f2ce9ebaf73a9c2d… (all of the seat's roots in one cut). By AI agents, Wed Nov 11 2026. No macro, syntax, notation, axiom, sorry.
-/
import Derived.Test.YtlkgadgjcjpdcaaDoorChecked
import GoSem.Claim
import GoSem.ClaimJoined
import GoSem.ClaimMapViews
import Derived.JoinedTies
import Derived.KernelRfl
namespace Go.Proofs.YtlkgadgjcjpdcaaDoor
/- THE CELL 'sum', in the pinned program and in every row, IS THE sha256 OF THE DUMP (.gsa) THAT YtlkgadgjcjpdcaaDoorProg.lean LOADS. Nothing in Lean hashes anything: it is a label: what it is worth is what the hold of that sum in a sandbox is worth. -/
noncomputable def Tryd.pinned : Pinned := { name := "ytlkgadgjcjpdcaadoor", sum := "f2ce9ebaf73a9c2d646ac5bfd19ce6eccbf2609988a3669b8a2c2fb1b59eb0c2", checked := Tryd.checked }
namespace Rows
def none {H : Type} : Left H := { results := [], args := [] }

/- WHAT THE LISTED PACKAGE-LEVEL VARIABLES READ AS WHEN THE CALL BEGINS. Each datum BY PROGRAM (the guide's laid-datum.mjs) off the statement by which the dump's own 'gosem.cut.vars' lays the variable. In a bare row this is a premise. The card (YtlkgadgjcjpdcaaDoorCards.lean) ties it to the program's text. -/
def laid_math_bits_deBruijn32tab {H : Type} : DataW H := .agg [.lit (.int .u8 0), .lit (.int .u8 1), .lit (.int .u8 28), .lit (.int .u8 2), .lit (.int .u8 29), .lit (.int .u8 14), .lit (.int .u8 24), .lit (.int .u8 3), .lit (.int .u8 30), .lit (.int .u8 22), .lit (.int .u8 20), .lit (.int .u8 15), .lit (.int .u8 25), .lit (.int .u8 17), .lit (.int .u8 4), .lit (.int .u8 8), .lit (.int .u8 31), .lit (.int .u8 27), .lit (.int .u8 13), .lit (.int .u8 23), .lit (.int .u8 21), .lit (.int .u8 19), .lit (.int .u8 16), .lit (.int .u8 7), .lit (.int .u8 26), .lit (.int .u8 12), .lit (.int .u8 18), .lit (.int .u8 6), .lit (.int .u8 11), .lit (.int .u8 5), .lit (.int .u8 10), .lit (.int .u8 9)]
def laid_math_bits_deBruijn64tab {H : Type} : DataW H := .agg [.lit (.int .u8 0), .lit (.int .u8 1), .lit (.int .u8 56), .lit (.int .u8 2), .lit (.int .u8 57), .lit (.int .u8 49), .lit (.int .u8 28), .lit (.int .u8 3), .lit (.int .u8 61), .lit (.int .u8 58), .lit (.int .u8 42), .lit (.int .u8 50), .lit (.int .u8 38), .lit (.int .u8 29), .lit (.int .u8 17), .lit (.int .u8 4), .lit (.int .u8 62), .lit (.int .u8 47), .lit (.int .u8 59), .lit (.int .u8 36), .lit (.int .u8 45), .lit (.int .u8 43), .lit (.int .u8 51), .lit (.int .u8 22), .lit (.int .u8 53), .lit (.int .u8 39), .lit (.int .u8 33), .lit (.int .u8 30), .lit (.int .u8 24), .lit (.int .u8 18), .lit (.int .u8 12), .lit (.int .u8 5), .lit (.int .u8 63), .lit (.int .u8 55), .lit (.int .u8 48), .lit (.int .u8 27), .lit (.int .u8 60), .lit (.int .u8 41), .lit (.int .u8 37), .lit (.int .u8 16), .lit (.int .u8 46), .lit (.int .u8 35), .lit (.int .u8 44), .lit (.int .u8 21), .lit (.int .u8 52), .lit (.int .u8 32), .lit (.int .u8 23), .lit (.int .u8 11), .lit (.int .u8 54), .lit (.int .u8 26), .lit (.int .u8 40), .lit (.int .u8 15), .lit (.int .u8 34), .lit (.int .u8 20), .lit (.int .u8 31), .lit (.int .u8 10), .lit (.int .u8 25), .lit (.int .u8 14), .lit (.int .u8 19), .lit (.int .u8 9), .lit (.int .u8 13), .lit (.int .u8 8), .lit (.int .u8 7), .lit (.int .u8 6)]

/-- 'laws.FnProof': WHATEVER THE INPUT: true; the input reads as it did. -/
def fnProofSpec : ChangeSpec := { name := "fnProof", fn := fun _ => fun
  | [d] => { results := [.lit (.bool true)], args := [d] }
  | _ => none }
def fnProofRow : OpenClaim := { program := "ytlkgadgjcjpdcaadoor", sum := "f2ce9ebaf73a9c2d646ac5bfd19ce6eccbf2609988a3669b8a2c2fb1b59eb0c2", func := "loop.example/feedswarm/laws.FnProof", spec := "fnProof", inPlace := ["slices.overlaps[*loop.example/feedswarm/impl.treeNode]"], recurses := true, named := ["math/bits.deBruijn32tab", "math/bits.deBruijn64tab"], apart := false, laid := [("math/bits.deBruijn32tab", laid_math_bits_deBruijn32tab), ("math/bits.deBruijn64tab", laid_math_bits_deBruijn64tab)] }
def FnProofSaid : Prop := fnProofRow.holds Tryd.pinned (OpenSpec.ofChange fnProofSpec)

/-- ITS FALSE NEIGHBOUR: 'it returns false'. Refute it at one input. -/
def fnProofWrong : ChangeSpec := { name := "fnProof", fn := fun _ => fun
  | [d] => { results := [.lit (.bool false)], args := [d] }
  | _ => none }
def FnProofWrongFalsely : Prop := fnProofRow.holds Tryd.pinned (OpenSpec.ofChange fnProofWrong)

/-- 'laws.FnProofLeaf': WHATEVER THE INPUT: true; the input reads as it did. -/
def fnProofLeafSpec : ChangeSpec := { name := "fnProofLeaf", fn := fun _ => fun
  | [d1, d2] => { results := [.lit (.bool true)], args := [d1, d2] }
  | _ => none }
def fnProofLeafRow : OpenClaim := { program := "ytlkgadgjcjpdcaadoor", sum := "f2ce9ebaf73a9c2d646ac5bfd19ce6eccbf2609988a3669b8a2c2fb1b59eb0c2", func := "loop.example/feedswarm/laws.FnProofLeaf", spec := "fnProofLeaf", inPlace := ["slices.overlaps[*loop.example/feedswarm/impl.treeNode]"], recurses := true, named := ["math/bits.deBruijn32tab", "math/bits.deBruijn64tab"], apart := false, laid := [("math/bits.deBruijn32tab", laid_math_bits_deBruijn32tab), ("math/bits.deBruijn64tab", laid_math_bits_deBruijn64tab)] }
def FnProofLeafSaid : Prop := fnProofLeafRow.holds Tryd.pinned (OpenSpec.ofChange fnProofLeafSpec)

/-- ITS FALSE NEIGHBOUR: 'it returns false'. Refute it at one input. -/
def fnProofLeafWrong : ChangeSpec := { name := "fnProofLeaf", fn := fun _ => fun
  | [d1, d2] => { results := [.lit (.bool false)], args := [d1, d2] }
  | _ => none }
def FnProofLeafWrongFalsely : Prop := fnProofLeafRow.holds Tryd.pinned (OpenSpec.ofChange fnProofLeafWrong)

/-- 'laws.FnProofLength': WHATEVER THE INPUT: true; the input reads as it did. -/
def fnProofLengthSpec : ChangeSpec := { name := "fnProofLength", fn := fun _ => fun
  | [d] => { results := [.lit (.bool true)], args := [d] }
  | _ => none }
def fnProofLengthRow : OpenClaim := { program := "ytlkgadgjcjpdcaadoor", sum := "f2ce9ebaf73a9c2d646ac5bfd19ce6eccbf2609988a3669b8a2c2fb1b59eb0c2", func := "loop.example/feedswarm/laws.FnProofLength", spec := "fnProofLength", inPlace := ["slices.overlaps[*loop.example/feedswarm/impl.treeNode]"], recurses := true, named := ["math/bits.deBruijn32tab", "math/bits.deBruijn64tab"], apart := false, laid := [("math/bits.deBruijn32tab", laid_math_bits_deBruijn32tab), ("math/bits.deBruijn64tab", laid_math_bits_deBruijn64tab)] }
def FnProofLengthSaid : Prop := fnProofLengthRow.holds Tryd.pinned (OpenSpec.ofChange fnProofLengthSpec)

/-- ITS FALSE NEIGHBOUR: 'it returns false'. Refute it at one input. -/
def fnProofLengthWrong : ChangeSpec := { name := "fnProofLength", fn := fun _ => fun
  | [d] => { results := [.lit (.bool false)], args := [d] }
  | _ => none }
def FnProofLengthWrongFalsely : Prop := fnProofLengthRow.holds Tryd.pinned (OpenSpec.ofChange fnProofLengthWrong)

/-- 'laws.FnProofChange': WHATEVER THE INPUT: true; the input reads as it did. -/
def fnProofChangeSpec : ChangeSpec := { name := "fnProofChange", fn := fun _ => fun
  | [d1, d2] => { results := [.lit (.bool true)], args := [d1, d2] }
  | _ => none }
def fnProofChangeRow : OpenClaim := { program := "ytlkgadgjcjpdcaadoor", sum := "f2ce9ebaf73a9c2d646ac5bfd19ce6eccbf2609988a3669b8a2c2fb1b59eb0c2", func := "loop.example/feedswarm/laws.FnProofChange", spec := "fnProofChange", inPlace := ["slices.overlaps[*loop.example/feedswarm/impl.treeNode]"], recurses := true, named := ["math/bits.deBruijn32tab", "math/bits.deBruijn64tab"], apart := false, laid := [("math/bits.deBruijn32tab", laid_math_bits_deBruijn32tab), ("math/bits.deBruijn64tab", laid_math_bits_deBruijn64tab)] }
def FnProofChangeSaid : Prop := fnProofChangeRow.holds Tryd.pinned (OpenSpec.ofChange fnProofChangeSpec)

/-- ITS FALSE NEIGHBOUR: 'it returns false'. Refute it at one input. -/
def fnProofChangeWrong : ChangeSpec := { name := "fnProofChange", fn := fun _ => fun
  | [d1, d2] => { results := [.lit (.bool false)], args := [d1, d2] }
  | _ => none }
def FnProofChangeWrongFalsely : Prop := fnProofChangeRow.holds Tryd.pinned (OpenSpec.ofChange fnProofChangeWrong)

/-- 'laws.FnExactTreeCheck': WHATEVER THE INPUT: true; the input reads as it did. -/
def fnExactTreeCheckSpec : ChangeSpec := { name := "fnExactTreeCheck", fn := fun _ => fun
  | [d1, d2, d3, d4, d5] => { results := [.lit (.bool true)], args := [d1, d2, d3, d4, d5] }
  | _ => none }
def fnExactTreeCheckRow : OpenClaim := { program := "ytlkgadgjcjpdcaadoor", sum := "f2ce9ebaf73a9c2d646ac5bfd19ce6eccbf2609988a3669b8a2c2fb1b59eb0c2", func := "loop.example/feedswarm/laws.FnExactTreeCheck", spec := "fnExactTreeCheck", inPlace := ["slices.overlaps[*loop.example/feedswarm/impl.treeNode]"], named := ["math/bits.deBruijn32tab", "math/bits.deBruijn64tab"], apart := false, laid := [("math/bits.deBruijn32tab", laid_math_bits_deBruijn32tab), ("math/bits.deBruijn64tab", laid_math_bits_deBruijn64tab)] }
def FnExactTreeCheckSaid : Prop := fnExactTreeCheckRow.holds Tryd.pinned (OpenSpec.ofChange fnExactTreeCheckSpec)

/-- ITS FALSE NEIGHBOUR: 'it returns false'. Refute it at one input. -/
def fnExactTreeCheckWrong : ChangeSpec := { name := "fnExactTreeCheck", fn := fun _ => fun
  | [d1, d2, d3, d4, d5] => { results := [.lit (.bool false)], args := [d1, d2, d3, d4, d5] }
  | _ => none }
def FnExactTreeCheckWrongFalsely : Prop := fnExactTreeCheckRow.holds Tryd.pinned (OpenSpec.ofChange fnExactTreeCheckWrong)

/- THE SECOND FORM. 'bulk': how many values and letters a reading holds, each counted each time it is reached (what is shared counts as often as it is met; a slice's spare places count too). A statement '..UptoSaid' is the law's where the arguments, and the package variables that the reading takes, are together of bulk at most 1048576: NARROWER than '..Said'. Prove '..Said' where nothing that the law and all that it calls make is longer than what came in: it says more and counts as full. Else prove '..UptoSaid'. A law counts once. -/
mutual
def uptoBulk {H : Type} : DataW H → Nat
  | .lit (.string bytes) => bytes.length + 1
  | .lit _ => 1
  | .nil => 1
  | .ptr d => uptoBulk d + 1
  | .slice elems spare => uptoBulkAll elems + uptoBulkAll spare + 1
  | .agg parts => uptoBulkAll parts + 1
  | .iface _ d => uptoBulk d + 1
  | .map entries => uptoBulkEntries entries + 1
  | .held _ => 1
def uptoBulkAll {H : Type} : List (DataW H) → Nat
  | [] => 0
  | d :: r => uptoBulk d + uptoBulkAll r
def uptoBulkEntries {H : Type} : List (Lit × DataW H) → Nat
  | [] => 0
  | x :: r => uptoBulkEntry x + uptoBulkEntries r
def uptoBulkEntry {H : Type} : Lit × DataW H → Nat
  | (.string bytes, d) => bytes.length + uptoBulk d + 1
  | (_, d) => uptoBulk d + 1
 end
def uptoSmall : (H : Type) → List (DataW H) → Bool := fun _ ds => decide (uptoBulkAll ds ≤ 1048576)
def OpenSpec.upto (s : _root_.Go.ChangeSpec) : _root_.Go.OpenSpec := { _root_.Go.OpenSpec.ofChange s with cond := some uptoSmall }

/-- 'laws.FnProof', WHERE WHAT IT READS IS OF BULK AT MOST 1048576: true; the input reads as it did. -/
def fnProofUptoRow : OpenClaim := { program := "ytlkgadgjcjpdcaadoor", sum := "f2ce9ebaf73a9c2d646ac5bfd19ce6eccbf2609988a3669b8a2c2fb1b59eb0c2", func := "loop.example/feedswarm/laws.FnProof", spec := "fnProof", inPlace := ["slices.overlaps[*loop.example/feedswarm/impl.treeNode]"], recurses := true, named := ["math/bits.deBruijn32tab", "math/bits.deBruijn64tab"], apart := false, laid := [("math/bits.deBruijn32tab", laid_math_bits_deBruijn32tab), ("math/bits.deBruijn64tab", laid_math_bits_deBruijn64tab)], narrowed := true }
def FnProofUptoSaid : Prop := fnProofUptoRow.holds Tryd.pinned (OpenSpec.upto fnProofSpec)

/-- 'laws.FnProofLeaf', WHERE WHAT IT READS IS OF BULK AT MOST 1048576: true; the input reads as it did. -/
def fnProofLeafUptoRow : OpenClaim := { program := "ytlkgadgjcjpdcaadoor", sum := "f2ce9ebaf73a9c2d646ac5bfd19ce6eccbf2609988a3669b8a2c2fb1b59eb0c2", func := "loop.example/feedswarm/laws.FnProofLeaf", spec := "fnProofLeaf", inPlace := ["slices.overlaps[*loop.example/feedswarm/impl.treeNode]"], recurses := true, named := ["math/bits.deBruijn32tab", "math/bits.deBruijn64tab"], apart := false, laid := [("math/bits.deBruijn32tab", laid_math_bits_deBruijn32tab), ("math/bits.deBruijn64tab", laid_math_bits_deBruijn64tab)], narrowed := true }
def FnProofLeafUptoSaid : Prop := fnProofLeafUptoRow.holds Tryd.pinned (OpenSpec.upto fnProofLeafSpec)

/-- 'laws.FnProofLength', WHERE WHAT IT READS IS OF BULK AT MOST 1048576: true; the input reads as it did. -/
def fnProofLengthUptoRow : OpenClaim := { program := "ytlkgadgjcjpdcaadoor", sum := "f2ce9ebaf73a9c2d646ac5bfd19ce6eccbf2609988a3669b8a2c2fb1b59eb0c2", func := "loop.example/feedswarm/laws.FnProofLength", spec := "fnProofLength", inPlace := ["slices.overlaps[*loop.example/feedswarm/impl.treeNode]"], recurses := true, named := ["math/bits.deBruijn32tab", "math/bits.deBruijn64tab"], apart := false, laid := [("math/bits.deBruijn32tab", laid_math_bits_deBruijn32tab), ("math/bits.deBruijn64tab", laid_math_bits_deBruijn64tab)], narrowed := true }
def FnProofLengthUptoSaid : Prop := fnProofLengthUptoRow.holds Tryd.pinned (OpenSpec.upto fnProofLengthSpec)

/-- 'laws.FnProofChange', WHERE WHAT IT READS IS OF BULK AT MOST 1048576: true; the input reads as it did. -/
def fnProofChangeUptoRow : OpenClaim := { program := "ytlkgadgjcjpdcaadoor", sum := "f2ce9ebaf73a9c2d646ac5bfd19ce6eccbf2609988a3669b8a2c2fb1b59eb0c2", func := "loop.example/feedswarm/laws.FnProofChange", spec := "fnProofChange", inPlace := ["slices.overlaps[*loop.example/feedswarm/impl.treeNode]"], recurses := true, named := ["math/bits.deBruijn32tab", "math/bits.deBruijn64tab"], apart := false, laid := [("math/bits.deBruijn32tab", laid_math_bits_deBruijn32tab), ("math/bits.deBruijn64tab", laid_math_bits_deBruijn64tab)], narrowed := true }
def FnProofChangeUptoSaid : Prop := fnProofChangeUptoRow.holds Tryd.pinned (OpenSpec.upto fnProofChangeSpec)

/-- 'laws.FnExactTreeCheck', WHERE WHAT IT READS IS OF BULK AT MOST 1048576: true; the input reads as it did. -/
def fnExactTreeCheckUptoRow : OpenClaim := { program := "ytlkgadgjcjpdcaadoor", sum := "f2ce9ebaf73a9c2d646ac5bfd19ce6eccbf2609988a3669b8a2c2fb1b59eb0c2", func := "loop.example/feedswarm/laws.FnExactTreeCheck", spec := "fnExactTreeCheck", inPlace := ["slices.overlaps[*loop.example/feedswarm/impl.treeNode]"], named := ["math/bits.deBruijn32tab", "math/bits.deBruijn64tab"], apart := false, laid := [("math/bits.deBruijn32tab", laid_math_bits_deBruijn32tab), ("math/bits.deBruijn64tab", laid_math_bits_deBruijn64tab)], narrowed := true }
def FnExactTreeCheckUptoSaid : Prop := fnExactTreeCheckUptoRow.holds Tryd.pinned (OpenSpec.upto fnExactTreeCheckSpec)

end Rows
end Go.Proofs.YtlkgadgjcjpdcaaDoor
