/-
  No cell of these rows narrows 'for every input' (looked for: loops, veiled, ifaces, maps, wideKeys, modest, calm, conditions, laid).
  DERIVED. THE GIVEN ROWS OF THIS SEAT. 7 by the template 'for every input the law returns true; each argument reads behind the call as it read before'; 0 by the template 'total and deterministic' (their statements: YtkoamlnkpenjeaaTotals.lean).
  GIVEN WITH THE SEED: the statements are not yours to turn. If you find one false, say at which input.
  Laid BY PROGRAM, IN A SANDBOX (cutbox-rows.mjs): the forced cells as the released guide's own fill.sh prints them over the translation 5a1dd64b07c0b5ff… (all of the seat's roots in one cut). By AI agents, Wed Nov 11 2026. No macro, syntax, notation, axiom, sorry.
-/
import Derived.Test.YtkoamlnkpenjeaaChecked
import GoSem.Claim
import GoSem.ClaimJoined
import GoSem.ClaimMapViews
import Derived.JoinedTies
import Derived.KernelRfl
namespace Go.Proofs.Ytkoamlnkpenjeaa
/- THE CELL 'sum', in the pinned program and in every row, IS THE sha256 OF THE DUMP (.gsa) THAT YtkoamlnkpenjeaaProg.lean LOADS. Nothing in Lean hashes anything: it is a label: what it is worth is what the hold of that sum in a sandbox is worth. -/
noncomputable def Try.pinned : Pinned := { name := "ytkoamlnkpenjeaa", sum := "5a1dd64b07c0b5ff08f76eb252c34c0fe281c14dfbc38e2159221a33f0f98952", checked := Try.checked }
namespace Rows
def none {H : Type} : Left H := { results := [], args := [] }

/-- 'laws.FnTextByte': WHATEVER THE INPUT: true; the input reads as it did. -/
def fnTextByteSpec : ChangeSpec := { name := "fnTextByte", fn := fun _ => fun
  | [d1, d2] => { results := [.lit (.bool true)], args := [d1, d2] }
  | _ => none }
def fnTextByteRow : OpenClaim := { program := "ytkoamlnkpenjeaa", sum := "5a1dd64b07c0b5ff08f76eb252c34c0fe281c14dfbc38e2159221a33f0f98952", func := "loop.example/feedswarm/laws.FnTextByte", spec := "fnTextByte", apart := false }
def FnTextByteSaid : Prop := fnTextByteRow.holds Try.pinned (OpenSpec.ofChange fnTextByteSpec)

/-- ITS FALSE NEIGHBOUR: 'it returns false'. Refute it at one input. -/
def fnTextByteWrong : ChangeSpec := { name := "fnTextByte", fn := fun _ => fun
  | [d1, d2] => { results := [.lit (.bool false)], args := [d1, d2] }
  | _ => none }
def FnTextByteWrongFalsely : Prop := fnTextByteRow.holds Try.pinned (OpenSpec.ofChange fnTextByteWrong)

/-- 'laws.FnTextEmpty': WHATEVER THE INPUT: true; the input reads as it did. -/
def fnTextEmptySpec : ChangeSpec := { name := "fnTextEmpty", fn := fun _ => fun
  | [d] => { results := [.lit (.bool true)], args := [d] }
  | _ => none }
def fnTextEmptyRow : OpenClaim := { program := "ytkoamlnkpenjeaa", sum := "5a1dd64b07c0b5ff08f76eb252c34c0fe281c14dfbc38e2159221a33f0f98952", func := "loop.example/feedswarm/laws.FnTextEmpty", spec := "fnTextEmpty", apart := false }
def FnTextEmptySaid : Prop := fnTextEmptyRow.holds Try.pinned (OpenSpec.ofChange fnTextEmptySpec)

/-- ITS FALSE NEIGHBOUR: 'it returns false'. Refute it at one input. -/
def fnTextEmptyWrong : ChangeSpec := { name := "fnTextEmpty", fn := fun _ => fun
  | [d] => { results := [.lit (.bool false)], args := [d] }
  | _ => none }
def FnTextEmptyWrongFalsely : Prop := fnTextEmptyRow.holds Try.pinned (OpenSpec.ofChange fnTextEmptyWrong)

/-- 'laws.FnPair': WHATEVER THE INPUT: true; the input reads as it did. -/
def fnPairSpec : ChangeSpec := { name := "fnPair", fn := fun _ => fun
  | [d1, d2] => { results := [.lit (.bool true)], args := [d1, d2] }
  | _ => none }
def fnPairRow : OpenClaim := { program := "ytkoamlnkpenjeaa", sum := "5a1dd64b07c0b5ff08f76eb252c34c0fe281c14dfbc38e2159221a33f0f98952", func := "loop.example/feedswarm/laws.FnPair", spec := "fnPair", apart := false }
def FnPairSaid : Prop := fnPairRow.holds Try.pinned (OpenSpec.ofChange fnPairSpec)

/-- ITS FALSE NEIGHBOUR: 'it returns false'. Refute it at one input. -/
def fnPairWrong : ChangeSpec := { name := "fnPair", fn := fun _ => fun
  | [d1, d2] => { results := [.lit (.bool false)], args := [d1, d2] }
  | _ => none }
def FnPairWrongFalsely : Prop := fnPairRow.holds Try.pinned (OpenSpec.ofChange fnPairWrong)

/-- 'laws.FnTextNext': WHATEVER THE INPUT: true; the input reads as it did. -/
def fnTextNextSpec : ChangeSpec := { name := "fnTextNext", fn := fun _ => fun
  | [d1, d2] => { results := [.lit (.bool true)], args := [d1, d2] }
  | _ => none }
def fnTextNextRow : OpenClaim := { program := "ytkoamlnkpenjeaa", sum := "5a1dd64b07c0b5ff08f76eb252c34c0fe281c14dfbc38e2159221a33f0f98952", func := "loop.example/feedswarm/laws.FnTextNext", spec := "fnTextNext", apart := false }
def FnTextNextSaid : Prop := fnTextNextRow.holds Try.pinned (OpenSpec.ofChange fnTextNextSpec)

/-- ITS FALSE NEIGHBOUR: 'it returns false'. Refute it at one input. -/
def fnTextNextWrong : ChangeSpec := { name := "fnTextNext", fn := fun _ => fun
  | [d1, d2] => { results := [.lit (.bool false)], args := [d1, d2] }
  | _ => none }
def FnTextNextWrongFalsely : Prop := fnTextNextRow.holds Try.pinned (OpenSpec.ofChange fnTextNextWrong)

/-- 'laws.FnPairOrder': WHATEVER THE INPUT: true; the input reads as it did. -/
def fnPairOrderSpec : ChangeSpec := { name := "fnPairOrder", fn := fun _ => fun
  | [d] => { results := [.lit (.bool true)], args := [d] }
  | _ => none }
def fnPairOrderRow : OpenClaim := { program := "ytkoamlnkpenjeaa", sum := "5a1dd64b07c0b5ff08f76eb252c34c0fe281c14dfbc38e2159221a33f0f98952", func := "loop.example/feedswarm/laws.FnPairOrder", spec := "fnPairOrder", apart := false }
def FnPairOrderSaid : Prop := fnPairOrderRow.holds Try.pinned (OpenSpec.ofChange fnPairOrderSpec)

/-- ITS FALSE NEIGHBOUR: 'it returns false'. Refute it at one input. -/
def fnPairOrderWrong : ChangeSpec := { name := "fnPairOrder", fn := fun _ => fun
  | [d] => { results := [.lit (.bool false)], args := [d] }
  | _ => none }
def FnPairOrderWrongFalsely : Prop := fnPairOrderRow.holds Try.pinned (OpenSpec.ofChange fnPairOrderWrong)

/-- 'laws.FnExactDigestText': WHATEVER THE INPUT: true; the input reads as it did. -/
def fnExactDigestTextSpec : ChangeSpec := { name := "fnExactDigestText", fn := fun _ => fun
  | [d] => { results := [.lit (.bool true)], args := [d] }
  | _ => none }
def fnExactDigestTextRow : OpenClaim := { program := "ytkoamlnkpenjeaa", sum := "5a1dd64b07c0b5ff08f76eb252c34c0fe281c14dfbc38e2159221a33f0f98952", func := "loop.example/feedswarm/laws.FnExactDigestText", spec := "fnExactDigestText", apart := false }
def FnExactDigestTextSaid : Prop := fnExactDigestTextRow.holds Try.pinned (OpenSpec.ofChange fnExactDigestTextSpec)

/-- ITS FALSE NEIGHBOUR: 'it returns false'. Refute it at one input. -/
def fnExactDigestTextWrong : ChangeSpec := { name := "fnExactDigestText", fn := fun _ => fun
  | [d] => { results := [.lit (.bool false)], args := [d] }
  | _ => none }
def FnExactDigestTextWrongFalsely : Prop := fnExactDigestTextRow.holds Try.pinned (OpenSpec.ofChange fnExactDigestTextWrong)

/-- 'laws.FnExactDigestPair': WHATEVER THE INPUT: true; the input reads as it did. -/
def fnExactDigestPairSpec : ChangeSpec := { name := "fnExactDigestPair", fn := fun _ => fun
  | [d1, d2] => { results := [.lit (.bool true)], args := [d1, d2] }
  | _ => none }
def fnExactDigestPairRow : OpenClaim := { program := "ytkoamlnkpenjeaa", sum := "5a1dd64b07c0b5ff08f76eb252c34c0fe281c14dfbc38e2159221a33f0f98952", func := "loop.example/feedswarm/laws.FnExactDigestPair", spec := "fnExactDigestPair", apart := false }
def FnExactDigestPairSaid : Prop := fnExactDigestPairRow.holds Try.pinned (OpenSpec.ofChange fnExactDigestPairSpec)

/-- ITS FALSE NEIGHBOUR: 'it returns false'. Refute it at one input. -/
def fnExactDigestPairWrong : ChangeSpec := { name := "fnExactDigestPair", fn := fun _ => fun
  | [d1, d2] => { results := [.lit (.bool false)], args := [d1, d2] }
  | _ => none }
def FnExactDigestPairWrongFalsely : Prop := fnExactDigestPairRow.holds Try.pinned (OpenSpec.ofChange fnExactDigestPairWrong)

/- THE SECOND FORM. 'bulk': how many values and letters a reading holds, each counted each time it is reached (what is shared counts as often as it is met; a slice's spare places count too). A statement '..UptoSaid' is the law's where the arguments, and the package variables that the reading takes, are together of bulk at most 1048576: NARROWER than '..Said'. Prove '..Said' where nothing that the law and all that it calls make is longer than what came in: it says more and counts as full. Else prove '..UptoSaid'. A law counts once. -/
mutual
def uptoBulk {H : Type} : DataW H → Nat
  | .lit (.string bytes) => bytes.length + 1
  | .lit _ => 1
  | .nil => 1
  | .ptr d => uptoBulk d + 1
  | .slice elems spare => uptoBulkAll elems + uptoBulkAll spare + 1
  | .agg parts => uptoBulkAll parts + 1
  | .iface _ d => uptoBulk d + 1
  | .map entries => uptoBulkEntries entries + 1
  | .held _ => 1
def uptoBulkAll {H : Type} : List (DataW H) → Nat
  | [] => 0
  | d :: r => uptoBulk d + uptoBulkAll r
def uptoBulkEntries {H : Type} : List (Lit × DataW H) → Nat
  | [] => 0
  | x :: r => uptoBulkEntry x + uptoBulkEntries r
def uptoBulkEntry {H : Type} : Lit × DataW H → Nat
  | (.string bytes, d) => bytes.length + uptoBulk d + 1
  | (_, d) => uptoBulk d + 1
 end
def uptoSmall : (H : Type) → List (DataW H) → Bool := fun _ ds => decide (uptoBulkAll ds ≤ 1048576)
def OpenSpec.upto (s : _root_.Go.ChangeSpec) : _root_.Go.OpenSpec := { _root_.Go.OpenSpec.ofChange s with cond := some uptoSmall }

/-- 'laws.FnTextByte', WHERE WHAT IT READS IS OF BULK AT MOST 1048576: true; the input reads as it did. -/
def fnTextByteUptoRow : OpenClaim := { program := "ytkoamlnkpenjeaa", sum := "5a1dd64b07c0b5ff08f76eb252c34c0fe281c14dfbc38e2159221a33f0f98952", func := "loop.example/feedswarm/laws.FnTextByte", spec := "fnTextByte", apart := false, narrowed := true }
def FnTextByteUptoSaid : Prop := fnTextByteUptoRow.holds Try.pinned (OpenSpec.upto fnTextByteSpec)

/-- 'laws.FnTextEmpty', WHERE WHAT IT READS IS OF BULK AT MOST 1048576: true; the input reads as it did. -/
def fnTextEmptyUptoRow : OpenClaim := { program := "ytkoamlnkpenjeaa", sum := "5a1dd64b07c0b5ff08f76eb252c34c0fe281c14dfbc38e2159221a33f0f98952", func := "loop.example/feedswarm/laws.FnTextEmpty", spec := "fnTextEmpty", apart := false, narrowed := true }
def FnTextEmptyUptoSaid : Prop := fnTextEmptyUptoRow.holds Try.pinned (OpenSpec.upto fnTextEmptySpec)

/-- 'laws.FnPair', WHERE WHAT IT READS IS OF BULK AT MOST 1048576: true; the input reads as it did. -/
def fnPairUptoRow : OpenClaim := { program := "ytkoamlnkpenjeaa", sum := "5a1dd64b07c0b5ff08f76eb252c34c0fe281c14dfbc38e2159221a33f0f98952", func := "loop.example/feedswarm/laws.FnPair", spec := "fnPair", apart := false, narrowed := true }
def FnPairUptoSaid : Prop := fnPairUptoRow.holds Try.pinned (OpenSpec.upto fnPairSpec)

/-- 'laws.FnTextNext', WHERE WHAT IT READS IS OF BULK AT MOST 1048576: true; the input reads as it did. -/
def fnTextNextUptoRow : OpenClaim := { program := "ytkoamlnkpenjeaa", sum := "5a1dd64b07c0b5ff08f76eb252c34c0fe281c14dfbc38e2159221a33f0f98952", func := "loop.example/feedswarm/laws.FnTextNext", spec := "fnTextNext", apart := false, narrowed := true }
def FnTextNextUptoSaid : Prop := fnTextNextUptoRow.holds Try.pinned (OpenSpec.upto fnTextNextSpec)

/-- 'laws.FnPairOrder', WHERE WHAT IT READS IS OF BULK AT MOST 1048576: true; the input reads as it did. -/
def fnPairOrderUptoRow : OpenClaim := { program := "ytkoamlnkpenjeaa", sum := "5a1dd64b07c0b5ff08f76eb252c34c0fe281c14dfbc38e2159221a33f0f98952", func := "loop.example/feedswarm/laws.FnPairOrder", spec := "fnPairOrder", apart := false, narrowed := true }
def FnPairOrderUptoSaid : Prop := fnPairOrderUptoRow.holds Try.pinned (OpenSpec.upto fnPairOrderSpec)

/-- 'laws.FnExactDigestText', WHERE WHAT IT READS IS OF BULK AT MOST 1048576: true; the input reads as it did. -/
def fnExactDigestTextUptoRow : OpenClaim := { program := "ytkoamlnkpenjeaa", sum := "5a1dd64b07c0b5ff08f76eb252c34c0fe281c14dfbc38e2159221a33f0f98952", func := "loop.example/feedswarm/laws.FnExactDigestText", spec := "fnExactDigestText", apart := false, narrowed := true }
def FnExactDigestTextUptoSaid : Prop := fnExactDigestTextUptoRow.holds Try.pinned (OpenSpec.upto fnExactDigestTextSpec)

/-- 'laws.FnExactDigestPair', WHERE WHAT IT READS IS OF BULK AT MOST 1048576: true; the input reads as it did. -/
def fnExactDigestPairUptoRow : OpenClaim := { program := "ytkoamlnkpenjeaa", sum := "5a1dd64b07c0b5ff08f76eb252c34c0fe281c14dfbc38e2159221a33f0f98952", func := "loop.example/feedswarm/laws.FnExactDigestPair", spec := "fnExactDigestPair", apart := false, narrowed := true }
def FnExactDigestPairUptoSaid : Prop := fnExactDigestPairUptoRow.holds Try.pinned (OpenSpec.upto fnExactDigestPairSpec)

end Rows
end Go.Proofs.Ytkoamlnkpenjeaa
