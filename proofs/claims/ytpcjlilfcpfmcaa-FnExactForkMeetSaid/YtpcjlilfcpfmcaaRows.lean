/-
  No cell of these rows narrows 'for every input' (looked for: loops, veiled, ifaces, maps, wideKeys, modest, calm, conditions, laid).
  DERIVED. THE GIVEN ROWS OF THIS SEAT. 6 by the template 'for every input the law returns true; each argument reads behind the call as it read before'; 0 by the template 'total and deterministic' (their statements: YtpcjlilfcpfmcaaTotals.lean).
  GIVEN WITH THE SEED: the statements are not yours to turn. If you find one false, say at which input.
  Laid BY PROGRAM, IN A SANDBOX (cutbox-rows.mjs): the forced cells as the released guide's own fill.sh prints them over the translation 7063e46fdfc91b7a… (all of the seat's roots in one cut). By AI agents, Wed Nov 11 2026. No macro, syntax, notation, axiom, sorry.
-/
import Derived.Test.YtpcjlilfcpfmcaaChecked
import GoSem.Claim
import GoSem.ClaimJoined
import GoSem.ClaimMapViews
import Derived.JoinedTies
import Derived.KernelRfl
namespace Go.Proofs.Ytpcjlilfcpfmcaa
/- THE CELL 'sum', in the pinned program and in every row, IS THE sha256 OF THE DUMP (.gsa) THAT YtpcjlilfcpfmcaaProg.lean LOADS. Nothing in Lean hashes anything: it is a label: what it is worth is what the hold of that sum in a sandbox is worth. -/
noncomputable def Try.pinned : Pinned := { name := "ytpcjlilfcpfmcaa", sum := "7063e46fdfc91b7ad90b54679b206490c8492dd956e6ce781a11c90da0cc504f", checked := Try.checked }
namespace Rows
def none {H : Type} : Left H := { results := [], args := [] }

/-- 'laws.FnForkCheck': WHATEVER THE INPUT: true; the input reads as it did. -/
def fnForkCheckSpec : ChangeSpec := { name := "fnForkCheck", fn := fun _ => fun
  | [d] => { results := [.lit (.bool true)], args := [d] }
  | _ => none }
def fnForkCheckRow : OpenClaim := { program := "ytpcjlilfcpfmcaa", sum := "7063e46fdfc91b7ad90b54679b206490c8492dd956e6ce781a11c90da0cc504f", func := "loop.example/feedswarm/laws.FnForkCheck", spec := "fnForkCheck", recurses := true, apart := false }
def FnForkCheckSaid : Prop := fnForkCheckRow.holds Try.pinned (OpenSpec.ofChange fnForkCheckSpec)

/-- ITS FALSE NEIGHBOUR: 'it returns false'. Refute it at one input. -/
def fnForkCheckWrong : ChangeSpec := { name := "fnForkCheck", fn := fun _ => fun
  | [d] => { results := [.lit (.bool false)], args := [d] }
  | _ => none }
def FnForkCheckWrongFalsely : Prop := fnForkCheckRow.holds Try.pinned (OpenSpec.ofChange fnForkCheckWrong)

/-- 'laws.FnForkOne': WHATEVER THE INPUT: true; the input reads as it did. -/
def fnForkOneSpec : ChangeSpec := { name := "fnForkOne", fn := fun _ => fun
  | [d] => { results := [.lit (.bool true)], args := [d] }
  | _ => none }
def fnForkOneRow : OpenClaim := { program := "ytpcjlilfcpfmcaa", sum := "7063e46fdfc91b7ad90b54679b206490c8492dd956e6ce781a11c90da0cc504f", func := "loop.example/feedswarm/laws.FnForkOne", spec := "fnForkOne", recurses := true, apart := false }
def FnForkOneSaid : Prop := fnForkOneRow.holds Try.pinned (OpenSpec.ofChange fnForkOneSpec)

/-- ITS FALSE NEIGHBOUR: 'it returns false'. Refute it at one input. -/
def fnForkOneWrong : ChangeSpec := { name := "fnForkOne", fn := fun _ => fun
  | [d] => { results := [.lit (.bool false)], args := [d] }
  | _ => none }
def FnForkOneWrongFalsely : Prop := fnForkOneRow.holds Try.pinned (OpenSpec.ofChange fnForkOneWrong)

/-- 'laws.FnForkMeet': WHATEVER THE INPUT: true; the input reads as it did. -/
def fnForkMeetSpec : ChangeSpec := { name := "fnForkMeet", fn := fun _ => fun
  | [d] => { results := [.lit (.bool true)], args := [d] }
  | _ => none }
def fnForkMeetRow : OpenClaim := { program := "ytpcjlilfcpfmcaa", sum := "7063e46fdfc91b7ad90b54679b206490c8492dd956e6ce781a11c90da0cc504f", func := "loop.example/feedswarm/laws.FnForkMeet", spec := "fnForkMeet", recurses := true, apart := false }
def FnForkMeetSaid : Prop := fnForkMeetRow.holds Try.pinned (OpenSpec.ofChange fnForkMeetSpec)

/-- ITS FALSE NEIGHBOUR: 'it returns false'. Refute it at one input. -/
def fnForkMeetWrong : ChangeSpec := { name := "fnForkMeet", fn := fun _ => fun
  | [d] => { results := [.lit (.bool false)], args := [d] }
  | _ => none }
def FnForkMeetWrongFalsely : Prop := fnForkMeetRow.holds Try.pinned (OpenSpec.ofChange fnForkMeetWrong)

/-- 'laws.FnForkHonest': WHATEVER THE INPUT: true; the input reads as it did. -/
def fnForkHonestSpec : ChangeSpec := { name := "fnForkHonest", fn := fun _ => fun
  | [d] => { results := [.lit (.bool true)], args := [d] }
  | _ => none }
def fnForkHonestRow : OpenClaim := { program := "ytpcjlilfcpfmcaa", sum := "7063e46fdfc91b7ad90b54679b206490c8492dd956e6ce781a11c90da0cc504f", func := "loop.example/feedswarm/laws.FnForkHonest", spec := "fnForkHonest", recurses := true, apart := false }
def FnForkHonestSaid : Prop := fnForkHonestRow.holds Try.pinned (OpenSpec.ofChange fnForkHonestSpec)

/-- ITS FALSE NEIGHBOUR: 'it returns false'. Refute it at one input. -/
def fnForkHonestWrong : ChangeSpec := { name := "fnForkHonest", fn := fun _ => fun
  | [d] => { results := [.lit (.bool false)], args := [d] }
  | _ => none }
def FnForkHonestWrongFalsely : Prop := fnForkHonestRow.holds Try.pinned (OpenSpec.ofChange fnForkHonestWrong)

/-- 'laws.FnExactForkCheck': WHATEVER THE INPUT: true; the input reads as it did. -/
def fnExactForkCheckSpec : ChangeSpec := { name := "fnExactForkCheck", fn := fun _ => fun
  | [d] => { results := [.lit (.bool true)], args := [d] }
  | _ => none }
def fnExactForkCheckRow : OpenClaim := { program := "ytpcjlilfcpfmcaa", sum := "7063e46fdfc91b7ad90b54679b206490c8492dd956e6ce781a11c90da0cc504f", func := "loop.example/feedswarm/laws.FnExactForkCheck", spec := "fnExactForkCheck", apart := false }
def FnExactForkCheckSaid : Prop := fnExactForkCheckRow.holds Try.pinned (OpenSpec.ofChange fnExactForkCheckSpec)

/-- ITS FALSE NEIGHBOUR: 'it returns false'. Refute it at one input. -/
def fnExactForkCheckWrong : ChangeSpec := { name := "fnExactForkCheck", fn := fun _ => fun
  | [d] => { results := [.lit (.bool false)], args := [d] }
  | _ => none }
def FnExactForkCheckWrongFalsely : Prop := fnExactForkCheckRow.holds Try.pinned (OpenSpec.ofChange fnExactForkCheckWrong)

/-- 'laws.FnExactForkMeet': WHATEVER THE INPUT: true; the input reads as it did. -/
def fnExactForkMeetSpec : ChangeSpec := { name := "fnExactForkMeet", fn := fun _ => fun
  | [d1, d2] => { results := [.lit (.bool true)], args := [d1, d2] }
  | _ => none }
def fnExactForkMeetRow : OpenClaim := { program := "ytpcjlilfcpfmcaa", sum := "7063e46fdfc91b7ad90b54679b206490c8492dd956e6ce781a11c90da0cc504f", func := "loop.example/feedswarm/laws.FnExactForkMeet", spec := "fnExactForkMeet", recurses := true, apart := false }
def FnExactForkMeetSaid : Prop := fnExactForkMeetRow.holds Try.pinned (OpenSpec.ofChange fnExactForkMeetSpec)

/-- ITS FALSE NEIGHBOUR: 'it returns false'. Refute it at one input. -/
def fnExactForkMeetWrong : ChangeSpec := { name := "fnExactForkMeet", fn := fun _ => fun
  | [d1, d2] => { results := [.lit (.bool false)], args := [d1, d2] }
  | _ => none }
def FnExactForkMeetWrongFalsely : Prop := fnExactForkMeetRow.holds Try.pinned (OpenSpec.ofChange fnExactForkMeetWrong)

/- THE SECOND FORM. 'bulk': how many values and letters a reading holds, each counted each time it is reached (what is shared counts as often as it is met; a slice's spare places count too). A statement '..UptoSaid' is the law's where the arguments, and the package variables that the reading takes, are together of bulk at most 1048576: NARROWER than '..Said'. Prove '..Said' where nothing that the law and all that it calls make is longer than what came in: it says more and counts as full. Else prove '..UptoSaid'. A law counts once. -/
mutual
def uptoBulk {H : Type} : DataW H → Nat
  | .lit (.string bytes) => bytes.length + 1
  | .lit _ => 1
  | .nil => 1
  | .ptr d => uptoBulk d + 1
  | .slice elems spare => uptoBulkAll elems + uptoBulkAll spare + 1
  | .agg parts => uptoBulkAll parts + 1
  | .iface _ d => uptoBulk d + 1
  | .map entries => uptoBulkEntries entries + 1
  | .held _ => 1
def uptoBulkAll {H : Type} : List (DataW H) → Nat
  | [] => 0
  | d :: r => uptoBulk d + uptoBulkAll r
def uptoBulkEntries {H : Type} : List (Lit × DataW H) → Nat
  | [] => 0
  | x :: r => uptoBulkEntry x + uptoBulkEntries r
def uptoBulkEntry {H : Type} : Lit × DataW H → Nat
  | (.string bytes, d) => bytes.length + uptoBulk d + 1
  | (_, d) => uptoBulk d + 1
 end
def uptoSmall : (H : Type) → List (DataW H) → Bool := fun _ ds => decide (uptoBulkAll ds ≤ 1048576)
def OpenSpec.upto (s : _root_.Go.ChangeSpec) : _root_.Go.OpenSpec := { _root_.Go.OpenSpec.ofChange s with cond := some uptoSmall }

/-- 'laws.FnForkCheck', WHERE WHAT IT READS IS OF BULK AT MOST 1048576: true; the input reads as it did. -/
def fnForkCheckUptoRow : OpenClaim := { program := "ytpcjlilfcpfmcaa", sum := "7063e46fdfc91b7ad90b54679b206490c8492dd956e6ce781a11c90da0cc504f", func := "loop.example/feedswarm/laws.FnForkCheck", spec := "fnForkCheck", recurses := true, apart := false, narrowed := true }
def FnForkCheckUptoSaid : Prop := fnForkCheckUptoRow.holds Try.pinned (OpenSpec.upto fnForkCheckSpec)

/-- 'laws.FnForkOne', WHERE WHAT IT READS IS OF BULK AT MOST 1048576: true; the input reads as it did. -/
def fnForkOneUptoRow : OpenClaim := { program := "ytpcjlilfcpfmcaa", sum := "7063e46fdfc91b7ad90b54679b206490c8492dd956e6ce781a11c90da0cc504f", func := "loop.example/feedswarm/laws.FnForkOne", spec := "fnForkOne", recurses := true, apart := false, narrowed := true }
def FnForkOneUptoSaid : Prop := fnForkOneUptoRow.holds Try.pinned (OpenSpec.upto fnForkOneSpec)

/-- 'laws.FnForkMeet', WHERE WHAT IT READS IS OF BULK AT MOST 1048576: true; the input reads as it did. -/
def fnForkMeetUptoRow : OpenClaim := { program := "ytpcjlilfcpfmcaa", sum := "7063e46fdfc91b7ad90b54679b206490c8492dd956e6ce781a11c90da0cc504f", func := "loop.example/feedswarm/laws.FnForkMeet", spec := "fnForkMeet", recurses := true, apart := false, narrowed := true }
def FnForkMeetUptoSaid : Prop := fnForkMeetUptoRow.holds Try.pinned (OpenSpec.upto fnForkMeetSpec)

/-- 'laws.FnForkHonest', WHERE WHAT IT READS IS OF BULK AT MOST 1048576: true; the input reads as it did. -/
def fnForkHonestUptoRow : OpenClaim := { program := "ytpcjlilfcpfmcaa", sum := "7063e46fdfc91b7ad90b54679b206490c8492dd956e6ce781a11c90da0cc504f", func := "loop.example/feedswarm/laws.FnForkHonest", spec := "fnForkHonest", recurses := true, apart := false, narrowed := true }
def FnForkHonestUptoSaid : Prop := fnForkHonestUptoRow.holds Try.pinned (OpenSpec.upto fnForkHonestSpec)

/-- 'laws.FnExactForkCheck', WHERE WHAT IT READS IS OF BULK AT MOST 1048576: true; the input reads as it did. -/
def fnExactForkCheckUptoRow : OpenClaim := { program := "ytpcjlilfcpfmcaa", sum := "7063e46fdfc91b7ad90b54679b206490c8492dd956e6ce781a11c90da0cc504f", func := "loop.example/feedswarm/laws.FnExactForkCheck", spec := "fnExactForkCheck", apart := false, narrowed := true }
def FnExactForkCheckUptoSaid : Prop := fnExactForkCheckUptoRow.holds Try.pinned (OpenSpec.upto fnExactForkCheckSpec)

/-- 'laws.FnExactForkMeet', WHERE WHAT IT READS IS OF BULK AT MOST 1048576: true; the input reads as it did. -/
def fnExactForkMeetUptoRow : OpenClaim := { program := "ytpcjlilfcpfmcaa", sum := "7063e46fdfc91b7ad90b54679b206490c8492dd956e6ce781a11c90da0cc504f", func := "loop.example/feedswarm/laws.FnExactForkMeet", spec := "fnExactForkMeet", recurses := true, apart := false, narrowed := true }
def FnExactForkMeetUptoSaid : Prop := fnExactForkMeetUptoRow.holds Try.pinned (OpenSpec.upto fnExactForkMeetSpec)

end Rows
end Go.Proofs.Ytpcjlilfcpfmcaa
