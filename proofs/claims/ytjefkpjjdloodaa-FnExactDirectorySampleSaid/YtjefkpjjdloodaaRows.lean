/-
  No cell of these rows narrows 'for every input' (looked for: loops, veiled, ifaces, maps, wideKeys, modest, calm, conditions, laid).
  DERIVED. THE GIVEN ROWS OF THIS SEAT. 4 by the template 'for every input the law returns true; each argument reads behind the call as it read before'; 0 by the template 'total and deterministic' (their statements: YtjefkpjjdloodaaTotals.lean).
  GIVEN WITH THE SEED: the statements are not yours to turn. If you find one false, say at which input.
  Laid BY PROGRAM, IN A SANDBOX (cutbox-rows.mjs): the forced cells as the released guide's own fill.sh prints them over the translation 29f51a30c4efd0d4… (all of the seat's roots in one cut). By AI agents, Wed Nov 11 2026. No macro, syntax, notation, axiom, sorry.
-/
import Derived.Test.YtjefkpjjdloodaaChecked
import GoSem.Claim
import GoSem.ClaimJoined
import GoSem.ClaimMapViews
import Derived.JoinedTies
import Derived.KernelRfl
namespace Go.Proofs.Ytjefkpjjdloodaa
/- THE CELL 'sum', in the pinned program and in every row, IS THE sha256 OF THE DUMP (.gsa) THAT YtjefkpjjdloodaaProg.lean LOADS. Nothing in Lean hashes anything: it is a label: what it is worth is what the hold of that sum in a sandbox is worth. -/
noncomputable def Try.pinned : Pinned := { name := "ytjefkpjjdloodaa", sum := "29f51a30c4efd0d42a605cf12ea4fad159ca1c37c4e6c8a18d17f192aad44a90", checked := Try.checked }
namespace Rows
def none {H : Type} : Left H := { results := [], args := [] }

/-- 'laws.FnExactDirectoryValid': WHATEVER THE INPUT: true; the input reads as it did. -/
def fnExactDirectoryValidSpec : ChangeSpec := { name := "fnExactDirectoryValid", fn := fun _ => fun
  | [d] => { results := [.lit (.bool true)], args := [d] }
  | _ => none }
def fnExactDirectoryValidRow : OpenClaim := { program := "ytjefkpjjdloodaa", sum := "29f51a30c4efd0d42a605cf12ea4fad159ca1c37c4e6c8a18d17f192aad44a90", func := "loop.example/feedswarm/laws.FnExactDirectoryValid", spec := "fnExactDirectoryValid", apart := false }
def FnExactDirectoryValidSaid : Prop := fnExactDirectoryValidRow.holds Try.pinned (OpenSpec.ofChange fnExactDirectoryValidSpec)

/-- ITS FALSE NEIGHBOUR: 'it returns false'. Refute it at one input. -/
def fnExactDirectoryValidWrong : ChangeSpec := { name := "fnExactDirectoryValid", fn := fun _ => fun
  | [d] => { results := [.lit (.bool false)], args := [d] }
  | _ => none }
def FnExactDirectoryValidWrongFalsely : Prop := fnExactDirectoryValidRow.holds Try.pinned (OpenSpec.ofChange fnExactDirectoryValidWrong)

/-- 'laws.FnExactDirectoryPut': WHATEVER THE INPUT: true; the input reads as it did. -/
def fnExactDirectoryPutSpec : ChangeSpec := { name := "fnExactDirectoryPut", fn := fun _ => fun
  | [d1, d2, d3] => { results := [.lit (.bool true)], args := [d1, d2, d3] }
  | _ => none }
def fnExactDirectoryPutRow : OpenClaim := { program := "ytjefkpjjdloodaa", sum := "29f51a30c4efd0d42a605cf12ea4fad159ca1c37c4e6c8a18d17f192aad44a90", func := "loop.example/feedswarm/laws.FnExactDirectoryPut", spec := "fnExactDirectoryPut", apart := false }
def FnExactDirectoryPutSaid : Prop := fnExactDirectoryPutRow.holds Try.pinned (OpenSpec.ofChange fnExactDirectoryPutSpec)

/-- ITS FALSE NEIGHBOUR: 'it returns false'. Refute it at one input. -/
def fnExactDirectoryPutWrong : ChangeSpec := { name := "fnExactDirectoryPut", fn := fun _ => fun
  | [d1, d2, d3] => { results := [.lit (.bool false)], args := [d1, d2, d3] }
  | _ => none }
def FnExactDirectoryPutWrongFalsely : Prop := fnExactDirectoryPutRow.holds Try.pinned (OpenSpec.ofChange fnExactDirectoryPutWrong)

/-- 'laws.FnExactDirectorySweep': WHATEVER THE INPUT: true; the input reads as it did. -/
def fnExactDirectorySweepSpec : ChangeSpec := { name := "fnExactDirectorySweep", fn := fun _ => fun
  | [d1, d2] => { results := [.lit (.bool true)], args := [d1, d2] }
  | _ => none }
def fnExactDirectorySweepRow : OpenClaim := { program := "ytjefkpjjdloodaa", sum := "29f51a30c4efd0d42a605cf12ea4fad159ca1c37c4e6c8a18d17f192aad44a90", func := "loop.example/feedswarm/laws.FnExactDirectorySweep", spec := "fnExactDirectorySweep", apart := false }
def FnExactDirectorySweepSaid : Prop := fnExactDirectorySweepRow.holds Try.pinned (OpenSpec.ofChange fnExactDirectorySweepSpec)

/-- ITS FALSE NEIGHBOUR: 'it returns false'. Refute it at one input. -/
def fnExactDirectorySweepWrong : ChangeSpec := { name := "fnExactDirectorySweep", fn := fun _ => fun
  | [d1, d2] => { results := [.lit (.bool false)], args := [d1, d2] }
  | _ => none }
def FnExactDirectorySweepWrongFalsely : Prop := fnExactDirectorySweepRow.holds Try.pinned (OpenSpec.ofChange fnExactDirectorySweepWrong)

/-- 'laws.FnExactDirectorySample': WHATEVER THE INPUT: true; the input reads as it did. -/
def fnExactDirectorySampleSpec : ChangeSpec := { name := "fnExactDirectorySample", fn := fun _ => fun
  | [d1, d2, d3] => { results := [.lit (.bool true)], args := [d1, d2, d3] }
  | _ => none }
def fnExactDirectorySampleRow : OpenClaim := { program := "ytjefkpjjdloodaa", sum := "29f51a30c4efd0d42a605cf12ea4fad159ca1c37c4e6c8a18d17f192aad44a90", func := "loop.example/feedswarm/laws.FnExactDirectorySample", spec := "fnExactDirectorySample", apart := false }
def FnExactDirectorySampleSaid : Prop := fnExactDirectorySampleRow.holds Try.pinned (OpenSpec.ofChange fnExactDirectorySampleSpec)

/-- ITS FALSE NEIGHBOUR: 'it returns false'. Refute it at one input. -/
def fnExactDirectorySampleWrong : ChangeSpec := { name := "fnExactDirectorySample", fn := fun _ => fun
  | [d1, d2, d3] => { results := [.lit (.bool false)], args := [d1, d2, d3] }
  | _ => none }
def FnExactDirectorySampleWrongFalsely : Prop := fnExactDirectorySampleRow.holds Try.pinned (OpenSpec.ofChange fnExactDirectorySampleWrong)

/- THE SECOND FORM. 'bulk': how many values and letters a reading holds, each counted each time it is reached (what is shared counts as often as it is met; a slice's spare places count too). A statement '..UptoSaid' is the law's where the arguments, and the package variables that the reading takes, are together of bulk at most 1048576: NARROWER than '..Said'. Prove '..Said' where nothing that the law and all that it calls make is longer than what came in: it says more and counts as full. Else prove '..UptoSaid'. A law counts once. -/
mutual
def uptoBulk {H : Type} : DataW H → Nat
  | .lit (.string bytes) => bytes.length + 1
  | .lit _ => 1
  | .nil => 1
  | .ptr d => uptoBulk d + 1
  | .slice elems spare => uptoBulkAll elems + uptoBulkAll spare + 1
  | .agg parts => uptoBulkAll parts + 1
  | .iface _ d => uptoBulk d + 1
  | .map entries => uptoBulkEntries entries + 1
  | .held _ => 1
def uptoBulkAll {H : Type} : List (DataW H) → Nat
  | [] => 0
  | d :: r => uptoBulk d + uptoBulkAll r
def uptoBulkEntries {H : Type} : List (Lit × DataW H) → Nat
  | [] => 0
  | x :: r => uptoBulkEntry x + uptoBulkEntries r
def uptoBulkEntry {H : Type} : Lit × DataW H → Nat
  | (.string bytes, d) => bytes.length + uptoBulk d + 1
  | (_, d) => uptoBulk d + 1
 end
def uptoSmall : (H : Type) → List (DataW H) → Bool := fun _ ds => decide (uptoBulkAll ds ≤ 1048576)
def OpenSpec.upto (s : _root_.Go.ChangeSpec) : _root_.Go.OpenSpec := { _root_.Go.OpenSpec.ofChange s with cond := some uptoSmall }

/-- 'laws.FnExactDirectoryValid', WHERE WHAT IT READS IS OF BULK AT MOST 1048576: true; the input reads as it did. -/
def fnExactDirectoryValidUptoRow : OpenClaim := { program := "ytjefkpjjdloodaa", sum := "29f51a30c4efd0d42a605cf12ea4fad159ca1c37c4e6c8a18d17f192aad44a90", func := "loop.example/feedswarm/laws.FnExactDirectoryValid", spec := "fnExactDirectoryValid", apart := false, narrowed := true }
def FnExactDirectoryValidUptoSaid : Prop := fnExactDirectoryValidUptoRow.holds Try.pinned (OpenSpec.upto fnExactDirectoryValidSpec)

/-- 'laws.FnExactDirectoryPut', WHERE WHAT IT READS IS OF BULK AT MOST 1048576: true; the input reads as it did. -/
def fnExactDirectoryPutUptoRow : OpenClaim := { program := "ytjefkpjjdloodaa", sum := "29f51a30c4efd0d42a605cf12ea4fad159ca1c37c4e6c8a18d17f192aad44a90", func := "loop.example/feedswarm/laws.FnExactDirectoryPut", spec := "fnExactDirectoryPut", apart := false, narrowed := true }
def FnExactDirectoryPutUptoSaid : Prop := fnExactDirectoryPutUptoRow.holds Try.pinned (OpenSpec.upto fnExactDirectoryPutSpec)

/-- 'laws.FnExactDirectorySweep', WHERE WHAT IT READS IS OF BULK AT MOST 1048576: true; the input reads as it did. -/
def fnExactDirectorySweepUptoRow : OpenClaim := { program := "ytjefkpjjdloodaa", sum := "29f51a30c4efd0d42a605cf12ea4fad159ca1c37c4e6c8a18d17f192aad44a90", func := "loop.example/feedswarm/laws.FnExactDirectorySweep", spec := "fnExactDirectorySweep", apart := false, narrowed := true }
def FnExactDirectorySweepUptoSaid : Prop := fnExactDirectorySweepUptoRow.holds Try.pinned (OpenSpec.upto fnExactDirectorySweepSpec)

/-- 'laws.FnExactDirectorySample', WHERE WHAT IT READS IS OF BULK AT MOST 1048576: true; the input reads as it did. -/
def fnExactDirectorySampleUptoRow : OpenClaim := { program := "ytjefkpjjdloodaa", sum := "29f51a30c4efd0d42a605cf12ea4fad159ca1c37c4e6c8a18d17f192aad44a90", func := "loop.example/feedswarm/laws.FnExactDirectorySample", spec := "fnExactDirectorySample", apart := false, narrowed := true }
def FnExactDirectorySampleUptoSaid : Prop := fnExactDirectorySampleUptoRow.holds Try.pinned (OpenSpec.upto fnExactDirectorySampleSpec)

end Rows
end Go.Proofs.Ytjefkpjjdloodaa
