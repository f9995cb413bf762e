/-
  No cell of these rows narrows 'for every input' (looked for: loops, veiled, ifaces, maps, wideKeys, modest, calm, conditions, laid).
  DERIVED. THE GIVEN ROWS OF THIS SEAT. 4 by the template 'for every input the law returns true; each argument reads behind the call as it read before'; 0 by the template 'total and deterministic' (their statements: YtkicfneikbiklaaTotals.lean).
  GIVEN WITH THE SEED: the statements are not yours to turn. If you find one false, say at which input.
  Laid BY PROGRAM, IN A SANDBOX (cutbox-rows.mjs): the forced cells as the released guide's own fill.sh prints them over the translation 8ae5bd74146f717d… (all of the seat's roots in one cut). By AI agents, Wed Nov 11 2026. No macro, syntax, notation, axiom, sorry.
-/
import Derived.Test.YtkicfneikbiklaaChecked
import GoSem.Claim
import GoSem.ClaimJoined
import GoSem.ClaimMapViews
import Derived.JoinedTies
import Derived.KernelRfl
namespace Go.Proofs.Ytkicfneikbiklaa
/- THE CELL 'sum', in the pinned program and in every row, IS THE sha256 OF THE DUMP (.gsa) THAT YtkicfneikbiklaaProg.lean LOADS. Nothing in Lean hashes anything: it is a label: what it is worth is what the hold of that sum in a sandbox is worth. -/
noncomputable def Try.pinned : Pinned := { name := "ytkicfneikbiklaa", sum := "8ae5bd74146f717d7c6a118b9e4428d16cc92e0467a12b0cd0d6f22de9959f8e", checked := Try.checked }
namespace Rows
def none {H : Type} : Left H := { results := [], args := [] }

/-- 'laws.FnForkNamed': WHATEVER THE INPUT: true; the input reads as it did. -/
def fnForkNamedSpec : ChangeSpec := { name := "fnForkNamed", fn := fun _ => fun
  | [d] => { results := [.lit (.bool true)], args := [d] }
  | _ => none }
def fnForkNamedRow : OpenClaim := { program := "ytkicfneikbiklaa", sum := "8ae5bd74146f717d7c6a118b9e4428d16cc92e0467a12b0cd0d6f22de9959f8e", func := "loop.example/feedswarm/laws.FnForkNamed", spec := "fnForkNamed", unfollowed := true, recurses := true, apart := false }
def FnForkNamedSaid : Prop := fnForkNamedRow.holds Try.pinned (OpenSpec.ofChange fnForkNamedSpec)

/-- ITS FALSE NEIGHBOUR: 'it returns false'. Refute it at one input. -/
def fnForkNamedWrong : ChangeSpec := { name := "fnForkNamed", fn := fun _ => fun
  | [d] => { results := [.lit (.bool false)], args := [d] }
  | _ => none }
def FnForkNamedWrongFalsely : Prop := fnForkNamedRow.holds Try.pinned (OpenSpec.ofChange fnForkNamedWrong)

/-- 'laws.FnForkNone': WHATEVER THE INPUT: true; the input reads as it did. -/
def fnForkNoneSpec : ChangeSpec := { name := "fnForkNone", fn := fun _ => fun
  | [d] => { results := [.lit (.bool true)], args := [d] }
  | _ => none }
def fnForkNoneRow : OpenClaim := { program := "ytkicfneikbiklaa", sum := "8ae5bd74146f717d7c6a118b9e4428d16cc92e0467a12b0cd0d6f22de9959f8e", func := "loop.example/feedswarm/laws.FnForkNone", spec := "fnForkNone", unfollowed := true, recurses := true, apart := false }
def FnForkNoneSaid : Prop := fnForkNoneRow.holds Try.pinned (OpenSpec.ofChange fnForkNoneSpec)

/-- ITS FALSE NEIGHBOUR: 'it returns false'. Refute it at one input. -/
def fnForkNoneWrong : ChangeSpec := { name := "fnForkNone", fn := fun _ => fun
  | [d] => { results := [.lit (.bool false)], args := [d] }
  | _ => none }
def FnForkNoneWrongFalsely : Prop := fnForkNoneRow.holds Try.pinned (OpenSpec.ofChange fnForkNoneWrong)

/-- 'laws.FnForkNamedMore': WHATEVER THE INPUT: true; the input reads as it did. -/
def fnForkNamedMoreSpec : ChangeSpec := { name := "fnForkNamedMore", fn := fun _ => fun
  | [d1, d2] => { results := [.lit (.bool true)], args := [d1, d2] }
  | _ => none }
def fnForkNamedMoreRow : OpenClaim := { program := "ytkicfneikbiklaa", sum := "8ae5bd74146f717d7c6a118b9e4428d16cc92e0467a12b0cd0d6f22de9959f8e", func := "loop.example/feedswarm/laws.FnForkNamedMore", spec := "fnForkNamedMore", unfollowed := true, recurses := true, apart := false }
def FnForkNamedMoreSaid : Prop := fnForkNamedMoreRow.holds Try.pinned (OpenSpec.ofChange fnForkNamedMoreSpec)

/-- ITS FALSE NEIGHBOUR: 'it returns false'. Refute it at one input. -/
def fnForkNamedMoreWrong : ChangeSpec := { name := "fnForkNamedMore", fn := fun _ => fun
  | [d1, d2] => { results := [.lit (.bool false)], args := [d1, d2] }
  | _ => none }
def FnForkNamedMoreWrongFalsely : Prop := fnForkNamedMoreRow.holds Try.pinned (OpenSpec.ofChange fnForkNamedMoreWrong)

/-- 'laws.FnExactForkNamed': WHATEVER THE INPUT: true; the input reads as it did. -/
def fnExactForkNamedSpec : ChangeSpec := { name := "fnExactForkNamed", fn := fun _ => fun
  | [d] => { results := [.lit (.bool true)], args := [d] }
  | _ => none }
def fnExactForkNamedRow : OpenClaim := { program := "ytkicfneikbiklaa", sum := "8ae5bd74146f717d7c6a118b9e4428d16cc92e0467a12b0cd0d6f22de9959f8e", func := "loop.example/feedswarm/laws.FnExactForkNamed", spec := "fnExactForkNamed", unfollowed := true, recurses := true, apart := false }
def FnExactForkNamedSaid : Prop := fnExactForkNamedRow.holds Try.pinned (OpenSpec.ofChange fnExactForkNamedSpec)

/-- ITS FALSE NEIGHBOUR: 'it returns false'. Refute it at one input. -/
def fnExactForkNamedWrong : ChangeSpec := { name := "fnExactForkNamed", fn := fun _ => fun
  | [d] => { results := [.lit (.bool false)], args := [d] }
  | _ => none }
def FnExactForkNamedWrongFalsely : Prop := fnExactForkNamedRow.holds Try.pinned (OpenSpec.ofChange fnExactForkNamedWrong)

/- THE SECOND FORM. 'bulk': how many values and letters a reading holds, each counted each time it is reached (what is shared counts as often as it is met; a slice's spare places count too). A statement '..UptoSaid' is the law's where the arguments, and the package variables that the reading takes, are together of bulk at most 1048576: NARROWER than '..Said'. Prove '..Said' where nothing that the law and all that it calls make is longer than what came in: it says more and counts as full. Else prove '..UptoSaid'. A law counts once. -/
mutual
def uptoBulk {H : Type} : DataW H → Nat
  | .lit (.string bytes) => bytes.length + 1
  | .lit _ => 1
  | .nil => 1
  | .ptr d => uptoBulk d + 1
  | .slice elems spare => uptoBulkAll elems + uptoBulkAll spare + 1
  | .agg parts => uptoBulkAll parts + 1
  | .iface _ d => uptoBulk d + 1
  | .map entries => uptoBulkEntries entries + 1
  | .held _ => 1
def uptoBulkAll {H : Type} : List (DataW H) → Nat
  | [] => 0
  | d :: r => uptoBulk d + uptoBulkAll r
def uptoBulkEntries {H : Type} : List (Lit × DataW H) → Nat
  | [] => 0
  | x :: r => uptoBulkEntry x + uptoBulkEntries r
def uptoBulkEntry {H : Type} : Lit × DataW H → Nat
  | (.string bytes, d) => bytes.length + uptoBulk d + 1
  | (_, d) => uptoBulk d + 1
 end
def uptoSmall : (H : Type) → List (DataW H) → Bool := fun _ ds => decide (uptoBulkAll ds ≤ 1048576)
def OpenSpec.upto (s : _root_.Go.ChangeSpec) : _root_.Go.OpenSpec := { _root_.Go.OpenSpec.ofChange s with cond := some uptoSmall }

/-- 'laws.FnForkNamed', WHERE WHAT IT READS IS OF BULK AT MOST 1048576: true; the input reads as it did. -/
def fnForkNamedUptoRow : OpenClaim := { program := "ytkicfneikbiklaa", sum := "8ae5bd74146f717d7c6a118b9e4428d16cc92e0467a12b0cd0d6f22de9959f8e", func := "loop.example/feedswarm/laws.FnForkNamed", spec := "fnForkNamed", unfollowed := true, recurses := true, apart := false, narrowed := true }
def FnForkNamedUptoSaid : Prop := fnForkNamedUptoRow.holds Try.pinned (OpenSpec.upto fnForkNamedSpec)

/-- 'laws.FnForkNone', WHERE WHAT IT READS IS OF BULK AT MOST 1048576: true; the input reads as it did. -/
def fnForkNoneUptoRow : OpenClaim := { program := "ytkicfneikbiklaa", sum := "8ae5bd74146f717d7c6a118b9e4428d16cc92e0467a12b0cd0d6f22de9959f8e", func := "loop.example/feedswarm/laws.FnForkNone", spec := "fnForkNone", unfollowed := true, recurses := true, apart := false, narrowed := true }
def FnForkNoneUptoSaid : Prop := fnForkNoneUptoRow.holds Try.pinned (OpenSpec.upto fnForkNoneSpec)

/-- 'laws.FnForkNamedMore', WHERE WHAT IT READS IS OF BULK AT MOST 1048576: true; the input reads as it did. -/
def fnForkNamedMoreUptoRow : OpenClaim := { program := "ytkicfneikbiklaa", sum := "8ae5bd74146f717d7c6a118b9e4428d16cc92e0467a12b0cd0d6f22de9959f8e", func := "loop.example/feedswarm/laws.FnForkNamedMore", spec := "fnForkNamedMore", unfollowed := true, recurses := true, apart := false, narrowed := true }
def FnForkNamedMoreUptoSaid : Prop := fnForkNamedMoreUptoRow.holds Try.pinned (OpenSpec.upto fnForkNamedMoreSpec)

/-- 'laws.FnExactForkNamed', WHERE WHAT IT READS IS OF BULK AT MOST 1048576: true; the input reads as it did. -/
def fnExactForkNamedUptoRow : OpenClaim := { program := "ytkicfneikbiklaa", sum := "8ae5bd74146f717d7c6a118b9e4428d16cc92e0467a12b0cd0d6f22de9959f8e", func := "loop.example/feedswarm/laws.FnExactForkNamed", spec := "fnExactForkNamed", unfollowed := true, recurses := true, apart := false, narrowed := true }
def FnExactForkNamedUptoSaid : Prop := fnExactForkNamedUptoRow.holds Try.pinned (OpenSpec.upto fnExactForkNamedSpec)

end Rows
end Go.Proofs.Ytkicfneikbiklaa
