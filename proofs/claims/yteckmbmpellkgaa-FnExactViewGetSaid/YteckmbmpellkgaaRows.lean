/-
  No cell of these rows narrows 'for every input' (looked for: loops, veiled, ifaces, maps, wideKeys, modest, calm, conditions, laid).
  DERIVED. THE GIVEN ROWS OF THIS SEAT. 3 by the template 'for every input the law returns true; each argument reads behind the call as it read before'; 0 by the template 'total and deterministic' (their statements: YteckmbmpellkgaaTotals.lean).
  GIVEN WITH THE SEED: the statements are not yours to turn. If you find one false, say at which input.
  Laid BY PROGRAM, IN A SANDBOX (cutbox-rows.mjs): the forced cells as the released guide's own fill.sh prints them over the translation 8cac342a6ad8e921… (all of the seat's roots in one cut). By AI agents, Wed Nov 11 2026. No macro, syntax, notation, axiom, sorry.
-/
import Derived.Test.YteckmbmpellkgaaChecked
import GoSem.Claim
import GoSem.ClaimJoined
import GoSem.ClaimMapViews
import Derived.JoinedTies
import Derived.KernelRfl
namespace Go.Proofs.Yteckmbmpellkgaa
/- THE CELL 'sum', in the pinned program and in every row, IS THE sha256 OF THE DUMP (.gsa) THAT YteckmbmpellkgaaProg.lean LOADS. Nothing in Lean hashes anything: it is a label: what it is worth is what the hold of that sum in a sandbox is worth. -/
noncomputable def Try.pinned : Pinned := { name := "yteckmbmpellkgaa", sum := "8cac342a6ad8e921b944da935a90211712cacc5e97fb3cf6e825dbf7451ef349", checked := Try.checked }
namespace Rows
def none {H : Type} : Left H := { results := [], args := [] }

/-- 'laws.FnViewGet': WHATEVER THE INPUT: true; the input reads as it did. -/
def fnViewGetSpec : ChangeSpec := { name := "fnViewGet", fn := fun _ => fun
  | [d] => { results := [.lit (.bool true)], args := [d] }
  | _ => none }
def fnViewGetRow : OpenClaim := { program := "yteckmbmpellkgaa", sum := "8cac342a6ad8e921b944da935a90211712cacc5e97fb3cf6e825dbf7451ef349", func := "loop.example/feedswarm/laws.FnViewGet", spec := "fnViewGet", unfollowed := true, recurses := true, apart := false }
def FnViewGetSaid : Prop := fnViewGetRow.holds Try.pinned (OpenSpec.ofChange fnViewGetSpec)

/-- ITS FALSE NEIGHBOUR: 'it returns false'. Refute it at one input. -/
def fnViewGetWrong : ChangeSpec := { name := "fnViewGet", fn := fun _ => fun
  | [d] => { results := [.lit (.bool false)], args := [d] }
  | _ => none }
def FnViewGetWrongFalsely : Prop := fnViewGetRow.holds Try.pinned (OpenSpec.ofChange fnViewGetWrong)

/-- 'laws.FnViewGetNone': WHATEVER THE INPUT: true; the input reads as it did. -/
def fnViewGetNoneSpec : ChangeSpec := { name := "fnViewGetNone", fn := fun _ => fun
  | [d] => { results := [.lit (.bool true)], args := [d] }
  | _ => none }
def fnViewGetNoneRow : OpenClaim := { program := "yteckmbmpellkgaa", sum := "8cac342a6ad8e921b944da935a90211712cacc5e97fb3cf6e825dbf7451ef349", func := "loop.example/feedswarm/laws.FnViewGetNone", spec := "fnViewGetNone", unfollowed := true, recurses := true, apart := false }
def FnViewGetNoneSaid : Prop := fnViewGetNoneRow.holds Try.pinned (OpenSpec.ofChange fnViewGetNoneSpec)

/-- ITS FALSE NEIGHBOUR: 'it returns false'. Refute it at one input. -/
def fnViewGetNoneWrong : ChangeSpec := { name := "fnViewGetNone", fn := fun _ => fun
  | [d] => { results := [.lit (.bool false)], args := [d] }
  | _ => none }
def FnViewGetNoneWrongFalsely : Prop := fnViewGetNoneRow.holds Try.pinned (OpenSpec.ofChange fnViewGetNoneWrong)

/-- 'laws.FnExactViewGet': WHATEVER THE INPUT: true; the input reads as it did. -/
def fnExactViewGetSpec : ChangeSpec := { name := "fnExactViewGet", fn := fun _ => fun
  | [d1, d2] => { results := [.lit (.bool true)], args := [d1, d2] }
  | _ => none }
def fnExactViewGetRow : OpenClaim := { program := "yteckmbmpellkgaa", sum := "8cac342a6ad8e921b944da935a90211712cacc5e97fb3cf6e825dbf7451ef349", func := "loop.example/feedswarm/laws.FnExactViewGet", spec := "fnExactViewGet", unfollowed := true, recurses := true, apart := false }
def FnExactViewGetSaid : Prop := fnExactViewGetRow.holds Try.pinned (OpenSpec.ofChange fnExactViewGetSpec)

/-- ITS FALSE NEIGHBOUR: 'it returns false'. Refute it at one input. -/
def fnExactViewGetWrong : ChangeSpec := { name := "fnExactViewGet", fn := fun _ => fun
  | [d1, d2] => { results := [.lit (.bool false)], args := [d1, d2] }
  | _ => none }
def FnExactViewGetWrongFalsely : Prop := fnExactViewGetRow.holds Try.pinned (OpenSpec.ofChange fnExactViewGetWrong)

/- THE SECOND FORM. 'bulk': how many values and letters a reading holds, each counted each time it is reached (what is shared counts as often as it is met; a slice's spare places count too). A statement '..UptoSaid' is the law's where the arguments, and the package variables that the reading takes, are together of bulk at most 1048576: NARROWER than '..Said'. Prove '..Said' where nothing that the law and all that it calls make is longer than what came in: it says more and counts as full. Else prove '..UptoSaid'. A law counts once. -/
mutual
def uptoBulk {H : Type} : DataW H → Nat
  | .lit (.string bytes) => bytes.length + 1
  | .lit _ => 1
  | .nil => 1
  | .ptr d => uptoBulk d + 1
  | .slice elems spare => uptoBulkAll elems + uptoBulkAll spare + 1
  | .agg parts => uptoBulkAll parts + 1
  | .iface _ d => uptoBulk d + 1
  | .map entries => uptoBulkEntries entries + 1
  | .held _ => 1
def uptoBulkAll {H : Type} : List (DataW H) → Nat
  | [] => 0
  | d :: r => uptoBulk d + uptoBulkAll r
def uptoBulkEntries {H : Type} : List (Lit × DataW H) → Nat
  | [] => 0
  | x :: r => uptoBulkEntry x + uptoBulkEntries r
def uptoBulkEntry {H : Type} : Lit × DataW H → Nat
  | (.string bytes, d) => bytes.length + uptoBulk d + 1
  | (_, d) => uptoBulk d + 1
 end
def uptoSmall : (H : Type) → List (DataW H) → Bool := fun _ ds => decide (uptoBulkAll ds ≤ 1048576)
def OpenSpec.upto (s : _root_.Go.ChangeSpec) : _root_.Go.OpenSpec := { _root_.Go.OpenSpec.ofChange s with cond := some uptoSmall }

/-- 'laws.FnViewGet', WHERE WHAT IT READS IS OF BULK AT MOST 1048576: true; the input reads as it did. -/
def fnViewGetUptoRow : OpenClaim := { program := "yteckmbmpellkgaa", sum := "8cac342a6ad8e921b944da935a90211712cacc5e97fb3cf6e825dbf7451ef349", func := "loop.example/feedswarm/laws.FnViewGet", spec := "fnViewGet", unfollowed := true, recurses := true, apart := false, narrowed := true }
def FnViewGetUptoSaid : Prop := fnViewGetUptoRow.holds Try.pinned (OpenSpec.upto fnViewGetSpec)

/-- 'laws.FnViewGetNone', WHERE WHAT IT READS IS OF BULK AT MOST 1048576: true; the input reads as it did. -/
def fnViewGetNoneUptoRow : OpenClaim := { program := "yteckmbmpellkgaa", sum := "8cac342a6ad8e921b944da935a90211712cacc5e97fb3cf6e825dbf7451ef349", func := "loop.example/feedswarm/laws.FnViewGetNone", spec := "fnViewGetNone", unfollowed := true, recurses := true, apart := false, narrowed := true }
def FnViewGetNoneUptoSaid : Prop := fnViewGetNoneUptoRow.holds Try.pinned (OpenSpec.upto fnViewGetNoneSpec)

/-- 'laws.FnExactViewGet', WHERE WHAT IT READS IS OF BULK AT MOST 1048576: true; the input reads as it did. -/
def fnExactViewGetUptoRow : OpenClaim := { program := "yteckmbmpellkgaa", sum := "8cac342a6ad8e921b944da935a90211712cacc5e97fb3cf6e825dbf7451ef349", func := "loop.example/feedswarm/laws.FnExactViewGet", spec := "fnExactViewGet", unfollowed := true, recurses := true, apart := false, narrowed := true }
def FnExactViewGetUptoSaid : Prop := fnExactViewGetUptoRow.holds Try.pinned (OpenSpec.upto fnExactViewGetSpec)

end Rows
end Go.Proofs.Yteckmbmpellkgaa
