/-
  No cell of these rows narrows 'for every input' (looked for: loops, veiled, ifaces, maps, wideKeys, modest, calm, conditions, laid).
  DERIVED. THE GIVEN ROWS OF THIS SEAT. 7 by the template 'for every input the law returns true; each argument reads behind the call as it read before'; 0 by the template 'total and deterministic' (their statements: YtmgdngmcgokeeaaTotals.lean).
  GIVEN WITH THE SEED: the statements are not yours to turn. If you find one false, say at which input.
  Laid BY PROGRAM, IN A SANDBOX (cutbox-rows.mjs): the forced cells as the released guide's own fill.sh prints them over the translation 85785a04e07dea64… (all of the seat's roots in one cut). By AI agents, Wed Nov 11 2026. No macro, syntax, notation, axiom, sorry.
-/
import Derived.Test.YtmgdngmcgokeeaaChecked
import GoSem.Claim
import GoSem.ClaimJoined
import GoSem.ClaimMapViews
import Derived.JoinedTies
import Derived.KernelRfl
namespace Go.Proofs.Ytmgdngmcgokeeaa
/- THE CELL 'sum', in the pinned program and in every row, IS THE sha256 OF THE DUMP (.gsa) THAT YtmgdngmcgokeeaaProg.lean LOADS. Nothing in Lean hashes anything: it is a label: what it is worth is what the hold of that sum in a sandbox is worth. -/
noncomputable def Try.pinned : Pinned := { name := "ytmgdngmcgokeeaa", sum := "85785a04e07dea641c682abcc0426ac9fe0c2c97854c8fe3727b2afe74d24703", checked := Try.checked }
namespace Rows
def none {H : Type} : Left H := { results := [], args := [] }

/-- 'laws.FnCount': WHATEVER THE INPUT: true; the input reads as it did. -/
def fnCountSpec : ChangeSpec := { name := "fnCount", fn := fun _ => fun
  | [d1, d2] => { results := [.lit (.bool true)], args := [d1, d2] }
  | _ => none }
def fnCountRow : OpenClaim := { program := "ytmgdngmcgokeeaa", sum := "85785a04e07dea641c682abcc0426ac9fe0c2c97854c8fe3727b2afe74d24703", func := "loop.example/feedswarm/laws.FnCount", spec := "fnCount", unfollowed := true, recurses := true, apart := false }
def FnCountSaid : Prop := fnCountRow.holds Try.pinned (OpenSpec.ofChange fnCountSpec)

/-- ITS FALSE NEIGHBOUR: 'it returns false'. Refute it at one input. -/
def fnCountWrong : ChangeSpec := { name := "fnCount", fn := fun _ => fun
  | [d1, d2] => { results := [.lit (.bool false)], args := [d1, d2] }
  | _ => none }
def FnCountWrongFalsely : Prop := fnCountRow.holds Try.pinned (OpenSpec.ofChange fnCountWrong)

/-- 'laws.FnWants': WHATEVER THE INPUT: true; the input reads as it did. -/
def fnWantsSpec : ChangeSpec := { name := "fnWants", fn := fun _ => fun
  | [d] => { results := [.lit (.bool true)], args := [d] }
  | _ => none }
def fnWantsRow : OpenClaim := { program := "ytmgdngmcgokeeaa", sum := "85785a04e07dea641c682abcc0426ac9fe0c2c97854c8fe3727b2afe74d24703", func := "loop.example/feedswarm/laws.FnWants", spec := "fnWants", apart := false }
def FnWantsSaid : Prop := fnWantsRow.holds Try.pinned (OpenSpec.ofChange fnWantsSpec)

/-- ITS FALSE NEIGHBOUR: 'it returns false'. Refute it at one input. -/
def fnWantsWrong : ChangeSpec := { name := "fnWants", fn := fun _ => fun
  | [d] => { results := [.lit (.bool false)], args := [d] }
  | _ => none }
def FnWantsWrongFalsely : Prop := fnWantsRow.holds Try.pinned (OpenSpec.ofChange fnWantsWrong)

/-- 'laws.FnWantsNone': WHATEVER THE INPUT: true; the input reads as it did. -/
def fnWantsNoneSpec : ChangeSpec := { name := "fnWantsNone", fn := fun _ => fun
  | [d] => { results := [.lit (.bool true)], args := [d] }
  | _ => none }
def fnWantsNoneRow : OpenClaim := { program := "ytmgdngmcgokeeaa", sum := "85785a04e07dea641c682abcc0426ac9fe0c2c97854c8fe3727b2afe74d24703", func := "loop.example/feedswarm/laws.FnWantsNone", spec := "fnWantsNone", unfollowed := true, recurses := true, apart := false }
def FnWantsNoneSaid : Prop := fnWantsNoneRow.holds Try.pinned (OpenSpec.ofChange fnWantsNoneSpec)

/-- ITS FALSE NEIGHBOUR: 'it returns false'. Refute it at one input. -/
def fnWantsNoneWrong : ChangeSpec := { name := "fnWantsNone", fn := fun _ => fun
  | [d] => { results := [.lit (.bool false)], args := [d] }
  | _ => none }
def FnWantsNoneWrongFalsely : Prop := fnWantsNoneRow.holds Try.pinned (OpenSpec.ofChange fnWantsNoneWrong)

/-- 'laws.FnCountParts': WHATEVER THE INPUT: true; the input reads as it did. -/
def fnCountPartsSpec : ChangeSpec := { name := "fnCountParts", fn := fun _ => fun
  | [d1, d2] => { results := [.lit (.bool true)], args := [d1, d2] }
  | _ => none }
def fnCountPartsRow : OpenClaim := { program := "ytmgdngmcgokeeaa", sum := "85785a04e07dea641c682abcc0426ac9fe0c2c97854c8fe3727b2afe74d24703", func := "loop.example/feedswarm/laws.FnCountParts", spec := "fnCountParts", unfollowed := true, recurses := true, apart := false }
def FnCountPartsSaid : Prop := fnCountPartsRow.holds Try.pinned (OpenSpec.ofChange fnCountPartsSpec)

/-- ITS FALSE NEIGHBOUR: 'it returns false'. Refute it at one input. -/
def fnCountPartsWrong : ChangeSpec := { name := "fnCountParts", fn := fun _ => fun
  | [d1, d2] => { results := [.lit (.bool false)], args := [d1, d2] }
  | _ => none }
def FnCountPartsWrongFalsely : Prop := fnCountPartsRow.holds Try.pinned (OpenSpec.ofChange fnCountPartsWrong)

/-- 'laws.FnWantsCount': WHATEVER THE INPUT: true; the input reads as it did. -/
def fnWantsCountSpec : ChangeSpec := { name := "fnWantsCount", fn := fun _ => fun
  | [d] => { results := [.lit (.bool true)], args := [d] }
  | _ => none }
def fnWantsCountRow : OpenClaim := { program := "ytmgdngmcgokeeaa", sum := "85785a04e07dea641c682abcc0426ac9fe0c2c97854c8fe3727b2afe74d24703", func := "loop.example/feedswarm/laws.FnWantsCount", spec := "fnWantsCount", unfollowed := true, recurses := true, apart := false }
def FnWantsCountSaid : Prop := fnWantsCountRow.holds Try.pinned (OpenSpec.ofChange fnWantsCountSpec)

/-- ITS FALSE NEIGHBOUR: 'it returns false'. Refute it at one input. -/
def fnWantsCountWrong : ChangeSpec := { name := "fnWantsCount", fn := fun _ => fun
  | [d] => { results := [.lit (.bool false)], args := [d] }
  | _ => none }
def FnWantsCountWrongFalsely : Prop := fnWantsCountRow.holds Try.pinned (OpenSpec.ofChange fnWantsCountWrong)

/-- 'laws.FnExactBitsCount': WHATEVER THE INPUT: true; the input reads as it did. -/
def fnExactBitsCountSpec : ChangeSpec := { name := "fnExactBitsCount", fn := fun _ => fun
  | [d] => { results := [.lit (.bool true)], args := [d] }
  | _ => none }
def fnExactBitsCountRow : OpenClaim := { program := "ytmgdngmcgokeeaa", sum := "85785a04e07dea641c682abcc0426ac9fe0c2c97854c8fe3727b2afe74d24703", func := "loop.example/feedswarm/laws.FnExactBitsCount", spec := "fnExactBitsCount", unfollowed := true, recurses := true, apart := false }
def FnExactBitsCountSaid : Prop := fnExactBitsCountRow.holds Try.pinned (OpenSpec.ofChange fnExactBitsCountSpec)

/-- ITS FALSE NEIGHBOUR: 'it returns false'. Refute it at one input. -/
def fnExactBitsCountWrong : ChangeSpec := { name := "fnExactBitsCount", fn := fun _ => fun
  | [d] => { results := [.lit (.bool false)], args := [d] }
  | _ => none }
def FnExactBitsCountWrongFalsely : Prop := fnExactBitsCountRow.holds Try.pinned (OpenSpec.ofChange fnExactBitsCountWrong)

/-- 'laws.FnExactBitsWants': WHATEVER THE INPUT: true; the input reads as it did. -/
def fnExactBitsWantsSpec : ChangeSpec := { name := "fnExactBitsWants", fn := fun _ => fun
  | [d1, d2] => { results := [.lit (.bool true)], args := [d1, d2] }
  | _ => none }
def fnExactBitsWantsRow : OpenClaim := { program := "ytmgdngmcgokeeaa", sum := "85785a04e07dea641c682abcc0426ac9fe0c2c97854c8fe3727b2afe74d24703", func := "loop.example/feedswarm/laws.FnExactBitsWants", spec := "fnExactBitsWants", apart := false }
def FnExactBitsWantsSaid : Prop := fnExactBitsWantsRow.holds Try.pinned (OpenSpec.ofChange fnExactBitsWantsSpec)

/-- ITS FALSE NEIGHBOUR: 'it returns false'. Refute it at one input. -/
def fnExactBitsWantsWrong : ChangeSpec := { name := "fnExactBitsWants", fn := fun _ => fun
  | [d1, d2] => { results := [.lit (.bool false)], args := [d1, d2] }
  | _ => none }
def FnExactBitsWantsWrongFalsely : Prop := fnExactBitsWantsRow.holds Try.pinned (OpenSpec.ofChange fnExactBitsWantsWrong)

/- THE SECOND FORM. 'bulk': how many values and letters a reading holds, each counted each time it is reached (what is shared counts as often as it is met; a slice's spare places count too). A statement '..UptoSaid' is the law's where the arguments, and the package variables that the reading takes, are together of bulk at most 1048576: NARROWER than '..Said'. Prove '..Said' where nothing that the law and all that it calls make is longer than what came in: it says more and counts as full. Else prove '..UptoSaid'. A law counts once. -/
mutual
def uptoBulk {H : Type} : DataW H → Nat
  | .lit (.string bytes) => bytes.length + 1
  | .lit _ => 1
  | .nil => 1
  | .ptr d => uptoBulk d + 1
  | .slice elems spare => uptoBulkAll elems + uptoBulkAll spare + 1
  | .agg parts => uptoBulkAll parts + 1
  | .iface _ d => uptoBulk d + 1
  | .map entries => uptoBulkEntries entries + 1
  | .held _ => 1
def uptoBulkAll {H : Type} : List (DataW H) → Nat
  | [] => 0
  | d :: r => uptoBulk d + uptoBulkAll r
def uptoBulkEntries {H : Type} : List (Lit × DataW H) → Nat
  | [] => 0
  | x :: r => uptoBulkEntry x + uptoBulkEntries r
def uptoBulkEntry {H : Type} : Lit × DataW H → Nat
  | (.string bytes, d) => bytes.length + uptoBulk d + 1
  | (_, d) => uptoBulk d + 1
 end
def uptoSmall : (H : Type) → List (DataW H) → Bool := fun _ ds => decide (uptoBulkAll ds ≤ 1048576)
def OpenSpec.upto (s : _root_.Go.ChangeSpec) : _root_.Go.OpenSpec := { _root_.Go.OpenSpec.ofChange s with cond := some uptoSmall }

/-- 'laws.FnCount', WHERE WHAT IT READS IS OF BULK AT MOST 1048576: true; the input reads as it did. -/
def fnCountUptoRow : OpenClaim := { program := "ytmgdngmcgokeeaa", sum := "85785a04e07dea641c682abcc0426ac9fe0c2c97854c8fe3727b2afe74d24703", func := "loop.example/feedswarm/laws.FnCount", spec := "fnCount", unfollowed := true, recurses := true, apart := false, narrowed := true }
def FnCountUptoSaid : Prop := fnCountUptoRow.holds Try.pinned (OpenSpec.upto fnCountSpec)

/-- 'laws.FnWants', WHERE WHAT IT READS IS OF BULK AT MOST 1048576: true; the input reads as it did. -/
def fnWantsUptoRow : OpenClaim := { program := "ytmgdngmcgokeeaa", sum := "85785a04e07dea641c682abcc0426ac9fe0c2c97854c8fe3727b2afe74d24703", func := "loop.example/feedswarm/laws.FnWants", spec := "fnWants", apart := false, narrowed := true }
def FnWantsUptoSaid : Prop := fnWantsUptoRow.holds Try.pinned (OpenSpec.upto fnWantsSpec)

/-- 'laws.FnWantsNone', WHERE WHAT IT READS IS OF BULK AT MOST 1048576: true; the input reads as it did. -/
def fnWantsNoneUptoRow : OpenClaim := { program := "ytmgdngmcgokeeaa", sum := "85785a04e07dea641c682abcc0426ac9fe0c2c97854c8fe3727b2afe74d24703", func := "loop.example/feedswarm/laws.FnWantsNone", spec := "fnWantsNone", unfollowed := true, recurses := true, apart := false, narrowed := true }
def FnWantsNoneUptoSaid : Prop := fnWantsNoneUptoRow.holds Try.pinned (OpenSpec.upto fnWantsNoneSpec)

/-- 'laws.FnCountParts', WHERE WHAT IT READS IS OF BULK AT MOST 1048576: true; the input reads as it did. -/
def fnCountPartsUptoRow : OpenClaim := { program := "ytmgdngmcgokeeaa", sum := "85785a04e07dea641c682abcc0426ac9fe0c2c97854c8fe3727b2afe74d24703", func := "loop.example/feedswarm/laws.FnCountParts", spec := "fnCountParts", unfollowed := true, recurses := true, apart := false, narrowed := true }
def FnCountPartsUptoSaid : Prop := fnCountPartsUptoRow.holds Try.pinned (OpenSpec.upto fnCountPartsSpec)

/-- 'laws.FnWantsCount', WHERE WHAT IT READS IS OF BULK AT MOST 1048576: true; the input reads as it did. -/
def fnWantsCountUptoRow : OpenClaim := { program := "ytmgdngmcgokeeaa", sum := "85785a04e07dea641c682abcc0426ac9fe0c2c97854c8fe3727b2afe74d24703", func := "loop.example/feedswarm/laws.FnWantsCount", spec := "fnWantsCount", unfollowed := true, recurses := true, apart := false, narrowed := true }
def FnWantsCountUptoSaid : Prop := fnWantsCountUptoRow.holds Try.pinned (OpenSpec.upto fnWantsCountSpec)

/-- 'laws.FnExactBitsCount', WHERE WHAT IT READS IS OF BULK AT MOST 1048576: true; the input reads as it did. -/
def fnExactBitsCountUptoRow : OpenClaim := { program := "ytmgdngmcgokeeaa", sum := "85785a04e07dea641c682abcc0426ac9fe0c2c97854c8fe3727b2afe74d24703", func := "loop.example/feedswarm/laws.FnExactBitsCount", spec := "fnExactBitsCount", unfollowed := true, recurses := true, apart := false, narrowed := true }
def FnExactBitsCountUptoSaid : Prop := fnExactBitsCountUptoRow.holds Try.pinned (OpenSpec.upto fnExactBitsCountSpec)

/-- 'laws.FnExactBitsWants', WHERE WHAT IT READS IS OF BULK AT MOST 1048576: true; the input reads as it did. -/
def fnExactBitsWantsUptoRow : OpenClaim := { program := "ytmgdngmcgokeeaa", sum := "85785a04e07dea641c682abcc0426ac9fe0c2c97854c8fe3727b2afe74d24703", func := "loop.example/feedswarm/laws.FnExactBitsWants", spec := "fnExactBitsWants", apart := false, narrowed := true }
def FnExactBitsWantsUptoSaid : Prop := fnExactBitsWantsUptoRow.holds Try.pinned (OpenSpec.upto fnExactBitsWantsSpec)

end Rows
end Go.Proofs.Ytmgdngmcgokeeaa
