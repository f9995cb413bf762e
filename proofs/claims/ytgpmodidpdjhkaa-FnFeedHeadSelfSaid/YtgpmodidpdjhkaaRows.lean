/-
  No cell of these rows narrows 'for every input' (looked for: loops, veiled, ifaces, maps, wideKeys, modest, calm, conditions, laid).
  DERIVED. THE GIVEN ROWS OF THIS SEAT. 7 by the template 'for every input the law returns true; each argument reads behind the call as it read before'; 0 by the template 'total and deterministic' (their statements: YtgpmodidpdjhkaaTotals.lean).
  GIVEN WITH THE SEED: the statements are not yours to turn. If you find one false, say at which input.
  Laid BY PROGRAM, IN A SANDBOX (cutbox-rows.mjs): the forced cells as the released guide's own fill.sh prints them over the translation 2fa598275d60fb4c… (all of the seat's roots in one cut). By AI agents, Wed Nov 11 2026. No macro, syntax, notation, axiom, sorry.
-/
import Derived.Test.YtgpmodidpdjhkaaChecked
import GoSem.Claim
import GoSem.ClaimJoined
import GoSem.ClaimMapViews
import Derived.JoinedTies
import Derived.KernelRfl
namespace Go.Proofs.Ytgpmodidpdjhkaa
/- THE CELL 'sum', in the pinned program and in every row, IS THE sha256 OF THE DUMP (.gsa) THAT YtgpmodidpdjhkaaProg.lean LOADS. Nothing in Lean hashes anything: it is a label: what it is worth is what the hold of that sum in a sandbox is worth. -/
noncomputable def Try.pinned : Pinned := { name := "ytgpmodidpdjhkaa", sum := "2fa598275d60fb4c9d3f5423cf07a47aa87b16ed4afd1fadc4d9b6c47ae009d0", checked := Try.checked }
namespace Rows
def none {H : Type} : Left H := { results := [], args := [] }

/-- 'laws.FnFeedNew': WHATEVER THE INPUT: true; the input reads as it did. -/
def fnFeedNewSpec : ChangeSpec := { name := "fnFeedNew", fn := fun _ => fun
  | [d] => { results := [.lit (.bool true)], args := [d] }
  | _ => none }
def fnFeedNewRow : OpenClaim := { program := "ytgpmodidpdjhkaa", sum := "2fa598275d60fb4c9d3f5423cf07a47aa87b16ed4afd1fadc4d9b6c47ae009d0", func := "loop.example/feedswarm/laws.FnFeedNew", spec := "fnFeedNew", recurses := true, apart := false }
def FnFeedNewSaid : Prop := fnFeedNewRow.holds Try.pinned (OpenSpec.ofChange fnFeedNewSpec)

/-- ITS FALSE NEIGHBOUR: 'it returns false'. Refute it at one input. -/
def fnFeedNewWrong : ChangeSpec := { name := "fnFeedNew", fn := fun _ => fun
  | [d] => { results := [.lit (.bool false)], args := [d] }
  | _ => none }
def FnFeedNewWrongFalsely : Prop := fnFeedNewRow.holds Try.pinned (OpenSpec.ofChange fnFeedNewWrong)

/-- 'laws.FnFeedValidWhole': WHATEVER THE INPUT: true; the input reads as it did. -/
def fnFeedValidWholeSpec : ChangeSpec := { name := "fnFeedValidWhole", fn := fun _ => fun
  | [d] => { results := [.lit (.bool true)], args := [d] }
  | _ => none }
def fnFeedValidWholeRow : OpenClaim := { program := "ytgpmodidpdjhkaa", sum := "2fa598275d60fb4c9d3f5423cf07a47aa87b16ed4afd1fadc4d9b6c47ae009d0", func := "loop.example/feedswarm/laws.FnFeedValidWhole", spec := "fnFeedValidWhole", unfollowed := true, recurses := true, apart := false }
def FnFeedValidWholeSaid : Prop := fnFeedValidWholeRow.holds Try.pinned (OpenSpec.ofChange fnFeedValidWholeSpec)

/-- ITS FALSE NEIGHBOUR: 'it returns false'. Refute it at one input. -/
def fnFeedValidWholeWrong : ChangeSpec := { name := "fnFeedValidWhole", fn := fun _ => fun
  | [d] => { results := [.lit (.bool false)], args := [d] }
  | _ => none }
def FnFeedValidWholeWrongFalsely : Prop := fnFeedValidWholeRow.holds Try.pinned (OpenSpec.ofChange fnFeedValidWholeWrong)

/-- 'laws.FnFeedPart': WHATEVER THE INPUT: true; the input reads as it did. -/
def fnFeedPartSpec : ChangeSpec := { name := "fnFeedPart", fn := fun _ => fun
  | [d1, d2] => { results := [.lit (.bool true)], args := [d1, d2] }
  | _ => none }
def fnFeedPartRow : OpenClaim := { program := "ytgpmodidpdjhkaa", sum := "2fa598275d60fb4c9d3f5423cf07a47aa87b16ed4afd1fadc4d9b6c47ae009d0", func := "loop.example/feedswarm/laws.FnFeedPart", spec := "fnFeedPart", recurses := true, apart := false }
def FnFeedPartSaid : Prop := fnFeedPartRow.holds Try.pinned (OpenSpec.ofChange fnFeedPartSpec)

/-- ITS FALSE NEIGHBOUR: 'it returns false'. Refute it at one input. -/
def fnFeedPartWrong : ChangeSpec := { name := "fnFeedPart", fn := fun _ => fun
  | [d1, d2] => { results := [.lit (.bool false)], args := [d1, d2] }
  | _ => none }
def FnFeedPartWrongFalsely : Prop := fnFeedPartRow.holds Try.pinned (OpenSpec.ofChange fnFeedPartWrong)

/-- 'laws.FnFeedHeadSelf': WHATEVER THE INPUT: true; the input reads as it did. -/
def fnFeedHeadSelfSpec : ChangeSpec := { name := "fnFeedHeadSelf", fn := fun _ => fun
  | [d1, d2] => { results := [.lit (.bool true)], args := [d1, d2] }
  | _ => none }
def fnFeedHeadSelfRow : OpenClaim := { program := "ytgpmodidpdjhkaa", sum := "2fa598275d60fb4c9d3f5423cf07a47aa87b16ed4afd1fadc4d9b6c47ae009d0", func := "loop.example/feedswarm/laws.FnFeedHeadSelf", spec := "fnFeedHeadSelf", recurses := true, apart := false }
def FnFeedHeadSelfSaid : Prop := fnFeedHeadSelfRow.holds Try.pinned (OpenSpec.ofChange fnFeedHeadSelfSpec)

/-- ITS FALSE NEIGHBOUR: 'it returns false'. Refute it at one input. -/
def fnFeedHeadSelfWrong : ChangeSpec := { name := "fnFeedHeadSelf", fn := fun _ => fun
  | [d1, d2] => { results := [.lit (.bool false)], args := [d1, d2] }
  | _ => none }
def FnFeedHeadSelfWrongFalsely : Prop := fnFeedHeadSelfRow.holds Try.pinned (OpenSpec.ofChange fnFeedHeadSelfWrong)

/-- 'laws.FnExactFeedNew': WHATEVER THE INPUT: true; the input reads as it did. -/
def fnExactFeedNewSpec : ChangeSpec := { name := "fnExactFeedNew", fn := fun _ => fun
  | [d] => { results := [.lit (.bool true)], args := [d] }
  | _ => none }
def fnExactFeedNewRow : OpenClaim := { program := "ytgpmodidpdjhkaa", sum := "2fa598275d60fb4c9d3f5423cf07a47aa87b16ed4afd1fadc4d9b6c47ae009d0", func := "loop.example/feedswarm/laws.FnExactFeedNew", spec := "fnExactFeedNew", apart := false }
def FnExactFeedNewSaid : Prop := fnExactFeedNewRow.holds Try.pinned (OpenSpec.ofChange fnExactFeedNewSpec)

/-- ITS FALSE NEIGHBOUR: 'it returns false'. Refute it at one input. -/
def fnExactFeedNewWrong : ChangeSpec := { name := "fnExactFeedNew", fn := fun _ => fun
  | [d] => { results := [.lit (.bool false)], args := [d] }
  | _ => none }
def FnExactFeedNewWrongFalsely : Prop := fnExactFeedNewRow.holds Try.pinned (OpenSpec.ofChange fnExactFeedNewWrong)

/-- 'laws.FnExactFeedValid': WHATEVER THE INPUT: true; the input reads as it did. -/
def fnExactFeedValidSpec : ChangeSpec := { name := "fnExactFeedValid", fn := fun _ => fun
  | [d] => { results := [.lit (.bool true)], args := [d] }
  | _ => none }
def fnExactFeedValidRow : OpenClaim := { program := "ytgpmodidpdjhkaa", sum := "2fa598275d60fb4c9d3f5423cf07a47aa87b16ed4afd1fadc4d9b6c47ae009d0", func := "loop.example/feedswarm/laws.FnExactFeedValid", spec := "fnExactFeedValid", recurses := true, apart := false }
def FnExactFeedValidSaid : Prop := fnExactFeedValidRow.holds Try.pinned (OpenSpec.ofChange fnExactFeedValidSpec)

/-- ITS FALSE NEIGHBOUR: 'it returns false'. Refute it at one input. -/
def fnExactFeedValidWrong : ChangeSpec := { name := "fnExactFeedValid", fn := fun _ => fun
  | [d] => { results := [.lit (.bool false)], args := [d] }
  | _ => none }
def FnExactFeedValidWrongFalsely : Prop := fnExactFeedValidRow.holds Try.pinned (OpenSpec.ofChange fnExactFeedValidWrong)

/-- 'laws.FnExactFeedProve': WHATEVER THE INPUT: true; the input reads as it did. -/
def fnExactFeedProveSpec : ChangeSpec := { name := "fnExactFeedProve", fn := fun _ => fun
  | [d1, d2] => { results := [.lit (.bool true)], args := [d1, d2] }
  | _ => none }
def fnExactFeedProveRow : OpenClaim := { program := "ytgpmodidpdjhkaa", sum := "2fa598275d60fb4c9d3f5423cf07a47aa87b16ed4afd1fadc4d9b6c47ae009d0", func := "loop.example/feedswarm/laws.FnExactFeedProve", spec := "fnExactFeedProve", recurses := true, apart := false }
def FnExactFeedProveSaid : Prop := fnExactFeedProveRow.holds Try.pinned (OpenSpec.ofChange fnExactFeedProveSpec)

/-- ITS FALSE NEIGHBOUR: 'it returns false'. Refute it at one input. -/
def fnExactFeedProveWrong : ChangeSpec := { name := "fnExactFeedProve", fn := fun _ => fun
  | [d1, d2] => { results := [.lit (.bool false)], args := [d1, d2] }
  | _ => none }
def FnExactFeedProveWrongFalsely : Prop := fnExactFeedProveRow.holds Try.pinned (OpenSpec.ofChange fnExactFeedProveWrong)

/- THE SECOND FORM. 'bulk': how many values and letters a reading holds, each counted each time it is reached (what is shared counts as often as it is met; a slice's spare places count too). A statement '..UptoSaid' is the law's where the arguments, and the package variables that the reading takes, are together of bulk at most 1048576: NARROWER than '..Said'. Prove '..Said' where nothing that the law and all that it calls make is longer than what came in: it says more and counts as full. Else prove '..UptoSaid'. A law counts once. -/
mutual
def uptoBulk {H : Type} : DataW H → Nat
  | .lit (.string bytes) => bytes.length + 1
  | .lit _ => 1
  | .nil => 1
  | .ptr d => uptoBulk d + 1
  | .slice elems spare => uptoBulkAll elems + uptoBulkAll spare + 1
  | .agg parts => uptoBulkAll parts + 1
  | .iface _ d => uptoBulk d + 1
  | .map entries => uptoBulkEntries entries + 1
  | .held _ => 1
def uptoBulkAll {H : Type} : List (DataW H) → Nat
  | [] => 0
  | d :: r => uptoBulk d + uptoBulkAll r
def uptoBulkEntries {H : Type} : List (Lit × DataW H) → Nat
  | [] => 0
  | x :: r => uptoBulkEntry x + uptoBulkEntries r
def uptoBulkEntry {H : Type} : Lit × DataW H → Nat
  | (.string bytes, d) => bytes.length + uptoBulk d + 1
  | (_, d) => uptoBulk d + 1
 end
def uptoSmall : (H : Type) → List (DataW H) → Bool := fun _ ds => decide (uptoBulkAll ds ≤ 1048576)
def OpenSpec.upto (s : _root_.Go.ChangeSpec) : _root_.Go.OpenSpec := { _root_.Go.OpenSpec.ofChange s with cond := some uptoSmall }

/-- 'laws.FnFeedNew', WHERE WHAT IT READS IS OF BULK AT MOST 1048576: true; the input reads as it did. -/
def fnFeedNewUptoRow : OpenClaim := { program := "ytgpmodidpdjhkaa", sum := "2fa598275d60fb4c9d3f5423cf07a47aa87b16ed4afd1fadc4d9b6c47ae009d0", func := "loop.example/feedswarm/laws.FnFeedNew", spec := "fnFeedNew", recurses := true, apart := false, narrowed := true }
def FnFeedNewUptoSaid : Prop := fnFeedNewUptoRow.holds Try.pinned (OpenSpec.upto fnFeedNewSpec)

/-- 'laws.FnFeedValidWhole', WHERE WHAT IT READS IS OF BULK AT MOST 1048576: true; the input reads as it did. -/
def fnFeedValidWholeUptoRow : OpenClaim := { program := "ytgpmodidpdjhkaa", sum := "2fa598275d60fb4c9d3f5423cf07a47aa87b16ed4afd1fadc4d9b6c47ae009d0", func := "loop.example/feedswarm/laws.FnFeedValidWhole", spec := "fnFeedValidWhole", unfollowed := true, recurses := true, apart := false, narrowed := true }
def FnFeedValidWholeUptoSaid : Prop := fnFeedValidWholeUptoRow.holds Try.pinned (OpenSpec.upto fnFeedValidWholeSpec)

/-- 'laws.FnFeedPart', WHERE WHAT IT READS IS OF BULK AT MOST 1048576: true; the input reads as it did. -/
def fnFeedPartUptoRow : OpenClaim := { program := "ytgpmodidpdjhkaa", sum := "2fa598275d60fb4c9d3f5423cf07a47aa87b16ed4afd1fadc4d9b6c47ae009d0", func := "loop.example/feedswarm/laws.FnFeedPart", spec := "fnFeedPart", recurses := true, apart := false, narrowed := true }
def FnFeedPartUptoSaid : Prop := fnFeedPartUptoRow.holds Try.pinned (OpenSpec.upto fnFeedPartSpec)

/-- 'laws.FnFeedHeadSelf', WHERE WHAT IT READS IS OF BULK AT MOST 1048576: true; the input reads as it did. -/
def fnFeedHeadSelfUptoRow : OpenClaim := { program := "ytgpmodidpdjhkaa", sum := "2fa598275d60fb4c9d3f5423cf07a47aa87b16ed4afd1fadc4d9b6c47ae009d0", func := "loop.example/feedswarm/laws.FnFeedHeadSelf", spec := "fnFeedHeadSelf", recurses := true, apart := false, narrowed := true }
def FnFeedHeadSelfUptoSaid : Prop := fnFeedHeadSelfUptoRow.holds Try.pinned (OpenSpec.upto fnFeedHeadSelfSpec)

/-- 'laws.FnExactFeedNew', WHERE WHAT IT READS IS OF BULK AT MOST 1048576: true; the input reads as it did. -/
def fnExactFeedNewUptoRow : OpenClaim := { program := "ytgpmodidpdjhkaa", sum := "2fa598275d60fb4c9d3f5423cf07a47aa87b16ed4afd1fadc4d9b6c47ae009d0", func := "loop.example/feedswarm/laws.FnExactFeedNew", spec := "fnExactFeedNew", apart := false, narrowed := true }
def FnExactFeedNewUptoSaid : Prop := fnExactFeedNewUptoRow.holds Try.pinned (OpenSpec.upto fnExactFeedNewSpec)

/-- 'laws.FnExactFeedValid', WHERE WHAT IT READS IS OF BULK AT MOST 1048576: true; the input reads as it did. -/
def fnExactFeedValidUptoRow : OpenClaim := { program := "ytgpmodidpdjhkaa", sum := "2fa598275d60fb4c9d3f5423cf07a47aa87b16ed4afd1fadc4d9b6c47ae009d0", func := "loop.example/feedswarm/laws.FnExactFeedValid", spec := "fnExactFeedValid", recurses := true, apart := false, narrowed := true }
def FnExactFeedValidUptoSaid : Prop := fnExactFeedValidUptoRow.holds Try.pinned (OpenSpec.upto fnExactFeedValidSpec)

/-- 'laws.FnExactFeedProve', WHERE WHAT IT READS IS OF BULK AT MOST 1048576: true; the input reads as it did. -/
def fnExactFeedProveUptoRow : OpenClaim := { program := "ytgpmodidpdjhkaa", sum := "2fa598275d60fb4c9d3f5423cf07a47aa87b16ed4afd1fadc4d9b6c47ae009d0", func := "loop.example/feedswarm/laws.FnExactFeedProve", spec := "fnExactFeedProve", recurses := true, apart := false, narrowed := true }
def FnExactFeedProveUptoSaid : Prop := fnExactFeedProveUptoRow.holds Try.pinned (OpenSpec.upto fnExactFeedProveSpec)

end Rows
end Go.Proofs.Ytgpmodidpdjhkaa
