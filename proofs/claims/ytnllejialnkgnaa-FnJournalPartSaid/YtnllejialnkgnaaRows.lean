/-
  No cell of these rows narrows 'for every input' (looked for: loops, veiled, ifaces, maps, wideKeys, modest, calm, conditions, laid).
  DERIVED. THE GIVEN ROWS OF THIS SEAT. 5 by the template 'for every input the law returns true; each argument reads behind the call as it read before'; 0 by the template 'total and deterministic' (their statements: YtnllejialnkgnaaTotals.lean).
  GIVEN WITH THE SEED: the statements are not yours to turn. If you find one false, say at which input.
  Laid BY PROGRAM, IN A SANDBOX (cutbox-rows.mjs): the forced cells as the released guide's own fill.sh prints them over the translation d1d0c4b52055eca1… (all of the seat's roots in one cut). By AI agents, Wed Nov 11 2026. No macro, syntax, notation, axiom, sorry.
-/
import Derived.Test.YtnllejialnkgnaaChecked
import GoSem.Claim
import GoSem.ClaimJoined
import GoSem.ClaimMapViews
import Derived.JoinedTies
import Derived.KernelRfl
namespace Go.Proofs.Ytnllejialnkgnaa
/- THE CELL 'sum', in the pinned program and in every row, IS THE sha256 OF THE DUMP (.gsa) THAT YtnllejialnkgnaaProg.lean LOADS. Nothing in Lean hashes anything: it is a label: what it is worth is what the hold of that sum in a sandbox is worth. -/
noncomputable def Try.pinned : Pinned := { name := "ytnllejialnkgnaa", sum := "d1d0c4b52055eca1c797914ee9f7ec61f04c4247587969b109d2952b4eaad320", checked := Try.checked }
namespace Rows
def none {H : Type} : Left H := { results := [], args := [] }

/-- 'laws.FnJournalBlocks': WHATEVER THE INPUT: true; the input reads as it did. -/
def fnJournalBlocksSpec : ChangeSpec := { name := "fnJournalBlocks", fn := fun _ => fun
  | [d] => { results := [.lit (.bool true)], args := [d] }
  | _ => none }
def fnJournalBlocksRow : OpenClaim := { program := "ytnllejialnkgnaa", sum := "d1d0c4b52055eca1c797914ee9f7ec61f04c4247587969b109d2952b4eaad320", func := "loop.example/feedswarm/laws.FnJournalBlocks", spec := "fnJournalBlocks", unfollowed := true, recurses := true, apart := false }
def FnJournalBlocksSaid : Prop := fnJournalBlocksRow.holds Try.pinned (OpenSpec.ofChange fnJournalBlocksSpec)

/-- ITS FALSE NEIGHBOUR: 'it returns false'. Refute it at one input. -/
def fnJournalBlocksWrong : ChangeSpec := { name := "fnJournalBlocks", fn := fun _ => fun
  | [d] => { results := [.lit (.bool false)], args := [d] }
  | _ => none }
def FnJournalBlocksWrongFalsely : Prop := fnJournalBlocksRow.holds Try.pinned (OpenSpec.ofChange fnJournalBlocksWrong)

/-- 'laws.FnJournalBlocksAdd': WHATEVER THE INPUT: true; the input reads as it did. -/
def fnJournalBlocksAddSpec : ChangeSpec := { name := "fnJournalBlocksAdd", fn := fun _ => fun
  | [d1, d2] => { results := [.lit (.bool true)], args := [d1, d2] }
  | _ => none }
def fnJournalBlocksAddRow : OpenClaim := { program := "ytnllejialnkgnaa", sum := "d1d0c4b52055eca1c797914ee9f7ec61f04c4247587969b109d2952b4eaad320", func := "loop.example/feedswarm/laws.FnJournalBlocksAdd", spec := "fnJournalBlocksAdd", unfollowed := true, recurses := true, apart := false }
def FnJournalBlocksAddSaid : Prop := fnJournalBlocksAddRow.holds Try.pinned (OpenSpec.ofChange fnJournalBlocksAddSpec)

/-- ITS FALSE NEIGHBOUR: 'it returns false'. Refute it at one input. -/
def fnJournalBlocksAddWrong : ChangeSpec := { name := "fnJournalBlocksAdd", fn := fun _ => fun
  | [d1, d2] => { results := [.lit (.bool false)], args := [d1, d2] }
  | _ => none }
def FnJournalBlocksAddWrongFalsely : Prop := fnJournalBlocksAddRow.holds Try.pinned (OpenSpec.ofChange fnJournalBlocksAddWrong)

/-- 'laws.FnJournalBlocksKept': WHATEVER THE INPUT: true; the input reads as it did. -/
def fnJournalBlocksKeptSpec : ChangeSpec := { name := "fnJournalBlocksKept", fn := fun _ => fun
  | [d1, d2] => { results := [.lit (.bool true)], args := [d1, d2] }
  | _ => none }
def fnJournalBlocksKeptRow : OpenClaim := { program := "ytnllejialnkgnaa", sum := "d1d0c4b52055eca1c797914ee9f7ec61f04c4247587969b109d2952b4eaad320", func := "loop.example/feedswarm/laws.FnJournalBlocksKept", spec := "fnJournalBlocksKept", unfollowed := true, recurses := true, apart := false }
def FnJournalBlocksKeptSaid : Prop := fnJournalBlocksKeptRow.holds Try.pinned (OpenSpec.ofChange fnJournalBlocksKeptSpec)

/-- ITS FALSE NEIGHBOUR: 'it returns false'. Refute it at one input. -/
def fnJournalBlocksKeptWrong : ChangeSpec := { name := "fnJournalBlocksKept", fn := fun _ => fun
  | [d1, d2] => { results := [.lit (.bool false)], args := [d1, d2] }
  | _ => none }
def FnJournalBlocksKeptWrongFalsely : Prop := fnJournalBlocksKeptRow.holds Try.pinned (OpenSpec.ofChange fnJournalBlocksKeptWrong)

/-- 'laws.FnJournalPart': WHATEVER THE INPUT: true; the input reads as it did. -/
def fnJournalPartSpec : ChangeSpec := { name := "fnJournalPart", fn := fun _ => fun
  | [d1, d2] => { results := [.lit (.bool true)], args := [d1, d2] }
  | _ => none }
def fnJournalPartRow : OpenClaim := { program := "ytnllejialnkgnaa", sum := "d1d0c4b52055eca1c797914ee9f7ec61f04c4247587969b109d2952b4eaad320", func := "loop.example/feedswarm/laws.FnJournalPart", spec := "fnJournalPart", unfollowed := true, recurses := true, apart := false }
def FnJournalPartSaid : Prop := fnJournalPartRow.holds Try.pinned (OpenSpec.ofChange fnJournalPartSpec)

/-- ITS FALSE NEIGHBOUR: 'it returns false'. Refute it at one input. -/
def fnJournalPartWrong : ChangeSpec := { name := "fnJournalPart", fn := fun _ => fun
  | [d1, d2] => { results := [.lit (.bool false)], args := [d1, d2] }
  | _ => none }
def FnJournalPartWrongFalsely : Prop := fnJournalPartRow.holds Try.pinned (OpenSpec.ofChange fnJournalPartWrong)

/-- 'laws.FnExactJournalBlocks': WHATEVER THE INPUT: true; the input reads as it did. -/
def fnExactJournalBlocksSpec : ChangeSpec := { name := "fnExactJournalBlocks", fn := fun _ => fun
  | [d1, d2] => { results := [.lit (.bool true)], args := [d1, d2] }
  | _ => none }
def fnExactJournalBlocksRow : OpenClaim := { program := "ytnllejialnkgnaa", sum := "d1d0c4b52055eca1c797914ee9f7ec61f04c4247587969b109d2952b4eaad320", func := "loop.example/feedswarm/laws.FnExactJournalBlocks", spec := "fnExactJournalBlocks", unfollowed := true, recurses := true, apart := false }
def FnExactJournalBlocksSaid : Prop := fnExactJournalBlocksRow.holds Try.pinned (OpenSpec.ofChange fnExactJournalBlocksSpec)

/-- ITS FALSE NEIGHBOUR: 'it returns false'. Refute it at one input. -/
def fnExactJournalBlocksWrong : ChangeSpec := { name := "fnExactJournalBlocks", fn := fun _ => fun
  | [d1, d2] => { results := [.lit (.bool false)], args := [d1, d2] }
  | _ => none }
def FnExactJournalBlocksWrongFalsely : Prop := fnExactJournalBlocksRow.holds Try.pinned (OpenSpec.ofChange fnExactJournalBlocksWrong)

/- THE SECOND FORM. 'bulk': how many values and letters a reading holds, each counted each time it is reached (what is shared counts as often as it is met; a slice's spare places count too). A statement '..UptoSaid' is the law's where the arguments, and the package variables that the reading takes, are together of bulk at most 1048576: NARROWER than '..Said'. Prove '..Said' where nothing that the law and all that it calls make is longer than what came in: it says more and counts as full. Else prove '..UptoSaid'. A law counts once. -/
mutual
def uptoBulk {H : Type} : DataW H → Nat
  | .lit (.string bytes) => bytes.length + 1
  | .lit _ => 1
  | .nil => 1
  | .ptr d => uptoBulk d + 1
  | .slice elems spare => uptoBulkAll elems + uptoBulkAll spare + 1
  | .agg parts => uptoBulkAll parts + 1
  | .iface _ d => uptoBulk d + 1
  | .map entries => uptoBulkEntries entries + 1
  | .held _ => 1
def uptoBulkAll {H : Type} : List (DataW H) → Nat
  | [] => 0
  | d :: r => uptoBulk d + uptoBulkAll r
def uptoBulkEntries {H : Type} : List (Lit × DataW H) → Nat
  | [] => 0
  | x :: r => uptoBulkEntry x + uptoBulkEntries r
def uptoBulkEntry {H : Type} : Lit × DataW H → Nat
  | (.string bytes, d) => bytes.length + uptoBulk d + 1
  | (_, d) => uptoBulk d + 1
 end
def uptoSmall : (H : Type) → List (DataW H) → Bool := fun _ ds => decide (uptoBulkAll ds ≤ 1048576)
def OpenSpec.upto (s : _root_.Go.ChangeSpec) : _root_.Go.OpenSpec := { _root_.Go.OpenSpec.ofChange s with cond := some uptoSmall }

/-- 'laws.FnJournalBlocks', WHERE WHAT IT READS IS OF BULK AT MOST 1048576: true; the input reads as it did. -/
def fnJournalBlocksUptoRow : OpenClaim := { program := "ytnllejialnkgnaa", sum := "d1d0c4b52055eca1c797914ee9f7ec61f04c4247587969b109d2952b4eaad320", func := "loop.example/feedswarm/laws.FnJournalBlocks", spec := "fnJournalBlocks", unfollowed := true, recurses := true, apart := false, narrowed := true }
def FnJournalBlocksUptoSaid : Prop := fnJournalBlocksUptoRow.holds Try.pinned (OpenSpec.upto fnJournalBlocksSpec)

/-- 'laws.FnJournalBlocksAdd', WHERE WHAT IT READS IS OF BULK AT MOST 1048576: true; the input reads as it did. -/
def fnJournalBlocksAddUptoRow : OpenClaim := { program := "ytnllejialnkgnaa", sum := "d1d0c4b52055eca1c797914ee9f7ec61f04c4247587969b109d2952b4eaad320", func := "loop.example/feedswarm/laws.FnJournalBlocksAdd", spec := "fnJournalBlocksAdd", unfollowed := true, recurses := true, apart := false, narrowed := true }
def FnJournalBlocksAddUptoSaid : Prop := fnJournalBlocksAddUptoRow.holds Try.pinned (OpenSpec.upto fnJournalBlocksAddSpec)

/-- 'laws.FnJournalBlocksKept', WHERE WHAT IT READS IS OF BULK AT MOST 1048576: true; the input reads as it did. -/
def fnJournalBlocksKeptUptoRow : OpenClaim := { program := "ytnllejialnkgnaa", sum := "d1d0c4b52055eca1c797914ee9f7ec61f04c4247587969b109d2952b4eaad320", func := "loop.example/feedswarm/laws.FnJournalBlocksKept", spec := "fnJournalBlocksKept", unfollowed := true, recurses := true, apart := false, narrowed := true }
def FnJournalBlocksKeptUptoSaid : Prop := fnJournalBlocksKeptUptoRow.holds Try.pinned (OpenSpec.upto fnJournalBlocksKeptSpec)

/-- 'laws.FnJournalPart', WHERE WHAT IT READS IS OF BULK AT MOST 1048576: true; the input reads as it did. -/
def fnJournalPartUptoRow : OpenClaim := { program := "ytnllejialnkgnaa", sum := "d1d0c4b52055eca1c797914ee9f7ec61f04c4247587969b109d2952b4eaad320", func := "loop.example/feedswarm/laws.FnJournalPart", spec := "fnJournalPart", unfollowed := true, recurses := true, apart := false, narrowed := true }
def FnJournalPartUptoSaid : Prop := fnJournalPartUptoRow.holds Try.pinned (OpenSpec.upto fnJournalPartSpec)

/-- 'laws.FnExactJournalBlocks', WHERE WHAT IT READS IS OF BULK AT MOST 1048576: true; the input reads as it did. -/
def fnExactJournalBlocksUptoRow : OpenClaim := { program := "ytnllejialnkgnaa", sum := "d1d0c4b52055eca1c797914ee9f7ec61f04c4247587969b109d2952b4eaad320", func := "loop.example/feedswarm/laws.FnExactJournalBlocks", spec := "fnExactJournalBlocks", unfollowed := true, recurses := true, apart := false, narrowed := true }
def FnExactJournalBlocksUptoSaid : Prop := fnExactJournalBlocksUptoRow.holds Try.pinned (OpenSpec.upto fnExactJournalBlocksSpec)

end Rows
end Go.Proofs.Ytnllejialnkgnaa
