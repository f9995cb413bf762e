/-
  No cell of these rows narrows 'for every input' (looked for: loops, veiled, ifaces, maps, wideKeys, modest, calm, conditions, laid).
  DERIVED. THE GIVEN ROWS OF THIS SEAT. 5 by the template 'for every input the law returns true; each argument reads behind the call as it read before'; 0 by the template 'total and deterministic' (their statements: YtmddfjfflgfdlaaTotals.lean).
  GIVEN WITH THE SEED: the statements are not yours to turn. If you find one false, say at which input.
  Laid BY PROGRAM, IN A SANDBOX (cutbox-rows.mjs): the forced cells as the released guide's own fill.sh prints them over the translation ce6dd3d66903649b… (all of the seat's roots in one cut). By AI agents, Wed Nov 11 2026. No macro, syntax, notation, axiom, sorry.
-/
import Derived.Test.YtmddfjfflgfdlaaChecked
import GoSem.Claim
import GoSem.ClaimJoined
import GoSem.ClaimMapViews
import Derived.JoinedTies
import Derived.KernelRfl
namespace Go.Proofs.Ytmddfjfflgfdlaa
/- THE CELL 'sum', in the pinned program and in every row, IS THE sha256 OF THE DUMP (.gsa) THAT YtmddfjfflgfdlaaProg.lean LOADS. Nothing in Lean hashes anything: it is a label: what it is worth is what the hold of that sum in a sandbox is worth. -/
noncomputable def Try.pinned : Pinned := { name := "ytmddfjfflgfdlaa", sum := "ce6dd3d66903649b7122e38bb0a0ed52d45b03137c1756c5d20fa7e2336eb91a", checked := Try.checked }
namespace Rows
def none {H : Type} : Left H := { results := [], args := [] }

/-- 'laws.FnExactJournalValid': WHATEVER THE INPUT: true; the input reads as it did. -/
def fnExactJournalValidSpec : ChangeSpec := { name := "fnExactJournalValid", fn := fun _ => fun
  | [d] => { results := [.lit (.bool true)], args := [d] }
  | _ => none }
def fnExactJournalValidRow : OpenClaim := { program := "ytmddfjfflgfdlaa", sum := "ce6dd3d66903649b7122e38bb0a0ed52d45b03137c1756c5d20fa7e2336eb91a", func := "loop.example/feedswarm/laws.FnExactJournalValid", spec := "fnExactJournalValid", unfollowed := true, recurses := true, apart := false }
def FnExactJournalValidSaid : Prop := fnExactJournalValidRow.holds Try.pinned (OpenSpec.ofChange fnExactJournalValidSpec)

/-- ITS FALSE NEIGHBOUR: 'it returns false'. Refute it at one input. -/
def fnExactJournalValidWrong : ChangeSpec := { name := "fnExactJournalValid", fn := fun _ => fun
  | [d] => { results := [.lit (.bool false)], args := [d] }
  | _ => none }
def FnExactJournalValidWrongFalsely : Prop := fnExactJournalValidRow.holds Try.pinned (OpenSpec.ofChange fnExactJournalValidWrong)

/-- 'laws.FnExactJournalAdd': WHATEVER THE INPUT: true; the input reads as it did. -/
def fnExactJournalAddSpec : ChangeSpec := { name := "fnExactJournalAdd", fn := fun _ => fun
  | [d1, d2] => { results := [.lit (.bool true)], args := [d1, d2] }
  | _ => none }
def fnExactJournalAddRow : OpenClaim := { program := "ytmddfjfflgfdlaa", sum := "ce6dd3d66903649b7122e38bb0a0ed52d45b03137c1756c5d20fa7e2336eb91a", func := "loop.example/feedswarm/laws.FnExactJournalAdd", spec := "fnExactJournalAdd", unfollowed := true, recurses := true, apart := false }
def FnExactJournalAddSaid : Prop := fnExactJournalAddRow.holds Try.pinned (OpenSpec.ofChange fnExactJournalAddSpec)

/-- ITS FALSE NEIGHBOUR: 'it returns false'. Refute it at one input. -/
def fnExactJournalAddWrong : ChangeSpec := { name := "fnExactJournalAdd", fn := fun _ => fun
  | [d1, d2] => { results := [.lit (.bool false)], args := [d1, d2] }
  | _ => none }
def FnExactJournalAddWrongFalsely : Prop := fnExactJournalAddRow.holds Try.pinned (OpenSpec.ofChange fnExactJournalAddWrong)

/-- 'laws.FnExactJournalSync': WHATEVER THE INPUT: true; the input reads as it did. -/
def fnExactJournalSyncSpec : ChangeSpec := { name := "fnExactJournalSync", fn := fun _ => fun
  | [d] => { results := [.lit (.bool true)], args := [d] }
  | _ => none }
def fnExactJournalSyncRow : OpenClaim := { program := "ytmddfjfflgfdlaa", sum := "ce6dd3d66903649b7122e38bb0a0ed52d45b03137c1756c5d20fa7e2336eb91a", func := "loop.example/feedswarm/laws.FnExactJournalSync", spec := "fnExactJournalSync", unfollowed := true, recurses := true, apart := false }
def FnExactJournalSyncSaid : Prop := fnExactJournalSyncRow.holds Try.pinned (OpenSpec.ofChange fnExactJournalSyncSpec)

/-- ITS FALSE NEIGHBOUR: 'it returns false'. Refute it at one input. -/
def fnExactJournalSyncWrong : ChangeSpec := { name := "fnExactJournalSync", fn := fun _ => fun
  | [d] => { results := [.lit (.bool false)], args := [d] }
  | _ => none }
def FnExactJournalSyncWrongFalsely : Prop := fnExactJournalSyncRow.holds Try.pinned (OpenSpec.ofChange fnExactJournalSyncWrong)

/-- 'laws.FnExactJournalCrash': WHATEVER THE INPUT: true; the input reads as it did. -/
def fnExactJournalCrashSpec : ChangeSpec := { name := "fnExactJournalCrash", fn := fun _ => fun
  | [d1, d2] => { results := [.lit (.bool true)], args := [d1, d2] }
  | _ => none }
def fnExactJournalCrashRow : OpenClaim := { program := "ytmddfjfflgfdlaa", sum := "ce6dd3d66903649b7122e38bb0a0ed52d45b03137c1756c5d20fa7e2336eb91a", func := "loop.example/feedswarm/laws.FnExactJournalCrash", spec := "fnExactJournalCrash", unfollowed := true, recurses := true, apart := false }
def FnExactJournalCrashSaid : Prop := fnExactJournalCrashRow.holds Try.pinned (OpenSpec.ofChange fnExactJournalCrashSpec)

/-- ITS FALSE NEIGHBOUR: 'it returns false'. Refute it at one input. -/
def fnExactJournalCrashWrong : ChangeSpec := { name := "fnExactJournalCrash", fn := fun _ => fun
  | [d1, d2] => { results := [.lit (.bool false)], args := [d1, d2] }
  | _ => none }
def FnExactJournalCrashWrongFalsely : Prop := fnExactJournalCrashRow.holds Try.pinned (OpenSpec.ofChange fnExactJournalCrashWrong)

/-- 'laws.FnExactJournalBlocks': WHATEVER THE INPUT: true; the input reads as it did. -/
def fnExactJournalBlocksSpec : ChangeSpec := { name := "fnExactJournalBlocks", fn := fun _ => fun
  | [d1, d2] => { results := [.lit (.bool true)], args := [d1, d2] }
  | _ => none }
def fnExactJournalBlocksRow : OpenClaim := { program := "ytmddfjfflgfdlaa", sum := "ce6dd3d66903649b7122e38bb0a0ed52d45b03137c1756c5d20fa7e2336eb91a", func := "loop.example/feedswarm/laws.FnExactJournalBlocks", spec := "fnExactJournalBlocks", unfollowed := true, recurses := true, apart := false }
def FnExactJournalBlocksSaid : Prop := fnExactJournalBlocksRow.holds Try.pinned (OpenSpec.ofChange fnExactJournalBlocksSpec)

/-- ITS FALSE NEIGHBOUR: 'it returns false'. Refute it at one input. -/
def fnExactJournalBlocksWrong : ChangeSpec := { name := "fnExactJournalBlocks", fn := fun _ => fun
  | [d1, d2] => { results := [.lit (.bool false)], args := [d1, d2] }
  | _ => none }
def FnExactJournalBlocksWrongFalsely : Prop := fnExactJournalBlocksRow.holds Try.pinned (OpenSpec.ofChange fnExactJournalBlocksWrong)

/- THE SECOND FORM. 'bulk': how many values and letters a reading holds, each counted each time it is reached (what is shared counts as often as it is met; a slice's spare places count too). A statement '..UptoSaid' is the law's where the arguments, and the package variables that the reading takes, are together of bulk at most 1048576: NARROWER than '..Said'. Prove '..Said' where nothing that the law and all that it calls make is longer than what came in: it says more and counts as full. Else prove '..UptoSaid'. A law counts once. -/
mutual
def uptoBulk {H : Type} : DataW H → Nat
  | .lit (.string bytes) => bytes.length + 1
  | .lit _ => 1
  | .nil => 1
  | .ptr d => uptoBulk d + 1
  | .slice elems spare => uptoBulkAll elems + uptoBulkAll spare + 1
  | .agg parts => uptoBulkAll parts + 1
  | .iface _ d => uptoBulk d + 1
  | .map entries => uptoBulkEntries entries + 1
  | .held _ => 1
def uptoBulkAll {H : Type} : List (DataW H) → Nat
  | [] => 0
  | d :: r => uptoBulk d + uptoBulkAll r
def uptoBulkEntries {H : Type} : List (Lit × DataW H) → Nat
  | [] => 0
  | x :: r => uptoBulkEntry x + uptoBulkEntries r
def uptoBulkEntry {H : Type} : Lit × DataW H → Nat
  | (.string bytes, d) => bytes.length + uptoBulk d + 1
  | (_, d) => uptoBulk d + 1
 end
def uptoSmall : (H : Type) → List (DataW H) → Bool := fun _ ds => decide (uptoBulkAll ds ≤ 1048576)
def OpenSpec.upto (s : _root_.Go.ChangeSpec) : _root_.Go.OpenSpec := { _root_.Go.OpenSpec.ofChange s with cond := some uptoSmall }

/-- 'laws.FnExactJournalValid', WHERE WHAT IT READS IS OF BULK AT MOST 1048576: true; the input reads as it did. -/
def fnExactJournalValidUptoRow : OpenClaim := { program := "ytmddfjfflgfdlaa", sum := "ce6dd3d66903649b7122e38bb0a0ed52d45b03137c1756c5d20fa7e2336eb91a", func := "loop.example/feedswarm/laws.FnExactJournalValid", spec := "fnExactJournalValid", unfollowed := true, recurses := true, apart := false, narrowed := true }
def FnExactJournalValidUptoSaid : Prop := fnExactJournalValidUptoRow.holds Try.pinned (OpenSpec.upto fnExactJournalValidSpec)

/-- 'laws.FnExactJournalAdd', WHERE WHAT IT READS IS OF BULK AT MOST 1048576: true; the input reads as it did. -/
def fnExactJournalAddUptoRow : OpenClaim := { program := "ytmddfjfflgfdlaa", sum := "ce6dd3d66903649b7122e38bb0a0ed52d45b03137c1756c5d20fa7e2336eb91a", func := "loop.example/feedswarm/laws.FnExactJournalAdd", spec := "fnExactJournalAdd", unfollowed := true, recurses := true, apart := false, narrowed := true }
def FnExactJournalAddUptoSaid : Prop := fnExactJournalAddUptoRow.holds Try.pinned (OpenSpec.upto fnExactJournalAddSpec)

/-- 'laws.FnExactJournalSync', WHERE WHAT IT READS IS OF BULK AT MOST 1048576: true; the input reads as it did. -/
def fnExactJournalSyncUptoRow : OpenClaim := { program := "ytmddfjfflgfdlaa", sum := "ce6dd3d66903649b7122e38bb0a0ed52d45b03137c1756c5d20fa7e2336eb91a", func := "loop.example/feedswarm/laws.FnExactJournalSync", spec := "fnExactJournalSync", unfollowed := true, recurses := true, apart := false, narrowed := true }
def FnExactJournalSyncUptoSaid : Prop := fnExactJournalSyncUptoRow.holds Try.pinned (OpenSpec.upto fnExactJournalSyncSpec)

/-- 'laws.FnExactJournalCrash', WHERE WHAT IT READS IS OF BULK AT MOST 1048576: true; the input reads as it did. -/
def fnExactJournalCrashUptoRow : OpenClaim := { program := "ytmddfjfflgfdlaa", sum := "ce6dd3d66903649b7122e38bb0a0ed52d45b03137c1756c5d20fa7e2336eb91a", func := "loop.example/feedswarm/laws.FnExactJournalCrash", spec := "fnExactJournalCrash", unfollowed := true, recurses := true, apart := false, narrowed := true }
def FnExactJournalCrashUptoSaid : Prop := fnExactJournalCrashUptoRow.holds Try.pinned (OpenSpec.upto fnExactJournalCrashSpec)

/-- 'laws.FnExactJournalBlocks', WHERE WHAT IT READS IS OF BULK AT MOST 1048576: true; the input reads as it did. -/
def fnExactJournalBlocksUptoRow : OpenClaim := { program := "ytmddfjfflgfdlaa", sum := "ce6dd3d66903649b7122e38bb0a0ed52d45b03137c1756c5d20fa7e2336eb91a", func := "loop.example/feedswarm/laws.FnExactJournalBlocks", spec := "fnExactJournalBlocks", unfollowed := true, recurses := true, apart := false, narrowed := true }
def FnExactJournalBlocksUptoSaid : Prop := fnExactJournalBlocksUptoRow.holds Try.pinned (OpenSpec.upto fnExactJournalBlocksSpec)

end Rows
end Go.Proofs.Ytmddfjfflgfdlaa
